/-
  CONTRACT of slices.IndexFunc at states: the first place at which a predicate holds, or -1; what lay in memory stays. Condition: at most 1048576 of them; the predicate answers p and leaves memory as it is.
  CONTRACT of slices.DeleteFunc at states: the row without those of which a predicate holds, in place; what lay elsewhere stays. Condition: the row may be written, at most 1000 of them; the predicate answers p and leaves memory as it is.
-/
import Derived.Test.YtcoaggnilgfjfaaIdxI
import Derived.Test.YtcoaggnilgfjfaaStI
import Derived.Test.YtcoaggnilgfjfaaTMath
import Derived.IntWalk
namespace Go.Proofs.Ytcoaggnilgfjfaa
open Go.RowKit
namespace C
set_option maxHeartbeats 1600000
set_option maxRecDepth 20000
def PredSOk (g : Nat) (lb : Array Value) (p : M.St → Bool) (S : M.St → Prop) (w : World) : Prop :=
  ∀ W x, S x → Below w.heap.size w W → Calls Try.prog g (#[.agg #[.int .i64 x.1, .int .i64 x.2]] ++ lb) W fun e w' => e = .returned (.bool (p x)) ∧ Below W.heap.size W w'
theorem indexS_any (g : Nat) (lb : Array Value) (p : M.St → Bool) (S : M.St → Prop) (eg : ∀ args w, (callFunc g args).run Try.prog w = .ok (.enter g args) w) (w : World) (lo hi : Nat) (a : Option Addr) (c : Nat) (l : List M.St)
    (hp : PredSOk g lb p S w) (hS : ∀ x ∈ l, S x) (h : RowIn lo hi w a (M.encSs l)) (hz : hi ≤ w.heap.size) (hl : l.length ≤ 1048576) :
    Calls Try.prog 164 #[.slice a l.length c, .func (.func g) #[] lb] w fun e w' => (∃ i : Int, e = .returned (.int .i64 i) ∧ M.IsIdx p l i) ∧ Below w.heap.size w w' := by
  have h' := Lib.hid h
  have HP := Lib.hid hp
  have HSS := Lib.hid hS
  clear h hp hS
  go_enter Try.func164, Try.ntmps164
  go_wp2_with fail
  go_loopw [5, 8] (fun _ i wr => ∃ (k : Nat), k ≤ l.length ∧ i = .int .i64 k ∧ (∀ j (hj : j < l.length), j < k → p l[j] = false) ∧ Below w.heap.size w wr) (fun _ i _ => l.length - (intOf i).toNat)
  case atStart => exact ⟨0, Nat.zero_le _, rfl, fun j _ h => by omega, Below.refl _ _⟩
  case round =>
    obtain ⟨k, hk, rfl, hall, hnx⟩ := hrel
    have HA := Lib.hid hall
    have HN := Lib.hid hnx
    have hzr := hnx.size
    clear hall hnx
    by_cases hlt : k < l.length
    · obtain ⟨b, off, rfl, _, hb, hc0⟩ := h'.out.at_ (k := k * 2) (by rw [M.encSs_len]; omega)
      have hx0 : wr.cell? ⟨b, off + k * 2, none⟩ = some (.int .i64 l[k].1) := (HN.out.cell (p := ⟨b, off + k * 2, none⟩) (Nat.lt_of_lt_of_le hb hz)).trans (hc0 _ _ (M.encSs_at0 hlt))
      have hx1 : wr.cell? ⟨b, off + k * 2 + 1, none⟩ = some (.int .i64 l[k].2) := (HN.out.cell (p := ⟨b, off + k * 2 + 1, none⟩) (Nat.lt_of_lt_of_le hb hz)).trans (hc0 _ _ (M.encSs_at1 hlt))
      clear hc0
      have CP := Lib.hid (HP.out wr l[k] (HSS.out _ (List.getElem_mem hlt)) HN.out)
      cases hq : p l[k] with
      | true =>
        rw [hq] at CP
        have HQ := Lib.hid hq
        clear hq
        go_wp2_with (go_at_fn g; refine (CP.out).mono ?_; rintro e w' ⟨rfl, hb2⟩)
        go_ret
        exact ⟨⟨k, rfl, .inl ⟨k, hlt, rfl, HQ.out, fun j hj hjk => HA.out j hj hjk⟩⟩, HN.out.trans (hb2.mono hzr)⟩
      | false =>
        rw [hq] at CP
        have HQ := Lib.hid hq
        clear hq
        go_wp2_with (go_at_fn g; refine (CP.out).mono ?_; rintro e w' ⟨rfl, hb2⟩)
        go_roundw
        case rel => exact ⟨k + 1, by omega, by go_num, fun j hj hjk => by
            rcases Nat.lt_or_ge j k with h | h
            · exact HA.out j hj h
            · obtain rfl : j = k := by omega
              exact HQ.out, HN.out.trans (hb2.mono hzr)⟩
        case measure => simp [intOf]; omega
    · obtain rfl : k = l.length := by omega
      go_wp2_with fail
      go_ret
      exact ⟨⟨-1, rfl, .inr ⟨rfl, fun j hj => HA.out j hj hj⟩⟩, HN.out⟩
end C
end Go.Proofs.Ytcoaggnilgfjfaa
namespace Go.Proofs.Ytcoaggnilgfjfaa
open Go.RowKit
namespace C
set_option maxHeartbeats 3200000
set_option maxRecDepth 20000
theorem encSs_set : ∀ (l : List M.St) (i : Nat) (d : M.St), M.encSs (l.set i d) = ((M.encSs l).set (i * 2) (.int .i64 d.1)).set (i * 2 + 1) (.int .i64 d.2)
  | [], i, d => by simp [M.encSs]
  | e :: l, 0, d => by simp [M.encSs, M.encS]
  | e :: l, i + 1, d => by
    have ih := encSs_set l i d
    rw [List.set_cons_succ, M.encSs_cons, M.encSs_cons, ih, show (i + 1) * 2 = i * 2 + 1 + 1 by omega]
    simp [M.encS]
theorem encSs_take : ∀ (l : List M.St) (k : Nat), M.encSs (l.take k) = (M.encSs l).take (k * 2)
  | [], k => by simp [M.encSs]
  | e :: l, 0 => by simp [M.encSs]
  | e :: l, k + 1 => by
    rw [List.take_succ_cons, M.encSs_cons, M.encSs_cons, encSs_take l k, show (k + 1) * 2 = k * 2 + 1 + 1 by omega]
    simp [M.encS]
theorem zeroS1 (w : World) : (zeroValue 65).run Try.prog w = .ok (.agg #[.int .i64 0, .int .i64 0]) w := by kernel_rfl
theorem zero_cells2 (n : Nat) : (Builtin.zeroCells (Value.agg #[.int .i64 0, .int .i64 0]).cells n).toList = List.replicate (n * 2) (.int .i64 0) := by
  have hc : (Value.agg #[.int .i64 0, .int .i64 0]).cells = #[.int .i64 0, .int .i64 0] := by kernel_rfl
  rw [hc]
  unfold Builtin.zeroCells
  refine List.ext_getElem (by simp) fun i h1 h2 => ?_
  simp only [Array.toList_map, List.getElem_map, List.getElem_replicate]
  have : ∀ j : Nat, j < 2 → (#[Value.int .i64 0, Value.int .i64 0] : Array Value)[j]! = .int .i64 0 := by
    intro j hj
    rcases j with _ | _ | j
    · rfl
    · rfl
    · omega
  exact this _ (Nat.mod_lt _ (by decide))
theorem run_clear_states {P : Program} (w : World) (t e ty : TypeId) (ht : P.underlying t = some (.slice e)) (hv : ∀ w, (zeroValue e).run P w = .ok (.agg #[.int .i64 0, .int .i64 0]) w) (b o n c : Nat) (hn : 0 < n)
    (hc : ∀ j, j < n * 2 → (w.cell? ⟨b, o + j, none⟩).isSome = true) (hf : ∀ j, j < n * 2 → w.frozen? ⟨b, o + j, none⟩ = false) :
    (Builtin.clear_ #[t] ty #[.slice (some ⟨b, o, none⟩) n c]).run P w = .ok (.tuple #[]) (w.setCells b o (List.replicate (n * 2) (.int .i64 0))) := by
  have hst := run_storeCells_cells (P := P) b o (List.replicate (n * 2) (.int .i64 0)) 0 w (by simpa using hc) (by simpa using hf) (by intro v hv'; rw [List.eq_of_mem_replicate hv']; rfl)
  simp only [Nat.add_zero] at hst
  obtain ⟨m, rfl⟩ : ∃ m, n = m + 1 := ⟨n - 1, by omega⟩
  simp [Builtin.clear_, run_underlying ht, hv, zero_cells2, hst]
def PredSTurn (g : Nat) (lb : Array Value) (p : M.St → Bool) (S : M.St → Prop) (lo hi : Nat) (w : World) : Prop :=
  ∀ W x, S x → Turned lo hi w W → Calls Try.prog g (#[.agg #[.int .i64 x.1, .int .i64 x.2]] ++ lb) W fun e w' => e = .returned (.bool (p x)) ∧ Below W.heap.size W w'
theorem deleteFS_any (g : Nat) (lb : Array Value) (p : M.St → Bool) (S : M.St → Prop) (eg : ∀ args w, (callFunc g args).run Try.prog w = .ok (.enter g args) w) (w : World) (lo hi : Nat) (a : Option Addr) (c : Nat) (l : List M.St)
    (hp : PredSTurn g lb p S lo hi w) (hS : ∀ x ∈ l, S x) (h : OwnAt lo hi w 65 a (M.encSs l)) (hz : hi ≤ w.heap.size) (hl : l.length ≤ 1000) (hc1 : l.length ≤ c) (hc2 : c ≤ 9223372036854775807) :
    Calls Try.prog 156 #[.slice a l.length c, .func (.func g) #[] lb] w fun e w' => e = .returned (.slice a (M.kept p l).length c) ∧ OwnAt lo hi w' 65 a (M.encSs (M.kept p l)) ∧ Turned lo hi w w' := by
  have CI := indexS_any g lb p S eg w lo hi a c l (fun W x hx hb => hp W x hx (Turned.of_below hb lo hi)) hS h.row hz (by omega)
  have H := Lib.hid h
  have HP := Lib.hid hp
  have HSS := Lib.hid hS
  clear h hp hS
  go_enter Try.func156, Try.ntmps156
  go_wp2_with fail
  refine CI.mono ?_
  rintro e w1 ⟨⟨i, rfl, hi0⟩, hb1⟩
  have HB1 := Lib.hid hb1
  have hz1 := hb1.size
  clear hb1 CI
  rcases hi0 with ⟨k0, hk0, rfl, hpk, hno⟩ | ⟨rfl, hno⟩
  · have hk0' : ¬ (k0 : Int) = -1 := by omega
    have hkb : ((k0 : Int) == -1) = false := by rw [beq_eq_false_iff_ne]; exact hk0'
    have HK := Lib.hid (M.kept_first hk0 hpk hno)
    have HPK := Lib.hid hpk
    obtain ⟨b, off, ha, hb1, hbhi, _⟩ := H.out.row.at_ (k := 0) (by rw [M.encSs_len]; omega)
    subst ha
    clear hpk hno
    go_wp2_with fail
    go_loopw [5, 6] (fun v5 v6 wr => ∃ (i j : Nat) (xs : List M.St), i < j ∧ j ≤ l.length ∧ xs.length = l.length ∧ v5 = .int .i64 i ∧ v6 = .int .i64 j ∧ xs.take i = M.kept p (l.take j) ∧ xs.drop j = l.drop j ∧ OwnAt lo hi wr 65 (some ⟨b, off, none⟩) (M.encSs xs) ∧ Turned lo hi w wr) (fun _ v6 _ => l.length - (intOf v6).toNat)
    case atStart => exact ⟨k0, k0 + 1, l, by omega, by omega, rfl, rfl, by go_num, HK.out, rfl, H.out.below HB1.out hz, Turned.of_below HB1.out lo hi⟩
    case round =>
      obtain ⟨i, j, xs, hij, hjl, hxl, rfl, rfl, htk, hdr, hown, htr⟩ := hrel
      have OW := Lib.hid hown
      have TR := Lib.hid htr
      have HTK := Lib.hid htk
      have HDR := Lib.hid hdr
      have HXL := Lib.hid hxl
      have hzr := htr.size
      have hxle : xs.length ≤ l.length := by omega
      have hxge : l.length ≤ xs.length := by omega
      clear hown htr htk hdr hxl
      have hcx : ∀ k u, (M.encSs xs)[k]? = some u → wr.cell? ⟨b, off + k, none⟩ = some u := by
        obtain ⟨b', off', e, _, _, hcc⟩ := OW.out.row.at_ (k := 0) (by rw [M.encSs_len]; omega)
        injection e with e
        injection e with e1 e2 _
        subst e1; subst e2
        exact hcc
      have HCX := Lib.hid hcx
      have hfr : ∀ k, wr.frozen? ⟨b, k, none⟩ = false := fun k => OW.out.free rfl (k := 0) (by rw [M.encSs_len]; omega) k
      have HFR := Lib.hid hfr
      clear hcx hfr
      by_cases hj : j < l.length
      · have hxj : Hid (xs[j]'(by omega) = l[j]) := Lib.hid (by
          have := congrArg (fun z : List M.St => z[0]?) HDR.out
          simp only [List.getElem?_drop, Nat.add_zero] at this
          rw [List.getElem?_eq_getElem (by omega), List.getElem?_eq_getElem hj] at this
          exact Option.some.inj this)
        have x0 : wr.cell? ⟨b, off + j * 2, none⟩ = some (.int .i64 l[j].1) := by rw [← hxj.out]; exact HCX.out _ _ (M.encSs_at0 (by omega))
        have x1 : wr.cell? ⟨b, off + j * 2 + 1, none⟩ = some (.int .i64 l[j].2) := by rw [← hxj.out]; exact HCX.out _ _ (M.encSs_at1 (by omega))
        have CP := Lib.hid (fun W (hq : Turned lo hi w W) => HP.out W l[j] (HSS.out _ (List.getElem_mem hj)) hq)
        have hjn : (j : Int) < (l.length : Int) := by omega
        have hba : Below wr.heap.size wr (wr.alloc (.cells #[.int .i64 l[j].1, .int .i64 l[j].2] 65)) := below_alloc _ _
        have nb := Box2.new (w := wr) (g := wr.heap.size) 65 (.int .i64 l[j].1) (.int .i64 l[j].2) rfl
        have NB := Lib.hid nb
        have HBA := Lib.hid hba
        obtain ⟨z0, z1⟩ := nb.cells
        clear nb hba
        cases hq : p l[j] with
        | true =>
          have HN := Lib.hid (M.kept_no hj hq)
          have CP2 := Lib.hid (CP.out _ (TR.out.trans (Turned.of_below HBA.out lo hi)))
          rw [hq] at CP2
          clear hq CP
          generalize l[j] = u at *
          go_wp2_with (go_at_fn g; refine (CP2.out).mono ?_; rintro e w2 ⟨rfl, hb2⟩)
          have hbx := HBA.out.trans (hb2.mono HBA.out.size)
          go_roundw
          case rel => exact ⟨i, j + 1, xs, by omega, by omega, HXL.out, rfl, by go_num, by rw [HN.out]; exact HTK.out, M.drop_next HDR.out, OW.out.below hbx (by omega), TR.out.trans (Turned.of_below hbx lo hi)⟩
          case measure => simp [intOf]; omega
        | false =>
          have HN := Lib.hid (M.kept_yes hj hq)
          have CP2 := Lib.hid (CP.out _ (TR.out.trans (Turned.of_below HBA.out lo hi)))
          rw [hq] at CP2
          clear hq CP
          have hin : (i : Int) < (l.length : Int) := by omega
          have HES := Lib.hid (encSs_set xs i)
          generalize l[j] = u at *
          go_wp2_with (go_at_fn g; refine (CP2.out).mono ?_; rintro e w2 ⟨rfl, hb2⟩; have hbx := HBA.out.trans (hb2.mono HBA.out.size); have hbc : ∀ k v, wr.cell? ⟨b, k, none⟩ = some v → w2.cell? ⟨b, k, none⟩ = some v := (fun k v hv => (hbx.cell (p := ⟨b, k, none⟩) (show b < wr.heap.size by omega)).trans hv); have y0 : w2.cell? ⟨b, off + i * 2, none⟩ = _ := hbc _ _ (HCX.out (i * 2) _ (List.getElem?_eq_getElem (by rw [M.encSs_len]; omega))); have y1 : w2.cell? ⟨b, off + i * 2 + 1, none⟩ = _ := hbc _ _ (HCX.out (i * 2 + 1) _ (List.getElem?_eq_getElem (by rw [M.encSs_len]; omega))); have hown2 := OW.out.below hbx (by omega); have y3 : ∀ k, w2.frozen? ⟨b, k, none⟩ = false := (fun k => hown2.free rfl (k := 0) (by rw [M.encSs_len]; omega) k); have y4 := y3 (off + i * 2); have y5 := y3 (off + i * 2 + 1); obtain ⟨z0, z1⟩ := (NB.out.below hb2).cells)
          go_roundw
          case rel =>
            refine ⟨i + 1, j + 1, xs.set i u, by omega, by omega, by rw [List.length_set]; exact HXL.out, by go_num, by go_num, by rw [M.take_set_succ _ _ _ (by omega), HTK.out, HN.out], by rw [M.drop_set_lt _ _ _ _ (by omega)]; exact M.drop_next HDR.out, ?_, (((TR.out.trans (Turned.of_below hbx lo hi)).trans (Turned.setCell _ _ _ _ hb1 hbhi)).trans (Turned.setCell _ _ _ _ hb1 hbhi))⟩
            rw [HES.out]
            exact (hown2.set_ rfl (i * 2) (.int .i64 u.1)).set_ rfl (i * 2 + 1) (.int .i64 u.2)
          case measure => simp [intOf]; omega
      · obtain rfl : j = l.length := by omega
        have hres : Hid (M.kept p l = xs.take i) := Lib.hid (by rw [HTK.out, List.take_of_length_le (Nat.le_refl _)])
        have hn : i < l.length := by omega
        have hlen : Hid ((M.kept p l).length = i) := Lib.hid (by rw [hres.out, List.length_take]; omega)
        have hsome : ∀ t, t < (l.length - i) * 2 → (wr.cell? ⟨b, off + i * 2 + t, none⟩).isSome = true := fun t ht => by
          rw [Nat.add_assoc, HCX.out _ _ (List.getElem?_eq_getElem (by rw [M.encSs_len]; omega))]; rfl
        have hcl := fun ty => run_clear_states (P := Try.prog) wr 110 65 ty Try.underlying110 zeroS1 b (off + i * 2) (l.length - i) (c - i) (by omega) hsome (fun t _ => HFR.out _)
        have hE := OW.out.setCells (List.replicate ((l.length - i) * 2) (.int .i64 0)) (i * 2) wr
        have hT := TR.out.trans (Turned.setCells b hb1 hbhi (List.replicate ((l.length - i) * 2) (.int .i64 0)) (off + i * 2) wr)
        have hend : ∀ (k : Nat) u, (M.encSs (xs.take i))[k]? = some u → (M.over (M.encSs xs) (i * 2) (List.replicate ((l.length - i) * 2) (.int .i64 0)))[k]? = some u := by
          intro k u hu
          have hk : k < i * 2 := by
            have := (List.getElem?_eq_some_iff.1 hu).1
            rw [M.encSs_len, List.length_take] at this
            omega
          rw [M.over_get _ _ _ _ (by rw [M.encSs_len, List.length_replicate]; omega), if_pos hk]
          rw [encSs_take, List.getElem?_take, if_pos hk] at hu
          exact hu
        have HEND := Lib.hid (hE.less hend)
        have HT := Lib.hid hT
        have hcne : ¬ c = i := by omega
        have hi1 : (i : Int) ≤ (l.length : Int) := by omega
        have hi2 : i ≤ l.length := by omega
        have hi3 : i ≤ c := by omega
        clear hE hT hend hsome
        generalize List.replicate ((l.length - i) * 2) (Value.int .i64 0) = zs at *
        go_wp2_with fail
        go_ret
        exact ⟨by rw [hlen.out]; rfl, by rw [hres.out]; exact HEND.out, HT.out⟩
  · have HK : Hid (M.kept p l = l) := Lib.hid (M.kept_all hno)
    go_wp2_with fail
    go_ret
    exact ⟨by rw [HK.out]; rfl, by rw [HK.out]; exact H.out.below HB1.out hz, Turned.of_below HB1.out lo hi⟩
end C
end Go.Proofs.Ytcoaggnilgfjfaa
