/-
  CONTRACT of slices.IndexFunc at doors: the first place at which a predicate holds, or -1; what lay in memory stays. Condition: at most 1048576 of them; the predicate answers p and leaves memory as it is.
  CONTRACT of slices.DeleteFunc at ints: the row without those of which a predicate holds, in place; what lay elsewhere stays. Condition: the row may be written, at most 1000 of them; the predicate answers p and leaves memory as it is.
  CONTRACT of slices.DeleteFunc at doors: the row without those of which a predicate holds, in place; what lay elsewhere stays. Condition: the row may be written, at most 1000 of them; the predicate answers p and leaves memory as it is.
  CONTRACTS of WithoutNode on both sides, and of the model's l3Node: the maze without the doors at a node, in memory of its own, or the empty one and false; what lay in memory stays. No condition but that the maze reads so.
-/
import Derived.Test.YtoiapfdlbkncaaaAP3
import Derived.Test.YtoiapfdlbkncaaaDel
import Derived.IntWalk
import Derived.Test.YtoiapfdlbkncaaaAWo
import Derived.Test.YtoiapfdlbkncaaaPutI
import Derived.Test.YtoiapfdlbkncaaaStep
namespace Go.Proofs.Ytoiapfdlbkncaaa
open Go.RowKit
namespace C
set_option maxHeartbeats 1600000
set_option maxRecDepth 20000
def PredDOk (g : Nat) (lb : Array Value) (p : M.Dr → Bool) (w : World) : Prop :=
  ∀ W x, Below w.heap.size w W → Calls Try.prog g (#[.agg #[.int .i64 x.1, .int .i64 x.2.1, .int .i64 x.2.2]] ++ lb) W fun e w' => e = .returned (.bool (p x)) ∧ Below W.heap.size W w'
theorem indexD_any (g : Nat) (lb : Array Value) (p : M.Dr → Bool) (eg : ∀ args w, (callFunc g args).run Try.prog w = .ok (.enter g args) w) (w : World) (lo hi : Nat) (a : Option Addr) (c : Nat) (l : List M.Dr)
    (hp : PredDOk g lb p w) (h : RowIn lo hi w a (M.encDs l)) (hz : hi ≤ w.heap.size) (hl : l.length ≤ 1048576) :
    Calls Try.prog 124 #[.slice a l.length c, .func (.func g) #[] lb] w fun e w' => (∃ i : Int, e = .returned (.int .i64 i) ∧ M.IsIdx p l i) ∧ Below w.heap.size w w' := by
  have h' := Lib.hid h
  have HP := Lib.hid hp
  clear h hp
  go_enter Try.func124, Try.ntmps124
  go_wp2_with fail
  go_loopw [5, 8] (fun _ i wr => ∃ (k : Nat), k ≤ l.length ∧ i = .int .i64 k ∧ (∀ j (hj : j < l.length), j < k → p l[j] = false) ∧ Below w.heap.size w wr) (fun _ i _ => l.length - (intOf i).toNat)
  case atStart => exact ⟨0, Nat.zero_le _, rfl, fun j _ h => by omega, Below.refl _ _⟩
  case round =>
    obtain ⟨k, hk, rfl, hall, hnx⟩ := hrel
    have HA := Lib.hid hall
    have HN := Lib.hid hnx
    have hzr := hnx.size
    clear hall hnx
    by_cases hlt : k < l.length
    · obtain ⟨b, off, rfl, _, hb, hc0⟩ := h'.out.at_ (k := k * 3) (by rw [M.encDs_len]; omega)
      have hx0 : wr.cell? ⟨b, off + k * 3, none⟩ = some (.int .i64 l[k].1) := (HN.out.cell (p := ⟨b, off + k * 3, none⟩) (Nat.lt_of_lt_of_le hb hz)).trans (hc0 _ _ (M.encDs_at0 hlt))
      have hx1 : wr.cell? ⟨b, off + k * 3 + 1, none⟩ = some (.int .i64 l[k].2.1) := (HN.out.cell (p := ⟨b, off + k * 3 + 1, none⟩) (Nat.lt_of_lt_of_le hb hz)).trans (hc0 _ _ (M.encDs_at1 hlt))
      have hx2 : wr.cell? ⟨b, off + k * 3 + 2, none⟩ = some (.int .i64 l[k].2.2) := (HN.out.cell (p := ⟨b, off + k * 3 + 2, none⟩) (Nat.lt_of_lt_of_le hb hz)).trans (hc0 _ _ (M.encDs_at2 hlt))
      clear hc0
      have CP := Lib.hid (HP.out wr l[k] HN.out)
      cases hq : p l[k] with
      | true =>
        rw [hq] at CP
        have HQ := Lib.hid hq
        clear hq
        go_wp2_with (go_at_fn g; refine (CP.out).mono ?_; rintro e w' ⟨rfl, hb2⟩)
        go_ret
        exact ⟨⟨k, rfl, .inl ⟨k, hlt, rfl, HQ.out, fun j hj hjk => HA.out j hj hjk⟩⟩, HN.out.trans (hb2.mono hzr)⟩
      | false =>
        rw [hq] at CP
        have HQ := Lib.hid hq
        clear hq
        go_wp2_with (go_at_fn g; refine (CP.out).mono ?_; rintro e w' ⟨rfl, hb2⟩)
        go_roundw
        case rel => exact ⟨k + 1, by omega, by go_num, fun j hj hjk => by
            rcases Nat.lt_or_ge j k with h | h
            · exact HA.out j hj h
            · obtain rfl : j = k := by omega
              exact HQ.out, HN.out.trans (hb2.mono hzr)⟩
        case measure => simp [intOf]; omega
    · obtain rfl : k = l.length := by omega
      go_wp2_with fail
      go_ret
      exact ⟨⟨-1, rfl, .inr ⟨rfl, fun j hj => HA.out j hj hj⟩⟩, HN.out⟩
end C
end Go.Proofs.Ytoiapfdlbkncaaa
namespace Go.Proofs.Ytoiapfdlbkncaaa
open Go.RowKit
namespace C
set_option maxHeartbeats 3200000
set_option maxRecDepth 20000
theorem zeroI1 (w : World) : (zeroValue 3).run Try.prog w = .ok (.int .i64 0) w := by kernel_rfl
def PredITurn (g : Nat) (lb : Array Value) (p : Int → Bool) (lo hi : Nat) (w : World) : Prop :=
  ∀ W x, Turned lo hi w W → Calls Try.prog g (#[.int .i64 x] ++ lb) W fun e w' => e = .returned (.bool (p x)) ∧ Below W.heap.size W w'
theorem deleteFI_any (g : Nat) (lb : Array Value) (p : Int → Bool) (eg : ∀ args w, (callFunc g args).run Try.prog w = .ok (.enter g args) w) (w : World) (lo hi : Nat) (a : Option Addr) (c : Nat) (l : List Int)
    (hp : PredITurn g lb p lo hi w) (h : OwnAt lo hi w 3 a (M.encIs l)) (hz : hi ≤ w.heap.size) (hl : l.length ≤ 1000) (hc1 : l.length ≤ c) (hc2 : c ≤ 9223372036854775807) :
    Calls Try.prog 87 #[.slice a l.length c, .func (.func g) #[] lb] w fun e w' => e = .returned (.slice a (M.kept p l).length c) ∧ OwnAt lo hi w' 3 a (M.encIs (M.kept p l)) ∧ Turned lo hi w w' := by
  have CI := indexI_any g lb p eg w lo hi a c l (fun W x hb => hp W x (Turned.of_below hb lo hi)) h.row hz (by omega)
  have H := Lib.hid h
  have HP := Lib.hid hp
  clear h hp
  go_enter Try.func87, Try.ntmps87
  go_wp2_with fail
  refine CI.mono ?_
  rintro e w1 ⟨⟨i, rfl, hi0⟩, hb1⟩
  have HB1 := Lib.hid hb1
  have hz1 := hb1.size
  clear hb1 CI
  rcases hi0 with ⟨k0, hk0, rfl, hpk, hno⟩ | ⟨rfl, hno⟩
  · have hk0' : ¬ (k0 : Int) = -1 := by omega
    have hkb : ((k0 : Int) == -1) = false := by rw [beq_eq_false_iff_ne]; exact hk0'
    have HK := Lib.hid (M.kept_first hk0 hpk hno)
    have HPK := Lib.hid hpk
    obtain ⟨b, off, ha, hb1, hbhi, _⟩ := H.out.row.at_ (k := 0) (by rw [M.encIs_len]; omega)
    subst ha
    clear hpk hno
    go_wp2_with fail
    go_loopw [5, 6, 7] (fun v5 v6 _ wr => ∃ (i j : Nat) (xs : List Int), i < j ∧ j ≤ l.length ∧ xs.length = l.length ∧ v5 = .int .i64 i ∧ v6 = .int .i64 j ∧ xs.take i = M.kept p (l.take j) ∧ xs.drop j = l.drop j ∧ OwnAt lo hi wr 3 (some ⟨b, off, none⟩) (M.encIs xs) ∧ Turned lo hi w wr) (fun _ v6 _ _ => l.length - (intOf v6).toNat)
    case atStart => exact ⟨k0, k0 + 1, l, by omega, by omega, rfl, rfl, by go_num, HK.out, rfl, H.out.below HB1.out hz, Turned.of_below HB1.out lo hi⟩
    case round =>
      obtain ⟨i, j, xs, hij, hjl, hxl, rfl, rfl, htk, hdr, hown, htr⟩ := hrel
      have OW := Lib.hid hown
      have TR := Lib.hid htr
      have HTK := Lib.hid htk
      have HDR := Lib.hid hdr
      have HXL := Lib.hid hxl
      have hzr := htr.size
      have hxle : xs.length ≤ l.length := by omega
      have hxge : l.length ≤ xs.length := by omega
      clear hown htr htk hdr hxl
      have hcx : ∀ k u, (M.encIs xs)[k]? = some u → wr.cell? ⟨b, off + k, none⟩ = some u := by
        obtain ⟨b', off', e, _, _, hcc⟩ := OW.out.row.at_ (k := 0) (by rw [M.encIs_len]; omega)
        injection e with e
        injection e with e1 e2 _
        subst e1; subst e2
        exact hcc
      have HCX := Lib.hid hcx
      have hfr : ∀ k, wr.frozen? ⟨b, k, none⟩ = false := fun k => OW.out.free rfl (k := 0) (by rw [M.encIs_len]; omega) k
      have HFR := Lib.hid hfr
      clear hcx hfr
      by_cases hj : j < l.length
      · have hxj : Hid (xs[j]'(by omega) = l[j]) := Lib.hid (by
          have := congrArg (fun z : List Int => z[0]?) HDR.out
          simp only [List.getElem?_drop, Nat.add_zero] at this
          rw [List.getElem?_eq_getElem (by omega), List.getElem?_eq_getElem hj] at this
          exact Option.some.inj this)
        have x0 : wr.cell? ⟨b, off + j, none⟩ = some (.int .i64 l[j]) := by rw [← hxj.out]; exact HCX.out _ _ (M.encIs_at (by omega))
        have CP := Lib.hid (fun W (hq : Turned lo hi w W) => HP.out W l[j] hq)
        have hjn : (j : Int) < (l.length : Int) := by omega
        have hty : Hid (∀ u, M.encIs (xs.set i u) = (M.encIs xs).set i (.int .i64 u)) := Lib.hid (fun u => by unfold M.encIs; rw [List.map_set])
        cases hq : p l[j] with
        | true =>
          have HN := Lib.hid (M.kept_no hj hq)
          have CP2 := Lib.hid (CP.out wr TR.out)
          rw [hq] at CP2
          clear hq CP
          go_wp2_with (go_at_fn g; refine (CP2.out).mono ?_; rintro e w2 ⟨rfl, hb2⟩)
          go_roundw
          case rel => exact ⟨i, j + 1, xs, by omega, by omega, HXL.out, rfl, by go_num, by rw [HN.out]; exact HTK.out, M.drop_next HDR.out, OW.out.below hb2 (by omega), TR.out.trans (Turned.of_below hb2 lo hi)⟩
          case measure => simp [intOf]; omega
        | false =>
          have HN := Lib.hid (M.kept_yes hj hq)
          have CP2 := Lib.hid (CP.out wr TR.out)
          rw [hq] at CP2
          clear hq CP
          have hin : (i : Int) < (l.length : Int) := by omega
          generalize l[j] = u at *
          go_wp2_with (go_at_fn g; refine (CP2.out).mono ?_; rintro e w2 ⟨rfl, hb2⟩; have hbc : ∀ k v, wr.cell? ⟨b, k, none⟩ = some v → w2.cell? ⟨b, k, none⟩ = some v := (fun k v hv => (hb2.cell (p := ⟨b, k, none⟩) (show b < wr.heap.size by omega)).trans hv); have y0 := hbc _ _ (HCX.out i _ (List.getElem?_eq_getElem (by rw [M.encIs_len]; omega))); have hown2 := OW.out.below hb2 (by omega); have y1 : w2.frozen? ⟨b, off + i, none⟩ = false := hown2.free rfl (k := 0) (by rw [M.encIs_len]; omega) _)
          go_roundw
          case rel =>
            refine ⟨i + 1, j + 1, xs.set i u, by omega, by omega, by rw [List.length_set]; exact HXL.out, by go_num, by go_num, by rw [M.take_set_succ _ _ _ (by omega), HTK.out, HN.out], by rw [M.drop_set_lt _ _ _ _ (by omega)]; exact M.drop_next HDR.out, ?_, (TR.out.trans (Turned.of_below hb2 lo hi)).trans (Turned.setCell _ _ _ _ hb1 hbhi)⟩
            rw [hty.out]
            exact hown2.set_ rfl i (.int .i64 u)
          case measure => simp [intOf]; omega
      · obtain rfl : j = l.length := by omega
        have hres : Hid (M.kept p l = xs.take i) := Lib.hid (by rw [HTK.out, List.take_of_length_le (Nat.le_refl _)])
        have hn : i < l.length := by omega
        have hlen : Hid ((M.kept p l).length = i) := Lib.hid (by rw [hres.out, List.length_take]; omega)
        have hsome : ∀ t, t < (l.length - i) → (wr.cell? ⟨b, off + i + t, none⟩).isSome = true := fun t ht => by
          rw [Nat.add_assoc, HCX.out _ _ (List.getElem?_eq_getElem (by rw [M.encIs_len]; omega))]; rfl
        have hcl := fun ty => Lib.run_clear_slice (P := Try.prog) wr 23 3 ty (.int .i64 0) Try.underlying23 zeroI1 rfl rfl b (off + i) (l.length - i) (c - i) (by omega) hsome (fun t _ => HFR.out _)
        have hE := OW.out.setCells (List.replicate ((l.length - i)) (.int .i64 0)) (i) wr
        have hT := TR.out.trans (Turned.setCells b hb1 hbhi (List.replicate ((l.length - i)) (.int .i64 0)) (off + i) wr)
        have hend : ∀ (k : Nat) u, (M.encIs (xs.take i))[k]? = some u → (M.over (M.encIs xs) (i) (List.replicate ((l.length - i)) (.int .i64 0)))[k]? = some u := by
          intro k u hu
          have hk : k < i := by
            have := (List.getElem?_eq_some_iff.1 hu).1
            rw [M.encIs_len, List.length_take] at this
            omega
          rw [M.over_get _ _ _ _ (by rw [M.encIs_len, List.length_replicate]; omega), if_pos hk]
          rw [M.encIs_take, List.getElem?_take, if_pos hk] at hu
          exact hu
        have HEND := Lib.hid (hE.less hend)
        have HT := Lib.hid hT
        have hcne : ¬ c = i := by omega
        have hi1 : (i : Int) ≤ (l.length : Int) := by omega
        have hi2 : i ≤ l.length := by omega
        have hi3 : i ≤ c := by omega
        clear hE hT hend hsome
        generalize List.replicate ((l.length - i)) (Value.int .i64 0) = zs at *
        go_wp2_with fail
        go_ret
        exact ⟨by rw [hlen.out]; rfl, by rw [hres.out]; exact HEND.out, HT.out⟩
  · have HK : Hid (M.kept p l = l) := Lib.hid (M.kept_all hno)
    go_wp2_with fail
    go_ret
    exact ⟨by rw [HK.out]; rfl, by rw [HK.out]; exact H.out.below HB1.out hz, Turned.of_below HB1.out lo hi⟩
end C
end Go.Proofs.Ytoiapfdlbkncaaa
namespace Go.Proofs.Ytoiapfdlbkncaaa
open Go.RowKit
namespace C
set_option maxHeartbeats 3200000
set_option maxRecDepth 20000
theorem encDs_set : ∀ (l : List M.Dr) (i : Nat) (d : M.Dr), M.encDs (l.set i d) = (((M.encDs l).set (i * 3) (.int .i64 d.1)).set (i * 3 + 1) (.int .i64 d.2.1)).set (i * 3 + 2) (.int .i64 d.2.2)
  | [], i, d => by simp [M.encDs]
  | e :: l, 0, d => by simp [M.encDs, M.encD]
  | e :: l, i + 1, d => by
    have ih := encDs_set l i d
    rw [List.set_cons_succ, M.encDs_cons, M.encDs_cons, ih, show (i + 1) * 3 = i * 3 + 1 + 1 + 1 by omega]
    simp [M.encD]
theorem zeroD1 (w : World) : (zeroValue 81).run Try.prog w = .ok (.agg #[.int .i64 0, .int .i64 0, .int .i64 0]) w := by kernel_rfl
theorem zero_cells3 (n : Nat) : (Builtin.zeroCells (Value.agg #[.int .i64 0, .int .i64 0, .int .i64 0]).cells n).toList = List.replicate (n * 3) (.int .i64 0) := by
  have hc : (Value.agg #[.int .i64 0, .int .i64 0, .int .i64 0]).cells = #[.int .i64 0, .int .i64 0, .int .i64 0] := by kernel_rfl
  rw [hc]
  unfold Builtin.zeroCells
  refine List.ext_getElem (by simp) fun i h1 h2 => ?_
  simp only [Array.toList_map, List.getElem_map, List.getElem_replicate]
  have : ∀ j : Nat, j < 3 → (#[Value.int .i64 0, Value.int .i64 0, Value.int .i64 0] : Array Value)[j]! = .int .i64 0 := by
    intro j hj
    rcases j with _ | _ | _ | j
    · rfl
    · rfl
    · rfl
    · omega
  exact this _ (Nat.mod_lt _ (by decide))
theorem run_clear_doors {P : Program} (w : World) (t e ty : TypeId) (ht : P.underlying t = some (.slice e)) (hv : ∀ w, (zeroValue e).run P w = .ok (.agg #[.int .i64 0, .int .i64 0, .int .i64 0]) w) (b o n c : Nat) (hn : 0 < n)
    (hc : ∀ j, j < n * 3 → (w.cell? ⟨b, o + j, none⟩).isSome = true) (hf : ∀ j, j < n * 3 → w.frozen? ⟨b, o + j, none⟩ = false) :
    (Builtin.clear_ #[t] ty #[.slice (some ⟨b, o, none⟩) n c]).run P w = .ok (.tuple #[]) (w.setCells b o (List.replicate (n * 3) (.int .i64 0))) := by
  have hst := run_storeCells_cells (P := P) b o (List.replicate (n * 3) (.int .i64 0)) 0 w (by simpa using hc) (by simpa using hf) (by intro v hv'; rw [List.eq_of_mem_replicate hv']; rfl)
  simp only [Nat.add_zero] at hst
  obtain ⟨m, rfl⟩ : ∃ m, n = m + 1 := ⟨n - 1, by omega⟩
  simp [Builtin.clear_, run_underlying ht, hv, zero_cells3, hst]
def PredDTurn (g : Nat) (lb : Array Value) (p : M.Dr → Bool) (lo hi : Nat) (w : World) : Prop :=
  ∀ W x, Turned lo hi w W → Calls Try.prog g (#[.agg #[.int .i64 x.1, .int .i64 x.2.1, .int .i64 x.2.2]] ++ lb) W fun e w' => e = .returned (.bool (p x)) ∧ Below W.heap.size W w'
theorem deleteFD_any (g : Nat) (lb : Array Value) (p : M.Dr → Bool) (eg : ∀ args w, (callFunc g args).run Try.prog w = .ok (.enter g args) w) (w : World) (lo hi : Nat) (a : Option Addr) (c : Nat) (l : List M.Dr)
    (hp : PredDTurn g lb p lo hi w) (h : OwnAt lo hi w 81 a (M.encDs l)) (hz : hi ≤ w.heap.size) (hl : l.length ≤ 1000) (hc1 : l.length ≤ c) (hc2 : c ≤ 9223372036854775807) :
    Calls Try.prog 94 #[.slice a l.length c, .func (.func g) #[] lb] w fun e w' => e = .returned (.slice a (M.kept p l).length c) ∧ OwnAt lo hi w' 81 a (M.encDs (M.kept p l)) ∧ Turned lo hi w w' := by
  have CI := indexD_any g lb p eg w lo hi a c l (fun W x hb => hp W x (Turned.of_below hb lo hi)) h.row hz (by omega)
  have H := Lib.hid h
  have HP := Lib.hid hp
  clear h hp
  go_enter Try.func94, Try.ntmps94
  go_wp2_with fail
  refine CI.mono ?_
  rintro e w1 ⟨⟨i, rfl, hi0⟩, hb1⟩
  have HB1 := Lib.hid hb1
  have hz1 := hb1.size
  clear hb1 CI
  rcases hi0 with ⟨k0, hk0, rfl, hpk, hno⟩ | ⟨rfl, hno⟩
  · have hk0' : ¬ (k0 : Int) = -1 := by omega
    have hkb : ((k0 : Int) == -1) = false := by rw [beq_eq_false_iff_ne]; exact hk0'
    have HK := Lib.hid (M.kept_first hk0 hpk hno)
    have HPK := Lib.hid hpk
    obtain ⟨b, off, ha, hb1, hbhi, _⟩ := H.out.row.at_ (k := 0) (by rw [M.encDs_len]; omega)
    subst ha
    clear hpk hno
    go_wp2_with fail
    go_loopw [5, 6] (fun v5 v6 wr => ∃ (i j : Nat) (xs : List M.Dr), i < j ∧ j ≤ l.length ∧ xs.length = l.length ∧ v5 = .int .i64 i ∧ v6 = .int .i64 j ∧ xs.take i = M.kept p (l.take j) ∧ xs.drop j = l.drop j ∧ OwnAt lo hi wr 81 (some ⟨b, off, none⟩) (M.encDs xs) ∧ Turned lo hi w wr) (fun _ v6 _ => l.length - (intOf v6).toNat)
    case atStart => exact ⟨k0, k0 + 1, l, by omega, by omega, rfl, rfl, by go_num, HK.out, rfl, H.out.below HB1.out hz, Turned.of_below HB1.out lo hi⟩
    case round =>
      obtain ⟨i, j, xs, hij, hjl, hxl, rfl, rfl, htk, hdr, hown, htr⟩ := hrel
      have OW := Lib.hid hown
      have TR := Lib.hid htr
      have HTK := Lib.hid htk
      have HDR := Lib.hid hdr
      have HXL := Lib.hid hxl
      have hzr := htr.size
      have hxle : xs.length ≤ l.length := by omega
      have hxge : l.length ≤ xs.length := by omega
      clear hown htr htk hdr hxl
      have hcx : ∀ k u, (M.encDs xs)[k]? = some u → wr.cell? ⟨b, off + k, none⟩ = some u := by
        obtain ⟨b', off', e, _, _, hcc⟩ := OW.out.row.at_ (k := 0) (by rw [M.encDs_len]; omega)
        injection e with e
        injection e with e1 e2 _
        subst e1; subst e2
        exact hcc
      have HCX := Lib.hid hcx
      have hfr : ∀ k, wr.frozen? ⟨b, k, none⟩ = false := fun k => OW.out.free rfl (k := 0) (by rw [M.encDs_len]; omega) k
      have HFR := Lib.hid hfr
      clear hcx hfr
      by_cases hj : j < l.length
      · have hxj : Hid (xs[j]'(by omega) = l[j]) := Lib.hid (by
          have := congrArg (fun z : List M.Dr => z[0]?) HDR.out
          simp only [List.getElem?_drop, Nat.add_zero] at this
          rw [List.getElem?_eq_getElem (by omega), List.getElem?_eq_getElem hj] at this
          exact Option.some.inj this)
        have x0 : wr.cell? ⟨b, off + j * 3, none⟩ = some (.int .i64 l[j].1) := by rw [← hxj.out]; exact HCX.out _ _ (M.encDs_at0 (by omega))
        have x1 : wr.cell? ⟨b, off + j * 3 + 1, none⟩ = some (.int .i64 l[j].2.1) := by rw [← hxj.out]; exact HCX.out _ _ (M.encDs_at1 (by omega))
        have x2 : wr.cell? ⟨b, off + j * 3 + 2, none⟩ = some (.int .i64 l[j].2.2) := by rw [← hxj.out]; exact HCX.out _ _ (M.encDs_at2 (by omega))
        have CP := Lib.hid (fun W (hq : Turned lo hi w W) => HP.out W l[j] hq)
        have hjn : (j : Int) < (l.length : Int) := by omega
        have hba : Below wr.heap.size wr (wr.alloc (.cells #[.int .i64 l[j].1, .int .i64 l[j].2.1, .int .i64 l[j].2.2] 81)) := below_alloc _ _
        have nb := Box3.new (w := wr) (g := wr.heap.size) 81 (.int .i64 l[j].1) (.int .i64 l[j].2.1) (.int .i64 l[j].2.2) rfl
        have NB := Lib.hid nb
        have HBA := Lib.hid hba
        obtain ⟨z0, z1, z2⟩ := nb.cells
        clear nb hba
        cases hq : p l[j] with
        | true =>
          have HN := Lib.hid (M.kept_no hj hq)
          have CP2 := Lib.hid (CP.out _ (TR.out.trans (Turned.of_below HBA.out lo hi)))
          rw [hq] at CP2
          clear hq CP
          generalize l[j] = u at *
          go_wp2_with (go_at_fn g; refine (CP2.out).mono ?_; rintro e w2 ⟨rfl, hb2⟩)
          have hbx := HBA.out.trans (hb2.mono HBA.out.size)
          go_roundw
          case rel => exact ⟨i, j + 1, xs, by omega, by omega, HXL.out, rfl, by go_num, by rw [HN.out]; exact HTK.out, M.drop_next HDR.out, OW.out.below hbx (by omega), TR.out.trans (Turned.of_below hbx lo hi)⟩
          case measure => simp [intOf]; omega
        | false =>
          have HN := Lib.hid (M.kept_yes hj hq)
          have CP2 := Lib.hid (CP.out _ (TR.out.trans (Turned.of_below HBA.out lo hi)))
          rw [hq] at CP2
          clear hq CP
          have hin : (i : Int) < (l.length : Int) := by omega
          have HES := Lib.hid (encDs_set xs i)
          generalize l[j] = u at *
          go_wp2_with (go_at_fn g; refine (CP2.out).mono ?_; rintro e w2 ⟨rfl, hb2⟩; have hbx := HBA.out.trans (hb2.mono HBA.out.size); have hbc : ∀ k v, wr.cell? ⟨b, k, none⟩ = some v → w2.cell? ⟨b, k, none⟩ = some v := (fun k v hv => (hbx.cell (p := ⟨b, k, none⟩) (show b < wr.heap.size by omega)).trans hv); have y0 : w2.cell? ⟨b, off + i * 3, none⟩ = _ := hbc _ _ (HCX.out (i * 3) _ (List.getElem?_eq_getElem (by rw [M.encDs_len]; omega))); have y1 : w2.cell? ⟨b, off + i * 3 + 1, none⟩ = _ := hbc _ _ (HCX.out (i * 3 + 1) _ (List.getElem?_eq_getElem (by rw [M.encDs_len]; omega))); have y2 : w2.cell? ⟨b, off + i * 3 + 2, none⟩ = _ := hbc _ _ (HCX.out (i * 3 + 2) _ (List.getElem?_eq_getElem (by rw [M.encDs_len]; omega))); have hown2 := OW.out.below hbx (by omega); have y3 : ∀ k, w2.frozen? ⟨b, k, none⟩ = false := (fun k => hown2.free rfl (k := 0) (by rw [M.encDs_len]; omega) k); have y4 := y3 (off + i * 3); have y5 := y3 (off + i * 3 + 1); have y6 := y3 (off + i * 3 + 2); obtain ⟨z0, z1, z2⟩ := (NB.out.below hb2).cells)
          go_roundw
          case rel =>
            refine ⟨i + 1, j + 1, xs.set i u, by omega, by omega, by rw [List.length_set]; exact HXL.out, by go_num, by go_num, by rw [M.take_set_succ _ _ _ (by omega), HTK.out, HN.out], by rw [M.drop_set_lt _ _ _ _ (by omega)]; exact M.drop_next HDR.out, ?_, ((((TR.out.trans (Turned.of_below hbx lo hi)).trans (Turned.setCell _ _ _ _ hb1 hbhi)).trans (Turned.setCell _ _ _ _ hb1 hbhi)).trans (Turned.setCell _ _ _ _ hb1 hbhi))⟩
            rw [HES.out]
            exact ((hown2.set_ rfl (i * 3) (.int .i64 u.1)).set_ rfl (i * 3 + 1) (.int .i64 u.2.1)).set_ rfl (i * 3 + 2) (.int .i64 u.2.2)
          case measure => simp [intOf]; omega
      · obtain rfl : j = l.length := by omega
        have hres : Hid (M.kept p l = xs.take i) := Lib.hid (by rw [HTK.out, List.take_of_length_le (Nat.le_refl _)])
        have hn : i < l.length := by omega
        have hlen : Hid ((M.kept p l).length = i) := Lib.hid (by rw [hres.out, List.length_take]; omega)
        have hsome : ∀ t, t < (l.length - i) * 3 → (wr.cell? ⟨b, off + i * 3 + t, none⟩).isSome = true := fun t ht => by
          rw [Nat.add_assoc, HCX.out _ _ (List.getElem?_eq_getElem (by rw [M.encDs_len]; omega))]; rfl
        have hcl := fun ty => run_clear_doors (P := Try.prog) wr 22 81 ty Try.underlying22 zeroD1 b (off + i * 3) (l.length - i) (c - i) (by omega) hsome (fun t _ => HFR.out _)
        have hE := OW.out.setCells (List.replicate ((l.length - i) * 3) (.int .i64 0)) (i * 3) wr
        have hT := TR.out.trans (Turned.setCells b hb1 hbhi (List.replicate ((l.length - i) * 3) (.int .i64 0)) (off + i * 3) wr)
        have hend : ∀ (k : Nat) u, (M.encDs (xs.take i))[k]? = some u → (M.over (M.encDs xs) (i * 3) (List.replicate ((l.length - i) * 3) (.int .i64 0)))[k]? = some u := by
          intro k u hu
          have hk : k < i * 3 := by
            have := (List.getElem?_eq_some_iff.1 hu).1
            rw [M.encDs_len, List.length_take] at this
            omega
          rw [M.over_get _ _ _ _ (by rw [M.encDs_len, List.length_replicate]; omega), if_pos hk]
          rw [M.encDs_take, List.getElem?_take, if_pos hk] at hu
          exact hu
        have HEND := Lib.hid (hE.less hend)
        have HT := Lib.hid hT
        have hcne : ¬ c = i := by omega
        have hi1 : (i : Int) ≤ (l.length : Int) := by omega
        have hi2 : i ≤ l.length := by omega
        have hi3 : i ≤ c := by omega
        clear hE hT hend hsome
        generalize List.replicate ((l.length - i) * 3) (Value.int .i64 0) = zs at *
        go_wp2_with fail
        go_ret
        exact ⟨by rw [hlen.out]; rfl, by rw [hres.out]; exact HEND.out, HT.out⟩
  · have HK : Hid (M.kept p l = l) := Lib.hid (M.kept_all hno)
    go_wp2_with fail
    go_ret
    exact ⟨by rw [HK.out]; rfl, by rw [HK.out]; exact H.out.below HB1.out hz, Turned.of_below HB1.out lo hi⟩
end C
end Go.Proofs.Ytoiapfdlbkncaaa
namespace Go.Proofs.Ytoiapfdlbkncaaa
open Go.RowKit
namespace M
def woNodeV (m : Mz) (x : Int) : Mz := if mzNodeB m x then noNode m x else C.mz0
theorem woNodeV_yes {m : Mz} {x : Int} (h : mzNodeB m x = true) : woNodeV m x = noNode m x := by unfold woNodeV; rw [if_pos h]
theorem woNodeV_no {m : Mz} {x : Int} (h : mzNodeB m x = false) : woNodeV m x = C.mz0 := by unfold woNodeV; rw [h]; rfl
theorem woNodeV_len (m : Mz) (x : Int) : (woNodeV m x).doors.length ≤ 1048576 ∧ (woNodeV m x).keys.length ≤ 1048576 := by
  cases h : mzNodeB m x with
  | false => rw [woNodeV_no h]; simp [C.mz0]
  | true =>
    rw [woNodeV_yes h]
    unfold mzNodeB at h
    rw [Bool.and_eq_true] at h
    have V := noNode_valid (valid_of h.1) x
    have h1 := V.few
    have h2 := V.keysLen
    have h3 := V.size12
    omega
theorem kept_node (m : Mz) (x : Int) : kept (fun d => atB d x) m.doors = (noNode m x).doors := rfl
end M
namespace C
set_option maxHeartbeats 3200000
set_option maxRecDepth 20000
theorem OwnAt.grownRow {lo hi B size n : Nat} {w w' : World} {T e : TypeId} {a : Option Addr} {xs ys : List Value} {v : Value} (h : OwnAt lo hi w T a xs) (ho : w.ownsRow B e size v n ys) (hne : e ≠ T) (hg : w.grownBy w' v.ownBlock) : OwnAt lo hi w' T a xs := by
  rcases h with h | ⟨g, off, cur, ha, h1, h2, hh, hc⟩
  · exact .inl h
  · refine .inr ⟨g, off, cur, ha, h1, h2, (hg.block g (heap_lt hh) ?_).trans hh, hc⟩
    intro he
    rcases ho.2 with ⟨rfl, _⟩ | ⟨g', cap', cur', rfl, _, hh', _⟩
    · simp [Value.ownBlock] at he
    · have : g' = g := by simpa [Value.ownBlock] using he.symm
      subst this
      rw [hh] at hh'
      injection hh' with hh'
      injection hh' with _ ht
      exact hne ht.symm
/-- a row's own block, or none where it is empty -/
theorem OwnAt.narrow2 {lo hi : Nat} {w : World} {T : TypeId} {a : Option Addr} {xs : List Value} (h : OwnAt lo hi w T a xs) :
    ∃ l2 h2, h2 ≤ w.heap.size ∧ OwnAt l2 h2 w T a xs ∧ (∀ w', Turned l2 h2 w w' → Turned lo hi w w') ∧ (∀ w' ys, ys.length ≤ xs.length → OwnAt l2 h2 w' T a ys → OwnAt lo hi w' T a ys) ∧
      ∀ U c ys l3 h3 w', T ≠ U → OwnAt l3 h3 w U c ys → Turned l2 h2 w w' → OwnAt l3 h3 w' U c ys := by
  rcases h with h | ⟨g, off, cur, ha, h1, h2, hh, hc⟩
  · refine ⟨0, 0, Nat.zero_le _, .inl h, fun w' t => ⟨t.os, t.tape, t.output, t.size, fun k hk _ => t.block k hk (.inr (Nat.zero_le _))⟩, fun w' ys hy _ => .inl (List.eq_nil_of_length_eq_zero (by rw [h] at hy; simpa using hy)), fun U c ys l3 h3 w' _ ho t => ?_⟩
    rcases ho with ho | ⟨g, off, cur, ha, h1, h2, hh, hc⟩
    · exact .inl ho
    · exact .inr ⟨g, off, cur, ha, h1, h2, (t.block g (heap_lt hh) (.inr (Nat.zero_le _))).trans hh, hc⟩
  · refine ⟨g, g + 1, heap_lt hh, .inr ⟨g, off, cur, ha, Nat.le_refl _, Nat.lt_succ_self _, hh, hc⟩, fun w' t => t.mono h1 h2, fun w' ys _ ho => ho.mono h1 h2, fun U c ys l3 h3 w' hne ho t => ?_⟩
    exact ho.other t fun cur' V f hf => by
      rw [hh] at hf
      injection hf with hf
      injection hf with _ e _
      rw [← e]
      exact hne
theorem woNode1_any (B : Nat) (x : Int) (q : M.Dr) (w : World) (hc : w.cell? ⟨B, 0, none⟩ = some (.int .i64 x)) (hB : B < w.heap.size) :
    Calls Try.prog 95 (#[.agg #[.int .i64 q.1, .int .i64 q.2.1, .int .i64 q.2.2]] ++ #[.pointer (some ⟨B, 0, none⟩)]) w fun e w' => e = .returned (.bool (M.atB q x)) ∧ Below w.heap.size w w' := by
  show Calls Try.prog 95 #[.agg #[.int .i64 q.1, .int .i64 q.2.1, .int .i64 q.2.2], .pointer (some ⟨B, 0, none⟩)] w _
  have hc2 : (w.alloc (.cells #[.int .i64 q.1, .int .i64 q.2.1, .int .i64 q.2.2] 81)).cell? ⟨B, 0, none⟩ = some (.int .i64 x) := ((below_alloc w _).cell (p := ⟨B, 0, none⟩) hB).trans hc
  obtain ⟨b0, b1, b2⟩ := (Box3.new (w := w) (g := w.heap.size) 81 (.int .i64 q.1) (.int .i64 q.2.1) (.int .i64 q.2.2) rfl).cells
  by_cases h1 : q.1 = x
  · have hf : Hid (M.atB q x = true) := Lib.hid (decide_eq_true (.inl h1))
    have e1 : (q.1 == x) = true := by simpa using h1
    clear h1
    go_enter Try.func95, Try.ntmps95
    go_wp2_with fail
    go_ret
    exact ⟨by rw [hf.out]; rfl, below_alloc _ _⟩
  · have hf : Hid (M.atB q x = (q.2.1 == x)) := Lib.hid (by unfold M.atB; rw [Bool.eq_iff_iff, decide_eq_true_iff, beq_iff_eq]; exact ⟨fun h => h.resolve_left h1, .inr⟩)
    have e1 : (q.1 == x) = false := by simpa using h1
    clear h1
    go_enter Try.func95, Try.ntmps95
    go_wp2_with fail
    go_ret
    exact ⟨by rw [hf.out]; rfl, below_alloc _ _⟩
theorem implWoNode_lw (w : World) (lo hi : Nat) (m : M.Mz) (a b : Option Addr) (c d : Nat) (h : MzIn lo hi w m a c b d) (hz : hi ≤ w.heap.size) (h1 : m.doors.length ≤ 1048576) (h2 : m.keys.length ≤ 1048576) (x : Int) (_x1 : -9223372036854775808 ≤ x) (_x2 : x ≤ 9223372036854775807) :
    Calls Try.prog 46 #[.agg #[.int .i64 m.size, .slice a m.doors.length c, .slice b m.keys.length d], .int .i64 x] w (MzOkPost w (M.woNodeV m x) (M.mzNodeB m x)) := by
  have H := Lib.hid h
  clear h
  go_enter Try.func46, Try.ntmps46
  go_wp2_with fail
  refine named ?_
  intro W hW
  have hb : Below w.heap.size w W := by rw [hW]; exact ((below_alloc _ _).alloc (by simp) _).alloc (by simp; omega) _
  have x1 : Box3 W w.heap.size 29 (.int .i64 m.size) (.slice a m.doors.length c) (.slice b m.keys.length d) := by rw [hW]; exact ((Box3.new _ _ _ _ rfl).alloc _).alloc _
  have y1 : Box3 W (w.heap.size + 1 + 1) 29 (.int .i64 0) (.slice none 0 0) (.slice none 0 0) := by rw [hW]; exact Box3.new _ _ _ _ (by simp)
  have i1 : Box1 W (w.heap.size + 1) 3 (.int .i64 x) := by rw [hW]; exact (Box1.new _ _ (by simp)).alloc _
  clear hW
  have hzw := hb.size
  have hwl := y1.lt
  refine (isMaze_any W lo hi m a b c d (H.out.below hb hz) (by omega)).mono ?_
  rintro e w1 ⟨rfl, hb1⟩
  have X1 := Lib.hid (x1.below hb1)
  have Y1 := Lib.hid (y1.below hb1)
  have I1 := Lib.hid (show Box1 w1 (w.heap.size + 1) 3 (.int .i64 x) from (hb1.block _ i1.lt).trans i1)
  have hbl := Y1.out.lt
  have HB1 := Lib.hid (hb.trans (hb1.mono hzw))
  have hz1w := hb1.size
  clear hb hb1 x1 y1 i1
  obtain ⟨c0, c1, c2⟩ := X1.out.cells
  have ci := cell_of_row w1 (w.heap.size + 1) 0 _ _ _ I1.out
  obtain ⟨k0, k1, k2⟩ := Y1.out.cells
  obtain ⟨f0, f1, f2⟩ := Y1.out.free
  cases q0 : M.mazeB m with
  | false =>
    have HF : Hid (M.mzNodeB m x = false) := Lib.hid (by unfold M.mzNodeB; rw [q0]; rfl)
    have HV := Lib.hid (M.woNodeV_no HF.out)
    clear q0
    go_wp2_with fail
    refine bodyPost_ret (v := .tuple #[.agg #[.int .i64 0, .slice none 0 0, .slice none 0 0], .bool false]) (by simp [results, Try.results46, go_sem, k0, k1, k2]) rfl ?_
    rw [HF.out, HV.out]
    exact mzNo_endAt HB1.out (by omega)
  | true =>
    have HM := Lib.hid q0
    have HVA := Lib.hid (M.valid_of q0)
    clear q0
    go_wp2_with fail
    refine (hasNode_b m _ _ _ _ _ _).mono ?_
    rintro e W2 ⟨rfl, hb2⟩
    have X2 := Lib.hid (X1.out.below hb2)
    have Y2 := Lib.hid (Y1.out.below hb2)
    have I2 := Lib.hid (show Box1 W2 (w.heap.size + 1) 3 (.int .i64 x) from (hb2.block _ I1.out.lt).trans I1.out)
    have HB2 := Lib.hid (HB1.out.trans (hb2.mono (by omega)))
    have hz2w := hb2.size
    clear hb2 c0 c1 c2 ci k0 k1 k2 f0 f1 f2
    obtain ⟨c0, c1, c2⟩ := X2.out.cells
    obtain ⟨k0, k1, k2⟩ := Y2.out.cells
    obtain ⟨f0, f1, f2⟩ := Y2.out.free
    cases q1 : M.nodeB m.size x with
    | false =>
      have HF : Hid (M.mzNodeB m x = false) := Lib.hid (by unfold M.mzNodeB; rw [q1, Bool.and_false])
      have HV := Lib.hid (M.woNodeV_no HF.out)
      clear q1
      go_wp2_with fail
      refine bodyPost_ret (v := .tuple #[.agg #[.int .i64 0, .slice none 0 0, .slice none 0 0], .bool false]) (by simp [results, Try.results46, go_sem, k0, k1, k2]) rfl ?_
      rw [HF.out, HV.out]
      exact mzNo_endAt HB2.out (by omega)
    | true =>
      have HF : Hid (M.mzNodeB m x = true) := Lib.hid (M.mzNode_yes HM.out q1)
      have HV := Lib.hid (M.woNodeV_yes HF.out)
      have v30 := HVA.out.few
      have hwl2 := Y2.out.lt
      have hil2 := I2.out.lt
      clear q1
      go_wp2_with fail
      refine (clone_any W2 lo hi m a b c d (H.out.below HB2.out hz) (by omega) h1 h2).mono ?_
      rintro e w3 ⟨ca, cc, cb, cd, rfl, ho, hb3⟩
      have hz3w := hb3.size
      have ho3 := HB2.out.trans (hb3.mono (by omega))
      go_wp2_with fail
      refine named ?_
      intro W4 hW4
      have hb4 : Below w3.heap.size w3 W4 := by rw [hW4]; exact below_alloc _ _
      have t4 : Box3 W4 w3.heap.size 29 (.int .i64 m.size) (.slice ca m.doors.length cc) (.slice cb m.keys.length cd) := by rw [hW4]; exact Box3.new _ _ _ _ rfl
      have hb24 := hb3.trans (hb4.mono hb3.size)
      have Y4 := Lib.hid (Y2.out.below hb24)
      have T4 := Lib.hid t4
      have O4 := Lib.hid (ho.below hb4 (Nat.le_refl _))
      have HB4 := Lib.hid (ho3.trans (hb4.mono ho3.size))
      have hz4 := hb4.size
      have htl := t4.lt
      have hci : W4.cell? ⟨w.heap.size + 1, 0, none⟩ = some (.int .i64 x) := (hb24.cell (p := ⟨w.heap.size + 1, 0, none⟩) hil2).trans (cell_of_row W2 (w.heap.size + 1) 0 _ _ _ I2.out)
      obtain ⟨l2, e2, he2, n1, n2, n3, n4⟩ := O4.out.doors.narrow2
      have CD := deleteFD_any 95 #[.pointer (some ⟨w.heap.size + 1, 0, none⟩)] (fun q => M.atB q x) (enters_of Try.func95 (by kernel_rfl) rfl) W4 l2 e2 ca cc m.doors
        (fun W' q ht => woNode1_any (w.heap.size + 1) x q W' ((World.cell?_of_block ((n2 W' ht).block (w.heap.size + 1) (by omega) (.inl (by omega)))).trans hci) (by have := ht.size; omega)) n1 he2 (by omega) O4.out.c1 O4.out.c2
      rw [M.kept_node] at CD
      have hlen : (M.noNode m x).doors.length ≤ m.doors.length := List.length_filter_le _ _
      have N2 := Lib.hid n2
      have N3 := Lib.hid n3
      have N4 := Lib.hid n4
      have hne4 : w.heap.size + 1 + 1 ≠ w3.heap.size := by omega
      clear hW4 hb3 hb4 hb24 ho ho3 t4 c0 c1 c2 k0 k1 k2 f0 f1 f2 hci n1 n2 n3 n4
      refine CD.mono ?_
      rintro e w5 ⟨rfl, ho5, ht5'⟩
      have ht5 := N2.out w5 ht5'
      have hz5 := ht5.size
      have t5 := T4.out.turned ht5 (.inr (Nat.le_refl _))
      have y5 := Y4.out.turned ht5 (.inl (by omega))
      have od5 := N3.out w5 _ (by rw [M.encDs_len, M.encDs_len]; omega) ho5
      have ok5 := N4.out _ _ _ _ _ w5 (by decide) O4.out.keys ht5'
      have hb5 := Below.thenTurned HB4.out ht5 (by omega) HB4.out.size
      have hmo : MzOwn W2.heap.size w3.heap.size (w5.setCell ⟨w3.heap.size, 1, none⟩ (.slice ca (M.noNode m x).doors.length cc)) (M.noNode m x) ca cc cb cd :=
        ⟨od5.turned (Turned.setCell w5 w3.heap.size 1 (.slice ca (M.noNode m x).doors.length cc) (Nat.le_refl _) (Nat.lt_succ_self _)) (by omega) (.inl (Nat.le_refl _)), ok5.turned (Turned.setCell w5 w3.heap.size 1 (.slice ca (M.noNode m x).doors.length cc) (Nat.le_refl _) (Nat.lt_succ_self _)) (by omega) (.inl (Nat.le_refl _)), Nat.le_trans hlen O4.out.c1, O4.out.c2, O4.out.d1, O4.out.d2⟩
      have HMO := Lib.hid hmo
      have HB6 := Lib.hid (hb5.setCell (p := ⟨w3.heap.size, 1, none⟩) (by show w.heap.size ≤ w3.heap.size; omega) (.slice ca (M.noNode m x).doors.length cc))
      obtain ⟨c0, c1, c2⟩ := t5.cells
      obtain ⟨g0, g1, g2⟩ := t5.free
      obtain ⟨r0, r1, r2⟩ := (t5.set1 (.slice ca (M.noNode m x).doors.length cc)).cells
      have y6 := y5.other hne4 1 (.slice ca (M.noNode m x).doors.length cc)
      obtain ⟨k0, k1, k2⟩ := y6.cells
      obtain ⟨f0, f1, f2⟩ := y6.free
      obtain ⟨q0, q1, q2⟩ := (y6.setAll (.int .i64 m.size) (.slice ca (M.noNode m x).doors.length cc) (.slice cb m.keys.length cd)).cells
      have hs6 : w5.heap.size ≤ (w5.setCell ⟨w3.heap.size, 1, none⟩ (.slice ca (M.noNode m x).doors.length cc)).heap.size := by simp [World.setCell]
      clear hmo ht5 ht5' t5 y5 y6 od5 ok5 hb5 ho5 CD
      go_wp2_with fail
      refine bodyPost_ret (v := .tuple #[.agg #[.int .i64 m.size, .slice ca (M.noNode m x).doors.length cc, .slice cb m.keys.length cd], .bool true]) (by simp [results, Try.results46, go_sem, q0, q1, q2]) rfl ?_
      rw [HF.out, HV.out]
      exact mzYes_endAt (m := M.noNode m x) (lo := W2.heap.size) (hi := w3.heap.size) HB6.out HMO.out (.inl (by omega)) (by omega) (by omega) (by omega) rfl rfl
structure NSt (w : World) (m : M.Mz) (a b : Option Addr) (c d L bg : Nat) (cb : Option Addr) (cd : Nat) (wr : World) (va : Option Addr) (vc : Nat) (ds : List M.Dr) : Prop where
  row : wr.ownsRow bg 81 3 (.slice va ds.length vc) ds.length (M.encDs ds)
  box : Box3 wr w.heap.size 29 (.int .i64 m.size) (.slice a m.doors.length c) (.slice b m.keys.length d)
  res : Box3 wr (w.heap.size + 1) 29 (.int .i64 0) (.slice none 0 0) (.slice none 0 0)
  out : Box3 wr bg 29 (.int .i64 m.size) (.slice va ds.length vc) (.slice cb m.keys.length cd)
  keys : OwnAt L bg wr 3 cb (M.encIs m.keys)
  low : Below w.heap.size w wr
theorem l3Node_any (w : World) (lo hi : Nat) (m : M.Mz) (a b : Option Addr) (c d : Nat) (h : MzIn lo hi w m a c b d) (hz : hi ≤ w.heap.size) (h1 : m.doors.length ≤ 1000) (h2 : m.keys.length ≤ 1048576) (x : Int) :
    Calls Try.prog 85 #[.agg #[.int .i64 m.size, .slice a m.doors.length c, .slice b m.keys.length d], .int .i64 x] w (MzPost w (M.noNode m x)) := by
  obtain ⟨i0, hi0, hz0, hz1, hzb⟩ := info_parts infoD
  have H := Lib.hid h
  clear h
  go_enter Try.func85, Try.ntmps85
  go_wp2_with fail
  refine named ?_
  intro W hW
  have hb : Below w.heap.size w W := by rw [hW]; exact (below_alloc _ _).alloc (by simp) _
  have x1 : Box3 W w.heap.size 29 (.int .i64 m.size) (.slice a m.doors.length c) (.slice b m.keys.length d) := by rw [hW]; exact (Box3.new _ _ _ _ rfl).alloc _
  have y1 : Box3 W (w.heap.size + 1) 29 (.int .i64 0) (.slice none 0 0) (.slice none 0 0) := by rw [hW]; exact Box3.new _ _ _ _ (by simp)
  clear hW
  have hzw := hb.size
  have hwl := y1.lt
  refine (l2Own_any W lo hi m a b c d (H.out.below hb hz) (by omega) (by omega) h2).mono ?_
  rintro e w3 ⟨ca, cc, cb, cd, rfl, ho, hb3⟩
  have hz3w := hb3.size
  have ho3 := hb.trans (hb3.mono (by omega))
  have hd1 := ho.d1
  have hd2 := ho.d2
  go_wp2_with fail
  refine wp_named ?_
  intro W4 hW4
  have hb4 : Below w3.heap.size w3 W4 := by rw [hW4]; exact (below_alloc _ _).alloc (by simp) _
  have t4 : Box3 W4 w3.heap.size 29 (.int .i64 m.size) (.slice (some ⟨w3.heap.size + 1, 0, none⟩) 0 0) (.slice cb m.keys.length cd) := by rw [hW4]; exact (Box3.new _ _ _ _ rfl).alloc _
  have o4 : W4.ownsRow w3.heap.size 81 3 (.slice (some ⟨w3.heap.size + 1, 0, none⟩) 0 0) 0 (M.encDs []) := by
    rw [hW4]
    have := ownsRow_empty (w3.alloc (.cells #[.int .i64 m.size, .slice (some ⟨w3.heap.size + 1, 0, none⟩) 0 0, .slice cb m.keys.length cd] 29)) w3.heap.size 81 3 (by simp)
    rw [World.size_alloc] at this
    exact this
  have ST := Lib.hid (show NSt w m a b c d W.heap.size w3.heap.size cb cd W4 (some ⟨w3.heap.size + 1, 0, none⟩) 0 ((m.doors.take 0).filter fun q => !M.atB q x) from
    ⟨o4, (x1.below hb3).below hb4, (y1.below hb3).below hb4, t4, ho.keys.below hb4 (Nat.le_refl _), ho3.trans (hb4.mono ho3.size)⟩)
  clear hW4 hb4 t4 o4 hb hb3 ho ho3 x1 y1
  go_loopw [6] (fun v6 wr => ∃ (k : Nat) (va : Option Addr) (vc : Nat), k ≤ m.doors.length ∧ v6 = .int .i64 k ∧ NSt w m a b c d W.heap.size w3.heap.size cb cd wr va vc ((m.doors.take k).filter fun q => !M.atB q x)) (fun v6 _ => m.doors.length - (intOf v6).toNat)
  case atStart => exact ⟨0, _, _, Nat.zero_le _, rfl, ST.out⟩
  case round =>
    obtain ⟨k, va, vc, hk, rfl, hst⟩ := hrel
    have SR := Lib.hid hst
    have hzr := hst.low.size
    have hol := hst.out.lt
    obtain ⟨c0, c1, c2⟩ := hst.box.cells
    by_cases hkl : k < m.doors.length
    · obtain ⟨db, off, hda, _, hdb, hc0⟩ := (H.out.doors.below hst.low hz).at_ (k := k * 3) (by rw [M.encDs_len]; omega)
      have d0 := hc0 _ _ (M.encDs_at0 hkl)
      have d1 : wr.cell? ⟨db, off + k * 3 + 1, none⟩ = some (.int .i64 m.doors[k].2.1) := hc0 _ _ (M.encDs_at1 hkl)
      have d2 : wr.cell? ⟨db, off + k * 3 + 2, none⟩ = some (.int .i64 m.doors[k].2.2) := hc0 _ _ (M.encDs_at2 hkl)
      subst hda
      have hkd : k < c := by have := H.out.c1; omega
      have hfl : ((m.doors.take k).filter fun q => !M.atB q x).length ≤ k := Nat.le_trans (List.length_filter_le _ _) (by simp; omega)
      have HY := Lib.hid (fun hq : M.atB m.doors[k] x = false => M.noNode_take_yes (x := x) hkl hq)
      have HN := Lib.hid (fun hq : M.atB m.doors[k] x = true => M.noNode_take_no (x := x) hkl hq)
      clear hc0 hst
      cases hq : M.atB m.doors[k] x with
      | true =>
        have HE := Lib.hid (HN.out hq)
        unfold M.atB at hq
        rw [decide_eq_true_iff] at hq
        rcases Decidable.em (m.doors[k].1 = x) with t1 | t1
        · have e1 : (m.doors[k].1 != x) = false := by simpa using t1
          clear hq t1
          go_wp2_with fail
          go_roundw
          case rel => exact ⟨k + 1, va, vc, by omega, by go_num, by rw [HE.out]; exact SR.out⟩
          case measure => simp [intOf]; omega
        · have e1 : (m.doors[k].1 != x) = true := by simpa using t1
          have e2 : (m.doors[k].2.1 != x) = false := by simpa using hq.resolve_left t1
          clear hq t1
          go_wp2_with fail
          go_roundw
          case rel => exact ⟨k + 1, va, vc, by omega, by go_num, by rw [HE.out]; exact SR.out⟩
          case measure => simp [intOf]; omega
      | false =>
        have HE := Lib.hid (HY.out hq)
        unfold M.atB at hq
        rw [decide_eq_false_iff_not] at hq
        have e1 : (m.doors[k].1 != x) = true := by simpa using fun h => hq (.inl h)
        have e2 : (m.doors[k].2.1 != x) = true := by simpa using fun h => hq (.inr h)
        clear hq
        generalize hds : ((m.doors.take k).filter fun q => !M.atB q x) = ds at *
        have o5 : wr.drew.ownsRow w3.heap.size 81 3 (.slice va ds.length vc) ds.length (M.encDs ds) := SR.out.row
        have t5 : Box3 wr.drew w3.heap.size 29 (.int .i64 m.size) (.slice va ds.length vc) (.slice cb m.keys.length cd) := SR.out.out
        obtain ⟨s0, s1, s2⟩ := SR.out.out.cells
        have O5 := Lib.hid o5
        have T5 := Lib.hid t5
        clear hds o5 t5
        go_wp2_with fail
        go_region_law (first
          | (have o5 := O5.out; have t5 := T5.out; refine step_append_own rfl (.tmp 37) (.tmp 43) 22 rfl w3.heap.size 81 i0 (.agg #[.int .i64 0, .int .i64 0, .int .i64 0]) 3 24 Try.underlying22 hi0 hz0 hz1 hzb rfl (by decide) _ _ _ (o5.alloc _) (by first | (simp [Act.eval]; done) | simp [Act.eval, Act.put]) ⟨wr.heap.size, 0, none⟩ 1 1 (M.encD m.doors[k]) (by first | (simp [Act.eval]; done) | simp [Act.eval, Act.put]) (show (M.encD m.doors[k]).length = 1 * 3 from rfl) (news3 (Box3.new _ _ _ _ rfl)) (encD_one _) (by unfold maxLen; omega) (by omega) (by simp; omega) ?_; intro v6 w6 hown6 hgrow6 hnil6; have bx6 := (t5.alloc _).grown hgrow6 (own_ne_box o5 t5 (by decide)); obtain ⟨va2, vc2, hva2, hv1, hv2, hv3⟩ := own_slice hown6; subst hva2; obtain ⟨s0, s1, s2⟩ := bx6.cells; obtain ⟨f0, f1, f2⟩ := bx6.free; have hl6 := bx6.lt))
        all_goals
          have hnn : (ds ++ [m.doors[k]]).length = ds.length + 1 := by rw [List.length_append]; rfl
          have hrow : (w6.setCell ⟨w3.heap.size, 1, none⟩ (.slice va2 (ds.length + 1) vc2)).ownsRow w3.heap.size 81 3 (.slice va2 (ds ++ [m.doors[k]]).length vc2) (ds ++ [m.doors[k]]).length (M.encDs (ds ++ [m.doors[k]])) := by
            rw [hnn, M.encDs_append, encDs_single]
            exact own_setBox hown6 bx6 (by decide) 1 _
          have xb : Box3 wr.drew w.heap.size 29 (.int .i64 m.size) (.slice (some ⟨db, off, none⟩) m.doors.length c) (.slice b m.keys.length d) := SR.out.box
          have yb : Box3 wr.drew (w.heap.size + 1) 29 (.int .i64 0) (.slice none 0 0) (.slice none 0 0) := SR.out.res
          have kb : OwnAt W.heap.size w3.heap.size wr.drew 3 cb (M.encIs m.keys) := SR.out.keys.below (below_drawn wr 1) (by omega)
          have lb := SR.out.low.drew.alloc (show w.heap.size ≤ wr.drew.heap.size from hzr) (.cells #[.int .i64 m.doors[k].1, .int .i64 m.doors[k].2.1, .int .i64 m.doors[k].2.2] 81)
          have hnew : NSt w m (some ⟨db, off, none⟩) b c d W.heap.size w3.heap.size cb cd (w6.setCell ⟨w3.heap.size, 1, none⟩ (.slice va2 (ds.length + 1) vc2)) va2 vc2 (ds ++ [m.doors[k]]) :=
            ⟨hrow, ((xb.alloc _).grown hgrow6 (own_ne_box o5 xb (by decide))).other (by omega) 1 _, ((yb.alloc _).grown hgrow6 (own_ne_box o5 yb (by decide))).other (by omega) 1 _, by rw [hnn]; exact bx6.set1 _,
              ((kb.below (below_alloc _ _) (by show w3.heap.size ≤ wr.heap.size; omega)).grownRow (o5.alloc _) (by decide) hgrow6).turned (Turned.setCell w6 w3.heap.size 1 (.slice va2 (ds.length + 1) vc2) (Nat.le_refl _) (Nat.lt_succ_self _)) (by omega) (.inl (Nat.le_refl _)),
              (lb.grown hgrow6 (by show w.heap.size ≤ (wr.drew.alloc _).heap.size; simp; omega) (fun g hg => by have := own_base o5 g hg; omega)).setCell (p := ⟨w3.heap.size, 1, none⟩) (by show w.heap.size ≤ w3.heap.size; omega) _⟩
          have HNEW := Lib.hid hnew
          clear hrow xb yb kb lb hnew hgrow6 hown6 hnil6
          go_wp2_with fail
          go_roundw
          case rel => exact ⟨k + 1, va2, vc2, by omega, by go_num, by rw [HE.out]; exact HNEW.out⟩
          case measure => simp [intOf]; omega
    · obtain rfl : k = m.doors.length := by omega
      have hfin := SR.out
      rw [List.take_of_length_le (Nat.le_refl _)] at hfin
      obtain ⟨s0, s1, s2⟩ := hfin.out.cells
      obtain ⟨k0, k1, k2⟩ := hfin.res.cells
      obtain ⟨f0, f1, f2⟩ := hfin.res.free
      obtain ⟨r0, r1, r2⟩ := (hfin.res.setAll (.int .i64 m.size) (.slice va (m.doors.filter fun q => !M.atB q x).length vc) (.slice cb m.keys.length cd)).cells
      obtain ⟨va', vc', hve, hv1, hv2, _⟩ := own_slice hfin.row
      injection hve with hva _ hvc
      rw [← hvc] at hv1 hv2
      clear hva hvc
      have HFI := Lib.hid hfin
      clear hst hfin
      go_wp2_with fail
      refine bodyPost_ret (v := .agg #[.int .i64 m.size, .slice va (m.doors.filter fun q => !M.atB q x).length vc, .slice cb m.keys.length cd]) (by simp [results, Try.results85, go_sem, r0, r1, r2]) rfl ?_
      exact mz_endAt (m := M.noNode m x) (lo := W.heap.size) (hi := wr.heap.size) (r := w.heap.size + 1) HFI.out.low ⟨(OwnAt.of_own HFI.out.row).mono (by omega) (Nat.le_refl _), HFI.out.keys.mono (Nat.le_refl _) (by omega), hv1, hv2, hd1, hd2⟩ (.inl hwl) (by omega) (by omega) (Nat.le_refl _) rfl rfl
theorem specWoNode_lw (w : World) (lo hi : Nat) (m : M.Mz) (a b : Option Addr) (c d : Nat) (h : MzIn lo hi w m a c b d) (hz : hi ≤ w.heap.size) (h1 : m.doors.length ≤ 1048576) (h2 : m.keys.length ≤ 1048576) (x : Int) (_x1 : -9223372036854775808 ≤ x) (_x2 : x ≤ 9223372036854775807) :
    Calls Try.prog 47 #[.agg #[.int .i64 m.size, .slice a m.doors.length c, .slice b m.keys.length d], .int .i64 x] w (MzOkPost w (M.woNodeV m x) (M.mzNodeB m x)) := by
  have H := Lib.hid h
  clear h
  go_enter Try.func47, Try.ntmps47
  go_wp2_with fail
  refine named ?_
  intro W hW
  have hb : Below w.heap.size w W := by rw [hW]; exact (below_alloc _ _).alloc (by simp) _
  have x1 : Box3 W w.heap.size 29 (.int .i64 m.size) (.slice a m.doors.length c) (.slice b m.keys.length d) := by rw [hW]; exact (Box3.new _ _ _ _ rfl).alloc _
  have y1 : Box3 W (w.heap.size + 1) 29 (.int .i64 0) (.slice none 0 0) (.slice none 0 0) := by rw [hW]; exact Box3.new _ _ _ _ (by simp)
  clear hW
  have hzw := hb.size
  refine (l2Node_any W lo hi m a b c d x (H.out.below hb hz) (by omega)).mono ?_
  rintro e W2 ⟨rfl, hb1⟩
  have X2 := Lib.hid (x1.below hb1)
  have Y2 := Lib.hid (y1.below hb1)
  have hbl := Y2.out.lt
  have hwl := y1.lt
  have HB2 := Lib.hid (hb.trans (hb1.mono hzw))
  have hz1w := hb1.size
  clear hb hb1 x1 y1
  obtain ⟨c0, c1, c2⟩ := X2.out.cells
  obtain ⟨k0, k1, k2⟩ := Y2.out.cells
  obtain ⟨f0, f1, f2⟩ := Y2.out.free
  cases q0 : M.mzNodeB m x with
  | false =>
    have HF := Lib.hid q0
    have HV := Lib.hid (M.woNodeV_no HF.out)
    clear q0
    go_wp2_with fail
    refine bodyPost_ret (v := .tuple #[.agg #[.int .i64 0, .slice none 0 0, .slice none 0 0], .bool false]) (by simp [results, Try.results47, go_sem, k0, k1, k2]) rfl ?_
    rw [HF.out, HV.out]
    exact mzNo_endAt HB2.out (by omega)
  | true =>
    have hmx : M.mazeB m = true ∧ M.nodeB m.size x = true := by unfold M.mzNodeB at q0; rwa [Bool.and_eq_true] at q0
    have HVA := Lib.hid (M.valid_of hmx.1)
    have hx : 0 ≤ x ∧ x < m.size := by have := hmx.2; unfold M.nodeB at this; exact decide_eq_true_iff.1 this
    have HF := Lib.hid q0
    have HV := Lib.hid (M.woNodeV_yes HF.out)
    have v30 := HVA.out.few
    have hkl := HVA.out.keysLen
    clear q0 hmx
    go_wp2_with fail
    refine (l3Node_any W2 lo hi m a b c d (H.out.below HB2.out hz) (by omega) (by omega) h2 x).mono ?_
    rintro e w3 ⟨ca, cc, cb, cd, rfl, ho, hb3⟩
    have hz3w := hb3.size
    have Y3 := Lib.hid (Y2.out.below hb3)
    have HB3 := Lib.hid (HB2.out.trans (hb3.mono (by omega)))
    have HO := Lib.hid ho
    have HE : Hid (M.noNode m x = M.woNodeV m x) := Lib.hid (by rw [HV.out])
    clear hb3 ho k0 k1 k2 f0 f1 f2
    generalize M.noNode m x = mv at *
    obtain ⟨k0, k1, k2⟩ := Y3.out.cells
    obtain ⟨f0, f1, f2⟩ := Y3.out.free
    obtain ⟨r0, r1, r2⟩ := (Y3.out.setAll (.int .i64 mv.size) (.slice ca mv.doors.length cc) (.slice cb mv.keys.length cd)).cells
    go_wp2_with fail
    refine bodyPost_ret (v := .tuple #[.agg #[.int .i64 mv.size, .slice ca mv.doors.length cc, .slice cb mv.keys.length cd], .bool true]) (by simp [results, Try.results47, go_sem, r0, r1, r2]) rfl ?_
    rw [HF.out, ← HE.out]
    exact mzYes_endAt (lo := W2.heap.size) (hi := w3.heap.size) HB3.out HO.out (.inl hbl) (by omega) (by omega) (Nat.le_refl _) rfl rfl
end C
end Go.Proofs.Ytoiapfdlbkncaaa
