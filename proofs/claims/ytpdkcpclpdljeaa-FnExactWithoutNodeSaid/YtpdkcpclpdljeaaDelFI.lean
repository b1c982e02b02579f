/-
  CONTRACT of slices.DeleteFunc at ints: the row without those of which a predicate holds, in place; what lay elsewhere stays. Condition: the row may be written, at most 1000 of them; the predicate answers p and leaves memory as it is.
-/
import Derived.Test.YtpdkcpclpdljeaaDel
import Derived.Test.YtpdkcpclpdljeaaIdxI
import Derived.IntWalk
namespace Go.Proofs.Ytpdkcpclpdljeaa
open Go.RowKit
namespace M
/-- those of which p does not hold -/
def kept {α : Type} (p : α → Bool) (l : List α) : List α := l.filter fun x => !p x
theorem kept_all {α : Type} {p : α → Bool} {l : List α} (h : ∀ j (hj : j < l.length), p l[j] = false) : kept p l = l := by
  unfold kept
  rw [List.filter_eq_self]
  intro x hx
  obtain ⟨j, hj, rfl⟩ := List.mem_iff_getElem.1 hx
  rw [h j hj]; rfl
theorem kept_yes {α : Type} {p : α → Bool} {l : List α} {k : Nat} (hk : k < l.length) (h : p l[k] = false) : kept p (l.take (k + 1)) = kept p (l.take k) ++ [l[k]] := by
  unfold kept
  rw [List.take_succ_eq_append_getElem hk, List.filter_append, List.filter_cons_of_pos (p := fun x => !p x) (by show (!p l[k]) = true; rw [h]; rfl)]
  rfl
theorem kept_no {α : Type} {p : α → Bool} {l : List α} {k : Nat} (hk : k < l.length) (h : p l[k] = true) : kept p (l.take (k + 1)) = kept p (l.take k) := by
  unfold kept
  rw [List.take_succ_eq_append_getElem hk, List.filter_append, List.filter_cons_of_neg (p := fun x => !p x) (by show ¬ (!p l[k]) = true; rw [h]; decide)]
  simp
theorem kept_first {α : Type} {p : α → Bool} {l : List α} {k : Nat} (hk : k < l.length) (h : p l[k] = true) (hn : ∀ j (hj : j < l.length), j < k → p l[j] = false) : l.take k = kept p (l.take (k + 1)) := by
  rw [kept_no hk h]
  exact (kept_all fun j hj => by
    rw [List.length_take] at hj
    rw [List.getElem_take]
    exact hn j (by omega) (by omega)).symm
theorem drop_set_lt {α : Type} (xs : List α) (i j : Nat) (u : α) (h : i < j) : (xs.set i u).drop j = xs.drop j := by
  refine List.ext_getElem? fun k => ?_
  rw [List.getElem?_drop, List.getElem?_drop, List.getElem?_set_ne (by omega)]
theorem take_set_succ {α : Type} (xs : List α) (i : Nat) (u : α) (h : i < xs.length) : (xs.set i u).take (i + 1) = xs.take i ++ [u] := by
  rw [List.take_succ_eq_append_getElem (by simpa using h), List.take_set_of_le (Nat.le_refl _), List.getElem_set_self]
theorem drop_next {α : Type} {xs l : List α} {j : Nat} (h : xs.drop j = l.drop j) : xs.drop (j + 1) = l.drop (j + 1) := by
  rw [← List.drop_drop, ← List.drop_drop, h]
end M
namespace C
set_option maxHeartbeats 3200000
set_option maxRecDepth 20000
theorem zeroI1 (w : World) : (zeroValue 3).run Try.prog w = .ok (.int .i64 0) w := by kernel_rfl
def PredITurn (g : Nat) (lb : Array Value) (p : Int → Bool) (lo hi : Nat) (w : World) : Prop :=
  ∀ W x, Turned lo hi w W → Calls Try.prog g (#[.int .i64 x] ++ lb) W fun e w' => e = .returned (.bool (p x)) ∧ Below W.heap.size W w'
theorem deleteFI_any (g : Nat) (lb : Array Value) (p : Int → Bool) (eg : ∀ args w, (callFunc g args).run Try.prog w = .ok (.enter g args) w) (w : World) (lo hi : Nat) (a : Option Addr) (c : Nat) (l : List Int)
    (hp : PredITurn g lb p lo hi w) (h : OwnAt lo hi w 3 a (M.encIs l)) (hz : hi ≤ w.heap.size) (hl : l.length ≤ 1000) (hc1 : l.length ≤ c) (hc2 : c ≤ 9223372036854775807) :
    Calls Try.prog 75 #[.slice a l.length c, .func (.func g) #[] lb] w fun e w' => e = .returned (.slice a (M.kept p l).length c) ∧ OwnAt lo hi w' 3 a (M.encIs (M.kept p l)) ∧ Turned lo hi w w' := by
  have CI := indexI_any g lb p eg w lo hi a c l (fun W x hb => hp W x (Turned.of_below hb lo hi)) h.row hz (by omega)
  have H := Lib.hid h
  have HP := Lib.hid hp
  clear h hp
  go_enter Try.func75, Try.ntmps75
  go_wp2_with fail
  refine CI.mono ?_
  rintro e w1 ⟨⟨i, rfl, hi0⟩, hb1⟩
  have HB1 := Lib.hid hb1
  have hz1 := hb1.size
  clear hb1 CI
  rcases hi0 with ⟨k0, hk0, rfl, hpk, hno⟩ | ⟨rfl, hno⟩
  · have hk0' : ¬ (k0 : Int) = -1 := by omega
    have hkb : ((k0 : Int) == -1) = false := by rw [beq_eq_false_iff_ne]; exact hk0'
    have HK := Lib.hid (M.kept_first hk0 hpk hno)
    have HPK := Lib.hid hpk
    obtain ⟨b, off, ha, hb1, hbhi, _⟩ := H.out.row.at_ (k := 0) (by rw [M.encIs_len]; omega)
    subst ha
    clear hpk hno
    go_wp2_with fail
    go_loopw [5, 6, 7] (fun v5 v6 _ wr => ∃ (i j : Nat) (xs : List Int), i < j ∧ j ≤ l.length ∧ xs.length = l.length ∧ v5 = .int .i64 i ∧ v6 = .int .i64 j ∧ xs.take i = M.kept p (l.take j) ∧ xs.drop j = l.drop j ∧ OwnAt lo hi wr 3 (some ⟨b, off, none⟩) (M.encIs xs) ∧ Turned lo hi w wr) (fun _ v6 _ _ => l.length - (intOf v6).toNat)
    case atStart => exact ⟨k0, k0 + 1, l, by omega, by omega, rfl, rfl, by go_num, HK.out, rfl, H.out.below HB1.out hz, Turned.of_below HB1.out lo hi⟩
    case round =>
      obtain ⟨i, j, xs, hij, hjl, hxl, rfl, rfl, htk, hdr, hown, htr⟩ := hrel
      have OW := Lib.hid hown
      have TR := Lib.hid htr
      have HTK := Lib.hid htk
      have HDR := Lib.hid hdr
      have HXL := Lib.hid hxl
      have hzr := htr.size
      have hxle : xs.length ≤ l.length := by omega
      have hxge : l.length ≤ xs.length := by omega
      clear hown htr htk hdr hxl
      have hcx : ∀ k u, (M.encIs xs)[k]? = some u → wr.cell? ⟨b, off + k, none⟩ = some u := by
        obtain ⟨b', off', e, _, _, hcc⟩ := OW.out.row.at_ (k := 0) (by rw [M.encIs_len]; omega)
        injection e with e
        injection e with e1 e2 _
        subst e1; subst e2
        exact hcc
      have HCX := Lib.hid hcx
      have hfr : ∀ k, wr.frozen? ⟨b, k, none⟩ = false := fun k => OW.out.free rfl (k := 0) (by rw [M.encIs_len]; omega) k
      have HFR := Lib.hid hfr
      clear hcx hfr
      by_cases hj : j < l.length
      · have hxj : Hid (xs[j]'(by omega) = l[j]) := Lib.hid (by
          have := congrArg (fun z : List Int => z[0]?) HDR.out
          simp only [List.getElem?_drop, Nat.add_zero] at this
          rw [List.getElem?_eq_getElem (by omega), List.getElem?_eq_getElem hj] at this
          exact Option.some.inj this)
        have x0 : wr.cell? ⟨b, off + j, none⟩ = some (.int .i64 l[j]) := by rw [← hxj.out]; exact HCX.out _ _ (M.encIs_at (by omega))
        have CP := Lib.hid (fun W (hq : Turned lo hi w W) => HP.out W l[j] hq)
        have hjn : (j : Int) < (l.length : Int) := by omega
        have hty : Hid (∀ u, M.encIs (xs.set i u) = (M.encIs xs).set i (.int .i64 u)) := Lib.hid (fun u => by unfold M.encIs; rw [List.map_set])
        cases hq : p l[j] with
        | true =>
          have HN := Lib.hid (M.kept_no hj hq)
          have CP2 := Lib.hid (CP.out wr TR.out)
          rw [hq] at CP2
          clear hq CP
          go_wp2_with (go_at_fn g; refine (CP2.out).mono ?_; rintro e w2 ⟨rfl, hb2⟩)
          go_roundw
          case rel => exact ⟨i, j + 1, xs, by omega, by omega, HXL.out, rfl, by go_num, by rw [HN.out]; exact HTK.out, M.drop_next HDR.out, OW.out.below hb2 (by omega), TR.out.trans (Turned.of_below hb2 lo hi)⟩
          case measure => simp [intOf]; omega
        | false =>
          have HN := Lib.hid (M.kept_yes hj hq)
          have CP2 := Lib.hid (CP.out wr TR.out)
          rw [hq] at CP2
          clear hq CP
          have hin : (i : Int) < (l.length : Int) := by omega
          generalize l[j] = u at *
          go_wp2_with (go_at_fn g; refine (CP2.out).mono ?_; rintro e w2 ⟨rfl, hb2⟩; have hbc : ∀ k v, wr.cell? ⟨b, k, none⟩ = some v → w2.cell? ⟨b, k, none⟩ = some v := (fun k v hv => (hb2.cell (p := ⟨b, k, none⟩) (show b < wr.heap.size by omega)).trans hv); have y0 := hbc _ _ (HCX.out i _ (List.getElem?_eq_getElem (by rw [M.encIs_len]; omega))); have hown2 := OW.out.below hb2 (by omega); have y1 : w2.frozen? ⟨b, off + i, none⟩ = false := hown2.free rfl (k := 0) (by rw [M.encIs_len]; omega) _)
          go_roundw
          case rel =>
            refine ⟨i + 1, j + 1, xs.set i u, by omega, by omega, by rw [List.length_set]; exact HXL.out, by go_num, by go_num, by rw [M.take_set_succ _ _ _ (by omega), HTK.out, HN.out], by rw [M.drop_set_lt _ _ _ _ (by omega)]; exact M.drop_next HDR.out, ?_, (TR.out.trans (Turned.of_below hb2 lo hi)).trans (Turned.setCell _ _ _ _ hb1 hbhi)⟩
            rw [hty.out]
            exact hown2.set_ rfl i (.int .i64 u)
          case measure => simp [intOf]; omega
      · obtain rfl : j = l.length := by omega
        have hres : Hid (M.kept p l = xs.take i) := Lib.hid (by rw [HTK.out, List.take_of_length_le (Nat.le_refl _)])
        have hn : i < l.length := by omega
        have hlen : Hid ((M.kept p l).length = i) := Lib.hid (by rw [hres.out, List.length_take]; omega)
        have hsome : ∀ t, t < (l.length - i) → (wr.cell? ⟨b, off + i + t, none⟩).isSome = true := fun t ht => by
          rw [Nat.add_assoc, HCX.out _ _ (List.getElem?_eq_getElem (by rw [M.encIs_len]; omega))]; rfl
        have hcl := fun ty => Lib.run_clear_slice (P := Try.prog) wr 23 3 ty (.int .i64 0) Try.underlying23 zeroI1 rfl rfl b (off + i) (l.length - i) (c - i) (by omega) hsome (fun t _ => HFR.out _)
        have hE := OW.out.setCells (List.replicate ((l.length - i)) (.int .i64 0)) (i) wr
        have hT := TR.out.trans (Turned.setCells b hb1 hbhi (List.replicate ((l.length - i)) (.int .i64 0)) (off + i) wr)
        have hend : ∀ (k : Nat) u, (M.encIs (xs.take i))[k]? = some u → (M.over (M.encIs xs) (i) (List.replicate ((l.length - i)) (.int .i64 0)))[k]? = some u := by
          intro k u hu
          have hk : k < i := by
            have := (List.getElem?_eq_some_iff.1 hu).1
            rw [M.encIs_len, List.length_take] at this
            omega
          rw [M.over_get _ _ _ _ (by rw [M.encIs_len, List.length_replicate]; omega), if_pos hk]
          rw [M.encIs_take, List.getElem?_take, if_pos hk] at hu
          exact hu
        have HEND := Lib.hid (hE.less hend)
        have HT := Lib.hid hT
        have hcne : ¬ c = i := by omega
        have hi1 : (i : Int) ≤ (l.length : Int) := by omega
        have hi2 : i ≤ l.length := by omega
        have hi3 : i ≤ c := by omega
        clear hE hT hend hsome
        generalize List.replicate ((l.length - i)) (Value.int .i64 0) = zs at *
        go_wp2_with fail
        go_ret
        exact ⟨by rw [hlen.out]; rfl, by rw [hres.out]; exact HEND.out, HT.out⟩
  · have HK : Hid (M.kept p l = l) := Lib.hid (M.kept_all hno)
    go_wp2_with fail
    go_ret
    exact ⟨by rw [HK.out]; rfl, by rw [HK.out]; exact H.out.below HB1.out hz, Turned.of_below HB1.out lo hi⟩
end C
end Go.Proofs.Ytpdkcpclpdljeaa
