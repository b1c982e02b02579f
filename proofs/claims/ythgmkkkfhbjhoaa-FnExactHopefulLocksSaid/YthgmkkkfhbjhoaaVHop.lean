/-
  CONTRACT of slices.IndexFunc at ints: the first place at which a predicate holds, or -1; what lay in memory stays. Condition: at most 1048576 of them; the predicate answers p and leaves memory as it is.
  CONTRACT of slices.IndexFunc at ints, where the predicate answers for the list's numbers alone; what lay in memory stays. Condition: at most 1048576 of them.
  WORDS for rows that are written over from a place on, and for a list without those of which a predicate holds, own to these proofs. No condition.
  CONTRACT of slices.Delete at doors, one door: the row without it, in place; what lay elsewhere stays. Condition: the row may be written, the place is one of its doors.
  CONTRACT of slices.DeleteFunc at ints: the row without those of which a predicate holds, in place; what lay elsewhere stays. Condition: the row may be written, at most 1000 of them; the predicate answers p of these and leaves memory as it is.
  CONTRACTS of impl.HopefulLocks and its function literal: the locks behind which one can still win; what lay in memory stays. Condition: none.
-/
import Derived.Test.YthgmkkkfhbjhoaaNode
import Derived.Test.YthgmkkkfhbjhoaaMem
import Derived.Lib.SliceRun
import Derived.Test.YthgmkkkfhbjhoaaPutW
import Derived.Deep.RegionLaw
import Derived.IntWalk
import Derived.Test.YthgmkkkfhbjhoaaVOpn
import Derived.Test.YthgmkkkfhbjhoaaVGoal
namespace Go.Proofs.Ythgmkkkfhbjhoaa
open Go.RowKit
namespace M
/-- the first place at which p holds, or -1 -/
def IsIdx {α : Type} (p : α → Bool) (l : List α) (i : Int) : Prop :=
  (∃ (k : Nat) (h : k < l.length), i = k ∧ p l[k] = true ∧ ∀ j (hj : j < l.length), j < k → p l[j] = false) ∨ (i = -1 ∧ ∀ j (hj : j < l.length), p l[j] = false)
end M
namespace C
set_option maxHeartbeats 1600000
set_option maxRecDepth 20000
def PredIOk (g : Nat) (lb : Array Value) (p : Int → Bool) (w : World) : Prop :=
  ∀ W x, Below w.heap.size w W → Calls Try.prog g (#[.int .i64 x] ++ lb) W fun e w' => e = .returned (.bool (p x)) ∧ Below W.heap.size W w'
theorem indexI_any (g : Nat) (lb : Array Value) (p : Int → Bool) (eg : ∀ args w, (callFunc g args).run Try.prog w = .ok (.enter g args) w) (w : World) (lo hi : Nat) (a : Option Addr) (c : Nat) (l : List Int)
    (hp : PredIOk g lb p w) (h : RowIn lo hi w a (M.encIs l)) (hz : hi ≤ w.heap.size) (hl : l.length ≤ 1048576) :
    Calls Try.prog 97 #[.slice a l.length c, .func (.func g) #[] lb] w fun e w' => (∃ i : Int, e = .returned (.int .i64 i) ∧ M.IsIdx p l i) ∧ Below w.heap.size w w' := by
  have h' := Lib.hid h
  have HP := Lib.hid hp
  clear h hp
  go_enter Try.func97, Try.ntmps97
  go_wp2_with fail
  go_loopw [5, 8] (fun _ i wr => ∃ (k : Nat), k ≤ l.length ∧ i = .int .i64 k ∧ (∀ j (hj : j < l.length), j < k → p l[j] = false) ∧ Below w.heap.size w wr) (fun _ i _ => l.length - (intOf i).toNat)
  case atStart => exact ⟨0, Nat.zero_le _, rfl, fun j _ h => by omega, Below.refl _ _⟩
  case round =>
    obtain ⟨k, hk, rfl, hall, hnx⟩ := hrel
    have HA := Lib.hid hall
    have HN := Lib.hid hnx
    have hzr := hnx.size
    clear hall hnx
    by_cases hlt : k < l.length
    · obtain ⟨b, off, rfl, _, hb, hc0⟩ := h'.out.at_ (k := k) (by rw [M.encIs_len]; omega)
      have hx0 : wr.cell? ⟨b, off + k, none⟩ = some (.int .i64 l[k]) := (HN.out.cell (p := ⟨b, off + k, none⟩) (Nat.lt_of_lt_of_le hb hz)).trans (hc0 _ _ (M.encIs_at hlt))
      clear hc0
      have CP := Lib.hid (HP.out wr l[k] HN.out)
      cases hq : p l[k] with
      | true =>
        rw [hq] at CP
        have HQ := Lib.hid hq
        clear hq
        go_wp2_with (go_at_fn g; refine (CP.out).mono ?_; rintro e w' ⟨rfl, hb2⟩)
        go_ret
        exact ⟨⟨k, rfl, .inl ⟨k, hlt, rfl, HQ.out, fun j hj hjk => HA.out j hj hjk⟩⟩, HN.out.trans (hb2.mono hzr)⟩
      | false =>
        rw [hq] at CP
        have HQ := Lib.hid hq
        clear hq
        go_wp2_with (go_at_fn g; refine (CP.out).mono ?_; rintro e w' ⟨rfl, hb2⟩)
        go_roundw
        case rel => exact ⟨k + 1, by omega, by go_num, fun j hj hjk => by
            rcases Nat.lt_or_ge j k with h | h
            · exact HA.out j hj h
            · obtain rfl : j = k := by omega
              exact HQ.out, HN.out.trans (hb2.mono hzr)⟩
        case measure => simp [intOf]; omega
    · obtain rfl : k = l.length := by omega
      go_wp2_with fail
      go_ret
      exact ⟨⟨-1, rfl, .inr ⟨rfl, fun j hj => HA.out j hj hj⟩⟩, HN.out⟩
end C
end Go.Proofs.Ythgmkkkfhbjhoaa
namespace Go.Proofs.Ythgmkkkfhbjhoaa
open Go.RowKit
namespace C
set_option maxHeartbeats 3200000
set_option maxRecDepth 20000
def PredJOk (g : Nat) (lb : Array Value) (p : Int → Bool) (l : List Int) (w : World) : Prop :=
  ∀ W x, x ∈ l → Below w.heap.size w W → Calls Try.prog g (#[.int .i64 x] ++ lb) W fun e w' => e = .returned (.bool (p x)) ∧ Below W.heap.size W w'
theorem indexJ_any (g : Nat) (lb : Array Value) (p : Int → Bool) (eg : ∀ args w, (callFunc g args).run Try.prog w = .ok (.enter g args) w) (w : World) (lo hi : Nat) (a : Option Addr) (c : Nat) (l : List Int)
    (hp : PredJOk g lb p l w) (h : RowIn lo hi w a (M.encIs l)) (hz : hi ≤ w.heap.size) (hl : l.length ≤ 1048576) :
    Calls Try.prog 97 #[.slice a l.length c, .func (.func g) #[] lb] w fun e w' => (∃ i : Int, e = .returned (.int .i64 i) ∧ M.IsIdx p l i) ∧ Below w.heap.size w w' := by
  have h' := Lib.hid h
  have HP := Lib.hid hp
  clear h hp
  go_enter Try.func97, Try.ntmps97
  go_wp2_with fail
  go_loopw [5, 8] (fun _ i wr => ∃ (k : Nat), k ≤ l.length ∧ i = .int .i64 k ∧ (∀ j (hj : j < l.length), j < k → p l[j] = false) ∧ Below w.heap.size w wr) (fun _ i _ => l.length - (intOf i).toNat)
  case atStart => exact ⟨0, Nat.zero_le _, rfl, fun j _ h => by omega, Below.refl _ _⟩
  case round =>
    obtain ⟨k, hk, rfl, hall, hnx⟩ := hrel
    have HA := Lib.hid hall
    have HN := Lib.hid hnx
    have hzr := hnx.size
    clear hall hnx
    by_cases hlt : k < l.length
    · obtain ⟨b, off, rfl, _, hb, hc0⟩ := h'.out.at_ (k := k) (by rw [M.encIs_len]; omega)
      have hx0 : wr.cell? ⟨b, off + k, none⟩ = some (.int .i64 l[k]) := (HN.out.cell (p := ⟨b, off + k, none⟩) (Nat.lt_of_lt_of_le hb hz)).trans (hc0 _ _ (M.encIs_at hlt))
      clear hc0
      have CP := Lib.hid (HP.out wr l[k] (List.getElem_mem hlt) HN.out)
      cases hq : p l[k] with
      | true =>
        rw [hq] at CP
        have HQ := Lib.hid hq
        clear hq
        go_wp2_with (go_at_fn g; refine (CP.out).mono ?_; rintro e w' ⟨rfl, hb2⟩)
        go_ret
        exact ⟨⟨k, rfl, .inl ⟨k, hlt, rfl, HQ.out, fun j hj hjk => HA.out j hj hjk⟩⟩, HN.out.trans (hb2.mono hzr)⟩
      | false =>
        rw [hq] at CP
        have HQ := Lib.hid hq
        clear hq
        go_wp2_with (go_at_fn g; refine (CP.out).mono ?_; rintro e w' ⟨rfl, hb2⟩)
        go_roundw
        case rel => exact ⟨k + 1, by omega, by go_num, fun j hj hjk => by
            rcases Nat.lt_or_ge j k with h | h
            · exact HA.out j hj h
            · obtain rfl : j = k := by omega
              exact HQ.out, HN.out.trans (hb2.mono hzr)⟩
        case measure => simp [intOf]; omega
    · obtain rfl : k = l.length := by omega
      go_wp2_with fail
      go_ret
      exact ⟨⟨-1, rfl, .inr ⟨rfl, fun j hj => HA.out j hj hj⟩⟩, HN.out⟩
end C
end Go.Proofs.Ythgmkkkfhbjhoaa
namespace Go.Proofs.Ythgmkkkfhbjhoaa
open Go.RowKit
namespace M
def over {α : Type} (xs : List α) : Nat → List α → List α
  | _, [] => xs
  | k, v :: vs => over (xs.set k v) (k + 1) vs
theorem over_len {α : Type} : ∀ (vs xs : List α) (k : Nat), (over xs k vs).length = xs.length
  | [], _, _ => rfl
  | v :: vs, xs, k => by unfold over; rw [over_len vs]; simp
theorem over_get {α : Type} : ∀ (vs xs : List α) (k i : Nat), k + vs.length ≤ xs.length → (over xs k vs)[i]? = if i < k then xs[i]? else if i < k + vs.length then vs[i - k]? else xs[i]?
  | [], xs, k, i, _ => by
    unfold over
    simp only [List.length_nil, Nat.add_zero]
    by_cases h : i < k
    · simp only [h, if_true]
    · simp only [h, if_false]
  | v :: vs, xs, k, i, h => by
    unfold over
    simp only [List.length_cons] at h ⊢
    rw [over_get vs (xs.set k v) (k + 1) i (by simp; omega)]
    rcases Nat.lt_trichotomy i k with hi | hi | hi
    · have h1 : i < k + 1 := by omega
      simp only [h1, hi, if_true]
      exact List.getElem?_set_ne (by omega)
    · subst hi
      have h1 : i < i + 1 := by omega
      have h2 : ¬ i < i := by omega
      have h3 : i < i + (vs.length + 1) := by omega
      simp only [h1, h2, h3, if_true, if_false]
      rw [List.getElem?_set_self (by omega), Nat.sub_self]
      rfl
    · have h1 : ¬ i < k + 1 := by omega
      have h2 : ¬ i < k := by omega
      simp only [h1, h2, if_false]
      by_cases h3 : i < k + 1 + vs.length
      · have h4 : i < k + (vs.length + 1) := by omega
        simp only [h3, h4, if_true]
        obtain ⟨j, rfl⟩ : ∃ j, i = k + 1 + j := ⟨i - (k + 1), by omega⟩
        rw [show k + 1 + j - (k + 1) = j by omega, show k + 1 + j - k = j + 1 by omega]
        rfl
      · have h4 : ¬ i < k + (vs.length + 1) := by omega
        simp only [h3, h4, if_false]
        exact List.getElem?_set_ne (by omega)
end M
namespace M
/-- those of which p does not hold -/
def kept {α : Type} (p : α → Bool) (l : List α) : List α := l.filter fun x => !p x
theorem kept_all {α : Type} {p : α → Bool} {l : List α} (h : ∀ j (hj : j < l.length), p l[j] = false) : kept p l = l := by
  unfold kept
  rw [List.filter_eq_self]
  intro x hx
  obtain ⟨j, hj, rfl⟩ := List.mem_iff_getElem.1 hx
  rw [h j hj]; rfl
theorem kept_yes {α : Type} {p : α → Bool} {l : List α} {k : Nat} (hk : k < l.length) (h : p l[k] = false) : kept p (l.take (k + 1)) = kept p (l.take k) ++ [l[k]] := by
  unfold kept
  rw [List.take_succ_eq_append_getElem hk, List.filter_append, List.filter_cons_of_pos (p := fun x => !p x) (by show (!p l[k]) = true; rw [h]; rfl)]
  rfl
theorem kept_no {α : Type} {p : α → Bool} {l : List α} {k : Nat} (hk : k < l.length) (h : p l[k] = true) : kept p (l.take (k + 1)) = kept p (l.take k) := by
  unfold kept
  rw [List.take_succ_eq_append_getElem hk, List.filter_append, List.filter_cons_of_neg (p := fun x => !p x) (by show ¬ (!p l[k]) = true; rw [h]; decide)]
  simp
theorem kept_first {α : Type} {p : α → Bool} {l : List α} {k : Nat} (hk : k < l.length) (h : p l[k] = true) (hn : ∀ j (hj : j < l.length), j < k → p l[j] = false) : l.take k = kept p (l.take (k + 1)) := by
  rw [kept_no hk h]
  exact (kept_all fun j hj => by
    rw [List.length_take] at hj
    rw [List.getElem_take]
    exact hn j (by omega) (by omega)).symm
theorem drop_set_lt {α : Type} (xs : List α) (i j : Nat) (u : α) (h : i < j) : (xs.set i u).drop j = xs.drop j := by
  refine List.ext_getElem? fun k => ?_
  rw [List.getElem?_drop, List.getElem?_drop, List.getElem?_set_ne (by omega)]
theorem take_set_succ {α : Type} (xs : List α) (i : Nat) (u : α) (h : i < xs.length) : (xs.set i u).take (i + 1) = xs.take i ++ [u] := by
  rw [List.take_succ_eq_append_getElem (by simpa using h), List.take_set_of_le (Nat.le_refl _), List.getElem_set_self]
theorem drop_next {α : Type} {xs l : List α} {j : Nat} (h : xs.drop j = l.drop j) : xs.drop (j + 1) = l.drop (j + 1) := by
  rw [← List.drop_drop, ← List.drop_drop, h]
end M
namespace C
theorem Turned.setCells {lo hi : Nat} (b : Nat) (h1 : lo ≤ b) (h2 : b < hi) : ∀ (vs : List Value) (o : Nat) (w : World), Turned lo hi w (w.setCells b o vs)
  | [], _, w => Turned.refl _ _ w
  | v :: vs, o, w => (Turned.setCell w b o v h1 h2).trans (Turned.setCells b h1 h2 vs (o + 1) _)
theorem OwnAt.setCells {lo hi : Nat} {T : TypeId} {b off : Nat} : ∀ (vs : List Value) (k : Nat) (w : World) (xs : List Value), OwnAt lo hi w T (some ⟨b, off, none⟩) xs → OwnAt lo hi (w.setCells b (off + k) vs) T (some ⟨b, off, none⟩) (M.over xs k vs)
  | [], _, _, _, h => h
  | v :: vs, k, w, xs, h => by
    have := OwnAt.setCells vs (k + 1) _ _ (h.set_ rfl k v)
    rwa [← Nat.add_assoc] at this
theorem OwnAt.less {lo hi : Nat} {w : World} {T : TypeId} {a : Option Addr} {xs ys : List Value} (h : OwnAt lo hi w T a xs) (hy : ∀ (i : Nat) u, ys[i]? = some u → xs[i]? = some u) : OwnAt lo hi w T a ys := by
  rcases h with h | ⟨g, off, cur, ha, h1, h2, hh, hc⟩
  · left
    cases ys with
    | nil => rfl
    | cons y ys => exact absurd (hy 0 y (by simp)) (by rw [h]; simp)
  · exact .inr ⟨g, off, cur, ha, h1, h2, hh, fun i u hu => hc i u (hy i u hu)⟩
end C
end Go.Proofs.Ythgmkkkfhbjhoaa
namespace Go.Proofs.Ythgmkkkfhbjhoaa
open Go.RowKit
namespace C
set_option maxHeartbeats 3200000
set_option maxRecDepth 20000
theorem run_clear_door {P : Program} (w : World) (t e ty : TypeId) (ht : P.underlying t = some (.slice e)) (hv : ∀ w, (zeroValue e).run P w = .ok (.agg #[.int .i64 0, .int .i64 0, .int .i64 0]) w) (b o c : Nat)
    (hc : ∀ j, j < 3 → (w.cell? ⟨b, o + j, none⟩).isSome = true) (hf : ∀ j, j < 3 → w.frozen? ⟨b, o + j, none⟩ = false) :
    (Builtin.clear_ #[t] ty #[.slice (some ⟨b, o, none⟩) 1 c]).run P w = .ok (.tuple #[]) (w.setCells b o [.int .i64 0, .int .i64 0, .int .i64 0]) := by
  have hst := run_storeCells_cells (P := P) b o [.int .i64 0, .int .i64 0, .int .i64 0] 0 w (by simpa using hc) (by simpa using hf) (by intro v hv'; simp at hv'; subst hv'; rfl)
  simp only [Nat.add_zero] at hst
  have hzc : (Builtin.zeroCells (Value.agg #[.int .i64 0, .int .i64 0, .int .i64 0]).cells 1).toList = [.int .i64 0, .int .i64 0, .int .i64 0] := by kernel_rfl
  simp [Builtin.clear_, run_underlying ht, hv, hzc, hst]
theorem zeroD (w : World) : (zeroValue 48).run Try.prog w = .ok (.agg #[.int .i64 0, .int .i64 0, .int .i64 0]) w := by kernel_rfl
end C
end Go.Proofs.Ythgmkkkfhbjhoaa
namespace Go.Proofs.Ythgmkkkfhbjhoaa
open Go.RowKit
namespace C
set_option maxHeartbeats 3200000
set_option maxRecDepth 20000
theorem zeroJ1 (w : World) : (zeroValue 3).run Try.prog w = .ok (.int .i64 0) w := by kernel_rfl
def PredJTurn (g : Nat) (lb : Array Value) (p : Int → Bool) (l : List Int) (lo hi : Nat) (w : World) : Prop :=
  ∀ W x, x ∈ l → Turned lo hi w W → Calls Try.prog g (#[.int .i64 x] ++ lb) W fun e w' => e = .returned (.bool (p x)) ∧ Below W.heap.size W w'
theorem deleteFJ_any (g : Nat) (lb : Array Value) (p : Int → Bool) (eg : ∀ args w, (callFunc g args).run Try.prog w = .ok (.enter g args) w) (w : World) (lo hi : Nat) (a : Option Addr) (c : Nat) (l : List Int)
    (hp : PredJTurn g lb p l lo hi w) (h : OwnAt lo hi w 3 a (M.encIs l)) (hz : hi ≤ w.heap.size) (hl : l.length ≤ 1000) (hc1 : l.length ≤ c) (hc2 : c ≤ 9223372036854775807) :
    Calls Try.prog 82 #[.slice a l.length c, .func (.func g) #[] lb] w fun e w' => e = .returned (.slice a (M.kept p l).length c) ∧ OwnAt lo hi w' 3 a (M.encIs (M.kept p l)) ∧ Turned lo hi w w' := by
  have CI := indexJ_any g lb p eg w lo hi a c l (fun W x hx hb => hp W x hx (Turned.of_below hb lo hi)) h.row hz (by omega)
  have H := Lib.hid h
  have HP := Lib.hid hp
  clear h hp
  go_enter Try.func82, Try.ntmps82
  go_wp2_with fail
  refine CI.mono ?_
  rintro e w1 ⟨⟨i, rfl, hi0⟩, hb1⟩
  have HB1 := Lib.hid hb1
  have hz1 := hb1.size
  clear hb1 CI
  rcases hi0 with ⟨k0, hk0, rfl, hpk, hno⟩ | ⟨rfl, hno⟩
  · have hk0' : ¬ (k0 : Int) = -1 := by omega
    have hkb : ((k0 : Int) == -1) = false := by rw [beq_eq_false_iff_ne]; exact hk0'
    have HK := Lib.hid (M.kept_first hk0 hpk hno)
    have HPK := Lib.hid hpk
    obtain ⟨b, off, ha, hb1, hbhi, _⟩ := H.out.row.at_ (k := 0) (by rw [M.encIs_len]; omega)
    subst ha
    clear hpk hno
    go_wp2_with fail
    go_loopw [5, 6, 7] (fun v5 v6 _ wr => ∃ (i j : Nat) (xs : List Int), i < j ∧ j ≤ l.length ∧ xs.length = l.length ∧ v5 = .int .i64 i ∧ v6 = .int .i64 j ∧ xs.take i = M.kept p (l.take j) ∧ xs.drop j = l.drop j ∧ OwnAt lo hi wr 3 (some ⟨b, off, none⟩) (M.encIs xs) ∧ Turned lo hi w wr) (fun _ v6 _ _ => l.length - (intOf v6).toNat)
    case atStart => exact ⟨k0, k0 + 1, l, by omega, by omega, rfl, rfl, by go_num, HK.out, rfl, H.out.below HB1.out hz, Turned.of_below HB1.out lo hi⟩
    case round =>
      obtain ⟨i, j, xs, hij, hjl, hxl, rfl, rfl, htk, hdr, hown, htr⟩ := hrel
      have OW := Lib.hid hown
      have TR := Lib.hid htr
      have HTK := Lib.hid htk
      have HDR := Lib.hid hdr
      have HXL := Lib.hid hxl
      have hzr := htr.size
      have hxle : xs.length ≤ l.length := by omega
      have hxge : l.length ≤ xs.length := by omega
      clear hown htr htk hdr hxl
      have hcx : ∀ k u, (M.encIs xs)[k]? = some u → wr.cell? ⟨b, off + k, none⟩ = some u := by
        obtain ⟨b', off', e, _, _, hcc⟩ := OW.out.row.at_ (k := 0) (by rw [M.encIs_len]; omega)
        injection e with e
        injection e with e1 e2 _
        subst e1; subst e2
        exact hcc
      have HCX := Lib.hid hcx
      have hfr : ∀ k, wr.frozen? ⟨b, k, none⟩ = false := fun k => OW.out.free rfl (k := 0) (by rw [M.encIs_len]; omega) k
      have HFR := Lib.hid hfr
      clear hcx hfr
      by_cases hj : j < l.length
      · have hxj : Hid (xs[j]'(by omega) = l[j]) := Lib.hid (by
          have := congrArg (fun z : List Int => z[0]?) HDR.out
          simp only [List.getElem?_drop, Nat.add_zero] at this
          rw [List.getElem?_eq_getElem (by omega), List.getElem?_eq_getElem hj] at this
          exact Option.some.inj this)
        have x0 : wr.cell? ⟨b, off + j, none⟩ = some (.int .i64 l[j]) := by rw [← hxj.out]; exact HCX.out _ _ (M.encIs_at (by omega))
        have CP := Lib.hid (fun W (hq : Turned lo hi w W) => HP.out W l[j] (List.getElem_mem hj) hq)
        have hjn : (j : Int) < (l.length : Int) := by omega
        have hty : Hid (∀ u, M.encIs (xs.set i u) = (M.encIs xs).set i (.int .i64 u)) := Lib.hid (fun u => by unfold M.encIs; rw [List.map_set])
        cases hq : p l[j] with
        | true =>
          have HN := Lib.hid (M.kept_no hj hq)
          have CP2 := Lib.hid (CP.out wr TR.out)
          rw [hq] at CP2
          clear hq CP
          go_wp2_with (go_at_fn g; refine (CP2.out).mono ?_; rintro e w2 ⟨rfl, hb2⟩)
          go_roundw
          case rel => exact ⟨i, j + 1, xs, by omega, by omega, HXL.out, rfl, by go_num, by rw [HN.out]; exact HTK.out, M.drop_next HDR.out, OW.out.below hb2 (by omega), TR.out.trans (Turned.of_below hb2 lo hi)⟩
          case measure => simp [intOf]; omega
        | false =>
          have HN := Lib.hid (M.kept_yes hj hq)
          have CP2 := Lib.hid (CP.out wr TR.out)
          rw [hq] at CP2
          clear hq CP
          have hin : (i : Int) < (l.length : Int) := by omega
          generalize l[j] = u at *
          go_wp2_with (go_at_fn g; refine (CP2.out).mono ?_; rintro e w2 ⟨rfl, hb2⟩; have hbc : ∀ k v, wr.cell? ⟨b, k, none⟩ = some v → w2.cell? ⟨b, k, none⟩ = some v := (fun k v hv => (hb2.cell (p := ⟨b, k, none⟩) (show b < wr.heap.size by omega)).trans hv); have y0 := hbc _ _ (HCX.out i _ (List.getElem?_eq_getElem (by rw [M.encIs_len]; omega))); have hown2 := OW.out.below hb2 (by omega); have y1 : w2.frozen? ⟨b, off + i, none⟩ = false := hown2.free rfl (k := 0) (by rw [M.encIs_len]; omega) _)
          go_roundw
          case rel =>
            refine ⟨i + 1, j + 1, xs.set i u, by omega, by omega, by rw [List.length_set]; exact HXL.out, by go_num, by go_num, by rw [M.take_set_succ _ _ _ (by omega), HTK.out, HN.out], by rw [M.drop_set_lt _ _ _ _ (by omega)]; exact M.drop_next HDR.out, ?_, (TR.out.trans (Turned.of_below hb2 lo hi)).trans (Turned.setCell _ _ _ _ hb1 hbhi)⟩
            rw [hty.out]
            exact hown2.set_ rfl i (.int .i64 u)
          case measure => simp [intOf]; omega
      · obtain rfl : j = l.length := by omega
        have hres : Hid (M.kept p l = xs.take i) := Lib.hid (by rw [HTK.out, List.take_of_length_le (Nat.le_refl _)])
        have hn : i < l.length := by omega
        have hlen : Hid ((M.kept p l).length = i) := Lib.hid (by rw [hres.out, List.length_take]; omega)
        have hsome : ∀ t, t < (l.length - i) → (wr.cell? ⟨b, off + i + t, none⟩).isSome = true := fun t ht => by
          rw [Nat.add_assoc, HCX.out _ _ (List.getElem?_eq_getElem (by rw [M.encIs_len]; omega))]; rfl
        have hcl := fun ty => Lib.run_clear_slice (P := Try.prog) wr 23 3 ty (.int .i64 0) Try.underlying23 zeroJ1 rfl rfl b (off + i) (l.length - i) (c - i) (by omega) hsome (fun t _ => HFR.out _)
        have hE := OW.out.setCells (List.replicate ((l.length - i)) (.int .i64 0)) (i) wr
        have hT := TR.out.trans (Turned.setCells b hb1 hbhi (List.replicate ((l.length - i)) (.int .i64 0)) (off + i) wr)
        have hend : ∀ (k : Nat) u, (M.encIs (xs.take i))[k]? = some u → (M.over (M.encIs xs) (i) (List.replicate ((l.length - i)) (.int .i64 0)))[k]? = some u := by
          intro k u hu
          have hk : k < i := by
            have := (List.getElem?_eq_some_iff.1 hu).1
            rw [M.encIs_len, List.length_take] at this
            omega
          rw [M.over_get _ _ _ _ (by rw [M.encIs_len, List.length_replicate]; omega), if_pos hk]
          rw [M.encIs_take, List.getElem?_take, if_pos hk] at hu
          exact hu
        have HEND := Lib.hid (hE.less hend)
        have HT := Lib.hid hT
        have hcne : ¬ c = i := by omega
        have hi1 : (i : Int) ≤ (l.length : Int) := by omega
        have hi2 : i ≤ l.length := by omega
        have hi3 : i ≤ c := by omega
        clear hE hT hend hsome
        generalize List.replicate ((l.length - i)) (Value.int .i64 0) = zs at *
        go_wp2_with fail
        go_ret
        exact ⟨by rw [hlen.out]; rfl, by rw [hres.out]; exact HEND.out, HT.out⟩
  · have HK : Hid (M.kept p l = l) := Lib.hid (M.kept_all hno)
    go_wp2_with fail
    go_ret
    exact ⟨by rw [HK.out]; rfl, by rw [HK.out]; exact H.out.below HB1.out hz, Turned.of_below HB1.out lo hi⟩
end C
end Go.Proofs.Ythgmkkkfhbjhoaa
namespace Go.Proofs.Ythgmkkkfhbjhoaa
open Go.RowKit
namespace M
theorem hopI_no {m : Mz} {l : List Int} (h : hopB m l = false) : hopV m l = [] := by unfold hopV; rw [h]; rfl
theorem hopI_yes {m : Mz} {l : List Int} (h : hopB m l = true) : hopV m l = kept (fun k => !hopeB m (l ++ [k])) (nextO m (behO m l)) := by
  unfold hopV kept
  rw [if_pos h]
  congr 1
  funext k
  rw [Bool.not_not]
end M
namespace C
set_option maxHeartbeats 6400000
set_option maxRecDepth 40000
theorem hopeless_any (w : World) (lo hi : Nat) (m : M.Mz) (a b : Option Addr) (c d : Nat) (h : MzIn lo hi w m a c b d) (hz : hi ≤ w.heap.size) (V : M.Valid m) (hf : (M.lockL m).length ≤ 10) (l : List Int) (g1 g2 : Nat) (hx : Box3 w g1 29 (.int .i64 m.size) (.slice a m.doors.length c) (.slice b m.keys.length d)) (ho : BoxO w g2 (M.behO m l)) (kn : Nat) (hk30 : kn < 30) (hio : M.isO m (l ++ [(kn : Int)]) = true) :
    Calls Try.prog 79 #[.int .i64 (kn : Int), .pointer (some ⟨g1, 0, none⟩), .pointer (some ⟨g2, 0, none⟩)] w (BoolPost w (!M.hopeB m (l ++ [(kn : Int)]))) := by
  have HX := Lib.hid hx
  have HO := Lib.hid ho
  have hand := fun W' => and_any W' (M.behO m l) kn hk30
  rw [← M.behO_snoc] at hand
  have HFF := Lib.hid (fun (W' : World) (hq : Below w.heap.size w W') => show Calls Try.prog 80 #[.agg #[.int .i64 m.size, .slice a m.doors.length c, .slice b m.keys.length d], .agg (encO (M.behO m (l ++ [(kn : Int)]))).toArray, .func (.func 70) #[.agg #[.int .i64 m.size, .slice a m.doors.length c, .slice b m.keys.length d]] #[]] W' (IntsOkPost W' ((M.fstV (M.winsB m) (M.srchL m (l ++ [(kn : Int)]))).drop (l ++ [(kn : Int)]).length) (M.hopeB m (l ++ [(kn : Int)]))) from
    firstFrom_any W' lo hi m a b c d (h.below hq hz) (by have := hq.size; omega) V hf (l ++ [(kn : Int)]) hio 70 (enters_of Try.func70 (by kernel_rfl) rfl) #[.agg #[.int .i64 m.size, .slice a m.doors.length c, .slice b m.keys.length d]] #[] (M.winsB m) (wantGoal W' lo hi m a b c d (h.below hq hz) (by have := hq.size; omega) V))
  have HAND := Lib.hid hand
  generalize (M.fstV (M.winsB m) (M.srchL m (l ++ [(kn : Int)]))).drop (l ++ [(kn : Int)]).length = fv at *
  obtain ⟨z, hze⟩ : ∃ z, z = l ++ [(kn : Int)] := ⟨_, rfl⟩
  rw [← hze] at HAND HFF
  rw [← hze]
  generalize M.hopeB m z = hb at *
  have hxl := hx.lt
  have hol := ho.lt
  clear h V hx ho hand hze hio
  go_enter Try.func79, Try.ntmps79
  go_upto_region 1 with fail
  refine wp_region_late2 (fun (wq : World) => wq.cell? ⟨g1, 0, none⟩ = some (.int .i64 m.size) ∧ wq.cell? ⟨g1, 1, none⟩ = some (.slice a m.doors.length c) ∧ wq.cell? ⟨g1, 2, none⟩ = some (.slice b m.keys.length d) ∧ BoxO wq g2 (M.behO m l)) [] 12 #[false, false, false, false, false, false, false, false, false, false, false, false] rfl rfl (by kernel_rfl) ?_
  have hS : (fun (wq : World) => wq.cell? ⟨g1, 0, none⟩ = some (.int .i64 m.size) ∧ wq.cell? ⟨g1, 1, none⟩ = some (.slice a m.doors.length c) ∧ wq.cell? ⟨g1, 2, none⟩ = some (.slice b m.keys.length d) ∧ BoxO wq g2 (M.behO m l)) w.drew := ⟨HX.out.cells.1, HX.out.cells.2.1, HX.out.cells.2.2, HO.out⟩
  refine wpAnyL_take (i := 0) (oi := { dst := some 8, op := Go.Op.load 29 (Go.Operand.tmp 1), type := 29, pos := "l7_spent.go:248", after := #[], guard := none }) (v := ?rv0) rfl (by kernel_rfl) (by kernel_rfl) (by kernel_rfl) (by kernel_rfl) (fun _ _ _ h => h) (Or.inl ⟨by rfl, ?rh0⟩) hS ?rr0
  case rh0 => (intro wS hSw; (try dsimp only at hSw); go_split_ands; go_simp; try with_reducible rfl)
  try simp only [Act.put, List.setIfInBounds_toArray, List.set_cons_zero, List.set_cons_succ]
  refine wpAnyL_take (i := 1) (oi := { dst := some 9, op := Go.Op.load 52 (Go.Operand.tmp 2), type := 52, pos := "l7_spent.go:248", after := #[], guard := none }) (v := .agg (encO (M.behO m l)).toArray) rfl (by kernel_rfl) (by kernel_rfl) (by kernel_rfl) (by kernel_rfl) (fun _ _ _ h => h) (yieldsO (by rfl) _ rfl (g2) rfl (M.behO m l) (fun wS hSw => hSw.2.2.2)) hS ?rr1
  try simp only [Act.put, List.setIfInBounds_toArray, List.set_cons_zero, List.set_cons_succ]
  refine wpAnyL_take (i := 2) (oi := { dst := some 10, op := Go.Op.move (Go.Operand.tmp 0), type := 3, pos := "l7_spent.go:248", after := #[], guard := none }) (v := ?rv2) rfl (by kernel_rfl) (by kernel_rfl) (by kernel_rfl) (by kernel_rfl) (fun _ _ _ h => h) (Or.inl ⟨by rfl, ?rh2⟩) hS ?rr2
  case rh2 => (intro wS hSw; (try dsimp only at hSw); go_split_ands; go_simp; try with_reducible rfl)
  try simp only [Act.put, List.setIfInBounds_toArray, List.set_cons_zero, List.set_cons_succ]
  refine wpAnyL_take (i := 4) (oi := { dst := some 12, op := Go.Op.load 29 (Go.Operand.tmp 1), type := 29, pos := "l7_spent.go:248", after := #[], guard := none }) (v := ?rv4) rfl (by kernel_rfl) (by kernel_rfl) (by kernel_rfl) (by kernel_rfl) (fun _ _ _ h => h) (Or.inl ⟨by rfl, ?rh4⟩) hS ?rr4
  case rh4 => (intro wS hSw; (try dsimp only at hSw); go_split_ands; go_simp; try with_reducible rfl)
  try simp only [Act.put, List.setIfInBounds_toArray, List.set_cons_zero, List.set_cons_succ]
  refine wpAnyL_take (i := 5) (oi := { dst := some 13, op := Go.Op.makeFunc (Go.Fn.func 70) #[Go.Operand.tmp 12] #[], type := 59, pos := "l7_spent.go:248", after := #[{ on := 4, ground := Go.Ground.data }], guard := none }) (v := ?rv5) rfl (by kernel_rfl) (by kernel_rfl) (by kernel_rfl) (by kernel_rfl) (fun _ _ _ h => h) (Or.inl ⟨by rfl, ?rh5⟩) hS ?rr5
  case rh5 => (intro wS hSw; (try dsimp only at hSw); go_split_ands; go_simp; try with_reducible rfl)
  try simp only [Act.put, List.setIfInBounds_toArray, List.set_cons_zero, List.set_cons_succ]
  refine wpAnyL_one (i := 3) (oi := { dst := some 11, op := Go.Op.call { callee := Go.Callee.value (Go.Operand.func 81), args := #[Go.Operand.tmp 9, Go.Operand.tmp 10], argTypes := #[52, 3] }, type := 52, pos := "l7_spent.go:248", after := #[{ on := 1, ground := Go.Ground.data }, { on := 2, ground := Go.Ground.data }], guard := none }) (by kernel_rfl) rfl (fun Kr3 hKr3 => ?_)
  refine step_call (by rfl) 81 #[.agg (encO (M.behO m l)).toArray, .int .i64 (kn : Int)] (by go_simp; try rfl) (HAND.out w.drew) ?_
  rintro e w5 ⟨rfl, hb5⟩
  refine ⟨_, rfl, ?_⟩
  have hb5x : Below w.heap.size w w5 := (Below.refl w.heap.size w).drew.trans hb5
  have hz5 := hb5x.size
  have hs5 : (fun (wq : World) => wq.cell? ⟨g1, 0, none⟩ = some (.int .i64 m.size) ∧ wq.cell? ⟨g1, 1, none⟩ = some (.slice a m.doors.length c) ∧ wq.cell? ⟨g1, 2, none⟩ = some (.slice b m.keys.length d) ∧ BoxO wq g2 (M.behO m l)) w5 := ⟨(HX.out.below hb5x).cells.1, (HX.out.below hb5x).cells.2.1, (HX.out.below hb5x).cells.2.2, HO.out.below hb5x⟩
  refine hKr3 _ _ (fun _ => hs5) ?_
  clear hS
  have hS := hs5
  try simp only [Act.put, List.setIfInBounds_toArray, List.set_cons_zero, List.set_cons_succ]
  refine wpAnyL_one (i := 6) (oi := { dst := some 14, op := Go.Op.call { callee := Go.Callee.value (Go.Operand.func 80), args := #[Go.Operand.tmp 8, Go.Operand.tmp 11, Go.Operand.tmp 13], argTypes := #[29, 52, 59] }, type := 27, pos := "l7_spent.go:248", after := #[{ on := 0, ground := Go.Ground.data }, { on := 3, ground := Go.Ground.data }, { on := 5, ground := Go.Ground.data }, { on := 3, ground := Go.Ground.chain }], guard := none }) (by kernel_rfl) rfl (fun Kr6 hKr6 => ?_)
  refine step_call (by rfl) 80 #[.agg #[.int .i64 m.size, .slice a m.doors.length c, .slice b m.keys.length d], .agg (encO (M.behO m z)).toArray, .func (.func 70) #[.agg #[.int .i64 m.size, .slice a m.doors.length c, .slice b m.keys.length d]] #[]] (by go_simp; try rfl) (HFF.out w5 hb5x) ?_
  rintro e w6 ⟨ra, rc, rfl, hr, hr1, hr2, hb6⟩
  refine ⟨_, rfl, ?_⟩
  have hb6x : Below w.heap.size w w6 := hb5x.trans (hb6.mono hz5)
  have hs6 : (fun (wq : World) => wq.cell? ⟨g1, 0, none⟩ = some (.int .i64 m.size) ∧ wq.cell? ⟨g1, 1, none⟩ = some (.slice a m.doors.length c) ∧ wq.cell? ⟨g1, 2, none⟩ = some (.slice b m.keys.length d) ∧ BoxO wq g2 (M.behO m l)) w6 := ⟨(HX.out.below hb6x).cells.1, (HX.out.below hb6x).cells.2.1, (HX.out.below hb6x).cells.2.2, HO.out.below hb6x⟩
  refine hKr6 _ _ (fun _ => hs6) ?_
  clear hS
  have hS := hs6
  try simp only [Act.put, List.setIfInBounds_toArray, List.set_cons_zero, List.set_cons_succ]
  refine wpAnyL_take (i := 7) (oi := { dst := some 7, op := Go.Op.move (Go.Operand.tmp 14), type := 27, pos := "l7_spent.go:248", after := #[{ on := 6, ground := Go.Ground.data }], guard := none }) (v := ?rv7) rfl (by kernel_rfl) (by kernel_rfl) (by kernel_rfl) (by kernel_rfl) (fun _ _ _ h => h) (Or.inl ⟨by rfl, ?rh7⟩) hS ?rr7
  case rh7 => (intro wS hSw; (try dsimp only at hSw); go_split_ands; go_simp; try with_reducible rfl)
  try simp only [Act.put, List.setIfInBounds_toArray, List.set_cons_zero, List.set_cons_succ]
  refine wpAnyL_take (i := 8) (oi := { dst := some 15, op := Go.Op.extract (Go.Operand.tmp 7) 0, type := 23, pos := "l7_spent.go:248", after := #[{ on := 7, ground := Go.Ground.data }], guard := none }) (v := ?rv8) rfl (by kernel_rfl) (by kernel_rfl) (by kernel_rfl) (by kernel_rfl) (fun _ _ _ h => h) (Or.inl ⟨by rfl, ?rh8⟩) hS ?rr8
  case rh8 => (intro wS hSw; (try dsimp only at hSw); go_split_ands; go_simp; try with_reducible rfl)
  try simp only [Act.put, List.setIfInBounds_toArray, List.set_cons_zero, List.set_cons_succ]
  refine wpAnyL_take (i := 9) (oi := { dst := some 16, op := Go.Op.extract (Go.Operand.tmp 7) 1, type := 4, pos := "l7_spent.go:248", after := #[{ on := 7, ground := Go.Ground.data }, { on := 10, ground := Go.Ground.gcOnly Go.Departure.lateStores }], guard := none }) (v := ?rv9) rfl (by kernel_rfl) (by kernel_rfl) (by kernel_rfl) (by kernel_rfl) (fun _ _ _ h => h) (Or.inl ⟨by rfl, ?rh9⟩) hS ?rr9
  case rh9 => (intro wS hSw; (try dsimp only at hSw); go_split_ands; go_simp; try with_reducible rfl)
  try simp only [Act.put, List.setIfInBounds_toArray, List.set_cons_zero, List.set_cons_succ]
  refine wpAnyL_take (i := 10) (oi := { dst := some 5, op := Go.Op.assign (Go.Operand.tmp 15), type := 23, pos := "l7_spent.go:248", after := #[{ on := 8, ground := Go.Ground.data }, { on := 6, ground := Go.Ground.chain }, { on := 0, ground := Go.Ground.phase }, { on := 1, ground := Go.Ground.phase }, { on := 2, ground := Go.Ground.phase }, { on := 3, ground := Go.Ground.phase }, { on := 4, ground := Go.Ground.phase }, { on := 5, ground := Go.Ground.phase }, { on := 6, ground := Go.Ground.phase }, { on := 7, ground := Go.Ground.phase }, { on := 8, ground := Go.Ground.phase }, { on := 9, ground := Go.Ground.textOnly Go.Departure.lateStores }], guard := none }) (v := ?rv10) rfl (by kernel_rfl) (by kernel_rfl) (by kernel_rfl) (by kernel_rfl) (fun _ _ _ h => h) (Or.inl ⟨by rfl, ?rh10⟩) hS ?rr10
  case rh10 => (intro wS hSw; (try dsimp only at hSw); go_split_ands; go_simp; try with_reducible rfl)
  try simp only [Act.put, List.setIfInBounds_toArray, List.set_cons_zero, List.set_cons_succ]
  refine wpAnyL_take (i := 11) (oi := { dst := some 6, op := Go.Op.assign (Go.Operand.tmp 16), type := 4, pos := "l7_spent.go:248", after := #[{ on := 9, ground := Go.Ground.data }, { on := 10, ground := Go.Ground.chain }, { on := 0, ground := Go.Ground.phase }, { on := 1, ground := Go.Ground.phase }, { on := 2, ground := Go.Ground.phase }, { on := 3, ground := Go.Ground.phase }, { on := 4, ground := Go.Ground.phase }, { on := 5, ground := Go.Ground.phase }, { on := 6, ground := Go.Ground.phase }, { on := 7, ground := Go.Ground.phase }, { on := 8, ground := Go.Ground.phase }, { on := 9, ground := Go.Ground.phase }, { on := 10, ground := Go.Ground.phase }], guard := none }) (v := ?rv11) rfl (by kernel_rfl) (by kernel_rfl) (by kernel_rfl) (by kernel_rfl) (fun _ _ _ h => h) (Or.inl ⟨by rfl, ?rh11⟩) hS ?rr11
  case rh11 => (intro wS hSw; (try dsimp only at hSw); go_split_ands; go_simp; try with_reducible rfl)
  try simp only [Act.put, List.setIfInBounds_toArray, List.set_cons_zero, List.set_cons_succ]
  refine wpAnyL_done (by kernel_rfl) ?_ _
  have B6 := Lib.hid hb6x
  clear hr hs5 hs6 hS hb6 hb6x
  cases hb <;>
  · go_wp2_with fail
    go_ret
    exact ⟨rfl, B6.out⟩
theorem implHop_lw (w : World) (lo hi : Nat) (m : M.Mz) (a b : Option Addr) (c d : Nat) (h : MzIn lo hi w m a c b d) (hz : hi ≤ w.heap.size) (_h1 : m.doors.length ≤ 1048576) (_h2 : m.keys.length ≤ 1048576) (lo' hi' : Nat) (wa : Option Addr) (wc : Nat) (walk : List Int) (hw : RowIn lo' hi' w wa (M.encIs walk)) (hz' : hi' ≤ w.heap.size) (hl : walk.length ≤ 1048576) (_u1 : walk.length ≤ wc) (_u2 : wc ≤ 9223372036854775807) (_u3 : ∀ z ∈ walk, -9223372036854775808 ≤ z ∧ z ≤ 9223372036854775807) :
    Calls Try.prog 45 #[.agg #[.int .i64 m.size, .slice a m.doors.length c, .slice b m.keys.length d], .slice wa walk.length wc] w (IntsOkPost w (M.hopV m walk) (M.hopB m walk)) := by
  have H := Lib.hid h
  have HW := Lib.hid hw
  have HU := Lib.hid _u3
  have HHB : Hid (M.hopB m walk = (M.askB m walk && !M.winsB m walk)) := Lib.hid rfl
  have HNO := Lib.hid (fun h => M.hopI_no (m := m) (l := walk) h)
  have HYES := Lib.hid (fun h => M.hopI_yes (m := m) (l := walk) h)
  generalize M.hopV m walk = hv at *
  generalize M.hopB m walk = hb at *
  clear h hw _u3
  go_enter Try.func45, Try.ntmps45
  go_upto_region 1 with fail
  refine wp_named ?_
  intro W hW
  have X1 := Lib.hid (show Box3 W w.heap.size 29 (.int .i64 m.size) (.slice a m.doors.length c) (.slice b m.keys.length d) by rw [hW]; exact Box3.new _ _ _ _ rfl)
  have HB := Lib.hid (show Below w.heap.size w W by rw [hW]; exact below_alloc _ _)
  clear hW
  have hzw := HB.out.size
  have hxw := X1.out.lt
  obtain ⟨c0, c1, c2⟩ := X1.out.cells
  go_wp2_with fail
  refine (behind_any W lo hi m a b c d (H.out.below HB.out hz) (by omega) _h1 _h2 lo' hi' wa wc walk (HW.out.below HB.out hz') (by omega) hl HU.out).mono ?_
  rintro e w1 ⟨rfl, hb1⟩
  have X2 := Lib.hid (X1.out.below hb1)
  have HB2 := Lib.hid (HB.out.trans (hb1.mono (by omega)))
  have hz1 := hb1.size
  have HVV := Lib.hid (fun hq => M.behV_yes (m := m) (l := walk) hq)
  clear hb1 X1 HB c0 c1 c2
  go_upto_region 2 with (first | (refine wpList_storeO rfl _ _ rfl _ rfl (M.behV m walk) rfl noO (BoxO.zero w1) ?_; intro W3 hB3 hT3))
  have P3 := Lib.hid hB3
  have X4 := Lib.hid ((X2.out.alloc _).turned hT3 (.inl X2.out.lt))
  have HB4 := Lib.hid (Below.thenTurned (HB2.out.alloc (by omega) _) hT3 (by omega) (by simp; omega))
  have hz4 := hT3.size
  rw [World.size_alloc] at hz4
  have hxl := X4.out.lt
  have hpl := P3.out.lt
  obtain ⟨g2, hg2⟩ : ∃ g2, g2 = w1.heap.size := ⟨_, rfl⟩
  rw [← hg2] at P3 hpl
  rw [← hg2]
  have hg2w : w.heap.size < g2 := by omega
  clear hB3 hT3 X2 HB2 hg2
  cases q0 : M.askB m walk with
  | false =>
    have HA := Lib.hid (show hb = false by rw [HHB.out, q0]; rfl)
    clear q0
    go_wp2_with fail
    go_ret2
    rw [HA.out, HNO.out HA.out]
    exact intsOk_end (l := []) (ownsRow_empty _ _ _ _ (by have := HB4.out.size; omega)) (HB4.out.alloc (by have := HB4.out.size; omega) _)
  | true =>
    have HV := Lib.hid (M.valid_of (M.good_maze (M.ask_good q0)))
    have HIO := Lib.hid (M.ask_isO q0)
    have hf := M.good_few (M.ask_good q0)
    have HA := Lib.hid (show hb = !M.winsB m walk by rw [HHB.out, q0]; rfl)
    have O4 := Lib.hid (show BoxO W3 g2 (M.behO m walk) by rw [← HVV.out q0]; exact P3.out)
    obtain ⟨c0, c1, c2⟩ := X4.out.cells
    have v30 := HV.out.few
    clear q0 P3
    go_wp2_with (first | (refine wpList_loadOW rfl _ rfl _ rfl _ O4.out ?_))
    refine (isGoal_any W3 lo hi m a b c d (H.out.below HB4.out hz) (by have := HB4.out.size; omega) HV.out (M.behO m walk)).mono ?_
    rintro e w5 ⟨rfl, hb5⟩
    have X5 := Lib.hid (X4.out.below hb5)
    have O5 := Lib.hid (O4.out.below hb5)
    have HB5 := Lib.hid (HB4.out.trans (hb5.mono HB4.out.size))
    have hz5 := hb5.size
    have hsz5 := HB5.out.size
    have HWB : Hid (M.winO m (M.behO m walk) = M.winsB m walk) := Lib.hid rfl
    rw [HWB.out]
    clear hb5 c0 c1 c2
    cases q1 : M.winsB m walk with
    | true =>
      have HA2 := Lib.hid (show hb = false by rw [HA.out, q1]; rfl)
      clear q1
      go_wp2_with fail
      go_ret2
      rw [HA2.out, HNO.out HA2.out]
      exact intsOk_end (l := []) (ownsRow_empty _ _ _ _ (by omega)) (HB5.out.alloc (by omega) _)
    | false =>
      have HA2 := Lib.hid (show hb = true by rw [HA.out, q1]; rfl)
      clear q1
      obtain ⟨c0, c1, c2⟩ := X5.out.cells
      go_wp2_with (first | (refine wpList_loadO rfl _ rfl _ rfl _ O5.out ?_))
      refine (nextLocks_any w5 lo hi m a b c d (H.out.below HB5.out hz) (by omega) HV.out (M.behO m walk)).mono ?_
      rintro e w6 ⟨na, nc, rfl, hr, hr1, hr2, hb6⟩
      have X6 := Lib.hid (X5.out.below hb6)
      have O6 := Lib.hid (O5.out.below hb6)
      have HB6 := Lib.hid (HB5.out.trans (hb6.mono (by omega)))
      have hz6 := hb6.size
      have hnx := M.nextO_len m (M.behO m walk)
      have hp : PredJTurn 79 #[.pointer (some ⟨w.heap.size, 0, none⟩), .pointer (some ⟨g2, 0, none⟩)] (fun k => !M.hopeB m (walk ++ [k])) (M.nextO m (M.behO m walk)) w5.heap.size w6.heap.size w6 := fun W' x hx ht => by
        obtain ⟨kn, e, hk1, _⟩ := M.mem_fl.1 hx
        have hxs : M.isO m (walk ++ [x]) = true := by rw [M.isO_snoc, HIO.out, Bool.true_and, List.contains_iff_mem]; exact hx
        have e2 : x = (kn : Int) := by rw [e]
        subst e2
        have hzt := ht.size
        have hlt1 := X5.out.lt
        have hlt2 := O5.out.lt
        exact hopeless_any W' lo hi m a b c d ((H.out.below HB6.out hz).turned ht (by omega) (.inl (by omega))) (by omega) HV.out hf walk w.heap.size g2 (X6.out.turned ht (.inl (by omega))) (O6.out.turned ht (.inl (by omega))) kn (by omega) hxs
      have hdel := deleteFJ_any 79 #[.pointer (some ⟨w.heap.size, 0, none⟩), .pointer (some ⟨g2, 0, none⟩)] (fun k => !M.hopeB m (walk ++ [k])) (enters_of Try.func79 (by kernel_rfl) rfl) w6 w5.heap.size w6.heap.size na nc (M.nextO m (M.behO m walk)) hp hr (Nat.le_refl _) (by omega) hr1 hr2
      rw [← HYES.out HA2.out] at hdel
      have HDEL := Lib.hid hdel
      have hvl : hv.length ≤ nc := by
        rw [HYES.out HA2.out]
        unfold M.kept
        exact Nat.le_trans (List.length_filter_le _ _) hr1
      clear hp hr hb6 hdel c0 c1 c2
      go_wp2_with fail
      refine HDEL.out.mono ?_
      rintro e w7 ⟨rfl, hown, ht⟩
      have HOW := Lib.hid hown
      have HB7 := Lib.hid (Below.thenTurned HB6.out ht (by omega) (by omega))
      have hz7 := ht.size
      clear hown ht
      go_wp2_with fail
      go_ret2
      rw [HA2.out]
      exact ⟨na, nc, rfl, HOW.out.mono (by omega) (by omega), hvl, hr2, HB7.out⟩
end C
end Go.Proofs.Ythgmkkkfhbjhoaa
