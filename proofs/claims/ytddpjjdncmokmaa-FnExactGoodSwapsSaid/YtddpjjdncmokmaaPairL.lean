/-
  WORDS for lists of pairs, and CONTRACTS of the laws' helpers over them. No condition.
-/
import Derived.Test.YtddpjjdncmokmaaMaz
import Derived.Test.YtddpjjdncmokmaaMaz2
import Derived.Test.YtddpjjdncmokmaaWAMem
import Derived.BigQuiet
namespace Go.Proofs.Ytddpjjdncmokmaa
open Go.RowKit
namespace M
/-- a pair of numbers -/
abbrev Pr := Int × Int
def encP (d : Pr) : List Value := [.int .i64 d.1, .int .i64 d.2]
def encPs (l : List Pr) : List Value := l.flatMap encP
theorem encPs_len (l : List Pr) : (encPs l).length = l.length * 2 := by
  unfold encPs; induction l with
  | nil => rfl
  | cons d l ih => simp [encP, ih]; omega
theorem encPs_cons (d : Pr) (l : List Pr) : encPs (d :: l) = encP d ++ encPs l := by simp [encPs]
theorem encPs_append (a b : List Pr) : encPs (a ++ b) = encPs a ++ encPs b := by simp [encPs]
theorem encPs_at {l : List Pr} {k : Nat} (h : k < l.length) (j : Nat) (hj : j < 2) : (encPs l)[k * 2 + j]? = (encP l[k])[j]? := by
  induction l generalizing k with
  | nil => simp at h
  | cons d l ih =>
    rw [encPs_cons]
    cases k with
    | zero =>
      rw [Nat.zero_mul, Nat.zero_add, List.getElem?_append_left (by simp [encP]; omega)]
      rfl
    | succ k =>
      rw [List.getElem?_append_right (by simp [encP]; omega)]
      have e : (k + 1) * 2 + j - (encP d).length = k * 2 + j := by simp [encP]; omega
      rw [e, ih (by simpa using h)]
      simp
theorem encPs_at0 {l : List Pr} {k : Nat} (h : k < l.length) : (encPs l)[k * 2]? = some (.int .i64 l[k].1) := encPs_at h 0 (by omega)
theorem encPs_at1 {l : List Pr} {k : Nat} (h : k < l.length) : (encPs l)[k * 2 + 1]? = some (.int .i64 l[k].2) := encPs_at h 1 (by omega)
end M
namespace C
set_option linter.unusedVariables false
set_option maxHeartbeats 3200000
set_option maxRecDepth 20000
theorem eqPair_any (w : World) (d : M.Pr) : Calls Try.prog 91 #[.agg #[.int .i64 d.1, .int .i64 d.2], .agg #[.int .i64 d.1, .int .i64 d.2]] w fun e w' => e = .returned (.bool true) ∧ Below w.heap.size w w' := by
  go_enter Try.func91, Try.ntmps91
  go_wp2_with fail
  refine wp_loop_rounds 3 ?_
  rw [rounds_succ]
  go_wp2_with fail
  go_quiet (fail)
  go_wp2_with fail
  rw [rounds_succ]
  go_wp2_with fail
  go_quiet (fail)
  go_wp2_with fail
  rw [rounds_succ]
  go_wp2_with fail
  go_ret
  exact ⟨rfl, Below.drawnN (((Below.refl _ _).alloc (Nat.le_refl _) _).alloc (by simp) _) _⟩
theorem eqPairs_any (w : World) (lo hi lo' hi' : Nat) (a b : Option Addr) (c1 c2 : Nat) (l : List M.Pr) (hl : l.length ≤ 9223372036854775806) (h1 : RowIn lo hi w a (M.encPs l)) (h2 : RowIn lo' hi' w b (M.encPs l)) (hz1 : hi ≤ w.heap.size) (hz2 : hi' ≤ w.heap.size) :
    Calls Try.prog 48 #[.slice a l.length c1, .slice b l.length c2] w fun e w' => e = .returned (.bool true) ∧ Below w.heap.size w w' := by
  have h1' := Lib.hid h1
  have h2' := Lib.hid h2
  clear h1 h2
  go_enter Try.func48, Try.ntmps48
  go_wp2_with fail
  go_loopw [5] (fun i wr => ∃ (k : Nat), k ≤ l.length ∧ i = .int .i64 k ∧ Below w.heap.size w wr) (fun i _ => l.length - (intOf i).toNat)
  case atStart => exact ⟨0, Nat.zero_le _, rfl, Below.refl _ _⟩
  case round =>
    obtain ⟨k, hk, rfl, hnx⟩ := hrel
    have HN := Lib.hid hnx
    have hzr := hnx.size
    clear hnx
    by_cases hlt : k < l.length
    · obtain ⟨ab, ao, rfl, _, hab, hca0⟩ := (h1'.out.below HN.out hz1).at_ (k := k * 2) (by rw [M.encPs_len]; omega)
      obtain ⟨bb, bo, rfl, _, hbb, hcb0⟩ := (h2'.out.below HN.out hz2).at_ (k := k * 2) (by rw [M.encPs_len]; omega)
      have a0 := hca0 _ _ (M.encPs_at0 hlt)
      have a1 : wr.cell? ⟨ab, ao + k * 2 + 1, none⟩ = some (.int .i64 l[k].2) := hca0 _ _ (M.encPs_at1 hlt)
      have b0 := hcb0 _ _ (M.encPs_at0 hlt)
      have b1 : wr.cell? ⟨bb, bo + k * 2 + 1, none⟩ = some (.int .i64 l[k].2) := hcb0 _ _ (M.encPs_at1 hlt)
      clear hca0 hcb0
      go_wp2_with fail
      go_region_with (go_at_call 91; refine (eqPair_any _ _).mono ?_; rintro e w2 ⟨rfl, hb2⟩)
      all_goals
        have HN2 := Lib.hid (HN.out.drew.trans (hb2.mono hzr))
        clear hb2
        go_wp2_with fail
        go_roundw
        case rel => exact ⟨k + 1, by omega, by go_num, HN2.out⟩
        case measure => simp [intOf]; omega
    · go_wp2_with fail
      go_ret
      exact ⟨rfl, HN.out⟩
theorem set2p {α : Type} (xs : List α) (k : Nat) (u v : α) (h : k * 2 + 2 ≤ xs.length) : ((xs.set (k * 2) u).set (k * 2 + 1) v).take ((k + 1) * 2) = xs.take (k * 2) ++ [u, v] := by
  have e : xs = xs.take (k * 2) ++ xs.drop (k * 2) := (List.take_append_drop _ _).symm
  have hA : (xs.take (k * 2)).length = k * 2 := by rw [List.length_take]; omega
  have hB : 2 ≤ (xs.drop (k * 2)).length := by rw [List.length_drop]; omega
  generalize xs.take (k * 2) = A at e hA ⊢
  generalize xs.drop (k * 2) = B at e hB
  subst e
  match B, hB with
  | p :: q :: B, _ =>
    rw [List.set_append, if_neg (by omega), List.set_append, if_neg (by omega), hA, Nat.sub_self]
    have e1 : k * 2 + 1 - k * 2 = 1 := by omega
    rw [e1, show (k + 1) * 2 = A.length + 2 by omega, List.take_append]
    simp [List.take_of_length_le]
theorem markPairs_any (w : World) (lo hi : Nat) (a : Option Addr) (c n k0 : Nat) (xs0 : List Value) (hn : xs0.length = n * 2) (hl : n ≤ 1073741824) (hk0 : k0 ≤ 4294967296) (h : OwnAt lo hi w 94 a xs0) :
    Calls Try.prog 49 #[.slice a n c, .int .i64 k0] w fun e w' => e = .returned (.int .i64 ((k0 + n * 2 : Nat) : Int)) ∧ OwnAt lo hi w' 94 a (M.marks k0 (n * 2)) ∧ Turned lo hi w w' := by
  have h' := Lib.hid h
  have HN0 := Lib.hid hn
  clear h hn
  go_enter Try.func49, Try.ntmps49
  go_wp2_with fail
  go_loopw [1, 5, 6] (fun m i _ wr => ∃ (k : Nat) (xs : List Value), k ≤ n ∧ i = .int .i64 k ∧ m = .int .i64 ((k0 + k * 2 : Nat) : Int) ∧ xs.length = n * 2 ∧ xs.take (k * 2) = M.marks k0 (k * 2) ∧
      OwnAt lo hi wr 94 a xs ∧ Turned lo hi w wr) (fun _ i _ _ => n - (intOf i).toNat)
  case atStart => exact ⟨0, xs0, Nat.zero_le _, rfl, by simp, HN0.out, by simp [M.marks], h'.out, Turned.refl _ _ _⟩
  case round =>
    obtain ⟨k, xs, hk, rfl, rfl, hxl, ht, hown, hnx⟩ := hrel
    have HT := Lib.hid ht
    have HX := Lib.hid hxl
    clear ht hxl
    by_cases hlt : k < n
    · have hkx : k * 2 + 1 < xs.length := by have := HX.out; omega
      obtain ⟨b, off, ha, h1, h2, hc⟩ := hown.row.at_ hkx
      subst ha
      obtain ⟨u0, hu0⟩ : ∃ u, xs[k * 2]? = some u := ⟨_, List.getElem?_eq_getElem (by omega)⟩
      obtain ⟨u1, hu1⟩ : ∃ u, xs[k * 2 + 1]? = some u := ⟨_, List.getElem?_eq_getElem (by omega)⟩
      have d0 : wr.cell? ⟨b, off + k * 2, none⟩ = some u0 := hc _ _ hu0
      have d1 : wr.cell? ⟨b, off + k * 2 + 1, none⟩ = some u1 := hc _ _ hu1
      have f0 : wr.frozen? ⟨b, off + k * 2, none⟩ = false := hown.free rfl hkx _
      have f1 : wr.frozen? ⟨b, off + k * 2 + 1, none⟩ = false := hown.free rfl hkx _
      have HS := Lib.hid ((hown.set_ rfl (k * 2) (.int .i64 ((k0 + k * 2 : Nat) : Int))).set_ rfl (k * 2 + 1) (.int .i64 ((k0 + (k * 2 + 1) : Nat) : Int)))
      have HNX := Lib.hid hnx
      have HU := Lib.hid (fun u0 u1 => (Turned.setCell wr b (off + k * 2) u0 h1 h2).trans (Turned.setCell _ b (off + k * 2 + 1) u1 h1 h2))
      have H3 := Lib.hid (set2p xs k (.int .i64 ((k0 + k * 2 : Nat) : Int)) (.int .i64 ((k0 + (k * 2 + 1) : Nat) : Int)) (by omega))
      clear hu0 hu1 hc hown hnx
      go_wp2_with fail
      refine wp_loop_rounds 3 ?_
      rw [rounds_succ]
      go_wp2_with fail
      rw [rounds_succ]
      go_wp2_with fail
      rw [rounds_succ]
      go_wp2_with fail
      go_roundw
      case rel =>
        refine ⟨k + 1, _, by omega, by go_num, by go_num, ?_, ?_, HS.out, HNX.out.trans (HU.out _ _)⟩
        · simp only [List.length_set]; exact HX.out
        · rw [H3.out, HT.out, show (k + 1) * 2 = k * 2 + 1 + 1 by omega, M.marks_succ, M.marks_succ]
          simp
      case measure => simp [intOf]; omega
    · obtain rfl : k = n := by omega
      have HO := Lib.hid hown
      have HN := Lib.hid hnx
      clear hown hnx
      go_wp2_with fail
      go_ret
      refine ⟨rfl, ?_, HN.out⟩
      have e : xs = M.marks k0 (k * 2) := by
        have := HT.out
        rwa [List.take_of_length_le (by have := HX.out; omega)] at this
      rw [← e]
      exact HO.out
theorem heldPairs_any (w : World) (lo hi : Nat) (a : Option Addr) (c n k0 : Nat) (hl : n ≤ 1073741824) (hk0 : k0 ≤ 4294967296) (h : RowIn lo hi w a (M.marks k0 (n * 2))) :
    Calls Try.prog 50 #[.slice a n c, .int .i64 k0] w fun e w' => e = .returned (.int .i64 ((k0 + n * 2 : Nat) : Int)) ∧ w = w' := by
  have h' := Lib.hid h
  clear h
  go_enter Try.func50, Try.ntmps50
  go_wp2_with fail
  go_loop [1, 5, 6] (fun m i _ => ∃ (k : Nat), k ≤ n ∧ i = .int .i64 k ∧ m = .int .i64 ((k0 + k * 2 : Nat) : Int)) (fun _ i _ => n - (intOf i).toNat)
  case atStart => exact ⟨0, Nat.zero_le _, rfl, by simp⟩
  case round =>
    obtain ⟨k, hk, rfl, rfl⟩ := hrel
    by_cases hlt : k < n
    · obtain ⟨b, off, rfl, _, _, hc⟩ := h'.out.at_ (k := k * 2) (by rw [M.marks_len]; omega)
      have d0 : w.cell? ⟨b, off + k * 2, none⟩ = some (.int .i64 ((k0 + k * 2 : Nat) : Int)) := hc (k * 2) _ (M.marks_at (by omega))
      have d1 : w.cell? ⟨b, off + k * 2 + 1, none⟩ = some (.int .i64 ((k0 + (k * 2 + 1) : Nat) : Int)) := hc (k * 2 + 1) _ (M.marks_at (by omega))
      have e1 : ((k0 + (k * 2 + 1) : Nat) : Int) = ((k0 + k * 2 : Nat) : Int) + 1 := by omega
      rw [e1] at d1
      clear hc e1
      go_wp2_with fail
      refine wp_loop_rounds 3 ?_
      rw [rounds_succ]
      go_wp2_with fail
      rw [rounds_succ]
      go_wp2_with fail
      rw [rounds_succ]
      go_wp2_with fail
      go_round
      case rel => exact ⟨k + 1, by omega, by go_num, by go_num⟩
      case measure => simp [intOf]; omega
    · obtain rfl : k = n := by omega
      go_wp2_with fail
      go_ret
      exact ⟨rfl, rfl⟩
end C
end Go.Proofs.Ytddpjjdncmokmaa
