/-
  CONTRACTS of the laws' own helpers over slices of numbers: toIntS gives a copy of its own, eqIntS says yes of two slices that read alike, markIntS writes rising numbers, heldIntS finds them; sizes are counted. Condition: the slices read as lists of numbers, at most 1048576 of them.
-/
import Derived.Test.YtdgfceiobpnchaaMem
import Derived.Test.YtdgfceiobpnchaaMazMath
import Derived.BigQuiet
import Derived.Deep.QuietTactic
import Derived.Laws.MakeOwn
import Derived.WalkKit
import Derived.WalkSpells
import Derived.WalkLawsBesides
import Derived.Lib.Hide
namespace Go.Proofs.Ytdgfceiobpnchaa
open Go.RowKit
namespace M
/-- rising numbers from k on -/
def marks (k n : Nat) : List Value := (List.range n).map fun i => .int .i64 ((k + i : Nat) : Int)
theorem marks_succ (k n : Nat) : marks k (n + 1) = marks k n ++ [.int .i64 ((k + n : Nat) : Int)] := by
  unfold marks; rw [List.range_succ, List.map_append]; rfl
theorem marks_len (k n : Nat) : (marks k n).length = n := by simp [marks]
theorem marks_at {k n i : Nat} (h : i < n) : (marks k n)[i]? = some (.int .i64 ((k + i : Nat) : Int)) := by
  unfold marks
  rw [List.getElem?_map, List.getElem?_range h]
  rfl
theorem encIs_take (l : List Int) (k : Nat) : encIs (l.take k) = (encIs l).take k := by simp [encIs]
theorem takeI_snoc {l : List Int} {k : Nat} (h : k < l.length) : encIs (l.take (k + 1)) = encIs (l.take k) ++ [.int .i64 l[k]] := by
  rw [List.take_succ_eq_append_getElem h, encIs_append]; rfl
end M
namespace C
theorem infoI : (Try.prog.info? 3).map (fun i => (i.zero, i.size, i.bytes)) = some (some (.int .i64 0), 1, 8) := by kernel_rfl

section
set_option maxHeartbeats 800000
set_option maxRecDepth 20000
theorem szInts_any (w : World) (a : Option Addr) (n c : Nat) (left : Int) (h0 : 0 ≤ left) (h1 : left ≤ 1048576) (hn : n ≤ 9223372036854775807) :
    Calls Try.prog 58 #[.slice a n c, .int .i64 left] w fun e w' => (e = .returned (.int .i64 (if left < n then -1 else left - n))) ∧ w = w' := by
  by_cases hlt : left < (n : Int)
  · rw [if_pos hlt]
    go_enter Try.func58, Try.ntmps58
    go_wp2_with fail
    go_ret
    exact ⟨rfl, rfl⟩
  · rw [if_neg hlt]
    go_enter Try.func58, Try.ntmps58
    go_wp2_with fail
    go_ret
    exact ⟨rfl, rfl⟩
theorem toInts_any (w : World) (lo hi : Nat) (a : Option Addr) (c : Nat) (l : List Int) (h : RowIn lo hi w a (M.encIs l)) (hz : hi ≤ w.heap.size) (hl : l.length ≤ 1048576) :
    Calls Try.prog 33 #[.slice a l.length c] w fun e w' => e = .returned (.slice (some ⟨w.heap.size, 0, none⟩) l.length l.length) ∧ OwnAt w.heap.size w'.heap.size w' 3 (some ⟨w.heap.size, 0, none⟩) (M.encIs l) ∧ Below w.heap.size w w' := by
  obtain ⟨i0, hi0, hz0, hz1, hz2⟩ := info_parts infoI
  have h' := Lib.hid h
  clear h
  go_enter Try.func33, Try.ntmps33
  go_wp2_with (at_make; refine wpList_make_full _ rfl _ _ 23 rfl w.heap.size 3 i0 (.int .i64 0) 1 Try.underlying23 hi0 hz0 hz1 .i64 .i64 _ _ l.length rfl rfl rfl rfl (by rw [hz2]; omega) (by unfold maxLen; omega) (Nat.le_refl _) ?_; intro w1 hown1 hgrow1)
  have hb1 : Below w.heap.size w w1 := (Below.refl _ _).grown hgrow1 (Nat.le_refl _) (fun k e => by cases e)
  have hx1 : ∃ xs : List Value, w1.ownsRow w.heap.size 3 1 (.slice (some ⟨w.heap.size, 0, none⟩) l.length l.length) l.length xs := ⟨_, hown1⟩
  have HB1 := Lib.hid hb1
  have HX1 := Lib.hid hx1
  clear hown1 hgrow1 hb1 hx1
  go_wp2_with fail
  go_loopw [4] (fun i wr => ∃ (k : Nat) (xs : List Value), k ≤ l.length ∧ i = .int .i64 k ∧ xs.take k = M.encIs (l.take k) ∧
      wr.ownsRow w.heap.size 3 1 (.slice (some ⟨w.heap.size, 0, none⟩) l.length l.length) l.length xs ∧ Below w.heap.size w wr) (fun i _ => l.length - (intOf i).toNat)
  case atStart =>
    obtain ⟨xs, hx⟩ := HX1.out
    exact ⟨0, xs, Nat.zero_le _, rfl, by simp [M.encIs], hx, HB1.out⟩
  case round =>
    obtain ⟨k, xs, hk, rfl, ht, hown, hnx⟩ := hrel
    have HT := Lib.hid ht
    have HO := Lib.hid hown
    have HN := Lib.hid hnx
    have hxl : xs.length = l.length := by have := hown.1; omega
    clear ht hown hnx
    by_cases hlt : k < l.length
    · obtain ⟨b, off, rfl, _, hb, hcell0⟩ := h'.out.at_ (k := k) (by rw [M.encIs_len]; exact hlt)
      have hcell : wr.cell? ⟨b, off + k, none⟩ = some (.int .i64 l[k]) := (HN.out.cell (p := ⟨b, off + k, none⟩) (Nat.lt_of_lt_of_le hb hz)).trans (hcell0 k _ (M.encIs_at hlt))
      obtain ⟨u, hu⟩ : ∃ u, xs[k]? = some u := ⟨_, List.getElem?_eq_getElem (by omega)⟩
      have hdst : wr.cell? ⟨w.heap.size, k, none⟩ = some u := by
        rw [HO.out.cellAt k (by omega), hu]
      have hfr : wr.frozen? ⟨w.heap.size, k, none⟩ = false := HO.out.frozenAt k
      have HS := Lib.hid (HO.out.stored k (.int .i64 l[k]))
      clear hcell0 hu
      have HX := Lib.hid hxl
      clear hxl
      go_wp2_with fail
      go_roundw
      case rel =>
        refine ⟨k + 1, xs.set k (.int .i64 l[k]), by omega, by go_num, ?_, HS.out.1, HN.out.setCell (p := ⟨w.heap.size, k, none⟩) (Nat.le_refl _) _⟩
        have h1 : k < xs.length := by have := HX.out; omega
        rw [List.take_succ_eq_append_getElem (by simpa using h1), List.take_set_of_le (Nat.le_refl _), HT.out, M.takeI_snoc hlt, List.getElem_set_self]
      case measure => simp [intOf]; omega
    · have HA : Hid (xs = M.encIs l) := Lib.hid (by
        have := HT.out
        rwa [List.take_of_length_le (by omega), List.take_of_length_le (by omega)] at this)
      go_wp2_with fail
      go_ret
      exact ⟨rfl, by have := HO.out; rw [HA.out] at this; exact OwnAt.of_own this, HN.out⟩

theorem eqInts_any (w : World) (lo hi lo' hi' : Nat) (a b : Option Addr) (c1 c2 : Nat) (l : List Int) (hl : l.length ≤ 9223372036854775806) (h1 : RowIn lo hi w a (M.encIs l)) (h2 : RowIn lo' hi' w b (M.encIs l)) :
    Calls Try.prog 26 #[.slice a l.length c1, .slice b l.length c2] w fun e w' => e = .returned (.bool true) ∧ ∃ m, w' = w.drewN m := by
  have h1' := Lib.hid h1
  have h2' := Lib.hid h2
  clear h1 h2
  go_enter Try.func26, Try.ntmps26
  go_wp2_with fail
  go_loopw [5] (fun i wr => ∃ (k m : Nat), k ≤ l.length ∧ i = .int .i64 k ∧ wr = w.drewN m) (fun i _ => l.length - (intOf i).toNat)
  case atStart => exact ⟨0, 0, Nat.zero_le _, rfl, rfl⟩
  case round =>
    obtain ⟨k, m, hk, rfl, rfl⟩ := hrel
    by_cases hlt : k < l.length
    · obtain ⟨ab, ao, rfl, _, _, hca0⟩ := h1'.out.at_ (k := k) (by rw [M.encIs_len]; exact hlt)
      obtain ⟨bb, bo, rfl, _, _, hcb0⟩ := h2'.out.at_ (k := k) (by rw [M.encIs_len]; exact hlt)
      have hca := hca0 k _ (M.encIs_at hlt)
      have hcb := hcb0 k _ (M.encIs_at hlt)
      clear hca0 hcb0
      go_wp2_with fail
      go_quiet (fail)
      go_wp2_with fail
      go_roundw
      case rel => exact ⟨k + 1, _, by omega, by go_num, rfl⟩
      case measure => simp [intOf]; omega
    · go_wp2_with fail
      go_ret
      exact ⟨rfl, _, rfl⟩

theorem markInts_any (w : World) (lo hi : Nat) (a : Option Addr) (c n k0 : Nat) (xs0 : List Value) (hn : xs0.length = n) (hl : n ≤ 1073741824) (hk0 : k0 ≤ 4294967296) (h : OwnAt lo hi w 3 a xs0) :
    Calls Try.prog 28 #[.slice a n c, .int .i64 k0] w fun e w' => e = .returned (.int .i64 ((k0 + n : Nat) : Int)) ∧ OwnAt lo hi w' 3 a (M.marks k0 n) ∧ Turned lo hi w w' := by
  have h' := Lib.hid h
  have HN0 := Lib.hid hn
  clear h hn
  go_enter Try.func28, Try.ntmps28
  go_wp2_with fail
  go_loopw [1, 5] (fun m i wr => ∃ (k : Nat) (xs : List Value), k ≤ n ∧ i = .int .i64 k ∧ m = .int .i64 ((k0 + k : Nat) : Int) ∧ xs.length = n ∧ xs.take k = M.marks k0 k ∧
      OwnAt lo hi wr 3 a xs ∧ Turned lo hi w wr) (fun _ i _ => n - (intOf i).toNat)
  case atStart => exact ⟨0, xs0, Nat.zero_le _, rfl, rfl, HN0.out, rfl, h'.out, Turned.refl _ _ _⟩
  case round =>
    obtain ⟨k, xs, hk, rfl, rfl, hxl, ht, hown, hnx⟩ := hrel
    have HT := Lib.hid ht
    have HX := Lib.hid hxl
    clear ht hxl
    by_cases hlt : k < n
    · have hkx : k < xs.length := by have := HX.out; omega
      obtain ⟨b, off, ha, h1, h2, hc⟩ := hown.row.at_ hkx
      subst ha
      obtain ⟨u, hu⟩ : ∃ u, xs[k]? = some u := ⟨_, List.getElem?_eq_getElem hkx⟩
      have hdst : wr.cell? ⟨b, off + k, none⟩ = some u := hc k u hu
      have hfr : wr.frozen? ⟨b, off + k, none⟩ = false := hown.free rfl hkx _
      have HS := Lib.hid (hown.set_ rfl k (.int .i64 ((k0 + k : Nat) : Int)))
      have HN := Lib.hid (hnx.trans (Turned.setCell wr b (off + k) (.int .i64 ((k0 + k : Nat) : Int)) h1 h2))
      clear hu hc hown hnx
      go_wp2_with fail
      go_roundw
      case rel =>
        refine ⟨k + 1, xs.set k (.int .i64 ((k0 + k : Nat) : Int)), by omega, by go_num, by go_num, by rw [List.length_set]; exact HX.out, ?_, HS.out, HN.out⟩
        rw [List.take_succ_eq_append_getElem (by simpa using hkx), List.take_set_of_le (Nat.le_refl _), HT.out, M.marks_succ, List.getElem_set_self]
      case measure => simp [intOf]; omega
    · obtain rfl : k = n := by omega
      have HO := Lib.hid hown
      have HN := Lib.hid hnx
      clear hown hnx
      go_wp2_with fail
      go_ret
      refine ⟨rfl, ?_, HN.out⟩
      have e : xs = M.marks k0 k := by
        have := HT.out
        rwa [List.take_of_length_le (by have := HX.out; omega)] at this
      rw [← e]
      exact HO.out
theorem heldInts_any (w : World) (lo hi : Nat) (a : Option Addr) (c n k0 : Nat) (hl : n ≤ 1073741824) (hk0 : k0 ≤ 4294967296) (h : RowIn lo hi w a (M.marks k0 n)) :
    Calls Try.prog 29 #[.slice a n c, .int .i64 k0] w fun e w' => e = .returned (.int .i64 ((k0 + n : Nat) : Int)) ∧ w = w' := by
  have h' := Lib.hid h
  clear h
  go_enter Try.func29, Try.ntmps29
  go_wp2_with fail
  go_loop [1, 5] (fun m i => ∃ (k : Nat), k ≤ n ∧ i = .int .i64 k ∧ m = .int .i64 ((k0 + k : Nat) : Int)) (fun _ i => n - (intOf i).toNat)
  case atStart => exact ⟨0, Nat.zero_le _, rfl, rfl⟩
  case round =>
    obtain ⟨k, hk, rfl, rfl⟩ := hrel
    by_cases hlt : k < n
    · obtain ⟨b, off, rfl, _, _, hc0⟩ := h'.out.at_ (k := k) (by rw [M.marks_len]; exact hlt)
      have hc := hc0 k _ (M.marks_at hlt)
      clear hc0
      go_wp2_with fail
      go_round
      case rel => exact ⟨k + 1, by omega, by go_num, by go_num⟩
      case measure => simp [intOf]; omega
    · obtain rfl : k = n := by omega
      go_wp2_with fail
      go_ret
      exact ⟨rfl, rfl⟩
end
end C
end Go.Proofs.Ytdgfceiobpnchaa
