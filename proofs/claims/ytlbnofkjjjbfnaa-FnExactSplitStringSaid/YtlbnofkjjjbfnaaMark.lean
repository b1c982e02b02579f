/-
  CONTRACTS of what an exact law does to an answer that is a slice of strings: markText writes a number as a text; markStringS writes such texts into the slice's own row; heldStringS looks for them again. Conditions: the slice has at most 1048576 elements; numbers are from 1 on and small.
-/
import Derived.Test.YtlbnofkjjjbfnaaStrs2
import Derived.Test.YtlbnofkjjjbfnaaJoin3
import Derived.WalkKit
import Derived.WalkSpells
import Derived.WalkLawsBesides
import Derived.Lib.Hide
import Derived.Deep.RegionWith
import Derived.Laws.IdiomStrings
namespace Go.Proofs.Ytlbnofkjjjbfnaa
open Go.RowKit
namespace M
/-- the decimal digits of a number, none for 0 -/
def digs (k : Nat) : List UInt8 := if _h : k = 0 then [] else digs (k / 10) ++ [48 + UInt8.ofNat (k % 10)]
termination_by k
decreasing_by omega
theorem digs_zero : digs 0 = [] := by rw [digs]; simp
theorem digs_step {k : Nat} (h : k ≠ 0) : digs k = digs (k / 10) ++ [48 + UInt8.ofNat (k % 10)] := by rw [digs]; simp [h]
theorem digs_len : ∀ (n k : Nat), k < 10 ^ n → (digs k).length ≤ n
  | 0, k, h => by
    have : k = 0 := by simpa using h
    subst this
    simp [digs_zero]
  | n + 1, k, h => by
    by_cases h0 : k = 0
    · subst h0; simp [digs_zero]
    · rw [digs_step h0]
      have := digs_len n (k / 10) (by rw [Nat.pow_succ] at h; omega)
      simp
      omega
def mark (k : Nat) : ByteArray := ⟨(109 :: digs k).toArray⟩
def marks (n : Nat) : List Value := (List.range n).map fun i => Value.string (mark (1 + i))
theorem marks_succ (k : Nat) : marks (k + 1) = marks k ++ [Value.string (mark (1 + k))] := by simp [marks, List.range_succ]
end M
namespace C
theorem grown_of_below {w w' : World} (h : Below w.heap.size w w') : w.grownBy w' none := ⟨h.os, h.tape, h.output, h.size, fun k hk _ => h.block k hk⟩
theorem one_back (w : World) (b : UInt8) : (convert 22 9 (.slice (some ⟨w.heap.size, 0, none⟩) 1 1)).run Try.prog (w.alloc (.cells #[.int .u8 (b.toNat : Int)] 5)) = .ok (.string ⟨#[b]⟩) (w.alloc (.cells #[.int .u8 (b.toNat : Int)] 5)) :=
  run_convert_bytes_back (w.alloc (.cells #[.int .u8 (b.toNat : Int)] 5)) 22 9 5 ⟨w.heap.size, 0, none⟩ 1 [b] Try.underlying22 Try.underlying5 Try.underlying9 (fun j hj => by
    have : j = 0 := by simpa using hj
    subst this
    exact cell_one_new _ _ _ 0 _ rfl)
set_option maxHeartbeats 800000 in
theorem markText_any (k : Nat) (h1 : 1 ≤ k) (h2 : k ≤ 1099511627776) (w : World) :
    Calls Try.prog 34 #[.int .i64 k] w fun e w' => e = .returned (.string (M.mark k)) ∧ Below w.heap.size w w' := by
  go_enter Try.func34, Try.ntmps34
  go_wp2_with fail
  go_loopw [0, 3] (fun a o wr => ∃ (j : Nat) (s : ByteArray), j ≤ k ∧ a = .int .i64 j ∧ o = .string s ∧ M.digs k = M.digs j ++ s.data.toList ∧ Below w.heap.size w wr) (fun a _ _ => (intOf a).toNat)
  case atStart => exact ⟨k, ⟨#[]⟩, Nat.le_refl _, rfl, rfl, by simp, Below.refl _ _⟩
  case round =>
    obtain ⟨j, s, hj, rfl, rfl, hd, hb⟩ := hrel
    have hsl : s.size ≤ 13 := by
      have h3 := congrArg List.length hd
      have h4 := M.digs_len 13 k (by omega)
      have h5 : s.data.toList.length = s.size := by rw [Array.length_toList]; rfl
      rw [List.length_append] at h3
      omega
    have HD := Lib.hid hd
    have HB := Lib.hid hb
    clear hd hb
    by_cases h0 : j = 0
    · subst h0
      go_wp2_with fail
      go_ret
      refine ⟨?_, HB.out⟩
      have e : M.mark k = ⟨#[109]⟩ ++ s := by
        unfold M.mark
        rw [HD.out, M.digs_zero, List.nil_append]
        apply ByteArray.ext
        rw [ByteArray.data_append]
        simp
      rw [e]
      rfl
    · have hdg : ((48 + UInt8.ofNat (j % 10)).toNat : Int) = 48 + (j : Int) % 10 := by
        have h1 : j % 10 < 10 := Nat.mod_lt _ (by decide)
        have h2 : (48 + UInt8.ofNat (j % 10)).toNat = 48 + j % 10 := by
          rw [UInt8.toNat_add, UInt8.toNat_ofNat']
          show (48 + j % 10 % 256) % 256 = _
          omega
        rw [h2]
        omega
      have hcv := C.one_back wr (48 + UInt8.ofNat (j % 10))
      rw [hdg] at hcv
      have HS : Hid (M.digs k = M.digs (j / 10) ++ ((⟨#[48 + UInt8.ofNat (j % 10)]⟩ : ByteArray) ++ s).data.toList) := Lib.hid (by
        rw [HD.out, M.digs_step h0, ByteArray.data_append]
        simp)
      clear hdg
      go_wp2_with fail
      go_roundw
      case rel => exact ⟨j / 10, _, by omega, by go_num, rfl, HS.out, HB.out.alloc HB.out.size _⟩
      case measure => simp [intOf]; omega

set_option maxHeartbeats 800000 in
theorem markS_any (w : World) (B g cap : Nat) (n : Nat) (xs0 : List Value) (hl : n ≤ 1048576) (h : w.ownsRow B 9 1 (.slice (some ⟨g, 0, none⟩) n cap) n xs0) (hB : B ≤ w.heap.size) :
    Calls Try.prog 19 #[.slice (some ⟨g, 0, none⟩) n cap, .int .i64 1] w fun e w' => e = .returned (.int .i64 (1 + n : Nat)) ∧ w'.ownsRow B 9 1 (.slice (some ⟨g, 0, none⟩) n cap) n (M.marks n) ∧ Below B w w' := by
  have h' := Lib.hid h
  clear h
  go_enter Try.func19, Try.ntmps19
  go_wp2_with fail
  go_loopw [1, 5] (fun m i wr => ∃ (k : Nat) (xs : List Value), k ≤ n ∧ i = .int .i64 k ∧ m = .int .i64 (1 + k : Nat) ∧ xs.take k = M.marks k ∧
      wr.ownsRow B 9 1 (.slice (some ⟨g, 0, none⟩) n cap) n xs ∧ Below B w wr) (fun _ i _ => n - (intOf i).toNat)
  case atStart => exact ⟨0, xs0, Nat.zero_le _, rfl, rfl, rfl, h'.out, Below.refl _ _⟩
  case round =>
    obtain ⟨k, xs, hk, rfl, rfl, ht, hown, hnx⟩ := hrel
    have hsz := hnx.size
    have hgB : B ≤ g := own_base hown g rfl
    have hglt : g < wr.heap.size := by
      have := hown.2
      exact own_lt hown
    have hxl : xs.length = n := by have := hown.1; omega
    have HT := Lib.hid ht
    have HO := Lib.hid hown
    have HN := Lib.hid hnx
    clear ht hown hnx
    by_cases hlt : k < n
    · have CM := Lib.hid (markText_any (1 + k) (by omega) (by omega) wr)
      have HX := Lib.hid hxl
      clear hxl
      go_wp2_with fail
      refine CM.out.mono ?_
      rintro e w2 ⟨rfl, hb2⟩
      have ho2 := HO.out.kept (grown_of_below hb2) (.inr (by simp [Value.ownBlock]))
      obtain ⟨u, hu⟩ : ∃ u, xs[k]? = some u := ⟨_, List.getElem?_eq_getElem (by have := HX.out; omega)⟩
      have hdst : w2.cell? ⟨g, k, none⟩ = some u := by rw [ho2.cellAt k (by omega), hu]
      have hfr : w2.frozen? ⟨g, k, none⟩ = false := ho2.frozenAt k
      have HS := Lib.hid (ho2.stored k (.string (M.mark (1 + k))))
      have HB2 := Lib.hid ((HN.out.trans (hb2.mono (Nat.le_trans hB hsz))).setCell (B := B) (p := ⟨g, k, none⟩) hgB (.string (M.mark (1 + k))))
      clear hu ho2 hb2
      go_wp2_with fail
      go_roundw
      case rel =>
        refine ⟨k + 1, xs.set k (.string (M.mark (1 + k))), by omega, by go_num, by go_num, ?_, HS.out.1, HB2.out⟩
        have h1 : k < xs.length := by have := HX.out; omega
        rw [List.take_succ_eq_append_getElem (by simpa using h1), List.take_set_of_le (Nat.le_refl _), HT.out, M.marks_succ, List.getElem_set_self]
      case measure => simp [intOf]; omega
    · obtain rfl : k = n := by omega
      go_wp2_with fail
      go_ret
      refine ⟨rfl, ?_, HN.out⟩
      have e : xs = M.marks k := by
        have := HT.out
        rwa [List.take_of_length_le (by omega)] at this
      rw [← e]
      exact HO.out
set_option maxHeartbeats 800000 in
theorem heldS_any (w : World) (B : Nat) (a : Option Addr) (cap : Nat) (n : Nat) (hl : n ≤ 1048576) (h : StrsAt B w a ((List.range n).map fun i => M.mark (1 + i))) (hB : B ≤ w.heap.size) :
    Calls Try.prog 20 #[.slice a n cap, .int .i64 1] w fun e w' => e = .returned (.int .i64 (1 + n : Nat)) ∧ Below w.heap.size w w' := by
  have h' := Lib.hid h
  clear h
  go_enter Try.func20, Try.ntmps20
  go_wp2_with fail
  go_loopw [1, 5] (fun m i wr => ∃ (k : Nat), k ≤ n ∧ i = .int .i64 k ∧ m = .int .i64 (1 + k : Nat) ∧ Below w.heap.size w wr) (fun _ i _ => n - (intOf i).toNat)
  case atStart => exact ⟨0, Nat.zero_le _, rfl, rfl, Below.refl _ _⟩
  case round =>
    obtain ⟨k, hk, rfl, rfl, hnx⟩ := hrel
    have HN := Lib.hid hnx
    clear hnx
    by_cases hlt : k < n
    · have CM := Lib.hid (fun w => markText_any (1 + k) (by omega) (by omega) w)
      obtain ⟨b, off, rfl, hb, hcell0⟩ := h'.out.at_ (k := k) (by simpa using hlt)
      have hcell : wr.cell? ⟨b, off + k, none⟩ = some (.string (M.mark (1 + k))) := by
        have := ((HN.out.mono hB).cell (p := ⟨b, off + k, none⟩) hb).trans hcell0
        simpa using this
      clear hcell0
      go_wp2_with fail
      go_region_with (go_at_call 34; refine (CM.out _).mono ?_; rintro e w2 ⟨rfl, hb2⟩; have hcell2 : w2.cell? ⟨b, off + k, none⟩ = some (.string (M.mark (1 + k))) := (hb2.cell (p := ⟨b, off + k, none⟩) (Nat.lt_of_lt_of_le hb (Nat.le_trans hB HN.out.size))).trans hcell)
      all_goals
        have hfin := Lib.hid (HN.out.drew.trans (hb2.mono HN.out.size))
        clear hb2 hcell2
        go_wp2_with fail
        go_roundw
        case rel => exact ⟨k + 1, by omega, by go_num, by go_num, hfin.out⟩
        case measure => simp [intOf]; omega
    · obtain rfl : k = n := by omega
      go_wp2_with fail
      go_ret
      exact ⟨rfl, HN.out⟩
end C
end Go.Proofs.Ytlbnofkjjjbfnaa
