/-
  CONTRACTS of strings.Cut (at a text of one byte), spec.VerifyChecksum and impl.VerifyChecksum: a string of at most 4000 bytes that is the sealed form of what stands ahead of its first byte 35 is verified as that, every other string is not; what lay in memory stays. Condition for impl.VerifyChecksum: the library's table of powers of ten reads as laid; the string has at most 1048576 bytes.
-/
import Derived.Test.YtlbnofkjjjbfnaaDoorFirst
import Derived.Test.YtlbnofkjjjbfnaaDoorSplit
import Derived.Test.YtlbnofkjjjbfnaaDoorSeal
import Derived.Deep.QuietTactic
import Derived.BigQuiet
import Derived.Lib.SmallJoins
import Derived.WalkKit
import Derived.WalkSpells
import Derived.WalkLawsBesides
import Derived.Lib.Hide
namespace Go.Proofs.YtlbnofkjjjbfnaaDoor
open Go.RowKit
namespace C

def Vok (s : ByteArray) : Prop := sealB (M.fstB 35 s) = s ∧ s.size ≤ 4000

set_option maxHeartbeats 400000 in
theorem cutlite_no (s : ByteArray) (c : UInt8) (w : World) (h : M.has s.data.toList c = false) :
    Calls Tryd.prog 43 #[.string s, .string ⟨#[c]⟩] w fun e w' => e = .returned (.tuple #[.string s, .string ⟨#[]⟩, .bool false]) ∧ w = w' := by
  have hi : ¬ 0 ≤ Lib.indexByte s.data.toList c := by
    intro hh
    have := M.index_has s.data.toList c
    rw [h, decide_eq_true hh] at this
    cases this
  go_enter Tryd.func43, Tryd.ntmps43
  go_wp2_with fail
  refine (Tryd.stringslite_Index_one s c _).mono ?_
  rintro e w' ⟨rfl, rfl⟩
  go_wp2_with fail
  go_ret3
  exact ⟨rfl, rfl⟩

set_option maxHeartbeats 400000 in
theorem cutlite_yes (s : ByteArray) (c : UInt8) (w : World) (hs : s.size ≤ 1048576) (h : M.has s.data.toList c = true) :
    Calls Tryd.prog 43 #[.string s, .string ⟨#[c]⟩] w fun e w' => (∃ b, e = .returned (.tuple #[.string (M.fstB c s), .string b, .bool true])) ∧ ∃ k, w' = w.drewN k := by
  have hi : 0 ≤ Lib.indexByte s.data.toList c := by
    have := M.index_has s.data.toList c
    rw [h] at this
    exact of_decide_eq_true this
  obtain ⟨o, ho⟩ : ∃ o : Nat, Lib.indexByte s.data.toList c = o := ⟨(Lib.indexByte s.data.toList c).toNat, by omega⟩
  obtain ⟨h1, h2⟩ := Lib.indexByte_some ho
  have hlt : o < s.size := by
    have := (List.getElem?_eq_some_iff.1 h1).1
    simpa using this
  have hf : Hid (M.fstB c s = s.extract 0 o) := Lib.hid (by
    unfold M.fstB
    rw [M.fst_take h1 h2, M.extract_mk]
    rfl)
  have hc := Lib.hid (Tryd.stringslite_Index_one s c)
  have HO := Lib.hid ho
  clear h h1 h2 hi ho
  go_enter Tryd.func43, Tryd.ntmps43
  go_wp2_with fail
  refine (hc.out _).mono ?_
  rw [HO.out]
  rintro e w' ⟨rfl, rfl⟩
  go_wp2_with fail
  go_quiet (fail)
  go_wp2_with fail
  go_ret3
  exact ⟨⟨_, by rw [hf.out]; rfl⟩, _, rfl⟩

theorem cut_no (s : ByteArray) (c : UInt8) (w : World) (h : M.has s.data.toList c = false) :
    Calls Tryd.prog 35 #[.string s, .string ⟨#[c]⟩] w fun e w' => e = .returned (.tuple #[.string s, .string ⟨#[]⟩, .bool false]) ∧ w = w' := by
  have c1 := Lib.hid (fun w => cutlite_no s c w h)
  clear h
  go_enter Tryd.func35, Tryd.ntmps35
  go_wp2_with fail
  refine (c1.out _).mono ?_
  rintro e w' ⟨rfl, rfl⟩
  go_wp2_with fail
  go_ret3
  exact ⟨rfl, rfl⟩
theorem cut_yes (s : ByteArray) (c : UInt8) (w : World) (hs : s.size ≤ 1048576) (h : M.has s.data.toList c = true) :
    Calls Tryd.prog 35 #[.string s, .string ⟨#[c]⟩] w fun e w' => (∃ b, e = .returned (.tuple #[.string (M.fstB c s), .string b, .bool true])) ∧ ∃ k, w' = w.drewN k := by
  have c1 := Lib.hid (fun w => cutlite_yes s c w hs h)
  clear h
  go_enter Tryd.func35, Tryd.ntmps35
  go_wp2_with fail
  refine (c1.out _).mono ?_
  rintro e w' ⟨⟨b, rfl⟩, k, rfl⟩
  go_wp2_with fail
  go_ret3
  exact ⟨⟨b, rfl⟩, _, rfl⟩

theorem textB_same {a b : ByteArray} (h : a = b) : (a.toList == b.toList) = true := by rw [h]; simp
theorem textB_other {a b : ByteArray} (h : a ≠ b) : (a.toList == b.toList) = false := by
  rw [ByteArray.toList_eq, ByteArray.toList_eq]
  simp
  intro e
  exact h (ByteArray.ext (Array.toList_inj.1 (by simpa using e)))

/-! ### the model's function -/
set_option maxHeartbeats 400000 in
theorem specVer_long (s : ByteArray) (w : World) (h : 4000 < s.size) (hm : s.size ≤ 1048576) :
    Calls Tryd.prog 20 #[.string s] w fun e w' => e = .returned (.tuple #[.string ⟨#[]⟩, .bool false]) ∧ Below w.heap.size w w' := by
  have h' : 4000 < (s.size : Int) := by omega
  go_enter Tryd.func20, Tryd.ntmps20
  go_wp2_with fail
  go_ret2
  exact ⟨rfl, Below.refl _ _⟩

def verE (b : Bool) (t : ByteArray) : Value := if b then .tuple #[.string t, .bool true] else .tuple #[.string ⟨#[]⟩, .bool false]

set_option maxHeartbeats 800000 in
theorem specVer_short (s : ByteArray) (w : World) (h : s.size ≤ 4000) (b : Bool) (hb : ((sealB (M.fstB 35 s)).toList == s.toList) = b) :
    Calls Tryd.prog 20 #[.string s] w fun e w' => e = .returned (verE b (M.fstB 35 s)) ∧ Below w.heap.size w w' := by
  have h' : ¬ 4000 < (s.size : Int) := by omega
  have hsz := M.fstB_size 35 s
  go_enter Tryd.func20, Tryd.ntmps20
  go_wp2_with fail
  refine (split_any s 35 _ (by omega)).mono ?_
  rintro e w1 ⟨v, rfl, hown, hb1⟩
  obtain ⟨g, cap, rfl⟩ := Joins.ownsRow_form hown (M.split_len 35 _)
  have hcell : w1.cell? ⟨g, 0, none⟩ = some (.string (M.fstB 35 s)) := by
    rw [hown.cellAt 0 (by have := M.split_len 35 s.data.toList; omega), List.getElem?_map, M.split_head]
    rfl
  have hlen : 0 < (M.splitL 35 s.data.toList).length := M.split_len 35 _
  have hmx : (M.splitL 35 s.data.toList).length ≤ 4001 := by
    have := M.sp_len 35 s.data.toList
    simp [M.splitL] at this ⊢
    omega
  have hb1' := Lib.hid hb1
  clear hown hb1
  go_wp2_with fail
  refine (seal_any _ _ (by omega)).mono ?_
  rintro e w2 ⟨rfl, k, rfl⟩
  cases b
  · go_wp2_with fail
    go_ret2
    exact ⟨rfl, hb1'.out.trans (below_drawn _ _ |>.mono hb1'.out.size)⟩
  · go_wp2_with fail
    go_ret2
    exact ⟨rfl, hb1'.out.trans (below_drawn _ _ |>.mono hb1'.out.size)⟩
/-! ### the program's function -/
theorem fst_has (s : ByteArray) : M.has (M.fstB 35 s).data.toList 35 = false := by
  cases h : M.has (M.fstB 35 s).data.toList 35 with
  | false => rfl
  | true => exact absurd (M.has_mem.1 h) (by simpa [M.fstB] using M.fst_free 35 s.data.toList)
theorem vok_has {s : ByteArray} (h : sealB (M.fstB 35 s) = s) : M.has s.data.toList 35 = true := by
  rw [M.has_mem, ← h]
  simp [sealB]
theorem vok_iff (s : ByteArray) (hz : (M.fstB 35 s).size + 1 + (sumB (M.fstB 35 s)).size ≤ 4000) (h : sealB (M.fstB 35 s) = s) : s.size ≤ 4000 := by
  have := sealB_size (M.fstB 35 s)
  rw [h] at this
  omega

set_option maxHeartbeats 400000 in
theorem implVer_none (s : ByteArray) (w : World) (h : M.has s.data.toList 35 = false) :
    Calls Tryd.prog 18 #[.string s] w fun e w' => e = .returned (.tuple #[.string ⟨#[]⟩, .bool false]) ∧ Below w.heap.size w w' := by
  have c1 := Lib.hid (fun w => cut_no s 35 w h)
  clear h
  go_enter Tryd.func18, Tryd.ntmps18
  go_wp2_with fail
  refine (c1.out _).mono ?_
  rintro e w' ⟨rfl, rfl⟩
  go_wp2_with fail
  go_ret2
  exact ⟨rfl, Below.refl _ _⟩

set_option maxHeartbeats 400000 in
theorem implVer_bad (s : ByteArray) (w : World) (hs : s.size ≤ 1048576) (h : M.has s.data.toList 35 = true)
    (hn : 4000 < (M.fstB 35 s).size ∨ ((M.fstB 35 s).size ≤ 4000 ∧ M.has (M.fstB 35 s).data.toList 35 = true) ∨ ((M.fstB 35 s).size ≤ 4000 ∧ M.has (M.fstB 35 s).data.toList 35 = false ∧ 4000 < (M.fstB 35 s).size + 1 + (sumB (M.fstB 35 s)).size)) (he : Env w) :
    Calls Tryd.prog 18 #[.string s] w fun e w' => e = .returned (.tuple #[.string ⟨#[]⟩, .bool false]) ∧ Below w.heap.size w w' := by
  have c1 := Lib.hid (fun w => cut_yes s 35 w hs h)
  have hn' := Lib.hid hn
  have he' := Lib.hid he
  clear h hn he
  go_enter Tryd.func18, Tryd.ntmps18
  go_wp2_with fail
  refine (c1.out _).mono ?_
  rintro e w' ⟨⟨b, rfl⟩, k, rfl⟩
  go_wp2_with fail
  refine (implApp_no _ _ hn'.out (he'.out.keep (below_drawn _ _))).mono ?_
  rintro e w2 ⟨rfl, hb2⟩
  go_wp2_with fail
  go_ret2
  exact ⟨rfl, C.Below.more (below_drawn _ _) hb2⟩

set_option maxHeartbeats 800000 in
theorem implVer_sealed (s : ByteArray) (w : World) (hs : s.size ≤ 1048576) (h : M.has s.data.toList 35 = true)
    (h1 : (M.fstB 35 s).size ≤ 4000) (h3 : (M.fstB 35 s).size + 1 + (sumB (M.fstB 35 s)).size ≤ 4000) (b : Bool) (hb : ((sealB (M.fstB 35 s)).toList == s.toList) = b) (he : Env w) :
    Calls Tryd.prog 18 #[.string s] w fun e w' => e = .returned (verE b (M.fstB 35 s)) ∧ Below w.heap.size w w' := by
  have c1 := Lib.hid (fun w => cut_yes s 35 w hs h)
  have h2' := Lib.hid (fst_has s)
  have he' := Lib.hid he
  have H3 := Lib.hid h3
  clear h he h3
  go_enter Tryd.func18, Tryd.ntmps18
  go_wp2_with fail
  refine (c1.out _).mono ?_
  rintro e w' ⟨⟨bb, rfl⟩, k, rfl⟩
  go_wp2_with fail
  refine (implApp_ok _ _ h1 h2'.out H3.out (he'.out.keep (below_drawn _ _))).mono ?_
  rintro e w2 ⟨rfl, hb2⟩
  cases b
  · go_wp2_with fail
    go_ret2
    exact ⟨rfl, C.Below.more (below_drawn _ _) hb2⟩
  · go_wp2_with fail
    go_ret2
    exact ⟨rfl, C.Below.more (below_drawn _ _) hb2⟩

/-! ### both at every string -/
def verOf (s : ByteArray) : Value := verE (decide (s.size ≤ 4000) && ((sealB (M.fstB 35 s)).toList == s.toList)) (M.fstB 35 s)

theorem specVer_any (s : ByteArray) (w : World) (hs : s.size ≤ 1048576) :
    Calls Tryd.prog 20 #[.string s] w fun e w' => e = .returned (verOf s) ∧ Below w.heap.size w w' := by
  by_cases h : s.size ≤ 4000
  · refine (specVer_short s w h _ rfl).mono ?_
    rintro e w' ⟨rfl, hb⟩
    exact ⟨by simp [verOf, h], hb⟩
  · refine (specVer_long s w (by omega) hs).mono ?_
    rintro e w' ⟨rfl, hb⟩
    exact ⟨by simp [verOf, verE, h], hb⟩

theorem implVer_any (s : ByteArray) (w : World) (hs : s.size ≤ 1048576) (he : Env w) :
    Calls Tryd.prog 18 #[.string s] w fun e w' => e = .returned (verOf s) ∧ Below w.heap.size w w' := by
  cases h : M.has s.data.toList 35 with
  | false =>
    refine (implVer_none s w h).mono ?_
    rintro e w' ⟨rfl, hb⟩
    have hne : sealB (M.fstB 35 s) ≠ s := fun e => by rw [vok_has e] at h; cases h
    exact ⟨by simp [verOf, verE, textB_other hne], hb⟩
  | true =>
    rcases app_cases (M.fstB 35 s) with hn | ⟨h1, h2, h3⟩
    · refine (implVer_bad s w hs h hn he).mono ?_
      rintro e w' ⟨rfl, hb⟩
      refine ⟨?_, hb⟩
      have hf : (decide (s.size ≤ 4000) && ((sealB (M.fstB 35 s)).toList == s.toList)) = false := by
        by_cases hq : sealB (M.fstB 35 s) = s
        · have hz := sealB_size (M.fstB 35 s)
          rw [hq] at hz
          have hsz : ¬ s.size ≤ 4000 := by
            rcases hn with hn | ⟨_, hn⟩ | ⟨_, _, hn⟩
            · omega
            · rw [fst_has] at hn; cases hn
            · omega
          simp [hsz]
        · simp [textB_other hq]
      simp [verOf, hf, verE]
    · refine (implVer_sealed s w hs h h1 h3 _ rfl he).mono ?_
      rintro e w' ⟨rfl, hb⟩
      refine ⟨?_, hb⟩
      have hf : (decide (s.size ≤ 4000) && ((sealB (M.fstB 35 s)).toList == s.toList)) = ((sealB (M.fstB 35 s)).toList == s.toList) := by
        by_cases hq : sealB (M.fstB 35 s) = s
        · have := vok_iff s h3 hq
          simp [this]
        · simp [textB_other hq]
      simp only [verOf, hf]

end C
end Go.Proofs.YtlbnofkjjjbfnaaDoor
