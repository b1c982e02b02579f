/-
  CONTRACTS of spec.l1Seal, spec.AppendChecksum and impl.AppendChecksum: both seal a string with its checksum where it has at most 4000 bytes, no byte 35, and the sealed string has at most 4000 bytes; else they return the empty string and false; what lay in memory stays. Condition for impl.AppendChecksum: the library's table of powers of ten reads as laid.
-/
import Derived.Test.YtlbnofkjjjbfnaaDoorStand
import Derived.Test.YtlbnofkjjjbfnaaDoorSum
import Derived.Test.YtlbnofkjjjbfnaaDoorForm
import Derived.WalkKit
import Derived.WalkSpells
import Derived.WalkLawsBesides
import Derived.Lib.Hide
namespace Go.Proofs.YtlbnofkjjjbfnaaDoor
open Go.RowKit
namespace C

def sumB (s : ByteArray) : ByteArray := decB (M.csum s.data.toList)
def sealB (s : ByteArray) : ByteArray := s ++ ⟨#[35]⟩ ++ sumB s

theorem sumB_size (s : ByteArray) : (sumB s).size ≤ 21 := by
  have h := M.csum_bd s.data.toList
  exact decB_size _ (by omega) (by omega)
theorem sealB_size (s : ByteArray) : (sealB s).size = s.size + 1 + (sumB s).size := by
  unfold sealB
  simp [ByteArray.size_append]
  rfl

set_option maxHeartbeats 400000 in
theorem seal_any (s : ByteArray) (w : World) (hs : s.size ≤ 1048576) :
    Calls Tryd.prog 34 #[.string s] w fun e w' => e = .returned (.string (sealB s)) ∧ ∃ k, w' = w.drewN k := by
  have hd := M.csum_bd s.data.toList
  have hz : (decB (M.csum s.data.toList)).size ≤ 21 := sumB_size s
  go_enter Tryd.func34, Tryd.ntmps34
  go_wp2_with fail
  refine (l1Sum_any s _ (by unfold maxLen; omega)).mono ?_
  rintro e w' ⟨rfl, rfl⟩
  go_wp2_with fail
  refine (l1Num_any _ _ (by omega) (by omega)).mono ?_
  rintro e w' ⟨rfl, k, rfl⟩
  go_wp2_with fail
  go_ret
  exact ⟨rfl, _, rfl⟩

set_option maxHeartbeats 400000 in
theorem implApp_no (s : ByteArray) (w : World) (h : 4000 < s.size ∨ (s.size ≤ 4000 ∧ M.has s.data.toList 35 = true) ∨ (s.size ≤ 4000 ∧ M.has s.data.toList 35 = false ∧ 4000 < s.size + 1 + (sumB s).size)) (he : Env w) :
    Calls Tryd.prog 16 #[.string s] w fun e w' => e = .returned (.tuple #[.string ⟨#[]⟩, .bool false]) ∧ Below w.heap.size w w' := by
  have he' := Lib.hid he
  clear he
  rcases h with h | ⟨h, hh⟩ | ⟨h, hh, hz⟩
  · go_enter Tryd.func16, Tryd.ntmps16
    go_wp2_with fail
    refine (implSum_no s _ h).mono ?_
    rintro e w' ⟨rfl, rfl⟩
    go_wp2_with fail
    go_ret2
    exact ⟨rfl, Below.refl _ _⟩
  · have hh' := Lib.hid hh
    clear hh
    go_enter Tryd.func16, Tryd.ntmps16
    go_wp2_with fail
    refine (implSum_ok s _ h).mono ?_
    rintro e w' ⟨rfl, rfl⟩
    go_wp2_with fail
    refine (contains_one s 35 _).mono ?_
    rintro e w' ⟨rfl, rfl⟩
    rw [hh'.out]
    go_wp2_with fail
    go_ret2
    exact ⟨rfl, Below.refl _ _⟩
  · have hh' := Lib.hid hh
    clear hh
    have hd := M.csum_bd s.data.toList
    have hz2 : 4000 < (s.size : Int) + 1 + ((decB (M.csum s.data.toList)).size : Int) := by unfold sumB at hz; omega
    have hz3 : (decB (M.csum s.data.toList)).size ≤ 21 := sumB_size s
    clear hz
    go_enter Tryd.func16, Tryd.ntmps16
    go_wp2_with fail
    refine (implSum_ok s _ h).mono ?_
    rintro e w' ⟨rfl, rfl⟩
    go_wp2_with fail
    refine (contains_one s 35 _).mono ?_
    rintro e w' ⟨rfl, rfl⟩
    rw [hh'.out]
    go_wp2_with fail
    refine (implForm_ok _ _ (by omega) (by omega) he'.out).mono ?_
    rintro e w' ⟨rfl, hb⟩
    go_wp2_with fail
    go_ret2
    exact ⟨rfl, hb⟩

set_option maxHeartbeats 400000 in
theorem implApp_ok (s : ByteArray) (w : World) (h : s.size ≤ 4000) (hh : M.has s.data.toList 35 = false) (hz : s.size + 1 + (sumB s).size ≤ 4000) (he : Env w) :
    Calls Tryd.prog 16 #[.string s] w fun e w' => e = .returned (.tuple #[.string (sealB s), .bool true]) ∧ Below w.heap.size w w' := by
  have he' := Lib.hid he
  clear he
  have hh' := Lib.hid hh
  clear hh
  have hd := M.csum_bd s.data.toList
  have hz2 : ¬ 4000 < (s.size : Int) + 1 + ((decB (M.csum s.data.toList)).size : Int) := by unfold sumB at hz; omega
  have hz3 : (decB (M.csum s.data.toList)).size ≤ 21 := sumB_size s
  clear hz
  go_enter Tryd.func16, Tryd.ntmps16
  go_wp2_with fail
  refine (implSum_ok s _ h).mono ?_
  rintro e w' ⟨rfl, rfl⟩
  go_wp2_with fail
  refine (contains_one s 35 _).mono ?_
  rintro e w' ⟨rfl, rfl⟩
  rw [hh'.out]
  go_wp2_with fail
  refine (implForm_ok _ _ (by omega) (by omega) he'.out).mono ?_
  rintro e w' ⟨rfl, hb⟩
  go_wp2_with fail
  go_ret2
  exact ⟨rfl, hb⟩

set_option maxHeartbeats 400000 in
theorem specApp_no (s : ByteArray) (w : World) (h : 4000 < s.size ∨ (s.size ≤ 4000 ∧ M.has s.data.toList 35 = true) ∨ (s.size ≤ 4000 ∧ M.has s.data.toList 35 = false ∧ 4000 < s.size + 1 + (sumB s).size)) :
    Calls Tryd.prog 17 #[.string s] w fun e w' => e = .returned (.tuple #[.string ⟨#[]⟩, .bool false]) ∧ Below w.heap.size w w' := by
  rcases h with h | ⟨h, hh⟩ | ⟨h, hh, hz⟩
  · have h' : 4000 < (s.size : Int) := by omega
    go_enter Tryd.func17, Tryd.ntmps17
    go_wp2_with fail
    go_ret2
    exact ⟨rfl, Below.refl _ _⟩
  · have hh' := Lib.hid hh
    clear hh
    go_enter Tryd.func17, Tryd.ntmps17
    go_wp2_with fail
    refine (stands_any s 35 _ (by unfold maxLen; omega)).mono ?_
    rintro e w' ⟨rfl, rfl⟩
    rw [hh'.out]
    go_wp2_with fail
    go_ret2
    exact ⟨rfl, Below.refl _ _⟩
  · have hh' := Lib.hid hh
    clear hh
    have hz1 := sealB_size s
    have hz2 : 4000 < ((sealB s).size : Int) := by omega
    clear hz1 hz
    go_enter Tryd.func17, Tryd.ntmps17
    go_wp2_with fail
    refine (stands_any s 35 _ (by unfold maxLen; omega)).mono ?_
    rintro e w' ⟨rfl, rfl⟩
    rw [hh'.out]
    go_wp2_with fail
    refine (seal_any s _ (by omega)).mono ?_
    rintro e w' ⟨rfl, k, rfl⟩
    go_wp2_with fail
    go_ret2
    exact ⟨rfl, below_drawn _ _⟩

set_option maxHeartbeats 400000 in
theorem specApp_ok (s : ByteArray) (w : World) (h : s.size ≤ 4000) (hh : M.has s.data.toList 35 = false) (hz : s.size + 1 + (sumB s).size ≤ 4000) :
    Calls Tryd.prog 17 #[.string s] w fun e w' => e = .returned (.tuple #[.string (sealB s), .bool true]) ∧ Below w.heap.size w w' := by
  have hh' := Lib.hid hh
  clear hh
  have hz1 := sealB_size s
  have hz2 : ¬ 4000 < ((sealB s).size : Int) := by omega
  clear hz1 hz
  go_enter Tryd.func17, Tryd.ntmps17
  go_wp2_with fail
  refine (stands_any s 35 _ (by unfold maxLen; omega)).mono ?_
  rintro e w' ⟨rfl, rfl⟩
  rw [hh'.out]
  go_wp2_with fail
  refine (seal_any s _ (by omega)).mono ?_
  rintro e w' ⟨rfl, k, rfl⟩
  go_wp2_with fail
  refine (seal_any s _ (by omega)).mono ?_
  rintro e w' ⟨rfl, k2, rfl⟩
  go_wp2_with fail
  go_ret2
  exact ⟨rfl, below_drawn _ _⟩

theorem app_cases (s : ByteArray) : (4000 < s.size ∨ (s.size ≤ 4000 ∧ M.has s.data.toList 35 = true) ∨ (s.size ≤ 4000 ∧ M.has s.data.toList 35 = false ∧ 4000 < s.size + 1 + (sumB s).size)) ∨
    (s.size ≤ 4000 ∧ M.has s.data.toList 35 = false ∧ s.size + 1 + (sumB s).size ≤ 4000) := by
  by_cases h : 4000 < s.size
  · exact .inl (.inl h)
  · cases hh : M.has s.data.toList 35
    · by_cases hz : 4000 < s.size + 1 + (sumB s).size
      · exact .inl (.inr (.inr ⟨by omega, rfl, hz⟩))
      · exact .inr ⟨by omega, rfl, by omega⟩
    · exact .inl (.inr (.inl ⟨by omega, rfl⟩))
end C
end Go.Proofs.YtlbnofkjjjbfnaaDoor
