/-
  CONTRACTS: spec.l1Stands and strings.Contains (at a text of one byte) both say whether a byte stands in a string; the world is as it was. No further condition but that the string fits in memory.
-/
import Derived.Test.YtlbnofkjjjbfnaaRows
import Derived.Test.YtlbnofkjjjbfnaaMath
import Derived.Test.YtlbnofkjjjbfnaaShelf
import Derived.Lib.IndexLaws
import Derived.WalkKit
import Derived.WalkSpells
import Derived.WalkLawsBesides
import Derived.Lib.Hide
namespace Go.Proofs.Ytlbnofkjjjbfnaa
open Go.RowKit
namespace M
def has (l : List UInt8) (c : UInt8) : Bool := l.contains c
theorem has_mem {l : List UInt8} {c : UInt8} : has l c = true ↔ c ∈ l := by unfold has; simp
theorem has_get {s : ByteArray} {k : Nat} {h : k < s.size} : has s.data.toList s[k] = true := by
  rw [has_mem]
  have : s[k] = s.data.toList[k]'(by simpa using h) := rfl
  rw [this]
  exact List.getElem_mem _
theorem has_snoc_no {l : List UInt8} {b c : UInt8} (h : has l c = false) (hb : b ≠ c) : has (l ++ [b]) c = false := by
  unfold has at *
  simp at *
  exact ⟨h, fun e => hb e.symm⟩
theorem index_has (l : List UInt8) (c : UInt8) : decide (0 ≤ Lib.indexByte l c) = has l c := by
  rw [Bool.eq_iff_iff, has_mem, decide_eq_true_iff]
  have hg := Lib.indexByte_ge l c
  constructor
  · intro h
    obtain ⟨o, ho⟩ : ∃ o : Nat, Lib.indexByte l c = o := ⟨(Lib.indexByte l c).toNat, by omega⟩
    exact List.mem_of_getElem? (Lib.indexByte_some ho).1
  · intro h
    by_cases h1 : Lib.indexByte l c = -1
    · obtain ⟨k, hk, e⟩ := List.mem_iff_getElem.1 h
      exact absurd (by rw [List.getElem?_eq_getElem hk, e]) (Lib.indexByte_none h1 k)
    · omega
end M
namespace C

set_option maxHeartbeats 400000 in
theorem stands_any (s : ByteArray) (c : UInt8) (w : World) (hs : s.size ≤ maxLen) :
    Calls Try.prog 32 #[.string s, .int .u8 c.toNat] w fun e w' => e = .returned (.bool (M.has s.data.toList c)) ∧ w = w' := by
  unfold maxLen at hs
  go_enter Try.func32, Try.ntmps32
  go_wp2
  go_loop [5] (fun i => ∃ k : Nat, k ≤ s.size ∧ i = .int .i64 k ∧ M.has (s.data.toList.take k) c = false) (fun i => s.size - (intOf i).toNat)
  case atStart => exact ⟨0, Nat.zero_le _, rfl, by simp [M.has]⟩
  case round =>
    obtain ⟨k, hk, rfl, hn⟩ := hrel
    have hn' := Lib.hid hn
    clear hn
    by_cases hlt : k < s.size
    · have HT := Lib.hid (M.take_snoc s k hlt)
      by_cases hc : s[k] = c
      · have hb : ((s[k].toNat : Int) == (c.toNat : Int)) = true := by rw [hc]; simp
        have hh : Hid (M.has s.data.toList c = true) := Lib.hid (by rw [← hc]; exact M.has_get)
        clear hc
        go_wp2
        go_ret
        exact ⟨by rw [hh.out]; rfl, rfl⟩
      · have hb : ((s[k].toNat : Int) == (c.toNat : Int)) = false := by
          simp
          intro h
          exact hc (UInt8.toNat.inj (by exact_mod_cast h))
        have hc' := Lib.hid hc
        clear hc
        go_wp2
        go_round
        case rel => exact ⟨k + 1, by omega, by go_num, by rw [HT.out]; exact M.has_snoc_no hn'.out hc'.out⟩
        case measure => simp [intOf]; omega
    · have hh : Hid (M.has s.data.toList c = false) := Lib.hid (by have := hn'.out; rwa [List.take_of_length_le (by simp; omega)] at this)
      go_wp2
      go_ret
      exact ⟨by rw [hh.out]; rfl, rfl⟩

theorem contains_one (s : ByteArray) (c : UInt8) (w : World) :
    Calls Try.prog 30 #[.string s, .string ⟨#[c]⟩] w fun e w' => e = .returned (.bool (M.has s.data.toList c)) ∧ w = w' :=
  (Try.strings_Contains_one s c w).mono fun e w' ⟨he, hw⟩ => ⟨by rw [he, M.index_has], hw.symm⟩
end C
end Go.Proofs.Ytlbnofkjjjbfnaa
