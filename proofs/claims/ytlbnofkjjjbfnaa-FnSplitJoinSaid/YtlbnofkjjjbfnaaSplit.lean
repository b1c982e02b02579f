/-
  CONTRACT of spec.l1Split: it returns a slice of its own with the parts of the string between the bytes c, in order; what lay in memory stays. Condition: the string has at most 1048576 bytes.
-/
import Derived.Test.YtlbnofkjjjbfnaaRows
import Derived.Test.YtlbnofkjjjbfnaaMath
import Derived.Test.YtlbnofkjjjbfnaaSplitMath
import Derived.WalkKit
import Derived.WalkSpells
import Derived.WalkLawsBesides
import Derived.Lib.Hide
namespace Go.Proofs.Ytlbnofkjjjbfnaa
open Go.RowKit
namespace C
theorem info9 : (Try.prog.info? 9).map (fun i => (i.zero, i.size, i.bytes)) = some (some (.string ByteArray.empty), 1, 16) := by kernel_rfl
theorem ownsRow_empty (w : World) (B : Nat) (e : TypeId) (size : Nat) (hB : B ≤ w.heap.size) : (w.alloc (.cells #[] e)).ownsRow B e size (.slice (some ⟨w.heap.size, 0, none⟩) 0 0) 0 [] :=
  ⟨by simp, .inr ⟨w.heap.size, 0, #[], rfl, hB, heap_alloc_new w _, Nat.le_refl _, by unfold maxLen; omega, by simp, by simp⟩⟩

theorem own_base {w : World} {B : Nat} {e : TypeId} {size n : Nat} {v : Value} {xs : List Value} (h : w.ownsRow B e size v n xs) : ∀ k, v.ownBlock = some k → B ≤ k := by
  intro k hk
  rcases h.2 with ⟨rfl, _⟩ | ⟨g, cap, cur, rfl, hg, _⟩
  · simp [Value.ownBlock] at hk
  · simp [Value.ownBlock] at hk
    omega

set_option maxHeartbeats 800000 in
theorem split_any (s : ByteArray) (c : UInt8) (w : World) (hs : s.size ≤ 1048576) :
    Calls Try.prog 33 #[.string s, .int .u8 c.toNat] w fun e w' => ∃ v, e = .returned v ∧ w'.ownsRow w.heap.size 9 1 v (M.splitL c s.data.toList).length ((M.splitL c s.data.toList).map M.strV) ∧ Below w.heap.size w w' := by
  obtain ⟨i0, hi, hz0, hz1, hz2⟩ := info_parts info9
  go_enter Try.func33, Try.ntmps33
  go_wp2_with fail
  go_loopw [5, 6, 7] (fun v fr i wr => ∃ k f : Nat, k ≤ s.size ∧ f ≤ k ∧ i = .int .i64 k ∧ fr = .int .i64 f ∧ (M.sp c (s.data.toList.take k)).2 = (s.data.toList.take k).drop f ∧
      wr.ownsRow w.heap.size 9 1 v (M.sp c (s.data.toList.take k)).1.length ((M.sp c (s.data.toList.take k)).1.map M.strV) ∧ Below w.heap.size w wr)
    (fun _ _ i _ => s.size - (intOf i).toNat)
  case atStart => exact ⟨0, 0, Nat.zero_le _, Nat.le_refl _, rfl, rfl, rfl, ownsRow_empty _ _ _ _ (Nat.le_refl _), (Below.refl _ _).alloc (Nat.le_refl _) _⟩
  case round =>
    obtain ⟨k, f, hk, hf, rfl, rfl, h2, hown, hnx⟩ := hrel
    have hsize := hnx.size
    have hlen := M.sp_len c (s.data.toList.take k)
    have hlen2 : (s.data.toList.take k).length ≤ k := List.length_take_le _ _
    have H2 := Lib.hid h2
    clear h2
    by_cases hlt : k < s.size
    · have HT := Lib.hid (M.take_snoc s k hlt)
      by_cases hc : s[k] = c
      · have hb : ((s[k].toNat : Int) == (c.toNat : Int)) = true := by rw [hc]; simp
        have HS : Hid (M.sp c (s.data.toList.take (k + 1)) = ((M.sp c (s.data.toList.take k)).1 ++ [(s.data.toList.take k).drop f], [])) := Lib.hid (by rw [HT.out, hc, M.sp_snoc_eq, H2.out])
        have HE := Lib.hid (M.extract_mk s f k)
        clear hc
        go_wp2_with (at_builtin; refine wpList_append_own _ rfl _ _ 26 rfl w.heap.size 9 i0 (.string ByteArray.empty) 1 16 Try.underlying26 hi hz0 hz1 hz2 rfl (by decide) _ _ _ rfl (hown.alloc _) ⟨wr.heap.size, 0, none⟩ 1 1 [.string (s.extract f k)] rfl rfl (cell_one_new _ _ _) (fun x hx => by simp at hx; subst hx; rfl) (by unfold maxLen; omega) (by omega) (by simp; omega) ?_; intro v' w3 hown' hgrow3 hnil3)
        go_roundw
        case rel =>
          refine ⟨k + 1, k + 1, by omega, Nat.le_refl _, by go_num, by go_num, ?_, ?_, (hnx.alloc hsize _).grown hgrow3 (by simp; omega) (own_base hown)⟩
          · rw [HS.out, List.drop_of_length_le (List.length_take_le _ _)]
          · rw [HS.out]
            rw [HE.out] at hown'
            simpa [M.strV] using hown'
        case measure => simp [intOf]; omega
      · have hb : ((s[k].toNat : Int) == (c.toNat : Int)) = false := by
          simp
          intro h
          exact hc (UInt8.toNat.inj (by exact_mod_cast h))
        have HS : Hid (M.sp c (s.data.toList.take (k + 1)) = ((M.sp c (s.data.toList.take k)).1, (s.data.toList.take (k + 1)).drop f)) := Lib.hid (by rw [HT.out, M.sp_snoc_ne _ _ hc, H2.out, M.drop_take_snoc _ _ _ (by simp; omega)])
        clear hc
        go_wp2_with fail
        go_roundw
        case rel => exact ⟨k + 1, f, by omega, by omega, by go_num, rfl, by rw [HS.out], by rw [HS.out]; exact hown, hnx⟩
        case measure => simp [intOf]; omega
    · have HT : Hid (s.data.toList.take k = s.data.toList) := Lib.hid (List.take_of_length_le (by simp; omega))
      have HS : Hid (M.splitL c s.data.toList = (M.sp c (s.data.toList.take k)).1 ++ [(s.data.toList.take k).drop f]) := Lib.hid (by unfold M.splitL; rw [← H2.out, HT.out])
      obtain rfl : k = s.size := by omega
      have HE := Lib.hid (M.extract_mk s f s.size)
      go_wp2_with (at_builtin; refine wpList_append_own _ rfl _ _ 26 rfl w.heap.size 9 i0 (.string ByteArray.empty) 1 16 Try.underlying26 hi hz0 hz1 hz2 rfl (by decide) _ _ _ rfl (hown.alloc _) ⟨wr.heap.size, 0, none⟩ 1 1 [.string (s.extract f s.size)] rfl rfl (cell_one_new _ _ _) (fun x hx => by simp at hx; subst hx; rfl) (by unfold maxLen; omega) (by omega) (by simp; omega) ?_; intro v' w3 hown' hgrow3 hnil3)
      go_ret
      refine ⟨v', rfl, ?_, (hnx.alloc hsize _).grown hgrow3 (by simp; omega) (own_base hown)⟩
      rw [HS.out]
      rw [HE.out] at hown'
      simpa [M.strV] using hown'
end C
end Go.Proofs.Ytlbnofkjjjbfnaa
