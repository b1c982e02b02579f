/-
  CONTRACT of slices.Delete at doors, one door: the row without it, in place; what lay elsewhere stays. Condition: the row may be written, the place is one of its doors.
-/
import Derived.Test.YtoiapfdlbkncaaaPutW
import Derived.Test.YtoiapfdlbkncaaaOver
import Derived.Deep.RegionLaw
import Derived.Lib.SliceRun
namespace Go.Proofs.Ytoiapfdlbkncaaa
open Go.RowKit
namespace C
set_option maxHeartbeats 3200000
set_option maxRecDepth 20000
theorem run_clear_door {P : Program} (w : World) (t e ty : TypeId) (ht : P.underlying t = some (.slice e)) (hv : ∀ w, (zeroValue e).run P w = .ok (.agg #[.int .i64 0, .int .i64 0, .int .i64 0]) w) (b o c : Nat)
    (hc : ∀ j, j < 3 → (w.cell? ⟨b, o + j, none⟩).isSome = true) (hf : ∀ j, j < 3 → w.frozen? ⟨b, o + j, none⟩ = false) :
    (Builtin.clear_ #[t] ty #[.slice (some ⟨b, o, none⟩) 1 c]).run P w = .ok (.tuple #[]) (w.setCells b o [.int .i64 0, .int .i64 0, .int .i64 0]) := by
  have hst := run_storeCells_cells (P := P) b o [.int .i64 0, .int .i64 0, .int .i64 0] 0 w (by simpa using hc) (by simpa using hf) (by intro v hv'; simp at hv'; subst hv'; rfl)
  simp only [Nat.add_zero] at hst
  have hzc : (Builtin.zeroCells (Value.agg #[.int .i64 0, .int .i64 0, .int .i64 0]).cells 1).toList = [.int .i64 0, .int .i64 0, .int .i64 0] := by kernel_rfl
  simp [Builtin.clear_, run_underlying ht, hv, hzc, hst]
theorem zeroD (w : World) : (zeroValue 81).run Try.prog w = .ok (.agg #[.int .i64 0, .int .i64 0, .int .i64 0]) w := by kernel_rfl
theorem delete_any (w : World) (lo hi : Nat) (b off c : Nat) (l : List M.Dr) (k : Nat) (hk : k < l.length) (h : OwnAt lo hi w 81 (some ⟨b, off, none⟩) (M.encDs l)) (hl : l.length ≤ 1048576) (hc1 : l.length ≤ c) (hc2 : c ≤ 9223372036854775807) :
    Calls Try.prog 117 #[.slice (some ⟨b, off, none⟩) l.length c, .int .i64 (k : Int), .int .i64 ((k : Int) + 1)] w fun e w' => e = .returned (.slice (some ⟨b, off, none⟩) (l.length - 1) c) ∧ OwnAt lo hi w' 81 (some ⟨b, off, none⟩) (M.encDs (l.take k ++ l.drop (k + 1))) ∧ Turned lo hi w w' := by
  obtain ⟨i0, hi0, hz0, hz1, hz2⟩ := info_parts infoD
  have H := Lib.hid h
  obtain ⟨b', off', e, hb1, hb2, hcc⟩ := h.row.at_ (k := 0) (by rw [M.encDs_len]; omega)
  injection e with e
  injection e with e1 e2 _
  subst e1; subst e2
  have hfr : ∀ j, w.frozen? ⟨b, j, none⟩ = false := fun j => h.free rfl (k := 0) (by rw [M.encDs_len]; omega) j
  have hsome : ∀ j, j < l.length * 3 → (w.cell? ⟨b, off + j, none⟩).isSome = true := fun j hj => by
    have := hcc j _ (List.getElem?_eq_getElem (by rw [M.encDs_len]; exact hj))
    rw [this]; rfl
  have HCC := Lib.hid hcc
  have HFR := Lib.hid hfr
  have HSO := Lib.hid hsome
  have hdl : (M.encDs (l.drop (k + 1))).length = (l.length - (k + 1)) * 3 := by rw [M.encDs_len, List.length_drop]
  have hE := H.out.setCells (M.encDs (l.drop (k + 1))) (k * 3) w.drew
  clear h hcc hfr hsome
  have hkc : k ≤ c := by omega
  have hkc1 : k + 1 ≤ c := by omega
  have hlc : l.length - 1 ≤ c := by omega
  have hwr : IntKind.i64.wrap ((k : Int) + 1) = (k : Int) + 1 := IntWalk.i64_in _ (by omega)
  have hne : ((k : Int) == (k : Int) + 1) = false := by rw [beq_eq_false_iff_ne]; omega
  obtain ⟨W1, hW1⟩ : ∃ W1, W1 = w.drew.setCells b (off + k * 3) (M.encDs (l.drop (k + 1))) := ⟨_, rfl⟩
  rw [← hW1] at hE
  have hT1 : Turned lo hi w W1 := by rw [hW1]; exact (Turned.drewN w 1 lo hi).trans (Turned.setCells b hb1 hb2 _ _ _)
  have HW := Lib.hid hW1
  clear hW1
  have hE3 : ∀ j, j < 3 → (W1.cell? ⟨b, off + (l.length - 1) * 3 + j, none⟩).isSome = true := fun j hj => by
    obtain ⟨b', off', e, _, _, hcc⟩ := hE.row.at_ (k := 0) (by rw [M.over_len, M.encDs_len]; omega)
    injection e with e
    injection e with e1 e2 _
    subst e1; subst e2
    have hh : (l.length - 1) * 3 + j < (M.over (M.encDs l) (k * 3) (M.encDs (l.drop (k + 1)))).length := by rw [M.over_len, M.encDs_len]; omega
    have := hcc _ _ (List.getElem?_eq_getElem hh)
    rw [← Nat.add_assoc] at this
    rw [this]; rfl
  have hF3 : ∀ j, j < 3 → W1.frozen? ⟨b, off + (l.length - 1) * 3 + j, none⟩ = false := fun j hj => hE.free rfl (k := 0) (by rw [M.over_len, M.encDs_len]; omega) _
  have hcl := fun ty => run_clear_door (P := Try.prog) W1 22 81 ty Try.underlying22 zeroD b (off + (l.length - 1) * 3) (c - (l.length - 1)) hE3 hF3
  have hE2 := hE.setCells [.int .i64 0, .int .i64 0, .int .i64 0] ((l.length - 1) * 3) W1
  have hT2 := hT1.trans (Turned.setCells b hb1 hb2 [.int .i64 0, .int .i64 0, .int .i64 0] (off + (l.length - 1) * 3) W1)
  have hend : ∀ (i : Nat) u, (M.encDs (l.take k ++ l.drop (k + 1)))[i]? = some u → (M.over (M.over (M.encDs l) (k * 3) (M.encDs (l.drop (k + 1)))) ((l.length - 1) * 3) [.int .i64 0, .int .i64 0, .int .i64 0])[i]? = some u := by
    intro i u hu
    have hi : i < (l.length - 1) * 3 := by
      have := (List.getElem?_eq_some_iff.1 hu).1
      rw [M.encDs_len] at this
      simp at this
      omega
    rw [M.over_get _ _ _ _ (by rw [M.over_len, M.encDs_len]; simp; omega), if_pos hi, M.over_get _ _ _ _ (by rw [hdl, M.encDs_len]; omega)]
    rw [M.encDs_append, M.encDs_take] at hu
    by_cases hik : i < k * 3
    · rw [if_pos hik]
      rwa [List.getElem?_append_left (by rw [List.length_take, M.encDs_len]; omega), List.getElem?_take, if_pos hik] at hu
    · rw [if_neg hik, if_pos (by rw [hdl]; omega)]
      rw [List.getElem?_append_right (by rw [List.length_take, M.encDs_len]; omega)] at hu
      rw [show ((M.encDs l).take (k * 3)).length = k * 3 by rw [List.length_take, M.encDs_len]; omega] at hu
      exact hu
  have HEND := Lib.hid (hE2.less hend)
  have HT2 := Lib.hid hT2
  have hsp : Hid (∀ t, t < (M.encDs (l.drop (k + 1))).length → (w.drew.cell? ⟨b, off + k * 3 + t, none⟩).isSome = true ∧ w.drew.frozen? ⟨b, off + k * 3 + t, none⟩ = false) := Lib.hid (fun t ht => by
    rw [hdl] at ht
    exact ⟨by show (w.cell? _).isSome = true; rw [Nat.add_assoc]; exact HSO.out _ (by omega), HFR.out _⟩)
  clear hE hE2 hT1 hT2 hend hE3 hF3
  have hb0 : (0 : Int) ≤ (k : Int) + 1 := by omega
  have hb9 : (k : Int) + 1 ≤ (l.length : Int) := by omega
  have hlk : k + (l.length - (k + 1)) = l.length - 1 := by omega
  rcases Decidable.em (c = k + 1) with hck | hck
  all_goals
    have HCK := Lib.hid hck
    clear hck
    go_enter Try.func117, Try.ntmps117
    go_wp2_with fail
    go_region_law (first
      | (have hcg : ¬ c = k + 1 := HCK.out; clear hcg; refine step_append_room rfl (.tmp 22) (.tmp 25) 22 rfl 81 i0 3 Try.underlying22 hi0 hz1 b off k c (by simp [Act.eval, Act.put]) ⟨b, off + (k + 1) * 3, none⟩ (l.length - (k + 1)) (c - (k + 1)) (M.encDs (l.drop (k + 1))) (by simp [Act.eval, Act.put, HCK.out]) hdl (news_drop (fun j u hu => HCC.out j u hu) (k + 1)) (encDs_one _) (by omega) hsp.out ?_; rw [← HW.out])
      | (have hcg : c = k + 1 := HCK.out; clear hcg; refine step_append_room rfl (.tmp 22) (.tmp 25) 22 rfl 81 i0 3 Try.underlying22 hi0 hz1 b off k c (by simp [Act.eval, Act.put]) ⟨b, off, none⟩ (l.length - (k + 1)) (c - (k + 1)) (M.encDs (l.drop (k + 1))) (by simp [Act.eval, Act.put, HCK.out]) hdl (fun j u hu => absurd hu (by rw [List.drop_eq_nil_of_le (by have := HCK.out; omega)]; simp [M.encDs])) (encDs_one _) (by omega) hsp.out ?_; rw [← HW.out]))
  all_goals
    have hone : l.length - (l.length - 1) = 1 := by omega
    have hcne : ¬ c = l.length - 1 := by omega
    have hlow : ((l.length - 1 : Nat) : Int) ≤ (l.length : Int) := by omega
    have hlow2 : l.length - 1 ≤ l.length := by omega
    go_wp2_with fail
    go_ret
    exact ⟨rfl, HEND.out, HT2.out⟩
end C
end Go.Proofs.Ytoiapfdlbkncaaa
