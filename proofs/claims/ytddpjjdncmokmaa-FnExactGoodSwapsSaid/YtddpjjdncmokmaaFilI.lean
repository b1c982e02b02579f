/-
  CONTRACTS of the program's sizeOf and IsFilling; what lay in memory stays. No condition but that the maze and the list read so.
-/
import Derived.Test.YtddpjjdncmokmaaFilM
import Derived.Test.YtddpjjdncmokmaaWGAsk
import Derived.Test.YtddpjjdncmokmaaWHClose
import Derived.Test.YtddpjjdncmokmaaIsMaze
import Derived.Deep.DeepCutAuto
namespace Go.Proofs.Ytddpjjdncmokmaa
open Go.RowKit
namespace C
set_option linter.unusedVariables false
set_option maxHeartbeats 3200000
set_option maxRecDepth 20000
theorem sizeOf_any (s : Int) (hs : M.setB s = true) (w : World) : Calls Try.prog 68 #[.int .i64 s] w fun e w' => e = .returned (.int .i64 (M.manyC s : Nat)) ∧ w = w' := by
  have h' := M.setB_iff.1 hs
  obtain ⟨n, hn⟩ : ∃ n : M.St6, (n.val : Int) = s := ⟨⟨s.toNat, by omega⟩, by show ((s.toNat : Nat) : Int) = s; omega⟩
  subst hn
  rw [M.many_cnt]
  have HO := Lib.hid (fun W => ones_any n W)
  have hu : IntKind.u64.wrap (n.val : Int) = (n.val : Int) := by have := n.isLt; rw [IntKind.wrap_u64]; omega
  go_enter Try.func68, Try.ntmps68
  go_wp2_with fail
  refine (HO.out _).mono ?_
  rintro e w1 ⟨rfl, rfl⟩
  go_wp2_with fail
  go_ret
  exact ⟨rfl, rfl⟩
theorem elseW_any (w : World) (m : M.Mz) (a b : Option Addr) (c d : Nat) (g : Nat) (hg : w.cell? ⟨g, 0, none⟩ = some (.int .i64 m.size) ∧ w.cell? ⟨g, 1, none⟩ = some (.slice a m.doors.length c) ∧ w.cell? ⟨g, 2, none⟩ = some (.slice b m.keys.length d)) (x : Int) :
    Calls Try.prog 66 #[.int .i64 x, .pointer (some ⟨g, 0, none⟩)] w (BoolPost w (!M.nodeB m.size x)) := by
  obtain ⟨c0, c1, c2⟩ := hg
  go_enter Try.func66, Try.ntmps66
  go_wp2_with fail
  refine (hasNode_any m a b c d x _).mono ?_
  rintro e w1 ⟨rfl, rfl⟩
  go_wp2_with fail
  go_ret
  exact ⟨rfl, below_alloc _ _⟩
theorem any_else (m : M.Mz) (fs : List Int) : (!fs.any fun x => !M.nodeB m.size x) = M.nodesB m.size fs := by
  unfold M.nodesB
  rw [List.not_any_eq_all_not]
  congr 1
  funext x
  rw [M.node_in, Bool.not_not]
theorem implIsFil_lw (w : World) (lo hi : Nat) (m : M.Mz) (a b : Option Addr) (c d : Nat) (h : MzIn lo hi w m a c b d) (hz : hi ≤ w.heap.size) (_h1 : m.doors.length ≤ 1048576) (_h2 : m.keys.length ≤ 1048576) (s : Int) (_s1 : -9223372036854775808 ≤ s) (_s2 : s ≤ 9223372036854775807) (lo' hi' : Nat) (fa : Option Addr) (fc : Nat) (fs : List Int) (hf : RowIn lo' hi' w fa (M.encIs fs)) (hz' : hi' ≤ w.heap.size) (hl : fs.length ≤ 1048576) (_u1 : fs.length ≤ fc) (_u2 : fc ≤ 9223372036854775807) (_u3 : ∀ z ∈ fs, -9223372036854775808 ≤ z ∧ z ≤ 9223372036854775807) :
    Calls Try.prog 26 #[.agg #[.int .i64 m.size, .slice a m.doors.length c, .slice b m.keys.length d], .int .i64 s, .slice fa fs.length fc] w (BoolsPost w (M.filB m s fs) (M.askB m s)) := by
  have H := Lib.hid h
  have HF := Lib.hid hf
  clear h hf
  go_enter Try.func26, Try.ntmps26
  go_wp2_with fail
  refine named ?_
  intro W hW
  have hb : Below w.heap.size w W := by rw [hW]; exact below_alloc _ _
  have x1 : Box3 W w.heap.size 27 (.int .i64 m.size) (.slice a m.doors.length c) (.slice b m.keys.length d) := by rw [hW]; exact Box3.new _ _ _ _ rfl
  clear hW
  have hzw := hb.size
  refine (isMaze_any W lo hi m a b c d (H.out.below hb hz) (by omega)).mono ?_
  rintro e w1 ⟨rfl, hb1⟩
  have HB1 := Lib.hid (hb.trans (hb1.mono hzw))
  have X1 := Lib.hid (x1.below hb1)
  have hz1 := hb1.size
  clear hb hb1 x1
  obtain ⟨c0, c1, c2⟩ := X1.out.cells
  have hxl := X1.out.lt
  cases qm : M.mazeB m with
  | false =>
    have HN : Hid (M.askB m s = false) := Lib.hid (by unfold M.askB; rw [qm]; rfl)
    have HN2 : Hid (M.filB m s fs = false) := Lib.hid (by unfold M.filB; rw [HN.out]; rfl)
    clear qm
    go_wp2_with fail
    go_ret2
    exact ⟨by rw [HN.out, HN2.out]; rfl, HB1.out⟩
  | true =>
    have HM := Lib.hid qm
    clear qm
    go_wp2_with fail
    refine (isSet_any _ _).mono ?_
    rintro e w2 ⟨rfl, rfl⟩
    cases qs : M.setB s with
    | false =>
      have HN : Hid (M.askB m s = false) := Lib.hid (by unfold M.askB; rw [qs, Bool.and_false])
      have HN2 : Hid (M.filB m s fs = false) := Lib.hid (by unfold M.filB; rw [HN.out]; rfl)
      clear qs
      go_wp2_with fail
      go_ret2
      exact ⟨by rw [HN.out, HN2.out]; rfl, HB1.out⟩
    | true =>
      have HN : Hid (M.askB m s = true) := Lib.hid (by unfold M.askB; rw [qs, HM.out]; rfl)
      have HE : Hid (M.filB m s fs = (decide (fs.length = M.manyC s) && M.nodesB m.size fs)) := Lib.hid (by unfold M.filB M.fillB; rw [HN.out, Bool.true_and, Bool.and_comm])
      have hm6 := M.many_le s
      have HSZ := Lib.hid (fun W => sizeOf_any s qs W)
      have HCF := Lib.hid (containsFunc_any 66 #[.pointer (some ⟨w.heap.size, 0, none⟩)] (fun x => !M.nodeB m.size x) (enters_of Try.func66 (by kernel_rfl) rfl) w1 lo' hi' fa fc fs (fun W' x hq => elseW_any W' m a b c d w.heap.size (X1.out.below hq).cells x) (HF.out.below HB1.out hz') (by omega) hl)
      clear qs
      go_wp2_with fail
      refine (HSZ.out _).mono ?_
      rintro e w2 ⟨rfl, rfl⟩
      by_cases hq : fs.length = M.manyC s
      · have HQ := Lib.hid hq
        have hqi : (fs.length : Int) = (M.manyC s : Int) := by omega
        clear hq
        generalize hmm : M.manyC s = mm at *
        have HMM := Lib.hid hmm
        clear hmm
        have hb1' : ((fs.length : Int) == (mm : Int)) = true := by rw [beq_iff_eq]; omega
        have hb2' : decide ((fs.length : Int) = (mm : Int)) = true := by rw [decide_eq_true_iff]; omega
        have hb3' : decide (fs.length = mm) = true := by rw [decide_eq_true_iff]; omega
        have HB3 := Lib.hid hb3'
        clear hqi hb3'
        go_wp2_with fail
        refine HCF.out.mono ?_
        rintro e w3 ⟨rfl, hb3⟩
        have HB3' := Lib.hid (HB1.out.trans (hb3.mono (by omega)))
        clear hb3
        go_wp2_with fail
        go_ret2
        refine ⟨?_, HB3'.out⟩
        rw [HE.out, HN.out, ← any_else, HB3.out]
        rfl
      · have hb1' : ((fs.length : Int) == (M.manyC s : Int)) = false := by rw [beq_eq_false_iff_ne]; omega
        have hb2' : decide ((fs.length : Int) = (M.manyC s : Int)) = false := by rw [decide_eq_false_iff_not]; omega
        have HB3 : Hid (decide (fs.length = M.manyC s) = false) := Lib.hid (decide_eq_false hq)
        have hne : ¬ (fs.length : Int) = (M.manyC s : Int) := by omega
        clear hq
        go_wp2_with fail
        go_ret2
        refine ⟨?_, HB1.out⟩
        rw [HE.out, HN.out, HB3.out]
        rfl
end C
end Go.Proofs.Ytddpjjdncmokmaa
