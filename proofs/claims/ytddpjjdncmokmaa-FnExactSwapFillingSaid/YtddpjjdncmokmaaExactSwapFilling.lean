/-
  PROVED: for every maze aM, every int aSet, every list of ints aFilling and all ints aA and aB the law laws.FnExactSwapFilling returns true, that is, impl.SwapFilling answers as the model does, in memory of its own at each call; its arguments read afterwards as before. Conditions: none.
-/
import Derived.Test.YtddpjjdncmokmaaRows
import Derived.Test.YtddpjjdncmokmaaWAMem
import Derived.Test.YtddpjjdncmokmaaClo
import Derived.Test.YtddpjjdncmokmaaMaz2
import Derived.Test.YtddpjjdncmokmaaSwapT
import Derived.Test.YtddpjjdncmokmaaSwapJ
import Derived.WalkKit
import Derived.ProofKit
import Derived.JoinedOf
import Derived.OpenShut
import Derived.ShutString
import Derived.Deep.RegionWith
import Derived.Deep.DeepCutAuto
namespace Go.Proofs.Ytddpjjdncmokmaa.fnExactSwapFilling
open Go.ChangeShapes Go.WideShapes Go.ChangeAt Go.RowKit
open Go.ChangeMaps (open_string shut_string)
set_option linter.unusedVariables false

set_option maxHeartbeats 4000000 in
set_option maxRecDepth 100000 in
theorem walk (w : World) (m0 : M.Mz) (a0 : Option Addr) (c0 : Nat) (b0 : Option Addr) (d0 : Nat) (w0 : C.MzIn 0 w.heap.size w m0 a0 c0 b0 d0) (a1 : Int) (w1 : (Lit.int .i64 a1).wf = true) (a2 : Option Addr) (cap2 : Nat) (l2 : List Int) (w2 : C.RowIn 0 w.heap.size w a2 (M.encIs l2)) (u2 : l2.length ≤ cap2) (v2 : cap2 ≤ 9223372036854775807) (b2 : ∀ z ∈ l2, -9223372036854775808 ≤ z ∧ z ≤ 9223372036854775807) (a3 : Int) (w3 : (Lit.int .i64 a3).wf = true) (a4 : Int) (w4 : (Lit.int .i64 a4).wf = true) :
    Calls Try.prog 13 #[(.agg #[.int .i64 m0.size, .slice a0 m0.doors.length c0, .slice b0 m0.keys.length d0]), .int .i64 a1, .slice a2 l2.length cap2, .int .i64 a3, .int .i64 a4] w fun e w' => e = .returned (.bool true) ∧ Below w.heap.size w w' := by
  have wd1 := Go.bounds_i64 w1
  have wd3 := Go.bounds_i64 w3
  have wd4 := Go.bounds_i64 w4
  have y0 := Nat.le_trans w0.c1 w0.c2
  have z0 := Nat.le_trans w0.d1 w0.d2
  have x0 := Lib.hid w0
  clear w0
  have x2 := Lib.hid w2
  clear w2
  have B2 := Lib.hid b2
  clear b2
  by_cases s0 : 1048576 < l2.length
  · go_enter Try.func13, Try.ntmps13
    have bb_1 := Lib.hid (Below.refl w.heap.size w)
    go_wp2_with fail
    go_ret
    exact ⟨rfl, (by (repeat (first | exact Below.refl _ _ | (refine Below.alloc ?_ (by first | omega | (simp; done) | (simp; omega)) _))))⟩
  by_cases s1 : 1048576 < m0.doors.length + m0.keys.length
  · go_enter Try.func13, Try.ntmps13
    have bb_1 := Lib.hid (Below.refl w.heap.size w)
    go_wp2_with fail
    refine C.named ?_
    intro W0 hW0
    have kW0 : Below w.heap.size w W0 := by rw [hW0]; exact (by (repeat (first | exact Below.refl _ _ | (refine Below.alloc ?_ (by first | omega | (simp; done) | (simp; omega)) _))))
    have bx_2p : C.Box3 W0 (w.heap.size) 25 (.int .i64 m0.size) (.slice a0 m0.doors.length c0) (.slice b0 m0.keys.length d0) := by rw [hW0]; exact C.Box3.new _ _ _ _ (by simp)
    have bx_2q := bx_2p.lt
    have bx_2 := Lib.hid bx_2p
    clear bx_2p
    clear hW0
    have tt_3 := Lib.hid (C.Turned.of_below kW0 0 0)
    have zz_4 := tt_3.out.size
    have ff_5 := Lib.hid (x0.out.turned tt_3.out (by omega) (by omega))
    clear x0
    have ff_6 := Lib.hid (x2.out.turned tt_3.out (by omega) (by omega))
    clear x2
    have bb_7 := Lib.hid (C.Below.far bb_1.out tt_3.out)
    clear tt_3 bb_1
    clear kW0
    refine (C.szMaze_any W0 m0 a0 b0 c0 d0 (1048576) (by omega) (by omega) (by omega) (by omega)).mono ?_
    rintro e W1 ⟨rfl, hb⟩
    have tt_8 := Lib.hid (C.Turned.of_below hb 0 0)
    have zz_9 := tt_8.out.size
    have ff_10 := Lib.hid (ff_5.out.turned tt_8.out (by omega) (by omega))
    clear ff_5
    have ff_11 := Lib.hid (ff_6.out.turned tt_8.out (by omega) (by omega))
    clear ff_6
    have ff_12 := Lib.hid (bx_2.out.turned tt_8.out (by omega))
    clear bx_2
    have bb_13 := Lib.hid (C.Below.far bb_7.out tt_8.out)
    clear tt_8 bb_7
    clear hb
    rw [if_pos (by omega)]
    obtain ⟨cl_14, cl_15, cl_16⟩ := ff_12.out.cells
    have cq_17 := ff_12.out.lt
    go_wp2_with fail
    go_ret
    exact ⟨rfl, bb_13.out⟩
  go_enter Try.func13, Try.ntmps13
  have bb_1 := Lib.hid (Below.refl w.heap.size w)
  go_wp2_with fail
  refine C.named ?_
  intro W0 hW0
  have kW0 : Below w.heap.size w W0 := by rw [hW0]; exact (by (repeat (first | exact Below.refl _ _ | (refine Below.alloc ?_ (by first | omega | (simp; done) | (simp; omega)) _))))
  have bx_2p : C.Box3 W0 (w.heap.size) 25 (.int .i64 m0.size) (.slice a0 m0.doors.length c0) (.slice b0 m0.keys.length d0) := by rw [hW0]; exact C.Box3.new _ _ _ _ (by simp)
  have bx_2q := bx_2p.lt
  have bx_2 := Lib.hid bx_2p
  clear bx_2p
  clear hW0
  have tt_3 := Lib.hid (C.Turned.of_below kW0 0 0)
  have zz_4 := tt_3.out.size
  have ff_5 := Lib.hid (x0.out.turned tt_3.out (by omega) (by omega))
  clear x0
  have ff_6 := Lib.hid (x2.out.turned tt_3.out (by omega) (by omega))
  clear x2
  have bb_7 := Lib.hid (C.Below.far bb_1.out tt_3.out)
  clear tt_3 bb_1
  clear kW0
  refine (C.szMaze_any W0 m0 a0 b0 c0 d0 (1048576) (by omega) (by omega) (by omega) (by omega)).mono ?_
  rintro e W1 ⟨rfl, hb⟩
  have tt_8 := Lib.hid (C.Turned.of_below hb 0 0)
  have zz_9 := tt_8.out.size
  have ff_10 := Lib.hid (ff_5.out.turned tt_8.out (by omega) (by omega))
  clear ff_5
  have ff_11 := Lib.hid (ff_6.out.turned tt_8.out (by omega) (by omega))
  clear ff_6
  have ff_12 := Lib.hid (bx_2.out.turned tt_8.out (by omega))
  clear bx_2
  have bb_13 := Lib.hid (C.Below.far bb_7.out tt_8.out)
  clear tt_8 bb_7
  clear hb
  rw [if_neg (by omega)]
  obtain ⟨cl_14, cl_15, cl_16⟩ := ff_12.out.cells
  have cq_17 := ff_12.out.lt
  have hbd : (M.swV m0 a1 l2 a3 a4).length ≤ 1048576 := M.swV_len _ _ _ _ _
  go_wp2_with fail
  refine (C.toMaze_any W1 0 w.heap.size m0 a0 b0 c0 d0 ff_10.out (by omega) (by omega) (by omega)).mono ?_
  rintro e W2 ⟨t_18, t_19, t_20, t_21, rfl, ho, hb⟩
  clear cl_14 cl_15 cl_16 cq_17
  have tt_22 := Lib.hid (C.Turned.of_below hb 0 0)
  have zz_23 := tt_22.out.size
  have ff_24 := Lib.hid (ff_10.out.turned tt_22.out (by omega) (by omega))
  clear ff_10
  have ff_25 := Lib.hid (ff_11.out.turned tt_22.out (by omega) (by omega))
  clear ff_11
  have ff_26 := Lib.hid (ff_12.out.turned tt_22.out (by omega))
  clear ff_12
  have bb_27 := Lib.hid (C.Below.far bb_13.out tt_22.out)
  clear tt_22 bb_13
  clear hb
  have fo_28 := Lib.hid ho
  clear ho
  obtain ⟨cl_29, cl_30, cl_31⟩ := ff_26.out.cells
  have cq_32 := ff_26.out.lt
  go_wp2_with fail
  refine (C.toInts_any W2 0 w.heap.size a2 cap2 l2 ff_25.out (by omega) (by omega)).mono ?_
  rintro e W3 ⟨rfl, ho, hb⟩
  clear cl_29 cl_30 cl_31 cq_32
  have tt_33 := Lib.hid (C.Turned.of_below hb 0 0)
  have zz_34 := tt_33.out.size
  have ff_35 := Lib.hid (ff_24.out.turned tt_33.out (by omega) (by omega))
  clear ff_24
  have ff_36 := Lib.hid (ff_25.out.turned tt_33.out (by omega) (by omega))
  clear ff_25
  have ff_37 := Lib.hid (fo_28.out.turned tt_33.out (by omega) (by omega))
  clear fo_28
  have ff_38 := Lib.hid (ff_26.out.turned tt_33.out (by omega))
  clear ff_26
  have bb_39 := Lib.hid (C.Below.far bb_27.out tt_33.out)
  clear tt_33 bb_27
  clear hb
  have fo_40 := Lib.hid ho
  clear ho
  obtain ⟨cl_41, cl_42, cl_43⟩ := ff_38.out.cells
  have cq_44 := ff_38.out.lt
  go_wp2_with fail
  refine (C.specSwap_lw W3 (W1.heap.size) (W2.heap.size) m0 t_18 t_20 t_19 t_21 ff_37.out.mz (by omega) (by omega) (by omega) a1 (by omega) (by omega) (W2.heap.size) (W3.heap.size) (some ⟨W2.heap.size, 0, none⟩) l2.length l2 fo_40.out.row (by omega) (by omega) (by omega) (by omega) B2.out a3 (by omega) (by omega) a4 (by omega) (by omega)).mono ?_
  rintro e W4 ⟨r_45, r_46, rfl, ho, hq1, hq2, hb⟩
  clear cl_41 cl_42 cl_43 cq_44
  have tt_47 := Lib.hid (C.Turned.of_below hb 0 0)
  have zz_48 := tt_47.out.size
  have ff_49 := Lib.hid (ff_35.out.turned tt_47.out (by omega) (by omega))
  clear ff_35
  have ff_50 := Lib.hid (ff_36.out.turned tt_47.out (by omega) (by omega))
  clear ff_36
  have ff_51 := Lib.hid (ff_37.out.turned tt_47.out (by omega) (by omega))
  clear ff_37
  have ff_52 := Lib.hid (fo_40.out.turned tt_47.out (by omega) (by omega))
  clear fo_40
  have ff_53 := Lib.hid (ff_38.out.turned tt_47.out (by omega))
  clear ff_38
  have bb_54 := Lib.hid (C.Below.far bb_39.out tt_47.out)
  clear tt_47 bb_39
  clear hb
  have fo_55 := Lib.hid ho
  clear ho hq1 hq2
  obtain ⟨cl_56, cl_57, cl_58⟩ := ff_53.out.cells
  have cq_59 := ff_53.out.lt
  clear ff_51 ff_52
  go_wp2_with fail
  refine (C.toMaze_any W4 0 w.heap.size m0 a0 b0 c0 d0 ff_49.out (by omega) (by omega) (by omega)).mono ?_
  rintro e W5 ⟨t_60, t_61, t_62, t_63, rfl, ho, hb⟩
  clear cl_56 cl_57 cl_58 cq_59
  have tt_64 := Lib.hid (C.Turned.of_below hb 0 0)
  have zz_65 := tt_64.out.size
  have ff_66 := Lib.hid (ff_49.out.turned tt_64.out (by omega) (by omega))
  clear ff_49
  have ff_67 := Lib.hid (ff_50.out.turned tt_64.out (by omega) (by omega))
  clear ff_50
  have ff_68 := Lib.hid (fo_55.out.turned tt_64.out (by omega) (by omega))
  clear fo_55
  have ff_69 := Lib.hid (ff_53.out.turned tt_64.out (by omega))
  clear ff_53
  have bb_70 := Lib.hid (C.Below.far bb_54.out tt_64.out)
  clear tt_64 bb_54
  clear hb
  have fo_71 := Lib.hid ho
  clear ho
  obtain ⟨cl_72, cl_73, cl_74⟩ := ff_69.out.cells
  have cq_75 := ff_69.out.lt
  go_wp2_with fail
  refine C.named ?_
  intro W6 hW6
  have kW6 : Below W5.heap.size W5 W6 := by rw [hW6]; exact (by (repeat (first | exact Below.refl _ _ | (refine Below.alloc ?_ (by first | omega | (simp; done) | (simp; omega)) _))))
  have bx_76p : C.Box3 W6 (W5.heap.size) 27 (.int .i64 m0.size) (.slice t_60 m0.doors.length t_61) (.slice t_62 m0.keys.length t_63) := by rw [hW6]; exact C.Box3.new _ _ _ _ (by simp)
  have bx_76q := bx_76p.lt
  have bx_76 := Lib.hid bx_76p
  clear bx_76p
  clear hW6
  clear cl_72 cl_73 cl_74 cq_75
  have tt_77 := Lib.hid (C.Turned.of_below kW6 0 0)
  have zz_78 := tt_77.out.size
  have ff_79 := Lib.hid (ff_66.out.turned tt_77.out (by omega) (by omega))
  clear ff_66
  have ff_80 := Lib.hid (ff_67.out.turned tt_77.out (by omega) (by omega))
  clear ff_67
  have ff_81 := Lib.hid (ff_68.out.turned tt_77.out (by omega) (by omega))
  clear ff_68
  have ff_82 := Lib.hid (fo_71.out.turned tt_77.out (by omega) (by omega))
  clear fo_71
  have ff_83 := Lib.hid (ff_69.out.turned tt_77.out (by omega))
  clear ff_69
  have bb_84 := Lib.hid (C.Below.far bb_70.out tt_77.out)
  clear tt_77 bb_70
  clear kW6
  refine (C.toInts_any W6 0 w.heap.size a2 cap2 l2 ff_80.out (by omega) (by omega)).mono ?_
  rintro e W7 ⟨rfl, ho, hb⟩
  have tt_85 := Lib.hid (C.Turned.of_below hb 0 0)
  have zz_86 := tt_85.out.size
  have ff_87 := Lib.hid (ff_79.out.turned tt_85.out (by omega) (by omega))
  clear ff_79
  have ff_88 := Lib.hid (ff_80.out.turned tt_85.out (by omega) (by omega))
  clear ff_80
  have ff_89 := Lib.hid (ff_81.out.turned tt_85.out (by omega) (by omega))
  clear ff_81
  have ff_90 := Lib.hid (ff_82.out.turned tt_85.out (by omega) (by omega))
  clear ff_82
  have ff_91 := Lib.hid (ff_83.out.turned tt_85.out (by omega))
  clear ff_83
  have ff_92 := Lib.hid (bx_76.out.turned tt_85.out (by omega))
  clear bx_76
  have bb_93 := Lib.hid (C.Below.far bb_84.out tt_85.out)
  clear tt_85 bb_84
  clear hb
  have fo_94 := Lib.hid ho
  clear ho
  obtain ⟨cl_95, cl_96, cl_97⟩ := ff_91.out.cells
  have cq_98 := ff_91.out.lt
  obtain ⟨cl_99, cl_100, cl_101⟩ := ff_92.out.cells
  have cq_102 := ff_92.out.lt
  go_wp2_with fail
  refine (C.implSwap_lw W7 (W4.heap.size) (W5.heap.size) m0 t_60 t_62 t_61 t_63 ff_90.out.mz (by omega) (by omega) (by omega) a1 (by omega) (by omega) (W6.heap.size) (W7.heap.size) (some ⟨W6.heap.size, 0, none⟩) l2.length l2 fo_94.out.row (by omega) (by omega) (by omega) (by omega) B2.out a3 (by omega) (by omega) a4 (by omega) (by omega)).mono ?_
  rintro e W8 ⟨r_103, r_104, rfl, ho, hq1, hq2, hb⟩
  clear cl_95 cl_96 cl_97 cq_98 cl_99 cl_100 cl_101 cq_102
  have tt_105 := Lib.hid (C.Turned.of_below hb 0 0)
  have zz_106 := tt_105.out.size
  have ff_107 := Lib.hid (ff_87.out.turned tt_105.out (by omega) (by omega))
  clear ff_87
  have ff_108 := Lib.hid (ff_88.out.turned tt_105.out (by omega) (by omega))
  clear ff_88
  have ff_109 := Lib.hid (ff_89.out.turned tt_105.out (by omega) (by omega))
  clear ff_89
  have ff_110 := Lib.hid (ff_90.out.turned tt_105.out (by omega) (by omega))
  clear ff_90
  have ff_111 := Lib.hid (fo_94.out.turned tt_105.out (by omega) (by omega))
  clear fo_94
  have ff_112 := Lib.hid (ff_91.out.turned tt_105.out (by omega))
  clear ff_91
  have ff_113 := Lib.hid (ff_92.out.turned tt_105.out (by omega))
  clear ff_92
  have bb_114 := Lib.hid (C.Below.far bb_93.out tt_105.out)
  clear tt_105 bb_93
  clear hb
  have fo_115 := Lib.hid ho
  clear ho hq1 hq2
  obtain ⟨cl_116, cl_117, cl_118⟩ := ff_112.out.cells
  have cq_119 := ff_112.out.lt
  obtain ⟨cl_120, cl_121, cl_122⟩ := ff_113.out.cells
  have cq_123 := ff_113.out.lt
  go_wp2_with fail
  refine (C.eqInts_any W8 (W7.heap.size) (W8.heap.size) (W3.heap.size) (W4.heap.size) r_103 r_45 r_104 r_46 (M.swV m0 a1 l2 a3 a4) (by omega) fo_115.out.row ff_109.out.row).mono ?_
  rintro e W9 ⟨rfl, nd_124, hW9⟩
  have hb : Below W8.heap.size W8 W9 := by rw [hW9]; exact C.below_drawn _ _
  clear hW9
  clear cl_116 cl_117 cl_118 cq_119 cl_120 cl_121 cl_122 cq_123
  have tt_125 := Lib.hid (C.Turned.of_below hb 0 0)
  have zz_126 := tt_125.out.size
  have ff_127 := Lib.hid (ff_107.out.turned tt_125.out (by omega) (by omega))
  clear ff_107
  have ff_128 := Lib.hid (ff_108.out.turned tt_125.out (by omega) (by omega))
  clear ff_108
  have ff_129 := Lib.hid (ff_109.out.turned tt_125.out (by omega) (by omega))
  clear ff_109
  have ff_130 := Lib.hid (ff_110.out.turned tt_125.out (by omega) (by omega))
  clear ff_110
  have ff_131 := Lib.hid (ff_111.out.turned tt_125.out (by omega) (by omega))
  clear ff_111
  have ff_132 := Lib.hid (fo_115.out.turned tt_125.out (by omega) (by omega))
  clear fo_115
  have ff_133 := Lib.hid (ff_112.out.turned tt_125.out (by omega))
  clear ff_112
  have ff_134 := Lib.hid (ff_113.out.turned tt_125.out (by omega))
  clear ff_113
  have bb_135 := Lib.hid (C.Below.far bb_114.out tt_125.out)
  clear tt_125 bb_114
  clear hb
  obtain ⟨cl_136, cl_137, cl_138⟩ := ff_133.out.cells
  have cq_139 := ff_133.out.lt
  obtain ⟨cl_140, cl_141, cl_142⟩ := ff_134.out.cells
  have cq_143 := ff_134.out.lt
  go_upto_region 13 with fail
  go_cut [68] (fun sl wx => sl = .bool false ∧ Below W9.heap.size W9 wx)
  case first =>
    go_region_with (first | (go_at_call 17; refine (C.toMaze_any W9.drew 0 w.heap.size m0 a0 b0 c0 d0 (ff_127.out.turned (C.Turned.of_below (Below.refl W9.heap.size W9).drew 0 0) (by omega) (by omega)) (show w.heap.size ≤ W9.heap.size by omega) (by omega) (by omega)).mono ?_; rintro e w2 ⟨t_144, t_145, t_146, t_147, rfl, ho, hb⟩; have hbq : Below W9.heap.size W9 w2 := (Below.refl W9.heap.size W9).drew.trans hb; have hzq := hbq.size; obtain ⟨cm_148, cm_149, cm_150⟩ := (ff_133.out.turned (C.Turned.of_below hbq 0 0) (by omega)).cells; obtain ⟨cm_151, cm_152, cm_153⟩ := (ff_134.out.turned (C.Turned.of_below hbq 0 0) (by omega)).cells) | (go_at_call 20; refine (C.eqMaze_any w2 (W4.heap.size) (W5.heap.size) _ _ m0 _ _ _ _ _ _ _ _ (C.MzOwn.mz (C.MzOwn.turned ff_130.out (C.Turned.of_below hbq 0 0) (by omega) (by omega))) ho.mz (by omega) (Nat.le_refl _) (by omega) (by omega)).mono ?_; rintro e w3 ⟨rfl, hb3⟩))
    all_goals (go_wp2_with fail; go_meet; exact ⟨rfl, C.Below.more hbq hb3⟩)
  case rest =>
    obtain ⟨rfl, hb⟩ := hcut
    obtain ⟨W10, rfl⟩ : ∃ W, W = wc := ⟨_, rfl⟩
    clear cl_136 cl_137 cl_138 cq_139 cl_140 cl_141 cl_142 cq_143
    have tt_154 := Lib.hid (C.Turned.of_below hb 0 0)
    have zz_155 := tt_154.out.size
    have ff_156 := Lib.hid (ff_127.out.turned tt_154.out (by omega) (by omega))
    clear ff_127
    have ff_157 := Lib.hid (ff_128.out.turned tt_154.out (by omega) (by omega))
    clear ff_128
    have ff_158 := Lib.hid (ff_129.out.turned tt_154.out (by omega) (by omega))
    clear ff_129
    have ff_159 := Lib.hid (ff_130.out.turned tt_154.out (by omega) (by omega))
    clear ff_130
    have ff_160 := Lib.hid (ff_131.out.turned tt_154.out (by omega) (by omega))
    clear ff_131
    have ff_161 := Lib.hid (ff_132.out.turned tt_154.out (by omega) (by omega))
    clear ff_132
    have ff_162 := Lib.hid (ff_133.out.turned tt_154.out (by omega))
    clear ff_133
    have ff_163 := Lib.hid (ff_134.out.turned tt_154.out (by omega))
    clear ff_134
    have bb_164 := Lib.hid (C.Below.far bb_135.out tt_154.out)
    clear tt_154 bb_135
    clear hb
    obtain ⟨cl_165, cl_166, cl_167⟩ := ff_162.out.cells
    have cq_168 := ff_162.out.lt
    obtain ⟨cl_169, cl_170, cl_171⟩ := ff_163.out.cells
    have cq_172 := ff_163.out.lt
    go_wp2_with fail
    refine (C.toInts_any W10 0 w.heap.size a2 cap2 l2 ff_157.out (by omega) (by omega)).mono ?_
    rintro e W11 ⟨rfl, ho, hb⟩
    clear cl_165 cl_166 cl_167 cq_168 cl_169 cl_170 cl_171 cq_172
    have tt_173 := Lib.hid (C.Turned.of_below hb 0 0)
    have zz_174 := tt_173.out.size
    have ff_175 := Lib.hid (ff_156.out.turned tt_173.out (by omega) (by omega))
    clear ff_156
    have ff_176 := Lib.hid (ff_157.out.turned tt_173.out (by omega) (by omega))
    clear ff_157
    have ff_177 := Lib.hid (ff_158.out.turned tt_173.out (by omega) (by omega))
    clear ff_158
    have ff_178 := Lib.hid (ff_159.out.turned tt_173.out (by omega) (by omega))
    clear ff_159
    have ff_179 := Lib.hid (ff_160.out.turned tt_173.out (by omega) (by omega))
    clear ff_160
    have ff_180 := Lib.hid (ff_161.out.turned tt_173.out (by omega) (by omega))
    clear ff_161
    have ff_181 := Lib.hid (ff_162.out.turned tt_173.out (by omega))
    clear ff_162
    have ff_182 := Lib.hid (ff_163.out.turned tt_173.out (by omega))
    clear ff_163
    have bb_183 := Lib.hid (C.Below.far bb_164.out tt_173.out)
    clear tt_173 bb_164
    clear hb
    have fo_184 := Lib.hid ho
    clear ho
    obtain ⟨cl_185, cl_186, cl_187⟩ := ff_181.out.cells
    have cq_188 := ff_181.out.lt
    obtain ⟨cl_189, cl_190, cl_191⟩ := ff_182.out.cells
    have cq_192 := ff_182.out.lt
    go_wp2_with fail
    refine (C.eqInts_any W11 (W6.heap.size) (W7.heap.size) (W10.heap.size) (W11.heap.size) (some ⟨W6.heap.size, 0, none⟩) (some ⟨W10.heap.size, 0, none⟩) l2.length l2.length l2 (by omega) ff_179.out.row fo_184.out.row).mono ?_
    rintro e W12 ⟨rfl, nd_193, hW12⟩
    have hb : Below W11.heap.size W11 W12 := by rw [hW12]; exact C.below_drawn _ _
    clear hW12
    clear cl_185 cl_186 cl_187 cq_188 cl_189 cl_190 cl_191 cq_192
    have tt_194 := Lib.hid (C.Turned.of_below hb 0 0)
    have zz_195 := tt_194.out.size
    have ff_196 := Lib.hid (ff_175.out.turned tt_194.out (by omega) (by omega))
    clear ff_175
    have ff_197 := Lib.hid (ff_176.out.turned tt_194.out (by omega) (by omega))
    clear ff_176
    have ff_198 := Lib.hid (ff_177.out.turned tt_194.out (by omega) (by omega))
    clear ff_177
    have ff_199 := Lib.hid (ff_178.out.turned tt_194.out (by omega) (by omega))
    clear ff_178
    have ff_200 := Lib.hid (ff_179.out.turned tt_194.out (by omega) (by omega))
    clear ff_179
    have ff_201 := Lib.hid (ff_180.out.turned tt_194.out (by omega) (by omega))
    clear ff_180
    have ff_202 := Lib.hid (fo_184.out.turned tt_194.out (by omega) (by omega))
    clear fo_184
    have ff_203 := Lib.hid (ff_181.out.turned tt_194.out (by omega))
    clear ff_181
    have ff_204 := Lib.hid (ff_182.out.turned tt_194.out (by omega))
    clear ff_182
    have bb_205 := Lib.hid (C.Below.far bb_183.out tt_194.out)
    clear tt_194 bb_183
    clear hb
    clear ff_202
    obtain ⟨cl_206, cl_207, cl_208⟩ := ff_203.out.cells
    have cq_209 := ff_203.out.lt
    obtain ⟨cl_210, cl_211, cl_212⟩ := ff_204.out.cells
    have cq_213 := ff_204.out.lt
    go_wp2_with fail
    refine (C.markMaze_any W12 (W4.heap.size) (W5.heap.size) m0 t_60 t_62 t_61 t_63 (1) ff_199.out (by omega) (by omega) (by omega) (by omega)).mono ?_
    rintro e W13 ⟨rfl, hm, ht⟩
    have fm_214 := Lib.hid hm
    clear hm
    clear ff_199
    clear cl_206 cl_207 cl_208 cq_209 cl_210 cl_211 cl_212 cq_213
    have tt_215 := Lib.hid (ht)
    have zz_216 := tt_215.out.size
    have ff_217 := Lib.hid (ff_196.out.turned tt_215.out (by omega) (by omega))
    clear ff_196
    have ff_218 := Lib.hid (ff_197.out.turned tt_215.out (by omega) (by omega))
    clear ff_197
    have ff_219 := Lib.hid (ff_198.out.turned tt_215.out (by omega) (by omega))
    clear ff_198
    have ff_220 := Lib.hid (ff_200.out.turned tt_215.out (by omega) (by omega))
    clear ff_200
    have ff_221 := Lib.hid (ff_201.out.turned tt_215.out (by omega) (by omega))
    clear ff_201
    have ff_222 := Lib.hid (ff_203.out.turned tt_215.out (by omega))
    clear ff_203
    have ff_223 := Lib.hid (ff_204.out.turned tt_215.out (by omega))
    clear ff_204
    have bb_224 := Lib.hid (C.Below.thenTurned bb_205.out tt_215.out (by omega) (by omega))
    clear tt_215 bb_205
    clear ht
    obtain ⟨cl_225, cl_226, cl_227⟩ := ff_222.out.cells
    have cq_228 := ff_222.out.lt
    obtain ⟨cl_229, cl_230, cl_231⟩ := ff_223.out.cells
    have cq_232 := ff_223.out.lt
    clear fm_214
    go_wp2_with fail
    refine (C.markInts_any W13 (W6.heap.size) (W7.heap.size) (some ⟨W6.heap.size, 0, none⟩) l2.length l2.length (1 + m0.doors.length * 3 + m0.keys.length) _ (M.encIs_len _) (by omega) (by omega) ff_220.out).mono ?_
    rintro e W14 ⟨rfl, hm, ht⟩
    have fm_233 := Lib.hid hm
    clear hm
    clear ff_220
    clear cl_225 cl_226 cl_227 cq_228 cl_229 cl_230 cl_231 cq_232
    have tt_234 := Lib.hid (ht)
    have zz_235 := tt_234.out.size
    have ff_236 := Lib.hid (ff_217.out.turned tt_234.out (by omega) (by omega))
    clear ff_217
    have ff_237 := Lib.hid (ff_218.out.turned tt_234.out (by omega) (by omega))
    clear ff_218
    have ff_238 := Lib.hid (ff_219.out.turned tt_234.out (by omega) (by omega))
    clear ff_219
    have ff_239 := Lib.hid (ff_221.out.turned tt_234.out (by omega) (by omega))
    clear ff_221
    have ff_240 := Lib.hid (ff_222.out.turned tt_234.out (by omega))
    clear ff_222
    have ff_241 := Lib.hid (ff_223.out.turned tt_234.out (by omega))
    clear ff_223
    have bb_242 := Lib.hid (C.Below.thenTurned bb_224.out tt_234.out (by omega) (by omega))
    clear tt_234 bb_224
    clear ht
    obtain ⟨cl_243, cl_244, cl_245⟩ := ff_240.out.cells
    have cq_246 := ff_240.out.lt
    obtain ⟨cl_247, cl_248, cl_249⟩ := ff_241.out.cells
    have cq_250 := ff_241.out.lt
    clear fm_233
    go_wp2_with fail
    refine (C.eqInts_any W14 (W7.heap.size) (W8.heap.size) (W3.heap.size) (W4.heap.size) r_103 r_45 r_104 r_46 (M.swV m0 a1 l2 a3 a4) (by omega) ff_239.out.row ff_238.out.row).mono ?_
    rintro e W15 ⟨rfl, nd_251, hW15⟩
    have hb : Below W14.heap.size W14 W15 := by rw [hW15]; exact C.below_drawn _ _
    clear hW15
    clear cl_243 cl_244 cl_245 cq_246 cl_247 cl_248 cl_249 cq_250
    have tt_252 := Lib.hid (C.Turned.of_below hb 0 0)
    have zz_253 := tt_252.out.size
    have ff_254 := Lib.hid (ff_236.out.turned tt_252.out (by omega) (by omega))
    clear ff_236
    have ff_255 := Lib.hid (ff_237.out.turned tt_252.out (by omega) (by omega))
    clear ff_237
    have ff_256 := Lib.hid (ff_238.out.turned tt_252.out (by omega) (by omega))
    clear ff_238
    have ff_257 := Lib.hid (ff_239.out.turned tt_252.out (by omega) (by omega))
    clear ff_239
    have ff_258 := Lib.hid (ff_240.out.turned tt_252.out (by omega))
    clear ff_240
    have ff_259 := Lib.hid (ff_241.out.turned tt_252.out (by omega))
    clear ff_241
    have bb_260 := Lib.hid (C.Below.far bb_242.out tt_252.out)
    clear tt_252 bb_242
    clear hb
    obtain ⟨cl_261, cl_262, cl_263⟩ := ff_258.out.cells
    have cq_264 := ff_258.out.lt
    obtain ⟨cl_265, cl_266, cl_267⟩ := ff_259.out.cells
    have cq_268 := ff_259.out.lt
    go_wp2_with fail
    refine (C.markInts_any W15 (W7.heap.size) (W8.heap.size) r_103 r_104 (M.swV m0 a1 l2 a3 a4).length (1) _ (M.encIs_len _) (by omega) (by omega) ff_257.out).mono ?_
    rintro e W16 ⟨rfl, hm, ht⟩
    have fm_269 := Lib.hid hm
    clear hm
    clear ff_257
    clear cl_261 cl_262 cl_263 cq_264 cl_265 cl_266 cl_267 cq_268
    have tt_270 := Lib.hid (ht)
    have zz_271 := tt_270.out.size
    have ff_272 := Lib.hid (ff_254.out.turned tt_270.out (by omega) (by omega))
    clear ff_254
    have ff_273 := Lib.hid (ff_255.out.turned tt_270.out (by omega) (by omega))
    clear ff_255
    have ff_274 := Lib.hid (ff_256.out.turned tt_270.out (by omega) (by omega))
    clear ff_256
    have ff_275 := Lib.hid (ff_258.out.turned tt_270.out (by omega))
    clear ff_258
    have ff_276 := Lib.hid (ff_259.out.turned tt_270.out (by omega))
    clear ff_259
    have bb_277 := Lib.hid (C.Below.thenTurned bb_260.out tt_270.out (by omega) (by omega))
    clear tt_270 bb_260
    clear ht
    obtain ⟨cl_278, cl_279, cl_280⟩ := ff_275.out.cells
    have cq_281 := ff_275.out.lt
    obtain ⟨cl_282, cl_283, cl_284⟩ := ff_276.out.cells
    have cq_285 := ff_276.out.lt
    go_wp2_with fail
    refine (C.heldInts_any W16 (W7.heap.size) (W8.heap.size) r_103 r_104 (M.swV m0 a1 l2 a3 a4).length 1 (by omega) (by omega) fm_269.out.row).mono ?_
    rintro e W16 ⟨rfl, rfl⟩
    go_wp2_with fail
    refine (C.toMaze_any W16 0 w.heap.size m0 a0 b0 c0 d0 ff_272.out (by omega) (by omega) (by omega)).mono ?_
    rintro e W18 ⟨t_286, t_287, t_288, t_289, rfl, ho, hb⟩
    clear cl_278 cl_279 cl_280 cq_281 cl_282 cl_283 cl_284 cq_285
    have tt_290 := Lib.hid (C.Turned.of_below hb 0 0)
    have zz_291 := tt_290.out.size
    have ff_292 := Lib.hid (ff_272.out.turned tt_290.out (by omega) (by omega))
    clear ff_272
    have ff_293 := Lib.hid (ff_273.out.turned tt_290.out (by omega) (by omega))
    clear ff_273
    have ff_294 := Lib.hid (ff_274.out.turned tt_290.out (by omega) (by omega))
    clear ff_274
    have ff_295 := Lib.hid (fm_269.out.turned tt_290.out (by omega) (by omega))
    clear fm_269
    have ff_296 := Lib.hid (ff_275.out.turned tt_290.out (by omega))
    clear ff_275
    have ff_297 := Lib.hid (ff_276.out.turned tt_290.out (by omega))
    clear ff_276
    have bb_298 := Lib.hid (C.Below.far bb_277.out tt_290.out)
    clear tt_290 bb_277
    clear hb
    have fo_299 := Lib.hid ho
    clear ho
    obtain ⟨cl_300, cl_301, cl_302⟩ := ff_296.out.cells
    have cq_303 := ff_296.out.lt
    obtain ⟨cl_304, cl_305, cl_306⟩ := ff_297.out.cells
    have cq_307 := ff_297.out.lt
    go_wp2_with fail
    refine (C.toInts_any W18 0 w.heap.size a2 cap2 l2 ff_293.out (by omega) (by omega)).mono ?_
    rintro e W19 ⟨rfl, ho, hb⟩
    clear cl_300 cl_301 cl_302 cq_303 cl_304 cl_305 cl_306 cq_307
    have tt_308 := Lib.hid (C.Turned.of_below hb 0 0)
    have zz_309 := tt_308.out.size
    have ff_310 := Lib.hid (ff_292.out.turned tt_308.out (by omega) (by omega))
    clear ff_292
    have ff_311 := Lib.hid (ff_293.out.turned tt_308.out (by omega) (by omega))
    clear ff_293
    have ff_312 := Lib.hid (ff_294.out.turned tt_308.out (by omega) (by omega))
    clear ff_294
    have ff_313 := Lib.hid (ff_295.out.turned tt_308.out (by omega) (by omega))
    clear ff_295
    have ff_314 := Lib.hid (fo_299.out.turned tt_308.out (by omega) (by omega))
    clear fo_299
    have ff_315 := Lib.hid (ff_296.out.turned tt_308.out (by omega))
    clear ff_296
    have ff_316 := Lib.hid (ff_297.out.turned tt_308.out (by omega))
    clear ff_297
    have bb_317 := Lib.hid (C.Below.far bb_298.out tt_308.out)
    clear tt_308 bb_298
    clear hb
    have fo_318 := Lib.hid ho
    clear ho
    obtain ⟨cl_319, cl_320, cl_321⟩ := ff_315.out.cells
    have cq_322 := ff_315.out.lt
    obtain ⟨cl_323, cl_324, cl_325⟩ := ff_316.out.cells
    have cq_326 := ff_316.out.lt
    go_wp2_with fail
    refine (C.implSwap_lw W19 (W16.heap.size) (W18.heap.size) m0 t_286 t_288 t_287 t_289 ff_314.out.mz (by omega) (by omega) (by omega) a1 (by omega) (by omega) (W18.heap.size) (W19.heap.size) (some ⟨W18.heap.size, 0, none⟩) l2.length l2 fo_318.out.row (by omega) (by omega) (by omega) (by omega) B2.out a3 (by omega) (by omega) a4 (by omega) (by omega)).mono ?_
    rintro e W20 ⟨r_327, r_328, rfl, ho, hq1, hq2, hb⟩
    clear cl_319 cl_320 cl_321 cq_322 cl_323 cl_324 cl_325 cq_326
    have tt_329 := Lib.hid (C.Turned.of_below hb 0 0)
    have zz_330 := tt_329.out.size
    have ff_331 := Lib.hid (ff_310.out.turned tt_329.out (by omega) (by omega))
    clear ff_310
    have ff_332 := Lib.hid (ff_311.out.turned tt_329.out (by omega) (by omega))
    clear ff_311
    have ff_333 := Lib.hid (ff_312.out.turned tt_329.out (by omega) (by omega))
    clear ff_312
    have ff_334 := Lib.hid (ff_313.out.turned tt_329.out (by omega) (by omega))
    clear ff_313
    have ff_335 := Lib.hid (ff_314.out.turned tt_329.out (by omega) (by omega))
    clear ff_314
    have ff_336 := Lib.hid (fo_318.out.turned tt_329.out (by omega) (by omega))
    clear fo_318
    have ff_337 := Lib.hid (ff_315.out.turned tt_329.out (by omega))
    clear ff_315
    have ff_338 := Lib.hid (ff_316.out.turned tt_329.out (by omega))
    clear ff_316
    have bb_339 := Lib.hid (C.Below.far bb_317.out tt_329.out)
    clear tt_329 bb_317
    clear hb
    have fo_340 := Lib.hid ho
    clear ho hq1 hq2
    obtain ⟨cl_341, cl_342, cl_343⟩ := ff_337.out.cells
    have cq_344 := ff_337.out.lt
    obtain ⟨cl_345, cl_346, cl_347⟩ := ff_338.out.cells
    have cq_348 := ff_338.out.lt
    clear ff_335 ff_336
    go_wp2_with fail
    refine (C.eqInts_any W20 (W19.heap.size) (W20.heap.size) (W3.heap.size) (W4.heap.size) r_327 r_45 r_328 r_46 (M.swV m0 a1 l2 a3 a4) (by omega) fo_340.out.row ff_333.out.row).mono ?_
    rintro e W21 ⟨rfl, nd_349, hW21⟩
    have hb : Below W20.heap.size W20 W21 := by rw [hW21]; exact C.below_drawn _ _
    clear hW21
    clear cl_341 cl_342 cl_343 cq_344 cl_345 cl_346 cl_347 cq_348
    have tt_350 := Lib.hid (C.Turned.of_below hb 0 0)
    have zz_351 := tt_350.out.size
    have ff_352 := Lib.hid (ff_331.out.turned tt_350.out (by omega) (by omega))
    clear ff_331
    have ff_353 := Lib.hid (ff_332.out.turned tt_350.out (by omega) (by omega))
    clear ff_332
    have ff_354 := Lib.hid (ff_333.out.turned tt_350.out (by omega) (by omega))
    clear ff_333
    have ff_355 := Lib.hid (ff_334.out.turned tt_350.out (by omega) (by omega))
    clear ff_334
    have ff_356 := Lib.hid (fo_340.out.turned tt_350.out (by omega) (by omega))
    clear fo_340
    have ff_357 := Lib.hid (ff_337.out.turned tt_350.out (by omega))
    clear ff_337
    have ff_358 := Lib.hid (ff_338.out.turned tt_350.out (by omega))
    clear ff_338
    have bb_359 := Lib.hid (C.Below.far bb_339.out tt_350.out)
    clear tt_350 bb_339
    clear hb
    obtain ⟨cl_360, cl_361, cl_362⟩ := ff_357.out.cells
    have cq_363 := ff_357.out.lt
    obtain ⟨cl_364, cl_365, cl_366⟩ := ff_358.out.cells
    have cq_367 := ff_358.out.lt
    go_wp2_with fail
    refine (C.heldInts_any W21 (W7.heap.size) (W8.heap.size) r_103 r_104 (M.swV m0 a1 l2 a3 a4).length 1 (by omega) (by omega) ff_355.out.row).mono ?_
    rintro e W21 ⟨rfl, rfl⟩
    go_wp2_with fail
    go_ret
    exact ⟨rfl, bb_359.out⟩


set_option maxRecDepth 100000 in
theorem lifted (os : Os) (started : os.Started) (H : Type) (enc : TypeId × Value → H) :
    ReturnsInHanded {} Try.checked os 13 .any (Rows.fnExactSwapFillingSpec.pre6 enc Try.prog Try.f13 Rows.fnExactSwapFillingRow.domain false) (Rows.fnExactSwapFillingSpec.post enc Try.prog Try.f13 false true false false) := by
  refine returnsInHanded_of_change (C := Try.checked) P.own started (by kernel_rfl) Try.func13
    (ChangeSpec.witness6 (enc := enc) (C := Try.checked) false ⟨#[], #[.agg #[.int .i64 0, .slice none 0 0, .slice none 0 0], .int .i64 0, .slice none 0 0, .int .i64 0, .int .i64 0], []⟩ 8 (by kernel_rfl) (by kernel_rfl) (by kernel_rfl) (by kernel_rfl)) ?_
  intro W base args ds gs before hval0 hW hcnd _
  have hval : ∀ (j : Nat) t v, Try.f13.params[j]? = some t → args[j]? = some v → Value.okWide Try.prog W .any base t v := hval0
  have hW' := hW
  obtain ⟨p, q, hA0, hV, rfl, hfz, hnd⟩ := hW
  have hA : DataW.TrodAll enc Try.prog W 0 (fun _ => true) true Try.f13.params.toList args.toList ds p := hA0
  rw [Try.params13] at hA hval
  obtain ⟨v0, vs0, d0, ds0, p0, q0, hargs, rfl, rfl, h0, r0⟩ := trodAll_cons hA
  obtain ⟨v1, vs1, d1, ds1, p1, q1, rfl, rfl, rfl, h1, r1⟩ := trodAll_cons r0
  obtain ⟨v2, vs2, d2, ds2, p2, q2, rfl, rfl, rfl, h2, r2⟩ := trodAll_cons r1
  obtain ⟨v3, vs3, d3, ds3, p3, q3, rfl, rfl, rfl, h3, r3⟩ := trodAll_cons r2
  obtain ⟨v4, vs4, d4, ds4, p4, q4, rfl, rfl, rfl, h4, r4⟩ := trodAll_cons r3
  obtain ⟨rfl, rfl, rfl⟩ := trodAll_nil r4
  obtain rfl : args = #[v0, v1, v2, v3, v4] := by cases args; simp_all
  obtain ⟨rfl, rfl⟩ := trodVars_none hV
  have k0 := h0
  have lt0 : ∀ x ∈ p0, x.block < W.heap.size := by obtain ⟨m, hm⟩ := k0; exact DataW.trod_lt m _ _ _ hm
  obtain ⟨m0, a0, c0, b0, e0, rfl, w0⟩ := C.open_maze (hval 0 25 v0 rfl rfl) h0
  obtain ⟨a1, rfl, rfl, rfl, w1⟩ := open_int Try.underlying3 (hval 1 3 v1 rfl rfl) h1
  have k2 := h2
  have lt2 : ∀ x ∈ p2, x.block < W.heap.size := by obtain ⟨m, hm⟩ := k2; exact DataW.trod_lt m _ _ _ hm
  obtain ⟨a2, len2, cap2, rfl⟩ := okWide_slice Try.underlying23 (hval 2 23 v2 rfl rfl)
  obtain ⟨l2, rfl, w2, u2, x2, y2⟩ : ∃ l : List Int, len2 = l.length ∧ C.RowIn 0 W.heap.size W a2 (M.encIs l) ∧ l.length ≤ cap2 ∧ cap2 ≤ maxLen ∧ ∀ z ∈ l, (Lit.int .i64 z).wf = true := by
    obtain ⟨fuel, hf⟩ := h2
    exact C.open_ints_at hf
  unfold maxLen at x2
  have b2 : ∀ z ∈ l2, -9223372036854775808 ≤ z ∧ z ≤ 9223372036854775807 := fun z hz => by have := Go.bounds_i64 (y2 z hz); omega
  obtain ⟨a3, rfl, rfl, rfl, w3⟩ := open_int Try.underlying3 (hval 3 3 v3 rfl rfl) h3
  obtain ⟨a4, rfl, rfl, rfl, w4⟩ := open_int Try.underlying3 (hval 4 3 v4 rfl rfl) h4
  clear hA0 hval0
  refine (walk W m0 a0 c0 b0 e0 w0 a1 w1 a2 cap2 l2 w2 u2 (by omega) b2 a3 w3 a4 w4).mono fun e W' ⟨he, hb⟩ => ?_
  subst he
  exact ⟨_, rfl, _, _, _, [], _, [], hW', trodAll_mk1 (shut_bool Try.underlying4 _), (trodAll_cons_mk (Below.trod P.laidOut (by kernel_rfl) (of_decide_eq_true (by kernel_rfl)) k0 hb lt0) (trodAll_cons_mk (shut_int Try.underlying3 w1) (trodAll_cons_mk (Below.trod P.laidOut (by kernel_rfl) (of_decide_eq_true (by kernel_rfl)) k2 hb lt2) (trodAll_cons_mk (shut_int Try.underlying3 w3) (trodAll_cons_mk (shut_int Try.underlying3 w4) trodAll_mk0))))), rfl, hb.frame _, fun h => by cases h⟩

theorem closed : joinedFacts Try.pinned.checked.prog 13 Try.f13 Rows.fnExactSwapFillingSpec Rows.fnExactSwapFillingRow = true := by
  show joinedFacts Try.prog 13 Try.f13 Rows.fnExactSwapFillingSpec Rows.fnExactSwapFillingRow = true
  unfold joinedFacts
  rw [P.cloEnter, P.cloMake, P.cloLift]
  kernel_rfl
theorem proved : Rows.FnExactSwapFillingSaid :=
  OpenClaim.holds_of_wide 13 Try.f13 rfl rfl rfl rfl rfl rfl rfl ⟨rfl, rfl, rfl, rfl, rfl⟩ rfl rfl rfl rfl rfl (by kernel_rfl) Try.func13 closed
    (of_decide_eq_true (by kernel_rfl)) (by unfold Func.isWrapper; first | (rw [if_pos (by decide +kernel)]; kernel_rfl) | (rw [if_neg (by decide +kernel)]; exact ⟨rfl, rfl⟩))
    (fun os started H enc _ => lifted os started H enc)
#print axioms proved
end Go.Proofs.Ytddpjjdncmokmaa.fnExactSwapFilling
