/-
  PROVED: for every maze aM, every int aSet and every list of ints aFilling the law laws.FnExactGoodSwaps returns true, that is, impl.GoodSwaps answers as the model does, in memory of its own at each call; its arguments read afterwards as before. Conditions: none.
-/
import Derived.Test.YtddpjjdncmokmaaRows
import Derived.Test.YtddpjjdncmokmaaWAMem
import Derived.Test.YtddpjjdncmokmaaClo
import Derived.Test.YtddpjjdncmokmaaMaz2
import Derived.Test.YtddpjjdncmokmaaGswI
import Derived.WalkKit
import Derived.ProofKit
import Derived.JoinedOf
import Derived.OpenShut
import Derived.ShutString
import Derived.Deep.RegionWith
import Derived.Deep.DeepCutAuto
namespace Go.Proofs.Ytddpjjdncmokmaa.fnExactGoodSwaps
open Go.ChangeShapes Go.WideShapes Go.ChangeAt Go.RowKit
open Go.ChangeMaps (open_string shut_string)
set_option linter.unusedVariables false

set_option maxHeartbeats 4000000 in
set_option maxRecDepth 100000 in
theorem walk (w : World) (m0 : M.Mz) (a0 : Option Addr) (c0 : Nat) (b0 : Option Addr) (d0 : Nat) (w0 : C.MzIn 0 w.heap.size w m0 a0 c0 b0 d0) (a1 : Int) (w1 : (Lit.int .i64 a1).wf = true) (a2 : Option Addr) (cap2 : Nat) (l2 : List Int) (w2 : C.RowIn 0 w.heap.size w a2 (M.encIs l2)) (u2 : l2.length ≤ cap2) (v2 : cap2 ≤ 9223372036854775807) (b2 : ∀ z ∈ l2, -9223372036854775808 ≤ z ∧ z ≤ 9223372036854775807) :
    Calls Try.prog 14 #[(.agg #[.int .i64 m0.size, .slice a0 m0.doors.length c0, .slice b0 m0.keys.length d0]), .int .i64 a1, .slice a2 l2.length cap2] w fun e w' => e = .returned (.bool true) ∧ Below w.heap.size w w' := by
  have wd1 := Go.bounds_i64 w1
  have y0 := Nat.le_trans w0.c1 w0.c2
  have z0 := Nat.le_trans w0.d1 w0.d2
  have x0 := Lib.hid w0
  clear w0
  have x2 := Lib.hid w2
  clear w2
  have B2 := Lib.hid b2
  clear b2
  by_cases s0 : 1048576 < l2.length
  · go_enter Try.func14, Try.ntmps14
    have bb_1 := Lib.hid (Below.refl w.heap.size w)
    go_wp2_with fail
    go_ret
    exact ⟨rfl, (by (repeat (first | exact Below.refl _ _ | (refine Below.alloc ?_ (by first | omega | (simp; done) | (simp; omega)) _))))⟩
  by_cases s1 : 1048576 < m0.doors.length + m0.keys.length
  · go_enter Try.func14, Try.ntmps14
    have bb_1 := Lib.hid (Below.refl w.heap.size w)
    go_wp2_with fail
    refine C.named ?_
    intro W0 hW0
    have kW0 : Below w.heap.size w W0 := by rw [hW0]; exact (by (repeat (first | exact Below.refl _ _ | (refine Below.alloc ?_ (by first | omega | (simp; done) | (simp; omega)) _))))
    have bx_2p : C.Box3 W0 (w.heap.size) 25 (.int .i64 m0.size) (.slice a0 m0.doors.length c0) (.slice b0 m0.keys.length d0) := by rw [hW0]; exact C.Box3.new _ _ _ _ (by simp)
    have bx_2q := bx_2p.lt
    have bx_2 := Lib.hid bx_2p
    clear bx_2p
    clear hW0
    have tt_3 := Lib.hid (C.Turned.of_below kW0 0 0)
    have zz_4 := tt_3.out.size
    have ff_5 := Lib.hid (x0.out.turned tt_3.out (by omega) (by omega))
    clear x0
    have ff_6 := Lib.hid (x2.out.turned tt_3.out (by omega) (by omega))
    clear x2
    have bb_7 := Lib.hid (C.Below.far bb_1.out tt_3.out)
    clear tt_3 bb_1
    clear kW0
    refine (C.szMaze_any W0 m0 a0 b0 c0 d0 (1048576) (by omega) (by omega) (by omega) (by omega)).mono ?_
    rintro e W1 ⟨rfl, hb⟩
    have tt_8 := Lib.hid (C.Turned.of_below hb 0 0)
    have zz_9 := tt_8.out.size
    have ff_10 := Lib.hid (ff_5.out.turned tt_8.out (by omega) (by omega))
    clear ff_5
    have ff_11 := Lib.hid (ff_6.out.turned tt_8.out (by omega) (by omega))
    clear ff_6
    have ff_12 := Lib.hid (bx_2.out.turned tt_8.out (by omega))
    clear bx_2
    have bb_13 := Lib.hid (C.Below.far bb_7.out tt_8.out)
    clear tt_8 bb_7
    clear hb
    rw [if_pos (by omega)]
    obtain ⟨cl_14, cl_15, cl_16⟩ := ff_12.out.cells
    have cq_17 := ff_12.out.lt
    go_wp2_with fail
    go_ret
    exact ⟨rfl, bb_13.out⟩
  go_enter Try.func14, Try.ntmps14
  have bb_1 := Lib.hid (Below.refl w.heap.size w)
  go_wp2_with fail
  refine C.named ?_
  intro W0 hW0
  have kW0 : Below w.heap.size w W0 := by rw [hW0]; exact (by (repeat (first | exact Below.refl _ _ | (refine Below.alloc ?_ (by first | omega | (simp; done) | (simp; omega)) _))))
  have bx_2p : C.Box3 W0 (w.heap.size) 25 (.int .i64 m0.size) (.slice a0 m0.doors.length c0) (.slice b0 m0.keys.length d0) := by rw [hW0]; exact C.Box3.new _ _ _ _ (by simp)
  have bx_2q := bx_2p.lt
  have bx_2 := Lib.hid bx_2p
  clear bx_2p
  clear hW0
  have tt_3 := Lib.hid (C.Turned.of_below kW0 0 0)
  have zz_4 := tt_3.out.size
  have ff_5 := Lib.hid (x0.out.turned tt_3.out (by omega) (by omega))
  clear x0
  have ff_6 := Lib.hid (x2.out.turned tt_3.out (by omega) (by omega))
  clear x2
  have bb_7 := Lib.hid (C.Below.far bb_1.out tt_3.out)
  clear tt_3 bb_1
  clear kW0
  refine (C.szMaze_any W0 m0 a0 b0 c0 d0 (1048576) (by omega) (by omega) (by omega) (by omega)).mono ?_
  rintro e W1 ⟨rfl, hb⟩
  have tt_8 := Lib.hid (C.Turned.of_below hb 0 0)
  have zz_9 := tt_8.out.size
  have ff_10 := Lib.hid (ff_5.out.turned tt_8.out (by omega) (by omega))
  clear ff_5
  have ff_11 := Lib.hid (ff_6.out.turned tt_8.out (by omega) (by omega))
  clear ff_6
  have ff_12 := Lib.hid (bx_2.out.turned tt_8.out (by omega))
  clear bx_2
  have bb_13 := Lib.hid (C.Below.far bb_7.out tt_8.out)
  clear tt_8 bb_7
  clear hb
  rw [if_neg (by omega)]
  obtain ⟨cl_14, cl_15, cl_16⟩ := ff_12.out.cells
  have cq_17 := ff_12.out.lt
  have hbd : (M.goodW m0 a1 l2).length ≤ 1048576 := M.goodW_len _ _ _
  go_wp2_with fail
  refine (C.toMaze_any W1 0 w.heap.size m0 a0 b0 c0 d0 ff_10.out (by omega) (by omega) (by omega)).mono ?_
  rintro e W2 ⟨t_18, t_19, t_20, t_21, rfl, ho, hb⟩
  clear cl_14 cl_15 cl_16 cq_17
  have tt_22 := Lib.hid (C.Turned.of_below hb 0 0)
  have zz_23 := tt_22.out.size
  have ff_24 := Lib.hid (ff_10.out.turned tt_22.out (by omega) (by omega))
  clear ff_10
  have ff_25 := Lib.hid (ff_11.out.turned tt_22.out (by omega) (by omega))
  clear ff_11
  have ff_26 := Lib.hid (ff_12.out.turned tt_22.out (by omega))
  clear ff_12
  have bb_27 := Lib.hid (C.Below.far bb_13.out tt_22.out)
  clear tt_22 bb_13
  clear hb
  have fo_28 := Lib.hid ho
  clear ho
  obtain ⟨cl_29, cl_30, cl_31⟩ := ff_26.out.cells
  have cq_32 := ff_26.out.lt
  go_wp2_with fail
  refine (C.toInts_any W2 0 w.heap.size a2 cap2 l2 ff_25.out (by omega) (by omega)).mono ?_
  rintro e W3 ⟨rfl, ho, hb⟩
  clear cl_29 cl_30 cl_31 cq_32
  have tt_33 := Lib.hid (C.Turned.of_below hb 0 0)
  have zz_34 := tt_33.out.size
  have ff_35 := Lib.hid (ff_24.out.turned tt_33.out (by omega) (by omega))
  clear ff_24
  have ff_36 := Lib.hid (ff_25.out.turned tt_33.out (by omega) (by omega))
  clear ff_25
  have ff_37 := Lib.hid (fo_28.out.turned tt_33.out (by omega) (by omega))
  clear fo_28
  have ff_38 := Lib.hid (ff_26.out.turned tt_33.out (by omega))
  clear ff_26
  have bb_39 := Lib.hid (C.Below.far bb_27.out tt_33.out)
  clear tt_33 bb_27
  clear hb
  have fo_40 := Lib.hid ho
  clear ho
  obtain ⟨cl_41, cl_42, cl_43⟩ := ff_38.out.cells
  have cq_44 := ff_38.out.lt
  go_wp2_with fail
  refine (C.specGsw_lw W3 (W1.heap.size) (W2.heap.size) m0 t_18 t_20 t_19 t_21 ff_37.out.mz (by omega) (by omega) (by omega) a1 (by omega) (by omega) (W2.heap.size) (W3.heap.size) (some ⟨W2.heap.size, 0, none⟩) l2.length l2 fo_40.out.row (by omega) (by omega) (by omega) (by omega) B2.out).mono ?_
  rintro e W4 ⟨r_45, r_46, rfl, ho, hq1, hq2, hb⟩
  clear cl_41 cl_42 cl_43 cq_44
  have tt_47 := Lib.hid (C.Turned.of_below hb 0 0)
  have zz_48 := tt_47.out.size
  have ff_49 := Lib.hid (ff_35.out.turned tt_47.out (by omega) (by omega))
  clear ff_35
  have ff_50 := Lib.hid (ff_36.out.turned tt_47.out (by omega) (by omega))
  clear ff_36
  have ff_51 := Lib.hid (ff_37.out.turned tt_47.out (by omega) (by omega))
  clear ff_37
  have ff_52 := Lib.hid (fo_40.out.turned tt_47.out (by omega) (by omega))
  clear fo_40
  have ff_53 := Lib.hid (ff_38.out.turned tt_47.out (by omega))
  clear ff_38
  have bb_54 := Lib.hid (C.Below.far bb_39.out tt_47.out)
  clear tt_47 bb_39
  clear hb
  have fo_55 := Lib.hid ho
  clear ho hq1 hq2
  obtain ⟨cl_56, cl_57, cl_58⟩ := ff_53.out.cells
  have cq_59 := ff_53.out.lt
  clear ff_51 ff_52
  go_wp2_with fail
  refine (C.toMaze_any W4 0 w.heap.size m0 a0 b0 c0 d0 ff_49.out (by omega) (by omega) (by omega)).mono ?_
  rintro e W5 ⟨t_60, t_61, t_62, t_63, rfl, ho, hb⟩
  clear cl_56 cl_57 cl_58 cq_59
  have tt_64 := Lib.hid (C.Turned.of_below hb 0 0)
  have zz_65 := tt_64.out.size
  have ff_66 := Lib.hid (ff_49.out.turned tt_64.out (by omega) (by omega))
  clear ff_49
  have ff_67 := Lib.hid (ff_50.out.turned tt_64.out (by omega) (by omega))
  clear ff_50
  have ff_68 := Lib.hid (fo_55.out.turned tt_64.out (by omega) (by omega))
  clear fo_55
  have ff_69 := Lib.hid (ff_53.out.turned tt_64.out (by omega))
  clear ff_53
  have bb_70 := Lib.hid (C.Below.far bb_54.out tt_64.out)
  clear tt_64 bb_54
  clear hb
  have fo_71 := Lib.hid ho
  clear ho
  obtain ⟨cl_72, cl_73, cl_74⟩ := ff_69.out.cells
  have cq_75 := ff_69.out.lt
  go_wp2_with fail
  refine C.named ?_
  intro W6 hW6
  have kW6 : Below W5.heap.size W5 W6 := by rw [hW6]; exact (by (repeat (first | exact Below.refl _ _ | (refine Below.alloc ?_ (by first | omega | (simp; done) | (simp; omega)) _))))
  have bx_76p : C.Box3 W6 (W5.heap.size) 27 (.int .i64 m0.size) (.slice t_60 m0.doors.length t_61) (.slice t_62 m0.keys.length t_63) := by rw [hW6]; exact C.Box3.new _ _ _ _ (by simp)
  have bx_76q := bx_76p.lt
  have bx_76 := Lib.hid bx_76p
  clear bx_76p
  clear hW6
  clear cl_72 cl_73 cl_74 cq_75
  have tt_77 := Lib.hid (C.Turned.of_below kW6 0 0)
  have zz_78 := tt_77.out.size
  have ff_79 := Lib.hid (ff_66.out.turned tt_77.out (by omega) (by omega))
  clear ff_66
  have ff_80 := Lib.hid (ff_67.out.turned tt_77.out (by omega) (by omega))
  clear ff_67
  have ff_81 := Lib.hid (ff_68.out.turned tt_77.out (by omega) (by omega))
  clear ff_68
  have ff_82 := Lib.hid (fo_71.out.turned tt_77.out (by omega) (by omega))
  clear fo_71
  have ff_83 := Lib.hid (ff_69.out.turned tt_77.out (by omega))
  clear ff_69
  have bb_84 := Lib.hid (C.Below.far bb_70.out tt_77.out)
  clear tt_77 bb_70
  clear kW6
  refine (C.toInts_any W6 0 w.heap.size a2 cap2 l2 ff_80.out (by omega) (by omega)).mono ?_
  rintro e W7 ⟨rfl, ho, hb⟩
  have tt_85 := Lib.hid (C.Turned.of_below hb 0 0)
  have zz_86 := tt_85.out.size
  have ff_87 := Lib.hid (ff_79.out.turned tt_85.out (by omega) (by omega))
  clear ff_79
  have ff_88 := Lib.hid (ff_80.out.turned tt_85.out (by omega) (by omega))
  clear ff_80
  have ff_89 := Lib.hid (ff_81.out.turned tt_85.out (by omega) (by omega))
  clear ff_81
  have ff_90 := Lib.hid (ff_82.out.turned tt_85.out (by omega) (by omega))
  clear ff_82
  have ff_91 := Lib.hid (ff_83.out.turned tt_85.out (by omega))
  clear ff_83
  have ff_92 := Lib.hid (bx_76.out.turned tt_85.out (by omega))
  clear bx_76
  have bb_93 := Lib.hid (C.Below.far bb_84.out tt_85.out)
  clear tt_85 bb_84
  clear hb
  have fo_94 := Lib.hid ho
  clear ho
  obtain ⟨cl_95, cl_96, cl_97⟩ := ff_91.out.cells
  have cq_98 := ff_91.out.lt
  obtain ⟨cl_99, cl_100, cl_101⟩ := ff_92.out.cells
  have cq_102 := ff_92.out.lt
  go_wp2_with fail
  refine (C.implGsw_lw W7 (W4.heap.size) (W5.heap.size) m0 t_60 t_62 t_61 t_63 ff_90.out.mz (by omega) (by omega) (by omega) a1 (by omega) (by omega) (W6.heap.size) (W7.heap.size) (some ⟨W6.heap.size, 0, none⟩) l2.length l2 fo_94.out.row (by omega) (by omega) (by omega) (by omega) B2.out).mono ?_
  rintro e W8 ⟨r_103, r_104, rfl, ho, hq1, hq2, hb⟩
  clear cl_95 cl_96 cl_97 cq_98 cl_99 cl_100 cl_101 cq_102
  have tt_105 := Lib.hid (C.Turned.of_below hb 0 0)
  have zz_106 := tt_105.out.size
  have ff_107 := Lib.hid (ff_87.out.turned tt_105.out (by omega) (by omega))
  clear ff_87
  have ff_108 := Lib.hid (ff_88.out.turned tt_105.out (by omega) (by omega))
  clear ff_88
  have ff_109 := Lib.hid (ff_89.out.turned tt_105.out (by omega) (by omega))
  clear ff_89
  have ff_110 := Lib.hid (ff_90.out.turned tt_105.out (by omega) (by omega))
  clear ff_90
  have ff_111 := Lib.hid (fo_94.out.turned tt_105.out (by omega) (by omega))
  clear fo_94
  have ff_112 := Lib.hid (ff_91.out.turned tt_105.out (by omega))
  clear ff_91
  have ff_113 := Lib.hid (ff_92.out.turned tt_105.out (by omega))
  clear ff_92
  have bb_114 := Lib.hid (C.Below.far bb_93.out tt_105.out)
  clear tt_105 bb_93
  clear hb
  have fo_115 := Lib.hid ho
  clear ho hq1 hq2
  obtain ⟨cl_116, cl_117, cl_118⟩ := ff_112.out.cells
  have cq_119 := ff_112.out.lt
  obtain ⟨cl_120, cl_121, cl_122⟩ := ff_113.out.cells
  have cq_123 := ff_113.out.lt
  go_wp2_with fail
  refine (C.eqPairs_any W8 (W7.heap.size) (W8.heap.size) (W3.heap.size) (W4.heap.size) r_103 r_45 r_104 r_46 (M.goodW m0 a1 l2) (by omega) fo_115.out.row ff_109.out.row (by omega) (by omega)).mono ?_
  rintro e W9 ⟨rfl, hb⟩
  clear cl_116 cl_117 cl_118 cq_119 cl_120 cl_121 cl_122 cq_123
  have tt_124 := Lib.hid (C.Turned.of_below hb 0 0)
  have zz_125 := tt_124.out.size
  have ff_126 := Lib.hid (ff_107.out.turned tt_124.out (by omega) (by omega))
  clear ff_107
  have ff_127 := Lib.hid (ff_108.out.turned tt_124.out (by omega) (by omega))
  clear ff_108
  have ff_128 := Lib.hid (ff_109.out.turned tt_124.out (by omega) (by omega))
  clear ff_109
  have ff_129 := Lib.hid (ff_110.out.turned tt_124.out (by omega) (by omega))
  clear ff_110
  have ff_130 := Lib.hid (ff_111.out.turned tt_124.out (by omega) (by omega))
  clear ff_111
  have ff_131 := Lib.hid (fo_115.out.turned tt_124.out (by omega) (by omega))
  clear fo_115
  have ff_132 := Lib.hid (ff_112.out.turned tt_124.out (by omega))
  clear ff_112
  have ff_133 := Lib.hid (ff_113.out.turned tt_124.out (by omega))
  clear ff_113
  have bb_134 := Lib.hid (C.Below.far bb_114.out tt_124.out)
  clear tt_124 bb_114
  clear hb
  obtain ⟨cl_135, cl_136, cl_137⟩ := ff_132.out.cells
  have cq_138 := ff_132.out.lt
  obtain ⟨cl_139, cl_140, cl_141⟩ := ff_133.out.cells
  have cq_142 := ff_133.out.lt
  go_upto_region 13 with fail
  go_cut [60] (fun sl wx => sl = .bool false ∧ Below W9.heap.size W9 wx)
  case first =>
    go_region_with (first | (go_at_call 17; refine (C.toMaze_any W9.drew 0 w.heap.size m0 a0 b0 c0 d0 (ff_126.out.turned (C.Turned.of_below (Below.refl W9.heap.size W9).drew 0 0) (by omega) (by omega)) (show w.heap.size ≤ W9.heap.size by omega) (by omega) (by omega)).mono ?_; rintro e w2 ⟨t_143, t_144, t_145, t_146, rfl, ho, hb⟩; have hbq : Below W9.heap.size W9 w2 := (Below.refl W9.heap.size W9).drew.trans hb; have hzq := hbq.size; obtain ⟨cm_147, cm_148, cm_149⟩ := (ff_132.out.turned (C.Turned.of_below hbq 0 0) (by omega)).cells; obtain ⟨cm_150, cm_151, cm_152⟩ := (ff_133.out.turned (C.Turned.of_below hbq 0 0) (by omega)).cells) | (go_at_call 20; refine (C.eqMaze_any w2 (W4.heap.size) (W5.heap.size) _ _ m0 _ _ _ _ _ _ _ _ (C.MzOwn.mz (C.MzOwn.turned ff_129.out (C.Turned.of_below hbq 0 0) (by omega) (by omega))) ho.mz (by omega) (Nat.le_refl _) (by omega) (by omega)).mono ?_; rintro e w3 ⟨rfl, hb3⟩))
    all_goals (go_wp2_with fail; go_meet; exact ⟨rfl, C.Below.more hbq hb3⟩)
  case rest =>
    obtain ⟨rfl, hb⟩ := hcut
    obtain ⟨W10, rfl⟩ : ∃ W, W = wc := ⟨_, rfl⟩
    clear cl_135 cl_136 cl_137 cq_138 cl_139 cl_140 cl_141 cq_142
    have tt_153 := Lib.hid (C.Turned.of_below hb 0 0)
    have zz_154 := tt_153.out.size
    have ff_155 := Lib.hid (ff_126.out.turned tt_153.out (by omega) (by omega))
    clear ff_126
    have ff_156 := Lib.hid (ff_127.out.turned tt_153.out (by omega) (by omega))
    clear ff_127
    have ff_157 := Lib.hid (ff_128.out.turned tt_153.out (by omega) (by omega))
    clear ff_128
    have ff_158 := Lib.hid (ff_129.out.turned tt_153.out (by omega) (by omega))
    clear ff_129
    have ff_159 := Lib.hid (ff_130.out.turned tt_153.out (by omega) (by omega))
    clear ff_130
    have ff_160 := Lib.hid (ff_131.out.turned tt_153.out (by omega) (by omega))
    clear ff_131
    have ff_161 := Lib.hid (ff_132.out.turned tt_153.out (by omega))
    clear ff_132
    have ff_162 := Lib.hid (ff_133.out.turned tt_153.out (by omega))
    clear ff_133
    have bb_163 := Lib.hid (C.Below.far bb_134.out tt_153.out)
    clear tt_153 bb_134
    clear hb
    obtain ⟨cl_164, cl_165, cl_166⟩ := ff_161.out.cells
    have cq_167 := ff_161.out.lt
    obtain ⟨cl_168, cl_169, cl_170⟩ := ff_162.out.cells
    have cq_171 := ff_162.out.lt
    go_wp2_with fail
    refine (C.toInts_any W10 0 w.heap.size a2 cap2 l2 ff_156.out (by omega) (by omega)).mono ?_
    rintro e W11 ⟨rfl, ho, hb⟩
    clear cl_164 cl_165 cl_166 cq_167 cl_168 cl_169 cl_170 cq_171
    have tt_172 := Lib.hid (C.Turned.of_below hb 0 0)
    have zz_173 := tt_172.out.size
    have ff_174 := Lib.hid (ff_155.out.turned tt_172.out (by omega) (by omega))
    clear ff_155
    have ff_175 := Lib.hid (ff_156.out.turned tt_172.out (by omega) (by omega))
    clear ff_156
    have ff_176 := Lib.hid (ff_157.out.turned tt_172.out (by omega) (by omega))
    clear ff_157
    have ff_177 := Lib.hid (ff_158.out.turned tt_172.out (by omega) (by omega))
    clear ff_158
    have ff_178 := Lib.hid (ff_159.out.turned tt_172.out (by omega) (by omega))
    clear ff_159
    have ff_179 := Lib.hid (ff_160.out.turned tt_172.out (by omega) (by omega))
    clear ff_160
    have ff_180 := Lib.hid (ff_161.out.turned tt_172.out (by omega))
    clear ff_161
    have ff_181 := Lib.hid (ff_162.out.turned tt_172.out (by omega))
    clear ff_162
    have bb_182 := Lib.hid (C.Below.far bb_163.out tt_172.out)
    clear tt_172 bb_163
    clear hb
    have fo_183 := Lib.hid ho
    clear ho
    obtain ⟨cl_184, cl_185, cl_186⟩ := ff_180.out.cells
    have cq_187 := ff_180.out.lt
    obtain ⟨cl_188, cl_189, cl_190⟩ := ff_181.out.cells
    have cq_191 := ff_181.out.lt
    go_wp2_with fail
    refine (C.eqInts_any W11 (W6.heap.size) (W7.heap.size) (W10.heap.size) (W11.heap.size) (some ⟨W6.heap.size, 0, none⟩) (some ⟨W10.heap.size, 0, none⟩) l2.length l2.length l2 (by omega) ff_178.out.row fo_183.out.row).mono ?_
    rintro e W12 ⟨rfl, nd_192, hW12⟩
    have hb : Below W11.heap.size W11 W12 := by rw [hW12]; exact C.below_drawn _ _
    clear hW12
    clear cl_184 cl_185 cl_186 cq_187 cl_188 cl_189 cl_190 cq_191
    have tt_193 := Lib.hid (C.Turned.of_below hb 0 0)
    have zz_194 := tt_193.out.size
    have ff_195 := Lib.hid (ff_174.out.turned tt_193.out (by omega) (by omega))
    clear ff_174
    have ff_196 := Lib.hid (ff_175.out.turned tt_193.out (by omega) (by omega))
    clear ff_175
    have ff_197 := Lib.hid (ff_176.out.turned tt_193.out (by omega) (by omega))
    clear ff_176
    have ff_198 := Lib.hid (ff_177.out.turned tt_193.out (by omega) (by omega))
    clear ff_177
    have ff_199 := Lib.hid (ff_178.out.turned tt_193.out (by omega) (by omega))
    clear ff_178
    have ff_200 := Lib.hid (ff_179.out.turned tt_193.out (by omega) (by omega))
    clear ff_179
    have ff_201 := Lib.hid (fo_183.out.turned tt_193.out (by omega) (by omega))
    clear fo_183
    have ff_202 := Lib.hid (ff_180.out.turned tt_193.out (by omega))
    clear ff_180
    have ff_203 := Lib.hid (ff_181.out.turned tt_193.out (by omega))
    clear ff_181
    have bb_204 := Lib.hid (C.Below.far bb_182.out tt_193.out)
    clear tt_193 bb_182
    clear hb
    clear ff_201
    obtain ⟨cl_205, cl_206, cl_207⟩ := ff_202.out.cells
    have cq_208 := ff_202.out.lt
    obtain ⟨cl_209, cl_210, cl_211⟩ := ff_203.out.cells
    have cq_212 := ff_203.out.lt
    go_wp2_with fail
    refine (C.markMaze_any W12 (W4.heap.size) (W5.heap.size) m0 t_60 t_62 t_61 t_63 (1) ff_198.out (by omega) (by omega) (by omega) (by omega)).mono ?_
    rintro e W13 ⟨rfl, hm, ht⟩
    have fm_213 := Lib.hid hm
    clear hm
    clear ff_198
    clear cl_205 cl_206 cl_207 cq_208 cl_209 cl_210 cl_211 cq_212
    have tt_214 := Lib.hid (ht)
    have zz_215 := tt_214.out.size
    have ff_216 := Lib.hid (ff_195.out.turned tt_214.out (by omega) (by omega))
    clear ff_195
    have ff_217 := Lib.hid (ff_196.out.turned tt_214.out (by omega) (by omega))
    clear ff_196
    have ff_218 := Lib.hid (ff_197.out.turned tt_214.out (by omega) (by omega))
    clear ff_197
    have ff_219 := Lib.hid (ff_199.out.turned tt_214.out (by omega) (by omega))
    clear ff_199
    have ff_220 := Lib.hid (ff_200.out.turned tt_214.out (by omega) (by omega))
    clear ff_200
    have ff_221 := Lib.hid (ff_202.out.turned tt_214.out (by omega))
    clear ff_202
    have ff_222 := Lib.hid (ff_203.out.turned tt_214.out (by omega))
    clear ff_203
    have bb_223 := Lib.hid (C.Below.thenTurned bb_204.out tt_214.out (by omega) (by omega))
    clear tt_214 bb_204
    clear ht
    obtain ⟨cl_224, cl_225, cl_226⟩ := ff_221.out.cells
    have cq_227 := ff_221.out.lt
    obtain ⟨cl_228, cl_229, cl_230⟩ := ff_222.out.cells
    have cq_231 := ff_222.out.lt
    clear fm_213
    go_wp2_with fail
    refine (C.markInts_any W13 (W6.heap.size) (W7.heap.size) (some ⟨W6.heap.size, 0, none⟩) l2.length l2.length (1 + m0.doors.length * 3 + m0.keys.length) _ (M.encIs_len _) (by omega) (by omega) ff_219.out).mono ?_
    rintro e W14 ⟨rfl, hm, ht⟩
    have fm_232 := Lib.hid hm
    clear hm
    clear ff_219
    clear cl_224 cl_225 cl_226 cq_227 cl_228 cl_229 cl_230 cq_231
    have tt_233 := Lib.hid (ht)
    have zz_234 := tt_233.out.size
    have ff_235 := Lib.hid (ff_216.out.turned tt_233.out (by omega) (by omega))
    clear ff_216
    have ff_236 := Lib.hid (ff_217.out.turned tt_233.out (by omega) (by omega))
    clear ff_217
    have ff_237 := Lib.hid (ff_218.out.turned tt_233.out (by omega) (by omega))
    clear ff_218
    have ff_238 := Lib.hid (ff_220.out.turned tt_233.out (by omega) (by omega))
    clear ff_220
    have ff_239 := Lib.hid (ff_221.out.turned tt_233.out (by omega))
    clear ff_221
    have ff_240 := Lib.hid (ff_222.out.turned tt_233.out (by omega))
    clear ff_222
    have bb_241 := Lib.hid (C.Below.thenTurned bb_223.out tt_233.out (by omega) (by omega))
    clear tt_233 bb_223
    clear ht
    obtain ⟨cl_242, cl_243, cl_244⟩ := ff_239.out.cells
    have cq_245 := ff_239.out.lt
    obtain ⟨cl_246, cl_247, cl_248⟩ := ff_240.out.cells
    have cq_249 := ff_240.out.lt
    clear fm_232
    go_wp2_with fail
    refine (C.eqPairs_any W14 (W7.heap.size) (W8.heap.size) (W3.heap.size) (W4.heap.size) r_103 r_45 r_104 r_46 (M.goodW m0 a1 l2) (by omega) ff_238.out.row ff_237.out.row (by omega) (by omega)).mono ?_
    rintro e W15 ⟨rfl, hb⟩
    clear cl_242 cl_243 cl_244 cq_245 cl_246 cl_247 cl_248 cq_249
    have tt_250 := Lib.hid (C.Turned.of_below hb 0 0)
    have zz_251 := tt_250.out.size
    have ff_252 := Lib.hid (ff_235.out.turned tt_250.out (by omega) (by omega))
    clear ff_235
    have ff_253 := Lib.hid (ff_236.out.turned tt_250.out (by omega) (by omega))
    clear ff_236
    have ff_254 := Lib.hid (ff_237.out.turned tt_250.out (by omega) (by omega))
    clear ff_237
    have ff_255 := Lib.hid (ff_238.out.turned tt_250.out (by omega) (by omega))
    clear ff_238
    have ff_256 := Lib.hid (ff_239.out.turned tt_250.out (by omega))
    clear ff_239
    have ff_257 := Lib.hid (ff_240.out.turned tt_250.out (by omega))
    clear ff_240
    have bb_258 := Lib.hid (C.Below.far bb_241.out tt_250.out)
    clear tt_250 bb_241
    clear hb
    obtain ⟨cl_259, cl_260, cl_261⟩ := ff_256.out.cells
    have cq_262 := ff_256.out.lt
    obtain ⟨cl_263, cl_264, cl_265⟩ := ff_257.out.cells
    have cq_266 := ff_257.out.lt
    go_wp2_with fail
    refine (C.markPairs_any W15 (W7.heap.size) (W8.heap.size) r_103 r_104 (M.goodW m0 a1 l2).length (1) _ (M.encPs_len _) (by omega) (by omega) ff_255.out).mono ?_
    rintro e W16 ⟨rfl, hm, ht⟩
    have fm_267 := Lib.hid hm
    clear hm
    clear ff_255
    clear cl_259 cl_260 cl_261 cq_262 cl_263 cl_264 cl_265 cq_266
    have tt_268 := Lib.hid (ht)
    have zz_269 := tt_268.out.size
    have ff_270 := Lib.hid (ff_252.out.turned tt_268.out (by omega) (by omega))
    clear ff_252
    have ff_271 := Lib.hid (ff_253.out.turned tt_268.out (by omega) (by omega))
    clear ff_253
    have ff_272 := Lib.hid (ff_254.out.turned tt_268.out (by omega) (by omega))
    clear ff_254
    have ff_273 := Lib.hid (ff_256.out.turned tt_268.out (by omega))
    clear ff_256
    have ff_274 := Lib.hid (ff_257.out.turned tt_268.out (by omega))
    clear ff_257
    have bb_275 := Lib.hid (C.Below.thenTurned bb_258.out tt_268.out (by omega) (by omega))
    clear tt_268 bb_258
    clear ht
    obtain ⟨cl_276, cl_277, cl_278⟩ := ff_273.out.cells
    have cq_279 := ff_273.out.lt
    obtain ⟨cl_280, cl_281, cl_282⟩ := ff_274.out.cells
    have cq_283 := ff_274.out.lt
    go_wp2_with fail
    refine (C.heldPairs_any W16 (W7.heap.size) (W8.heap.size) r_103 r_104 (M.goodW m0 a1 l2).length 1 (by omega) (by omega) fm_267.out.row).mono ?_
    rintro e W16 ⟨rfl, rfl⟩
    go_wp2_with fail
    refine (C.toMaze_any W16 0 w.heap.size m0 a0 b0 c0 d0 ff_270.out (by omega) (by omega) (by omega)).mono ?_
    rintro e W18 ⟨t_284, t_285, t_286, t_287, rfl, ho, hb⟩
    clear cl_276 cl_277 cl_278 cq_279 cl_280 cl_281 cl_282 cq_283
    have tt_288 := Lib.hid (C.Turned.of_below hb 0 0)
    have zz_289 := tt_288.out.size
    have ff_290 := Lib.hid (ff_270.out.turned tt_288.out (by omega) (by omega))
    clear ff_270
    have ff_291 := Lib.hid (ff_271.out.turned tt_288.out (by omega) (by omega))
    clear ff_271
    have ff_292 := Lib.hid (ff_272.out.turned tt_288.out (by omega) (by omega))
    clear ff_272
    have ff_293 := Lib.hid (fm_267.out.turned tt_288.out (by omega) (by omega))
    clear fm_267
    have ff_294 := Lib.hid (ff_273.out.turned tt_288.out (by omega))
    clear ff_273
    have ff_295 := Lib.hid (ff_274.out.turned tt_288.out (by omega))
    clear ff_274
    have bb_296 := Lib.hid (C.Below.far bb_275.out tt_288.out)
    clear tt_288 bb_275
    clear hb
    have fo_297 := Lib.hid ho
    clear ho
    obtain ⟨cl_298, cl_299, cl_300⟩ := ff_294.out.cells
    have cq_301 := ff_294.out.lt
    obtain ⟨cl_302, cl_303, cl_304⟩ := ff_295.out.cells
    have cq_305 := ff_295.out.lt
    go_wp2_with fail
    refine (C.toInts_any W18 0 w.heap.size a2 cap2 l2 ff_291.out (by omega) (by omega)).mono ?_
    rintro e W19 ⟨rfl, ho, hb⟩
    clear cl_298 cl_299 cl_300 cq_301 cl_302 cl_303 cl_304 cq_305
    have tt_306 := Lib.hid (C.Turned.of_below hb 0 0)
    have zz_307 := tt_306.out.size
    have ff_308 := Lib.hid (ff_290.out.turned tt_306.out (by omega) (by omega))
    clear ff_290
    have ff_309 := Lib.hid (ff_291.out.turned tt_306.out (by omega) (by omega))
    clear ff_291
    have ff_310 := Lib.hid (ff_292.out.turned tt_306.out (by omega) (by omega))
    clear ff_292
    have ff_311 := Lib.hid (ff_293.out.turned tt_306.out (by omega) (by omega))
    clear ff_293
    have ff_312 := Lib.hid (fo_297.out.turned tt_306.out (by omega) (by omega))
    clear fo_297
    have ff_313 := Lib.hid (ff_294.out.turned tt_306.out (by omega))
    clear ff_294
    have ff_314 := Lib.hid (ff_295.out.turned tt_306.out (by omega))
    clear ff_295
    have bb_315 := Lib.hid (C.Below.far bb_296.out tt_306.out)
    clear tt_306 bb_296
    clear hb
    have fo_316 := Lib.hid ho
    clear ho
    obtain ⟨cl_317, cl_318, cl_319⟩ := ff_313.out.cells
    have cq_320 := ff_313.out.lt
    obtain ⟨cl_321, cl_322, cl_323⟩ := ff_314.out.cells
    have cq_324 := ff_314.out.lt
    go_wp2_with fail
    refine (C.implGsw_lw W19 (W16.heap.size) (W18.heap.size) m0 t_284 t_286 t_285 t_287 ff_312.out.mz (by omega) (by omega) (by omega) a1 (by omega) (by omega) (W18.heap.size) (W19.heap.size) (some ⟨W18.heap.size, 0, none⟩) l2.length l2 fo_316.out.row (by omega) (by omega) (by omega) (by omega) B2.out).mono ?_
    rintro e W20 ⟨r_325, r_326, rfl, ho, hq1, hq2, hb⟩
    clear cl_317 cl_318 cl_319 cq_320 cl_321 cl_322 cl_323 cq_324
    have tt_327 := Lib.hid (C.Turned.of_below hb 0 0)
    have zz_328 := tt_327.out.size
    have ff_329 := Lib.hid (ff_308.out.turned tt_327.out (by omega) (by omega))
    clear ff_308
    have ff_330 := Lib.hid (ff_309.out.turned tt_327.out (by omega) (by omega))
    clear ff_309
    have ff_331 := Lib.hid (ff_310.out.turned tt_327.out (by omega) (by omega))
    clear ff_310
    have ff_332 := Lib.hid (ff_311.out.turned tt_327.out (by omega) (by omega))
    clear ff_311
    have ff_333 := Lib.hid (ff_312.out.turned tt_327.out (by omega) (by omega))
    clear ff_312
    have ff_334 := Lib.hid (fo_316.out.turned tt_327.out (by omega) (by omega))
    clear fo_316
    have ff_335 := Lib.hid (ff_313.out.turned tt_327.out (by omega))
    clear ff_313
    have ff_336 := Lib.hid (ff_314.out.turned tt_327.out (by omega))
    clear ff_314
    have bb_337 := Lib.hid (C.Below.far bb_315.out tt_327.out)
    clear tt_327 bb_315
    clear hb
    have fo_338 := Lib.hid ho
    clear ho hq1 hq2
    obtain ⟨cl_339, cl_340, cl_341⟩ := ff_335.out.cells
    have cq_342 := ff_335.out.lt
    obtain ⟨cl_343, cl_344, cl_345⟩ := ff_336.out.cells
    have cq_346 := ff_336.out.lt
    clear ff_333 ff_334
    go_wp2_with fail
    refine (C.eqPairs_any W20 (W19.heap.size) (W20.heap.size) (W3.heap.size) (W4.heap.size) r_325 r_45 r_326 r_46 (M.goodW m0 a1 l2) (by omega) fo_338.out.row ff_331.out.row (by omega) (by omega)).mono ?_
    rintro e W21 ⟨rfl, hb⟩
    clear cl_339 cl_340 cl_341 cq_342 cl_343 cl_344 cl_345 cq_346
    have tt_347 := Lib.hid (C.Turned.of_below hb 0 0)
    have zz_348 := tt_347.out.size
    have ff_349 := Lib.hid (ff_329.out.turned tt_347.out (by omega) (by omega))
    clear ff_329
    have ff_350 := Lib.hid (ff_330.out.turned tt_347.out (by omega) (by omega))
    clear ff_330
    have ff_351 := Lib.hid (ff_331.out.turned tt_347.out (by omega) (by omega))
    clear ff_331
    have ff_352 := Lib.hid (ff_332.out.turned tt_347.out (by omega) (by omega))
    clear ff_332
    have ff_353 := Lib.hid (fo_338.out.turned tt_347.out (by omega) (by omega))
    clear fo_338
    have ff_354 := Lib.hid (ff_335.out.turned tt_347.out (by omega))
    clear ff_335
    have ff_355 := Lib.hid (ff_336.out.turned tt_347.out (by omega))
    clear ff_336
    have bb_356 := Lib.hid (C.Below.far bb_337.out tt_347.out)
    clear tt_347 bb_337
    clear hb
    obtain ⟨cl_357, cl_358, cl_359⟩ := ff_354.out.cells
    have cq_360 := ff_354.out.lt
    obtain ⟨cl_361, cl_362, cl_363⟩ := ff_355.out.cells
    have cq_364 := ff_355.out.lt
    go_wp2_with fail
    refine (C.heldPairs_any W21 (W7.heap.size) (W8.heap.size) r_103 r_104 (M.goodW m0 a1 l2).length 1 (by omega) (by omega) ff_352.out.row).mono ?_
    rintro e W21 ⟨rfl, rfl⟩
    go_wp2_with fail
    go_ret
    exact ⟨rfl, bb_356.out⟩


set_option maxRecDepth 100000 in
theorem lifted (os : Os) (started : os.Started) (H : Type) (enc : TypeId × Value → H) :
    ReturnsInHanded {} Try.checked os 14 .any (Rows.fnExactGoodSwapsSpec.pre6 enc Try.prog Try.f14 Rows.fnExactGoodSwapsRow.domain false) (Rows.fnExactGoodSwapsSpec.post enc Try.prog Try.f14 false true false false) := by
  refine returnsInHanded_of_change (C := Try.checked) P.own started (by kernel_rfl) Try.func14
    (ChangeSpec.witness6 (enc := enc) (C := Try.checked) false ⟨#[], #[.agg #[.int .i64 0, .slice none 0 0, .slice none 0 0], .int .i64 0, .slice none 0 0], []⟩ 8 (by kernel_rfl) (by kernel_rfl) (by kernel_rfl) (by kernel_rfl)) ?_
  intro W base args ds gs before hval0 hW hcnd _
  have hval : ∀ (j : Nat) t v, Try.f14.params[j]? = some t → args[j]? = some v → Value.okWide Try.prog W .any base t v := hval0
  have hW' := hW
  obtain ⟨p, q, hA0, hV, rfl, hfz, hnd⟩ := hW
  have hA : DataW.TrodAll enc Try.prog W 0 (fun _ => true) true Try.f14.params.toList args.toList ds p := hA0
  rw [Try.params14] at hA hval
  obtain ⟨v0, vs0, d0, ds0, p0, q0, hargs, rfl, rfl, h0, r0⟩ := trodAll_cons hA
  obtain ⟨v1, vs1, d1, ds1, p1, q1, rfl, rfl, rfl, h1, r1⟩ := trodAll_cons r0
  obtain ⟨v2, vs2, d2, ds2, p2, q2, rfl, rfl, rfl, h2, r2⟩ := trodAll_cons r1
  obtain ⟨rfl, rfl, rfl⟩ := trodAll_nil r2
  obtain rfl : args = #[v0, v1, v2] := by cases args; simp_all
  obtain ⟨rfl, rfl⟩ := trodVars_none hV
  have k0 := h0
  have lt0 : ∀ x ∈ p0, x.block < W.heap.size := by obtain ⟨m, hm⟩ := k0; exact DataW.trod_lt m _ _ _ hm
  obtain ⟨m0, a0, c0, b0, e0, rfl, w0⟩ := C.open_maze (hval 0 25 v0 rfl rfl) h0
  obtain ⟨a1, rfl, rfl, rfl, w1⟩ := open_int Try.underlying3 (hval 1 3 v1 rfl rfl) h1
  have k2 := h2
  have lt2 : ∀ x ∈ p2, x.block < W.heap.size := by obtain ⟨m, hm⟩ := k2; exact DataW.trod_lt m _ _ _ hm
  obtain ⟨a2, len2, cap2, rfl⟩ := okWide_slice Try.underlying23 (hval 2 23 v2 rfl rfl)
  obtain ⟨l2, rfl, w2, u2, x2, y2⟩ : ∃ l : List Int, len2 = l.length ∧ C.RowIn 0 W.heap.size W a2 (M.encIs l) ∧ l.length ≤ cap2 ∧ cap2 ≤ maxLen ∧ ∀ z ∈ l, (Lit.int .i64 z).wf = true := by
    obtain ⟨fuel, hf⟩ := h2
    exact C.open_ints_at hf
  unfold maxLen at x2
  have b2 : ∀ z ∈ l2, -9223372036854775808 ≤ z ∧ z ≤ 9223372036854775807 := fun z hz => by have := Go.bounds_i64 (y2 z hz); omega
  clear hA0 hval0
  refine (walk W m0 a0 c0 b0 e0 w0 a1 w1 a2 cap2 l2 w2 u2 (by omega) b2).mono fun e W' ⟨he, hb⟩ => ?_
  subst he
  exact ⟨_, rfl, _, _, _, [], _, [], hW', trodAll_mk1 (shut_bool Try.underlying4 _), (trodAll_cons_mk (Below.trod P.laidOut (by kernel_rfl) (of_decide_eq_true (by kernel_rfl)) k0 hb lt0) (trodAll_cons_mk (shut_int Try.underlying3 w1) (trodAll_cons_mk (Below.trod P.laidOut (by kernel_rfl) (of_decide_eq_true (by kernel_rfl)) k2 hb lt2) trodAll_mk0))), rfl, hb.frame _, fun h => by cases h⟩

theorem closed : joinedFacts Try.pinned.checked.prog 14 Try.f14 Rows.fnExactGoodSwapsSpec Rows.fnExactGoodSwapsRow = true := by
  show joinedFacts Try.prog 14 Try.f14 Rows.fnExactGoodSwapsSpec Rows.fnExactGoodSwapsRow = true
  unfold joinedFacts
  rw [P.cloEnter, P.cloMake, P.cloLift]
  kernel_rfl
theorem proved : Rows.FnExactGoodSwapsSaid :=
  OpenClaim.holds_of_wide 14 Try.f14 rfl rfl rfl rfl rfl rfl rfl ⟨rfl, rfl, rfl, rfl, rfl⟩ rfl rfl rfl rfl rfl (by kernel_rfl) Try.func14 closed
    (of_decide_eq_true (by kernel_rfl)) (by unfold Func.isWrapper; first | (rw [if_pos (by decide +kernel)]; kernel_rfl) | (rw [if_neg (by decide +kernel)]; exact ⟨rfl, rfl⟩))
    (fun os started H enc _ => lifted os started H enc)
#print axioms proved
end Go.Proofs.Ytddpjjdncmokmaa.fnExactGoodSwaps
