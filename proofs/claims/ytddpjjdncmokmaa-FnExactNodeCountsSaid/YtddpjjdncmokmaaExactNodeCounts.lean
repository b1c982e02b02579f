/-
  PROVED: for every maze aM and all ints aSet and aColour the law laws.FnExactNodeCounts returns true, that is, impl.NodeCounts answers as the model does, in memory of its own at each call; its arguments read afterwards as before. Conditions: none.
-/
import Derived.Test.YtddpjjdncmokmaaRows
import Derived.Test.YtddpjjdncmokmaaWAMem
import Derived.Test.YtddpjjdncmokmaaClo
import Derived.Test.YtddpjjdncmokmaaMaz2
import Derived.Test.YtddpjjdncmokmaaNdcS
import Derived.WalkKit
import Derived.ProofKit
import Derived.JoinedOf
import Derived.OpenShut
import Derived.ShutString
import Derived.Deep.RegionWith
import Derived.Deep.DeepCutAuto
namespace Go.Proofs.Ytddpjjdncmokmaa.fnExactNodeCounts
open Go.ChangeShapes Go.WideShapes Go.ChangeAt Go.RowKit
open Go.ChangeMaps (open_string shut_string)
set_option linter.unusedVariables false

set_option maxHeartbeats 4000000 in
set_option maxRecDepth 100000 in
theorem walk (w : World) (m0 : M.Mz) (a0 : Option Addr) (c0 : Nat) (b0 : Option Addr) (d0 : Nat) (w0 : C.MzIn 0 w.heap.size w m0 a0 c0 b0 d0) (a1 : Int) (w1 : (Lit.int .i64 a1).wf = true) (a2 : Int) (w2 : (Lit.int .i64 a2).wf = true) :
    Calls Try.prog 10 #[(.agg #[.int .i64 m0.size, .slice a0 m0.doors.length c0, .slice b0 m0.keys.length d0]), .int .i64 a1, .int .i64 a2] w fun e w' => e = .returned (.bool true) ∧ Below w.heap.size w w' := by
  have wd1 := Go.bounds_i64 w1
  have wd2 := Go.bounds_i64 w2
  have y0 := Nat.le_trans w0.c1 w0.c2
  have z0 := Nat.le_trans w0.d1 w0.d2
  have x0 := Lib.hid w0
  clear w0
  by_cases s0 : 1048576 < m0.doors.length + m0.keys.length
  · go_enter Try.func10, Try.ntmps10
    have bb_1 := Lib.hid (Below.refl w.heap.size w)
    go_wp2_with fail
    refine C.named ?_
    intro W0 hW0
    have kW0 : Below w.heap.size w W0 := by rw [hW0]; exact (by (repeat (first | exact Below.refl _ _ | (refine Below.alloc ?_ (by first | omega | (simp; done) | (simp; omega)) _))))
    have bx_2p : C.Box3 W0 (w.heap.size) 25 (.int .i64 m0.size) (.slice a0 m0.doors.length c0) (.slice b0 m0.keys.length d0) := by rw [hW0]; exact C.Box3.new _ _ _ _ (by simp)
    have bx_2q := bx_2p.lt
    have bx_2 := Lib.hid bx_2p
    clear bx_2p
    clear hW0
    have tt_3 := Lib.hid (C.Turned.of_below kW0 0 0)
    have zz_4 := tt_3.out.size
    have ff_5 := Lib.hid (x0.out.turned tt_3.out (by omega) (by omega))
    clear x0
    have bb_6 := Lib.hid (C.Below.far bb_1.out tt_3.out)
    clear tt_3 bb_1
    clear kW0
    refine (C.szMaze_any W0 m0 a0 b0 c0 d0 (1048576) (by omega) (by omega) (by omega) (by omega)).mono ?_
    rintro e W1 ⟨rfl, hb⟩
    have tt_7 := Lib.hid (C.Turned.of_below hb 0 0)
    have zz_8 := tt_7.out.size
    have ff_9 := Lib.hid (ff_5.out.turned tt_7.out (by omega) (by omega))
    clear ff_5
    have ff_10 := Lib.hid (bx_2.out.turned tt_7.out (by omega))
    clear bx_2
    have bb_11 := Lib.hid (C.Below.far bb_6.out tt_7.out)
    clear tt_7 bb_6
    clear hb
    rw [if_pos (by omega)]
    obtain ⟨cl_12, cl_13, cl_14⟩ := ff_10.out.cells
    have cq_15 := ff_10.out.lt
    go_wp2_with fail
    go_ret
    exact ⟨rfl, bb_11.out⟩
  go_enter Try.func10, Try.ntmps10
  have bb_1 := Lib.hid (Below.refl w.heap.size w)
  go_wp2_with fail
  refine C.named ?_
  intro W0 hW0
  have kW0 : Below w.heap.size w W0 := by rw [hW0]; exact (by (repeat (first | exact Below.refl _ _ | (refine Below.alloc ?_ (by first | omega | (simp; done) | (simp; omega)) _))))
  have bx_2p : C.Box3 W0 (w.heap.size) 25 (.int .i64 m0.size) (.slice a0 m0.doors.length c0) (.slice b0 m0.keys.length d0) := by rw [hW0]; exact C.Box3.new _ _ _ _ (by simp)
  have bx_2q := bx_2p.lt
  have bx_2 := Lib.hid bx_2p
  clear bx_2p
  clear hW0
  have tt_3 := Lib.hid (C.Turned.of_below kW0 0 0)
  have zz_4 := tt_3.out.size
  have ff_5 := Lib.hid (x0.out.turned tt_3.out (by omega) (by omega))
  clear x0
  have bb_6 := Lib.hid (C.Below.far bb_1.out tt_3.out)
  clear tt_3 bb_1
  clear kW0
  refine (C.szMaze_any W0 m0 a0 b0 c0 d0 (1048576) (by omega) (by omega) (by omega) (by omega)).mono ?_
  rintro e W1 ⟨rfl, hb⟩
  have tt_7 := Lib.hid (C.Turned.of_below hb 0 0)
  have zz_8 := tt_7.out.size
  have ff_9 := Lib.hid (ff_5.out.turned tt_7.out (by omega) (by omega))
  clear ff_5
  have ff_10 := Lib.hid (bx_2.out.turned tt_7.out (by omega))
  clear bx_2
  have bb_11 := Lib.hid (C.Below.far bb_6.out tt_7.out)
  clear tt_7 bb_6
  clear hb
  rw [if_neg (by omega)]
  obtain ⟨cl_12, cl_13, cl_14⟩ := ff_10.out.cells
  have cq_15 := ff_10.out.lt
  have hbd : (M.ncntW m0 a1 a2).length ≤ 1048576 := M.ncntW_len _ _ _
  go_wp2_with fail
  refine (C.toMaze_any W1 0 w.heap.size m0 a0 b0 c0 d0 ff_9.out (by omega) (by omega) (by omega)).mono ?_
  rintro e W2 ⟨t_16, t_17, t_18, t_19, rfl, ho, hb⟩
  clear cl_12 cl_13 cl_14 cq_15
  have tt_20 := Lib.hid (C.Turned.of_below hb 0 0)
  have zz_21 := tt_20.out.size
  have ff_22 := Lib.hid (ff_9.out.turned tt_20.out (by omega) (by omega))
  clear ff_9
  have ff_23 := Lib.hid (ff_10.out.turned tt_20.out (by omega))
  clear ff_10
  have bb_24 := Lib.hid (C.Below.far bb_11.out tt_20.out)
  clear tt_20 bb_11
  clear hb
  have fo_25 := Lib.hid ho
  clear ho
  obtain ⟨cl_26, cl_27, cl_28⟩ := ff_23.out.cells
  have cq_29 := ff_23.out.lt
  go_wp2_with fail
  refine (C.specNode_lw W2 (W1.heap.size) (W2.heap.size) m0 t_16 t_18 t_17 t_19 fo_25.out.mz (by omega) (by omega) (by omega) a1 (by omega) (by omega) a2 (by omega) (by omega)).mono ?_
  rintro e W3 ⟨t_30, r_31, r_32, rfl, ho, hq1, hq2, hb⟩
  clear cl_26 cl_27 cl_28 cq_29
  have tt_33 := Lib.hid (C.Turned.of_below hb 0 0)
  have zz_34 := tt_33.out.size
  have ff_35 := Lib.hid (ff_22.out.turned tt_33.out (by omega) (by omega))
  clear ff_22
  have ff_36 := Lib.hid (fo_25.out.turned tt_33.out (by omega) (by omega))
  clear fo_25
  have ff_37 := Lib.hid (ff_23.out.turned tt_33.out (by omega))
  clear ff_23
  have bb_38 := Lib.hid (C.Below.far bb_24.out tt_33.out)
  clear tt_33 bb_24
  clear hb
  have fo_39 := Lib.hid ho
  clear ho hq1 hq2
  obtain ⟨cl_40, cl_41, cl_42⟩ := ff_37.out.cells
  have cq_43 := ff_37.out.lt
  clear ff_36
  go_wp2_with fail
  refine (C.toMaze_any W3 0 w.heap.size m0 a0 b0 c0 d0 ff_35.out (by omega) (by omega) (by omega)).mono ?_
  rintro e W4 ⟨t_44, t_45, t_46, t_47, rfl, ho, hb⟩
  clear cl_40 cl_41 cl_42 cq_43
  have tt_48 := Lib.hid (C.Turned.of_below hb 0 0)
  have zz_49 := tt_48.out.size
  have ff_50 := Lib.hid (ff_35.out.turned tt_48.out (by omega) (by omega))
  clear ff_35
  have ff_51 := Lib.hid (fo_39.out.turned tt_48.out (by omega) (by omega))
  clear fo_39
  have ff_52 := Lib.hid (ff_37.out.turned tt_48.out (by omega))
  clear ff_37
  have bb_53 := Lib.hid (C.Below.far bb_38.out tt_48.out)
  clear tt_48 bb_38
  clear hb
  have fo_54 := Lib.hid ho
  clear ho
  obtain ⟨cl_55, cl_56, cl_57⟩ := ff_52.out.cells
  have cq_58 := ff_52.out.lt
  go_wp2_with fail
  refine C.named ?_
  intro W5 hW5
  have kW5 : Below W4.heap.size W4 W5 := by rw [hW5]; exact (by (repeat (first | exact Below.refl _ _ | (refine Below.alloc ?_ (by first | omega | (simp; done) | (simp; omega)) _))))
  have bx_59p : C.Box3 W5 (W4.heap.size) 27 (.int .i64 m0.size) (.slice t_44 m0.doors.length t_45) (.slice t_46 m0.keys.length t_47) := by rw [hW5]; exact C.Box3.new _ _ _ _ (by simp)
  have bx_59q := bx_59p.lt
  have bx_59 := Lib.hid bx_59p
  clear bx_59p
  clear hW5
  clear cl_55 cl_56 cl_57 cq_58
  have tt_60 := Lib.hid (C.Turned.of_below kW5 0 0)
  have zz_61 := tt_60.out.size
  have ff_62 := Lib.hid (ff_50.out.turned tt_60.out (by omega) (by omega))
  clear ff_50
  have ff_63 := Lib.hid (ff_51.out.turned tt_60.out (by omega) (by omega))
  clear ff_51
  have ff_64 := Lib.hid (fo_54.out.turned tt_60.out (by omega) (by omega))
  clear fo_54
  have ff_65 := Lib.hid (ff_52.out.turned tt_60.out (by omega))
  clear ff_52
  have bb_66 := Lib.hid (C.Below.far bb_53.out tt_60.out)
  clear tt_60 bb_53
  clear kW5
  refine (C.implNode_lw W5 (W3.heap.size) (W4.heap.size) m0 t_44 t_46 t_45 t_47 ff_64.out.mz (by omega) (by omega) (by omega) a1 (by omega) (by omega) a2 (by omega) (by omega)).mono ?_
  rintro e W6 ⟨t_67, r_68, r_69, rfl, ho, hq1, hq2, hb⟩
  have tt_70 := Lib.hid (C.Turned.of_below hb 0 0)
  have zz_71 := tt_70.out.size
  have ff_72 := Lib.hid (ff_62.out.turned tt_70.out (by omega) (by omega))
  clear ff_62
  have ff_73 := Lib.hid (ff_63.out.turned tt_70.out (by omega) (by omega))
  clear ff_63
  have ff_74 := Lib.hid (ff_64.out.turned tt_70.out (by omega) (by omega))
  clear ff_64
  have ff_75 := Lib.hid (ff_65.out.turned tt_70.out (by omega))
  clear ff_65
  have ff_76 := Lib.hid (bx_59.out.turned tt_70.out (by omega))
  clear bx_59
  have bb_77 := Lib.hid (C.Below.far bb_66.out tt_70.out)
  clear tt_70 bb_66
  clear hb
  have fo_78 := Lib.hid ho
  clear ho hq1 hq2
  obtain ⟨cl_79, cl_80, cl_81⟩ := ff_75.out.cells
  have cq_82 := ff_75.out.lt
  obtain ⟨cl_83, cl_84, cl_85⟩ := ff_76.out.cells
  have cq_86 := ff_76.out.lt
  go_wp2_with fail
  refine (C.eqInts_any W6 (W5.heap.size) (W6.heap.size) (W2.heap.size) (W3.heap.size) r_68 r_31 r_69 r_32 (M.ncntW m0 a1 a2) (by omega) fo_78.out.row ff_73.out.row).mono ?_
  rintro e W7 ⟨rfl, nd_87, hW7⟩
  have hb : Below W6.heap.size W6 W7 := by rw [hW7]; exact C.below_drawn _ _
  clear hW7
  clear cl_79 cl_80 cl_81 cq_82 cl_83 cl_84 cl_85 cq_86
  have tt_88 := Lib.hid (C.Turned.of_below hb 0 0)
  have zz_89 := tt_88.out.size
  have ff_90 := Lib.hid (ff_72.out.turned tt_88.out (by omega) (by omega))
  clear ff_72
  have ff_91 := Lib.hid (ff_73.out.turned tt_88.out (by omega) (by omega))
  clear ff_73
  have ff_92 := Lib.hid (ff_74.out.turned tt_88.out (by omega) (by omega))
  clear ff_74
  have ff_93 := Lib.hid (fo_78.out.turned tt_88.out (by omega) (by omega))
  clear fo_78
  have ff_94 := Lib.hid (ff_75.out.turned tt_88.out (by omega))
  clear ff_75
  have ff_95 := Lib.hid (ff_76.out.turned tt_88.out (by omega))
  clear ff_76
  have bb_96 := Lib.hid (C.Below.far bb_77.out tt_88.out)
  clear tt_88 bb_77
  clear hb
  obtain ⟨cl_97, cl_98, cl_99⟩ := ff_94.out.cells
  have cq_100 := ff_94.out.lt
  obtain ⟨cl_101, cl_102, cl_103⟩ := ff_95.out.cells
  have cq_104 := ff_95.out.lt
  go_upto_region 10 with fail
  go_cut [53] (fun sl wx => sl = .bool false ∧ Below W7.heap.size W7 wx)
  case first =>
    go_region_with (first | (go_at_call 17; refine (C.toMaze_any W7.drew 0 w.heap.size m0 a0 b0 c0 d0 (ff_90.out.turned (C.Turned.of_below (Below.refl W7.heap.size W7).drew 0 0) (by omega) (by omega)) (show w.heap.size ≤ W7.heap.size by omega) (by omega) (by omega)).mono ?_; rintro e w2 ⟨t_105, t_106, t_107, t_108, rfl, ho, hb⟩; have hbq : Below W7.heap.size W7 w2 := (Below.refl W7.heap.size W7).drew.trans hb; have hzq := hbq.size; obtain ⟨cm_109, cm_110, cm_111⟩ := (ff_94.out.turned (C.Turned.of_below hbq 0 0) (by omega)).cells; obtain ⟨cm_112, cm_113, cm_114⟩ := (ff_95.out.turned (C.Turned.of_below hbq 0 0) (by omega)).cells) | (go_at_call 20; refine (C.eqMaze_any w2 (W3.heap.size) (W4.heap.size) _ _ m0 _ _ _ _ _ _ _ _ (C.MzOwn.mz (C.MzOwn.turned ff_92.out (C.Turned.of_below hbq 0 0) (by omega) (by omega))) ho.mz (by omega) (Nat.le_refl _) (by omega) (by omega)).mono ?_; rintro e w3 ⟨rfl, hb3⟩))
    all_goals (go_wp2_with fail; go_meet; exact ⟨rfl, C.Below.more hbq hb3⟩)
  case rest =>
    obtain ⟨rfl, hb⟩ := hcut
    obtain ⟨W8, rfl⟩ : ∃ W, W = wc := ⟨_, rfl⟩
    clear cl_97 cl_98 cl_99 cq_100 cl_101 cl_102 cl_103 cq_104
    have tt_115 := Lib.hid (C.Turned.of_below hb 0 0)
    have zz_116 := tt_115.out.size
    have ff_117 := Lib.hid (ff_90.out.turned tt_115.out (by omega) (by omega))
    clear ff_90
    have ff_118 := Lib.hid (ff_91.out.turned tt_115.out (by omega) (by omega))
    clear ff_91
    have ff_119 := Lib.hid (ff_92.out.turned tt_115.out (by omega) (by omega))
    clear ff_92
    have ff_120 := Lib.hid (ff_93.out.turned tt_115.out (by omega) (by omega))
    clear ff_93
    have ff_121 := Lib.hid (ff_94.out.turned tt_115.out (by omega))
    clear ff_94
    have ff_122 := Lib.hid (ff_95.out.turned tt_115.out (by omega))
    clear ff_95
    have bb_123 := Lib.hid (C.Below.far bb_96.out tt_115.out)
    clear tt_115 bb_96
    clear hb
    obtain ⟨cl_124, cl_125, cl_126⟩ := ff_121.out.cells
    have cq_127 := ff_121.out.lt
    obtain ⟨cl_128, cl_129, cl_130⟩ := ff_122.out.cells
    have cq_131 := ff_122.out.lt
    go_wp2_with fail
    refine (C.markMaze_any W8 (W3.heap.size) (W4.heap.size) m0 t_44 t_46 t_45 t_47 (1) ff_119.out (by omega) (by omega) (by omega) (by omega)).mono ?_
    rintro e W9 ⟨rfl, hm, ht⟩
    have fm_132 := Lib.hid hm
    clear hm
    clear ff_119
    clear cl_124 cl_125 cl_126 cq_127 cl_128 cl_129 cl_130 cq_131
    have tt_133 := Lib.hid (ht)
    have zz_134 := tt_133.out.size
    have ff_135 := Lib.hid (ff_117.out.turned tt_133.out (by omega) (by omega))
    clear ff_117
    have ff_136 := Lib.hid (ff_118.out.turned tt_133.out (by omega) (by omega))
    clear ff_118
    have ff_137 := Lib.hid (ff_120.out.turned tt_133.out (by omega) (by omega))
    clear ff_120
    have ff_138 := Lib.hid (ff_121.out.turned tt_133.out (by omega))
    clear ff_121
    have ff_139 := Lib.hid (ff_122.out.turned tt_133.out (by omega))
    clear ff_122
    have bb_140 := Lib.hid (C.Below.thenTurned bb_123.out tt_133.out (by omega) (by omega))
    clear tt_133 bb_123
    clear ht
    obtain ⟨cl_141, cl_142, cl_143⟩ := ff_138.out.cells
    have cq_144 := ff_138.out.lt
    obtain ⟨cl_145, cl_146, cl_147⟩ := ff_139.out.cells
    have cq_148 := ff_139.out.lt
    clear fm_132
    go_wp2_with fail
    refine (C.eqInts_any W9 (W5.heap.size) (W6.heap.size) (W2.heap.size) (W3.heap.size) r_68 r_31 r_69 r_32 (M.ncntW m0 a1 a2) (by omega) ff_137.out.row ff_136.out.row).mono ?_
    rintro e W10 ⟨rfl, nd_149, hW10⟩
    have hb : Below W9.heap.size W9 W10 := by rw [hW10]; exact C.below_drawn _ _
    clear hW10
    clear cl_141 cl_142 cl_143 cq_144 cl_145 cl_146 cl_147 cq_148
    have tt_150 := Lib.hid (C.Turned.of_below hb 0 0)
    have zz_151 := tt_150.out.size
    have ff_152 := Lib.hid (ff_135.out.turned tt_150.out (by omega) (by omega))
    clear ff_135
    have ff_153 := Lib.hid (ff_136.out.turned tt_150.out (by omega) (by omega))
    clear ff_136
    have ff_154 := Lib.hid (ff_137.out.turned tt_150.out (by omega) (by omega))
    clear ff_137
    have ff_155 := Lib.hid (ff_138.out.turned tt_150.out (by omega))
    clear ff_138
    have ff_156 := Lib.hid (ff_139.out.turned tt_150.out (by omega))
    clear ff_139
    have bb_157 := Lib.hid (C.Below.far bb_140.out tt_150.out)
    clear tt_150 bb_140
    clear hb
    obtain ⟨cl_158, cl_159, cl_160⟩ := ff_155.out.cells
    have cq_161 := ff_155.out.lt
    obtain ⟨cl_162, cl_163, cl_164⟩ := ff_156.out.cells
    have cq_165 := ff_156.out.lt
    go_wp2_with fail
    refine (C.markIntsT_any W10 (W5.heap.size) (W6.heap.size) r_68 r_69 (M.ncntW m0 a1 a2).length (1) _ (M.encIs_len _) (by omega) (by omega) ff_154.out).mono ?_
    rintro e W11 ⟨rfl, hm, ht⟩
    have fm_166 := Lib.hid hm
    clear hm
    clear ff_154
    clear cl_158 cl_159 cl_160 cq_161 cl_162 cl_163 cl_164 cq_165
    have tt_167 := Lib.hid (ht)
    have zz_168 := tt_167.out.size
    have ff_169 := Lib.hid (ff_152.out.turned tt_167.out (by omega) (by omega))
    clear ff_152
    have ff_170 := Lib.hid (ff_153.out.turned tt_167.out (by omega) (by omega))
    clear ff_153
    have ff_171 := Lib.hid (ff_155.out.turned tt_167.out (by omega))
    clear ff_155
    have ff_172 := Lib.hid (ff_156.out.turned tt_167.out (by omega))
    clear ff_156
    have bb_173 := Lib.hid (C.Below.thenTurned bb_157.out tt_167.out (by omega) (by omega))
    clear tt_167 bb_157
    clear ht
    obtain ⟨cl_174, cl_175, cl_176⟩ := ff_171.out.cells
    have cq_177 := ff_171.out.lt
    obtain ⟨cl_178, cl_179, cl_180⟩ := ff_172.out.cells
    have cq_181 := ff_172.out.lt
    go_wp2_with fail
    refine (C.heldInts_any W11 (W5.heap.size) (W6.heap.size) r_68 r_69 (M.ncntW m0 a1 a2).length 1 (by omega) (by omega) fm_166.out.row).mono ?_
    rintro e W11 ⟨rfl, rfl⟩
    go_wp2_with fail
    refine (C.toMaze_any W11 0 w.heap.size m0 a0 b0 c0 d0 ff_169.out (by omega) (by omega) (by omega)).mono ?_
    rintro e W13 ⟨t_182, t_183, t_184, t_185, rfl, ho, hb⟩
    clear cl_174 cl_175 cl_176 cq_177 cl_178 cl_179 cl_180 cq_181
    have tt_186 := Lib.hid (C.Turned.of_below hb 0 0)
    have zz_187 := tt_186.out.size
    have ff_188 := Lib.hid (ff_169.out.turned tt_186.out (by omega) (by omega))
    clear ff_169
    have ff_189 := Lib.hid (ff_170.out.turned tt_186.out (by omega) (by omega))
    clear ff_170
    have ff_190 := Lib.hid (fm_166.out.turned tt_186.out (by omega) (by omega))
    clear fm_166
    have ff_191 := Lib.hid (ff_171.out.turned tt_186.out (by omega))
    clear ff_171
    have ff_192 := Lib.hid (ff_172.out.turned tt_186.out (by omega))
    clear ff_172
    have bb_193 := Lib.hid (C.Below.far bb_173.out tt_186.out)
    clear tt_186 bb_173
    clear hb
    have fo_194 := Lib.hid ho
    clear ho
    obtain ⟨cl_195, cl_196, cl_197⟩ := ff_191.out.cells
    have cq_198 := ff_191.out.lt
    obtain ⟨cl_199, cl_200, cl_201⟩ := ff_192.out.cells
    have cq_202 := ff_192.out.lt
    go_wp2_with fail
    refine (C.implNode_lw W13 (W11.heap.size) (W13.heap.size) m0 t_182 t_184 t_183 t_185 fo_194.out.mz (by omega) (by omega) (by omega) a1 (by omega) (by omega) a2 (by omega) (by omega)).mono ?_
    rintro e W14 ⟨t_203, r_204, r_205, rfl, ho, hq1, hq2, hb⟩
    clear cl_195 cl_196 cl_197 cq_198 cl_199 cl_200 cl_201 cq_202
    have tt_206 := Lib.hid (C.Turned.of_below hb 0 0)
    have zz_207 := tt_206.out.size
    have ff_208 := Lib.hid (ff_188.out.turned tt_206.out (by omega) (by omega))
    clear ff_188
    have ff_209 := Lib.hid (ff_189.out.turned tt_206.out (by omega) (by omega))
    clear ff_189
    have ff_210 := Lib.hid (ff_190.out.turned tt_206.out (by omega) (by omega))
    clear ff_190
    have ff_211 := Lib.hid (fo_194.out.turned tt_206.out (by omega) (by omega))
    clear fo_194
    have ff_212 := Lib.hid (ff_191.out.turned tt_206.out (by omega))
    clear ff_191
    have ff_213 := Lib.hid (ff_192.out.turned tt_206.out (by omega))
    clear ff_192
    have bb_214 := Lib.hid (C.Below.far bb_193.out tt_206.out)
    clear tt_206 bb_193
    clear hb
    have fo_215 := Lib.hid ho
    clear ho hq1 hq2
    obtain ⟨cl_216, cl_217, cl_218⟩ := ff_212.out.cells
    have cq_219 := ff_212.out.lt
    obtain ⟨cl_220, cl_221, cl_222⟩ := ff_213.out.cells
    have cq_223 := ff_213.out.lt
    clear ff_211
    go_wp2_with fail
    refine (C.eqInts_any W14 (W13.heap.size) (W14.heap.size) (W2.heap.size) (W3.heap.size) r_204 r_31 r_205 r_32 (M.ncntW m0 a1 a2) (by omega) fo_215.out.row ff_209.out.row).mono ?_
    rintro e W15 ⟨rfl, nd_224, hW15⟩
    have hb : Below W14.heap.size W14 W15 := by rw [hW15]; exact C.below_drawn _ _
    clear hW15
    clear cl_216 cl_217 cl_218 cq_219 cl_220 cl_221 cl_222 cq_223
    have tt_225 := Lib.hid (C.Turned.of_below hb 0 0)
    have zz_226 := tt_225.out.size
    have ff_227 := Lib.hid (ff_208.out.turned tt_225.out (by omega) (by omega))
    clear ff_208
    have ff_228 := Lib.hid (ff_209.out.turned tt_225.out (by omega) (by omega))
    clear ff_209
    have ff_229 := Lib.hid (ff_210.out.turned tt_225.out (by omega) (by omega))
    clear ff_210
    have ff_230 := Lib.hid (fo_215.out.turned tt_225.out (by omega) (by omega))
    clear fo_215
    have ff_231 := Lib.hid (ff_212.out.turned tt_225.out (by omega))
    clear ff_212
    have ff_232 := Lib.hid (ff_213.out.turned tt_225.out (by omega))
    clear ff_213
    have bb_233 := Lib.hid (C.Below.far bb_214.out tt_225.out)
    clear tt_225 bb_214
    clear hb
    obtain ⟨cl_234, cl_235, cl_236⟩ := ff_231.out.cells
    have cq_237 := ff_231.out.lt
    obtain ⟨cl_238, cl_239, cl_240⟩ := ff_232.out.cells
    have cq_241 := ff_232.out.lt
    go_wp2_with fail
    refine (C.heldInts_any W15 (W5.heap.size) (W6.heap.size) r_68 r_69 (M.ncntW m0 a1 a2).length 1 (by omega) (by omega) ff_229.out.row).mono ?_
    rintro e W15 ⟨rfl, rfl⟩
    go_wp2_with fail
    go_ret
    exact ⟨rfl, bb_233.out⟩


set_option maxRecDepth 100000 in
theorem lifted (os : Os) (started : os.Started) (H : Type) (enc : TypeId × Value → H) :
    ReturnsInHanded {} Try.checked os 10 .any (Rows.fnExactNodeCountsSpec.pre6 enc Try.prog Try.f10 Rows.fnExactNodeCountsRow.domain false) (Rows.fnExactNodeCountsSpec.post enc Try.prog Try.f10 false true false false) := by
  refine returnsInHanded_of_change (C := Try.checked) P.own started (by kernel_rfl) Try.func10
    (ChangeSpec.witness6 (enc := enc) (C := Try.checked) false ⟨#[], #[.agg #[.int .i64 0, .slice none 0 0, .slice none 0 0], .int .i64 0, .int .i64 0], []⟩ 8 (by kernel_rfl) (by kernel_rfl) (by kernel_rfl) (by kernel_rfl)) ?_
  intro W base args ds gs before hval0 hW hcnd _
  have hval : ∀ (j : Nat) t v, Try.f10.params[j]? = some t → args[j]? = some v → Value.okWide Try.prog W .any base t v := hval0
  have hW' := hW
  obtain ⟨p, q, hA0, hV, rfl, hfz, hnd⟩ := hW
  have hA : DataW.TrodAll enc Try.prog W 0 (fun _ => true) true Try.f10.params.toList args.toList ds p := hA0
  rw [Try.params10] at hA hval
  obtain ⟨v0, vs0, d0, ds0, p0, q0, hargs, rfl, rfl, h0, r0⟩ := trodAll_cons hA
  obtain ⟨v1, vs1, d1, ds1, p1, q1, rfl, rfl, rfl, h1, r1⟩ := trodAll_cons r0
  obtain ⟨v2, vs2, d2, ds2, p2, q2, rfl, rfl, rfl, h2, r2⟩ := trodAll_cons r1
  obtain ⟨rfl, rfl, rfl⟩ := trodAll_nil r2
  obtain rfl : args = #[v0, v1, v2] := by cases args; simp_all
  obtain ⟨rfl, rfl⟩ := trodVars_none hV
  have k0 := h0
  have lt0 : ∀ x ∈ p0, x.block < W.heap.size := by obtain ⟨m, hm⟩ := k0; exact DataW.trod_lt m _ _ _ hm
  obtain ⟨m0, a0, c0, b0, e0, rfl, w0⟩ := C.open_maze (hval 0 25 v0 rfl rfl) h0
  obtain ⟨a1, rfl, rfl, rfl, w1⟩ := open_int Try.underlying3 (hval 1 3 v1 rfl rfl) h1
  obtain ⟨a2, rfl, rfl, rfl, w2⟩ := open_int Try.underlying3 (hval 2 3 v2 rfl rfl) h2
  clear hA0 hval0
  refine (walk W m0 a0 c0 b0 e0 w0 a1 w1 a2 w2).mono fun e W' ⟨he, hb⟩ => ?_
  subst he
  exact ⟨_, rfl, _, _, _, [], _, [], hW', trodAll_mk1 (shut_bool Try.underlying4 _), (trodAll_cons_mk (Below.trod P.laidOut (by kernel_rfl) (of_decide_eq_true (by kernel_rfl)) k0 hb lt0) (trodAll_cons_mk (shut_int Try.underlying3 w1) (trodAll_cons_mk (shut_int Try.underlying3 w2) trodAll_mk0))), rfl, hb.frame _, fun h => by cases h⟩

theorem closed : joinedFacts Try.pinned.checked.prog 10 Try.f10 Rows.fnExactNodeCountsSpec Rows.fnExactNodeCountsRow = true := by
  show joinedFacts Try.prog 10 Try.f10 Rows.fnExactNodeCountsSpec Rows.fnExactNodeCountsRow = true
  unfold joinedFacts
  rw [P.cloEnter, P.cloMake, P.cloLift]
  kernel_rfl
theorem proved : Rows.FnExactNodeCountsSaid :=
  OpenClaim.holds_of_wide 10 Try.f10 rfl rfl rfl rfl rfl rfl rfl ⟨rfl, rfl, rfl, rfl, rfl⟩ rfl rfl rfl rfl rfl (by kernel_rfl) Try.func10 closed
    (of_decide_eq_true (by kernel_rfl)) (by unfold Func.isWrapper; first | (rw [if_pos (by decide +kernel)]; kernel_rfl) | (rw [if_neg (by decide +kernel)]; exact ⟨rfl, rfl⟩))
    (fun os started H enc _ => lifted os started H enc)
#print axioms proved
end Go.Proofs.Ytddpjjdncmokmaa.fnExactNodeCounts
