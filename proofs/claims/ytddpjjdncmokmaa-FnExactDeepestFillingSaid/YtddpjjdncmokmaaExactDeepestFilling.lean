/-
  PROVED: for every maze aM and every int aSet the law laws.FnExactDeepestFilling returns true, that is, impl.DeepestFilling answers as the model does, in memory of its own at each call; its arguments read afterwards as before. Conditions: none.
-/
import Derived.Test.YtddpjjdncmokmaaRows
import Derived.Test.YtddpjjdncmokmaaWAMem
import Derived.Test.YtddpjjdncmokmaaClo
import Derived.Test.YtddpjjdncmokmaaMaz2
import Derived.Test.YtddpjjdncmokmaaDpsS
import Derived.WalkKit
import Derived.ProofKit
import Derived.JoinedOf
import Derived.OpenShut
import Derived.ShutString
import Derived.Deep.RegionWith
import Derived.Deep.DeepCutAuto
namespace Go.Proofs.Ytddpjjdncmokmaa.fnExactDeepestFilling
open Go.ChangeShapes Go.WideShapes Go.ChangeAt Go.RowKit
open Go.ChangeMaps (open_string shut_string)
set_option linter.unusedVariables false

set_option maxHeartbeats 4000000 in
set_option maxRecDepth 100000 in
theorem walk (w : World) (m0 : M.Mz) (a0 : Option Addr) (c0 : Nat) (b0 : Option Addr) (d0 : Nat) (w0 : C.MzIn 0 w.heap.size w m0 a0 c0 b0 d0) (a1 : Int) (w1 : (Lit.int .i64 a1).wf = true) :
    Calls Try.prog 9 #[(.agg #[.int .i64 m0.size, .slice a0 m0.doors.length c0, .slice b0 m0.keys.length d0]), .int .i64 a1] w fun e w' => e = .returned (.bool true) ∧ Below w.heap.size w w' := by
  have wd1 := Go.bounds_i64 w1
  have y0 := Nat.le_trans w0.c1 w0.c2
  have z0 := Nat.le_trans w0.d1 w0.d2
  have x0 := Lib.hid w0
  clear w0
  by_cases s0 : 1048576 < m0.doors.length + m0.keys.length
  · go_enter Try.func9, Try.ntmps9
    have bb_1 := Lib.hid (Below.refl w.heap.size w)
    go_wp2_with fail
    refine C.named ?_
    intro W0 hW0
    have kW0 : Below w.heap.size w W0 := by rw [hW0]; exact (by (repeat (first | exact Below.refl _ _ | (refine Below.alloc ?_ (by first | omega | (simp; done) | (simp; omega)) _))))
    have bx_2p : C.Box3 W0 (w.heap.size) 25 (.int .i64 m0.size) (.slice a0 m0.doors.length c0) (.slice b0 m0.keys.length d0) := by rw [hW0]; exact C.Box3.new _ _ _ _ (by simp)
    have bx_2q := bx_2p.lt
    have bx_2 := Lib.hid bx_2p
    clear bx_2p
    clear hW0
    have tt_3 := Lib.hid (C.Turned.of_below kW0 0 0)
    have zz_4 := tt_3.out.size
    have ff_5 := Lib.hid (x0.out.turned tt_3.out (by omega) (by omega))
    clear x0
    have bb_6 := Lib.hid (C.Below.far bb_1.out tt_3.out)
    clear tt_3 bb_1
    clear kW0
    refine (C.szMaze_any W0 m0 a0 b0 c0 d0 (1048576) (by omega) (by omega) (by omega) (by omega)).mono ?_
    rintro e W1 ⟨rfl, hb⟩
    have tt_7 := Lib.hid (C.Turned.of_below hb 0 0)
    have zz_8 := tt_7.out.size
    have ff_9 := Lib.hid (ff_5.out.turned tt_7.out (by omega) (by omega))
    clear ff_5
    have ff_10 := Lib.hid (bx_2.out.turned tt_7.out (by omega))
    clear bx_2
    have bb_11 := Lib.hid (C.Below.far bb_6.out tt_7.out)
    clear tt_7 bb_6
    clear hb
    rw [if_pos (by omega)]
    obtain ⟨cl_12, cl_13, cl_14⟩ := ff_10.out.cells
    have cq_15 := ff_10.out.lt
    go_wp2_with fail
    go_ret
    exact ⟨rfl, bb_11.out⟩
  go_enter Try.func9, Try.ntmps9
  have bb_1 := Lib.hid (Below.refl w.heap.size w)
  go_wp2_with fail
  refine C.named ?_
  intro W0 hW0
  have kW0 : Below w.heap.size w W0 := by rw [hW0]; exact (by (repeat (first | exact Below.refl _ _ | (refine Below.alloc ?_ (by first | omega | (simp; done) | (simp; omega)) _))))
  have bx_2p : C.Box3 W0 (w.heap.size) 25 (.int .i64 m0.size) (.slice a0 m0.doors.length c0) (.slice b0 m0.keys.length d0) := by rw [hW0]; exact C.Box3.new _ _ _ _ (by simp)
  have bx_2q := bx_2p.lt
  have bx_2 := Lib.hid bx_2p
  clear bx_2p
  clear hW0
  have tt_3 := Lib.hid (C.Turned.of_below kW0 0 0)
  have zz_4 := tt_3.out.size
  have ff_5 := Lib.hid (x0.out.turned tt_3.out (by omega) (by omega))
  clear x0
  have bb_6 := Lib.hid (C.Below.far bb_1.out tt_3.out)
  clear tt_3 bb_1
  clear kW0
  refine (C.szMaze_any W0 m0 a0 b0 c0 d0 (1048576) (by omega) (by omega) (by omega) (by omega)).mono ?_
  rintro e W1 ⟨rfl, hb⟩
  have tt_7 := Lib.hid (C.Turned.of_below hb 0 0)
  have zz_8 := tt_7.out.size
  have ff_9 := Lib.hid (ff_5.out.turned tt_7.out (by omega) (by omega))
  clear ff_5
  have ff_10 := Lib.hid (bx_2.out.turned tt_7.out (by omega))
  clear bx_2
  have bb_11 := Lib.hid (C.Below.far bb_6.out tt_7.out)
  clear tt_7 bb_6
  clear hb
  rw [if_neg (by omega)]
  obtain ⟨cl_12, cl_13, cl_14⟩ := ff_10.out.cells
  have cq_15 := ff_10.out.lt
  have hbd : ((M.deepW m0 a1).1).length ≤ 1048576 := M.deepW_len _ _
  go_wp2_with fail
  refine (C.toMaze_any W1 0 w.heap.size m0 a0 b0 c0 d0 ff_9.out (by omega) (by omega) (by omega)).mono ?_
  rintro e W2 ⟨t_16, t_17, t_18, t_19, rfl, ho, hb⟩
  clear cl_12 cl_13 cl_14 cq_15
  have tt_20 := Lib.hid (C.Turned.of_below hb 0 0)
  have zz_21 := tt_20.out.size
  have ff_22 := Lib.hid (ff_9.out.turned tt_20.out (by omega) (by omega))
  clear ff_9
  have ff_23 := Lib.hid (ff_10.out.turned tt_20.out (by omega))
  clear ff_10
  have bb_24 := Lib.hid (C.Below.far bb_11.out tt_20.out)
  clear tt_20 bb_11
  clear hb
  have fo_25 := Lib.hid ho
  clear ho
  obtain ⟨cl_26, cl_27, cl_28⟩ := ff_23.out.cells
  have cq_29 := ff_23.out.lt
  go_wp2_with fail
  refine (C.specDeep_lw W2 (W1.heap.size) (W2.heap.size) m0 t_16 t_18 t_17 t_19 fo_25.out.mz (by omega) (by omega) (by omega) a1 (by omega) (by omega)).mono ?_
  rintro e W3 ⟨r_30, r_31, rfl, ho, hq1, hq2, hb⟩
  clear cl_26 cl_27 cl_28 cq_29
  have tt_32 := Lib.hid (C.Turned.of_below hb 0 0)
  have zz_33 := tt_32.out.size
  have ff_34 := Lib.hid (ff_22.out.turned tt_32.out (by omega) (by omega))
  clear ff_22
  have ff_35 := Lib.hid (fo_25.out.turned tt_32.out (by omega) (by omega))
  clear fo_25
  have ff_36 := Lib.hid (ff_23.out.turned tt_32.out (by omega))
  clear ff_23
  have bb_37 := Lib.hid (C.Below.far bb_24.out tt_32.out)
  clear tt_32 bb_24
  clear hb
  have fo_38 := Lib.hid ho
  clear ho hq1 hq2
  obtain ⟨cl_39, cl_40, cl_41⟩ := ff_36.out.cells
  have cq_42 := ff_36.out.lt
  clear ff_35
  go_wp2_with fail
  refine (C.toMaze_any W3 0 w.heap.size m0 a0 b0 c0 d0 ff_34.out (by omega) (by omega) (by omega)).mono ?_
  rintro e W4 ⟨t_43, t_44, t_45, t_46, rfl, ho, hb⟩
  clear cl_39 cl_40 cl_41 cq_42
  have tt_47 := Lib.hid (C.Turned.of_below hb 0 0)
  have zz_48 := tt_47.out.size
  have ff_49 := Lib.hid (ff_34.out.turned tt_47.out (by omega) (by omega))
  clear ff_34
  have ff_50 := Lib.hid (fo_38.out.turned tt_47.out (by omega) (by omega))
  clear fo_38
  have ff_51 := Lib.hid (ff_36.out.turned tt_47.out (by omega))
  clear ff_36
  have bb_52 := Lib.hid (C.Below.far bb_37.out tt_47.out)
  clear tt_47 bb_37
  clear hb
  have fo_53 := Lib.hid ho
  clear ho
  obtain ⟨cl_54, cl_55, cl_56⟩ := ff_51.out.cells
  have cq_57 := ff_51.out.lt
  go_wp2_with fail
  refine C.named ?_
  intro W5 hW5
  have kW5 : Below W4.heap.size W4 W5 := by rw [hW5]; exact (by (repeat (first | exact Below.refl _ _ | (refine Below.alloc ?_ (by first | omega | (simp; done) | (simp; omega)) _))))
  have bx_58p : C.Box3 W5 (W4.heap.size) 27 (.int .i64 m0.size) (.slice t_43 m0.doors.length t_44) (.slice t_45 m0.keys.length t_46) := by rw [hW5]; exact C.Box3.new _ _ _ _ (by simp)
  have bx_58q := bx_58p.lt
  have bx_58 := Lib.hid bx_58p
  clear bx_58p
  clear hW5
  clear cl_54 cl_55 cl_56 cq_57
  have tt_59 := Lib.hid (C.Turned.of_below kW5 0 0)
  have zz_60 := tt_59.out.size
  have ff_61 := Lib.hid (ff_49.out.turned tt_59.out (by omega) (by omega))
  clear ff_49
  have ff_62 := Lib.hid (ff_50.out.turned tt_59.out (by omega) (by omega))
  clear ff_50
  have ff_63 := Lib.hid (fo_53.out.turned tt_59.out (by omega) (by omega))
  clear fo_53
  have ff_64 := Lib.hid (ff_51.out.turned tt_59.out (by omega))
  clear ff_51
  have bb_65 := Lib.hid (C.Below.far bb_52.out tt_59.out)
  clear tt_59 bb_52
  clear kW5
  refine (C.implDeep_lw W5 (W3.heap.size) (W4.heap.size) m0 t_43 t_45 t_44 t_46 ff_63.out.mz (by omega) (by omega) (by omega) a1 (by omega) (by omega)).mono ?_
  rintro e W6 ⟨r_66, r_67, rfl, ho, hq1, hq2, hb⟩
  have tt_68 := Lib.hid (C.Turned.of_below hb 0 0)
  have zz_69 := tt_68.out.size
  have ff_70 := Lib.hid (ff_61.out.turned tt_68.out (by omega) (by omega))
  clear ff_61
  have ff_71 := Lib.hid (ff_62.out.turned tt_68.out (by omega) (by omega))
  clear ff_62
  have ff_72 := Lib.hid (ff_63.out.turned tt_68.out (by omega) (by omega))
  clear ff_63
  have ff_73 := Lib.hid (ff_64.out.turned tt_68.out (by omega))
  clear ff_64
  have ff_74 := Lib.hid (bx_58.out.turned tt_68.out (by omega))
  clear bx_58
  have bb_75 := Lib.hid (C.Below.far bb_65.out tt_68.out)
  clear tt_68 bb_65
  clear hb
  have fo_76 := Lib.hid ho
  clear ho hq1 hq2
  obtain ⟨cl_77, cl_78, cl_79⟩ := ff_73.out.cells
  have cq_80 := ff_73.out.lt
  obtain ⟨cl_81, cl_82, cl_83⟩ := ff_74.out.cells
  have cq_84 := ff_74.out.lt
  go_wp2_with fail
  refine (C.eqInts_any W6 (W5.heap.size) (W6.heap.size) (W2.heap.size) (W3.heap.size) r_66 r_30 r_67 r_31 ((M.deepW m0 a1).1) (by omega) fo_76.out.row ff_71.out.row).mono ?_
  rintro e W7 ⟨rfl, nd_85, hW7⟩
  have hb : Below W6.heap.size W6 W7 := by rw [hW7]; exact C.below_drawn _ _
  clear hW7
  clear cl_77 cl_78 cl_79 cq_80 cl_81 cl_82 cl_83 cq_84
  have tt_86 := Lib.hid (C.Turned.of_below hb 0 0)
  have zz_87 := tt_86.out.size
  have ff_88 := Lib.hid (ff_70.out.turned tt_86.out (by omega) (by omega))
  clear ff_70
  have ff_89 := Lib.hid (ff_71.out.turned tt_86.out (by omega) (by omega))
  clear ff_71
  have ff_90 := Lib.hid (ff_72.out.turned tt_86.out (by omega) (by omega))
  clear ff_72
  have ff_91 := Lib.hid (fo_76.out.turned tt_86.out (by omega) (by omega))
  clear fo_76
  have ff_92 := Lib.hid (ff_73.out.turned tt_86.out (by omega))
  clear ff_73
  have ff_93 := Lib.hid (ff_74.out.turned tt_86.out (by omega))
  clear ff_74
  have bb_94 := Lib.hid (C.Below.far bb_75.out tt_86.out)
  clear tt_86 bb_75
  clear hb
  obtain ⟨cl_95, cl_96, cl_97⟩ := ff_92.out.cells
  have cq_98 := ff_92.out.lt
  obtain ⟨cl_99, cl_100, cl_101⟩ := ff_93.out.cells
  have cq_102 := ff_93.out.lt
  go_upto_region 10 with fail
  go_cut [59] (fun sl wx => sl = .bool false ∧ Below W7.heap.size W7 wx)
  case first =>
    go_region_with (first | (go_at_call 17; refine (C.toMaze_any W7.drew 0 w.heap.size m0 a0 b0 c0 d0 (ff_88.out.turned (C.Turned.of_below (Below.refl W7.heap.size W7).drew 0 0) (by omega) (by omega)) (show w.heap.size ≤ W7.heap.size by omega) (by omega) (by omega)).mono ?_; rintro e w2 ⟨t_103, t_104, t_105, t_106, rfl, ho, hb⟩; have hbq : Below W7.heap.size W7 w2 := (Below.refl W7.heap.size W7).drew.trans hb; have hzq := hbq.size; obtain ⟨cm_107, cm_108, cm_109⟩ := (ff_92.out.turned (C.Turned.of_below hbq 0 0) (by omega)).cells; obtain ⟨cm_110, cm_111, cm_112⟩ := (ff_93.out.turned (C.Turned.of_below hbq 0 0) (by omega)).cells) | (go_at_call 20; refine (C.eqMaze_any w2 (W3.heap.size) (W4.heap.size) _ _ m0 _ _ _ _ _ _ _ _ (C.MzOwn.mz (C.MzOwn.turned ff_90.out (C.Turned.of_below hbq 0 0) (by omega) (by omega))) ho.mz (by omega) (Nat.le_refl _) (by omega) (by omega)).mono ?_; rintro e w3 ⟨rfl, hb3⟩))
    all_goals (go_wp2_with fail; go_meet; exact ⟨rfl, C.Below.more hbq hb3⟩)
  case rest =>
    obtain ⟨rfl, hb⟩ := hcut
    obtain ⟨W8, rfl⟩ : ∃ W, W = wc := ⟨_, rfl⟩
    clear cl_95 cl_96 cl_97 cq_98 cl_99 cl_100 cl_101 cq_102
    have tt_113 := Lib.hid (C.Turned.of_below hb 0 0)
    have zz_114 := tt_113.out.size
    have ff_115 := Lib.hid (ff_88.out.turned tt_113.out (by omega) (by omega))
    clear ff_88
    have ff_116 := Lib.hid (ff_89.out.turned tt_113.out (by omega) (by omega))
    clear ff_89
    have ff_117 := Lib.hid (ff_90.out.turned tt_113.out (by omega) (by omega))
    clear ff_90
    have ff_118 := Lib.hid (ff_91.out.turned tt_113.out (by omega) (by omega))
    clear ff_91
    have ff_119 := Lib.hid (ff_92.out.turned tt_113.out (by omega))
    clear ff_92
    have ff_120 := Lib.hid (ff_93.out.turned tt_113.out (by omega))
    clear ff_93
    have bb_121 := Lib.hid (C.Below.far bb_94.out tt_113.out)
    clear tt_113 bb_94
    clear hb
    obtain ⟨cl_122, cl_123, cl_124⟩ := ff_119.out.cells
    have cq_125 := ff_119.out.lt
    obtain ⟨cl_126, cl_127, cl_128⟩ := ff_120.out.cells
    have cq_129 := ff_120.out.lt
    go_wp2_with fail
    refine (C.markMaze_any W8 (W3.heap.size) (W4.heap.size) m0 t_43 t_45 t_44 t_46 (1) ff_117.out (by omega) (by omega) (by omega) (by omega)).mono ?_
    rintro e W9 ⟨rfl, hm, ht⟩
    have fm_130 := Lib.hid hm
    clear hm
    clear ff_117
    clear cl_122 cl_123 cl_124 cq_125 cl_126 cl_127 cl_128 cq_129
    have tt_131 := Lib.hid (ht)
    have zz_132 := tt_131.out.size
    have ff_133 := Lib.hid (ff_115.out.turned tt_131.out (by omega) (by omega))
    clear ff_115
    have ff_134 := Lib.hid (ff_116.out.turned tt_131.out (by omega) (by omega))
    clear ff_116
    have ff_135 := Lib.hid (ff_118.out.turned tt_131.out (by omega) (by omega))
    clear ff_118
    have ff_136 := Lib.hid (ff_119.out.turned tt_131.out (by omega))
    clear ff_119
    have ff_137 := Lib.hid (ff_120.out.turned tt_131.out (by omega))
    clear ff_120
    have bb_138 := Lib.hid (C.Below.thenTurned bb_121.out tt_131.out (by omega) (by omega))
    clear tt_131 bb_121
    clear ht
    obtain ⟨cl_139, cl_140, cl_141⟩ := ff_136.out.cells
    have cq_142 := ff_136.out.lt
    obtain ⟨cl_143, cl_144, cl_145⟩ := ff_137.out.cells
    have cq_146 := ff_137.out.lt
    clear fm_130
    go_wp2_with fail
    refine (C.eqInts_any W9 (W5.heap.size) (W6.heap.size) (W2.heap.size) (W3.heap.size) r_66 r_30 r_67 r_31 ((M.deepW m0 a1).1) (by omega) ff_135.out.row ff_134.out.row).mono ?_
    rintro e W10 ⟨rfl, nd_147, hW10⟩
    have hb : Below W9.heap.size W9 W10 := by rw [hW10]; exact C.below_drawn _ _
    clear hW10
    clear cl_139 cl_140 cl_141 cq_142 cl_143 cl_144 cl_145 cq_146
    have tt_148 := Lib.hid (C.Turned.of_below hb 0 0)
    have zz_149 := tt_148.out.size
    have ff_150 := Lib.hid (ff_133.out.turned tt_148.out (by omega) (by omega))
    clear ff_133
    have ff_151 := Lib.hid (ff_134.out.turned tt_148.out (by omega) (by omega))
    clear ff_134
    have ff_152 := Lib.hid (ff_135.out.turned tt_148.out (by omega) (by omega))
    clear ff_135
    have ff_153 := Lib.hid (ff_136.out.turned tt_148.out (by omega))
    clear ff_136
    have ff_154 := Lib.hid (ff_137.out.turned tt_148.out (by omega))
    clear ff_137
    have bb_155 := Lib.hid (C.Below.far bb_138.out tt_148.out)
    clear tt_148 bb_138
    clear hb
    obtain ⟨cl_156, cl_157, cl_158⟩ := ff_153.out.cells
    have cq_159 := ff_153.out.lt
    obtain ⟨cl_160, cl_161, cl_162⟩ := ff_154.out.cells
    have cq_163 := ff_154.out.lt
    go_wp2_with fail
    refine (C.markInts_any W10 (W5.heap.size) (W6.heap.size) r_66 r_67 ((M.deepW m0 a1).1).length (1) _ (M.encIs_len _) (by omega) (by omega) ff_152.out).mono ?_
    rintro e W11 ⟨rfl, hm, ht⟩
    have fm_164 := Lib.hid hm
    clear hm
    clear ff_152
    clear cl_156 cl_157 cl_158 cq_159 cl_160 cl_161 cl_162 cq_163
    have tt_165 := Lib.hid (ht)
    have zz_166 := tt_165.out.size
    have ff_167 := Lib.hid (ff_150.out.turned tt_165.out (by omega) (by omega))
    clear ff_150
    have ff_168 := Lib.hid (ff_151.out.turned tt_165.out (by omega) (by omega))
    clear ff_151
    have ff_169 := Lib.hid (ff_153.out.turned tt_165.out (by omega))
    clear ff_153
    have ff_170 := Lib.hid (ff_154.out.turned tt_165.out (by omega))
    clear ff_154
    have bb_171 := Lib.hid (C.Below.thenTurned bb_155.out tt_165.out (by omega) (by omega))
    clear tt_165 bb_155
    clear ht
    obtain ⟨cl_172, cl_173, cl_174⟩ := ff_169.out.cells
    have cq_175 := ff_169.out.lt
    obtain ⟨cl_176, cl_177, cl_178⟩ := ff_170.out.cells
    have cq_179 := ff_170.out.lt
    go_wp2_with fail
    refine (C.heldInts_any W11 (W5.heap.size) (W6.heap.size) r_66 r_67 ((M.deepW m0 a1).1).length 1 (by omega) (by omega) fm_164.out.row).mono ?_
    rintro e W11 ⟨rfl, rfl⟩
    go_wp2_with fail
    refine (C.toMaze_any W11 0 w.heap.size m0 a0 b0 c0 d0 ff_167.out (by omega) (by omega) (by omega)).mono ?_
    rintro e W13 ⟨t_180, t_181, t_182, t_183, rfl, ho, hb⟩
    clear cl_172 cl_173 cl_174 cq_175 cl_176 cl_177 cl_178 cq_179
    have tt_184 := Lib.hid (C.Turned.of_below hb 0 0)
    have zz_185 := tt_184.out.size
    have ff_186 := Lib.hid (ff_167.out.turned tt_184.out (by omega) (by omega))
    clear ff_167
    have ff_187 := Lib.hid (ff_168.out.turned tt_184.out (by omega) (by omega))
    clear ff_168
    have ff_188 := Lib.hid (fm_164.out.turned tt_184.out (by omega) (by omega))
    clear fm_164
    have ff_189 := Lib.hid (ff_169.out.turned tt_184.out (by omega))
    clear ff_169
    have ff_190 := Lib.hid (ff_170.out.turned tt_184.out (by omega))
    clear ff_170
    have bb_191 := Lib.hid (C.Below.far bb_171.out tt_184.out)
    clear tt_184 bb_171
    clear hb
    have fo_192 := Lib.hid ho
    clear ho
    obtain ⟨cl_193, cl_194, cl_195⟩ := ff_189.out.cells
    have cq_196 := ff_189.out.lt
    obtain ⟨cl_197, cl_198, cl_199⟩ := ff_190.out.cells
    have cq_200 := ff_190.out.lt
    go_wp2_with fail
    refine (C.implDeep_lw W13 (W11.heap.size) (W13.heap.size) m0 t_180 t_182 t_181 t_183 fo_192.out.mz (by omega) (by omega) (by omega) a1 (by omega) (by omega)).mono ?_
    rintro e W14 ⟨r_201, r_202, rfl, ho, hq1, hq2, hb⟩
    clear cl_193 cl_194 cl_195 cq_196 cl_197 cl_198 cl_199 cq_200
    have tt_203 := Lib.hid (C.Turned.of_below hb 0 0)
    have zz_204 := tt_203.out.size
    have ff_205 := Lib.hid (ff_186.out.turned tt_203.out (by omega) (by omega))
    clear ff_186
    have ff_206 := Lib.hid (ff_187.out.turned tt_203.out (by omega) (by omega))
    clear ff_187
    have ff_207 := Lib.hid (ff_188.out.turned tt_203.out (by omega) (by omega))
    clear ff_188
    have ff_208 := Lib.hid (fo_192.out.turned tt_203.out (by omega) (by omega))
    clear fo_192
    have ff_209 := Lib.hid (ff_189.out.turned tt_203.out (by omega))
    clear ff_189
    have ff_210 := Lib.hid (ff_190.out.turned tt_203.out (by omega))
    clear ff_190
    have bb_211 := Lib.hid (C.Below.far bb_191.out tt_203.out)
    clear tt_203 bb_191
    clear hb
    have fo_212 := Lib.hid ho
    clear ho hq1 hq2
    obtain ⟨cl_213, cl_214, cl_215⟩ := ff_209.out.cells
    have cq_216 := ff_209.out.lt
    obtain ⟨cl_217, cl_218, cl_219⟩ := ff_210.out.cells
    have cq_220 := ff_210.out.lt
    clear ff_208
    go_wp2_with fail
    refine (C.eqInts_any W14 (W13.heap.size) (W14.heap.size) (W2.heap.size) (W3.heap.size) r_201 r_30 r_202 r_31 ((M.deepW m0 a1).1) (by omega) fo_212.out.row ff_206.out.row).mono ?_
    rintro e W15 ⟨rfl, nd_221, hW15⟩
    have hb : Below W14.heap.size W14 W15 := by rw [hW15]; exact C.below_drawn _ _
    clear hW15
    clear cl_213 cl_214 cl_215 cq_216 cl_217 cl_218 cl_219 cq_220
    have tt_222 := Lib.hid (C.Turned.of_below hb 0 0)
    have zz_223 := tt_222.out.size
    have ff_224 := Lib.hid (ff_205.out.turned tt_222.out (by omega) (by omega))
    clear ff_205
    have ff_225 := Lib.hid (ff_206.out.turned tt_222.out (by omega) (by omega))
    clear ff_206
    have ff_226 := Lib.hid (ff_207.out.turned tt_222.out (by omega) (by omega))
    clear ff_207
    have ff_227 := Lib.hid (fo_212.out.turned tt_222.out (by omega) (by omega))
    clear fo_212
    have ff_228 := Lib.hid (ff_209.out.turned tt_222.out (by omega))
    clear ff_209
    have ff_229 := Lib.hid (ff_210.out.turned tt_222.out (by omega))
    clear ff_210
    have bb_230 := Lib.hid (C.Below.far bb_211.out tt_222.out)
    clear tt_222 bb_211
    clear hb
    obtain ⟨cl_231, cl_232, cl_233⟩ := ff_228.out.cells
    have cq_234 := ff_228.out.lt
    obtain ⟨cl_235, cl_236, cl_237⟩ := ff_229.out.cells
    have cq_238 := ff_229.out.lt
    go_wp2_with fail
    refine (C.heldInts_any W15 (W5.heap.size) (W6.heap.size) r_66 r_67 ((M.deepW m0 a1).1).length 1 (by omega) (by omega) ff_226.out.row).mono ?_
    rintro e W15 ⟨rfl, rfl⟩
    go_wp2_with fail
    go_ret
    exact ⟨rfl, bb_230.out⟩


set_option maxRecDepth 100000 in
theorem lifted (os : Os) (started : os.Started) (H : Type) (enc : TypeId × Value → H) :
    ReturnsInHanded {} Try.checked os 9 .any (Rows.fnExactDeepestFillingSpec.pre6 enc Try.prog Try.f9 Rows.fnExactDeepestFillingRow.domain false) (Rows.fnExactDeepestFillingSpec.post enc Try.prog Try.f9 false true false false) := by
  refine returnsInHanded_of_change (C := Try.checked) P.own started (by kernel_rfl) Try.func9
    (ChangeSpec.witness6 (enc := enc) (C := Try.checked) false ⟨#[], #[.agg #[.int .i64 0, .slice none 0 0, .slice none 0 0], .int .i64 0], []⟩ 8 (by kernel_rfl) (by kernel_rfl) (by kernel_rfl) (by kernel_rfl)) ?_
  intro W base args ds gs before hval0 hW hcnd _
  have hval : ∀ (j : Nat) t v, Try.f9.params[j]? = some t → args[j]? = some v → Value.okWide Try.prog W .any base t v := hval0
  have hW' := hW
  obtain ⟨p, q, hA0, hV, rfl, hfz, hnd⟩ := hW
  have hA : DataW.TrodAll enc Try.prog W 0 (fun _ => true) true Try.f9.params.toList args.toList ds p := hA0
  rw [Try.params9] at hA hval
  obtain ⟨v0, vs0, d0, ds0, p0, q0, hargs, rfl, rfl, h0, r0⟩ := trodAll_cons hA
  obtain ⟨v1, vs1, d1, ds1, p1, q1, rfl, rfl, rfl, h1, r1⟩ := trodAll_cons r0
  obtain ⟨rfl, rfl, rfl⟩ := trodAll_nil r1
  obtain rfl : args = #[v0, v1] := by cases args; simp_all
  obtain ⟨rfl, rfl⟩ := trodVars_none hV
  have k0 := h0
  have lt0 : ∀ x ∈ p0, x.block < W.heap.size := by obtain ⟨m, hm⟩ := k0; exact DataW.trod_lt m _ _ _ hm
  obtain ⟨m0, a0, c0, b0, e0, rfl, w0⟩ := C.open_maze (hval 0 25 v0 rfl rfl) h0
  obtain ⟨a1, rfl, rfl, rfl, w1⟩ := open_int Try.underlying3 (hval 1 3 v1 rfl rfl) h1
  clear hA0 hval0
  refine (walk W m0 a0 c0 b0 e0 w0 a1 w1).mono fun e W' ⟨he, hb⟩ => ?_
  subst he
  exact ⟨_, rfl, _, _, _, [], _, [], hW', trodAll_mk1 (shut_bool Try.underlying4 _), (trodAll_cons_mk (Below.trod P.laidOut (by kernel_rfl) (of_decide_eq_true (by kernel_rfl)) k0 hb lt0) (trodAll_cons_mk (shut_int Try.underlying3 w1) trodAll_mk0)), rfl, hb.frame _, fun h => by cases h⟩

theorem closed : joinedFacts Try.pinned.checked.prog 9 Try.f9 Rows.fnExactDeepestFillingSpec Rows.fnExactDeepestFillingRow = true := by
  show joinedFacts Try.prog 9 Try.f9 Rows.fnExactDeepestFillingSpec Rows.fnExactDeepestFillingRow = true
  unfold joinedFacts
  rw [P.cloEnter, P.cloMake, P.cloLift]
  kernel_rfl
theorem proved : Rows.FnExactDeepestFillingSaid :=
  OpenClaim.holds_of_wide 9 Try.f9 rfl rfl rfl rfl rfl rfl rfl ⟨rfl, rfl, rfl, rfl, rfl⟩ rfl rfl rfl rfl rfl (by kernel_rfl) Try.func9 closed
    (of_decide_eq_true (by kernel_rfl)) (by unfold Func.isWrapper; first | (rw [if_pos (by decide +kernel)]; kernel_rfl) | (rw [if_neg (by decide +kernel)]; exact ⟨rfl, rfl⟩))
    (fun os started H enc _ => lifted os started H enc)
#print axioms proved
end Go.Proofs.Ytddpjjdncmokmaa.fnExactDeepestFilling
