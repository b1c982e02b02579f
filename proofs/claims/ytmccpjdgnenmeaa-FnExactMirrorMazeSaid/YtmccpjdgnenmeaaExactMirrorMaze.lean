/-
  PROVED: for every maze aM the law laws.FnExactMirrorMaze returns true, that is, impl.MirrorMaze answers as the model does, in memory of its own at each call; its argument reads afterwards as before. Conditions: none.
-/
import Derived.Test.YtmccpjdgnenmeaaRows
import Derived.Test.YtmccpjdgnenmeaaOpen
import Derived.Test.YtmccpjdgnenmeaaMaz2
import Derived.Test.YtmccpjdgnenmeaaMir
import Derived.WalkKit
import Derived.ProofKit
import Derived.OpenShut
import Derived.ShutString
import Derived.Deep.RegionWith
import Derived.Deep.DeepCutAuto
namespace Go.Proofs.Ytmccpjdgnenmeaa.fnExactMirrorMaze
open Go.ChangeShapes Go.WideShapes Go.ChangeAt Go.RowKit
open Go.ChangeMaps (open_string shut_string)
set_option linter.unusedVariables false

set_option maxHeartbeats 4000000 in
set_option maxRecDepth 100000 in
theorem walk (w : World) (m0 : M.Mz) (a0 : Option Addr) (c0 : Nat) (b0 : Option Addr) (d0 : Nat) (w0 : C.MzIn 0 w.heap.size w m0 a0 c0 b0 d0) :
    Calls Try.prog 4 #[(.agg #[.int .i64 m0.size, .slice a0 m0.doors.length c0, .slice b0 m0.keys.length d0])] w fun e w' => e = .returned (.bool true) ∧ Below w.heap.size w w' := by
  have y0 := Nat.le_trans w0.c1 w0.c2
  have z0 := Nat.le_trans w0.d1 w0.d2
  have x0 := Lib.hid w0
  clear w0
  by_cases s0 : 1048576 < m0.doors.length + m0.keys.length
  · go_enter Try.func4, Try.ntmps4
    have bb_1 := Lib.hid (Below.refl w.heap.size w)
    go_wp2_with fail
    refine C.named ?_
    intro W0 hW0
    have kW0 : Below w.heap.size w W0 := by rw [hW0]; exact (by (repeat (first | exact Below.refl _ _ | (refine Below.alloc ?_ (by first | omega | (simp; done) | (simp; omega)) _))))
    have bx_2p : C.Box3 W0 (w.heap.size) 40 (.int .i64 m0.size) (.slice a0 m0.doors.length c0) (.slice b0 m0.keys.length d0) := by rw [hW0]; exact C.Box3.new _ _ _ _ (by simp)
    have bx_2q := bx_2p.lt
    have bx_2 := Lib.hid bx_2p
    clear bx_2p
    clear hW0
    have tt_3 := Lib.hid (C.Turned.of_below kW0 0 0)
    have zz_4 := tt_3.out.size
    have ff_5 := Lib.hid (x0.out.turned tt_3.out (by omega) (by omega))
    clear x0
    have bb_6 := Lib.hid (C.Below.far bb_1.out tt_3.out)
    clear tt_3 bb_1
    clear kW0
    refine (C.szMaze_any W0 m0 a0 b0 c0 d0 (1048576) (by omega) (by omega) (by omega) (by omega)).mono ?_
    rintro e W1 ⟨rfl, hb⟩
    have tt_7 := Lib.hid (C.Turned.of_below hb 0 0)
    have zz_8 := tt_7.out.size
    have ff_9 := Lib.hid (ff_5.out.turned tt_7.out (by omega) (by omega))
    clear ff_5
    have ff_10 := Lib.hid (bx_2.out.turned tt_7.out (by omega))
    clear bx_2
    have bb_11 := Lib.hid (C.Below.far bb_6.out tt_7.out)
    clear tt_7 bb_6
    clear hb
    rw [if_pos (by omega)]
    obtain ⟨cl_12, cl_13, cl_14⟩ := ff_10.out.cells
    have cq_15 := ff_10.out.lt
    go_wp2_with fail
    go_ret
    exact ⟨rfl, bb_11.out⟩
  go_enter Try.func4, Try.ntmps4
  have bb_1 := Lib.hid (Below.refl w.heap.size w)
  go_wp2_with fail
  refine C.named ?_
  intro W0 hW0
  have kW0 : Below w.heap.size w W0 := by rw [hW0]; exact (by (repeat (first | exact Below.refl _ _ | (refine Below.alloc ?_ (by first | omega | (simp; done) | (simp; omega)) _))))
  have bx_2p : C.Box3 W0 (w.heap.size) 40 (.int .i64 m0.size) (.slice a0 m0.doors.length c0) (.slice b0 m0.keys.length d0) := by rw [hW0]; exact C.Box3.new _ _ _ _ (by simp)
  have bx_2q := bx_2p.lt
  have bx_2 := Lib.hid bx_2p
  clear bx_2p
  clear hW0
  have tt_3 := Lib.hid (C.Turned.of_below kW0 0 0)
  have zz_4 := tt_3.out.size
  have ff_5 := Lib.hid (x0.out.turned tt_3.out (by omega) (by omega))
  clear x0
  have bb_6 := Lib.hid (C.Below.far bb_1.out tt_3.out)
  clear tt_3 bb_1
  clear kW0
  refine (C.szMaze_any W0 m0 a0 b0 c0 d0 (1048576) (by omega) (by omega) (by omega) (by omega)).mono ?_
  rintro e W1 ⟨rfl, hb⟩
  have tt_7 := Lib.hid (C.Turned.of_below hb 0 0)
  have zz_8 := tt_7.out.size
  have ff_9 := Lib.hid (ff_5.out.turned tt_7.out (by omega) (by omega))
  clear ff_5
  have ff_10 := Lib.hid (bx_2.out.turned tt_7.out (by omega))
  clear bx_2
  have bb_11 := Lib.hid (C.Below.far bb_6.out tt_7.out)
  clear tt_7 bb_6
  clear hb
  rw [if_neg (by omega)]
  obtain ⟨cl_12, cl_13, cl_14⟩ := ff_10.out.cells
  have cq_15 := ff_10.out.lt
  have hbd : (M.mirV m0).doors.length ≤ 1048576 ∧ (M.mirV m0).keys.length ≤ 1048576 := M.mirV_len _
  obtain ⟨hbd1, hbd2⟩ := hbd
  go_wp2_with fail
  refine (C.toMaze_any W1 0 w.heap.size m0 a0 b0 c0 d0 ff_9.out (by omega) (by omega) (by omega)).mono ?_
  rintro e W2 ⟨t_16, t_17, t_18, t_19, rfl, ho, hb⟩
  clear cl_12 cl_13 cl_14 cq_15
  have tt_20 := Lib.hid (C.Turned.of_below hb 0 0)
  have zz_21 := tt_20.out.size
  have ff_22 := Lib.hid (ff_9.out.turned tt_20.out (by omega) (by omega))
  clear ff_9
  have ff_23 := Lib.hid (ff_10.out.turned tt_20.out (by omega))
  clear ff_10
  have bb_24 := Lib.hid (C.Below.far bb_11.out tt_20.out)
  clear tt_20 bb_11
  clear hb
  have fo_25 := Lib.hid ho
  clear ho
  obtain ⟨cl_26, cl_27, cl_28⟩ := ff_23.out.cells
  have cq_29 := ff_23.out.lt
  go_wp2_with fail
  refine (C.specMir_lw W2 (W1.heap.size) (W2.heap.size) m0 t_16 t_18 t_17 t_19 fo_25.out.mz (by omega) (by omega) (by omega)).mono ?_
  rintro e W3 ⟨r_30, r_31, r_32, r_33, rfl, ho, hb⟩
  clear cl_26 cl_27 cl_28 cq_29
  have tt_34 := Lib.hid (C.Turned.of_below hb 0 0)
  have zz_35 := tt_34.out.size
  have ff_36 := Lib.hid (ff_22.out.turned tt_34.out (by omega) (by omega))
  clear ff_22
  have ff_37 := Lib.hid (fo_25.out.turned tt_34.out (by omega) (by omega))
  clear fo_25
  have ff_38 := Lib.hid (ff_23.out.turned tt_34.out (by omega))
  clear ff_23
  have bb_39 := Lib.hid (C.Below.far bb_24.out tt_34.out)
  clear tt_34 bb_24
  clear hb
  have fo_40 := Lib.hid ho
  clear ho
  obtain ⟨cl_41, cl_42, cl_43⟩ := ff_38.out.cells
  have cq_44 := ff_38.out.lt
  clear ff_37
  go_wp2_with fail
  refine C.named ?_
  intro W4 hW4
  have kW4 : Below W3.heap.size W3 W4 := by rw [hW4]; exact (by (repeat (first | exact Below.refl _ _ | (refine Below.alloc ?_ (by first | omega | (simp; done) | (simp; omega)) _))))
  have bx_45p : C.Box3 W4 (W3.heap.size) 27 (.int .i64 (M.mirV m0).size) (.slice r_30 (M.mirV m0).doors.length r_31) (.slice r_32 (M.mirV m0).keys.length r_33) := by rw [hW4]; exact C.Box3.new _ _ _ _ (by simp)
  have bx_45q := bx_45p.lt
  have bx_45 := Lib.hid bx_45p
  clear bx_45p
  clear hW4
  clear cl_41 cl_42 cl_43 cq_44
  have tt_46 := Lib.hid (C.Turned.of_below kW4 0 0)
  have zz_47 := tt_46.out.size
  have ff_48 := Lib.hid (ff_36.out.turned tt_46.out (by omega) (by omega))
  clear ff_36
  have ff_49 := Lib.hid (fo_40.out.turned tt_46.out (by omega) (by omega))
  clear fo_40
  have ff_50 := Lib.hid (ff_38.out.turned tt_46.out (by omega))
  clear ff_38
  have bb_51 := Lib.hid (C.Below.far bb_39.out tt_46.out)
  clear tt_46 bb_39
  clear kW4
  refine (C.toMaze_any W4 0 w.heap.size m0 a0 b0 c0 d0 ff_48.out (by omega) (by omega) (by omega)).mono ?_
  rintro e W5 ⟨t_52, t_53, t_54, t_55, rfl, ho, hb⟩
  have tt_56 := Lib.hid (C.Turned.of_below hb 0 0)
  have zz_57 := tt_56.out.size
  have ff_58 := Lib.hid (ff_48.out.turned tt_56.out (by omega) (by omega))
  clear ff_48
  have ff_59 := Lib.hid (ff_49.out.turned tt_56.out (by omega) (by omega))
  clear ff_49
  have ff_60 := Lib.hid (ff_50.out.turned tt_56.out (by omega))
  clear ff_50
  have ff_61 := Lib.hid (bx_45.out.turned tt_56.out (by omega))
  clear bx_45
  have bb_62 := Lib.hid (C.Below.far bb_51.out tt_56.out)
  clear tt_56 bb_51
  clear hb
  have fo_63 := Lib.hid ho
  clear ho
  obtain ⟨cl_64, cl_65, cl_66⟩ := ff_60.out.cells
  have cq_67 := ff_60.out.lt
  obtain ⟨cl_68, cl_69, cl_70⟩ := ff_61.out.cells
  have cq_71 := ff_61.out.lt
  go_wp2_with fail
  refine C.named ?_
  intro W6 hW6
  have kW6 : Below W5.heap.size W5 W6 := by rw [hW6]; exact (by (repeat (first | exact Below.refl _ _ | (refine Below.alloc ?_ (by first | omega | (simp; done) | (simp; omega)) _))))
  have bx_72p : C.Box3 W6 (W5.heap.size) 27 (.int .i64 m0.size) (.slice t_52 m0.doors.length t_53) (.slice t_54 m0.keys.length t_55) := by rw [hW6]; exact C.Box3.new _ _ _ _ (by simp)
  have bx_72q := bx_72p.lt
  have bx_72 := Lib.hid bx_72p
  clear bx_72p
  clear hW6
  clear cl_64 cl_65 cl_66 cq_67 cl_68 cl_69 cl_70 cq_71
  have tt_73 := Lib.hid (C.Turned.of_below kW6 0 0)
  have zz_74 := tt_73.out.size
  have ff_75 := Lib.hid (ff_58.out.turned tt_73.out (by omega) (by omega))
  clear ff_58
  have ff_76 := Lib.hid (ff_59.out.turned tt_73.out (by omega) (by omega))
  clear ff_59
  have ff_77 := Lib.hid (fo_63.out.turned tt_73.out (by omega) (by omega))
  clear fo_63
  have ff_78 := Lib.hid (ff_60.out.turned tt_73.out (by omega))
  clear ff_60
  have ff_79 := Lib.hid (ff_61.out.turned tt_73.out (by omega))
  clear ff_61
  have bb_80 := Lib.hid (C.Below.far bb_62.out tt_73.out)
  clear tt_73 bb_62
  clear kW6
  refine (C.implMir_lw W6 (W4.heap.size) (W5.heap.size) m0 t_52 t_54 t_53 t_55 ff_77.out.mz (by omega) (by omega) (by omega)).mono ?_
  rintro e W7 ⟨r_81, r_82, r_83, r_84, rfl, ho, hb⟩
  have tt_85 := Lib.hid (C.Turned.of_below hb 0 0)
  have zz_86 := tt_85.out.size
  have ff_87 := Lib.hid (ff_75.out.turned tt_85.out (by omega) (by omega))
  clear ff_75
  have ff_88 := Lib.hid (ff_76.out.turned tt_85.out (by omega) (by omega))
  clear ff_76
  have ff_89 := Lib.hid (ff_77.out.turned tt_85.out (by omega) (by omega))
  clear ff_77
  have ff_90 := Lib.hid (ff_78.out.turned tt_85.out (by omega))
  clear ff_78
  have ff_91 := Lib.hid (ff_79.out.turned tt_85.out (by omega))
  clear ff_79
  have ff_92 := Lib.hid (bx_72.out.turned tt_85.out (by omega))
  clear bx_72
  have bb_93 := Lib.hid (C.Below.far bb_80.out tt_85.out)
  clear tt_85 bb_80
  clear hb
  have fo_94 := Lib.hid ho
  clear ho
  obtain ⟨cl_95, cl_96, cl_97⟩ := ff_90.out.cells
  have cq_98 := ff_90.out.lt
  obtain ⟨cl_99, cl_100, cl_101⟩ := ff_91.out.cells
  have cq_102 := ff_91.out.lt
  obtain ⟨cl_103, cl_104, cl_105⟩ := ff_92.out.cells
  have cq_106 := ff_92.out.lt
  go_wp2_with fail
  refine C.named ?_
  intro W8 hW8
  have kW8 : Below W7.heap.size W7 W8 := by rw [hW8]; exact (by (repeat (first | exact Below.refl _ _ | (refine Below.alloc ?_ (by first | omega | (simp; done) | (simp; omega)) _))))
  have bx_107p : C.Box3 W8 (W7.heap.size) 27 (.int .i64 (M.mirV m0).size) (.slice r_81 (M.mirV m0).doors.length r_82) (.slice r_83 (M.mirV m0).keys.length r_84) := by rw [hW8]; exact C.Box3.new _ _ _ _ (by simp)
  have bx_107q := bx_107p.lt
  have bx_107 := Lib.hid bx_107p
  clear bx_107p
  clear hW8
  clear cl_95 cl_96 cl_97 cq_98 cl_99 cl_100 cl_101 cq_102 cl_103 cl_104 cl_105 cq_106
  have tt_108 := Lib.hid (C.Turned.of_below kW8 0 0)
  have zz_109 := tt_108.out.size
  have ff_110 := Lib.hid (ff_87.out.turned tt_108.out (by omega) (by omega))
  clear ff_87
  have ff_111 := Lib.hid (ff_88.out.turned tt_108.out (by omega) (by omega))
  clear ff_88
  have ff_112 := Lib.hid (ff_89.out.turned tt_108.out (by omega) (by omega))
  clear ff_89
  have ff_113 := Lib.hid (fo_94.out.turned tt_108.out (by omega) (by omega))
  clear fo_94
  have ff_114 := Lib.hid (ff_90.out.turned tt_108.out (by omega))
  clear ff_90
  have ff_115 := Lib.hid (ff_91.out.turned tt_108.out (by omega))
  clear ff_91
  have ff_116 := Lib.hid (ff_92.out.turned tt_108.out (by omega))
  clear ff_92
  have bb_117 := Lib.hid (C.Below.far bb_93.out tt_108.out)
  clear tt_108 bb_93
  clear kW8
  refine (C.eqMaze_any W8 (W6.heap.size) (W7.heap.size) (W2.heap.size) (W3.heap.size) (M.mirV m0) r_81 r_83 r_30 r_32 r_82 r_84 r_31 r_33 ff_113.out.mz ff_111.out.mz (by omega) (by omega) (by omega) (by omega)).mono ?_
  rintro e W9 ⟨rfl, hb⟩
  have tt_118 := Lib.hid (C.Turned.of_below hb 0 0)
  have zz_119 := tt_118.out.size
  have ff_120 := Lib.hid (ff_110.out.turned tt_118.out (by omega) (by omega))
  clear ff_110
  have ff_121 := Lib.hid (ff_111.out.turned tt_118.out (by omega) (by omega))
  clear ff_111
  have ff_122 := Lib.hid (ff_112.out.turned tt_118.out (by omega) (by omega))
  clear ff_112
  have ff_123 := Lib.hid (ff_113.out.turned tt_118.out (by omega) (by omega))
  clear ff_113
  have ff_124 := Lib.hid (ff_114.out.turned tt_118.out (by omega))
  clear ff_114
  have ff_125 := Lib.hid (ff_115.out.turned tt_118.out (by omega))
  clear ff_115
  have ff_126 := Lib.hid (ff_116.out.turned tt_118.out (by omega))
  clear ff_116
  have ff_127 := Lib.hid (bx_107.out.turned tt_118.out (by omega))
  clear bx_107
  have bb_128 := Lib.hid (C.Below.far bb_117.out tt_118.out)
  clear tt_118 bb_117
  clear hb
  obtain ⟨cl_129, cl_130, cl_131⟩ := ff_124.out.cells
  have cq_132 := ff_124.out.lt
  obtain ⟨cl_133, cl_134, cl_135⟩ := ff_125.out.cells
  have cq_136 := ff_125.out.lt
  obtain ⟨cl_137, cl_138, cl_139⟩ := ff_126.out.cells
  have cq_140 := ff_126.out.lt
  obtain ⟨cl_141, cl_142, cl_143⟩ := ff_127.out.cells
  have cq_144 := ff_127.out.lt
  go_upto_region 10 with fail
  go_cut [45] (fun sl wx => sl = .bool false ∧ Below W9.heap.size W9 wx)
  case first =>
    go_region_with (first | (go_at_call 25; refine (C.toMaze_any W9.drew 0 w.heap.size m0 a0 b0 c0 d0 (ff_120.out.turned (C.Turned.of_below (Below.refl W9.heap.size W9).drew 0 0) (by omega) (by omega)) (show w.heap.size ≤ W9.heap.size by omega) (by omega) (by omega)).mono ?_; rintro e w2 ⟨t_145, t_146, t_147, t_148, rfl, ho, hb⟩; have hbq : Below W9.heap.size W9 w2 := (Below.refl W9.heap.size W9).drew.trans hb; have hzq := hbq.size; obtain ⟨cm_149, cm_150, cm_151⟩ := (ff_124.out.turned (C.Turned.of_below hbq 0 0) (by omega)).cells; obtain ⟨cm_152, cm_153, cm_154⟩ := (ff_125.out.turned (C.Turned.of_below hbq 0 0) (by omega)).cells; obtain ⟨cm_155, cm_156, cm_157⟩ := (ff_126.out.turned (C.Turned.of_below hbq 0 0) (by omega)).cells; obtain ⟨cm_158, cm_159, cm_160⟩ := (ff_127.out.turned (C.Turned.of_below hbq 0 0) (by omega)).cells) | (go_at_call 27; refine (C.eqMaze_any w2 (W4.heap.size) (W5.heap.size) _ _ m0 _ _ _ _ _ _ _ _ (C.MzOwn.mz (C.MzOwn.turned ff_122.out (C.Turned.of_below hbq 0 0) (by omega) (by omega))) ho.mz (by omega) (Nat.le_refl _) (by omega) (by omega)).mono ?_; rintro e w3 ⟨rfl, hb3⟩))
    all_goals (go_wp2_with fail; go_meet; exact ⟨rfl, C.Below.more hbq hb3⟩)
  case rest =>
    obtain ⟨rfl, hb⟩ := hcut
    clear cl_129 cl_130 cl_131 cq_132 cl_133 cl_134 cl_135 cq_136 cl_137 cl_138 cl_139 cq_140 cl_141 cl_142 cl_143 cq_144
    have tt_161 := Lib.hid (C.Turned.of_below hb 0 0)
    have zz_162 := tt_161.out.size
    have ff_163 := Lib.hid (ff_120.out.turned tt_161.out (by omega) (by omega))
    clear ff_120
    have ff_164 := Lib.hid (ff_121.out.turned tt_161.out (by omega) (by omega))
    clear ff_121
    have ff_165 := Lib.hid (ff_122.out.turned tt_161.out (by omega) (by omega))
    clear ff_122
    have ff_166 := Lib.hid (ff_123.out.turned tt_161.out (by omega) (by omega))
    clear ff_123
    have ff_167 := Lib.hid (ff_124.out.turned tt_161.out (by omega))
    clear ff_124
    have ff_168 := Lib.hid (ff_125.out.turned tt_161.out (by omega))
    clear ff_125
    have ff_169 := Lib.hid (ff_126.out.turned tt_161.out (by omega))
    clear ff_126
    have ff_170 := Lib.hid (ff_127.out.turned tt_161.out (by omega))
    clear ff_127
    have bb_171 := Lib.hid (C.Below.far bb_128.out tt_161.out)
    clear tt_161 bb_128
    clear hb
    obtain ⟨cl_172, cl_173, cl_174⟩ := ff_167.out.cells
    have cq_175 := ff_167.out.lt
    obtain ⟨cl_176, cl_177, cl_178⟩ := ff_168.out.cells
    have cq_179 := ff_168.out.lt
    obtain ⟨cl_180, cl_181, cl_182⟩ := ff_169.out.cells
    have cq_183 := ff_169.out.lt
    obtain ⟨cl_184, cl_185, cl_186⟩ := ff_170.out.cells
    have cq_187 := ff_170.out.lt
    go_wp2_with fail
    refine (C.markMaze_any wc (W4.heap.size) (W5.heap.size) m0 t_52 t_54 t_53 t_55 (1) ff_165.out (by omega) (by omega) (by omega) (by omega)).mono ?_
    rintro e W11 ⟨rfl, hm, ht⟩
    have fm_188 := Lib.hid hm
    clear hm
    clear ff_165
    clear cl_172 cl_173 cl_174 cq_175 cl_176 cl_177 cl_178 cq_179 cl_180 cl_181 cl_182 cq_183 cl_184 cl_185 cl_186 cq_187
    have tt_189 := Lib.hid (ht)
    have zz_190 := tt_189.out.size
    have ff_191 := Lib.hid (ff_163.out.turned tt_189.out (by omega) (by omega))
    clear ff_163
    have ff_192 := Lib.hid (ff_164.out.turned tt_189.out (by omega) (by omega))
    clear ff_164
    have ff_193 := Lib.hid (ff_166.out.turned tt_189.out (by omega) (by omega))
    clear ff_166
    have ff_194 := Lib.hid (ff_167.out.turned tt_189.out (by omega))
    clear ff_167
    have ff_195 := Lib.hid (ff_168.out.turned tt_189.out (by omega))
    clear ff_168
    have ff_196 := Lib.hid (ff_169.out.turned tt_189.out (by omega))
    clear ff_169
    have ff_197 := Lib.hid (ff_170.out.turned tt_189.out (by omega))
    clear ff_170
    have bb_198 := Lib.hid (C.Below.thenTurned bb_171.out tt_189.out (by omega) (by omega))
    clear tt_189 bb_171
    clear ht
    obtain ⟨cl_199, cl_200, cl_201⟩ := ff_194.out.cells
    have cq_202 := ff_194.out.lt
    obtain ⟨cl_203, cl_204, cl_205⟩ := ff_195.out.cells
    have cq_206 := ff_195.out.lt
    obtain ⟨cl_207, cl_208, cl_209⟩ := ff_196.out.cells
    have cq_210 := ff_196.out.lt
    obtain ⟨cl_211, cl_212, cl_213⟩ := ff_197.out.cells
    have cq_214 := ff_197.out.lt
    clear fm_188
    go_wp2_with fail
    refine (C.eqMaze_any W11 (W6.heap.size) (W7.heap.size) (W2.heap.size) (W3.heap.size) (M.mirV m0) r_81 r_83 r_30 r_32 r_82 r_84 r_31 r_33 ff_193.out.mz ff_192.out.mz (by omega) (by omega) (by omega) (by omega)).mono ?_
    rintro e W12 ⟨rfl, hb⟩
    clear cl_199 cl_200 cl_201 cq_202 cl_203 cl_204 cl_205 cq_206 cl_207 cl_208 cl_209 cq_210 cl_211 cl_212 cl_213 cq_214
    have tt_215 := Lib.hid (C.Turned.of_below hb 0 0)
    have zz_216 := tt_215.out.size
    have ff_217 := Lib.hid (ff_191.out.turned tt_215.out (by omega) (by omega))
    clear ff_191
    have ff_218 := Lib.hid (ff_192.out.turned tt_215.out (by omega) (by omega))
    clear ff_192
    have ff_219 := Lib.hid (ff_193.out.turned tt_215.out (by omega) (by omega))
    clear ff_193
    have ff_220 := Lib.hid (ff_194.out.turned tt_215.out (by omega))
    clear ff_194
    have ff_221 := Lib.hid (ff_195.out.turned tt_215.out (by omega))
    clear ff_195
    have ff_222 := Lib.hid (ff_196.out.turned tt_215.out (by omega))
    clear ff_196
    have ff_223 := Lib.hid (ff_197.out.turned tt_215.out (by omega))
    clear ff_197
    have bb_224 := Lib.hid (C.Below.far bb_198.out tt_215.out)
    clear tt_215 bb_198
    clear hb
    obtain ⟨cl_225, cl_226, cl_227⟩ := ff_220.out.cells
    have cq_228 := ff_220.out.lt
    obtain ⟨cl_229, cl_230, cl_231⟩ := ff_221.out.cells
    have cq_232 := ff_221.out.lt
    obtain ⟨cl_233, cl_234, cl_235⟩ := ff_222.out.cells
    have cq_236 := ff_222.out.lt
    obtain ⟨cl_237, cl_238, cl_239⟩ := ff_223.out.cells
    have cq_240 := ff_223.out.lt
    go_wp2_with fail
    refine (C.markMaze_any W12 (W6.heap.size) (W7.heap.size) (M.mirV m0) r_81 r_83 r_82 r_84 (1) ff_219.out (by omega) (by omega) (by omega) (by omega)).mono ?_
    rintro e W13 ⟨rfl, hm, ht⟩
    have fm_241 := Lib.hid hm
    clear hm
    clear ff_219
    clear cl_225 cl_226 cl_227 cq_228 cl_229 cl_230 cl_231 cq_232 cl_233 cl_234 cl_235 cq_236 cl_237 cl_238 cl_239 cq_240
    have tt_242 := Lib.hid (ht)
    have zz_243 := tt_242.out.size
    have ff_244 := Lib.hid (ff_217.out.turned tt_242.out (by omega) (by omega))
    clear ff_217
    have ff_245 := Lib.hid (ff_218.out.turned tt_242.out (by omega) (by omega))
    clear ff_218
    have ff_246 := Lib.hid (ff_220.out.turned tt_242.out (by omega))
    clear ff_220
    have ff_247 := Lib.hid (ff_221.out.turned tt_242.out (by omega))
    clear ff_221
    have ff_248 := Lib.hid (ff_222.out.turned tt_242.out (by omega))
    clear ff_222
    have ff_249 := Lib.hid (ff_223.out.turned tt_242.out (by omega))
    clear ff_223
    have bb_250 := Lib.hid (C.Below.thenTurned bb_224.out tt_242.out (by omega) (by omega))
    clear tt_242 bb_224
    clear ht
    obtain ⟨cl_251, cl_252, cl_253⟩ := ff_246.out.cells
    have cq_254 := ff_246.out.lt
    obtain ⟨cl_255, cl_256, cl_257⟩ := ff_247.out.cells
    have cq_258 := ff_247.out.lt
    obtain ⟨cl_259, cl_260, cl_261⟩ := ff_248.out.cells
    have cq_262 := ff_248.out.lt
    obtain ⟨cl_263, cl_264, cl_265⟩ := ff_249.out.cells
    have cq_266 := ff_249.out.lt
    go_wp2_with fail
    refine (C.heldMaze_any W13 (W6.heap.size) (W7.heap.size) (M.mirV m0).size (M.mirV m0).doors.length (M.mirV m0).keys.length r_81 r_83 r_82 r_84 1 fm_241.out (by omega) (by omega) (by omega) (by omega)).mono ?_
    rintro e W14 ⟨rfl, hb⟩
    clear cl_251 cl_252 cl_253 cq_254 cl_255 cl_256 cl_257 cq_258 cl_259 cl_260 cl_261 cq_262 cl_263 cl_264 cl_265 cq_266
    have tt_267 := Lib.hid (C.Turned.of_below hb 0 0)
    have zz_268 := tt_267.out.size
    have ff_269 := Lib.hid (ff_244.out.turned tt_267.out (by omega) (by omega))
    clear ff_244
    have ff_270 := Lib.hid (ff_245.out.turned tt_267.out (by omega) (by omega))
    clear ff_245
    have ff_271 := Lib.hid (fm_241.out.turned tt_267.out (by omega) (by omega))
    clear fm_241
    have ff_272 := Lib.hid (ff_246.out.turned tt_267.out (by omega))
    clear ff_246
    have ff_273 := Lib.hid (ff_247.out.turned tt_267.out (by omega))
    clear ff_247
    have ff_274 := Lib.hid (ff_248.out.turned tt_267.out (by omega))
    clear ff_248
    have ff_275 := Lib.hid (ff_249.out.turned tt_267.out (by omega))
    clear ff_249
    have bb_276 := Lib.hid (C.Below.far bb_250.out tt_267.out)
    clear tt_267 bb_250
    clear hb
    obtain ⟨cl_277, cl_278, cl_279⟩ := ff_272.out.cells
    have cq_280 := ff_272.out.lt
    obtain ⟨cl_281, cl_282, cl_283⟩ := ff_273.out.cells
    have cq_284 := ff_273.out.lt
    obtain ⟨cl_285, cl_286, cl_287⟩ := ff_274.out.cells
    have cq_288 := ff_274.out.lt
    obtain ⟨cl_289, cl_290, cl_291⟩ := ff_275.out.cells
    have cq_292 := ff_275.out.lt
    go_wp2_with fail
    refine (C.toMaze_any W14 0 w.heap.size m0 a0 b0 c0 d0 ff_269.out (by omega) (by omega) (by omega)).mono ?_
    rintro e W15 ⟨t_293, t_294, t_295, t_296, rfl, ho, hb⟩
    clear cl_277 cl_278 cl_279 cq_280 cl_281 cl_282 cl_283 cq_284 cl_285 cl_286 cl_287 cq_288 cl_289 cl_290 cl_291 cq_292
    have tt_297 := Lib.hid (C.Turned.of_below hb 0 0)
    have zz_298 := tt_297.out.size
    have ff_299 := Lib.hid (ff_269.out.turned tt_297.out (by omega) (by omega))
    clear ff_269
    have ff_300 := Lib.hid (ff_270.out.turned tt_297.out (by omega) (by omega))
    clear ff_270
    have ff_301 := Lib.hid (ff_271.out.turned tt_297.out (by omega) (by omega))
    clear ff_271
    have ff_302 := Lib.hid (ff_272.out.turned tt_297.out (by omega))
    clear ff_272
    have ff_303 := Lib.hid (ff_273.out.turned tt_297.out (by omega))
    clear ff_273
    have ff_304 := Lib.hid (ff_274.out.turned tt_297.out (by omega))
    clear ff_274
    have ff_305 := Lib.hid (ff_275.out.turned tt_297.out (by omega))
    clear ff_275
    have bb_306 := Lib.hid (C.Below.far bb_276.out tt_297.out)
    clear tt_297 bb_276
    clear hb
    have fo_307 := Lib.hid ho
    clear ho
    obtain ⟨cl_308, cl_309, cl_310⟩ := ff_302.out.cells
    have cq_311 := ff_302.out.lt
    obtain ⟨cl_312, cl_313, cl_314⟩ := ff_303.out.cells
    have cq_315 := ff_303.out.lt
    obtain ⟨cl_316, cl_317, cl_318⟩ := ff_304.out.cells
    have cq_319 := ff_304.out.lt
    obtain ⟨cl_320, cl_321, cl_322⟩ := ff_305.out.cells
    have cq_323 := ff_305.out.lt
    go_wp2_with fail
    refine (C.implMir_lw W15 (W14.heap.size) (W15.heap.size) m0 t_293 t_295 t_294 t_296 fo_307.out.mz (by omega) (by omega) (by omega)).mono ?_
    rintro e W16 ⟨r_324, r_325, r_326, r_327, rfl, ho, hb⟩
    clear cl_308 cl_309 cl_310 cq_311 cl_312 cl_313 cl_314 cq_315 cl_316 cl_317 cl_318 cq_319 cl_320 cl_321 cl_322 cq_323
    have tt_328 := Lib.hid (C.Turned.of_below hb 0 0)
    have zz_329 := tt_328.out.size
    have ff_330 := Lib.hid (ff_299.out.turned tt_328.out (by omega) (by omega))
    clear ff_299
    have ff_331 := Lib.hid (ff_300.out.turned tt_328.out (by omega) (by omega))
    clear ff_300
    have ff_332 := Lib.hid (ff_301.out.turned tt_328.out (by omega) (by omega))
    clear ff_301
    have ff_333 := Lib.hid (fo_307.out.turned tt_328.out (by omega) (by omega))
    clear fo_307
    have ff_334 := Lib.hid (ff_302.out.turned tt_328.out (by omega))
    clear ff_302
    have ff_335 := Lib.hid (ff_303.out.turned tt_328.out (by omega))
    clear ff_303
    have ff_336 := Lib.hid (ff_304.out.turned tt_328.out (by omega))
    clear ff_304
    have ff_337 := Lib.hid (ff_305.out.turned tt_328.out (by omega))
    clear ff_305
    have bb_338 := Lib.hid (C.Below.far bb_306.out tt_328.out)
    clear tt_328 bb_306
    clear hb
    have fo_339 := Lib.hid ho
    clear ho
    obtain ⟨cl_340, cl_341, cl_342⟩ := ff_334.out.cells
    have cq_343 := ff_334.out.lt
    obtain ⟨cl_344, cl_345, cl_346⟩ := ff_335.out.cells
    have cq_347 := ff_335.out.lt
    obtain ⟨cl_348, cl_349, cl_350⟩ := ff_336.out.cells
    have cq_351 := ff_336.out.lt
    obtain ⟨cl_352, cl_353, cl_354⟩ := ff_337.out.cells
    have cq_355 := ff_337.out.lt
    clear ff_333
    go_wp2_with fail
    refine C.named ?_
    intro W17 hW17
    have kW17 : Below W16.heap.size W16 W17 := by rw [hW17]; exact (by (repeat (first | exact Below.refl _ _ | (refine Below.alloc ?_ (by first | omega | (simp; done) | (simp; omega)) _))))
    have bx_356p : C.Box3 W17 (W16.heap.size) 27 (.int .i64 (M.mirV m0).size) (.slice r_324 (M.mirV m0).doors.length r_325) (.slice r_326 (M.mirV m0).keys.length r_327) := by rw [hW17]; exact C.Box3.new _ _ _ _ (by simp)
    have bx_356q := bx_356p.lt
    have bx_356 := Lib.hid bx_356p
    clear bx_356p
    clear hW17
    clear cl_340 cl_341 cl_342 cq_343 cl_344 cl_345 cl_346 cq_347 cl_348 cl_349 cl_350 cq_351 cl_352 cl_353 cl_354 cq_355
    have tt_357 := Lib.hid (C.Turned.of_below kW17 0 0)
    have zz_358 := tt_357.out.size
    have ff_359 := Lib.hid (ff_330.out.turned tt_357.out (by omega) (by omega))
    clear ff_330
    have ff_360 := Lib.hid (ff_331.out.turned tt_357.out (by omega) (by omega))
    clear ff_331
    have ff_361 := Lib.hid (ff_332.out.turned tt_357.out (by omega) (by omega))
    clear ff_332
    have ff_362 := Lib.hid (fo_339.out.turned tt_357.out (by omega) (by omega))
    clear fo_339
    have ff_363 := Lib.hid (ff_334.out.turned tt_357.out (by omega))
    clear ff_334
    have ff_364 := Lib.hid (ff_335.out.turned tt_357.out (by omega))
    clear ff_335
    have ff_365 := Lib.hid (ff_336.out.turned tt_357.out (by omega))
    clear ff_336
    have ff_366 := Lib.hid (ff_337.out.turned tt_357.out (by omega))
    clear ff_337
    have bb_367 := Lib.hid (C.Below.far bb_338.out tt_357.out)
    clear tt_357 bb_338
    clear kW17
    refine (C.eqMaze_any W17 (W15.heap.size) (W16.heap.size) (W2.heap.size) (W3.heap.size) (M.mirV m0) r_324 r_326 r_30 r_32 r_325 r_327 r_31 r_33 ff_362.out.mz ff_360.out.mz (by omega) (by omega) (by omega) (by omega)).mono ?_
    rintro e W18 ⟨rfl, hb⟩
    have tt_368 := Lib.hid (C.Turned.of_below hb 0 0)
    have zz_369 := tt_368.out.size
    have ff_370 := Lib.hid (ff_359.out.turned tt_368.out (by omega) (by omega))
    clear ff_359
    have ff_371 := Lib.hid (ff_360.out.turned tt_368.out (by omega) (by omega))
    clear ff_360
    have ff_372 := Lib.hid (ff_361.out.turned tt_368.out (by omega) (by omega))
    clear ff_361
    have ff_373 := Lib.hid (ff_362.out.turned tt_368.out (by omega) (by omega))
    clear ff_362
    have ff_374 := Lib.hid (ff_363.out.turned tt_368.out (by omega))
    clear ff_363
    have ff_375 := Lib.hid (ff_364.out.turned tt_368.out (by omega))
    clear ff_364
    have ff_376 := Lib.hid (ff_365.out.turned tt_368.out (by omega))
    clear ff_365
    have ff_377 := Lib.hid (ff_366.out.turned tt_368.out (by omega))
    clear ff_366
    have ff_378 := Lib.hid (bx_356.out.turned tt_368.out (by omega))
    clear bx_356
    have bb_379 := Lib.hid (C.Below.far bb_367.out tt_368.out)
    clear tt_368 bb_367
    clear hb
    obtain ⟨cl_380, cl_381, cl_382⟩ := ff_374.out.cells
    have cq_383 := ff_374.out.lt
    obtain ⟨cl_384, cl_385, cl_386⟩ := ff_375.out.cells
    have cq_387 := ff_375.out.lt
    obtain ⟨cl_388, cl_389, cl_390⟩ := ff_376.out.cells
    have cq_391 := ff_376.out.lt
    obtain ⟨cl_392, cl_393, cl_394⟩ := ff_377.out.cells
    have cq_395 := ff_377.out.lt
    obtain ⟨cl_396, cl_397, cl_398⟩ := ff_378.out.cells
    have cq_399 := ff_378.out.lt
    go_wp2_with fail
    refine (C.heldMaze_any W18 (W6.heap.size) (W7.heap.size) (M.mirV m0).size (M.mirV m0).doors.length (M.mirV m0).keys.length r_81 r_83 r_82 r_84 1 ff_372.out (by omega) (by omega) (by omega) (by omega)).mono ?_
    rintro e W19 ⟨rfl, hb⟩
    clear cl_380 cl_381 cl_382 cq_383 cl_384 cl_385 cl_386 cq_387 cl_388 cl_389 cl_390 cq_391 cl_392 cl_393 cl_394 cq_395 cl_396 cl_397 cl_398 cq_399
    have tt_400 := Lib.hid (C.Turned.of_below hb 0 0)
    have zz_401 := tt_400.out.size
    have ff_402 := Lib.hid (ff_370.out.turned tt_400.out (by omega) (by omega))
    clear ff_370
    have ff_403 := Lib.hid (ff_371.out.turned tt_400.out (by omega) (by omega))
    clear ff_371
    have ff_404 := Lib.hid (ff_372.out.turned tt_400.out (by omega) (by omega))
    clear ff_372
    have ff_405 := Lib.hid (ff_373.out.turned tt_400.out (by omega) (by omega))
    clear ff_373
    have ff_406 := Lib.hid (ff_374.out.turned tt_400.out (by omega))
    clear ff_374
    have ff_407 := Lib.hid (ff_375.out.turned tt_400.out (by omega))
    clear ff_375
    have ff_408 := Lib.hid (ff_376.out.turned tt_400.out (by omega))
    clear ff_376
    have ff_409 := Lib.hid (ff_377.out.turned tt_400.out (by omega))
    clear ff_377
    have ff_410 := Lib.hid (ff_378.out.turned tt_400.out (by omega))
    clear ff_378
    have bb_411 := Lib.hid (C.Below.far bb_379.out tt_400.out)
    clear tt_400 bb_379
    clear hb
    obtain ⟨cl_412, cl_413, cl_414⟩ := ff_406.out.cells
    have cq_415 := ff_406.out.lt
    obtain ⟨cl_416, cl_417, cl_418⟩ := ff_407.out.cells
    have cq_419 := ff_407.out.lt
    obtain ⟨cl_420, cl_421, cl_422⟩ := ff_408.out.cells
    have cq_423 := ff_408.out.lt
    obtain ⟨cl_424, cl_425, cl_426⟩ := ff_409.out.cells
    have cq_427 := ff_409.out.lt
    obtain ⟨cl_428, cl_429, cl_430⟩ := ff_410.out.cells
    have cq_431 := ff_410.out.lt
    go_wp2_with fail
    go_ret
    exact ⟨rfl, bb_411.out⟩


set_option maxRecDepth 100000 in
theorem lifted (os : Os) (started : os.Started) (H : Type) (enc : TypeId × Value → H) :
    ReturnsInHanded {} Try.checked os 4 .any (Rows.fnExactMirrorMazeSpec.pre6 enc Try.prog Try.f4 Rows.fnExactMirrorMazeRow.domain false) (Rows.fnExactMirrorMazeSpec.post enc Try.prog Try.f4 false true false false) := by
  refine returnsInHanded_of_change (C := Try.checked) P.own started (by kernel_rfl) Try.func4
    (ChangeSpec.witness6 (enc := enc) (C := Try.checked) false ⟨#[], #[.agg #[.int .i64 0, .slice none 0 0, .slice none 0 0]], []⟩ 8 (by kernel_rfl) (by kernel_rfl) (by kernel_rfl) (by kernel_rfl)) ?_
  intro W base args ds gs before hval0 hW hcnd _
  have hval : ∀ (j : Nat) t v, Try.f4.params[j]? = some t → args[j]? = some v → Value.okWide Try.prog W .any base t v := hval0
  have hW' := hW
  obtain ⟨p, q, hA0, hV, rfl, hfz, hnd⟩ := hW
  have hA : DataW.TrodAll enc Try.prog W 0 (fun _ => true) true Try.f4.params.toList args.toList ds p := hA0
  rw [Try.params4] at hA hval
  obtain ⟨v0, vs0, d0, ds0, p0, q0, hargs, rfl, rfl, h0, r0⟩ := trodAll_cons hA
  obtain ⟨rfl, rfl, rfl⟩ := trodAll_nil r0
  obtain rfl : args = #[v0] := by cases args; simp_all
  obtain ⟨rfl, rfl⟩ := trodVars_none hV
  have k0 := h0
  have lt0 : ∀ x ∈ p0, x.block < W.heap.size := by obtain ⟨m, hm⟩ := k0; exact DataW.trod_lt m _ _ _ hm
  obtain ⟨m0, a0, c0, b0, e0, rfl, w0⟩ := C.open_maze (hval 0 40 v0 rfl rfl) h0
  clear hA0 hval0
  refine (walk W m0 a0 c0 b0 e0 w0).mono fun e W' ⟨he, hb⟩ => ?_
  subst he
  exact ⟨_, rfl, _, _, _, [], _, [], hW', trodAll_mk1 (shut_bool Try.underlying4 _), (trodAll_cons_mk (Below.trod P.laidOut (by kernel_rfl) (of_decide_eq_true (by kernel_rfl)) k0 hb lt0) trodAll_mk0), rfl, hb.frame _, fun h => by cases h⟩

theorem proved : Rows.FnExactMirrorMazeSaid :=
  OpenClaim.holds_of_wide 4 Try.f4 rfl rfl rfl rfl rfl rfl rfl ⟨rfl, rfl, rfl, rfl, rfl⟩ rfl rfl rfl rfl rfl (by kernel_rfl) Try.func4 (by kernel_rfl)
    (of_decide_eq_true (by kernel_rfl)) (by unfold Func.isWrapper; first | (rw [if_pos (by decide +kernel)]; kernel_rfl) | (rw [if_neg (by decide +kernel)]; exact ⟨rfl, rfl⟩))
    (fun os started H enc _ => lifted os started H enc)
#print axioms proved
end Go.Proofs.Ytmccpjdgnenmeaa.fnExactMirrorMaze
