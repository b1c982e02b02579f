/-
  PROVED: for every maze aM and every int aX the law laws.FnExactDoorsAt returns true, that is, impl.DoorsAt answers as the model does, in memory of its own at each call; its argument reads afterwards as before. Conditions: none.
-/
import Derived.Test.YtkgjmddogcoemaaRows
import Derived.Test.YtkgjmddogcoemaaOpen
import Derived.Test.YtkgjmddogcoemaaMaz2
import Derived.Test.YtkgjmddogcoemaaDoorsAt
import Derived.WalkKit
import Derived.ProofKit
import Derived.OpenShut
import Derived.ShutString
import Derived.Deep.RegionWith
import Derived.Deep.DeepCutAuto
namespace Go.Proofs.Ytkgjmddogcoemaa.fnExactDoorsAt
open Go.ChangeShapes Go.WideShapes Go.ChangeAt Go.RowKit
open Go.ChangeMaps (open_string shut_string)
set_option linter.unusedVariables false

set_option maxHeartbeats 4000000 in
set_option maxRecDepth 100000 in
theorem walk (w : World) (m0 : M.Mz) (a0 : Option Addr) (c0 : Nat) (b0 : Option Addr) (d0 : Nat) (w0 : C.MzIn 0 w.heap.size w m0 a0 c0 b0 d0) (a1 : Int) (w1 : (Lit.int .i64 a1).wf = true) :
    Calls Try.prog 6 #[(.agg #[.int .i64 m0.size, .slice a0 m0.doors.length c0, .slice b0 m0.keys.length d0]), .int .i64 a1] w fun e w' => e = .returned (.bool true) ∧ Below w.heap.size w w' := by
  have wd1 := Go.bounds_i64 w1
  have y0 := Nat.le_trans w0.c1 w0.c2
  have z0 := Nat.le_trans w0.d1 w0.d2
  have x0 := Lib.hid w0
  clear w0
  by_cases s0 : 1048576 < m0.doors.length + m0.keys.length
  · go_enter Try.func6, Try.ntmps6
    have bb_1 := Lib.hid (Below.refl w.heap.size w)
    go_wp2_with fail
    refine C.named ?_
    intro W0 hW0
    have kW0 : Below w.heap.size w W0 := by rw [hW0]; exact (by (repeat (first | exact Below.refl _ _ | (refine Below.alloc ?_ (by first | omega | (simp; done) | (simp; omega)) _))))
    have bx_2p : C.Box3 W0 (w.heap.size) 30 (.int .i64 m0.size) (.slice a0 m0.doors.length c0) (.slice b0 m0.keys.length d0) := by rw [hW0]; exact C.Box3.new _ _ _ _ (by simp)
    have bx_2q := bx_2p.lt
    have bx_2 := Lib.hid bx_2p
    clear bx_2p
    clear hW0
    have tt_3 := Lib.hid (C.Turned.of_below kW0 0 0)
    have zz_4 := tt_3.out.size
    have ff_5 := Lib.hid (x0.out.turned tt_3.out (by omega) (by omega))
    clear x0
    have bb_6 := Lib.hid (C.Below.far bb_1.out tt_3.out)
    clear tt_3 bb_1
    clear kW0
    refine (C.szMaze_any W0 m0 a0 b0 c0 d0 (1048576) (by omega) (by omega) (by omega) (by omega)).mono ?_
    rintro e W1 ⟨rfl, hb⟩
    have tt_7 := Lib.hid (C.Turned.of_below hb 0 0)
    have zz_8 := tt_7.out.size
    have ff_9 := Lib.hid (ff_5.out.turned tt_7.out (by omega) (by omega))
    clear ff_5
    have ff_10 := Lib.hid (bx_2.out.turned tt_7.out (by omega))
    clear bx_2
    have bb_11 := Lib.hid (C.Below.far bb_6.out tt_7.out)
    clear tt_7 bb_6
    clear hb
    rw [if_pos (by omega)]
    obtain ⟨cl_12, cl_13, cl_14⟩ := ff_10.out.cells
    go_wp2_with fail
    go_ret
    exact ⟨rfl, bb_11.out⟩
  go_enter Try.func6, Try.ntmps6
  have bb_1 := Lib.hid (Below.refl w.heap.size w)
  go_wp2_with fail
  refine C.named ?_
  intro W0 hW0
  have kW0 : Below w.heap.size w W0 := by rw [hW0]; exact (by (repeat (first | exact Below.refl _ _ | (refine Below.alloc ?_ (by first | omega | (simp; done) | (simp; omega)) _))))
  have bx_2p : C.Box3 W0 (w.heap.size) 30 (.int .i64 m0.size) (.slice a0 m0.doors.length c0) (.slice b0 m0.keys.length d0) := by rw [hW0]; exact C.Box3.new _ _ _ _ (by simp)
  have bx_2q := bx_2p.lt
  have bx_2 := Lib.hid bx_2p
  clear bx_2p
  clear hW0
  have tt_3 := Lib.hid (C.Turned.of_below kW0 0 0)
  have zz_4 := tt_3.out.size
  have ff_5 := Lib.hid (x0.out.turned tt_3.out (by omega) (by omega))
  clear x0
  have bb_6 := Lib.hid (C.Below.far bb_1.out tt_3.out)
  clear tt_3 bb_1
  clear kW0
  refine (C.szMaze_any W0 m0 a0 b0 c0 d0 (1048576) (by omega) (by omega) (by omega) (by omega)).mono ?_
  rintro e W1 ⟨rfl, hb⟩
  have tt_7 := Lib.hid (C.Turned.of_below hb 0 0)
  have zz_8 := tt_7.out.size
  have ff_9 := Lib.hid (ff_5.out.turned tt_7.out (by omega) (by omega))
  clear ff_5
  have ff_10 := Lib.hid (bx_2.out.turned tt_7.out (by omega))
  clear bx_2
  have bb_11 := Lib.hid (C.Below.far bb_6.out tt_7.out)
  clear tt_7 bb_6
  clear hb
  rw [if_neg (by omega)]
  obtain ⟨cl_12, cl_13, cl_14⟩ := ff_10.out.cells
  have hbd : (M.doorsAtV m0 a1).length ≤ 1048576 := M.doorsAtV_len _ _
  go_wp2_with fail
  refine (C.toMaze_any W1 0 w.heap.size m0 a0 b0 c0 d0 ff_9.out (by omega) (by omega) (by omega)).mono ?_
  rintro e W2 ⟨t_15, t_16, t_17, t_18, rfl, ho, hb⟩
  clear cl_12 cl_13 cl_14
  have tt_19 := Lib.hid (C.Turned.of_below hb 0 0)
  have zz_20 := tt_19.out.size
  have ff_21 := Lib.hid (ff_9.out.turned tt_19.out (by omega) (by omega))
  clear ff_9
  have ff_22 := Lib.hid (ff_10.out.turned tt_19.out (by omega))
  clear ff_10
  have bb_23 := Lib.hid (C.Below.far bb_11.out tt_19.out)
  clear tt_19 bb_11
  clear hb
  have fo_24 := Lib.hid ho
  clear ho
  obtain ⟨cl_25, cl_26, cl_27⟩ := ff_22.out.cells
  go_wp2_with fail
  refine (C.specDoorsAt_lw W2 (W1.heap.size) (W2.heap.size) m0 t_15 t_17 t_16 t_18 fo_24.out.mz (by omega) (by omega) (by omega) a1 (by omega) (by omega)).mono ?_
  rintro e W3 ⟨r_28, r_29, rfl, ho, hq1, hq2, hb⟩
  clear cl_25 cl_26 cl_27
  have tt_30 := Lib.hid (C.Turned.of_below hb 0 0)
  have zz_31 := tt_30.out.size
  have ff_32 := Lib.hid (ff_21.out.turned tt_30.out (by omega) (by omega))
  clear ff_21
  have ff_33 := Lib.hid (fo_24.out.turned tt_30.out (by omega) (by omega))
  clear fo_24
  have ff_34 := Lib.hid (ff_22.out.turned tt_30.out (by omega))
  clear ff_22
  have bb_35 := Lib.hid (C.Below.far bb_23.out tt_30.out)
  clear tt_30 bb_23
  clear hb
  have fo_36 := Lib.hid ho
  clear ho hq1 hq2
  obtain ⟨cl_37, cl_38, cl_39⟩ := ff_34.out.cells
  clear ff_33
  go_wp2_with fail
  refine (C.toMaze_any W3 0 w.heap.size m0 a0 b0 c0 d0 ff_32.out (by omega) (by omega) (by omega)).mono ?_
  rintro e W4 ⟨t_40, t_41, t_42, t_43, rfl, ho, hb⟩
  clear cl_37 cl_38 cl_39
  have tt_44 := Lib.hid (C.Turned.of_below hb 0 0)
  have zz_45 := tt_44.out.size
  have ff_46 := Lib.hid (ff_32.out.turned tt_44.out (by omega) (by omega))
  clear ff_32
  have ff_47 := Lib.hid (fo_36.out.turned tt_44.out (by omega) (by omega))
  clear fo_36
  have ff_48 := Lib.hid (ff_34.out.turned tt_44.out (by omega))
  clear ff_34
  have bb_49 := Lib.hid (C.Below.far bb_35.out tt_44.out)
  clear tt_44 bb_35
  clear hb
  have fo_50 := Lib.hid ho
  clear ho
  obtain ⟨cl_51, cl_52, cl_53⟩ := ff_48.out.cells
  go_wp2_with fail
  refine C.named ?_
  intro W5 hW5
  have kW5 : Below W4.heap.size W4 W5 := by rw [hW5]; exact (by (repeat (first | exact Below.refl _ _ | (refine Below.alloc ?_ (by first | omega | (simp; done) | (simp; omega)) _))))
  have bx_54p : C.Box3 W5 (W4.heap.size) 33 (.int .i64 m0.size) (.slice t_40 m0.doors.length t_41) (.slice t_42 m0.keys.length t_43) := by rw [hW5]; exact C.Box3.new _ _ _ _ (by simp)
  have bx_54q := bx_54p.lt
  have bx_54 := Lib.hid bx_54p
  clear bx_54p
  clear hW5
  clear cl_51 cl_52 cl_53
  have tt_55 := Lib.hid (C.Turned.of_below kW5 0 0)
  have zz_56 := tt_55.out.size
  have ff_57 := Lib.hid (ff_46.out.turned tt_55.out (by omega) (by omega))
  clear ff_46
  have ff_58 := Lib.hid (ff_47.out.turned tt_55.out (by omega) (by omega))
  clear ff_47
  have ff_59 := Lib.hid (fo_50.out.turned tt_55.out (by omega) (by omega))
  clear fo_50
  have ff_60 := Lib.hid (ff_48.out.turned tt_55.out (by omega))
  clear ff_48
  have bb_61 := Lib.hid (C.Below.far bb_49.out tt_55.out)
  clear tt_55 bb_49
  clear kW5
  refine (C.implDoorsAt_lw W5 (W3.heap.size) (W4.heap.size) m0 t_40 t_42 t_41 t_43 ff_59.out.mz (by omega) (by omega) (by omega) a1 (by omega) (by omega)).mono ?_
  rintro e W6 ⟨r_62, r_63, rfl, ho, hq1, hq2, hb⟩
  have tt_64 := Lib.hid (C.Turned.of_below hb 0 0)
  have zz_65 := tt_64.out.size
  have ff_66 := Lib.hid (ff_57.out.turned tt_64.out (by omega) (by omega))
  clear ff_57
  have ff_67 := Lib.hid (ff_58.out.turned tt_64.out (by omega) (by omega))
  clear ff_58
  have ff_68 := Lib.hid (ff_59.out.turned tt_64.out (by omega) (by omega))
  clear ff_59
  have ff_69 := Lib.hid (ff_60.out.turned tt_64.out (by omega))
  clear ff_60
  have ff_70 := Lib.hid (bx_54.out.turned tt_64.out (by omega))
  clear bx_54
  have bb_71 := Lib.hid (C.Below.far bb_61.out tt_64.out)
  clear tt_64 bb_61
  clear hb
  have fo_72 := Lib.hid ho
  clear ho hq1 hq2
  obtain ⟨cl_73, cl_74, cl_75⟩ := ff_69.out.cells
  obtain ⟨cl_76, cl_77, cl_78⟩ := ff_70.out.cells
  go_wp2_with fail
  refine (C.eqInts_any W6 (W5.heap.size) (W6.heap.size) (W2.heap.size) (W3.heap.size) r_62 r_28 r_63 r_29 (M.doorsAtV m0 a1) (by omega) fo_72.out.row ff_67.out.row).mono ?_
  rintro e W7 ⟨rfl, nd_79, hW7⟩
  have hb : Below W6.heap.size W6 W7 := by rw [hW7]; exact C.below_drawn _ _
  clear hW7
  clear cl_73 cl_74 cl_75 cl_76 cl_77 cl_78
  have tt_80 := Lib.hid (C.Turned.of_below hb 0 0)
  have zz_81 := tt_80.out.size
  have ff_82 := Lib.hid (ff_66.out.turned tt_80.out (by omega) (by omega))
  clear ff_66
  have ff_83 := Lib.hid (ff_67.out.turned tt_80.out (by omega) (by omega))
  clear ff_67
  have ff_84 := Lib.hid (ff_68.out.turned tt_80.out (by omega) (by omega))
  clear ff_68
  have ff_85 := Lib.hid (fo_72.out.turned tt_80.out (by omega) (by omega))
  clear fo_72
  have ff_86 := Lib.hid (ff_69.out.turned tt_80.out (by omega))
  clear ff_69
  have ff_87 := Lib.hid (ff_70.out.turned tt_80.out (by omega))
  clear ff_70
  have bb_88 := Lib.hid (C.Below.far bb_71.out tt_80.out)
  clear tt_80 bb_71
  clear hb
  obtain ⟨cl_89, cl_90, cl_91⟩ := ff_86.out.cells
  obtain ⟨cl_92, cl_93, cl_94⟩ := ff_87.out.cells
  go_upto_region 10 with fail
  go_cut [49] (fun sl wx => sl = .bool false ∧ Below W7.heap.size W7 wx)
  case first =>
    go_region_with (first | (go_at_call 21; refine (C.toMaze_any W7.drew 0 w.heap.size m0 a0 b0 c0 d0 (ff_82.out.turned (C.Turned.of_below (Below.refl W7.heap.size W7).drew 0 0) (by omega) (by omega)) (show w.heap.size ≤ W7.heap.size by omega) (by omega) (by omega)).mono ?_; rintro e w2 ⟨t_95, t_96, t_97, t_98, rfl, ho, hb⟩; have hbq : Below W7.heap.size W7 w2 := (Below.refl W7.heap.size W7).drew.trans hb; have hzq := hbq.size; obtain ⟨cm_99, cm_100, cm_101⟩ := (ff_86.out.turned (C.Turned.of_below hbq 0 0) (by omega)).cells; obtain ⟨cm_102, cm_103, cm_104⟩ := (ff_87.out.turned (C.Turned.of_below hbq 0 0) (by omega)).cells) | (go_at_call 23; refine (C.eqMaze_any w2 (W3.heap.size) (W4.heap.size) _ _ m0 _ _ _ _ _ _ _ _ (C.MzOwn.mz (C.MzOwn.turned ff_84.out (C.Turned.of_below hbq 0 0) (by omega) (by omega))) ho.mz (by omega) (Nat.le_refl _) (by omega) (by omega)).mono ?_; rintro e w3 ⟨rfl, hb3⟩))
    all_goals (go_wp2_with fail; go_meet; exact ⟨rfl, C.Below.more hbq hb3⟩)
  case rest =>
    obtain ⟨rfl, hb⟩ := hcut
    clear cl_89 cl_90 cl_91 cl_92 cl_93 cl_94
    have tt_105 := Lib.hid (C.Turned.of_below hb 0 0)
    have zz_106 := tt_105.out.size
    have ff_107 := Lib.hid (ff_82.out.turned tt_105.out (by omega) (by omega))
    clear ff_82
    have ff_108 := Lib.hid (ff_83.out.turned tt_105.out (by omega) (by omega))
    clear ff_83
    have ff_109 := Lib.hid (ff_84.out.turned tt_105.out (by omega) (by omega))
    clear ff_84
    have ff_110 := Lib.hid (ff_85.out.turned tt_105.out (by omega) (by omega))
    clear ff_85
    have ff_111 := Lib.hid (ff_86.out.turned tt_105.out (by omega))
    clear ff_86
    have ff_112 := Lib.hid (ff_87.out.turned tt_105.out (by omega))
    clear ff_87
    have bb_113 := Lib.hid (C.Below.far bb_88.out tt_105.out)
    clear tt_105 bb_88
    clear hb
    obtain ⟨cl_114, cl_115, cl_116⟩ := ff_111.out.cells
    obtain ⟨cl_117, cl_118, cl_119⟩ := ff_112.out.cells
    go_wp2_with fail
    refine (C.markMaze_any wc (W3.heap.size) (W4.heap.size) m0 t_40 t_42 t_41 t_43 (1) ff_109.out (by omega) (by omega) (by omega) (by omega)).mono ?_
    rintro e W9 ⟨rfl, hm, ht⟩
    have fm_120 := Lib.hid hm
    clear hm
    clear ff_109
    clear cl_114 cl_115 cl_116 cl_117 cl_118 cl_119
    have tt_121 := Lib.hid (ht)
    have zz_122 := tt_121.out.size
    have ff_123 := Lib.hid (ff_107.out.turned tt_121.out (by omega) (by omega))
    clear ff_107
    have ff_124 := Lib.hid (ff_108.out.turned tt_121.out (by omega) (by omega))
    clear ff_108
    have ff_125 := Lib.hid (ff_110.out.turned tt_121.out (by omega) (by omega))
    clear ff_110
    have ff_126 := Lib.hid (ff_111.out.turned tt_121.out (by omega))
    clear ff_111
    have ff_127 := Lib.hid (ff_112.out.turned tt_121.out (by omega))
    clear ff_112
    have bb_128 := Lib.hid (C.Below.thenTurned bb_113.out tt_121.out (by omega) (by omega))
    clear tt_121 bb_113
    clear ht
    obtain ⟨cl_129, cl_130, cl_131⟩ := ff_126.out.cells
    obtain ⟨cl_132, cl_133, cl_134⟩ := ff_127.out.cells
    clear fm_120
    go_wp2_with fail
    refine (C.eqInts_any W9 (W5.heap.size) (W6.heap.size) (W2.heap.size) (W3.heap.size) r_62 r_28 r_63 r_29 (M.doorsAtV m0 a1) (by omega) ff_125.out.row ff_124.out.row).mono ?_
    rintro e W10 ⟨rfl, nd_135, hW10⟩
    have hb : Below W9.heap.size W9 W10 := by rw [hW10]; exact C.below_drawn _ _
    clear hW10
    clear cl_129 cl_130 cl_131 cl_132 cl_133 cl_134
    have tt_136 := Lib.hid (C.Turned.of_below hb 0 0)
    have zz_137 := tt_136.out.size
    have ff_138 := Lib.hid (ff_123.out.turned tt_136.out (by omega) (by omega))
    clear ff_123
    have ff_139 := Lib.hid (ff_124.out.turned tt_136.out (by omega) (by omega))
    clear ff_124
    have ff_140 := Lib.hid (ff_125.out.turned tt_136.out (by omega) (by omega))
    clear ff_125
    have ff_141 := Lib.hid (ff_126.out.turned tt_136.out (by omega))
    clear ff_126
    have ff_142 := Lib.hid (ff_127.out.turned tt_136.out (by omega))
    clear ff_127
    have bb_143 := Lib.hid (C.Below.far bb_128.out tt_136.out)
    clear tt_136 bb_128
    clear hb
    obtain ⟨cl_144, cl_145, cl_146⟩ := ff_141.out.cells
    obtain ⟨cl_147, cl_148, cl_149⟩ := ff_142.out.cells
    go_wp2_with fail
    refine (C.markInts_any W10 (W5.heap.size) (W6.heap.size) r_62 r_63 (M.doorsAtV m0 a1).length (1) _ (M.encIs_len _) (by omega) (by omega) ff_140.out).mono ?_
    rintro e W11 ⟨rfl, hm, ht⟩
    have fm_150 := Lib.hid hm
    clear hm
    clear ff_140
    clear cl_144 cl_145 cl_146 cl_147 cl_148 cl_149
    have tt_151 := Lib.hid (ht)
    have zz_152 := tt_151.out.size
    have ff_153 := Lib.hid (ff_138.out.turned tt_151.out (by omega) (by omega))
    clear ff_138
    have ff_154 := Lib.hid (ff_139.out.turned tt_151.out (by omega) (by omega))
    clear ff_139
    have ff_155 := Lib.hid (ff_141.out.turned tt_151.out (by omega))
    clear ff_141
    have ff_156 := Lib.hid (ff_142.out.turned tt_151.out (by omega))
    clear ff_142
    have bb_157 := Lib.hid (C.Below.thenTurned bb_143.out tt_151.out (by omega) (by omega))
    clear tt_151 bb_143
    clear ht
    obtain ⟨cl_158, cl_159, cl_160⟩ := ff_155.out.cells
    obtain ⟨cl_161, cl_162, cl_163⟩ := ff_156.out.cells
    go_wp2_with fail
    refine (C.heldInts_any W11 (W5.heap.size) (W6.heap.size) r_62 r_63 (M.doorsAtV m0 a1).length 1 (by omega) (by omega) fm_150.out.row).mono ?_
    rintro e W11 ⟨rfl, rfl⟩
    go_wp2_with fail
    refine (C.toMaze_any W11 0 w.heap.size m0 a0 b0 c0 d0 ff_153.out (by omega) (by omega) (by omega)).mono ?_
    rintro e W13 ⟨t_164, t_165, t_166, t_167, rfl, ho, hb⟩
    clear cl_158 cl_159 cl_160 cl_161 cl_162 cl_163
    have tt_168 := Lib.hid (C.Turned.of_below hb 0 0)
    have zz_169 := tt_168.out.size
    have ff_170 := Lib.hid (ff_153.out.turned tt_168.out (by omega) (by omega))
    clear ff_153
    have ff_171 := Lib.hid (ff_154.out.turned tt_168.out (by omega) (by omega))
    clear ff_154
    have ff_172 := Lib.hid (fm_150.out.turned tt_168.out (by omega) (by omega))
    clear fm_150
    have ff_173 := Lib.hid (ff_155.out.turned tt_168.out (by omega))
    clear ff_155
    have ff_174 := Lib.hid (ff_156.out.turned tt_168.out (by omega))
    clear ff_156
    have bb_175 := Lib.hid (C.Below.far bb_157.out tt_168.out)
    clear tt_168 bb_157
    clear hb
    have fo_176 := Lib.hid ho
    clear ho
    obtain ⟨cl_177, cl_178, cl_179⟩ := ff_173.out.cells
    obtain ⟨cl_180, cl_181, cl_182⟩ := ff_174.out.cells
    go_wp2_with fail
    refine (C.implDoorsAt_lw W13 (W11.heap.size) (W13.heap.size) m0 t_164 t_166 t_165 t_167 fo_176.out.mz (by omega) (by omega) (by omega) a1 (by omega) (by omega)).mono ?_
    rintro e W14 ⟨r_183, r_184, rfl, ho, hq1, hq2, hb⟩
    clear cl_177 cl_178 cl_179 cl_180 cl_181 cl_182
    have tt_185 := Lib.hid (C.Turned.of_below hb 0 0)
    have zz_186 := tt_185.out.size
    have ff_187 := Lib.hid (ff_170.out.turned tt_185.out (by omega) (by omega))
    clear ff_170
    have ff_188 := Lib.hid (ff_171.out.turned tt_185.out (by omega) (by omega))
    clear ff_171
    have ff_189 := Lib.hid (ff_172.out.turned tt_185.out (by omega) (by omega))
    clear ff_172
    have ff_190 := Lib.hid (fo_176.out.turned tt_185.out (by omega) (by omega))
    clear fo_176
    have ff_191 := Lib.hid (ff_173.out.turned tt_185.out (by omega))
    clear ff_173
    have ff_192 := Lib.hid (ff_174.out.turned tt_185.out (by omega))
    clear ff_174
    have bb_193 := Lib.hid (C.Below.far bb_175.out tt_185.out)
    clear tt_185 bb_175
    clear hb
    have fo_194 := Lib.hid ho
    clear ho hq1 hq2
    obtain ⟨cl_195, cl_196, cl_197⟩ := ff_191.out.cells
    obtain ⟨cl_198, cl_199, cl_200⟩ := ff_192.out.cells
    clear ff_190
    go_wp2_with fail
    refine (C.eqInts_any W14 (W13.heap.size) (W14.heap.size) (W2.heap.size) (W3.heap.size) r_183 r_28 r_184 r_29 (M.doorsAtV m0 a1) (by omega) fo_194.out.row ff_188.out.row).mono ?_
    rintro e W15 ⟨rfl, nd_201, hW15⟩
    have hb : Below W14.heap.size W14 W15 := by rw [hW15]; exact C.below_drawn _ _
    clear hW15
    clear cl_195 cl_196 cl_197 cl_198 cl_199 cl_200
    have tt_202 := Lib.hid (C.Turned.of_below hb 0 0)
    have zz_203 := tt_202.out.size
    have ff_204 := Lib.hid (ff_187.out.turned tt_202.out (by omega) (by omega))
    clear ff_187
    have ff_205 := Lib.hid (ff_188.out.turned tt_202.out (by omega) (by omega))
    clear ff_188
    have ff_206 := Lib.hid (ff_189.out.turned tt_202.out (by omega) (by omega))
    clear ff_189
    have ff_207 := Lib.hid (fo_194.out.turned tt_202.out (by omega) (by omega))
    clear fo_194
    have ff_208 := Lib.hid (ff_191.out.turned tt_202.out (by omega))
    clear ff_191
    have ff_209 := Lib.hid (ff_192.out.turned tt_202.out (by omega))
    clear ff_192
    have bb_210 := Lib.hid (C.Below.far bb_193.out tt_202.out)
    clear tt_202 bb_193
    clear hb
    obtain ⟨cl_211, cl_212, cl_213⟩ := ff_208.out.cells
    obtain ⟨cl_214, cl_215, cl_216⟩ := ff_209.out.cells
    go_wp2_with fail
    refine (C.heldInts_any W15 (W5.heap.size) (W6.heap.size) r_62 r_63 (M.doorsAtV m0 a1).length 1 (by omega) (by omega) ff_206.out.row).mono ?_
    rintro e W15 ⟨rfl, rfl⟩
    go_wp2_with fail
    go_ret
    exact ⟨rfl, bb_210.out⟩


set_option maxRecDepth 100000 in
theorem lifted (os : Os) (started : os.Started) (H : Type) (enc : TypeId × Value → H) :
    ReturnsInHanded {} Try.checked os 6 .any (Rows.fnExactDoorsAtSpec.pre6 enc Try.prog Try.f6 Rows.fnExactDoorsAtRow.domain false) (Rows.fnExactDoorsAtSpec.post enc Try.prog Try.f6 false true false false) := by
  refine returnsInHanded_of_change (C := Try.checked) P.own started (by kernel_rfl) Try.func6
    (ChangeSpec.witness6 (enc := enc) (C := Try.checked) false ⟨#[], #[.agg #[.int .i64 0, .slice none 0 0, .slice none 0 0], .int .i64 0], []⟩ 8 (by kernel_rfl) (by kernel_rfl) (by kernel_rfl) (by kernel_rfl)) ?_
  intro W base args ds gs before hval0 hW hcnd _
  have hval : ∀ (j : Nat) t v, Try.f6.params[j]? = some t → args[j]? = some v → Value.okWide Try.prog W .any base t v := hval0
  have hW' := hW
  obtain ⟨p, q, hA0, hV, rfl, hfz, hnd⟩ := hW
  have hA : DataW.TrodAll enc Try.prog W 0 (fun _ => true) true Try.f6.params.toList args.toList ds p := hA0
  rw [Try.params6] at hA hval
  obtain ⟨v0, vs0, d0, ds0, p0, q0, hargs, rfl, rfl, h0, r0⟩ := trodAll_cons hA
  obtain ⟨v1, vs1, d1, ds1, p1, q1, rfl, rfl, rfl, h1, r1⟩ := trodAll_cons r0
  obtain ⟨rfl, rfl, rfl⟩ := trodAll_nil r1
  obtain rfl : args = #[v0, v1] := by cases args; simp_all
  obtain ⟨rfl, rfl⟩ := trodVars_none hV
  have k0 := h0
  have lt0 : ∀ x ∈ p0, x.block < W.heap.size := by obtain ⟨m, hm⟩ := k0; exact DataW.trod_lt m _ _ _ hm
  obtain ⟨m0, a0, c0, b0, e0, rfl, w0⟩ := C.open_maze (hval 0 30 v0 rfl rfl) h0
  obtain ⟨a1, rfl, rfl, rfl, w1⟩ := open_int Try.underlying3 (hval 1 3 v1 rfl rfl) h1
  clear hA0 hval0
  refine (walk W m0 a0 c0 b0 e0 w0 a1 w1).mono fun e W' ⟨he, hb⟩ => ?_
  subst he
  exact ⟨_, rfl, _, _, _, [], _, [], hW', trodAll_mk1 (shut_bool Try.underlying4 _), (trodAll_cons_mk (Below.trod P.laidOut (by kernel_rfl) (of_decide_eq_true (by kernel_rfl)) k0 hb lt0) (trodAll_cons_mk (shut_int Try.underlying3 w1) trodAll_mk0)), rfl, hb.frame _, fun h => by cases h⟩

theorem proved : Rows.FnExactDoorsAtSaid :=
  OpenClaim.holds_of_wide 6 Try.f6 rfl rfl rfl rfl rfl rfl rfl ⟨rfl, rfl, rfl, rfl, rfl⟩ rfl rfl rfl rfl rfl (by kernel_rfl) Try.func6 (by kernel_rfl)
    (of_decide_eq_true (by kernel_rfl)) (by unfold Func.isWrapper; first | (rw [if_pos (by decide +kernel)]; kernel_rfl) | (rw [if_neg (by decide +kernel)]; exact ⟨rfl, rfl⟩))
    (fun os started H enc _ => lifted os started H enc)
#print axioms proved
end Go.Proofs.Ytkgjmddogcoemaa.fnExactDoorsAt
