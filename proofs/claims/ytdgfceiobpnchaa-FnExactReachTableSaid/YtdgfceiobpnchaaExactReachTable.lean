/-
  PROVED: for all works aW the law laws.FnExactReachTable returns true, that is, impl.ReachTable answers as the model does, in memory of its own at each call; its arguments read afterwards as before. Conditions: none.
-/
import Derived.Test.YtdgfceiobpnchaaRows
import Derived.Test.YtdgfceiobpnchaaWkO
import Derived.Test.YtdgfceiobpnchaaClo
import Derived.Test.YtdgfceiobpnchaaWkL2
import Derived.Test.YtdgfceiobpnchaaRRch
import Derived.Test.YtdgfceiobpnchaaRTab
import Derived.WalkKit
import Derived.ProofKit
import Derived.JoinedOf
import Derived.OpenShut
import Derived.ShutString
import Derived.Deep.RegionWith
import Derived.Deep.DeepCutAuto
namespace Go.Proofs.Ytdgfceiobpnchaa.fnExactReachTable
open Go.ChangeShapes Go.WideShapes Go.ChangeAt Go.RowKit
open Go.ChangeMaps (open_string shut_string)
set_option linter.unusedVariables false

set_option maxHeartbeats 4000000 in
set_option maxRecDepth 100000 in
theorem walk (w : World) (m0 : M.Wk) (a0 : Option Addr) (c0 : Nat) (b0 : Option Addr) (d0 : Nat) (w0 : C.WkIn 0 w.heap.size w m0 a0 c0 b0 d0) :
    Calls Try.prog 12 #[(.agg #[.int .i64 m0.size, .slice a0 m0.gates.length c0, .slice b0 m0.pulls.length d0])] w fun e w' => e = .returned (.bool true) ∧ Below w.heap.size w w' := by
  have y0 := Nat.le_trans w0.c1 w0.c2
  have z0 := Nat.le_trans w0.d1 w0.d2
  have x0 := Lib.hid w0
  clear w0
  by_cases s0 : 1048576 < m0.gates.length + m0.pulls.length
  · go_enter Try.func12, Try.ntmps12
    have bb_1 := Lib.hid (Below.refl w.heap.size w)
    go_wp2_with fail
    refine C.named ?_
    intro W0 hW0
    have kW0 : Below w.heap.size w W0 := by rw [hW0]; exact (by (repeat (first | exact Below.refl _ _ | (refine Below.alloc ?_ (by first | omega | (simp; done) | (simp; omega)) _))))
    have bx_2p : C.Box3 W0 (w.heap.size) 25 (.int .i64 m0.size) (.slice a0 m0.gates.length c0) (.slice b0 m0.pulls.length d0) := by rw [hW0]; exact C.Box3.new _ _ _ _ (by simp)
    have bx_2q := bx_2p.lt
    have bx_2 := Lib.hid bx_2p
    clear bx_2p
    clear hW0
    have tt_3 := Lib.hid (C.Turned.of_below kW0 0 0)
    have zz_4 := tt_3.out.size
    have ff_5 := Lib.hid (x0.out.turned tt_3.out (by omega) (by omega))
    clear x0
    have bb_6 := Lib.hid (C.Below.far bb_1.out tt_3.out)
    clear tt_3 bb_1
    clear kW0
    refine (C.szWorks_any W0 m0 a0 b0 c0 d0 (1048576) (by omega) (by omega) (by omega) (by omega)).mono ?_
    rintro e W1 ⟨rfl, hb⟩
    have tt_7 := Lib.hid (C.Turned.of_below hb 0 0)
    have zz_8 := tt_7.out.size
    have ff_9 := Lib.hid (ff_5.out.turned tt_7.out (by omega) (by omega))
    clear ff_5
    have ff_10 := Lib.hid (bx_2.out.turned tt_7.out (by omega))
    clear bx_2
    have bb_11 := Lib.hid (C.Below.far bb_6.out tt_7.out)
    clear tt_7 bb_6
    clear hb
    rw [if_pos (by omega)]
    obtain ⟨cl_12, cl_13, cl_14⟩ := ff_10.out.cells
    have cq_15 := ff_10.out.lt
    go_wp2_with fail
    go_ret
    exact ⟨rfl, bb_11.out⟩
  go_enter Try.func12, Try.ntmps12
  have bb_1 := Lib.hid (Below.refl w.heap.size w)
  go_wp2_with fail
  refine C.named ?_
  intro W0 hW0
  have kW0 : Below w.heap.size w W0 := by rw [hW0]; exact (by (repeat (first | exact Below.refl _ _ | (refine Below.alloc ?_ (by first | omega | (simp; done) | (simp; omega)) _))))
  have bx_2p : C.Box3 W0 (w.heap.size) 25 (.int .i64 m0.size) (.slice a0 m0.gates.length c0) (.slice b0 m0.pulls.length d0) := by rw [hW0]; exact C.Box3.new _ _ _ _ (by simp)
  have bx_2q := bx_2p.lt
  have bx_2 := Lib.hid bx_2p
  clear bx_2p
  clear hW0
  have tt_3 := Lib.hid (C.Turned.of_below kW0 0 0)
  have zz_4 := tt_3.out.size
  have ff_5 := Lib.hid (x0.out.turned tt_3.out (by omega) (by omega))
  clear x0
  have bb_6 := Lib.hid (C.Below.far bb_1.out tt_3.out)
  clear tt_3 bb_1
  clear kW0
  refine (C.szWorks_any W0 m0 a0 b0 c0 d0 (1048576) (by omega) (by omega) (by omega) (by omega)).mono ?_
  rintro e W1 ⟨rfl, hb⟩
  have tt_7 := Lib.hid (C.Turned.of_below hb 0 0)
  have zz_8 := tt_7.out.size
  have ff_9 := Lib.hid (ff_5.out.turned tt_7.out (by omega) (by omega))
  clear ff_5
  have ff_10 := Lib.hid (bx_2.out.turned tt_7.out (by omega))
  clear bx_2
  have bb_11 := Lib.hid (C.Below.far bb_6.out tt_7.out)
  clear tt_7 bb_6
  clear hb
  rw [if_neg (by omega)]
  obtain ⟨cl_12, cl_13, cl_14⟩ := ff_10.out.cells
  have cq_15 := ff_10.out.lt
  have hbd : (M.rchV m0).length ≤ 1048576 ∧ M.totL (M.encSS (M.rchV m0)) ≤ 1048576 := M.rchV_bd _
  obtain ⟨hbd1, hbd2⟩ := hbd
  go_wp2_with fail
  refine (C.toWorks_any W1 0 w.heap.size m0 a0 b0 c0 d0 ff_9.out (by omega) (by omega) (by omega)).mono ?_
  rintro e W2 ⟨t_16, t_17, t_18, t_19, rfl, ho, hb⟩
  clear cl_12 cl_13 cl_14 cq_15
  have tt_20 := Lib.hid (C.Turned.of_below hb 0 0)
  have zz_21 := tt_20.out.size
  have ff_22 := Lib.hid (ff_9.out.turned tt_20.out (by omega) (by omega))
  clear ff_9
  have ff_23 := Lib.hid (ff_10.out.turned tt_20.out (by omega))
  clear ff_10
  have bb_24 := Lib.hid (C.Below.far bb_11.out tt_20.out)
  clear tt_20 bb_11
  clear hb
  have fo_25 := Lib.hid ho
  clear ho
  obtain ⟨cl_26, cl_27, cl_28⟩ := ff_23.out.cells
  have cq_29 := ff_23.out.lt
  go_wp2_with fail
  refine (C.specRch_lw W2 (W1.heap.size) (W2.heap.size) m0 t_16 t_18 t_17 t_19 fo_25.out.mz (by omega) (by omega) (by omega)).mono ?_
  rintro e W3 ⟨r_30, r_31, r_32, rfl, ho, hq1, hq2, hb⟩
  clear cl_26 cl_27 cl_28 cq_29
  have tt_33 := Lib.hid (C.Turned.of_below hb 0 0)
  have zz_34 := tt_33.out.size
  have ff_35 := Lib.hid (ff_22.out.turned tt_33.out (by omega) (by omega))
  clear ff_22
  have ff_36 := Lib.hid (fo_25.out.turned tt_33.out (by omega) (by omega))
  clear fo_25
  have ff_37 := Lib.hid (ff_23.out.turned tt_33.out (by omega))
  clear ff_23
  have bb_38 := Lib.hid (C.Below.far bb_24.out tt_33.out)
  clear tt_33 bb_24
  clear hb
  have fo_39 := Lib.hid ho
  clear ho hq1 hq2
  obtain ⟨cl_40, cl_41, cl_42⟩ := ff_37.out.cells
  have cq_43 := ff_37.out.lt
  clear ff_36
  go_wp2_with fail
  refine (C.toWorks_any W3 0 w.heap.size m0 a0 b0 c0 d0 ff_35.out (by omega) (by omega) (by omega)).mono ?_
  rintro e W4 ⟨t_44, t_45, t_46, t_47, rfl, ho, hb⟩
  clear cl_40 cl_41 cl_42 cq_43
  have tt_48 := Lib.hid (C.Turned.of_below hb 0 0)
  have zz_49 := tt_48.out.size
  have ff_50 := Lib.hid (ff_35.out.turned tt_48.out (by omega) (by omega))
  clear ff_35
  have ff_51 := Lib.hid (fo_39.out.turned tt_48.out (by omega) (by omega))
  clear fo_39
  have ff_52 := Lib.hid (ff_37.out.turned tt_48.out (by omega))
  clear ff_37
  have bb_53 := Lib.hid (C.Below.far bb_38.out tt_48.out)
  clear tt_48 bb_38
  clear hb
  have fo_54 := Lib.hid ho
  clear ho
  obtain ⟨cl_55, cl_56, cl_57⟩ := ff_52.out.cells
  have cq_58 := ff_52.out.lt
  go_wp2_with fail
  refine C.named ?_
  intro W5 hW5
  have kW5 : Below W4.heap.size W4 W5 := by rw [hW5]; exact (by (repeat (first | exact Below.refl _ _ | (refine Below.alloc ?_ (by first | omega | (simp; done) | (simp; omega)) _))))
  have bx_59p : C.Box3 W5 (W4.heap.size) 28 (.int .i64 m0.size) (.slice t_44 m0.gates.length t_45) (.slice t_46 m0.pulls.length t_47) := by rw [hW5]; exact C.Box3.new _ _ _ _ (by simp)
  have bx_59q := bx_59p.lt
  have bx_59 := Lib.hid bx_59p
  clear bx_59p
  clear hW5
  clear cl_55 cl_56 cl_57 cq_58
  have tt_60 := Lib.hid (C.Turned.of_below kW5 0 0)
  have zz_61 := tt_60.out.size
  have ff_62 := Lib.hid (ff_50.out.turned tt_60.out (by omega) (by omega))
  clear ff_50
  have ff_63 := Lib.hid (ff_51.out.turned tt_60.out (by omega) (by omega))
  clear ff_51
  have ff_64 := Lib.hid (fo_54.out.turned tt_60.out (by omega) (by omega))
  clear fo_54
  have ff_65 := Lib.hid (ff_52.out.turned tt_60.out (by omega))
  clear ff_52
  have bb_66 := Lib.hid (C.Below.far bb_53.out tt_60.out)
  clear tt_60 bb_53
  clear kW5
  refine (C.implRch_lw W5 (W3.heap.size) (W4.heap.size) m0 t_44 t_46 t_45 t_47 ff_64.out.mz (by omega) (by omega) (by omega)).mono ?_
  rintro e W6 ⟨r_67, r_68, r_69, rfl, ho, hq1, hq2, hb⟩
  have tt_70 := Lib.hid (C.Turned.of_below hb 0 0)
  have zz_71 := tt_70.out.size
  have ff_72 := Lib.hid (ff_62.out.turned tt_70.out (by omega) (by omega))
  clear ff_62
  have ff_73 := Lib.hid (ff_63.out.turned tt_70.out (by omega) (by omega))
  clear ff_63
  have ff_74 := Lib.hid (ff_64.out.turned tt_70.out (by omega) (by omega))
  clear ff_64
  have ff_75 := Lib.hid (ff_65.out.turned tt_70.out (by omega))
  clear ff_65
  have ff_76 := Lib.hid (bx_59.out.turned tt_70.out (by omega))
  clear bx_59
  have bb_77 := Lib.hid (C.Below.far bb_66.out tt_70.out)
  clear tt_70 bb_66
  clear hb
  have fo_78 := Lib.hid ho
  clear ho hq1 hq2
  obtain ⟨cl_79, cl_80, cl_81⟩ := ff_75.out.cells
  have cq_82 := ff_75.out.lt
  obtain ⟨cl_83, cl_84, cl_85⟩ := ff_76.out.cells
  have cq_86 := ff_76.out.lt
  go_wp2_with fail
  refine (C.eqIntSS_any W6 (W5.heap.size) (W6.heap.size) (W2.heap.size) (W3.heap.size) r_67 r_30 r_68 r_31 r_69 r_32 (M.rchV m0) fo_78.out ff_73.out (by omega) (by omega) hbd1 hbd2).mono ?_
  rintro e W7 ⟨rfl, hb⟩
  clear cl_79 cl_80 cl_81 cq_82 cl_83 cl_84 cl_85 cq_86
  have tt_87 := Lib.hid (C.Turned.of_below hb 0 0)
  have zz_88 := tt_87.out.size
  have ff_89 := Lib.hid (ff_72.out.turned tt_87.out (by omega) (by omega))
  clear ff_72
  have ff_90 := Lib.hid (ff_73.out.turned tt_87.out (by omega) (by omega))
  clear ff_73
  have ff_91 := Lib.hid (ff_74.out.turned tt_87.out (by omega) (by omega))
  clear ff_74
  have ff_92 := Lib.hid (fo_78.out.turned tt_87.out (by omega) (by omega))
  clear fo_78
  have ff_93 := Lib.hid (ff_75.out.turned tt_87.out (by omega))
  clear ff_75
  have ff_94 := Lib.hid (ff_76.out.turned tt_87.out (by omega))
  clear ff_76
  have bb_95 := Lib.hid (C.Below.far bb_77.out tt_87.out)
  clear tt_87 bb_77
  clear hb
  obtain ⟨cl_96, cl_97, cl_98⟩ := ff_93.out.cells
  have cq_99 := ff_93.out.lt
  obtain ⟨cl_100, cl_101, cl_102⟩ := ff_94.out.cells
  have cq_103 := ff_94.out.lt
  go_upto_region 10 with fail
  go_cut [45] (fun sl wx => sl = .bool false ∧ Below W7.heap.size W7 wx)
  case first =>
    go_region_with (first | (go_at_call 19; refine (C.toWorks_any W7.drew 0 w.heap.size m0 a0 b0 c0 d0 (ff_89.out.turned (C.Turned.of_below (Below.refl W7.heap.size W7).drew 0 0) (by omega) (by omega)) (show w.heap.size ≤ W7.heap.size by omega) (by omega) (by omega)).mono ?_; rintro e w2 ⟨t_104, t_105, t_106, t_107, rfl, ho, hb⟩; have hbq : Below W7.heap.size W7 w2 := (Below.refl W7.heap.size W7).drew.trans hb; have hzq := hbq.size; obtain ⟨cm_108, cm_109, cm_110⟩ := (ff_93.out.turned (C.Turned.of_below hbq 0 0) (by omega)).cells; obtain ⟨cm_111, cm_112, cm_113⟩ := (ff_94.out.turned (C.Turned.of_below hbq 0 0) (by omega)).cells) | (go_at_call 21; refine (C.eqWorks_any w2 (W3.heap.size) (W4.heap.size) _ _ m0 _ _ _ _ _ _ _ _ (C.WkOwn.mz (C.WkOwn.turned ff_91.out (C.Turned.of_below hbq 0 0) (by omega) (by omega))) ho.mz (by omega) (Nat.le_refl _) (by omega) (by omega)).mono ?_; rintro e w3 ⟨rfl, hb3⟩))
    all_goals (go_wp2_with fail; go_meet; exact ⟨rfl, C.Below.more hbq hb3⟩)
  case rest =>
    obtain ⟨rfl, hb⟩ := hcut
    obtain ⟨W8, rfl⟩ : ∃ W, W = wc := ⟨_, rfl⟩
    clear cl_96 cl_97 cl_98 cq_99 cl_100 cl_101 cl_102 cq_103
    have tt_114 := Lib.hid (C.Turned.of_below hb 0 0)
    have zz_115 := tt_114.out.size
    have ff_116 := Lib.hid (ff_89.out.turned tt_114.out (by omega) (by omega))
    clear ff_89
    have ff_117 := Lib.hid (ff_90.out.turned tt_114.out (by omega) (by omega))
    clear ff_90
    have ff_118 := Lib.hid (ff_91.out.turned tt_114.out (by omega) (by omega))
    clear ff_91
    have ff_119 := Lib.hid (ff_92.out.turned tt_114.out (by omega) (by omega))
    clear ff_92
    have ff_120 := Lib.hid (ff_93.out.turned tt_114.out (by omega))
    clear ff_93
    have ff_121 := Lib.hid (ff_94.out.turned tt_114.out (by omega))
    clear ff_94
    have bb_122 := Lib.hid (C.Below.far bb_95.out tt_114.out)
    clear tt_114 bb_95
    clear hb
    obtain ⟨cl_123, cl_124, cl_125⟩ := ff_120.out.cells
    have cq_126 := ff_120.out.lt
    obtain ⟨cl_127, cl_128, cl_129⟩ := ff_121.out.cells
    have cq_130 := ff_121.out.lt
    go_wp2_with fail
    refine (C.markWorks_any W8 (W3.heap.size) (W4.heap.size) m0 t_44 t_46 t_45 t_47 (1) ff_118.out (by omega) (by omega) (by omega) (by omega)).mono ?_
    rintro e W9 ⟨rfl, hm, ht⟩
    have fm_131 := Lib.hid hm
    clear hm
    clear ff_118
    clear cl_123 cl_124 cl_125 cq_126 cl_127 cl_128 cl_129 cq_130
    have tt_132 := Lib.hid (ht)
    have zz_133 := tt_132.out.size
    have ff_134 := Lib.hid (ff_116.out.turned tt_132.out (by omega) (by omega))
    clear ff_116
    have ff_135 := Lib.hid (ff_117.out.turned tt_132.out (by omega) (by omega))
    clear ff_117
    have ff_136 := Lib.hid (ff_119.out.turned tt_132.out (by omega) (by omega))
    clear ff_119
    have ff_137 := Lib.hid (ff_120.out.turned tt_132.out (by omega))
    clear ff_120
    have ff_138 := Lib.hid (ff_121.out.turned tt_132.out (by omega))
    clear ff_121
    have bb_139 := Lib.hid (C.Below.thenTurned bb_122.out tt_132.out (by omega) (by omega))
    clear tt_132 bb_122
    clear ht
    obtain ⟨cl_140, cl_141, cl_142⟩ := ff_137.out.cells
    have cq_143 := ff_137.out.lt
    obtain ⟨cl_144, cl_145, cl_146⟩ := ff_138.out.cells
    have cq_147 := ff_138.out.lt
    clear fm_131
    go_wp2_with fail
    refine (C.eqIntSS_any W9 (W5.heap.size) (W6.heap.size) (W2.heap.size) (W3.heap.size) r_67 r_30 r_68 r_31 r_69 r_32 (M.rchV m0) ff_136.out ff_135.out (by omega) (by omega) hbd1 hbd2).mono ?_
    rintro e W10 ⟨rfl, hb⟩
    clear cl_140 cl_141 cl_142 cq_143 cl_144 cl_145 cl_146 cq_147
    have tt_148 := Lib.hid (C.Turned.of_below hb 0 0)
    have zz_149 := tt_148.out.size
    have ff_150 := Lib.hid (ff_134.out.turned tt_148.out (by omega) (by omega))
    clear ff_134
    have ff_151 := Lib.hid (ff_135.out.turned tt_148.out (by omega) (by omega))
    clear ff_135
    have ff_152 := Lib.hid (ff_136.out.turned tt_148.out (by omega) (by omega))
    clear ff_136
    have ff_153 := Lib.hid (ff_137.out.turned tt_148.out (by omega))
    clear ff_137
    have ff_154 := Lib.hid (ff_138.out.turned tt_148.out (by omega))
    clear ff_138
    have bb_155 := Lib.hid (C.Below.far bb_139.out tt_148.out)
    clear tt_148 bb_139
    clear hb
    obtain ⟨cl_156, cl_157, cl_158⟩ := ff_153.out.cells
    have cq_159 := ff_153.out.lt
    obtain ⟨cl_160, cl_161, cl_162⟩ := ff_154.out.cells
    have cq_163 := ff_154.out.lt
    go_wp2_with fail
    refine (C.markT_any W10 (W5.heap.size) (W6.heap.size) r_67 r_68 (1) r_69 (M.rchV m0) ff_152.out hbd1 hbd2 (by omega)).mono ?_
    rintro e W11 ⟨rfl, hm, ht⟩
    have fm_164 := Lib.hid hm
    clear hm
    clear ff_152
    clear cl_156 cl_157 cl_158 cq_159 cl_160 cl_161 cl_162 cq_163
    have tt_165 := Lib.hid (ht)
    have zz_166 := tt_165.out.size
    have ff_167 := Lib.hid (ff_150.out.turned tt_165.out (by omega) (by omega))
    clear ff_150
    have ff_168 := Lib.hid (ff_151.out.turned tt_165.out (by omega) (by omega))
    clear ff_151
    have ff_169 := Lib.hid (ff_153.out.turned tt_165.out (by omega))
    clear ff_153
    have ff_170 := Lib.hid (ff_154.out.turned tt_165.out (by omega))
    clear ff_154
    have bb_171 := Lib.hid (C.Below.thenTurned bb_155.out tt_165.out (by omega) (by omega))
    clear tt_165 bb_155
    clear ht
    obtain ⟨cl_172, cl_173, cl_174⟩ := ff_169.out.cells
    have cq_175 := ff_169.out.lt
    obtain ⟨cl_176, cl_177, cl_178⟩ := ff_170.out.cells
    have cq_179 := ff_170.out.lt
    go_wp2_with fail
    refine (C.heldT_any W11 (W5.heap.size) (W6.heap.size) r_67 r_68 1 r_69 (M.rchV m0) fm_164.out hbd1 hbd2 (by omega)).mono ?_
    rintro e W11 ⟨rfl, rfl⟩
    go_wp2_with fail
    refine (C.toWorks_any W11 0 w.heap.size m0 a0 b0 c0 d0 ff_167.out (by omega) (by omega) (by omega)).mono ?_
    rintro e W13 ⟨t_180, t_181, t_182, t_183, rfl, ho, hb⟩
    clear cl_172 cl_173 cl_174 cq_175 cl_176 cl_177 cl_178 cq_179
    have tt_184 := Lib.hid (C.Turned.of_below hb 0 0)
    have zz_185 := tt_184.out.size
    have ff_186 := Lib.hid (ff_167.out.turned tt_184.out (by omega) (by omega))
    clear ff_167
    have ff_187 := Lib.hid (ff_168.out.turned tt_184.out (by omega) (by omega))
    clear ff_168
    have ff_188 := Lib.hid (fm_164.out.turned tt_184.out (by omega) (by omega))
    clear fm_164
    have ff_189 := Lib.hid (ff_169.out.turned tt_184.out (by omega))
    clear ff_169
    have ff_190 := Lib.hid (ff_170.out.turned tt_184.out (by omega))
    clear ff_170
    have bb_191 := Lib.hid (C.Below.far bb_171.out tt_184.out)
    clear tt_184 bb_171
    clear hb
    have fo_192 := Lib.hid ho
    clear ho
    obtain ⟨cl_193, cl_194, cl_195⟩ := ff_189.out.cells
    have cq_196 := ff_189.out.lt
    obtain ⟨cl_197, cl_198, cl_199⟩ := ff_190.out.cells
    have cq_200 := ff_190.out.lt
    go_wp2_with fail
    refine (C.implRch_lw W13 (W11.heap.size) (W13.heap.size) m0 t_180 t_182 t_181 t_183 fo_192.out.mz (by omega) (by omega) (by omega)).mono ?_
    rintro e W14 ⟨r_201, r_202, r_203, rfl, ho, hq1, hq2, hb⟩
    clear cl_193 cl_194 cl_195 cq_196 cl_197 cl_198 cl_199 cq_200
    have tt_204 := Lib.hid (C.Turned.of_below hb 0 0)
    have zz_205 := tt_204.out.size
    have ff_206 := Lib.hid (ff_186.out.turned tt_204.out (by omega) (by omega))
    clear ff_186
    have ff_207 := Lib.hid (ff_187.out.turned tt_204.out (by omega) (by omega))
    clear ff_187
    have ff_208 := Lib.hid (ff_188.out.turned tt_204.out (by omega) (by omega))
    clear ff_188
    have ff_209 := Lib.hid (fo_192.out.turned tt_204.out (by omega) (by omega))
    clear fo_192
    have ff_210 := Lib.hid (ff_189.out.turned tt_204.out (by omega))
    clear ff_189
    have ff_211 := Lib.hid (ff_190.out.turned tt_204.out (by omega))
    clear ff_190
    have bb_212 := Lib.hid (C.Below.far bb_191.out tt_204.out)
    clear tt_204 bb_191
    clear hb
    have fo_213 := Lib.hid ho
    clear ho hq1 hq2
    obtain ⟨cl_214, cl_215, cl_216⟩ := ff_210.out.cells
    have cq_217 := ff_210.out.lt
    obtain ⟨cl_218, cl_219, cl_220⟩ := ff_211.out.cells
    have cq_221 := ff_211.out.lt
    clear ff_209
    go_wp2_with fail
    refine (C.eqIntSS_any W14 (W13.heap.size) (W14.heap.size) (W2.heap.size) (W3.heap.size) r_201 r_30 r_202 r_31 r_203 r_32 (M.rchV m0) fo_213.out ff_207.out (by omega) (by omega) hbd1 hbd2).mono ?_
    rintro e W15 ⟨rfl, hb⟩
    clear cl_214 cl_215 cl_216 cq_217 cl_218 cl_219 cl_220 cq_221
    have tt_222 := Lib.hid (C.Turned.of_below hb 0 0)
    have zz_223 := tt_222.out.size
    have ff_224 := Lib.hid (ff_206.out.turned tt_222.out (by omega) (by omega))
    clear ff_206
    have ff_225 := Lib.hid (ff_207.out.turned tt_222.out (by omega) (by omega))
    clear ff_207
    have ff_226 := Lib.hid (ff_208.out.turned tt_222.out (by omega) (by omega))
    clear ff_208
    have ff_227 := Lib.hid (fo_213.out.turned tt_222.out (by omega) (by omega))
    clear fo_213
    have ff_228 := Lib.hid (ff_210.out.turned tt_222.out (by omega))
    clear ff_210
    have ff_229 := Lib.hid (ff_211.out.turned tt_222.out (by omega))
    clear ff_211
    have bb_230 := Lib.hid (C.Below.far bb_212.out tt_222.out)
    clear tt_222 bb_212
    clear hb
    obtain ⟨cl_231, cl_232, cl_233⟩ := ff_228.out.cells
    have cq_234 := ff_228.out.lt
    obtain ⟨cl_235, cl_236, cl_237⟩ := ff_229.out.cells
    have cq_238 := ff_229.out.lt
    go_wp2_with fail
    refine (C.heldT_any W15 (W5.heap.size) (W6.heap.size) r_67 r_68 1 r_69 (M.rchV m0) ff_226.out hbd1 hbd2 (by omega)).mono ?_
    rintro e W15 ⟨rfl, rfl⟩
    go_wp2_with fail
    go_ret
    exact ⟨rfl, bb_230.out⟩


set_option maxRecDepth 100000 in
theorem lifted (os : Os) (started : os.Started) (H : Type) (enc : TypeId × Value → H) :
    ReturnsInHanded {} Try.checked os 12 .any (Rows.fnExactReachTableSpec.pre6 enc Try.prog Try.f12 Rows.fnExactReachTableRow.domain false) (Rows.fnExactReachTableSpec.post enc Try.prog Try.f12 false true false false) := by
  refine returnsInHanded_of_change (C := Try.checked) P.own started (by kernel_rfl) Try.func12
    (ChangeSpec.witness6 (enc := enc) (C := Try.checked) false ⟨#[], #[.agg #[.int .i64 0, .slice none 0 0, .slice none 0 0]], []⟩ 8 (by kernel_rfl) (by kernel_rfl) (by kernel_rfl) (by kernel_rfl)) ?_
  intro W base args ds gs before hval0 hW hcnd _
  have hval : ∀ (j : Nat) t v, Try.f12.params[j]? = some t → args[j]? = some v → Value.okWide Try.prog W .any base t v := hval0
  have hW' := hW
  obtain ⟨p, q, hA0, hV, rfl, hfz, hnd⟩ := hW
  have hA : DataW.TrodAll enc Try.prog W 0 (fun _ => true) true Try.f12.params.toList args.toList ds p := hA0
  rw [Try.params12] at hA hval
  obtain ⟨v0, vs0, d0, ds0, p0, q0, hargs, rfl, rfl, h0, r0⟩ := trodAll_cons hA
  obtain ⟨rfl, rfl, rfl⟩ := trodAll_nil r0
  obtain rfl : args = #[v0] := by cases args; simp_all
  obtain ⟨rfl, rfl⟩ := trodVars_none hV
  have k0 := h0
  have lt0 : ∀ x ∈ p0, x.block < W.heap.size := by obtain ⟨m, hm⟩ := k0; exact DataW.trod_lt m _ _ _ hm
  obtain ⟨m0, a0, c0, b0, e0, rfl, w0⟩ := C.open_works (hval 0 25 v0 rfl rfl) h0
  clear hA0 hval0
  refine (walk W m0 a0 c0 b0 e0 w0).mono fun e W' ⟨he, hb⟩ => ?_
  subst he
  exact ⟨_, rfl, _, _, _, [], _, [], hW', trodAll_mk1 (shut_bool Try.underlying4 _), (trodAll_cons_mk (Below.trod P.laidOut (by kernel_rfl) (of_decide_eq_true (by kernel_rfl)) k0 hb lt0) trodAll_mk0), rfl, hb.frame _, fun h => by cases h⟩

theorem closed : joinedFacts Try.pinned.checked.prog 12 Try.f12 Rows.fnExactReachTableSpec Rows.fnExactReachTableRow = true := by
  show joinedFacts Try.prog 12 Try.f12 Rows.fnExactReachTableSpec Rows.fnExactReachTableRow = true
  unfold joinedFacts
  rw [P.cloEnter, P.cloMake, P.cloLift]
  kernel_rfl
theorem proved : Rows.FnExactReachTableSaid :=
  OpenClaim.holds_of_wide 12 Try.f12 rfl rfl rfl rfl rfl rfl rfl ⟨rfl, rfl, rfl, rfl, rfl⟩ rfl rfl rfl rfl rfl (by kernel_rfl) Try.func12 closed
    (of_decide_eq_true (by kernel_rfl)) (by unfold Func.isWrapper; first | (rw [if_pos (by decide +kernel)]; kernel_rfl) | (rw [if_neg (by decide +kernel)]; exact ⟨rfl, rfl⟩))
    (fun os started H enc _ => lifted os started H enc)
#print axioms proved
end Go.Proofs.Ytdgfceiobpnchaa.fnExactReachTable
