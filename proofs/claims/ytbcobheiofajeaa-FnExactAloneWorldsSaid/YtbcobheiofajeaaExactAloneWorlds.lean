/-
  PROVED: for every maze aM the law laws.FnExactAloneWorlds returns true, that is, impl.AloneWorlds answers as the model does, in memory of its own at each call; its argument reads afterwards as before. Conditions: none.
-/
import Derived.Test.YtbcobheiofajeaaRows
import Derived.Test.YtbcobheiofajeaaWAMem
import Derived.Test.YtbcobheiofajeaaClo
import Derived.Test.YtbcobheiofajeaaWlM
import Derived.Test.YtbcobheiofajeaaWalS
import Derived.Test.YtbcobheiofajeaaWalI
import Derived.WalkKit
import Derived.ProofKit
import Derived.JoinedOf
import Derived.OpenShut
import Derived.ShutString
import Derived.Deep.RegionWith
import Derived.Deep.DeepCutAuto
namespace Go.Proofs.Ytbcobheiofajeaa.fnExactAloneWorlds
open Go.ChangeShapes Go.WideShapes Go.ChangeAt Go.RowKit
open Go.ChangeMaps (open_string shut_string)
set_option linter.unusedVariables false

set_option maxHeartbeats 4000000 in
set_option maxRecDepth 100000 in
theorem walk (w : World) (m0 : M.Mz) (a0 : Option Addr) (c0 : Nat) (b0 : Option Addr) (d0 : Nat) (w0 : C.MzIn 0 w.heap.size w m0 a0 c0 b0 d0) :
    Calls Try.prog 12 #[(.agg #[.int .i64 m0.size, .slice a0 m0.doors.length c0, .slice b0 m0.keys.length d0])] w fun e w' => e = .returned (.bool true) ∧ Below w.heap.size w w' := by
  have y0 := Nat.le_trans w0.c1 w0.c2
  have z0 := Nat.le_trans w0.d1 w0.d2
  have x0 := Lib.hid w0
  clear w0
  by_cases s0 : 1048576 < m0.doors.length + m0.keys.length
  · go_enter Try.func12, Try.ntmps12
    have bb_1 := Lib.hid (Below.refl w.heap.size w)
    go_wp2_with fail
    refine C.named ?_
    intro W0 hW0
    have kW0 : Below w.heap.size w W0 := by rw [hW0]; exact (by (repeat (first | exact Below.refl _ _ | (refine Below.alloc ?_ (by first | omega | (simp; done) | (simp; omega)) _))))
    have bx_2p : C.Box3 W0 (w.heap.size) 51 (.int .i64 m0.size) (.slice a0 m0.doors.length c0) (.slice b0 m0.keys.length d0) := by rw [hW0]; exact C.Box3.new _ _ _ _ (by simp)
    have bx_2q := bx_2p.lt
    have bx_2 := Lib.hid bx_2p
    clear bx_2p
    clear hW0
    have tt_3 := Lib.hid (C.Turned.of_below kW0 0 0)
    have zz_4 := tt_3.out.size
    have ff_5 := Lib.hid (x0.out.turned tt_3.out (by omega) (by omega))
    clear x0
    have bb_6 := Lib.hid (C.Below.far bb_1.out tt_3.out)
    clear tt_3 bb_1
    clear kW0
    refine (C.szMaze_any W0 m0 a0 b0 c0 d0 (1048576) (by omega) (by omega) (by omega) (by omega)).mono ?_
    rintro e W1 ⟨rfl, hb⟩
    have tt_7 := Lib.hid (C.Turned.of_below hb 0 0)
    have zz_8 := tt_7.out.size
    have ff_9 := Lib.hid (ff_5.out.turned tt_7.out (by omega) (by omega))
    clear ff_5
    have ff_10 := Lib.hid (bx_2.out.turned tt_7.out (by omega))
    clear bx_2
    have bb_11 := Lib.hid (C.Below.far bb_6.out tt_7.out)
    clear tt_7 bb_6
    clear hb
    rw [if_pos (by omega)]
    obtain ⟨cl_12, cl_13, cl_14⟩ := ff_10.out.cells
    have cq_15 := ff_10.out.lt
    go_wp2_with fail
    go_ret
    exact ⟨rfl, bb_11.out⟩
  go_enter Try.func12, Try.ntmps12
  have bb_1 := Lib.hid (Below.refl w.heap.size w)
  go_wp2_with fail
  refine C.named ?_
  intro W0 hW0
  have kW0 : Below w.heap.size w W0 := by rw [hW0]; exact (by (repeat (first | exact Below.refl _ _ | (refine Below.alloc ?_ (by first | omega | (simp; done) | (simp; omega)) _))))
  have bx_2p : C.Box3 W0 (w.heap.size) 51 (.int .i64 m0.size) (.slice a0 m0.doors.length c0) (.slice b0 m0.keys.length d0) := by rw [hW0]; exact C.Box3.new _ _ _ _ (by simp)
  have bx_2q := bx_2p.lt
  have bx_2 := Lib.hid bx_2p
  clear bx_2p
  clear hW0
  have tt_3 := Lib.hid (C.Turned.of_below kW0 0 0)
  have zz_4 := tt_3.out.size
  have ff_5 := Lib.hid (x0.out.turned tt_3.out (by omega) (by omega))
  clear x0
  have bb_6 := Lib.hid (C.Below.far bb_1.out tt_3.out)
  clear tt_3 bb_1
  clear kW0
  refine (C.szMaze_any W0 m0 a0 b0 c0 d0 (1048576) (by omega) (by omega) (by omega) (by omega)).mono ?_
  rintro e W1 ⟨rfl, hb⟩
  have tt_7 := Lib.hid (C.Turned.of_below hb 0 0)
  have zz_8 := tt_7.out.size
  have ff_9 := Lib.hid (ff_5.out.turned tt_7.out (by omega) (by omega))
  clear ff_5
  have ff_10 := Lib.hid (bx_2.out.turned tt_7.out (by omega))
  clear bx_2
  have bb_11 := Lib.hid (C.Below.far bb_6.out tt_7.out)
  clear tt_7 bb_6
  clear hb
  rw [if_neg (by omega)]
  obtain ⟨cl_12, cl_13, cl_14⟩ := ff_10.out.cells
  have cq_15 := ff_10.out.lt
  have hbd : M.szW (M.aloneV m0) ≤ 1048576 := M.alone_sz (by omega)
  have hbd3 := M.mkW_le (M.aloneV m0)
  go_wp2_with fail
  refine (C.toMaze_any W1 0 w.heap.size m0 a0 b0 c0 d0 ff_9.out (by omega) (by omega) (by omega)).mono ?_
  rintro e W2 ⟨t_16, t_17, t_18, t_19, rfl, ho, hb⟩
  clear cl_12 cl_13 cl_14 cq_15
  have tt_20 := Lib.hid (C.Turned.of_below hb 0 0)
  have zz_21 := tt_20.out.size
  have ff_22 := Lib.hid (ff_9.out.turned tt_20.out (by omega) (by omega))
  clear ff_9
  have ff_23 := Lib.hid (ff_10.out.turned tt_20.out (by omega))
  clear ff_10
  have bb_24 := Lib.hid (C.Below.far bb_11.out tt_20.out)
  clear tt_20 bb_11
  clear hb
  have fo_25 := Lib.hid ho
  clear ho
  obtain ⟨cl_26, cl_27, cl_28⟩ := ff_23.out.cells
  have cq_29 := ff_23.out.lt
  go_wp2_with fail
  refine (C.specAlone_lw W2 (W1.heap.size) (W2.heap.size) m0 t_16 t_18 t_17 t_19 fo_25.out.mz (by omega) (by omega) (by omega)).mono ?_
  rintro e W3 ⟨r_30, r_31, r_32, r_33, rfl, ho, hb⟩
  clear cl_26 cl_27 cl_28 cq_29
  have tt_34 := Lib.hid (C.Turned.of_below hb 0 0)
  have zz_35 := tt_34.out.size
  have ff_36 := Lib.hid (ff_22.out.turned tt_34.out (by omega) (by omega))
  clear ff_22
  have ff_37 := Lib.hid (fo_25.out.turned tt_34.out (by omega) (by omega))
  clear fo_25
  have ff_38 := Lib.hid (ff_23.out.turned tt_34.out (by omega))
  clear ff_23
  have bb_39 := Lib.hid (C.Below.far bb_24.out tt_34.out)
  clear tt_34 bb_24
  clear hb
  have fo_40 := Lib.hid ho
  clear ho
  obtain ⟨cl_41, cl_42, cl_43⟩ := ff_38.out.cells
  have cq_44 := ff_38.out.lt
  clear ff_37
  go_wp2_with fail
  refine C.named ?_
  intro W4 hW4
  have kW4 : Below W3.heap.size W3 W4 := by rw [hW4]; exact (by (repeat (first | exact Below.refl _ _ | (refine Below.alloc ?_ (by first | omega | (simp; done) | (simp; omega)) _))))
  have bx_45p : C.Box2 W4 (W3.heap.size) 30 (.slice r_30 (M.aloneV m0).mazes.length r_31) (.slice r_32 (M.aloneV m0).owners.length r_33) := by rw [hW4]; exact C.Box2.new _ _ _ (by simp)
  have bx_45q := bx_45p.lt
  have bx_45 := Lib.hid bx_45p
  clear bx_45p
  clear hW4
  clear cl_41 cl_42 cl_43 cq_44
  have tt_46 := Lib.hid (C.Turned.of_below kW4 0 0)
  have zz_47 := tt_46.out.size
  have ff_48 := Lib.hid (ff_36.out.turned tt_46.out (by omega) (by omega))
  clear ff_36
  have ff_49 := Lib.hid (fo_40.out.turned tt_46.out (by omega) (by omega))
  clear fo_40
  have ff_50 := Lib.hid (ff_38.out.turned tt_46.out (by omega))
  clear ff_38
  have bb_51 := Lib.hid (C.Below.far bb_39.out tt_46.out)
  clear tt_46 bb_39
  clear kW4
  refine (C.toMaze_any W4 0 w.heap.size m0 a0 b0 c0 d0 ff_48.out (by omega) (by omega) (by omega)).mono ?_
  rintro e W5 ⟨t_52, t_53, t_54, t_55, rfl, ho, hb⟩
  have tt_56 := Lib.hid (C.Turned.of_below hb 0 0)
  have zz_57 := tt_56.out.size
  have ff_58 := Lib.hid (ff_48.out.turned tt_56.out (by omega) (by omega))
  clear ff_48
  have ff_59 := Lib.hid (ff_49.out.turned tt_56.out (by omega) (by omega))
  clear ff_49
  have ff_60 := Lib.hid (ff_50.out.turned tt_56.out (by omega))
  clear ff_50
  have ff_61 := Lib.hid (bx_45.out.turned tt_56.out (by omega))
  clear bx_45
  have bb_62 := Lib.hid (C.Below.far bb_51.out tt_56.out)
  clear tt_56 bb_51
  clear hb
  have fo_63 := Lib.hid ho
  clear ho
  obtain ⟨cl_64, cl_65, cl_66⟩ := ff_60.out.cells
  have cq_67 := ff_60.out.lt
  obtain ⟨cl_68, cl_69⟩ := ff_61.out.cells
  have cq_70 := ff_61.out.lt
  go_wp2_with fail
  refine C.named ?_
  intro W6 hW6
  have kW6 : Below W5.heap.size W5 W6 := by rw [hW6]; exact (by (repeat (first | exact Below.refl _ _ | (refine Below.alloc ?_ (by first | omega | (simp; done) | (simp; omega)) _))))
  have bx_71p : C.Box3 W6 (W5.heap.size) 55 (.int .i64 m0.size) (.slice t_52 m0.doors.length t_53) (.slice t_54 m0.keys.length t_55) := by rw [hW6]; exact C.Box3.new _ _ _ _ (by simp)
  have bx_71q := bx_71p.lt
  have bx_71 := Lib.hid bx_71p
  clear bx_71p
  clear hW6
  clear cl_64 cl_65 cl_66 cq_67 cl_68 cl_69 cq_70
  have tt_72 := Lib.hid (C.Turned.of_below kW6 0 0)
  have zz_73 := tt_72.out.size
  have ff_74 := Lib.hid (ff_58.out.turned tt_72.out (by omega) (by omega))
  clear ff_58
  have ff_75 := Lib.hid (ff_59.out.turned tt_72.out (by omega) (by omega))
  clear ff_59
  have ff_76 := Lib.hid (fo_63.out.turned tt_72.out (by omega) (by omega))
  clear fo_63
  have ff_77 := Lib.hid (ff_60.out.turned tt_72.out (by omega))
  clear ff_60
  have ff_78 := Lib.hid (ff_61.out.turned tt_72.out (by omega))
  clear ff_61
  have bb_79 := Lib.hid (C.Below.far bb_62.out tt_72.out)
  clear tt_72 bb_62
  clear kW6
  refine (C.implAlone_lw W6 (W4.heap.size) (W5.heap.size) m0 t_52 t_54 t_53 t_55 ff_76.out.mz (by omega) (by omega) (by omega)).mono ?_
  rintro e W7 ⟨r_80, r_81, r_82, r_83, rfl, ho, hb⟩
  have tt_84 := Lib.hid (C.Turned.of_below hb 0 0)
  have zz_85 := tt_84.out.size
  have ff_86 := Lib.hid (ff_74.out.turned tt_84.out (by omega) (by omega))
  clear ff_74
  have ff_87 := Lib.hid (ff_75.out.turned tt_84.out (by omega) (by omega))
  clear ff_75
  have ff_88 := Lib.hid (ff_76.out.turned tt_84.out (by omega) (by omega))
  clear ff_76
  have ff_89 := Lib.hid (ff_77.out.turned tt_84.out (by omega))
  clear ff_77
  have ff_90 := Lib.hid (ff_78.out.turned tt_84.out (by omega))
  clear ff_78
  have ff_91 := Lib.hid (bx_71.out.turned tt_84.out (by omega))
  clear bx_71
  have bb_92 := Lib.hid (C.Below.far bb_79.out tt_84.out)
  clear tt_84 bb_79
  clear hb
  have fo_93 := Lib.hid ho
  clear ho
  obtain ⟨cl_94, cl_95, cl_96⟩ := ff_89.out.cells
  have cq_97 := ff_89.out.lt
  obtain ⟨cl_98, cl_99⟩ := ff_90.out.cells
  have cq_100 := ff_90.out.lt
  obtain ⟨cl_101, cl_102, cl_103⟩ := ff_91.out.cells
  have cq_104 := ff_91.out.lt
  go_wp2_with fail
  refine C.named ?_
  intro W8 hW8
  have kW8 : Below W7.heap.size W7 W8 := by rw [hW8]; exact (by (repeat (first | exact Below.refl _ _ | (refine Below.alloc ?_ (by first | omega | (simp; done) | (simp; omega)) _))))
  have bx_105p : C.Box2 W8 (W7.heap.size) 30 (.slice r_80 (M.aloneV m0).mazes.length r_81) (.slice r_82 (M.aloneV m0).owners.length r_83) := by rw [hW8]; exact C.Box2.new _ _ _ (by simp)
  have bx_105q := bx_105p.lt
  have bx_105 := Lib.hid bx_105p
  clear bx_105p
  clear hW8
  clear cl_94 cl_95 cl_96 cq_97 cl_98 cl_99 cq_100 cl_101 cl_102 cl_103 cq_104
  have tt_106 := Lib.hid (C.Turned.of_below kW8 0 0)
  have zz_107 := tt_106.out.size
  have ff_108 := Lib.hid (ff_86.out.turned tt_106.out (by omega) (by omega))
  clear ff_86
  have ff_109 := Lib.hid (ff_87.out.turned tt_106.out (by omega) (by omega))
  clear ff_87
  have ff_110 := Lib.hid (ff_88.out.turned tt_106.out (by omega) (by omega))
  clear ff_88
  have ff_111 := Lib.hid (fo_93.out.turned tt_106.out (by omega) (by omega))
  clear fo_93
  have ff_112 := Lib.hid (ff_89.out.turned tt_106.out (by omega))
  clear ff_89
  have ff_113 := Lib.hid (ff_90.out.turned tt_106.out (by omega))
  clear ff_90
  have ff_114 := Lib.hid (ff_91.out.turned tt_106.out (by omega))
  clear ff_91
  have bb_115 := Lib.hid (C.Below.far bb_92.out tt_106.out)
  clear tt_106 bb_92
  clear kW8
  refine (C.eqWorlds_any W8 (W6.heap.size) (W7.heap.size) (W2.heap.size) (W3.heap.size) (M.aloneV m0) r_80 r_82 r_30 r_32 r_81 r_83 r_31 r_33 ff_111.out.mz ff_109.out.mz (by omega) (by omega) (by omega)).mono ?_
  rintro e W9 ⟨rfl, hb⟩
  have tt_116 := Lib.hid (C.Turned.of_below hb 0 0)
  have zz_117 := tt_116.out.size
  have ff_118 := Lib.hid (ff_108.out.turned tt_116.out (by omega) (by omega))
  clear ff_108
  have ff_119 := Lib.hid (ff_109.out.turned tt_116.out (by omega) (by omega))
  clear ff_109
  have ff_120 := Lib.hid (ff_110.out.turned tt_116.out (by omega) (by omega))
  clear ff_110
  have ff_121 := Lib.hid (ff_111.out.turned tt_116.out (by omega) (by omega))
  clear ff_111
  have ff_122 := Lib.hid (ff_112.out.turned tt_116.out (by omega))
  clear ff_112
  have ff_123 := Lib.hid (ff_113.out.turned tt_116.out (by omega))
  clear ff_113
  have ff_124 := Lib.hid (ff_114.out.turned tt_116.out (by omega))
  clear ff_114
  have ff_125 := Lib.hid (bx_105.out.turned tt_116.out (by omega))
  clear bx_105
  have bb_126 := Lib.hid (C.Below.far bb_115.out tt_116.out)
  clear tt_116 bb_115
  clear hb
  obtain ⟨cl_127, cl_128, cl_129⟩ := ff_122.out.cells
  have cq_130 := ff_122.out.lt
  obtain ⟨cl_131, cl_132⟩ := ff_123.out.cells
  have cq_133 := ff_123.out.lt
  obtain ⟨cl_134, cl_135, cl_136⟩ := ff_124.out.cells
  have cq_137 := ff_124.out.lt
  obtain ⟨cl_138, cl_139⟩ := ff_125.out.cells
  have cq_140 := ff_125.out.lt
  go_upto_region 10 with fail
  go_cut [45] (fun sl wx => sl = .bool false ∧ Below W9.heap.size W9 wx)
  case first =>
    go_region_with (first | (go_at_call 45; refine (C.toMaze_any W9.drew 0 w.heap.size m0 a0 b0 c0 d0 (ff_118.out.turned (C.Turned.of_below (Below.refl W9.heap.size W9).drew 0 0) (by omega) (by omega)) (show w.heap.size ≤ W9.heap.size by omega) (by omega) (by omega)).mono ?_; rintro e w2 ⟨t_141, t_142, t_143, t_144, rfl, ho, hb⟩; have hbq : Below W9.heap.size W9 w2 := (Below.refl W9.heap.size W9).drew.trans hb; have hzq := hbq.size; obtain ⟨cm_145, cm_146, cm_147⟩ := (ff_122.out.turned (C.Turned.of_below hbq 0 0) (by omega)).cells; obtain ⟨cm_148, cm_149⟩ := (ff_123.out.turned (C.Turned.of_below hbq 0 0) (by omega)).cells; obtain ⟨cm_150, cm_151, cm_152⟩ := (ff_124.out.turned (C.Turned.of_below hbq 0 0) (by omega)).cells; obtain ⟨cm_153, cm_154⟩ := (ff_125.out.turned (C.Turned.of_below hbq 0 0) (by omega)).cells) | (go_at_call 47; refine (C.eqMaze_any w2 (W4.heap.size) (W5.heap.size) _ _ m0 _ _ _ _ _ _ _ _ (C.MzOwn.mz (C.MzOwn.turned ff_120.out (C.Turned.of_below hbq 0 0) (by omega) (by omega))) ho.mz (by omega) (Nat.le_refl _) (by omega) (by omega)).mono ?_; rintro e w3 ⟨rfl, hb3⟩))
    all_goals (go_wp2_with fail; go_meet; exact ⟨rfl, C.Below.more hbq hb3⟩)
  case rest =>
    obtain ⟨rfl, hb⟩ := hcut
    obtain ⟨W10, rfl⟩ : ∃ W, W = wc := ⟨_, rfl⟩
    clear cl_127 cl_128 cl_129 cq_130 cl_131 cl_132 cq_133 cl_134 cl_135 cl_136 cq_137 cl_138 cl_139 cq_140
    have tt_155 := Lib.hid (C.Turned.of_below hb 0 0)
    have zz_156 := tt_155.out.size
    have ff_157 := Lib.hid (ff_118.out.turned tt_155.out (by omega) (by omega))
    clear ff_118
    have ff_158 := Lib.hid (ff_119.out.turned tt_155.out (by omega) (by omega))
    clear ff_119
    have ff_159 := Lib.hid (ff_120.out.turned tt_155.out (by omega) (by omega))
    clear ff_120
    have ff_160 := Lib.hid (ff_121.out.turned tt_155.out (by omega) (by omega))
    clear ff_121
    have ff_161 := Lib.hid (ff_122.out.turned tt_155.out (by omega))
    clear ff_122
    have ff_162 := Lib.hid (ff_123.out.turned tt_155.out (by omega))
    clear ff_123
    have ff_163 := Lib.hid (ff_124.out.turned tt_155.out (by omega))
    clear ff_124
    have ff_164 := Lib.hid (ff_125.out.turned tt_155.out (by omega))
    clear ff_125
    have bb_165 := Lib.hid (C.Below.far bb_126.out tt_155.out)
    clear tt_155 bb_126
    clear hb
    obtain ⟨cl_166, cl_167, cl_168⟩ := ff_161.out.cells
    have cq_169 := ff_161.out.lt
    obtain ⟨cl_170, cl_171⟩ := ff_162.out.cells
    have cq_172 := ff_162.out.lt
    obtain ⟨cl_173, cl_174, cl_175⟩ := ff_163.out.cells
    have cq_176 := ff_163.out.lt
    obtain ⟨cl_177, cl_178⟩ := ff_164.out.cells
    have cq_179 := ff_164.out.lt
    go_wp2_with fail
    refine (C.markMaze_any W10 (W4.heap.size) (W5.heap.size) m0 t_52 t_54 t_53 t_55 (1) ff_159.out (by omega) (by omega) (by omega) (by omega)).mono ?_
    rintro e W11 ⟨rfl, hm, ht⟩
    have fm_180 := Lib.hid hm
    clear hm
    clear ff_159
    clear cl_166 cl_167 cl_168 cq_169 cl_170 cl_171 cq_172 cl_173 cl_174 cl_175 cq_176 cl_177 cl_178 cq_179
    have tt_181 := Lib.hid (ht)
    have zz_182 := tt_181.out.size
    have ff_183 := Lib.hid (ff_157.out.turned tt_181.out (by omega) (by omega))
    clear ff_157
    have ff_184 := Lib.hid (ff_158.out.turned tt_181.out (by omega) (by omega))
    clear ff_158
    have ff_185 := Lib.hid (ff_160.out.turned tt_181.out (by omega) (by omega))
    clear ff_160
    have ff_186 := Lib.hid (ff_161.out.turned tt_181.out (by omega))
    clear ff_161
    have ff_187 := Lib.hid (ff_162.out.turned tt_181.out (by omega))
    clear ff_162
    have ff_188 := Lib.hid (ff_163.out.turned tt_181.out (by omega))
    clear ff_163
    have ff_189 := Lib.hid (ff_164.out.turned tt_181.out (by omega))
    clear ff_164
    have bb_190 := Lib.hid (C.Below.thenTurned bb_165.out tt_181.out (by omega) (by omega))
    clear tt_181 bb_165
    clear ht
    obtain ⟨cl_191, cl_192, cl_193⟩ := ff_186.out.cells
    have cq_194 := ff_186.out.lt
    obtain ⟨cl_195, cl_196⟩ := ff_187.out.cells
    have cq_197 := ff_187.out.lt
    obtain ⟨cl_198, cl_199, cl_200⟩ := ff_188.out.cells
    have cq_201 := ff_188.out.lt
    obtain ⟨cl_202, cl_203⟩ := ff_189.out.cells
    have cq_204 := ff_189.out.lt
    clear fm_180
    go_wp2_with fail
    refine (C.eqWorlds_any W11 (W6.heap.size) (W7.heap.size) (W2.heap.size) (W3.heap.size) (M.aloneV m0) r_80 r_82 r_30 r_32 r_81 r_83 r_31 r_33 ff_185.out.mz ff_184.out.mz (by omega) (by omega) (by omega)).mono ?_
    rintro e W12 ⟨rfl, hb⟩
    clear cl_191 cl_192 cl_193 cq_194 cl_195 cl_196 cq_197 cl_198 cl_199 cl_200 cq_201 cl_202 cl_203 cq_204
    have tt_205 := Lib.hid (C.Turned.of_below hb 0 0)
    have zz_206 := tt_205.out.size
    have ff_207 := Lib.hid (ff_183.out.turned tt_205.out (by omega) (by omega))
    clear ff_183
    have ff_208 := Lib.hid (ff_184.out.turned tt_205.out (by omega) (by omega))
    clear ff_184
    have ff_209 := Lib.hid (ff_185.out.turned tt_205.out (by omega) (by omega))
    clear ff_185
    have ff_210 := Lib.hid (ff_186.out.turned tt_205.out (by omega))
    clear ff_186
    have ff_211 := Lib.hid (ff_187.out.turned tt_205.out (by omega))
    clear ff_187
    have ff_212 := Lib.hid (ff_188.out.turned tt_205.out (by omega))
    clear ff_188
    have ff_213 := Lib.hid (ff_189.out.turned tt_205.out (by omega))
    clear ff_189
    have bb_214 := Lib.hid (C.Below.far bb_190.out tt_205.out)
    clear tt_205 bb_190
    clear hb
    obtain ⟨cl_215, cl_216, cl_217⟩ := ff_210.out.cells
    have cq_218 := ff_210.out.lt
    obtain ⟨cl_219, cl_220⟩ := ff_211.out.cells
    have cq_221 := ff_211.out.lt
    obtain ⟨cl_222, cl_223, cl_224⟩ := ff_212.out.cells
    have cq_225 := ff_212.out.lt
    obtain ⟨cl_226, cl_227⟩ := ff_213.out.cells
    have cq_228 := ff_213.out.lt
    go_wp2_with fail
    refine (C.markWorlds_any W12 (W6.heap.size) (W7.heap.size) (M.aloneV m0) r_80 r_82 r_81 r_83 (1) ff_209.out (by omega) (by omega) (by omega)).mono ?_
    rintro e W13 ⟨rfl, hm, ht⟩
    have fm_229 := Lib.hid hm
    clear hm
    clear ff_209
    clear cl_215 cl_216 cl_217 cq_218 cl_219 cl_220 cq_221 cl_222 cl_223 cl_224 cq_225 cl_226 cl_227 cq_228
    have tt_230 := Lib.hid (ht)
    have zz_231 := tt_230.out.size
    have ff_232 := Lib.hid (ff_207.out.turned tt_230.out (by omega) (by omega))
    clear ff_207
    have ff_233 := Lib.hid (ff_208.out.turned tt_230.out (by omega) (by omega))
    clear ff_208
    have ff_234 := Lib.hid (ff_210.out.turned tt_230.out (by omega))
    clear ff_210
    have ff_235 := Lib.hid (ff_211.out.turned tt_230.out (by omega))
    clear ff_211
    have ff_236 := Lib.hid (ff_212.out.turned tt_230.out (by omega))
    clear ff_212
    have ff_237 := Lib.hid (ff_213.out.turned tt_230.out (by omega))
    clear ff_213
    have bb_238 := Lib.hid (C.Below.thenTurned bb_214.out tt_230.out (by omega) (by omega))
    clear tt_230 bb_214
    clear ht
    obtain ⟨cl_239, cl_240, cl_241⟩ := ff_234.out.cells
    have cq_242 := ff_234.out.lt
    obtain ⟨cl_243, cl_244⟩ := ff_235.out.cells
    have cq_245 := ff_235.out.lt
    obtain ⟨cl_246, cl_247, cl_248⟩ := ff_236.out.cells
    have cq_249 := ff_236.out.lt
    obtain ⟨cl_250, cl_251⟩ := ff_237.out.cells
    have cq_252 := ff_237.out.lt
    go_wp2_with fail
    refine (C.heldWorlds_any W13 (W6.heap.size) (W7.heap.size) (M.aloneV m0) r_80 r_82 r_81 r_83 1 fm_229.out (by omega) (by omega) (by omega)).mono ?_
    rintro e W14 ⟨rfl, hb⟩
    clear cl_239 cl_240 cl_241 cq_242 cl_243 cl_244 cq_245 cl_246 cl_247 cl_248 cq_249 cl_250 cl_251 cq_252
    have tt_253 := Lib.hid (C.Turned.of_below hb 0 0)
    have zz_254 := tt_253.out.size
    have ff_255 := Lib.hid (ff_232.out.turned tt_253.out (by omega) (by omega))
    clear ff_232
    have ff_256 := Lib.hid (ff_233.out.turned tt_253.out (by omega) (by omega))
    clear ff_233
    have ff_257 := Lib.hid (fm_229.out.turned tt_253.out (by omega) (by omega))
    clear fm_229
    have ff_258 := Lib.hid (ff_234.out.turned tt_253.out (by omega))
    clear ff_234
    have ff_259 := Lib.hid (ff_235.out.turned tt_253.out (by omega))
    clear ff_235
    have ff_260 := Lib.hid (ff_236.out.turned tt_253.out (by omega))
    clear ff_236
    have ff_261 := Lib.hid (ff_237.out.turned tt_253.out (by omega))
    clear ff_237
    have bb_262 := Lib.hid (C.Below.far bb_238.out tt_253.out)
    clear tt_253 bb_238
    clear hb
    obtain ⟨cl_263, cl_264, cl_265⟩ := ff_258.out.cells
    have cq_266 := ff_258.out.lt
    obtain ⟨cl_267, cl_268⟩ := ff_259.out.cells
    have cq_269 := ff_259.out.lt
    obtain ⟨cl_270, cl_271, cl_272⟩ := ff_260.out.cells
    have cq_273 := ff_260.out.lt
    obtain ⟨cl_274, cl_275⟩ := ff_261.out.cells
    have cq_276 := ff_261.out.lt
    go_wp2_with fail
    refine (C.toMaze_any W14 0 w.heap.size m0 a0 b0 c0 d0 ff_255.out (by omega) (by omega) (by omega)).mono ?_
    rintro e W15 ⟨t_277, t_278, t_279, t_280, rfl, ho, hb⟩
    clear cl_263 cl_264 cl_265 cq_266 cl_267 cl_268 cq_269 cl_270 cl_271 cl_272 cq_273 cl_274 cl_275 cq_276
    have tt_281 := Lib.hid (C.Turned.of_below hb 0 0)
    have zz_282 := tt_281.out.size
    have ff_283 := Lib.hid (ff_255.out.turned tt_281.out (by omega) (by omega))
    clear ff_255
    have ff_284 := Lib.hid (ff_256.out.turned tt_281.out (by omega) (by omega))
    clear ff_256
    have ff_285 := Lib.hid (ff_257.out.turned tt_281.out (by omega) (by omega))
    clear ff_257
    have ff_286 := Lib.hid (ff_258.out.turned tt_281.out (by omega))
    clear ff_258
    have ff_287 := Lib.hid (ff_259.out.turned tt_281.out (by omega))
    clear ff_259
    have ff_288 := Lib.hid (ff_260.out.turned tt_281.out (by omega))
    clear ff_260
    have ff_289 := Lib.hid (ff_261.out.turned tt_281.out (by omega))
    clear ff_261
    have bb_290 := Lib.hid (C.Below.far bb_262.out tt_281.out)
    clear tt_281 bb_262
    clear hb
    have fo_291 := Lib.hid ho
    clear ho
    obtain ⟨cl_292, cl_293, cl_294⟩ := ff_286.out.cells
    have cq_295 := ff_286.out.lt
    obtain ⟨cl_296, cl_297⟩ := ff_287.out.cells
    have cq_298 := ff_287.out.lt
    obtain ⟨cl_299, cl_300, cl_301⟩ := ff_288.out.cells
    have cq_302 := ff_288.out.lt
    obtain ⟨cl_303, cl_304⟩ := ff_289.out.cells
    have cq_305 := ff_289.out.lt
    go_wp2_with fail
    refine (C.implAlone_lw W15 (W14.heap.size) (W15.heap.size) m0 t_277 t_279 t_278 t_280 fo_291.out.mz (by omega) (by omega) (by omega)).mono ?_
    rintro e W16 ⟨r_306, r_307, r_308, r_309, rfl, ho, hb⟩
    clear cl_292 cl_293 cl_294 cq_295 cl_296 cl_297 cq_298 cl_299 cl_300 cl_301 cq_302 cl_303 cl_304 cq_305
    have tt_310 := Lib.hid (C.Turned.of_below hb 0 0)
    have zz_311 := tt_310.out.size
    have ff_312 := Lib.hid (ff_283.out.turned tt_310.out (by omega) (by omega))
    clear ff_283
    have ff_313 := Lib.hid (ff_284.out.turned tt_310.out (by omega) (by omega))
    clear ff_284
    have ff_314 := Lib.hid (ff_285.out.turned tt_310.out (by omega) (by omega))
    clear ff_285
    have ff_315 := Lib.hid (fo_291.out.turned tt_310.out (by omega) (by omega))
    clear fo_291
    have ff_316 := Lib.hid (ff_286.out.turned tt_310.out (by omega))
    clear ff_286
    have ff_317 := Lib.hid (ff_287.out.turned tt_310.out (by omega))
    clear ff_287
    have ff_318 := Lib.hid (ff_288.out.turned tt_310.out (by omega))
    clear ff_288
    have ff_319 := Lib.hid (ff_289.out.turned tt_310.out (by omega))
    clear ff_289
    have bb_320 := Lib.hid (C.Below.far bb_290.out tt_310.out)
    clear tt_310 bb_290
    clear hb
    have fo_321 := Lib.hid ho
    clear ho
    obtain ⟨cl_322, cl_323, cl_324⟩ := ff_316.out.cells
    have cq_325 := ff_316.out.lt
    obtain ⟨cl_326, cl_327⟩ := ff_317.out.cells
    have cq_328 := ff_317.out.lt
    obtain ⟨cl_329, cl_330, cl_331⟩ := ff_318.out.cells
    have cq_332 := ff_318.out.lt
    obtain ⟨cl_333, cl_334⟩ := ff_319.out.cells
    have cq_335 := ff_319.out.lt
    clear ff_315
    go_wp2_with fail
    refine C.named ?_
    intro W17 hW17
    have kW17 : Below W16.heap.size W16 W17 := by rw [hW17]; exact (by (repeat (first | exact Below.refl _ _ | (refine Below.alloc ?_ (by first | omega | (simp; done) | (simp; omega)) _))))
    have bx_336p : C.Box2 W17 (W16.heap.size) 30 (.slice r_306 (M.aloneV m0).mazes.length r_307) (.slice r_308 (M.aloneV m0).owners.length r_309) := by rw [hW17]; exact C.Box2.new _ _ _ (by simp)
    have bx_336q := bx_336p.lt
    have bx_336 := Lib.hid bx_336p
    clear bx_336p
    clear hW17
    clear cl_322 cl_323 cl_324 cq_325 cl_326 cl_327 cq_328 cl_329 cl_330 cl_331 cq_332 cl_333 cl_334 cq_335
    have tt_337 := Lib.hid (C.Turned.of_below kW17 0 0)
    have zz_338 := tt_337.out.size
    have ff_339 := Lib.hid (ff_312.out.turned tt_337.out (by omega) (by omega))
    clear ff_312
    have ff_340 := Lib.hid (ff_313.out.turned tt_337.out (by omega) (by omega))
    clear ff_313
    have ff_341 := Lib.hid (ff_314.out.turned tt_337.out (by omega) (by omega))
    clear ff_314
    have ff_342 := Lib.hid (fo_321.out.turned tt_337.out (by omega) (by omega))
    clear fo_321
    have ff_343 := Lib.hid (ff_316.out.turned tt_337.out (by omega))
    clear ff_316
    have ff_344 := Lib.hid (ff_317.out.turned tt_337.out (by omega))
    clear ff_317
    have ff_345 := Lib.hid (ff_318.out.turned tt_337.out (by omega))
    clear ff_318
    have ff_346 := Lib.hid (ff_319.out.turned tt_337.out (by omega))
    clear ff_319
    have bb_347 := Lib.hid (C.Below.far bb_320.out tt_337.out)
    clear tt_337 bb_320
    clear kW17
    refine (C.eqWorlds_any W17 (W15.heap.size) (W16.heap.size) (W2.heap.size) (W3.heap.size) (M.aloneV m0) r_306 r_308 r_30 r_32 r_307 r_309 r_31 r_33 ff_342.out.mz ff_340.out.mz (by omega) (by omega) (by omega)).mono ?_
    rintro e W18 ⟨rfl, hb⟩
    have tt_348 := Lib.hid (C.Turned.of_below hb 0 0)
    have zz_349 := tt_348.out.size
    have ff_350 := Lib.hid (ff_339.out.turned tt_348.out (by omega) (by omega))
    clear ff_339
    have ff_351 := Lib.hid (ff_340.out.turned tt_348.out (by omega) (by omega))
    clear ff_340
    have ff_352 := Lib.hid (ff_341.out.turned tt_348.out (by omega) (by omega))
    clear ff_341
    have ff_353 := Lib.hid (ff_342.out.turned tt_348.out (by omega) (by omega))
    clear ff_342
    have ff_354 := Lib.hid (ff_343.out.turned tt_348.out (by omega))
    clear ff_343
    have ff_355 := Lib.hid (ff_344.out.turned tt_348.out (by omega))
    clear ff_344
    have ff_356 := Lib.hid (ff_345.out.turned tt_348.out (by omega))
    clear ff_345
    have ff_357 := Lib.hid (ff_346.out.turned tt_348.out (by omega))
    clear ff_346
    have ff_358 := Lib.hid (bx_336.out.turned tt_348.out (by omega))
    clear bx_336
    have bb_359 := Lib.hid (C.Below.far bb_347.out tt_348.out)
    clear tt_348 bb_347
    clear hb
    obtain ⟨cl_360, cl_361, cl_362⟩ := ff_354.out.cells
    have cq_363 := ff_354.out.lt
    obtain ⟨cl_364, cl_365⟩ := ff_355.out.cells
    have cq_366 := ff_355.out.lt
    obtain ⟨cl_367, cl_368, cl_369⟩ := ff_356.out.cells
    have cq_370 := ff_356.out.lt
    obtain ⟨cl_371, cl_372⟩ := ff_357.out.cells
    have cq_373 := ff_357.out.lt
    obtain ⟨cl_374, cl_375⟩ := ff_358.out.cells
    have cq_376 := ff_358.out.lt
    go_wp2_with fail
    refine (C.heldWorlds_any W18 (W6.heap.size) (W7.heap.size) (M.aloneV m0) r_80 r_82 r_81 r_83 1 ff_352.out (by omega) (by omega) (by omega)).mono ?_
    rintro e W19 ⟨rfl, hb⟩
    clear cl_360 cl_361 cl_362 cq_363 cl_364 cl_365 cq_366 cl_367 cl_368 cl_369 cq_370 cl_371 cl_372 cq_373 cl_374 cl_375 cq_376
    have tt_377 := Lib.hid (C.Turned.of_below hb 0 0)
    have zz_378 := tt_377.out.size
    have ff_379 := Lib.hid (ff_350.out.turned tt_377.out (by omega) (by omega))
    clear ff_350
    have ff_380 := Lib.hid (ff_351.out.turned tt_377.out (by omega) (by omega))
    clear ff_351
    have ff_381 := Lib.hid (ff_352.out.turned tt_377.out (by omega) (by omega))
    clear ff_352
    have ff_382 := Lib.hid (ff_353.out.turned tt_377.out (by omega) (by omega))
    clear ff_353
    have ff_383 := Lib.hid (ff_354.out.turned tt_377.out (by omega))
    clear ff_354
    have ff_384 := Lib.hid (ff_355.out.turned tt_377.out (by omega))
    clear ff_355
    have ff_385 := Lib.hid (ff_356.out.turned tt_377.out (by omega))
    clear ff_356
    have ff_386 := Lib.hid (ff_357.out.turned tt_377.out (by omega))
    clear ff_357
    have ff_387 := Lib.hid (ff_358.out.turned tt_377.out (by omega))
    clear ff_358
    have bb_388 := Lib.hid (C.Below.far bb_359.out tt_377.out)
    clear tt_377 bb_359
    clear hb
    obtain ⟨cl_389, cl_390, cl_391⟩ := ff_383.out.cells
    have cq_392 := ff_383.out.lt
    obtain ⟨cl_393, cl_394⟩ := ff_384.out.cells
    have cq_395 := ff_384.out.lt
    obtain ⟨cl_396, cl_397, cl_398⟩ := ff_385.out.cells
    have cq_399 := ff_385.out.lt
    obtain ⟨cl_400, cl_401⟩ := ff_386.out.cells
    have cq_402 := ff_386.out.lt
    obtain ⟨cl_403, cl_404⟩ := ff_387.out.cells
    have cq_405 := ff_387.out.lt
    go_wp2_with fail
    go_ret
    exact ⟨rfl, bb_388.out⟩


set_option maxRecDepth 100000 in
theorem lifted (os : Os) (started : os.Started) (H : Type) (enc : TypeId × Value → H) :
    ReturnsInHanded {} Try.checked os 12 .any (Rows.fnExactAloneWorldsSpec.pre6 enc Try.prog Try.f12 Rows.fnExactAloneWorldsRow.domain false) (Rows.fnExactAloneWorldsSpec.post enc Try.prog Try.f12 false true false false) := by
  refine returnsInHanded_of_change (C := Try.checked) P.own started (by kernel_rfl) Try.func12
    (ChangeSpec.witness6 (enc := enc) (C := Try.checked) false ⟨#[], #[.agg #[.int .i64 0, .slice none 0 0, .slice none 0 0]], []⟩ 8 (by kernel_rfl) (by kernel_rfl) (by kernel_rfl) (by kernel_rfl)) ?_
  intro W base args ds gs before hval0 hW hcnd _
  have hval : ∀ (j : Nat) t v, Try.f12.params[j]? = some t → args[j]? = some v → Value.okWide Try.prog W .any base t v := hval0
  have hW' := hW
  obtain ⟨p, q, hA0, hV, rfl, hfz, hnd⟩ := hW
  have hA : DataW.TrodAll enc Try.prog W 0 (fun _ => true) true Try.f12.params.toList args.toList ds p := hA0
  rw [Try.params12] at hA hval
  obtain ⟨v0, vs0, d0, ds0, p0, q0, hargs, rfl, rfl, h0, r0⟩ := trodAll_cons hA
  obtain ⟨rfl, rfl, rfl⟩ := trodAll_nil r0
  obtain rfl : args = #[v0] := by cases args; simp_all
  obtain ⟨rfl, rfl⟩ := trodVars_none hV
  have k0 := h0
  have lt0 : ∀ x ∈ p0, x.block < W.heap.size := by obtain ⟨m, hm⟩ := k0; exact DataW.trod_lt m _ _ _ hm
  obtain ⟨m0, a0, c0, b0, e0, rfl, w0⟩ := C.open_maze (hval 0 51 v0 rfl rfl) h0
  clear hA0 hval0
  refine (walk W m0 a0 c0 b0 e0 w0).mono fun e W' ⟨he, hb⟩ => ?_
  subst he
  exact ⟨_, rfl, _, _, _, [], _, [], hW', trodAll_mk1 (shut_bool Try.underlying4 _), (trodAll_cons_mk (Below.trod P.laidOut (by kernel_rfl) (of_decide_eq_true (by kernel_rfl)) k0 hb lt0) trodAll_mk0), rfl, hb.frame _, fun h => by cases h⟩

theorem closed : joinedFacts Try.pinned.checked.prog 12 Try.f12 Rows.fnExactAloneWorldsSpec Rows.fnExactAloneWorldsRow = true := by
  show joinedFacts Try.prog 12 Try.f12 Rows.fnExactAloneWorldsSpec Rows.fnExactAloneWorldsRow = true
  unfold joinedFacts
  rw [P.cloEnter, P.cloMake, P.cloLift]
  kernel_rfl
theorem proved : Rows.FnExactAloneWorldsSaid :=
  OpenClaim.holds_of_wide 12 Try.f12 rfl rfl rfl rfl rfl rfl rfl ⟨rfl, rfl, rfl, rfl, rfl⟩ rfl rfl rfl rfl rfl (by kernel_rfl) Try.func12 closed
    (of_decide_eq_true (by kernel_rfl)) (by unfold Func.isWrapper; first | (rw [if_pos (by decide +kernel)]; kernel_rfl) | (rw [if_neg (by decide +kernel)]; exact ⟨rfl, rfl⟩))
    (fun os started H enc _ => lifted os started H enc)
#print axioms proved
end Go.Proofs.Ytbcobheiofajeaa.fnExactAloneWorlds
