/-
  PROVED: for all worlds aW and all ints aI, aX and aOwner the law laws.FnExactGiveKeys returns true, that is, impl.GiveKeys answers as the model does, in memory of its own at each call; its arguments read afterwards as before. Conditions: none.
-/
import Derived.Test.YtbcobheiofajeaaRows
import Derived.Test.YtbcobheiofajeaaWAMem
import Derived.Test.YtbcobheiofajeaaClo
import Derived.Test.YtbcobheiofajeaaWlM
import Derived.Test.YtbcobheiofajeaaWgvS
import Derived.Test.YtbcobheiofajeaaWgvI
import Derived.WalkKit
import Derived.ProofKit
import Derived.JoinedOf
import Derived.OpenShut
import Derived.ShutString
import Derived.Deep.RegionWith
import Derived.Deep.DeepCutAuto
namespace Go.Proofs.Ytbcobheiofajeaa.fnExactGiveKeys
open Go.ChangeShapes Go.WideShapes Go.ChangeAt Go.RowKit
open Go.ChangeMaps (open_string shut_string)
set_option linter.unusedVariables false

set_option maxHeartbeats 4000000 in
set_option maxRecDepth 100000 in
theorem walk (w : World) (m0 : M.Wl) (a0 : Option Addr) (c0 : Nat) (b0 : Option Addr) (d0 : Nat) (w0 : C.WlIn 0 w.heap.size w m0 a0 c0 b0 d0) (a1 : Int) (w1 : (Lit.int .i64 a1).wf = true) (a2 : Int) (w2 : (Lit.int .i64 a2).wf = true) (a3 : Int) (w3 : (Lit.int .i64 a3).wf = true) :
    Calls Try.prog 14 #[(.agg #[.slice a0 m0.mazes.length c0, .slice b0 m0.owners.length d0]), .int .i64 a1, .int .i64 a2, .int .i64 a3] w fun e w' => e = .returned (.bool true) ∧ Below w.heap.size w w' := by
  have wd1 := Go.bounds_i64 w1
  have wd2 := Go.bounds_i64 w2
  have wd3 := Go.bounds_i64 w3
  have mw0 := M.mkW_le m0
  have y0 := Nat.le_trans w0.c1 w0.c2
  have z0 := Nat.le_trans w0.d1 w0.d2
  have x0 := Lib.hid w0
  clear w0
  by_cases s0 : 1048576 < M.szW m0
  · go_enter Try.func14, Try.ntmps14
    have bb_1 := Lib.hid (Below.refl w.heap.size w)
    go_wp2_with fail
    refine C.named ?_
    intro W0 hW0
    have kW0 : Below w.heap.size w W0 := by rw [hW0]; exact (by (repeat (first | exact Below.refl _ _ | (refine Below.alloc ?_ (by first | omega | (simp; done) | (simp; omega)) _))))
    have bx_2p : C.Box2 W0 (w.heap.size) 25 (.slice a0 m0.mazes.length c0) (.slice b0 m0.owners.length d0) := by rw [hW0]; exact C.Box2.new _ _ _ (by simp)
    have bx_2q := bx_2p.lt
    have bx_2 := Lib.hid bx_2p
    clear bx_2p
    clear hW0
    have tt_3 := Lib.hid (C.Turned.of_below kW0 0 0)
    have zz_4 := tt_3.out.size
    have ff_5 := Lib.hid (x0.out.turned tt_3.out (by omega) (by omega))
    clear x0
    have bb_6 := Lib.hid (C.Below.far bb_1.out tt_3.out)
    clear tt_3 bb_1
    clear kW0
    refine (C.szWorlds_any W0 0 w.heap.size m0 a0 b0 c0 d0 ff_5.out (by omega) (1048576) (by omega) (by omega)).mono ?_
    rintro e W1 ⟨rfl, hb⟩
    have tt_7 := Lib.hid (C.Turned.of_below hb 0 0)
    have zz_8 := tt_7.out.size
    have ff_9 := Lib.hid (ff_5.out.turned tt_7.out (by omega) (by omega))
    clear ff_5
    have ff_10 := Lib.hid (bx_2.out.turned tt_7.out (by omega))
    clear bx_2
    have bb_11 := Lib.hid (C.Below.far bb_6.out tt_7.out)
    clear tt_7 bb_6
    clear hb
    rw [if_pos (by omega)]
    obtain ⟨cl_12, cl_13⟩ := ff_10.out.cells
    have cq_14 := ff_10.out.lt
    go_wp2_with fail
    go_ret
    exact ⟨rfl, bb_11.out⟩
  go_enter Try.func14, Try.ntmps14
  have bb_1 := Lib.hid (Below.refl w.heap.size w)
  go_wp2_with fail
  refine C.named ?_
  intro W0 hW0
  have kW0 : Below w.heap.size w W0 := by rw [hW0]; exact (by (repeat (first | exact Below.refl _ _ | (refine Below.alloc ?_ (by first | omega | (simp; done) | (simp; omega)) _))))
  have bx_2p : C.Box2 W0 (w.heap.size) 25 (.slice a0 m0.mazes.length c0) (.slice b0 m0.owners.length d0) := by rw [hW0]; exact C.Box2.new _ _ _ (by simp)
  have bx_2q := bx_2p.lt
  have bx_2 := Lib.hid bx_2p
  clear bx_2p
  clear hW0
  have tt_3 := Lib.hid (C.Turned.of_below kW0 0 0)
  have zz_4 := tt_3.out.size
  have ff_5 := Lib.hid (x0.out.turned tt_3.out (by omega) (by omega))
  clear x0
  have bb_6 := Lib.hid (C.Below.far bb_1.out tt_3.out)
  clear tt_3 bb_1
  clear kW0
  refine (C.szWorlds_any W0 0 w.heap.size m0 a0 b0 c0 d0 ff_5.out (by omega) (1048576) (by omega) (by omega)).mono ?_
  rintro e W1 ⟨rfl, hb⟩
  have tt_7 := Lib.hid (C.Turned.of_below hb 0 0)
  have zz_8 := tt_7.out.size
  have ff_9 := Lib.hid (ff_5.out.turned tt_7.out (by omega) (by omega))
  clear ff_5
  have ff_10 := Lib.hid (bx_2.out.turned tt_7.out (by omega))
  clear bx_2
  have bb_11 := Lib.hid (C.Below.far bb_6.out tt_7.out)
  clear tt_7 bb_6
  clear hb
  rw [if_neg (by omega)]
  obtain ⟨cl_12, cl_13⟩ := ff_10.out.cells
  have cq_14 := ff_10.out.lt
  have hbd : M.szW (M.gvW m0 a1 a2 a3) ≤ 1048576 := M.gv_sz (by omega) _ _ _
  have hbd3 := M.mkW_le (M.gvW m0 a1 a2 a3)
  go_wp2_with fail
  refine (C.toWorlds_any W1 0 w.heap.size m0 a0 b0 c0 d0 ff_9.out (by omega) (by omega)).mono ?_
  rintro e W2 ⟨t_15, t_16, t_17, t_18, rfl, ho, hb⟩
  clear cl_12 cl_13 cq_14
  have tt_19 := Lib.hid (C.Turned.of_below hb 0 0)
  have zz_20 := tt_19.out.size
  have ff_21 := Lib.hid (ff_9.out.turned tt_19.out (by omega) (by omega))
  clear ff_9
  have ff_22 := Lib.hid (ff_10.out.turned tt_19.out (by omega))
  clear ff_10
  have bb_23 := Lib.hid (C.Below.far bb_11.out tt_19.out)
  clear tt_19 bb_11
  clear hb
  have fo_24 := Lib.hid ho
  clear ho
  obtain ⟨cl_25, cl_26⟩ := ff_22.out.cells
  have cq_27 := ff_22.out.lt
  go_wp2_with fail
  refine (C.specGive_lw W2 (W1.heap.size) (W2.heap.size) m0 t_15 t_17 t_16 t_18 fo_24.out.mz (by omega) (by omega) a1 (by omega) (by omega) a2 (by omega) (by omega) a3 (by omega) (by omega)).mono ?_
  rintro e W3 ⟨r_28, r_29, r_30, r_31, rfl, ho, hb⟩
  clear cl_25 cl_26 cq_27
  have tt_32 := Lib.hid (C.Turned.of_below hb 0 0)
  have zz_33 := tt_32.out.size
  have ff_34 := Lib.hid (ff_21.out.turned tt_32.out (by omega) (by omega))
  clear ff_21
  have ff_35 := Lib.hid (fo_24.out.turned tt_32.out (by omega) (by omega))
  clear fo_24
  have ff_36 := Lib.hid (ff_22.out.turned tt_32.out (by omega))
  clear ff_22
  have bb_37 := Lib.hid (C.Below.far bb_23.out tt_32.out)
  clear tt_32 bb_23
  clear hb
  have fo_38 := Lib.hid ho
  clear ho
  obtain ⟨cl_39, cl_40⟩ := ff_36.out.cells
  have cq_41 := ff_36.out.lt
  clear ff_35
  go_wp2_with fail
  refine C.named ?_
  intro W4 hW4
  have kW4 : Below W3.heap.size W3 W4 := by rw [hW4]; exact (by (repeat (first | exact Below.refl _ _ | (refine Below.alloc ?_ (by first | omega | (simp; done) | (simp; omega)) _))))
  have bx_42p : C.Box2 W4 (W3.heap.size) 30 (.slice r_28 (M.gvW m0 a1 a2 a3).mazes.length r_29) (.slice r_30 (M.gvW m0 a1 a2 a3).owners.length r_31) := by rw [hW4]; exact C.Box2.new _ _ _ (by simp)
  have bx_42q := bx_42p.lt
  have bx_42 := Lib.hid bx_42p
  clear bx_42p
  clear hW4
  clear cl_39 cl_40 cq_41
  have tt_43 := Lib.hid (C.Turned.of_below kW4 0 0)
  have zz_44 := tt_43.out.size
  have ff_45 := Lib.hid (ff_34.out.turned tt_43.out (by omega) (by omega))
  clear ff_34
  have ff_46 := Lib.hid (fo_38.out.turned tt_43.out (by omega) (by omega))
  clear fo_38
  have ff_47 := Lib.hid (ff_36.out.turned tt_43.out (by omega))
  clear ff_36
  have bb_48 := Lib.hid (C.Below.far bb_37.out tt_43.out)
  clear tt_43 bb_37
  clear kW4
  refine (C.toWorlds_any W4 0 w.heap.size m0 a0 b0 c0 d0 ff_45.out (by omega) (by omega)).mono ?_
  rintro e W5 ⟨t_49, t_50, t_51, t_52, rfl, ho, hb⟩
  have tt_53 := Lib.hid (C.Turned.of_below hb 0 0)
  have zz_54 := tt_53.out.size
  have ff_55 := Lib.hid (ff_45.out.turned tt_53.out (by omega) (by omega))
  clear ff_45
  have ff_56 := Lib.hid (ff_46.out.turned tt_53.out (by omega) (by omega))
  clear ff_46
  have ff_57 := Lib.hid (ff_47.out.turned tt_53.out (by omega))
  clear ff_47
  have ff_58 := Lib.hid (bx_42.out.turned tt_53.out (by omega))
  clear bx_42
  have bb_59 := Lib.hid (C.Below.far bb_48.out tt_53.out)
  clear tt_53 bb_48
  clear hb
  have fo_60 := Lib.hid ho
  clear ho
  obtain ⟨cl_61, cl_62⟩ := ff_57.out.cells
  have cq_63 := ff_57.out.lt
  obtain ⟨cl_64, cl_65⟩ := ff_58.out.cells
  have cq_66 := ff_58.out.lt
  go_wp2_with fail
  refine C.named ?_
  intro W6 hW6
  have kW6 : Below W5.heap.size W5 W6 := by rw [hW6]; exact (by (repeat (first | exact Below.refl _ _ | (refine Below.alloc ?_ (by first | omega | (simp; done) | (simp; omega)) _))))
  have bx_67p : C.Box2 W6 (W5.heap.size) 30 (.slice t_49 m0.mazes.length t_50) (.slice t_51 m0.owners.length t_52) := by rw [hW6]; exact C.Box2.new _ _ _ (by simp)
  have bx_67q := bx_67p.lt
  have bx_67 := Lib.hid bx_67p
  clear bx_67p
  clear hW6
  clear cl_61 cl_62 cq_63 cl_64 cl_65 cq_66
  have tt_68 := Lib.hid (C.Turned.of_below kW6 0 0)
  have zz_69 := tt_68.out.size
  have ff_70 := Lib.hid (ff_55.out.turned tt_68.out (by omega) (by omega))
  clear ff_55
  have ff_71 := Lib.hid (ff_56.out.turned tt_68.out (by omega) (by omega))
  clear ff_56
  have ff_72 := Lib.hid (fo_60.out.turned tt_68.out (by omega) (by omega))
  clear fo_60
  have ff_73 := Lib.hid (ff_57.out.turned tt_68.out (by omega))
  clear ff_57
  have ff_74 := Lib.hid (ff_58.out.turned tt_68.out (by omega))
  clear ff_58
  have bb_75 := Lib.hid (C.Below.far bb_59.out tt_68.out)
  clear tt_68 bb_59
  clear kW6
  refine (C.implGive_lw W6 (W4.heap.size) (W5.heap.size) m0 t_49 t_51 t_50 t_52 ff_72.out.mz (by omega) (by omega) a1 (by omega) (by omega) a2 (by omega) (by omega) a3 (by omega) (by omega)).mono ?_
  rintro e W7 ⟨r_76, r_77, r_78, r_79, rfl, ho, hb⟩
  have tt_80 := Lib.hid (C.Turned.of_below hb 0 0)
  have zz_81 := tt_80.out.size
  have ff_82 := Lib.hid (ff_70.out.turned tt_80.out (by omega) (by omega))
  clear ff_70
  have ff_83 := Lib.hid (ff_71.out.turned tt_80.out (by omega) (by omega))
  clear ff_71
  have ff_84 := Lib.hid (ff_72.out.turned tt_80.out (by omega) (by omega))
  clear ff_72
  have ff_85 := Lib.hid (ff_73.out.turned tt_80.out (by omega))
  clear ff_73
  have ff_86 := Lib.hid (ff_74.out.turned tt_80.out (by omega))
  clear ff_74
  have ff_87 := Lib.hid (bx_67.out.turned tt_80.out (by omega))
  clear bx_67
  have bb_88 := Lib.hid (C.Below.far bb_75.out tt_80.out)
  clear tt_80 bb_75
  clear hb
  have fo_89 := Lib.hid ho
  clear ho
  obtain ⟨cl_90, cl_91⟩ := ff_85.out.cells
  have cq_92 := ff_85.out.lt
  obtain ⟨cl_93, cl_94⟩ := ff_86.out.cells
  have cq_95 := ff_86.out.lt
  obtain ⟨cl_96, cl_97⟩ := ff_87.out.cells
  have cq_98 := ff_87.out.lt
  go_wp2_with fail
  refine C.named ?_
  intro W8 hW8
  have kW8 : Below W7.heap.size W7 W8 := by rw [hW8]; exact (by (repeat (first | exact Below.refl _ _ | (refine Below.alloc ?_ (by first | omega | (simp; done) | (simp; omega)) _))))
  have bx_99p : C.Box2 W8 (W7.heap.size) 30 (.slice r_76 (M.gvW m0 a1 a2 a3).mazes.length r_77) (.slice r_78 (M.gvW m0 a1 a2 a3).owners.length r_79) := by rw [hW8]; exact C.Box2.new _ _ _ (by simp)
  have bx_99q := bx_99p.lt
  have bx_99 := Lib.hid bx_99p
  clear bx_99p
  clear hW8
  clear cl_90 cl_91 cq_92 cl_93 cl_94 cq_95 cl_96 cl_97 cq_98
  have tt_100 := Lib.hid (C.Turned.of_below kW8 0 0)
  have zz_101 := tt_100.out.size
  have ff_102 := Lib.hid (ff_82.out.turned tt_100.out (by omega) (by omega))
  clear ff_82
  have ff_103 := Lib.hid (ff_83.out.turned tt_100.out (by omega) (by omega))
  clear ff_83
  have ff_104 := Lib.hid (ff_84.out.turned tt_100.out (by omega) (by omega))
  clear ff_84
  have ff_105 := Lib.hid (fo_89.out.turned tt_100.out (by omega) (by omega))
  clear fo_89
  have ff_106 := Lib.hid (ff_85.out.turned tt_100.out (by omega))
  clear ff_85
  have ff_107 := Lib.hid (ff_86.out.turned tt_100.out (by omega))
  clear ff_86
  have ff_108 := Lib.hid (ff_87.out.turned tt_100.out (by omega))
  clear ff_87
  have bb_109 := Lib.hid (C.Below.far bb_88.out tt_100.out)
  clear tt_100 bb_88
  clear kW8
  refine (C.eqWorlds_any W8 (W6.heap.size) (W7.heap.size) (W2.heap.size) (W3.heap.size) (M.gvW m0 a1 a2 a3) r_76 r_78 r_28 r_30 r_77 r_79 r_29 r_31 ff_105.out.mz ff_103.out.mz (by omega) (by omega) (by omega)).mono ?_
  rintro e W9 ⟨rfl, hb⟩
  have tt_110 := Lib.hid (C.Turned.of_below hb 0 0)
  have zz_111 := tt_110.out.size
  have ff_112 := Lib.hid (ff_102.out.turned tt_110.out (by omega) (by omega))
  clear ff_102
  have ff_113 := Lib.hid (ff_103.out.turned tt_110.out (by omega) (by omega))
  clear ff_103
  have ff_114 := Lib.hid (ff_104.out.turned tt_110.out (by omega) (by omega))
  clear ff_104
  have ff_115 := Lib.hid (ff_105.out.turned tt_110.out (by omega) (by omega))
  clear ff_105
  have ff_116 := Lib.hid (ff_106.out.turned tt_110.out (by omega))
  clear ff_106
  have ff_117 := Lib.hid (ff_107.out.turned tt_110.out (by omega))
  clear ff_107
  have ff_118 := Lib.hid (ff_108.out.turned tt_110.out (by omega))
  clear ff_108
  have ff_119 := Lib.hid (bx_99.out.turned tt_110.out (by omega))
  clear bx_99
  have bb_120 := Lib.hid (C.Below.far bb_109.out tt_110.out)
  clear tt_110 bb_109
  clear hb
  obtain ⟨cl_121, cl_122⟩ := ff_116.out.cells
  have cq_123 := ff_116.out.lt
  obtain ⟨cl_124, cl_125⟩ := ff_117.out.cells
  have cq_126 := ff_117.out.lt
  obtain ⟨cl_127, cl_128⟩ := ff_118.out.cells
  have cq_129 := ff_118.out.lt
  obtain ⟨cl_130, cl_131⟩ := ff_119.out.cells
  have cq_132 := ff_119.out.lt
  go_upto_region 10 with fail
  go_cut [57] (fun sl wx => sl = .bool false ∧ Below W9.heap.size W9 wx)
  case first =>
    go_region_with (first | (go_at_call 17; refine (C.toWorlds_any W9.drew 0 w.heap.size m0 a0 b0 c0 d0 (ff_112.out.turned (C.Turned.of_below (Below.refl W9.heap.size W9).drew 0 0) (by omega) (by omega)) (show w.heap.size ≤ W9.heap.size by omega) (by omega)).mono ?_; rintro e w2 ⟨t_133, t_134, t_135, t_136, rfl, ho, hb⟩; have hbq : Below W9.heap.size W9 w2 := (Below.refl W9.heap.size W9).drew.trans hb; have hzq := hbq.size; obtain ⟨cm_137, cm_138⟩ := (ff_116.out.turned (C.Turned.of_below hbq 0 0) (by omega)).cells; obtain ⟨cm_139, cm_140⟩ := (ff_117.out.turned (C.Turned.of_below hbq 0 0) (by omega)).cells; obtain ⟨cm_141, cm_142⟩ := (ff_118.out.turned (C.Turned.of_below hbq 0 0) (by omega)).cells; obtain ⟨cm_143, cm_144⟩ := (ff_119.out.turned (C.Turned.of_below hbq 0 0) (by omega)).cells) | (go_at_call 19; refine (C.eqWorlds_any w2 (W4.heap.size) (W5.heap.size) _ _ m0 _ _ _ _ _ _ _ _ (C.WlOwn.mz (C.WlOwn.turned ff_114.out (C.Turned.of_below hbq 0 0) (by omega) (by omega))) ho.mz (by omega) (Nat.le_refl _) (by omega)).mono ?_; rintro e w3 ⟨rfl, hb3⟩))
    all_goals (go_wp2_with fail; go_meet; exact ⟨rfl, C.Below.more hbq hb3⟩)
  case rest =>
    obtain ⟨rfl, hb⟩ := hcut
    obtain ⟨W10, rfl⟩ : ∃ W, W = wc := ⟨_, rfl⟩
    clear cl_121 cl_122 cq_123 cl_124 cl_125 cq_126 cl_127 cl_128 cq_129 cl_130 cl_131 cq_132
    have tt_145 := Lib.hid (C.Turned.of_below hb 0 0)
    have zz_146 := tt_145.out.size
    have ff_147 := Lib.hid (ff_112.out.turned tt_145.out (by omega) (by omega))
    clear ff_112
    have ff_148 := Lib.hid (ff_113.out.turned tt_145.out (by omega) (by omega))
    clear ff_113
    have ff_149 := Lib.hid (ff_114.out.turned tt_145.out (by omega) (by omega))
    clear ff_114
    have ff_150 := Lib.hid (ff_115.out.turned tt_145.out (by omega) (by omega))
    clear ff_115
    have ff_151 := Lib.hid (ff_116.out.turned tt_145.out (by omega))
    clear ff_116
    have ff_152 := Lib.hid (ff_117.out.turned tt_145.out (by omega))
    clear ff_117
    have ff_153 := Lib.hid (ff_118.out.turned tt_145.out (by omega))
    clear ff_118
    have ff_154 := Lib.hid (ff_119.out.turned tt_145.out (by omega))
    clear ff_119
    have bb_155 := Lib.hid (C.Below.far bb_120.out tt_145.out)
    clear tt_145 bb_120
    clear hb
    obtain ⟨cl_156, cl_157⟩ := ff_151.out.cells
    have cq_158 := ff_151.out.lt
    obtain ⟨cl_159, cl_160⟩ := ff_152.out.cells
    have cq_161 := ff_152.out.lt
    obtain ⟨cl_162, cl_163⟩ := ff_153.out.cells
    have cq_164 := ff_153.out.lt
    obtain ⟨cl_165, cl_166⟩ := ff_154.out.cells
    have cq_167 := ff_154.out.lt
    go_wp2_with fail
    refine (C.markWorlds_any W10 (W4.heap.size) (W5.heap.size) m0 t_49 t_51 t_50 t_52 (1) ff_149.out (by omega) (by omega) (by omega)).mono ?_
    rintro e W11 ⟨rfl, hm, ht⟩
    have fm_168 := Lib.hid hm
    clear hm
    clear ff_149
    clear cl_156 cl_157 cq_158 cl_159 cl_160 cq_161 cl_162 cl_163 cq_164 cl_165 cl_166 cq_167
    have tt_169 := Lib.hid (ht)
    have zz_170 := tt_169.out.size
    have ff_171 := Lib.hid (ff_147.out.turned tt_169.out (by omega) (by omega))
    clear ff_147
    have ff_172 := Lib.hid (ff_148.out.turned tt_169.out (by omega) (by omega))
    clear ff_148
    have ff_173 := Lib.hid (ff_150.out.turned tt_169.out (by omega) (by omega))
    clear ff_150
    have ff_174 := Lib.hid (ff_151.out.turned tt_169.out (by omega))
    clear ff_151
    have ff_175 := Lib.hid (ff_152.out.turned tt_169.out (by omega))
    clear ff_152
    have ff_176 := Lib.hid (ff_153.out.turned tt_169.out (by omega))
    clear ff_153
    have ff_177 := Lib.hid (ff_154.out.turned tt_169.out (by omega))
    clear ff_154
    have bb_178 := Lib.hid (C.Below.thenTurned bb_155.out tt_169.out (by omega) (by omega))
    clear tt_169 bb_155
    clear ht
    obtain ⟨cl_179, cl_180⟩ := ff_174.out.cells
    have cq_181 := ff_174.out.lt
    obtain ⟨cl_182, cl_183⟩ := ff_175.out.cells
    have cq_184 := ff_175.out.lt
    obtain ⟨cl_185, cl_186⟩ := ff_176.out.cells
    have cq_187 := ff_176.out.lt
    obtain ⟨cl_188, cl_189⟩ := ff_177.out.cells
    have cq_190 := ff_177.out.lt
    clear fm_168
    go_wp2_with fail
    refine (C.eqWorlds_any W11 (W6.heap.size) (W7.heap.size) (W2.heap.size) (W3.heap.size) (M.gvW m0 a1 a2 a3) r_76 r_78 r_28 r_30 r_77 r_79 r_29 r_31 ff_173.out.mz ff_172.out.mz (by omega) (by omega) (by omega)).mono ?_
    rintro e W12 ⟨rfl, hb⟩
    clear cl_179 cl_180 cq_181 cl_182 cl_183 cq_184 cl_185 cl_186 cq_187 cl_188 cl_189 cq_190
    have tt_191 := Lib.hid (C.Turned.of_below hb 0 0)
    have zz_192 := tt_191.out.size
    have ff_193 := Lib.hid (ff_171.out.turned tt_191.out (by omega) (by omega))
    clear ff_171
    have ff_194 := Lib.hid (ff_172.out.turned tt_191.out (by omega) (by omega))
    clear ff_172
    have ff_195 := Lib.hid (ff_173.out.turned tt_191.out (by omega) (by omega))
    clear ff_173
    have ff_196 := Lib.hid (ff_174.out.turned tt_191.out (by omega))
    clear ff_174
    have ff_197 := Lib.hid (ff_175.out.turned tt_191.out (by omega))
    clear ff_175
    have ff_198 := Lib.hid (ff_176.out.turned tt_191.out (by omega))
    clear ff_176
    have ff_199 := Lib.hid (ff_177.out.turned tt_191.out (by omega))
    clear ff_177
    have bb_200 := Lib.hid (C.Below.far bb_178.out tt_191.out)
    clear tt_191 bb_178
    clear hb
    obtain ⟨cl_201, cl_202⟩ := ff_196.out.cells
    have cq_203 := ff_196.out.lt
    obtain ⟨cl_204, cl_205⟩ := ff_197.out.cells
    have cq_206 := ff_197.out.lt
    obtain ⟨cl_207, cl_208⟩ := ff_198.out.cells
    have cq_209 := ff_198.out.lt
    obtain ⟨cl_210, cl_211⟩ := ff_199.out.cells
    have cq_212 := ff_199.out.lt
    go_wp2_with fail
    refine (C.markWorlds_any W12 (W6.heap.size) (W7.heap.size) (M.gvW m0 a1 a2 a3) r_76 r_78 r_77 r_79 (1) ff_195.out (by omega) (by omega) (by omega)).mono ?_
    rintro e W13 ⟨rfl, hm, ht⟩
    have fm_213 := Lib.hid hm
    clear hm
    clear ff_195
    clear cl_201 cl_202 cq_203 cl_204 cl_205 cq_206 cl_207 cl_208 cq_209 cl_210 cl_211 cq_212
    have tt_214 := Lib.hid (ht)
    have zz_215 := tt_214.out.size
    have ff_216 := Lib.hid (ff_193.out.turned tt_214.out (by omega) (by omega))
    clear ff_193
    have ff_217 := Lib.hid (ff_194.out.turned tt_214.out (by omega) (by omega))
    clear ff_194
    have ff_218 := Lib.hid (ff_196.out.turned tt_214.out (by omega))
    clear ff_196
    have ff_219 := Lib.hid (ff_197.out.turned tt_214.out (by omega))
    clear ff_197
    have ff_220 := Lib.hid (ff_198.out.turned tt_214.out (by omega))
    clear ff_198
    have ff_221 := Lib.hid (ff_199.out.turned tt_214.out (by omega))
    clear ff_199
    have bb_222 := Lib.hid (C.Below.thenTurned bb_200.out tt_214.out (by omega) (by omega))
    clear tt_214 bb_200
    clear ht
    obtain ⟨cl_223, cl_224⟩ := ff_218.out.cells
    have cq_225 := ff_218.out.lt
    obtain ⟨cl_226, cl_227⟩ := ff_219.out.cells
    have cq_228 := ff_219.out.lt
    obtain ⟨cl_229, cl_230⟩ := ff_220.out.cells
    have cq_231 := ff_220.out.lt
    obtain ⟨cl_232, cl_233⟩ := ff_221.out.cells
    have cq_234 := ff_221.out.lt
    go_wp2_with fail
    refine (C.heldWorlds_any W13 (W6.heap.size) (W7.heap.size) (M.gvW m0 a1 a2 a3) r_76 r_78 r_77 r_79 1 fm_213.out (by omega) (by omega) (by omega)).mono ?_
    rintro e W14 ⟨rfl, hb⟩
    clear cl_223 cl_224 cq_225 cl_226 cl_227 cq_228 cl_229 cl_230 cq_231 cl_232 cl_233 cq_234
    have tt_235 := Lib.hid (C.Turned.of_below hb 0 0)
    have zz_236 := tt_235.out.size
    have ff_237 := Lib.hid (ff_216.out.turned tt_235.out (by omega) (by omega))
    clear ff_216
    have ff_238 := Lib.hid (ff_217.out.turned tt_235.out (by omega) (by omega))
    clear ff_217
    have ff_239 := Lib.hid (fm_213.out.turned tt_235.out (by omega) (by omega))
    clear fm_213
    have ff_240 := Lib.hid (ff_218.out.turned tt_235.out (by omega))
    clear ff_218
    have ff_241 := Lib.hid (ff_219.out.turned tt_235.out (by omega))
    clear ff_219
    have ff_242 := Lib.hid (ff_220.out.turned tt_235.out (by omega))
    clear ff_220
    have ff_243 := Lib.hid (ff_221.out.turned tt_235.out (by omega))
    clear ff_221
    have bb_244 := Lib.hid (C.Below.far bb_222.out tt_235.out)
    clear tt_235 bb_222
    clear hb
    obtain ⟨cl_245, cl_246⟩ := ff_240.out.cells
    have cq_247 := ff_240.out.lt
    obtain ⟨cl_248, cl_249⟩ := ff_241.out.cells
    have cq_250 := ff_241.out.lt
    obtain ⟨cl_251, cl_252⟩ := ff_242.out.cells
    have cq_253 := ff_242.out.lt
    obtain ⟨cl_254, cl_255⟩ := ff_243.out.cells
    have cq_256 := ff_243.out.lt
    go_wp2_with fail
    refine (C.toWorlds_any W14 0 w.heap.size m0 a0 b0 c0 d0 ff_237.out (by omega) (by omega)).mono ?_
    rintro e W15 ⟨t_257, t_258, t_259, t_260, rfl, ho, hb⟩
    clear cl_245 cl_246 cq_247 cl_248 cl_249 cq_250 cl_251 cl_252 cq_253 cl_254 cl_255 cq_256
    have tt_261 := Lib.hid (C.Turned.of_below hb 0 0)
    have zz_262 := tt_261.out.size
    have ff_263 := Lib.hid (ff_237.out.turned tt_261.out (by omega) (by omega))
    clear ff_237
    have ff_264 := Lib.hid (ff_238.out.turned tt_261.out (by omega) (by omega))
    clear ff_238
    have ff_265 := Lib.hid (ff_239.out.turned tt_261.out (by omega) (by omega))
    clear ff_239
    have ff_266 := Lib.hid (ff_240.out.turned tt_261.out (by omega))
    clear ff_240
    have ff_267 := Lib.hid (ff_241.out.turned tt_261.out (by omega))
    clear ff_241
    have ff_268 := Lib.hid (ff_242.out.turned tt_261.out (by omega))
    clear ff_242
    have ff_269 := Lib.hid (ff_243.out.turned tt_261.out (by omega))
    clear ff_243
    have bb_270 := Lib.hid (C.Below.far bb_244.out tt_261.out)
    clear tt_261 bb_244
    clear hb
    have fo_271 := Lib.hid ho
    clear ho
    obtain ⟨cl_272, cl_273⟩ := ff_266.out.cells
    have cq_274 := ff_266.out.lt
    obtain ⟨cl_275, cl_276⟩ := ff_267.out.cells
    have cq_277 := ff_267.out.lt
    obtain ⟨cl_278, cl_279⟩ := ff_268.out.cells
    have cq_280 := ff_268.out.lt
    obtain ⟨cl_281, cl_282⟩ := ff_269.out.cells
    have cq_283 := ff_269.out.lt
    go_wp2_with fail
    refine (C.implGive_lw W15 (W14.heap.size) (W15.heap.size) m0 t_257 t_259 t_258 t_260 fo_271.out.mz (by omega) (by omega) a1 (by omega) (by omega) a2 (by omega) (by omega) a3 (by omega) (by omega)).mono ?_
    rintro e W16 ⟨r_284, r_285, r_286, r_287, rfl, ho, hb⟩
    clear cl_272 cl_273 cq_274 cl_275 cl_276 cq_277 cl_278 cl_279 cq_280 cl_281 cl_282 cq_283
    have tt_288 := Lib.hid (C.Turned.of_below hb 0 0)
    have zz_289 := tt_288.out.size
    have ff_290 := Lib.hid (ff_263.out.turned tt_288.out (by omega) (by omega))
    clear ff_263
    have ff_291 := Lib.hid (ff_264.out.turned tt_288.out (by omega) (by omega))
    clear ff_264
    have ff_292 := Lib.hid (ff_265.out.turned tt_288.out (by omega) (by omega))
    clear ff_265
    have ff_293 := Lib.hid (fo_271.out.turned tt_288.out (by omega) (by omega))
    clear fo_271
    have ff_294 := Lib.hid (ff_266.out.turned tt_288.out (by omega))
    clear ff_266
    have ff_295 := Lib.hid (ff_267.out.turned tt_288.out (by omega))
    clear ff_267
    have ff_296 := Lib.hid (ff_268.out.turned tt_288.out (by omega))
    clear ff_268
    have ff_297 := Lib.hid (ff_269.out.turned tt_288.out (by omega))
    clear ff_269
    have bb_298 := Lib.hid (C.Below.far bb_270.out tt_288.out)
    clear tt_288 bb_270
    clear hb
    have fo_299 := Lib.hid ho
    clear ho
    obtain ⟨cl_300, cl_301⟩ := ff_294.out.cells
    have cq_302 := ff_294.out.lt
    obtain ⟨cl_303, cl_304⟩ := ff_295.out.cells
    have cq_305 := ff_295.out.lt
    obtain ⟨cl_306, cl_307⟩ := ff_296.out.cells
    have cq_308 := ff_296.out.lt
    obtain ⟨cl_309, cl_310⟩ := ff_297.out.cells
    have cq_311 := ff_297.out.lt
    clear ff_293
    go_wp2_with fail
    refine C.named ?_
    intro W17 hW17
    have kW17 : Below W16.heap.size W16 W17 := by rw [hW17]; exact (by (repeat (first | exact Below.refl _ _ | (refine Below.alloc ?_ (by first | omega | (simp; done) | (simp; omega)) _))))
    have bx_312p : C.Box2 W17 (W16.heap.size) 30 (.slice r_284 (M.gvW m0 a1 a2 a3).mazes.length r_285) (.slice r_286 (M.gvW m0 a1 a2 a3).owners.length r_287) := by rw [hW17]; exact C.Box2.new _ _ _ (by simp)
    have bx_312q := bx_312p.lt
    have bx_312 := Lib.hid bx_312p
    clear bx_312p
    clear hW17
    clear cl_300 cl_301 cq_302 cl_303 cl_304 cq_305 cl_306 cl_307 cq_308 cl_309 cl_310 cq_311
    have tt_313 := Lib.hid (C.Turned.of_below kW17 0 0)
    have zz_314 := tt_313.out.size
    have ff_315 := Lib.hid (ff_290.out.turned tt_313.out (by omega) (by omega))
    clear ff_290
    have ff_316 := Lib.hid (ff_291.out.turned tt_313.out (by omega) (by omega))
    clear ff_291
    have ff_317 := Lib.hid (ff_292.out.turned tt_313.out (by omega) (by omega))
    clear ff_292
    have ff_318 := Lib.hid (fo_299.out.turned tt_313.out (by omega) (by omega))
    clear fo_299
    have ff_319 := Lib.hid (ff_294.out.turned tt_313.out (by omega))
    clear ff_294
    have ff_320 := Lib.hid (ff_295.out.turned tt_313.out (by omega))
    clear ff_295
    have ff_321 := Lib.hid (ff_296.out.turned tt_313.out (by omega))
    clear ff_296
    have ff_322 := Lib.hid (ff_297.out.turned tt_313.out (by omega))
    clear ff_297
    have bb_323 := Lib.hid (C.Below.far bb_298.out tt_313.out)
    clear tt_313 bb_298
    clear kW17
    refine (C.eqWorlds_any W17 (W15.heap.size) (W16.heap.size) (W2.heap.size) (W3.heap.size) (M.gvW m0 a1 a2 a3) r_284 r_286 r_28 r_30 r_285 r_287 r_29 r_31 ff_318.out.mz ff_316.out.mz (by omega) (by omega) (by omega)).mono ?_
    rintro e W18 ⟨rfl, hb⟩
    have tt_324 := Lib.hid (C.Turned.of_below hb 0 0)
    have zz_325 := tt_324.out.size
    have ff_326 := Lib.hid (ff_315.out.turned tt_324.out (by omega) (by omega))
    clear ff_315
    have ff_327 := Lib.hid (ff_316.out.turned tt_324.out (by omega) (by omega))
    clear ff_316
    have ff_328 := Lib.hid (ff_317.out.turned tt_324.out (by omega) (by omega))
    clear ff_317
    have ff_329 := Lib.hid (ff_318.out.turned tt_324.out (by omega) (by omega))
    clear ff_318
    have ff_330 := Lib.hid (ff_319.out.turned tt_324.out (by omega))
    clear ff_319
    have ff_331 := Lib.hid (ff_320.out.turned tt_324.out (by omega))
    clear ff_320
    have ff_332 := Lib.hid (ff_321.out.turned tt_324.out (by omega))
    clear ff_321
    have ff_333 := Lib.hid (ff_322.out.turned tt_324.out (by omega))
    clear ff_322
    have ff_334 := Lib.hid (bx_312.out.turned tt_324.out (by omega))
    clear bx_312
    have bb_335 := Lib.hid (C.Below.far bb_323.out tt_324.out)
    clear tt_324 bb_323
    clear hb
    obtain ⟨cl_336, cl_337⟩ := ff_330.out.cells
    have cq_338 := ff_330.out.lt
    obtain ⟨cl_339, cl_340⟩ := ff_331.out.cells
    have cq_341 := ff_331.out.lt
    obtain ⟨cl_342, cl_343⟩ := ff_332.out.cells
    have cq_344 := ff_332.out.lt
    obtain ⟨cl_345, cl_346⟩ := ff_333.out.cells
    have cq_347 := ff_333.out.lt
    obtain ⟨cl_348, cl_349⟩ := ff_334.out.cells
    have cq_350 := ff_334.out.lt
    go_wp2_with fail
    refine (C.heldWorlds_any W18 (W6.heap.size) (W7.heap.size) (M.gvW m0 a1 a2 a3) r_76 r_78 r_77 r_79 1 ff_328.out (by omega) (by omega) (by omega)).mono ?_
    rintro e W19 ⟨rfl, hb⟩
    clear cl_336 cl_337 cq_338 cl_339 cl_340 cq_341 cl_342 cl_343 cq_344 cl_345 cl_346 cq_347 cl_348 cl_349 cq_350
    have tt_351 := Lib.hid (C.Turned.of_below hb 0 0)
    have zz_352 := tt_351.out.size
    have ff_353 := Lib.hid (ff_326.out.turned tt_351.out (by omega) (by omega))
    clear ff_326
    have ff_354 := Lib.hid (ff_327.out.turned tt_351.out (by omega) (by omega))
    clear ff_327
    have ff_355 := Lib.hid (ff_328.out.turned tt_351.out (by omega) (by omega))
    clear ff_328
    have ff_356 := Lib.hid (ff_329.out.turned tt_351.out (by omega) (by omega))
    clear ff_329
    have ff_357 := Lib.hid (ff_330.out.turned tt_351.out (by omega))
    clear ff_330
    have ff_358 := Lib.hid (ff_331.out.turned tt_351.out (by omega))
    clear ff_331
    have ff_359 := Lib.hid (ff_332.out.turned tt_351.out (by omega))
    clear ff_332
    have ff_360 := Lib.hid (ff_333.out.turned tt_351.out (by omega))
    clear ff_333
    have ff_361 := Lib.hid (ff_334.out.turned tt_351.out (by omega))
    clear ff_334
    have bb_362 := Lib.hid (C.Below.far bb_335.out tt_351.out)
    clear tt_351 bb_335
    clear hb
    obtain ⟨cl_363, cl_364⟩ := ff_357.out.cells
    have cq_365 := ff_357.out.lt
    obtain ⟨cl_366, cl_367⟩ := ff_358.out.cells
    have cq_368 := ff_358.out.lt
    obtain ⟨cl_369, cl_370⟩ := ff_359.out.cells
    have cq_371 := ff_359.out.lt
    obtain ⟨cl_372, cl_373⟩ := ff_360.out.cells
    have cq_374 := ff_360.out.lt
    obtain ⟨cl_375, cl_376⟩ := ff_361.out.cells
    have cq_377 := ff_361.out.lt
    go_wp2_with fail
    go_ret
    exact ⟨rfl, bb_362.out⟩


set_option maxRecDepth 100000 in
theorem lifted (os : Os) (started : os.Started) (H : Type) (enc : TypeId × Value → H) :
    ReturnsInHanded {} Try.checked os 14 .any (Rows.fnExactGiveKeysSpec.pre6 enc Try.prog Try.f14 Rows.fnExactGiveKeysRow.domain false) (Rows.fnExactGiveKeysSpec.post enc Try.prog Try.f14 false true false false) := by
  refine returnsInHanded_of_change (C := Try.checked) P.own started (by kernel_rfl) Try.func14
    (ChangeSpec.witness6 (enc := enc) (C := Try.checked) false ⟨#[], #[.agg #[.slice none 0 0, .slice none 0 0], .int .i64 0, .int .i64 0, .int .i64 0], []⟩ 8 (by kernel_rfl) (by kernel_rfl) (by kernel_rfl) (by kernel_rfl)) ?_
  intro W base args ds gs before hval0 hW hcnd _
  have hval : ∀ (j : Nat) t v, Try.f14.params[j]? = some t → args[j]? = some v → Value.okWide Try.prog W .any base t v := hval0
  have hW' := hW
  obtain ⟨p, q, hA0, hV, rfl, hfz, hnd⟩ := hW
  have hA : DataW.TrodAll enc Try.prog W 0 (fun _ => true) true Try.f14.params.toList args.toList ds p := hA0
  rw [Try.params14] at hA hval
  obtain ⟨v0, vs0, d0, ds0, p0, q0, hargs, rfl, rfl, h0, r0⟩ := trodAll_cons hA
  obtain ⟨v1, vs1, d1, ds1, p1, q1, rfl, rfl, rfl, h1, r1⟩ := trodAll_cons r0
  obtain ⟨v2, vs2, d2, ds2, p2, q2, rfl, rfl, rfl, h2, r2⟩ := trodAll_cons r1
  obtain ⟨v3, vs3, d3, ds3, p3, q3, rfl, rfl, rfl, h3, r3⟩ := trodAll_cons r2
  obtain ⟨rfl, rfl, rfl⟩ := trodAll_nil r3
  obtain rfl : args = #[v0, v1, v2, v3] := by cases args; simp_all
  obtain ⟨rfl, rfl⟩ := trodVars_none hV
  have k0 := h0
  have lt0 : ∀ x ∈ p0, x.block < W.heap.size := by obtain ⟨m, hm⟩ := k0; exact DataW.trod_lt m _ _ _ hm
  obtain ⟨m0, a0, c0, b0, e0, rfl, w0⟩ := C.open_worlds (hval 0 25 v0 rfl rfl) h0
  obtain ⟨a1, rfl, rfl, rfl, w1⟩ := open_int Try.underlying3 (hval 1 3 v1 rfl rfl) h1
  obtain ⟨a2, rfl, rfl, rfl, w2⟩ := open_int Try.underlying3 (hval 2 3 v2 rfl rfl) h2
  obtain ⟨a3, rfl, rfl, rfl, w3⟩ := open_int Try.underlying3 (hval 3 3 v3 rfl rfl) h3
  clear hA0 hval0
  refine (walk W m0 a0 c0 b0 e0 w0 a1 w1 a2 w2 a3 w3).mono fun e W' ⟨he, hb⟩ => ?_
  subst he
  exact ⟨_, rfl, _, _, _, [], _, [], hW', trodAll_mk1 (shut_bool Try.underlying4 _), (trodAll_cons_mk (Below.trod P.laidOut (by kernel_rfl) (of_decide_eq_true (by kernel_rfl)) k0 hb lt0) (trodAll_cons_mk (shut_int Try.underlying3 w1) (trodAll_cons_mk (shut_int Try.underlying3 w2) (trodAll_cons_mk (shut_int Try.underlying3 w3) trodAll_mk0)))), rfl, hb.frame _, fun h => by cases h⟩

theorem closed : joinedFacts Try.pinned.checked.prog 14 Try.f14 Rows.fnExactGiveKeysSpec Rows.fnExactGiveKeysRow = true := by
  show joinedFacts Try.prog 14 Try.f14 Rows.fnExactGiveKeysSpec Rows.fnExactGiveKeysRow = true
  unfold joinedFacts
  rw [P.cloEnter, P.cloMake, P.cloLift]
  kernel_rfl
theorem proved : Rows.FnExactGiveKeysSaid :=
  OpenClaim.holds_of_wide 14 Try.f14 rfl rfl rfl rfl rfl rfl rfl ⟨rfl, rfl, rfl, rfl, rfl⟩ rfl rfl rfl rfl rfl (by kernel_rfl) Try.func14 closed
    (of_decide_eq_true (by kernel_rfl)) (by unfold Func.isWrapper; first | (rw [if_pos (by decide +kernel)]; kernel_rfl) | (rw [if_neg (by decide +kernel)]; exact ⟨rfl, rfl⟩))
    (fun os started H enc _ => lifted os started H enc)
#print axioms proved
end Go.Proofs.Ytbcobheiofajeaa.fnExactGiveKeys
