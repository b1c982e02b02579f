/-
  PROVED: for every maze aM and every list of ints aWalk the law laws.FnExactTakenOn returns true, that is, impl.TakenOn answers as the model does, in memory of its own at each call; its arguments read afterwards as before. Conditions: none.
-/
import Derived.Test.YtkgjmddogcoemaaRows
import Derived.Test.YtkgjmddogcoemaaOpen
import Derived.Test.YtkgjmddogcoemaaMaz2
import Derived.Test.YtkgjmddogcoemaaImplWalk
import Derived.WalkKit
import Derived.ProofKit
import Derived.OpenShut
import Derived.ShutString
import Derived.Deep.RegionWith
import Derived.Deep.DeepCutAuto
namespace Go.Proofs.Ytkgjmddogcoemaa.fnExactTakenOn
open Go.ChangeShapes Go.WideShapes Go.ChangeAt Go.RowKit
open Go.ChangeMaps (open_string shut_string)
set_option linter.unusedVariables false

set_option maxHeartbeats 4000000 in
set_option maxRecDepth 100000 in
theorem walk (w : World) (m0 : M.Mz) (a0 : Option Addr) (c0 : Nat) (b0 : Option Addr) (d0 : Nat) (w0 : C.MzIn 0 w.heap.size w m0 a0 c0 b0 d0) (a1 : Option Addr) (cap1 : Nat) (l1 : List Int) (w1 : C.RowIn 0 w.heap.size w a1 (M.encIs l1)) (u1 : l1.length ≤ cap1) (v1 : cap1 ≤ 9223372036854775807) (b1 : ∀ z ∈ l1, -9223372036854775808 ≤ z ∧ z ≤ 9223372036854775807) :
    Calls Try.prog 10 #[(.agg #[.int .i64 m0.size, .slice a0 m0.doors.length c0, .slice b0 m0.keys.length d0]), .slice a1 l1.length cap1] w fun e w' => e = .returned (.bool true) ∧ Below w.heap.size w w' := by
  have y0 := Nat.le_trans w0.c1 w0.c2
  have z0 := Nat.le_trans w0.d1 w0.d2
  have x0 := Lib.hid w0
  clear w0
  have x1 := Lib.hid w1
  clear w1
  have B1 := Lib.hid b1
  clear b1
  by_cases s0 : 1048576 < l1.length
  · go_enter Try.func10, Try.ntmps10
    have bb_1 := Lib.hid (Below.refl w.heap.size w)
    go_wp2_with fail
    go_ret
    exact ⟨rfl, (by (repeat (first | exact Below.refl _ _ | (refine Below.alloc ?_ (by first | omega | (simp; done) | (simp; omega)) _))))⟩
  by_cases s1 : 1048576 < m0.doors.length + m0.keys.length
  · go_enter Try.func10, Try.ntmps10
    have bb_1 := Lib.hid (Below.refl w.heap.size w)
    go_wp2_with fail
    refine C.named ?_
    intro W0 hW0
    have kW0 : Below w.heap.size w W0 := by rw [hW0]; exact (by (repeat (first | exact Below.refl _ _ | (refine Below.alloc ?_ (by first | omega | (simp; done) | (simp; omega)) _))))
    have bx_2p : C.Box3 W0 (w.heap.size) 30 (.int .i64 m0.size) (.slice a0 m0.doors.length c0) (.slice b0 m0.keys.length d0) := by rw [hW0]; exact C.Box3.new _ _ _ _ (by simp)
    have bx_2q := bx_2p.lt
    have bx_2 := Lib.hid bx_2p
    clear bx_2p
    clear hW0
    have tt_3 := Lib.hid (C.Turned.of_below kW0 0 0)
    have zz_4 := tt_3.out.size
    have ff_5 := Lib.hid (x0.out.turned tt_3.out (by omega) (by omega))
    clear x0
    have ff_6 := Lib.hid (x1.out.turned tt_3.out (by omega) (by omega))
    clear x1
    have bb_7 := Lib.hid (C.Below.far bb_1.out tt_3.out)
    clear tt_3 bb_1
    clear kW0
    refine (C.szMaze_any W0 m0 a0 b0 c0 d0 (1048576) (by omega) (by omega) (by omega) (by omega)).mono ?_
    rintro e W1 ⟨rfl, hb⟩
    have tt_8 := Lib.hid (C.Turned.of_below hb 0 0)
    have zz_9 := tt_8.out.size
    have ff_10 := Lib.hid (ff_5.out.turned tt_8.out (by omega) (by omega))
    clear ff_5
    have ff_11 := Lib.hid (ff_6.out.turned tt_8.out (by omega) (by omega))
    clear ff_6
    have ff_12 := Lib.hid (bx_2.out.turned tt_8.out (by omega))
    clear bx_2
    have bb_13 := Lib.hid (C.Below.far bb_7.out tt_8.out)
    clear tt_8 bb_7
    clear hb
    rw [if_pos (by omega)]
    obtain ⟨cl_14, cl_15, cl_16⟩ := ff_12.out.cells
    go_wp2_with fail
    go_ret
    exact ⟨rfl, bb_13.out⟩
  go_enter Try.func10, Try.ntmps10
  have bb_1 := Lib.hid (Below.refl w.heap.size w)
  go_wp2_with fail
  refine C.named ?_
  intro W0 hW0
  have kW0 : Below w.heap.size w W0 := by rw [hW0]; exact (by (repeat (first | exact Below.refl _ _ | (refine Below.alloc ?_ (by first | omega | (simp; done) | (simp; omega)) _))))
  have bx_2p : C.Box3 W0 (w.heap.size) 30 (.int .i64 m0.size) (.slice a0 m0.doors.length c0) (.slice b0 m0.keys.length d0) := by rw [hW0]; exact C.Box3.new _ _ _ _ (by simp)
  have bx_2q := bx_2p.lt
  have bx_2 := Lib.hid bx_2p
  clear bx_2p
  clear hW0
  have tt_3 := Lib.hid (C.Turned.of_below kW0 0 0)
  have zz_4 := tt_3.out.size
  have ff_5 := Lib.hid (x0.out.turned tt_3.out (by omega) (by omega))
  clear x0
  have ff_6 := Lib.hid (x1.out.turned tt_3.out (by omega) (by omega))
  clear x1
  have bb_7 := Lib.hid (C.Below.far bb_1.out tt_3.out)
  clear tt_3 bb_1
  clear kW0
  refine (C.szMaze_any W0 m0 a0 b0 c0 d0 (1048576) (by omega) (by omega) (by omega) (by omega)).mono ?_
  rintro e W1 ⟨rfl, hb⟩
  have tt_8 := Lib.hid (C.Turned.of_below hb 0 0)
  have zz_9 := tt_8.out.size
  have ff_10 := Lib.hid (ff_5.out.turned tt_8.out (by omega) (by omega))
  clear ff_5
  have ff_11 := Lib.hid (ff_6.out.turned tt_8.out (by omega) (by omega))
  clear ff_6
  have ff_12 := Lib.hid (bx_2.out.turned tt_8.out (by omega))
  clear bx_2
  have bb_13 := Lib.hid (C.Below.far bb_7.out tt_8.out)
  clear tt_8 bb_7
  clear hb
  rw [if_neg (by omega)]
  obtain ⟨cl_14, cl_15, cl_16⟩ := ff_12.out.cells
  have hbd : (M.takenOnV m0 l1).length ≤ 1048576 := M.takenOnV_len _ (by omega)
  go_wp2_with fail
  refine (C.toMaze_any W1 0 w.heap.size m0 a0 b0 c0 d0 ff_10.out (by omega) (by omega) (by omega)).mono ?_
  rintro e W2 ⟨t_17, t_18, t_19, t_20, rfl, ho, hb⟩
  clear cl_14 cl_15 cl_16
  have tt_21 := Lib.hid (C.Turned.of_below hb 0 0)
  have zz_22 := tt_21.out.size
  have ff_23 := Lib.hid (ff_10.out.turned tt_21.out (by omega) (by omega))
  clear ff_10
  have ff_24 := Lib.hid (ff_11.out.turned tt_21.out (by omega) (by omega))
  clear ff_11
  have ff_25 := Lib.hid (ff_12.out.turned tt_21.out (by omega))
  clear ff_12
  have bb_26 := Lib.hid (C.Below.far bb_13.out tt_21.out)
  clear tt_21 bb_13
  clear hb
  have fo_27 := Lib.hid ho
  clear ho
  obtain ⟨cl_28, cl_29, cl_30⟩ := ff_25.out.cells
  go_wp2_with fail
  refine (C.toInts_any W2 0 w.heap.size a1 cap1 l1 ff_24.out (by omega) (by omega)).mono ?_
  rintro e W3 ⟨rfl, ho, hb⟩
  clear cl_28 cl_29 cl_30
  have tt_31 := Lib.hid (C.Turned.of_below hb 0 0)
  have zz_32 := tt_31.out.size
  have ff_33 := Lib.hid (ff_23.out.turned tt_31.out (by omega) (by omega))
  clear ff_23
  have ff_34 := Lib.hid (ff_24.out.turned tt_31.out (by omega) (by omega))
  clear ff_24
  have ff_35 := Lib.hid (fo_27.out.turned tt_31.out (by omega) (by omega))
  clear fo_27
  have ff_36 := Lib.hid (ff_25.out.turned tt_31.out (by omega))
  clear ff_25
  have bb_37 := Lib.hid (C.Below.far bb_26.out tt_31.out)
  clear tt_31 bb_26
  clear hb
  have fo_38 := Lib.hid ho
  clear ho
  obtain ⟨cl_39, cl_40, cl_41⟩ := ff_36.out.cells
  go_wp2_with fail
  refine (C.specTakenOn_lw W3 (W1.heap.size) (W2.heap.size) m0 t_17 t_19 t_18 t_20 ff_35.out.mz (by omega) (by omega) (by omega) (W2.heap.size) (W3.heap.size) (some ⟨W2.heap.size, 0, none⟩) l1.length l1 fo_38.out.row (by omega) (by omega) (by omega) (by omega) B1.out).mono ?_
  rintro e W4 ⟨r_42, r_43, rfl, ho, hq1, hq2, hb⟩
  clear cl_39 cl_40 cl_41
  have tt_44 := Lib.hid (C.Turned.of_below hb 0 0)
  have zz_45 := tt_44.out.size
  have ff_46 := Lib.hid (ff_33.out.turned tt_44.out (by omega) (by omega))
  clear ff_33
  have ff_47 := Lib.hid (ff_34.out.turned tt_44.out (by omega) (by omega))
  clear ff_34
  have ff_48 := Lib.hid (ff_35.out.turned tt_44.out (by omega) (by omega))
  clear ff_35
  have ff_49 := Lib.hid (fo_38.out.turned tt_44.out (by omega) (by omega))
  clear fo_38
  have ff_50 := Lib.hid (ff_36.out.turned tt_44.out (by omega))
  clear ff_36
  have bb_51 := Lib.hid (C.Below.far bb_37.out tt_44.out)
  clear tt_44 bb_37
  clear hb
  have fo_52 := Lib.hid ho
  clear ho hq1 hq2
  obtain ⟨cl_53, cl_54, cl_55⟩ := ff_50.out.cells
  clear ff_48 ff_49
  go_wp2_with fail
  refine (C.toMaze_any W4 0 w.heap.size m0 a0 b0 c0 d0 ff_46.out (by omega) (by omega) (by omega)).mono ?_
  rintro e W5 ⟨t_56, t_57, t_58, t_59, rfl, ho, hb⟩
  clear cl_53 cl_54 cl_55
  have tt_60 := Lib.hid (C.Turned.of_below hb 0 0)
  have zz_61 := tt_60.out.size
  have ff_62 := Lib.hid (ff_46.out.turned tt_60.out (by omega) (by omega))
  clear ff_46
  have ff_63 := Lib.hid (ff_47.out.turned tt_60.out (by omega) (by omega))
  clear ff_47
  have ff_64 := Lib.hid (fo_52.out.turned tt_60.out (by omega) (by omega))
  clear fo_52
  have ff_65 := Lib.hid (ff_50.out.turned tt_60.out (by omega))
  clear ff_50
  have bb_66 := Lib.hid (C.Below.far bb_51.out tt_60.out)
  clear tt_60 bb_51
  clear hb
  have fo_67 := Lib.hid ho
  clear ho
  obtain ⟨cl_68, cl_69, cl_70⟩ := ff_65.out.cells
  go_wp2_with fail
  refine C.named ?_
  intro W6 hW6
  have kW6 : Below W5.heap.size W5 W6 := by rw [hW6]; exact (by (repeat (first | exact Below.refl _ _ | (refine Below.alloc ?_ (by first | omega | (simp; done) | (simp; omega)) _))))
  have bx_71p : C.Box3 W6 (W5.heap.size) 33 (.int .i64 m0.size) (.slice t_56 m0.doors.length t_57) (.slice t_58 m0.keys.length t_59) := by rw [hW6]; exact C.Box3.new _ _ _ _ (by simp)
  have bx_71q := bx_71p.lt
  have bx_71 := Lib.hid bx_71p
  clear bx_71p
  clear hW6
  clear cl_68 cl_69 cl_70
  have tt_72 := Lib.hid (C.Turned.of_below kW6 0 0)
  have zz_73 := tt_72.out.size
  have ff_74 := Lib.hid (ff_62.out.turned tt_72.out (by omega) (by omega))
  clear ff_62
  have ff_75 := Lib.hid (ff_63.out.turned tt_72.out (by omega) (by omega))
  clear ff_63
  have ff_76 := Lib.hid (ff_64.out.turned tt_72.out (by omega) (by omega))
  clear ff_64
  have ff_77 := Lib.hid (fo_67.out.turned tt_72.out (by omega) (by omega))
  clear fo_67
  have ff_78 := Lib.hid (ff_65.out.turned tt_72.out (by omega))
  clear ff_65
  have bb_79 := Lib.hid (C.Below.far bb_66.out tt_72.out)
  clear tt_72 bb_66
  clear kW6
  refine (C.toInts_any W6 0 w.heap.size a1 cap1 l1 ff_75.out (by omega) (by omega)).mono ?_
  rintro e W7 ⟨rfl, ho, hb⟩
  have tt_80 := Lib.hid (C.Turned.of_below hb 0 0)
  have zz_81 := tt_80.out.size
  have ff_82 := Lib.hid (ff_74.out.turned tt_80.out (by omega) (by omega))
  clear ff_74
  have ff_83 := Lib.hid (ff_75.out.turned tt_80.out (by omega) (by omega))
  clear ff_75
  have ff_84 := Lib.hid (ff_76.out.turned tt_80.out (by omega) (by omega))
  clear ff_76
  have ff_85 := Lib.hid (ff_77.out.turned tt_80.out (by omega) (by omega))
  clear ff_77
  have ff_86 := Lib.hid (ff_78.out.turned tt_80.out (by omega))
  clear ff_78
  have ff_87 := Lib.hid (bx_71.out.turned tt_80.out (by omega))
  clear bx_71
  have bb_88 := Lib.hid (C.Below.far bb_79.out tt_80.out)
  clear tt_80 bb_79
  clear hb
  have fo_89 := Lib.hid ho
  clear ho
  obtain ⟨cl_90, cl_91, cl_92⟩ := ff_86.out.cells
  obtain ⟨cl_93, cl_94, cl_95⟩ := ff_87.out.cells
  go_wp2_with fail
  refine (C.implTakenOn_lw W7 (W4.heap.size) (W5.heap.size) m0 t_56 t_58 t_57 t_59 ff_85.out.mz (by omega) (by omega) (by omega) (W6.heap.size) (W7.heap.size) (some ⟨W6.heap.size, 0, none⟩) l1.length l1 fo_89.out.row (by omega) (by omega) (by omega) (by omega) B1.out).mono ?_
  rintro e W8 ⟨r_96, r_97, rfl, ho, hq1, hq2, hb⟩
  clear cl_90 cl_91 cl_92 cl_93 cl_94 cl_95
  have tt_98 := Lib.hid (C.Turned.of_below hb 0 0)
  have zz_99 := tt_98.out.size
  have ff_100 := Lib.hid (ff_82.out.turned tt_98.out (by omega) (by omega))
  clear ff_82
  have ff_101 := Lib.hid (ff_83.out.turned tt_98.out (by omega) (by omega))
  clear ff_83
  have ff_102 := Lib.hid (ff_84.out.turned tt_98.out (by omega) (by omega))
  clear ff_84
  have ff_103 := Lib.hid (ff_85.out.turned tt_98.out (by omega) (by omega))
  clear ff_85
  have ff_104 := Lib.hid (fo_89.out.turned tt_98.out (by omega) (by omega))
  clear fo_89
  have ff_105 := Lib.hid (ff_86.out.turned tt_98.out (by omega))
  clear ff_86
  have ff_106 := Lib.hid (ff_87.out.turned tt_98.out (by omega))
  clear ff_87
  have bb_107 := Lib.hid (C.Below.far bb_88.out tt_98.out)
  clear tt_98 bb_88
  clear hb
  have fo_108 := Lib.hid ho
  clear ho hq1 hq2
  obtain ⟨cl_109, cl_110, cl_111⟩ := ff_105.out.cells
  obtain ⟨cl_112, cl_113, cl_114⟩ := ff_106.out.cells
  go_wp2_with fail
  refine (C.eqInts_any W8 (W7.heap.size) (W8.heap.size) (W3.heap.size) (W4.heap.size) r_96 r_42 r_97 r_43 (M.takenOnV m0 l1) (by omega) fo_108.out.row ff_102.out.row).mono ?_
  rintro e W9 ⟨rfl, nd_115, hW9⟩
  have hb : Below W8.heap.size W8 W9 := by rw [hW9]; exact C.below_drawn _ _
  clear hW9
  clear cl_109 cl_110 cl_111 cl_112 cl_113 cl_114
  have tt_116 := Lib.hid (C.Turned.of_below hb 0 0)
  have zz_117 := tt_116.out.size
  have ff_118 := Lib.hid (ff_100.out.turned tt_116.out (by omega) (by omega))
  clear ff_100
  have ff_119 := Lib.hid (ff_101.out.turned tt_116.out (by omega) (by omega))
  clear ff_101
  have ff_120 := Lib.hid (ff_102.out.turned tt_116.out (by omega) (by omega))
  clear ff_102
  have ff_121 := Lib.hid (ff_103.out.turned tt_116.out (by omega) (by omega))
  clear ff_103
  have ff_122 := Lib.hid (ff_104.out.turned tt_116.out (by omega) (by omega))
  clear ff_104
  have ff_123 := Lib.hid (fo_108.out.turned tt_116.out (by omega) (by omega))
  clear fo_108
  have ff_124 := Lib.hid (ff_105.out.turned tt_116.out (by omega))
  clear ff_105
  have ff_125 := Lib.hid (ff_106.out.turned tt_116.out (by omega))
  clear ff_106
  have bb_126 := Lib.hid (C.Below.far bb_107.out tt_116.out)
  clear tt_116 bb_107
  clear hb
  obtain ⟨cl_127, cl_128, cl_129⟩ := ff_124.out.cells
  obtain ⟨cl_130, cl_131, cl_132⟩ := ff_125.out.cells
  go_upto_region 13 with fail
  go_cut [56] (fun sl wx => sl = .bool false ∧ Below W9.heap.size W9 wx)
  case first =>
    go_region_with (first | (go_at_call 21; refine (C.toMaze_any W9.drew 0 w.heap.size m0 a0 b0 c0 d0 (ff_118.out.turned (C.Turned.of_below (Below.refl W9.heap.size W9).drew 0 0) (by omega) (by omega)) (show w.heap.size ≤ W9.heap.size by omega) (by omega) (by omega)).mono ?_; rintro e w2 ⟨t_133, t_134, t_135, t_136, rfl, ho, hb⟩; have hbq : Below W9.heap.size W9 w2 := (Below.refl W9.heap.size W9).drew.trans hb; have hzq := hbq.size; obtain ⟨cm_137, cm_138, cm_139⟩ := (ff_124.out.turned (C.Turned.of_below hbq 0 0) (by omega)).cells; obtain ⟨cm_140, cm_141, cm_142⟩ := (ff_125.out.turned (C.Turned.of_below hbq 0 0) (by omega)).cells) | (go_at_call 23; refine (C.eqMaze_any w2 (W4.heap.size) (W5.heap.size) _ _ m0 _ _ _ _ _ _ _ _ (C.MzOwn.mz (C.MzOwn.turned ff_121.out (C.Turned.of_below hbq 0 0) (by omega) (by omega))) ho.mz (by omega) (Nat.le_refl _) (by omega) (by omega)).mono ?_; rintro e w3 ⟨rfl, hb3⟩))
    all_goals (go_wp2_with fail; go_meet; exact ⟨rfl, C.Below.more hbq hb3⟩)
  case rest =>
    obtain ⟨rfl, hb⟩ := hcut
    clear cl_127 cl_128 cl_129 cl_130 cl_131 cl_132
    have tt_143 := Lib.hid (C.Turned.of_below hb 0 0)
    have zz_144 := tt_143.out.size
    have ff_145 := Lib.hid (ff_118.out.turned tt_143.out (by omega) (by omega))
    clear ff_118
    have ff_146 := Lib.hid (ff_119.out.turned tt_143.out (by omega) (by omega))
    clear ff_119
    have ff_147 := Lib.hid (ff_120.out.turned tt_143.out (by omega) (by omega))
    clear ff_120
    have ff_148 := Lib.hid (ff_121.out.turned tt_143.out (by omega) (by omega))
    clear ff_121
    have ff_149 := Lib.hid (ff_122.out.turned tt_143.out (by omega) (by omega))
    clear ff_122
    have ff_150 := Lib.hid (ff_123.out.turned tt_143.out (by omega) (by omega))
    clear ff_123
    have ff_151 := Lib.hid (ff_124.out.turned tt_143.out (by omega))
    clear ff_124
    have ff_152 := Lib.hid (ff_125.out.turned tt_143.out (by omega))
    clear ff_125
    have bb_153 := Lib.hid (C.Below.far bb_126.out tt_143.out)
    clear tt_143 bb_126
    clear hb
    obtain ⟨cl_154, cl_155, cl_156⟩ := ff_151.out.cells
    obtain ⟨cl_157, cl_158, cl_159⟩ := ff_152.out.cells
    go_wp2_with fail
    refine (C.toInts_any wc 0 w.heap.size a1 cap1 l1 ff_146.out (by omega) (by omega)).mono ?_
    rintro e W11 ⟨rfl, ho, hb⟩
    clear cl_154 cl_155 cl_156 cl_157 cl_158 cl_159
    have tt_160 := Lib.hid (C.Turned.of_below hb 0 0)
    have zz_161 := tt_160.out.size
    have ff_162 := Lib.hid (ff_145.out.turned tt_160.out (by omega) (by omega))
    clear ff_145
    have ff_163 := Lib.hid (ff_146.out.turned tt_160.out (by omega) (by omega))
    clear ff_146
    have ff_164 := Lib.hid (ff_147.out.turned tt_160.out (by omega) (by omega))
    clear ff_147
    have ff_165 := Lib.hid (ff_148.out.turned tt_160.out (by omega) (by omega))
    clear ff_148
    have ff_166 := Lib.hid (ff_149.out.turned tt_160.out (by omega) (by omega))
    clear ff_149
    have ff_167 := Lib.hid (ff_150.out.turned tt_160.out (by omega) (by omega))
    clear ff_150
    have ff_168 := Lib.hid (ff_151.out.turned tt_160.out (by omega))
    clear ff_151
    have ff_169 := Lib.hid (ff_152.out.turned tt_160.out (by omega))
    clear ff_152
    have bb_170 := Lib.hid (C.Below.far bb_153.out tt_160.out)
    clear tt_160 bb_153
    clear hb
    have fo_171 := Lib.hid ho
    clear ho
    obtain ⟨cl_172, cl_173, cl_174⟩ := ff_168.out.cells
    obtain ⟨cl_175, cl_176, cl_177⟩ := ff_169.out.cells
    go_wp2_with fail
    refine (C.eqInts_any W11 (W6.heap.size) (W7.heap.size) (wc.heap.size) (W11.heap.size) (some ⟨W6.heap.size, 0, none⟩) (some ⟨wc.heap.size, 0, none⟩) l1.length l1.length l1 (by omega) ff_166.out.row fo_171.out.row).mono ?_
    rintro e W12 ⟨rfl, nd_178, hW12⟩
    have hb : Below W11.heap.size W11 W12 := by rw [hW12]; exact C.below_drawn _ _
    clear hW12
    clear cl_172 cl_173 cl_174 cl_175 cl_176 cl_177
    have tt_179 := Lib.hid (C.Turned.of_below hb 0 0)
    have zz_180 := tt_179.out.size
    have ff_181 := Lib.hid (ff_162.out.turned tt_179.out (by omega) (by omega))
    clear ff_162
    have ff_182 := Lib.hid (ff_163.out.turned tt_179.out (by omega) (by omega))
    clear ff_163
    have ff_183 := Lib.hid (ff_164.out.turned tt_179.out (by omega) (by omega))
    clear ff_164
    have ff_184 := Lib.hid (ff_165.out.turned tt_179.out (by omega) (by omega))
    clear ff_165
    have ff_185 := Lib.hid (ff_166.out.turned tt_179.out (by omega) (by omega))
    clear ff_166
    have ff_186 := Lib.hid (ff_167.out.turned tt_179.out (by omega) (by omega))
    clear ff_167
    have ff_187 := Lib.hid (fo_171.out.turned tt_179.out (by omega) (by omega))
    clear fo_171
    have ff_188 := Lib.hid (ff_168.out.turned tt_179.out (by omega))
    clear ff_168
    have ff_189 := Lib.hid (ff_169.out.turned tt_179.out (by omega))
    clear ff_169
    have bb_190 := Lib.hid (C.Below.far bb_170.out tt_179.out)
    clear tt_179 bb_170
    clear hb
    clear ff_187
    obtain ⟨cl_191, cl_192, cl_193⟩ := ff_188.out.cells
    obtain ⟨cl_194, cl_195, cl_196⟩ := ff_189.out.cells
    go_wp2_with fail
    refine (C.markMaze_any W12 (W4.heap.size) (W5.heap.size) m0 t_56 t_58 t_57 t_59 (1) ff_184.out (by omega) (by omega) (by omega) (by omega)).mono ?_
    rintro e W13 ⟨rfl, hm, ht⟩
    have fm_197 := Lib.hid hm
    clear hm
    clear ff_184
    clear cl_191 cl_192 cl_193 cl_194 cl_195 cl_196
    have tt_198 := Lib.hid (ht)
    have zz_199 := tt_198.out.size
    have ff_200 := Lib.hid (ff_181.out.turned tt_198.out (by omega) (by omega))
    clear ff_181
    have ff_201 := Lib.hid (ff_182.out.turned tt_198.out (by omega) (by omega))
    clear ff_182
    have ff_202 := Lib.hid (ff_183.out.turned tt_198.out (by omega) (by omega))
    clear ff_183
    have ff_203 := Lib.hid (ff_185.out.turned tt_198.out (by omega) (by omega))
    clear ff_185
    have ff_204 := Lib.hid (ff_186.out.turned tt_198.out (by omega) (by omega))
    clear ff_186
    have ff_205 := Lib.hid (ff_188.out.turned tt_198.out (by omega))
    clear ff_188
    have ff_206 := Lib.hid (ff_189.out.turned tt_198.out (by omega))
    clear ff_189
    have bb_207 := Lib.hid (C.Below.thenTurned bb_190.out tt_198.out (by omega) (by omega))
    clear tt_198 bb_190
    clear ht
    obtain ⟨cl_208, cl_209, cl_210⟩ := ff_205.out.cells
    obtain ⟨cl_211, cl_212, cl_213⟩ := ff_206.out.cells
    clear fm_197
    go_wp2_with fail
    refine (C.markInts_any W13 (W6.heap.size) (W7.heap.size) (some ⟨W6.heap.size, 0, none⟩) l1.length l1.length (1 + m0.doors.length * 3 + m0.keys.length) _ (M.encIs_len _) (by omega) (by omega) ff_203.out).mono ?_
    rintro e W14 ⟨rfl, hm, ht⟩
    have fm_214 := Lib.hid hm
    clear hm
    clear ff_203
    clear cl_208 cl_209 cl_210 cl_211 cl_212 cl_213
    have tt_215 := Lib.hid (ht)
    have zz_216 := tt_215.out.size
    have ff_217 := Lib.hid (ff_200.out.turned tt_215.out (by omega) (by omega))
    clear ff_200
    have ff_218 := Lib.hid (ff_201.out.turned tt_215.out (by omega) (by omega))
    clear ff_201
    have ff_219 := Lib.hid (ff_202.out.turned tt_215.out (by omega) (by omega))
    clear ff_202
    have ff_220 := Lib.hid (ff_204.out.turned tt_215.out (by omega) (by omega))
    clear ff_204
    have ff_221 := Lib.hid (ff_205.out.turned tt_215.out (by omega))
    clear ff_205
    have ff_222 := Lib.hid (ff_206.out.turned tt_215.out (by omega))
    clear ff_206
    have bb_223 := Lib.hid (C.Below.thenTurned bb_207.out tt_215.out (by omega) (by omega))
    clear tt_215 bb_207
    clear ht
    obtain ⟨cl_224, cl_225, cl_226⟩ := ff_221.out.cells
    obtain ⟨cl_227, cl_228, cl_229⟩ := ff_222.out.cells
    clear fm_214
    go_wp2_with fail
    refine (C.eqInts_any W14 (W7.heap.size) (W8.heap.size) (W3.heap.size) (W4.heap.size) r_96 r_42 r_97 r_43 (M.takenOnV m0 l1) (by omega) ff_220.out.row ff_219.out.row).mono ?_
    rintro e W15 ⟨rfl, nd_230, hW15⟩
    have hb : Below W14.heap.size W14 W15 := by rw [hW15]; exact C.below_drawn _ _
    clear hW15
    clear cl_224 cl_225 cl_226 cl_227 cl_228 cl_229
    have tt_231 := Lib.hid (C.Turned.of_below hb 0 0)
    have zz_232 := tt_231.out.size
    have ff_233 := Lib.hid (ff_217.out.turned tt_231.out (by omega) (by omega))
    clear ff_217
    have ff_234 := Lib.hid (ff_218.out.turned tt_231.out (by omega) (by omega))
    clear ff_218
    have ff_235 := Lib.hid (ff_219.out.turned tt_231.out (by omega) (by omega))
    clear ff_219
    have ff_236 := Lib.hid (ff_220.out.turned tt_231.out (by omega) (by omega))
    clear ff_220
    have ff_237 := Lib.hid (ff_221.out.turned tt_231.out (by omega))
    clear ff_221
    have ff_238 := Lib.hid (ff_222.out.turned tt_231.out (by omega))
    clear ff_222
    have bb_239 := Lib.hid (C.Below.far bb_223.out tt_231.out)
    clear tt_231 bb_223
    clear hb
    obtain ⟨cl_240, cl_241, cl_242⟩ := ff_237.out.cells
    obtain ⟨cl_243, cl_244, cl_245⟩ := ff_238.out.cells
    go_wp2_with fail
    refine (C.markInts_any W15 (W7.heap.size) (W8.heap.size) r_96 r_97 (M.takenOnV m0 l1).length (1) _ (M.encIs_len _) (by omega) (by omega) ff_236.out).mono ?_
    rintro e W16 ⟨rfl, hm, ht⟩
    have fm_246 := Lib.hid hm
    clear hm
    clear ff_236
    clear cl_240 cl_241 cl_242 cl_243 cl_244 cl_245
    have tt_247 := Lib.hid (ht)
    have zz_248 := tt_247.out.size
    have ff_249 := Lib.hid (ff_233.out.turned tt_247.out (by omega) (by omega))
    clear ff_233
    have ff_250 := Lib.hid (ff_234.out.turned tt_247.out (by omega) (by omega))
    clear ff_234
    have ff_251 := Lib.hid (ff_235.out.turned tt_247.out (by omega) (by omega))
    clear ff_235
    have ff_252 := Lib.hid (ff_237.out.turned tt_247.out (by omega))
    clear ff_237
    have ff_253 := Lib.hid (ff_238.out.turned tt_247.out (by omega))
    clear ff_238
    have bb_254 := Lib.hid (C.Below.thenTurned bb_239.out tt_247.out (by omega) (by omega))
    clear tt_247 bb_239
    clear ht
    obtain ⟨cl_255, cl_256, cl_257⟩ := ff_252.out.cells
    obtain ⟨cl_258, cl_259, cl_260⟩ := ff_253.out.cells
    go_wp2_with fail
    refine (C.heldInts_any W16 (W7.heap.size) (W8.heap.size) r_96 r_97 (M.takenOnV m0 l1).length 1 (by omega) (by omega) fm_246.out.row).mono ?_
    rintro e W16 ⟨rfl, rfl⟩
    go_wp2_with fail
    refine (C.toMaze_any W16 0 w.heap.size m0 a0 b0 c0 d0 ff_249.out (by omega) (by omega) (by omega)).mono ?_
    rintro e W18 ⟨t_261, t_262, t_263, t_264, rfl, ho, hb⟩
    clear cl_255 cl_256 cl_257 cl_258 cl_259 cl_260
    have tt_265 := Lib.hid (C.Turned.of_below hb 0 0)
    have zz_266 := tt_265.out.size
    have ff_267 := Lib.hid (ff_249.out.turned tt_265.out (by omega) (by omega))
    clear ff_249
    have ff_268 := Lib.hid (ff_250.out.turned tt_265.out (by omega) (by omega))
    clear ff_250
    have ff_269 := Lib.hid (ff_251.out.turned tt_265.out (by omega) (by omega))
    clear ff_251
    have ff_270 := Lib.hid (fm_246.out.turned tt_265.out (by omega) (by omega))
    clear fm_246
    have ff_271 := Lib.hid (ff_252.out.turned tt_265.out (by omega))
    clear ff_252
    have ff_272 := Lib.hid (ff_253.out.turned tt_265.out (by omega))
    clear ff_253
    have bb_273 := Lib.hid (C.Below.far bb_254.out tt_265.out)
    clear tt_265 bb_254
    clear hb
    have fo_274 := Lib.hid ho
    clear ho
    obtain ⟨cl_275, cl_276, cl_277⟩ := ff_271.out.cells
    obtain ⟨cl_278, cl_279, cl_280⟩ := ff_272.out.cells
    go_wp2_with fail
    refine (C.toInts_any W18 0 w.heap.size a1 cap1 l1 ff_268.out (by omega) (by omega)).mono ?_
    rintro e W19 ⟨rfl, ho, hb⟩
    clear cl_275 cl_276 cl_277 cl_278 cl_279 cl_280
    have tt_281 := Lib.hid (C.Turned.of_below hb 0 0)
    have zz_282 := tt_281.out.size
    have ff_283 := Lib.hid (ff_267.out.turned tt_281.out (by omega) (by omega))
    clear ff_267
    have ff_284 := Lib.hid (ff_268.out.turned tt_281.out (by omega) (by omega))
    clear ff_268
    have ff_285 := Lib.hid (ff_269.out.turned tt_281.out (by omega) (by omega))
    clear ff_269
    have ff_286 := Lib.hid (ff_270.out.turned tt_281.out (by omega) (by omega))
    clear ff_270
    have ff_287 := Lib.hid (fo_274.out.turned tt_281.out (by omega) (by omega))
    clear fo_274
    have ff_288 := Lib.hid (ff_271.out.turned tt_281.out (by omega))
    clear ff_271
    have ff_289 := Lib.hid (ff_272.out.turned tt_281.out (by omega))
    clear ff_272
    have bb_290 := Lib.hid (C.Below.far bb_273.out tt_281.out)
    clear tt_281 bb_273
    clear hb
    have fo_291 := Lib.hid ho
    clear ho
    obtain ⟨cl_292, cl_293, cl_294⟩ := ff_288.out.cells
    obtain ⟨cl_295, cl_296, cl_297⟩ := ff_289.out.cells
    go_wp2_with fail
    refine (C.implTakenOn_lw W19 (W16.heap.size) (W18.heap.size) m0 t_261 t_263 t_262 t_264 ff_287.out.mz (by omega) (by omega) (by omega) (W18.heap.size) (W19.heap.size) (some ⟨W18.heap.size, 0, none⟩) l1.length l1 fo_291.out.row (by omega) (by omega) (by omega) (by omega) B1.out).mono ?_
    rintro e W20 ⟨r_298, r_299, rfl, ho, hq1, hq2, hb⟩
    clear cl_292 cl_293 cl_294 cl_295 cl_296 cl_297
    have tt_300 := Lib.hid (C.Turned.of_below hb 0 0)
    have zz_301 := tt_300.out.size
    have ff_302 := Lib.hid (ff_283.out.turned tt_300.out (by omega) (by omega))
    clear ff_283
    have ff_303 := Lib.hid (ff_284.out.turned tt_300.out (by omega) (by omega))
    clear ff_284
    have ff_304 := Lib.hid (ff_285.out.turned tt_300.out (by omega) (by omega))
    clear ff_285
    have ff_305 := Lib.hid (ff_286.out.turned tt_300.out (by omega) (by omega))
    clear ff_286
    have ff_306 := Lib.hid (ff_287.out.turned tt_300.out (by omega) (by omega))
    clear ff_287
    have ff_307 := Lib.hid (fo_291.out.turned tt_300.out (by omega) (by omega))
    clear fo_291
    have ff_308 := Lib.hid (ff_288.out.turned tt_300.out (by omega))
    clear ff_288
    have ff_309 := Lib.hid (ff_289.out.turned tt_300.out (by omega))
    clear ff_289
    have bb_310 := Lib.hid (C.Below.far bb_290.out tt_300.out)
    clear tt_300 bb_290
    clear hb
    have fo_311 := Lib.hid ho
    clear ho hq1 hq2
    obtain ⟨cl_312, cl_313, cl_314⟩ := ff_308.out.cells
    obtain ⟨cl_315, cl_316, cl_317⟩ := ff_309.out.cells
    clear ff_306 ff_307
    go_wp2_with fail
    refine (C.eqInts_any W20 (W19.heap.size) (W20.heap.size) (W3.heap.size) (W4.heap.size) r_298 r_42 r_299 r_43 (M.takenOnV m0 l1) (by omega) fo_311.out.row ff_304.out.row).mono ?_
    rintro e W21 ⟨rfl, nd_318, hW21⟩
    have hb : Below W20.heap.size W20 W21 := by rw [hW21]; exact C.below_drawn _ _
    clear hW21
    clear cl_312 cl_313 cl_314 cl_315 cl_316 cl_317
    have tt_319 := Lib.hid (C.Turned.of_below hb 0 0)
    have zz_320 := tt_319.out.size
    have ff_321 := Lib.hid (ff_302.out.turned tt_319.out (by omega) (by omega))
    clear ff_302
    have ff_322 := Lib.hid (ff_303.out.turned tt_319.out (by omega) (by omega))
    clear ff_303
    have ff_323 := Lib.hid (ff_304.out.turned tt_319.out (by omega) (by omega))
    clear ff_304
    have ff_324 := Lib.hid (ff_305.out.turned tt_319.out (by omega) (by omega))
    clear ff_305
    have ff_325 := Lib.hid (fo_311.out.turned tt_319.out (by omega) (by omega))
    clear fo_311
    have ff_326 := Lib.hid (ff_308.out.turned tt_319.out (by omega))
    clear ff_308
    have ff_327 := Lib.hid (ff_309.out.turned tt_319.out (by omega))
    clear ff_309
    have bb_328 := Lib.hid (C.Below.far bb_310.out tt_319.out)
    clear tt_319 bb_310
    clear hb
    obtain ⟨cl_329, cl_330, cl_331⟩ := ff_326.out.cells
    obtain ⟨cl_332, cl_333, cl_334⟩ := ff_327.out.cells
    go_wp2_with fail
    refine (C.heldInts_any W21 (W7.heap.size) (W8.heap.size) r_96 r_97 (M.takenOnV m0 l1).length 1 (by omega) (by omega) ff_324.out.row).mono ?_
    rintro e W21 ⟨rfl, rfl⟩
    go_wp2_with fail
    go_ret
    exact ⟨rfl, bb_328.out⟩


set_option maxRecDepth 100000 in
theorem lifted (os : Os) (started : os.Started) (H : Type) (enc : TypeId × Value → H) :
    ReturnsInHanded {} Try.checked os 10 .any (Rows.fnExactTakenOnSpec.pre6 enc Try.prog Try.f10 Rows.fnExactTakenOnRow.domain false) (Rows.fnExactTakenOnSpec.post enc Try.prog Try.f10 false true false false) := by
  refine returnsInHanded_of_change (C := Try.checked) P.own started (by kernel_rfl) Try.func10
    (ChangeSpec.witness6 (enc := enc) (C := Try.checked) false ⟨#[], #[.agg #[.int .i64 0, .slice none 0 0, .slice none 0 0], .slice none 0 0], []⟩ 8 (by kernel_rfl) (by kernel_rfl) (by kernel_rfl) (by kernel_rfl)) ?_
  intro W base args ds gs before hval0 hW hcnd _
  have hval : ∀ (j : Nat) t v, Try.f10.params[j]? = some t → args[j]? = some v → Value.okWide Try.prog W .any base t v := hval0
  have hW' := hW
  obtain ⟨p, q, hA0, hV, rfl, hfz, hnd⟩ := hW
  have hA : DataW.TrodAll enc Try.prog W 0 (fun _ => true) true Try.f10.params.toList args.toList ds p := hA0
  rw [Try.params10] at hA hval
  obtain ⟨v0, vs0, d0, ds0, p0, q0, hargs, rfl, rfl, h0, r0⟩ := trodAll_cons hA
  obtain ⟨v1, vs1, d1, ds1, p1, q1, rfl, rfl, rfl, h1, r1⟩ := trodAll_cons r0
  obtain ⟨rfl, rfl, rfl⟩ := trodAll_nil r1
  obtain rfl : args = #[v0, v1] := by cases args; simp_all
  obtain ⟨rfl, rfl⟩ := trodVars_none hV
  have k0 := h0
  have lt0 : ∀ x ∈ p0, x.block < W.heap.size := by obtain ⟨m, hm⟩ := k0; exact DataW.trod_lt m _ _ _ hm
  obtain ⟨m0, a0, c0, b0, e0, rfl, w0⟩ := C.open_maze (hval 0 30 v0 rfl rfl) h0
  have k1 := h1
  have lt1 : ∀ x ∈ p1, x.block < W.heap.size := by obtain ⟨m, hm⟩ := k1; exact DataW.trod_lt m _ _ _ hm
  obtain ⟨a1, len1, cap1, rfl⟩ := okWide_slice Try.underlying22 (hval 1 22 v1 rfl rfl)
  obtain ⟨l1, rfl, w1, u1, x1, y1⟩ : ∃ l : List Int, len1 = l.length ∧ C.RowIn 0 W.heap.size W a1 (M.encIs l) ∧ l.length ≤ cap1 ∧ cap1 ≤ maxLen ∧ ∀ z ∈ l, (Lit.int .i64 z).wf = true := by
    obtain ⟨fuel, hf⟩ := h1
    exact C.open_ints_at hf
  unfold maxLen at x1
  have b1 : ∀ z ∈ l1, -9223372036854775808 ≤ z ∧ z ≤ 9223372036854775807 := fun z hz => by have := Go.bounds_i64 (y1 z hz); omega
  clear hA0 hval0
  refine (walk W m0 a0 c0 b0 e0 w0 a1 cap1 l1 w1 u1 (by omega) b1).mono fun e W' ⟨he, hb⟩ => ?_
  subst he
  exact ⟨_, rfl, _, _, _, [], _, [], hW', trodAll_mk1 (shut_bool Try.underlying4 _), (trodAll_cons_mk (Below.trod P.laidOut (by kernel_rfl) (of_decide_eq_true (by kernel_rfl)) k0 hb lt0) (trodAll_cons_mk (Below.trod P.laidOut (by kernel_rfl) (of_decide_eq_true (by kernel_rfl)) k1 hb lt1) trodAll_mk0)), rfl, hb.frame _, fun h => by cases h⟩

theorem proved : Rows.FnExactTakenOnSaid :=
  OpenClaim.holds_of_wide 10 Try.f10 rfl rfl rfl rfl rfl rfl rfl ⟨rfl, rfl, rfl, rfl, rfl⟩ rfl rfl rfl rfl rfl (by kernel_rfl) Try.func10 (by kernel_rfl)
    (of_decide_eq_true (by kernel_rfl)) (by unfold Func.isWrapper; first | (rw [if_pos (by decide +kernel)]; kernel_rfl) | (rw [if_neg (by decide +kernel)]; exact ⟨rfl, rfl⟩))
    (fun os started H enc _ => lifted os started H enc)
#print axioms proved
end Go.Proofs.Ytkgjmddogcoemaa.fnExactTakenOn
