/-
  PROVED: for every maze aM, every int aSet and every list of ints aFilling the law laws.FnExactLayKeys returns true, that is, impl.LayKeys answers as the model does, in memory of its own at each call; its arguments read afterwards as before. Conditions: none.
-/
import Derived.Test.YtddpjjdncmokmaaRows
import Derived.Test.YtddpjjdncmokmaaWAMem
import Derived.Test.YtddpjjdncmokmaaClo
import Derived.Test.YtddpjjdncmokmaaMaz2
import Derived.Test.YtddpjjdncmokmaaDepS
import Derived.Test.YtddpjjdncmokmaaLayI
import Derived.WalkKit
import Derived.ProofKit
import Derived.JoinedOf
import Derived.OpenShut
import Derived.ShutString
import Derived.Deep.RegionWith
import Derived.Deep.DeepCutAuto
namespace Go.Proofs.Ytddpjjdncmokmaa.fnExactLayKeys
open Go.ChangeShapes Go.WideShapes Go.ChangeAt Go.RowKit
open Go.ChangeMaps (open_string shut_string)
set_option linter.unusedVariables false

set_option maxHeartbeats 4000000 in
set_option maxRecDepth 100000 in
theorem walk (w : World) (m0 : M.Mz) (a0 : Option Addr) (c0 : Nat) (b0 : Option Addr) (d0 : Nat) (w0 : C.MzIn 0 w.heap.size w m0 a0 c0 b0 d0) (a1 : Int) (w1 : (Lit.int .i64 a1).wf = true) (a2 : Option Addr) (cap2 : Nat) (l2 : List Int) (w2 : C.RowIn 0 w.heap.size w a2 (M.encIs l2)) (u2 : l2.length ≤ cap2) (v2 : cap2 ≤ 9223372036854775807) (b2 : ∀ z ∈ l2, -9223372036854775808 ≤ z ∧ z ≤ 9223372036854775807) :
    Calls Try.prog 3 #[(.agg #[.int .i64 m0.size, .slice a0 m0.doors.length c0, .slice b0 m0.keys.length d0]), .int .i64 a1, .slice a2 l2.length cap2] w fun e w' => e = .returned (.bool true) ∧ Below w.heap.size w w' := by
  have wd1 := Go.bounds_i64 w1
  have y0 := Nat.le_trans w0.c1 w0.c2
  have z0 := Nat.le_trans w0.d1 w0.d2
  have x0 := Lib.hid w0
  clear w0
  have x2 := Lib.hid w2
  clear w2
  have B2 := Lib.hid b2
  clear b2
  by_cases s0 : 1048576 < l2.length
  · go_enter Try.func3, Try.ntmps3
    have bb_1 := Lib.hid (Below.refl w.heap.size w)
    go_wp2_with fail
    go_ret
    exact ⟨rfl, (by (repeat (first | exact Below.refl _ _ | (refine Below.alloc ?_ (by first | omega | (simp; done) | (simp; omega)) _))))⟩
  by_cases s1 : 1048576 < m0.doors.length + m0.keys.length
  · go_enter Try.func3, Try.ntmps3
    have bb_1 := Lib.hid (Below.refl w.heap.size w)
    go_wp2_with fail
    refine C.named ?_
    intro W0 hW0
    have kW0 : Below w.heap.size w W0 := by rw [hW0]; exact (by (repeat (first | exact Below.refl _ _ | (refine Below.alloc ?_ (by first | omega | (simp; done) | (simp; omega)) _))))
    have bx_2p : C.Box3 W0 (w.heap.size) 25 (.int .i64 m0.size) (.slice a0 m0.doors.length c0) (.slice b0 m0.keys.length d0) := by rw [hW0]; exact C.Box3.new _ _ _ _ (by simp)
    have bx_2q := bx_2p.lt
    have bx_2 := Lib.hid bx_2p
    clear bx_2p
    clear hW0
    have tt_3 := Lib.hid (C.Turned.of_below kW0 0 0)
    have zz_4 := tt_3.out.size
    have ff_5 := Lib.hid (x0.out.turned tt_3.out (by omega) (by omega))
    clear x0
    have ff_6 := Lib.hid (x2.out.turned tt_3.out (by omega) (by omega))
    clear x2
    have bb_7 := Lib.hid (C.Below.far bb_1.out tt_3.out)
    clear tt_3 bb_1
    clear kW0
    refine (C.szMaze_any W0 m0 a0 b0 c0 d0 (1048576) (by omega) (by omega) (by omega) (by omega)).mono ?_
    rintro e W1 ⟨rfl, hb⟩
    have tt_8 := Lib.hid (C.Turned.of_below hb 0 0)
    have zz_9 := tt_8.out.size
    have ff_10 := Lib.hid (ff_5.out.turned tt_8.out (by omega) (by omega))
    clear ff_5
    have ff_11 := Lib.hid (ff_6.out.turned tt_8.out (by omega) (by omega))
    clear ff_6
    have ff_12 := Lib.hid (bx_2.out.turned tt_8.out (by omega))
    clear bx_2
    have bb_13 := Lib.hid (C.Below.far bb_7.out tt_8.out)
    clear tt_8 bb_7
    clear hb
    rw [if_pos (by omega)]
    obtain ⟨cl_14, cl_15, cl_16⟩ := ff_12.out.cells
    have cq_17 := ff_12.out.lt
    go_wp2_with fail
    go_ret
    exact ⟨rfl, bb_13.out⟩
  go_enter Try.func3, Try.ntmps3
  have bb_1 := Lib.hid (Below.refl w.heap.size w)
  go_wp2_with fail
  refine C.named ?_
  intro W0 hW0
  have kW0 : Below w.heap.size w W0 := by rw [hW0]; exact (by (repeat (first | exact Below.refl _ _ | (refine Below.alloc ?_ (by first | omega | (simp; done) | (simp; omega)) _))))
  have bx_2p : C.Box3 W0 (w.heap.size) 25 (.int .i64 m0.size) (.slice a0 m0.doors.length c0) (.slice b0 m0.keys.length d0) := by rw [hW0]; exact C.Box3.new _ _ _ _ (by simp)
  have bx_2q := bx_2p.lt
  have bx_2 := Lib.hid bx_2p
  clear bx_2p
  clear hW0
  have tt_3 := Lib.hid (C.Turned.of_below kW0 0 0)
  have zz_4 := tt_3.out.size
  have ff_5 := Lib.hid (x0.out.turned tt_3.out (by omega) (by omega))
  clear x0
  have ff_6 := Lib.hid (x2.out.turned tt_3.out (by omega) (by omega))
  clear x2
  have bb_7 := Lib.hid (C.Below.far bb_1.out tt_3.out)
  clear tt_3 bb_1
  clear kW0
  refine (C.szMaze_any W0 m0 a0 b0 c0 d0 (1048576) (by omega) (by omega) (by omega) (by omega)).mono ?_
  rintro e W1 ⟨rfl, hb⟩
  have tt_8 := Lib.hid (C.Turned.of_below hb 0 0)
  have zz_9 := tt_8.out.size
  have ff_10 := Lib.hid (ff_5.out.turned tt_8.out (by omega) (by omega))
  clear ff_5
  have ff_11 := Lib.hid (ff_6.out.turned tt_8.out (by omega) (by omega))
  clear ff_6
  have ff_12 := Lib.hid (bx_2.out.turned tt_8.out (by omega))
  clear bx_2
  have bb_13 := Lib.hid (C.Below.far bb_7.out tt_8.out)
  clear tt_8 bb_7
  clear hb
  rw [if_neg (by omega)]
  obtain ⟨cl_14, cl_15, cl_16⟩ := ff_12.out.cells
  have cq_17 := ff_12.out.lt
  have hbd : (M.laidV m0 a1 l2).doors.length ≤ 1048576 ∧ (M.laidV m0 a1 l2).keys.length ≤ 1048576 := M.laidV_bd _ _
  obtain ⟨hbd1, hbd2⟩ := hbd
  go_wp2_with fail
  refine (C.toMaze_any W1 0 w.heap.size m0 a0 b0 c0 d0 ff_10.out (by omega) (by omega) (by omega)).mono ?_
  rintro e W2 ⟨t_18, t_19, t_20, t_21, rfl, ho, hb⟩
  clear cl_14 cl_15 cl_16 cq_17
  have tt_22 := Lib.hid (C.Turned.of_below hb 0 0)
  have zz_23 := tt_22.out.size
  have ff_24 := Lib.hid (ff_10.out.turned tt_22.out (by omega) (by omega))
  clear ff_10
  have ff_25 := Lib.hid (ff_11.out.turned tt_22.out (by omega) (by omega))
  clear ff_11
  have ff_26 := Lib.hid (ff_12.out.turned tt_22.out (by omega))
  clear ff_12
  have bb_27 := Lib.hid (C.Below.far bb_13.out tt_22.out)
  clear tt_22 bb_13
  clear hb
  have fo_28 := Lib.hid ho
  clear ho
  obtain ⟨cl_29, cl_30, cl_31⟩ := ff_26.out.cells
  have cq_32 := ff_26.out.lt
  go_wp2_with fail
  refine (C.toInts_any W2 0 w.heap.size a2 cap2 l2 ff_25.out (by omega) (by omega)).mono ?_
  rintro e W3 ⟨rfl, ho, hb⟩
  clear cl_29 cl_30 cl_31 cq_32
  have tt_33 := Lib.hid (C.Turned.of_below hb 0 0)
  have zz_34 := tt_33.out.size
  have ff_35 := Lib.hid (ff_24.out.turned tt_33.out (by omega) (by omega))
  clear ff_24
  have ff_36 := Lib.hid (ff_25.out.turned tt_33.out (by omega) (by omega))
  clear ff_25
  have ff_37 := Lib.hid (fo_28.out.turned tt_33.out (by omega) (by omega))
  clear fo_28
  have ff_38 := Lib.hid (ff_26.out.turned tt_33.out (by omega))
  clear ff_26
  have bb_39 := Lib.hid (C.Below.far bb_27.out tt_33.out)
  clear tt_33 bb_27
  clear hb
  have fo_40 := Lib.hid ho
  clear ho
  obtain ⟨cl_41, cl_42, cl_43⟩ := ff_38.out.cells
  have cq_44 := ff_38.out.lt
  go_wp2_with fail
  refine (C.specLay_lw W3 (W1.heap.size) (W2.heap.size) m0 t_18 t_20 t_19 t_21 ff_37.out.mz (by omega) (by omega) (by omega) a1 (by omega) (by omega) (W2.heap.size) (W3.heap.size) (some ⟨W2.heap.size, 0, none⟩) l2.length l2 fo_40.out.row (by omega) (by omega) (by omega) (by omega) B2.out).mono ?_
  rintro e W4 ⟨r_45, r_46, r_47, r_48, rfl, ho, hb⟩
  clear cl_41 cl_42 cl_43 cq_44
  have tt_49 := Lib.hid (C.Turned.of_below hb 0 0)
  have zz_50 := tt_49.out.size
  have ff_51 := Lib.hid (ff_35.out.turned tt_49.out (by omega) (by omega))
  clear ff_35
  have ff_52 := Lib.hid (ff_36.out.turned tt_49.out (by omega) (by omega))
  clear ff_36
  have ff_53 := Lib.hid (ff_37.out.turned tt_49.out (by omega) (by omega))
  clear ff_37
  have ff_54 := Lib.hid (fo_40.out.turned tt_49.out (by omega) (by omega))
  clear fo_40
  have ff_55 := Lib.hid (ff_38.out.turned tt_49.out (by omega))
  clear ff_38
  have bb_56 := Lib.hid (C.Below.far bb_39.out tt_49.out)
  clear tt_49 bb_39
  clear hb
  have fo_57 := Lib.hid ho
  clear ho
  obtain ⟨cl_58, cl_59, cl_60⟩ := ff_55.out.cells
  have cq_61 := ff_55.out.lt
  clear ff_53 ff_54
  go_wp2_with fail
  refine C.named ?_
  intro W5 hW5
  have kW5 : Below W4.heap.size W4 W5 := by rw [hW5]; exact (by (repeat (first | exact Below.refl _ _ | (refine Below.alloc ?_ (by first | omega | (simp; done) | (simp; omega)) _))))
  have bx_62p : C.Box3 W5 (W4.heap.size) 27 (.int .i64 (M.laidV m0 a1 l2).size) (.slice r_45 (M.laidV m0 a1 l2).doors.length r_46) (.slice r_47 (M.laidV m0 a1 l2).keys.length r_48) := by rw [hW5]; exact C.Box3.new _ _ _ _ (by simp)
  have bx_62q := bx_62p.lt
  have bx_62 := Lib.hid bx_62p
  clear bx_62p
  clear hW5
  clear cl_58 cl_59 cl_60 cq_61
  have tt_63 := Lib.hid (C.Turned.of_below kW5 0 0)
  have zz_64 := tt_63.out.size
  have ff_65 := Lib.hid (ff_51.out.turned tt_63.out (by omega) (by omega))
  clear ff_51
  have ff_66 := Lib.hid (ff_52.out.turned tt_63.out (by omega) (by omega))
  clear ff_52
  have ff_67 := Lib.hid (fo_57.out.turned tt_63.out (by omega) (by omega))
  clear fo_57
  have ff_68 := Lib.hid (ff_55.out.turned tt_63.out (by omega))
  clear ff_55
  have bb_69 := Lib.hid (C.Below.far bb_56.out tt_63.out)
  clear tt_63 bb_56
  clear kW5
  refine (C.toMaze_any W5 0 w.heap.size m0 a0 b0 c0 d0 ff_65.out (by omega) (by omega) (by omega)).mono ?_
  rintro e W6 ⟨t_70, t_71, t_72, t_73, rfl, ho, hb⟩
  have tt_74 := Lib.hid (C.Turned.of_below hb 0 0)
  have zz_75 := tt_74.out.size
  have ff_76 := Lib.hid (ff_65.out.turned tt_74.out (by omega) (by omega))
  clear ff_65
  have ff_77 := Lib.hid (ff_66.out.turned tt_74.out (by omega) (by omega))
  clear ff_66
  have ff_78 := Lib.hid (ff_67.out.turned tt_74.out (by omega) (by omega))
  clear ff_67
  have ff_79 := Lib.hid (ff_68.out.turned tt_74.out (by omega))
  clear ff_68
  have ff_80 := Lib.hid (bx_62.out.turned tt_74.out (by omega))
  clear bx_62
  have bb_81 := Lib.hid (C.Below.far bb_69.out tt_74.out)
  clear tt_74 bb_69
  clear hb
  have fo_82 := Lib.hid ho
  clear ho
  obtain ⟨cl_83, cl_84, cl_85⟩ := ff_79.out.cells
  have cq_86 := ff_79.out.lt
  obtain ⟨cl_87, cl_88, cl_89⟩ := ff_80.out.cells
  have cq_90 := ff_80.out.lt
  go_wp2_with fail
  refine C.named ?_
  intro W7 hW7
  have kW7 : Below W6.heap.size W6 W7 := by rw [hW7]; exact (by (repeat (first | exact Below.refl _ _ | (refine Below.alloc ?_ (by first | omega | (simp; done) | (simp; omega)) _))))
  have bx_91p : C.Box3 W7 (W6.heap.size) 27 (.int .i64 m0.size) (.slice t_70 m0.doors.length t_71) (.slice t_72 m0.keys.length t_73) := by rw [hW7]; exact C.Box3.new _ _ _ _ (by simp)
  have bx_91q := bx_91p.lt
  have bx_91 := Lib.hid bx_91p
  clear bx_91p
  clear hW7
  clear cl_83 cl_84 cl_85 cq_86 cl_87 cl_88 cl_89 cq_90
  have tt_92 := Lib.hid (C.Turned.of_below kW7 0 0)
  have zz_93 := tt_92.out.size
  have ff_94 := Lib.hid (ff_76.out.turned tt_92.out (by omega) (by omega))
  clear ff_76
  have ff_95 := Lib.hid (ff_77.out.turned tt_92.out (by omega) (by omega))
  clear ff_77
  have ff_96 := Lib.hid (ff_78.out.turned tt_92.out (by omega) (by omega))
  clear ff_78
  have ff_97 := Lib.hid (fo_82.out.turned tt_92.out (by omega) (by omega))
  clear fo_82
  have ff_98 := Lib.hid (ff_79.out.turned tt_92.out (by omega))
  clear ff_79
  have ff_99 := Lib.hid (ff_80.out.turned tt_92.out (by omega))
  clear ff_80
  have bb_100 := Lib.hid (C.Below.far bb_81.out tt_92.out)
  clear tt_92 bb_81
  clear kW7
  refine (C.toInts_any W7 0 w.heap.size a2 cap2 l2 ff_95.out (by omega) (by omega)).mono ?_
  rintro e W8 ⟨rfl, ho, hb⟩
  have tt_101 := Lib.hid (C.Turned.of_below hb 0 0)
  have zz_102 := tt_101.out.size
  have ff_103 := Lib.hid (ff_94.out.turned tt_101.out (by omega) (by omega))
  clear ff_94
  have ff_104 := Lib.hid (ff_95.out.turned tt_101.out (by omega) (by omega))
  clear ff_95
  have ff_105 := Lib.hid (ff_96.out.turned tt_101.out (by omega) (by omega))
  clear ff_96
  have ff_106 := Lib.hid (ff_97.out.turned tt_101.out (by omega) (by omega))
  clear ff_97
  have ff_107 := Lib.hid (ff_98.out.turned tt_101.out (by omega))
  clear ff_98
  have ff_108 := Lib.hid (ff_99.out.turned tt_101.out (by omega))
  clear ff_99
  have ff_109 := Lib.hid (bx_91.out.turned tt_101.out (by omega))
  clear bx_91
  have bb_110 := Lib.hid (C.Below.far bb_100.out tt_101.out)
  clear tt_101 bb_100
  clear hb
  have fo_111 := Lib.hid ho
  clear ho
  obtain ⟨cl_112, cl_113, cl_114⟩ := ff_107.out.cells
  have cq_115 := ff_107.out.lt
  obtain ⟨cl_116, cl_117, cl_118⟩ := ff_108.out.cells
  have cq_119 := ff_108.out.lt
  obtain ⟨cl_120, cl_121, cl_122⟩ := ff_109.out.cells
  have cq_123 := ff_109.out.lt
  go_wp2_with fail
  refine (C.implLay_lw W8 (W5.heap.size) (W6.heap.size) m0 t_70 t_72 t_71 t_73 ff_106.out.mz (by omega) (by omega) (by omega) a1 (by omega) (by omega) (W7.heap.size) (W8.heap.size) (some ⟨W7.heap.size, 0, none⟩) l2.length l2 fo_111.out.row (by omega) (by omega) (by omega) (by omega) B2.out).mono ?_
  rintro e W9 ⟨r_124, r_125, r_126, r_127, rfl, ho, hb⟩
  clear cl_112 cl_113 cl_114 cq_115 cl_116 cl_117 cl_118 cq_119 cl_120 cl_121 cl_122 cq_123
  have tt_128 := Lib.hid (C.Turned.of_below hb 0 0)
  have zz_129 := tt_128.out.size
  have ff_130 := Lib.hid (ff_103.out.turned tt_128.out (by omega) (by omega))
  clear ff_103
  have ff_131 := Lib.hid (ff_104.out.turned tt_128.out (by omega) (by omega))
  clear ff_104
  have ff_132 := Lib.hid (ff_105.out.turned tt_128.out (by omega) (by omega))
  clear ff_105
  have ff_133 := Lib.hid (ff_106.out.turned tt_128.out (by omega) (by omega))
  clear ff_106
  have ff_134 := Lib.hid (fo_111.out.turned tt_128.out (by omega) (by omega))
  clear fo_111
  have ff_135 := Lib.hid (ff_107.out.turned tt_128.out (by omega))
  clear ff_107
  have ff_136 := Lib.hid (ff_108.out.turned tt_128.out (by omega))
  clear ff_108
  have ff_137 := Lib.hid (ff_109.out.turned tt_128.out (by omega))
  clear ff_109
  have bb_138 := Lib.hid (C.Below.far bb_110.out tt_128.out)
  clear tt_128 bb_110
  clear hb
  have fo_139 := Lib.hid ho
  clear ho
  obtain ⟨cl_140, cl_141, cl_142⟩ := ff_135.out.cells
  have cq_143 := ff_135.out.lt
  obtain ⟨cl_144, cl_145, cl_146⟩ := ff_136.out.cells
  have cq_147 := ff_136.out.lt
  obtain ⟨cl_148, cl_149, cl_150⟩ := ff_137.out.cells
  have cq_151 := ff_137.out.lt
  go_wp2_with fail
  refine C.named ?_
  intro W10 hW10
  have kW10 : Below W9.heap.size W9 W10 := by rw [hW10]; exact (by (repeat (first | exact Below.refl _ _ | (refine Below.alloc ?_ (by first | omega | (simp; done) | (simp; omega)) _))))
  have bx_152p : C.Box3 W10 (W9.heap.size) 27 (.int .i64 (M.laidV m0 a1 l2).size) (.slice r_124 (M.laidV m0 a1 l2).doors.length r_125) (.slice r_126 (M.laidV m0 a1 l2).keys.length r_127) := by rw [hW10]; exact C.Box3.new _ _ _ _ (by simp)
  have bx_152q := bx_152p.lt
  have bx_152 := Lib.hid bx_152p
  clear bx_152p
  clear hW10
  clear cl_140 cl_141 cl_142 cq_143 cl_144 cl_145 cl_146 cq_147 cl_148 cl_149 cl_150 cq_151
  have tt_153 := Lib.hid (C.Turned.of_below kW10 0 0)
  have zz_154 := tt_153.out.size
  have ff_155 := Lib.hid (ff_130.out.turned tt_153.out (by omega) (by omega))
  clear ff_130
  have ff_156 := Lib.hid (ff_131.out.turned tt_153.out (by omega) (by omega))
  clear ff_131
  have ff_157 := Lib.hid (ff_132.out.turned tt_153.out (by omega) (by omega))
  clear ff_132
  have ff_158 := Lib.hid (ff_133.out.turned tt_153.out (by omega) (by omega))
  clear ff_133
  have ff_159 := Lib.hid (ff_134.out.turned tt_153.out (by omega) (by omega))
  clear ff_134
  have ff_160 := Lib.hid (fo_139.out.turned tt_153.out (by omega) (by omega))
  clear fo_139
  have ff_161 := Lib.hid (ff_135.out.turned tt_153.out (by omega))
  clear ff_135
  have ff_162 := Lib.hid (ff_136.out.turned tt_153.out (by omega))
  clear ff_136
  have ff_163 := Lib.hid (ff_137.out.turned tt_153.out (by omega))
  clear ff_137
  have bb_164 := Lib.hid (C.Below.far bb_138.out tt_153.out)
  clear tt_153 bb_138
  clear kW10
  refine (C.eqMaze_any W10 (W8.heap.size) (W9.heap.size) (W3.heap.size) (W4.heap.size) (M.laidV m0 a1 l2) r_124 r_126 r_45 r_47 r_125 r_127 r_46 r_48 ff_160.out.mz ff_157.out.mz (by omega) (by omega) (by omega) (by omega)).mono ?_
  rintro e W11 ⟨rfl, hb⟩
  have tt_165 := Lib.hid (C.Turned.of_below hb 0 0)
  have zz_166 := tt_165.out.size
  have ff_167 := Lib.hid (ff_155.out.turned tt_165.out (by omega) (by omega))
  clear ff_155
  have ff_168 := Lib.hid (ff_156.out.turned tt_165.out (by omega) (by omega))
  clear ff_156
  have ff_169 := Lib.hid (ff_157.out.turned tt_165.out (by omega) (by omega))
  clear ff_157
  have ff_170 := Lib.hid (ff_158.out.turned tt_165.out (by omega) (by omega))
  clear ff_158
  have ff_171 := Lib.hid (ff_159.out.turned tt_165.out (by omega) (by omega))
  clear ff_159
  have ff_172 := Lib.hid (ff_160.out.turned tt_165.out (by omega) (by omega))
  clear ff_160
  have ff_173 := Lib.hid (ff_161.out.turned tt_165.out (by omega))
  clear ff_161
  have ff_174 := Lib.hid (ff_162.out.turned tt_165.out (by omega))
  clear ff_162
  have ff_175 := Lib.hid (ff_163.out.turned tt_165.out (by omega))
  clear ff_163
  have ff_176 := Lib.hid (bx_152.out.turned tt_165.out (by omega))
  clear bx_152
  have bb_177 := Lib.hid (C.Below.far bb_164.out tt_165.out)
  clear tt_165 bb_164
  clear hb
  obtain ⟨cl_178, cl_179, cl_180⟩ := ff_173.out.cells
  have cq_181 := ff_173.out.lt
  obtain ⟨cl_182, cl_183, cl_184⟩ := ff_174.out.cells
  have cq_185 := ff_174.out.lt
  obtain ⟨cl_186, cl_187, cl_188⟩ := ff_175.out.cells
  have cq_189 := ff_175.out.lt
  obtain ⟨cl_190, cl_191, cl_192⟩ := ff_176.out.cells
  have cq_193 := ff_176.out.lt
  go_upto_region 13 with fail
  go_cut [60] (fun sl wx => sl = .bool false ∧ Below W11.heap.size W11 wx)
  case first =>
    go_region_with (first | (go_at_call 17; refine (C.toMaze_any W11.drew 0 w.heap.size m0 a0 b0 c0 d0 (ff_167.out.turned (C.Turned.of_below (Below.refl W11.heap.size W11).drew 0 0) (by omega) (by omega)) (show w.heap.size ≤ W11.heap.size by omega) (by omega) (by omega)).mono ?_; rintro e w2 ⟨t_194, t_195, t_196, t_197, rfl, ho, hb⟩; have hbq : Below W11.heap.size W11 w2 := (Below.refl W11.heap.size W11).drew.trans hb; have hzq := hbq.size; obtain ⟨cm_198, cm_199, cm_200⟩ := (ff_173.out.turned (C.Turned.of_below hbq 0 0) (by omega)).cells; obtain ⟨cm_201, cm_202, cm_203⟩ := (ff_174.out.turned (C.Turned.of_below hbq 0 0) (by omega)).cells; obtain ⟨cm_204, cm_205, cm_206⟩ := (ff_175.out.turned (C.Turned.of_below hbq 0 0) (by omega)).cells; obtain ⟨cm_207, cm_208, cm_209⟩ := (ff_176.out.turned (C.Turned.of_below hbq 0 0) (by omega)).cells) | (go_at_call 20; refine (C.eqMaze_any w2 (W5.heap.size) (W6.heap.size) _ _ m0 _ _ _ _ _ _ _ _ (C.MzOwn.mz (C.MzOwn.turned ff_170.out (C.Turned.of_below hbq 0 0) (by omega) (by omega))) ho.mz (by omega) (Nat.le_refl _) (by omega) (by omega)).mono ?_; rintro e w3 ⟨rfl, hb3⟩))
    all_goals (go_wp2_with fail; go_meet; exact ⟨rfl, C.Below.more hbq hb3⟩)
  case rest =>
    obtain ⟨rfl, hb⟩ := hcut
    obtain ⟨W12, rfl⟩ : ∃ W, W = wc := ⟨_, rfl⟩
    clear cl_178 cl_179 cl_180 cq_181 cl_182 cl_183 cl_184 cq_185 cl_186 cl_187 cl_188 cq_189 cl_190 cl_191 cl_192 cq_193
    have tt_210 := Lib.hid (C.Turned.of_below hb 0 0)
    have zz_211 := tt_210.out.size
    have ff_212 := Lib.hid (ff_167.out.turned tt_210.out (by omega) (by omega))
    clear ff_167
    have ff_213 := Lib.hid (ff_168.out.turned tt_210.out (by omega) (by omega))
    clear ff_168
    have ff_214 := Lib.hid (ff_169.out.turned tt_210.out (by omega) (by omega))
    clear ff_169
    have ff_215 := Lib.hid (ff_170.out.turned tt_210.out (by omega) (by omega))
    clear ff_170
    have ff_216 := Lib.hid (ff_171.out.turned tt_210.out (by omega) (by omega))
    clear ff_171
    have ff_217 := Lib.hid (ff_172.out.turned tt_210.out (by omega) (by omega))
    clear ff_172
    have ff_218 := Lib.hid (ff_173.out.turned tt_210.out (by omega))
    clear ff_173
    have ff_219 := Lib.hid (ff_174.out.turned tt_210.out (by omega))
    clear ff_174
    have ff_220 := Lib.hid (ff_175.out.turned tt_210.out (by omega))
    clear ff_175
    have ff_221 := Lib.hid (ff_176.out.turned tt_210.out (by omega))
    clear ff_176
    have bb_222 := Lib.hid (C.Below.far bb_177.out tt_210.out)
    clear tt_210 bb_177
    clear hb
    obtain ⟨cl_223, cl_224, cl_225⟩ := ff_218.out.cells
    have cq_226 := ff_218.out.lt
    obtain ⟨cl_227, cl_228, cl_229⟩ := ff_219.out.cells
    have cq_230 := ff_219.out.lt
    obtain ⟨cl_231, cl_232, cl_233⟩ := ff_220.out.cells
    have cq_234 := ff_220.out.lt
    obtain ⟨cl_235, cl_236, cl_237⟩ := ff_221.out.cells
    have cq_238 := ff_221.out.lt
    go_wp2_with fail
    refine (C.toInts_any W12 0 w.heap.size a2 cap2 l2 ff_213.out (by omega) (by omega)).mono ?_
    rintro e W13 ⟨rfl, ho, hb⟩
    clear cl_223 cl_224 cl_225 cq_226 cl_227 cl_228 cl_229 cq_230 cl_231 cl_232 cl_233 cq_234 cl_235 cl_236 cl_237 cq_238
    have tt_239 := Lib.hid (C.Turned.of_below hb 0 0)
    have zz_240 := tt_239.out.size
    have ff_241 := Lib.hid (ff_212.out.turned tt_239.out (by omega) (by omega))
    clear ff_212
    have ff_242 := Lib.hid (ff_213.out.turned tt_239.out (by omega) (by omega))
    clear ff_213
    have ff_243 := Lib.hid (ff_214.out.turned tt_239.out (by omega) (by omega))
    clear ff_214
    have ff_244 := Lib.hid (ff_215.out.turned tt_239.out (by omega) (by omega))
    clear ff_215
    have ff_245 := Lib.hid (ff_216.out.turned tt_239.out (by omega) (by omega))
    clear ff_216
    have ff_246 := Lib.hid (ff_217.out.turned tt_239.out (by omega) (by omega))
    clear ff_217
    have ff_247 := Lib.hid (ff_218.out.turned tt_239.out (by omega))
    clear ff_218
    have ff_248 := Lib.hid (ff_219.out.turned tt_239.out (by omega))
    clear ff_219
    have ff_249 := Lib.hid (ff_220.out.turned tt_239.out (by omega))
    clear ff_220
    have ff_250 := Lib.hid (ff_221.out.turned tt_239.out (by omega))
    clear ff_221
    have bb_251 := Lib.hid (C.Below.far bb_222.out tt_239.out)
    clear tt_239 bb_222
    clear hb
    have fo_252 := Lib.hid ho
    clear ho
    obtain ⟨cl_253, cl_254, cl_255⟩ := ff_247.out.cells
    have cq_256 := ff_247.out.lt
    obtain ⟨cl_257, cl_258, cl_259⟩ := ff_248.out.cells
    have cq_260 := ff_248.out.lt
    obtain ⟨cl_261, cl_262, cl_263⟩ := ff_249.out.cells
    have cq_264 := ff_249.out.lt
    obtain ⟨cl_265, cl_266, cl_267⟩ := ff_250.out.cells
    have cq_268 := ff_250.out.lt
    go_wp2_with fail
    refine (C.eqInts_any W13 (W7.heap.size) (W8.heap.size) (W12.heap.size) (W13.heap.size) (some ⟨W7.heap.size, 0, none⟩) (some ⟨W12.heap.size, 0, none⟩) l2.length l2.length l2 (by omega) ff_245.out.row fo_252.out.row).mono ?_
    rintro e W14 ⟨rfl, nd_269, hW14⟩
    have hb : Below W13.heap.size W13 W14 := by rw [hW14]; exact C.below_drawn _ _
    clear hW14
    clear cl_253 cl_254 cl_255 cq_256 cl_257 cl_258 cl_259 cq_260 cl_261 cl_262 cl_263 cq_264 cl_265 cl_266 cl_267 cq_268
    have tt_270 := Lib.hid (C.Turned.of_below hb 0 0)
    have zz_271 := tt_270.out.size
    have ff_272 := Lib.hid (ff_241.out.turned tt_270.out (by omega) (by omega))
    clear ff_241
    have ff_273 := Lib.hid (ff_242.out.turned tt_270.out (by omega) (by omega))
    clear ff_242
    have ff_274 := Lib.hid (ff_243.out.turned tt_270.out (by omega) (by omega))
    clear ff_243
    have ff_275 := Lib.hid (ff_244.out.turned tt_270.out (by omega) (by omega))
    clear ff_244
    have ff_276 := Lib.hid (ff_245.out.turned tt_270.out (by omega) (by omega))
    clear ff_245
    have ff_277 := Lib.hid (ff_246.out.turned tt_270.out (by omega) (by omega))
    clear ff_246
    have ff_278 := Lib.hid (fo_252.out.turned tt_270.out (by omega) (by omega))
    clear fo_252
    have ff_279 := Lib.hid (ff_247.out.turned tt_270.out (by omega))
    clear ff_247
    have ff_280 := Lib.hid (ff_248.out.turned tt_270.out (by omega))
    clear ff_248
    have ff_281 := Lib.hid (ff_249.out.turned tt_270.out (by omega))
    clear ff_249
    have ff_282 := Lib.hid (ff_250.out.turned tt_270.out (by omega))
    clear ff_250
    have bb_283 := Lib.hid (C.Below.far bb_251.out tt_270.out)
    clear tt_270 bb_251
    clear hb
    clear ff_278
    obtain ⟨cl_284, cl_285, cl_286⟩ := ff_279.out.cells
    have cq_287 := ff_279.out.lt
    obtain ⟨cl_288, cl_289, cl_290⟩ := ff_280.out.cells
    have cq_291 := ff_280.out.lt
    obtain ⟨cl_292, cl_293, cl_294⟩ := ff_281.out.cells
    have cq_295 := ff_281.out.lt
    obtain ⟨cl_296, cl_297, cl_298⟩ := ff_282.out.cells
    have cq_299 := ff_282.out.lt
    go_wp2_with fail
    refine (C.markMaze_any W14 (W5.heap.size) (W6.heap.size) m0 t_70 t_72 t_71 t_73 (1) ff_275.out (by omega) (by omega) (by omega) (by omega)).mono ?_
    rintro e W15 ⟨rfl, hm, ht⟩
    have fm_300 := Lib.hid hm
    clear hm
    clear ff_275
    clear cl_284 cl_285 cl_286 cq_287 cl_288 cl_289 cl_290 cq_291 cl_292 cl_293 cl_294 cq_295 cl_296 cl_297 cl_298 cq_299
    have tt_301 := Lib.hid (ht)
    have zz_302 := tt_301.out.size
    have ff_303 := Lib.hid (ff_272.out.turned tt_301.out (by omega) (by omega))
    clear ff_272
    have ff_304 := Lib.hid (ff_273.out.turned tt_301.out (by omega) (by omega))
    clear ff_273
    have ff_305 := Lib.hid (ff_274.out.turned tt_301.out (by omega) (by omega))
    clear ff_274
    have ff_306 := Lib.hid (ff_276.out.turned tt_301.out (by omega) (by omega))
    clear ff_276
    have ff_307 := Lib.hid (ff_277.out.turned tt_301.out (by omega) (by omega))
    clear ff_277
    have ff_308 := Lib.hid (ff_279.out.turned tt_301.out (by omega))
    clear ff_279
    have ff_309 := Lib.hid (ff_280.out.turned tt_301.out (by omega))
    clear ff_280
    have ff_310 := Lib.hid (ff_281.out.turned tt_301.out (by omega))
    clear ff_281
    have ff_311 := Lib.hid (ff_282.out.turned tt_301.out (by omega))
    clear ff_282
    have bb_312 := Lib.hid (C.Below.thenTurned bb_283.out tt_301.out (by omega) (by omega))
    clear tt_301 bb_283
    clear ht
    obtain ⟨cl_313, cl_314, cl_315⟩ := ff_308.out.cells
    have cq_316 := ff_308.out.lt
    obtain ⟨cl_317, cl_318, cl_319⟩ := ff_309.out.cells
    have cq_320 := ff_309.out.lt
    obtain ⟨cl_321, cl_322, cl_323⟩ := ff_310.out.cells
    have cq_324 := ff_310.out.lt
    obtain ⟨cl_325, cl_326, cl_327⟩ := ff_311.out.cells
    have cq_328 := ff_311.out.lt
    clear fm_300
    go_wp2_with fail
    refine (C.markInts_any W15 (W7.heap.size) (W8.heap.size) (some ⟨W7.heap.size, 0, none⟩) l2.length l2.length (1 + m0.doors.length * 3 + m0.keys.length) _ (M.encIs_len _) (by omega) (by omega) ff_306.out).mono ?_
    rintro e W16 ⟨rfl, hm, ht⟩
    have fm_329 := Lib.hid hm
    clear hm
    clear ff_306
    clear cl_313 cl_314 cl_315 cq_316 cl_317 cl_318 cl_319 cq_320 cl_321 cl_322 cl_323 cq_324 cl_325 cl_326 cl_327 cq_328
    have tt_330 := Lib.hid (ht)
    have zz_331 := tt_330.out.size
    have ff_332 := Lib.hid (ff_303.out.turned tt_330.out (by omega) (by omega))
    clear ff_303
    have ff_333 := Lib.hid (ff_304.out.turned tt_330.out (by omega) (by omega))
    clear ff_304
    have ff_334 := Lib.hid (ff_305.out.turned tt_330.out (by omega) (by omega))
    clear ff_305
    have ff_335 := Lib.hid (ff_307.out.turned tt_330.out (by omega) (by omega))
    clear ff_307
    have ff_336 := Lib.hid (ff_308.out.turned tt_330.out (by omega))
    clear ff_308
    have ff_337 := Lib.hid (ff_309.out.turned tt_330.out (by omega))
    clear ff_309
    have ff_338 := Lib.hid (ff_310.out.turned tt_330.out (by omega))
    clear ff_310
    have ff_339 := Lib.hid (ff_311.out.turned tt_330.out (by omega))
    clear ff_311
    have bb_340 := Lib.hid (C.Below.thenTurned bb_312.out tt_330.out (by omega) (by omega))
    clear tt_330 bb_312
    clear ht
    obtain ⟨cl_341, cl_342, cl_343⟩ := ff_336.out.cells
    have cq_344 := ff_336.out.lt
    obtain ⟨cl_345, cl_346, cl_347⟩ := ff_337.out.cells
    have cq_348 := ff_337.out.lt
    obtain ⟨cl_349, cl_350, cl_351⟩ := ff_338.out.cells
    have cq_352 := ff_338.out.lt
    obtain ⟨cl_353, cl_354, cl_355⟩ := ff_339.out.cells
    have cq_356 := ff_339.out.lt
    clear fm_329
    go_wp2_with fail
    refine (C.eqMaze_any W16 (W8.heap.size) (W9.heap.size) (W3.heap.size) (W4.heap.size) (M.laidV m0 a1 l2) r_124 r_126 r_45 r_47 r_125 r_127 r_46 r_48 ff_335.out.mz ff_334.out.mz (by omega) (by omega) (by omega) (by omega)).mono ?_
    rintro e W17 ⟨rfl, hb⟩
    clear cl_341 cl_342 cl_343 cq_344 cl_345 cl_346 cl_347 cq_348 cl_349 cl_350 cl_351 cq_352 cl_353 cl_354 cl_355 cq_356
    have tt_357 := Lib.hid (C.Turned.of_below hb 0 0)
    have zz_358 := tt_357.out.size
    have ff_359 := Lib.hid (ff_332.out.turned tt_357.out (by omega) (by omega))
    clear ff_332
    have ff_360 := Lib.hid (ff_333.out.turned tt_357.out (by omega) (by omega))
    clear ff_333
    have ff_361 := Lib.hid (ff_334.out.turned tt_357.out (by omega) (by omega))
    clear ff_334
    have ff_362 := Lib.hid (ff_335.out.turned tt_357.out (by omega) (by omega))
    clear ff_335
    have ff_363 := Lib.hid (ff_336.out.turned tt_357.out (by omega))
    clear ff_336
    have ff_364 := Lib.hid (ff_337.out.turned tt_357.out (by omega))
    clear ff_337
    have ff_365 := Lib.hid (ff_338.out.turned tt_357.out (by omega))
    clear ff_338
    have ff_366 := Lib.hid (ff_339.out.turned tt_357.out (by omega))
    clear ff_339
    have bb_367 := Lib.hid (C.Below.far bb_340.out tt_357.out)
    clear tt_357 bb_340
    clear hb
    obtain ⟨cl_368, cl_369, cl_370⟩ := ff_363.out.cells
    have cq_371 := ff_363.out.lt
    obtain ⟨cl_372, cl_373, cl_374⟩ := ff_364.out.cells
    have cq_375 := ff_364.out.lt
    obtain ⟨cl_376, cl_377, cl_378⟩ := ff_365.out.cells
    have cq_379 := ff_365.out.lt
    obtain ⟨cl_380, cl_381, cl_382⟩ := ff_366.out.cells
    have cq_383 := ff_366.out.lt
    go_wp2_with fail
    refine (C.markMaze_any W17 (W8.heap.size) (W9.heap.size) (M.laidV m0 a1 l2) r_124 r_126 r_125 r_127 (1) ff_362.out (by omega) (by omega) (by omega) (by omega)).mono ?_
    rintro e W18 ⟨rfl, hm, ht⟩
    have fm_384 := Lib.hid hm
    clear hm
    clear ff_362
    clear cl_368 cl_369 cl_370 cq_371 cl_372 cl_373 cl_374 cq_375 cl_376 cl_377 cl_378 cq_379 cl_380 cl_381 cl_382 cq_383
    have tt_385 := Lib.hid (ht)
    have zz_386 := tt_385.out.size
    have ff_387 := Lib.hid (ff_359.out.turned tt_385.out (by omega) (by omega))
    clear ff_359
    have ff_388 := Lib.hid (ff_360.out.turned tt_385.out (by omega) (by omega))
    clear ff_360
    have ff_389 := Lib.hid (ff_361.out.turned tt_385.out (by omega) (by omega))
    clear ff_361
    have ff_390 := Lib.hid (ff_363.out.turned tt_385.out (by omega))
    clear ff_363
    have ff_391 := Lib.hid (ff_364.out.turned tt_385.out (by omega))
    clear ff_364
    have ff_392 := Lib.hid (ff_365.out.turned tt_385.out (by omega))
    clear ff_365
    have ff_393 := Lib.hid (ff_366.out.turned tt_385.out (by omega))
    clear ff_366
    have bb_394 := Lib.hid (C.Below.thenTurned bb_367.out tt_385.out (by omega) (by omega))
    clear tt_385 bb_367
    clear ht
    obtain ⟨cl_395, cl_396, cl_397⟩ := ff_390.out.cells
    have cq_398 := ff_390.out.lt
    obtain ⟨cl_399, cl_400, cl_401⟩ := ff_391.out.cells
    have cq_402 := ff_391.out.lt
    obtain ⟨cl_403, cl_404, cl_405⟩ := ff_392.out.cells
    have cq_406 := ff_392.out.lt
    obtain ⟨cl_407, cl_408, cl_409⟩ := ff_393.out.cells
    have cq_410 := ff_393.out.lt
    go_wp2_with fail
    refine (C.heldMaze_any W18 (W8.heap.size) (W9.heap.size) (M.laidV m0 a1 l2).size (M.laidV m0 a1 l2).doors.length (M.laidV m0 a1 l2).keys.length r_124 r_126 r_125 r_127 1 fm_384.out (by omega) (by omega) (by omega) (by omega)).mono ?_
    rintro e W19 ⟨rfl, hb⟩
    clear cl_395 cl_396 cl_397 cq_398 cl_399 cl_400 cl_401 cq_402 cl_403 cl_404 cl_405 cq_406 cl_407 cl_408 cl_409 cq_410
    have tt_411 := Lib.hid (C.Turned.of_below hb 0 0)
    have zz_412 := tt_411.out.size
    have ff_413 := Lib.hid (ff_387.out.turned tt_411.out (by omega) (by omega))
    clear ff_387
    have ff_414 := Lib.hid (ff_388.out.turned tt_411.out (by omega) (by omega))
    clear ff_388
    have ff_415 := Lib.hid (ff_389.out.turned tt_411.out (by omega) (by omega))
    clear ff_389
    have ff_416 := Lib.hid (fm_384.out.turned tt_411.out (by omega) (by omega))
    clear fm_384
    have ff_417 := Lib.hid (ff_390.out.turned tt_411.out (by omega))
    clear ff_390
    have ff_418 := Lib.hid (ff_391.out.turned tt_411.out (by omega))
    clear ff_391
    have ff_419 := Lib.hid (ff_392.out.turned tt_411.out (by omega))
    clear ff_392
    have ff_420 := Lib.hid (ff_393.out.turned tt_411.out (by omega))
    clear ff_393
    have bb_421 := Lib.hid (C.Below.far bb_394.out tt_411.out)
    clear tt_411 bb_394
    clear hb
    obtain ⟨cl_422, cl_423, cl_424⟩ := ff_417.out.cells
    have cq_425 := ff_417.out.lt
    obtain ⟨cl_426, cl_427, cl_428⟩ := ff_418.out.cells
    have cq_429 := ff_418.out.lt
    obtain ⟨cl_430, cl_431, cl_432⟩ := ff_419.out.cells
    have cq_433 := ff_419.out.lt
    obtain ⟨cl_434, cl_435, cl_436⟩ := ff_420.out.cells
    have cq_437 := ff_420.out.lt
    go_wp2_with fail
    refine (C.toMaze_any W19 0 w.heap.size m0 a0 b0 c0 d0 ff_413.out (by omega) (by omega) (by omega)).mono ?_
    rintro e W20 ⟨t_438, t_439, t_440, t_441, rfl, ho, hb⟩
    clear cl_422 cl_423 cl_424 cq_425 cl_426 cl_427 cl_428 cq_429 cl_430 cl_431 cl_432 cq_433 cl_434 cl_435 cl_436 cq_437
    have tt_442 := Lib.hid (C.Turned.of_below hb 0 0)
    have zz_443 := tt_442.out.size
    have ff_444 := Lib.hid (ff_413.out.turned tt_442.out (by omega) (by omega))
    clear ff_413
    have ff_445 := Lib.hid (ff_414.out.turned tt_442.out (by omega) (by omega))
    clear ff_414
    have ff_446 := Lib.hid (ff_415.out.turned tt_442.out (by omega) (by omega))
    clear ff_415
    have ff_447 := Lib.hid (ff_416.out.turned tt_442.out (by omega) (by omega))
    clear ff_416
    have ff_448 := Lib.hid (ff_417.out.turned tt_442.out (by omega))
    clear ff_417
    have ff_449 := Lib.hid (ff_418.out.turned tt_442.out (by omega))
    clear ff_418
    have ff_450 := Lib.hid (ff_419.out.turned tt_442.out (by omega))
    clear ff_419
    have ff_451 := Lib.hid (ff_420.out.turned tt_442.out (by omega))
    clear ff_420
    have bb_452 := Lib.hid (C.Below.far bb_421.out tt_442.out)
    clear tt_442 bb_421
    clear hb
    have fo_453 := Lib.hid ho
    clear ho
    obtain ⟨cl_454, cl_455, cl_456⟩ := ff_448.out.cells
    have cq_457 := ff_448.out.lt
    obtain ⟨cl_458, cl_459, cl_460⟩ := ff_449.out.cells
    have cq_461 := ff_449.out.lt
    obtain ⟨cl_462, cl_463, cl_464⟩ := ff_450.out.cells
    have cq_465 := ff_450.out.lt
    obtain ⟨cl_466, cl_467, cl_468⟩ := ff_451.out.cells
    have cq_469 := ff_451.out.lt
    go_wp2_with fail
    refine (C.toInts_any W20 0 w.heap.size a2 cap2 l2 ff_445.out (by omega) (by omega)).mono ?_
    rintro e W21 ⟨rfl, ho, hb⟩
    clear cl_454 cl_455 cl_456 cq_457 cl_458 cl_459 cl_460 cq_461 cl_462 cl_463 cl_464 cq_465 cl_466 cl_467 cl_468 cq_469
    have tt_470 := Lib.hid (C.Turned.of_below hb 0 0)
    have zz_471 := tt_470.out.size
    have ff_472 := Lib.hid (ff_444.out.turned tt_470.out (by omega) (by omega))
    clear ff_444
    have ff_473 := Lib.hid (ff_445.out.turned tt_470.out (by omega) (by omega))
    clear ff_445
    have ff_474 := Lib.hid (ff_446.out.turned tt_470.out (by omega) (by omega))
    clear ff_446
    have ff_475 := Lib.hid (ff_447.out.turned tt_470.out (by omega) (by omega))
    clear ff_447
    have ff_476 := Lib.hid (fo_453.out.turned tt_470.out (by omega) (by omega))
    clear fo_453
    have ff_477 := Lib.hid (ff_448.out.turned tt_470.out (by omega))
    clear ff_448
    have ff_478 := Lib.hid (ff_449.out.turned tt_470.out (by omega))
    clear ff_449
    have ff_479 := Lib.hid (ff_450.out.turned tt_470.out (by omega))
    clear ff_450
    have ff_480 := Lib.hid (ff_451.out.turned tt_470.out (by omega))
    clear ff_451
    have bb_481 := Lib.hid (C.Below.far bb_452.out tt_470.out)
    clear tt_470 bb_452
    clear hb
    have fo_482 := Lib.hid ho
    clear ho
    obtain ⟨cl_483, cl_484, cl_485⟩ := ff_477.out.cells
    have cq_486 := ff_477.out.lt
    obtain ⟨cl_487, cl_488, cl_489⟩ := ff_478.out.cells
    have cq_490 := ff_478.out.lt
    obtain ⟨cl_491, cl_492, cl_493⟩ := ff_479.out.cells
    have cq_494 := ff_479.out.lt
    obtain ⟨cl_495, cl_496, cl_497⟩ := ff_480.out.cells
    have cq_498 := ff_480.out.lt
    go_wp2_with fail
    refine (C.implLay_lw W21 (W19.heap.size) (W20.heap.size) m0 t_438 t_440 t_439 t_441 ff_476.out.mz (by omega) (by omega) (by omega) a1 (by omega) (by omega) (W20.heap.size) (W21.heap.size) (some ⟨W20.heap.size, 0, none⟩) l2.length l2 fo_482.out.row (by omega) (by omega) (by omega) (by omega) B2.out).mono ?_
    rintro e W22 ⟨r_499, r_500, r_501, r_502, rfl, ho, hb⟩
    clear cl_483 cl_484 cl_485 cq_486 cl_487 cl_488 cl_489 cq_490 cl_491 cl_492 cl_493 cq_494 cl_495 cl_496 cl_497 cq_498
    have tt_503 := Lib.hid (C.Turned.of_below hb 0 0)
    have zz_504 := tt_503.out.size
    have ff_505 := Lib.hid (ff_472.out.turned tt_503.out (by omega) (by omega))
    clear ff_472
    have ff_506 := Lib.hid (ff_473.out.turned tt_503.out (by omega) (by omega))
    clear ff_473
    have ff_507 := Lib.hid (ff_474.out.turned tt_503.out (by omega) (by omega))
    clear ff_474
    have ff_508 := Lib.hid (ff_475.out.turned tt_503.out (by omega) (by omega))
    clear ff_475
    have ff_509 := Lib.hid (ff_476.out.turned tt_503.out (by omega) (by omega))
    clear ff_476
    have ff_510 := Lib.hid (fo_482.out.turned tt_503.out (by omega) (by omega))
    clear fo_482
    have ff_511 := Lib.hid (ff_477.out.turned tt_503.out (by omega))
    clear ff_477
    have ff_512 := Lib.hid (ff_478.out.turned tt_503.out (by omega))
    clear ff_478
    have ff_513 := Lib.hid (ff_479.out.turned tt_503.out (by omega))
    clear ff_479
    have ff_514 := Lib.hid (ff_480.out.turned tt_503.out (by omega))
    clear ff_480
    have bb_515 := Lib.hid (C.Below.far bb_481.out tt_503.out)
    clear tt_503 bb_481
    clear hb
    have fo_516 := Lib.hid ho
    clear ho
    obtain ⟨cl_517, cl_518, cl_519⟩ := ff_511.out.cells
    have cq_520 := ff_511.out.lt
    obtain ⟨cl_521, cl_522, cl_523⟩ := ff_512.out.cells
    have cq_524 := ff_512.out.lt
    obtain ⟨cl_525, cl_526, cl_527⟩ := ff_513.out.cells
    have cq_528 := ff_513.out.lt
    obtain ⟨cl_529, cl_530, cl_531⟩ := ff_514.out.cells
    have cq_532 := ff_514.out.lt
    clear ff_509 ff_510
    go_wp2_with fail
    refine C.named ?_
    intro W23 hW23
    have kW23 : Below W22.heap.size W22 W23 := by rw [hW23]; exact (by (repeat (first | exact Below.refl _ _ | (refine Below.alloc ?_ (by first | omega | (simp; done) | (simp; omega)) _))))
    have bx_533p : C.Box3 W23 (W22.heap.size) 27 (.int .i64 (M.laidV m0 a1 l2).size) (.slice r_499 (M.laidV m0 a1 l2).doors.length r_500) (.slice r_501 (M.laidV m0 a1 l2).keys.length r_502) := by rw [hW23]; exact C.Box3.new _ _ _ _ (by simp)
    have bx_533q := bx_533p.lt
    have bx_533 := Lib.hid bx_533p
    clear bx_533p
    clear hW23
    clear cl_517 cl_518 cl_519 cq_520 cl_521 cl_522 cl_523 cq_524 cl_525 cl_526 cl_527 cq_528 cl_529 cl_530 cl_531 cq_532
    have tt_534 := Lib.hid (C.Turned.of_below kW23 0 0)
    have zz_535 := tt_534.out.size
    have ff_536 := Lib.hid (ff_505.out.turned tt_534.out (by omega) (by omega))
    clear ff_505
    have ff_537 := Lib.hid (ff_506.out.turned tt_534.out (by omega) (by omega))
    clear ff_506
    have ff_538 := Lib.hid (ff_507.out.turned tt_534.out (by omega) (by omega))
    clear ff_507
    have ff_539 := Lib.hid (ff_508.out.turned tt_534.out (by omega) (by omega))
    clear ff_508
    have ff_540 := Lib.hid (fo_516.out.turned tt_534.out (by omega) (by omega))
    clear fo_516
    have ff_541 := Lib.hid (ff_511.out.turned tt_534.out (by omega))
    clear ff_511
    have ff_542 := Lib.hid (ff_512.out.turned tt_534.out (by omega))
    clear ff_512
    have ff_543 := Lib.hid (ff_513.out.turned tt_534.out (by omega))
    clear ff_513
    have ff_544 := Lib.hid (ff_514.out.turned tt_534.out (by omega))
    clear ff_514
    have bb_545 := Lib.hid (C.Below.far bb_515.out tt_534.out)
    clear tt_534 bb_515
    clear kW23
    refine (C.eqMaze_any W23 (W21.heap.size) (W22.heap.size) (W3.heap.size) (W4.heap.size) (M.laidV m0 a1 l2) r_499 r_501 r_45 r_47 r_500 r_502 r_46 r_48 ff_540.out.mz ff_538.out.mz (by omega) (by omega) (by omega) (by omega)).mono ?_
    rintro e W24 ⟨rfl, hb⟩
    have tt_546 := Lib.hid (C.Turned.of_below hb 0 0)
    have zz_547 := tt_546.out.size
    have ff_548 := Lib.hid (ff_536.out.turned tt_546.out (by omega) (by omega))
    clear ff_536
    have ff_549 := Lib.hid (ff_537.out.turned tt_546.out (by omega) (by omega))
    clear ff_537
    have ff_550 := Lib.hid (ff_538.out.turned tt_546.out (by omega) (by omega))
    clear ff_538
    have ff_551 := Lib.hid (ff_539.out.turned tt_546.out (by omega) (by omega))
    clear ff_539
    have ff_552 := Lib.hid (ff_540.out.turned tt_546.out (by omega) (by omega))
    clear ff_540
    have ff_553 := Lib.hid (ff_541.out.turned tt_546.out (by omega))
    clear ff_541
    have ff_554 := Lib.hid (ff_542.out.turned tt_546.out (by omega))
    clear ff_542
    have ff_555 := Lib.hid (ff_543.out.turned tt_546.out (by omega))
    clear ff_543
    have ff_556 := Lib.hid (ff_544.out.turned tt_546.out (by omega))
    clear ff_544
    have ff_557 := Lib.hid (bx_533.out.turned tt_546.out (by omega))
    clear bx_533
    have bb_558 := Lib.hid (C.Below.far bb_545.out tt_546.out)
    clear tt_546 bb_545
    clear hb
    obtain ⟨cl_559, cl_560, cl_561⟩ := ff_553.out.cells
    have cq_562 := ff_553.out.lt
    obtain ⟨cl_563, cl_564, cl_565⟩ := ff_554.out.cells
    have cq_566 := ff_554.out.lt
    obtain ⟨cl_567, cl_568, cl_569⟩ := ff_555.out.cells
    have cq_570 := ff_555.out.lt
    obtain ⟨cl_571, cl_572, cl_573⟩ := ff_556.out.cells
    have cq_574 := ff_556.out.lt
    obtain ⟨cl_575, cl_576, cl_577⟩ := ff_557.out.cells
    have cq_578 := ff_557.out.lt
    go_wp2_with fail
    refine (C.heldMaze_any W24 (W8.heap.size) (W9.heap.size) (M.laidV m0 a1 l2).size (M.laidV m0 a1 l2).doors.length (M.laidV m0 a1 l2).keys.length r_124 r_126 r_125 r_127 1 ff_551.out (by omega) (by omega) (by omega) (by omega)).mono ?_
    rintro e W25 ⟨rfl, hb⟩
    clear cl_559 cl_560 cl_561 cq_562 cl_563 cl_564 cl_565 cq_566 cl_567 cl_568 cl_569 cq_570 cl_571 cl_572 cl_573 cq_574 cl_575 cl_576 cl_577 cq_578
    have tt_579 := Lib.hid (C.Turned.of_below hb 0 0)
    have zz_580 := tt_579.out.size
    have ff_581 := Lib.hid (ff_548.out.turned tt_579.out (by omega) (by omega))
    clear ff_548
    have ff_582 := Lib.hid (ff_549.out.turned tt_579.out (by omega) (by omega))
    clear ff_549
    have ff_583 := Lib.hid (ff_550.out.turned tt_579.out (by omega) (by omega))
    clear ff_550
    have ff_584 := Lib.hid (ff_551.out.turned tt_579.out (by omega) (by omega))
    clear ff_551
    have ff_585 := Lib.hid (ff_552.out.turned tt_579.out (by omega) (by omega))
    clear ff_552
    have ff_586 := Lib.hid (ff_553.out.turned tt_579.out (by omega))
    clear ff_553
    have ff_587 := Lib.hid (ff_554.out.turned tt_579.out (by omega))
    clear ff_554
    have ff_588 := Lib.hid (ff_555.out.turned tt_579.out (by omega))
    clear ff_555
    have ff_589 := Lib.hid (ff_556.out.turned tt_579.out (by omega))
    clear ff_556
    have ff_590 := Lib.hid (ff_557.out.turned tt_579.out (by omega))
    clear ff_557
    have bb_591 := Lib.hid (C.Below.far bb_558.out tt_579.out)
    clear tt_579 bb_558
    clear hb
    obtain ⟨cl_592, cl_593, cl_594⟩ := ff_586.out.cells
    have cq_595 := ff_586.out.lt
    obtain ⟨cl_596, cl_597, cl_598⟩ := ff_587.out.cells
    have cq_599 := ff_587.out.lt
    obtain ⟨cl_600, cl_601, cl_602⟩ := ff_588.out.cells
    have cq_603 := ff_588.out.lt
    obtain ⟨cl_604, cl_605, cl_606⟩ := ff_589.out.cells
    have cq_607 := ff_589.out.lt
    obtain ⟨cl_608, cl_609, cl_610⟩ := ff_590.out.cells
    have cq_611 := ff_590.out.lt
    go_wp2_with fail
    go_ret
    exact ⟨rfl, bb_591.out⟩


set_option maxRecDepth 100000 in
theorem lifted (os : Os) (started : os.Started) (H : Type) (enc : TypeId × Value → H) :
    ReturnsInHanded {} Try.checked os 3 .any (Rows.fnExactLayKeysSpec.pre6 enc Try.prog Try.f3 Rows.fnExactLayKeysRow.domain false) (Rows.fnExactLayKeysSpec.post enc Try.prog Try.f3 false true false false) := by
  refine returnsInHanded_of_change (C := Try.checked) P.own started (by kernel_rfl) Try.func3
    (ChangeSpec.witness6 (enc := enc) (C := Try.checked) false ⟨#[], #[.agg #[.int .i64 0, .slice none 0 0, .slice none 0 0], .int .i64 0, .slice none 0 0], []⟩ 8 (by kernel_rfl) (by kernel_rfl) (by kernel_rfl) (by kernel_rfl)) ?_
  intro W base args ds gs before hval0 hW hcnd _
  have hval : ∀ (j : Nat) t v, Try.f3.params[j]? = some t → args[j]? = some v → Value.okWide Try.prog W .any base t v := hval0
  have hW' := hW
  obtain ⟨p, q, hA0, hV, rfl, hfz, hnd⟩ := hW
  have hA : DataW.TrodAll enc Try.prog W 0 (fun _ => true) true Try.f3.params.toList args.toList ds p := hA0
  rw [Try.params3] at hA hval
  obtain ⟨v0, vs0, d0, ds0, p0, q0, hargs, rfl, rfl, h0, r0⟩ := trodAll_cons hA
  obtain ⟨v1, vs1, d1, ds1, p1, q1, rfl, rfl, rfl, h1, r1⟩ := trodAll_cons r0
  obtain ⟨v2, vs2, d2, ds2, p2, q2, rfl, rfl, rfl, h2, r2⟩ := trodAll_cons r1
  obtain ⟨rfl, rfl, rfl⟩ := trodAll_nil r2
  obtain rfl : args = #[v0, v1, v2] := by cases args; simp_all
  obtain ⟨rfl, rfl⟩ := trodVars_none hV
  have k0 := h0
  have lt0 : ∀ x ∈ p0, x.block < W.heap.size := by obtain ⟨m, hm⟩ := k0; exact DataW.trod_lt m _ _ _ hm
  obtain ⟨m0, a0, c0, b0, e0, rfl, w0⟩ := C.open_maze (hval 0 25 v0 rfl rfl) h0
  obtain ⟨a1, rfl, rfl, rfl, w1⟩ := open_int Try.underlying3 (hval 1 3 v1 rfl rfl) h1
  have k2 := h2
  have lt2 : ∀ x ∈ p2, x.block < W.heap.size := by obtain ⟨m, hm⟩ := k2; exact DataW.trod_lt m _ _ _ hm
  obtain ⟨a2, len2, cap2, rfl⟩ := okWide_slice Try.underlying23 (hval 2 23 v2 rfl rfl)
  obtain ⟨l2, rfl, w2, u2, x2, y2⟩ : ∃ l : List Int, len2 = l.length ∧ C.RowIn 0 W.heap.size W a2 (M.encIs l) ∧ l.length ≤ cap2 ∧ cap2 ≤ maxLen ∧ ∀ z ∈ l, (Lit.int .i64 z).wf = true := by
    obtain ⟨fuel, hf⟩ := h2
    exact C.open_ints_at hf
  unfold maxLen at x2
  have b2 : ∀ z ∈ l2, -9223372036854775808 ≤ z ∧ z ≤ 9223372036854775807 := fun z hz => by have := Go.bounds_i64 (y2 z hz); omega
  clear hA0 hval0
  refine (walk W m0 a0 c0 b0 e0 w0 a1 w1 a2 cap2 l2 w2 u2 (by omega) b2).mono fun e W' ⟨he, hb⟩ => ?_
  subst he
  exact ⟨_, rfl, _, _, _, [], _, [], hW', trodAll_mk1 (shut_bool Try.underlying4 _), (trodAll_cons_mk (Below.trod P.laidOut (by kernel_rfl) (of_decide_eq_true (by kernel_rfl)) k0 hb lt0) (trodAll_cons_mk (shut_int Try.underlying3 w1) (trodAll_cons_mk (Below.trod P.laidOut (by kernel_rfl) (of_decide_eq_true (by kernel_rfl)) k2 hb lt2) trodAll_mk0))), rfl, hb.frame _, fun h => by cases h⟩

theorem closed : joinedFacts Try.pinned.checked.prog 3 Try.f3 Rows.fnExactLayKeysSpec Rows.fnExactLayKeysRow = true := by
  show joinedFacts Try.prog 3 Try.f3 Rows.fnExactLayKeysSpec Rows.fnExactLayKeysRow = true
  unfold joinedFacts
  rw [P.cloEnter, P.cloMake, P.cloLift]
  kernel_rfl
theorem proved : Rows.FnExactLayKeysSaid :=
  OpenClaim.holds_of_wide 3 Try.f3 rfl rfl rfl rfl rfl rfl rfl ⟨rfl, rfl, rfl, rfl, rfl⟩ rfl rfl rfl rfl rfl (by kernel_rfl) Try.func3 closed
    (of_decide_eq_true (by kernel_rfl)) (by unfold Func.isWrapper; first | (rw [if_pos (by decide +kernel)]; kernel_rfl) | (rw [if_neg (by decide +kernel)]; exact ⟨rfl, rfl⟩))
    (fun os started H enc _ => lifted os started H enc)
#print axioms proved
end Go.Proofs.Ytddpjjdncmokmaa.fnExactLayKeys
