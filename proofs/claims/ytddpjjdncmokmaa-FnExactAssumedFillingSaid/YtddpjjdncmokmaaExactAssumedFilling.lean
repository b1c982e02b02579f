/-
  PROVED: for every maze aM, every int aSet and all lists of ints aOrder and aChoices the law laws.FnExactAssumedFilling returns true, that is, impl.AssumedFilling answers as the model does, in memory of its own at each call; its arguments read afterwards as before. Conditions: none.
-/
import Derived.Test.YtddpjjdncmokmaaRows
import Derived.Test.YtddpjjdncmokmaaWAMem
import Derived.Test.YtddpjjdncmokmaaClo
import Derived.Test.YtddpjjdncmokmaaMaz2
import Derived.Test.YtddpjjdncmokmaaAssI
import Derived.WalkKit
import Derived.ProofKit
import Derived.JoinedOf
import Derived.OpenShut
import Derived.ShutString
import Derived.Deep.RegionWith
import Derived.Deep.DeepCutAuto
namespace Go.Proofs.Ytddpjjdncmokmaa.fnExactAssumedFilling
open Go.ChangeShapes Go.WideShapes Go.ChangeAt Go.RowKit
open Go.ChangeMaps (open_string shut_string)
set_option linter.unusedVariables false

set_option maxHeartbeats 4000000 in
set_option maxRecDepth 100000 in
theorem walk (w : World) (m0 : M.Mz) (a0 : Option Addr) (c0 : Nat) (b0 : Option Addr) (d0 : Nat) (w0 : C.MzIn 0 w.heap.size w m0 a0 c0 b0 d0) (a1 : Int) (w1 : (Lit.int .i64 a1).wf = true) (a2 : Option Addr) (cap2 : Nat) (l2 : List Int) (w2 : C.RowIn 0 w.heap.size w a2 (M.encIs l2)) (u2 : l2.length ≤ cap2) (v2 : cap2 ≤ 9223372036854775807) (b2 : ∀ z ∈ l2, -9223372036854775808 ≤ z ∧ z ≤ 9223372036854775807) (a3 : Option Addr) (cap3 : Nat) (l3 : List Int) (w3 : C.RowIn 0 w.heap.size w a3 (M.encIs l3)) (u3 : l3.length ≤ cap3) (v3 : cap3 ≤ 9223372036854775807) (b3 : ∀ z ∈ l3, -9223372036854775808 ≤ z ∧ z ≤ 9223372036854775807) :
    Calls Try.prog 11 #[(.agg #[.int .i64 m0.size, .slice a0 m0.doors.length c0, .slice b0 m0.keys.length d0]), .int .i64 a1, .slice a2 l2.length cap2, .slice a3 l3.length cap3] w fun e w' => e = .returned (.bool true) ∧ Below w.heap.size w w' := by
  have wd1 := Go.bounds_i64 w1
  have y0 := Nat.le_trans w0.c1 w0.c2
  have z0 := Nat.le_trans w0.d1 w0.d2
  have x0 := Lib.hid w0
  clear w0
  have x2 := Lib.hid w2
  clear w2
  have B2 := Lib.hid b2
  clear b2
  have x3 := Lib.hid w3
  clear w3
  have B3 := Lib.hid b3
  clear b3
  by_cases s0 : 1048576 < l2.length
  · go_enter Try.func11, Try.ntmps11
    have bb_1 := Lib.hid (Below.refl w.heap.size w)
    go_wp2_with fail
    go_ret
    exact ⟨rfl, (by (repeat (first | exact Below.refl _ _ | (refine Below.alloc ?_ (by first | omega | (simp; done) | (simp; omega)) _))))⟩
  by_cases s1 : 1048576 < l3.length
  · go_enter Try.func11, Try.ntmps11
    have bb_1 := Lib.hid (Below.refl w.heap.size w)
    go_wp2_with fail
    go_ret
    exact ⟨rfl, (by (repeat (first | exact Below.refl _ _ | (refine Below.alloc ?_ (by first | omega | (simp; done) | (simp; omega)) _))))⟩
  by_cases s2 : 1048576 < m0.doors.length + m0.keys.length
  · go_enter Try.func11, Try.ntmps11
    have bb_1 := Lib.hid (Below.refl w.heap.size w)
    go_wp2_with fail
    refine C.named ?_
    intro W0 hW0
    have kW0 : Below w.heap.size w W0 := by rw [hW0]; exact (by (repeat (first | exact Below.refl _ _ | (refine Below.alloc ?_ (by first | omega | (simp; done) | (simp; omega)) _))))
    have bx_2p : C.Box3 W0 (w.heap.size) 25 (.int .i64 m0.size) (.slice a0 m0.doors.length c0) (.slice b0 m0.keys.length d0) := by rw [hW0]; exact C.Box3.new _ _ _ _ (by simp)
    have bx_2q := bx_2p.lt
    have bx_2 := Lib.hid bx_2p
    clear bx_2p
    clear hW0
    have tt_3 := Lib.hid (C.Turned.of_below kW0 0 0)
    have zz_4 := tt_3.out.size
    have ff_5 := Lib.hid (x0.out.turned tt_3.out (by omega) (by omega))
    clear x0
    have ff_6 := Lib.hid (x2.out.turned tt_3.out (by omega) (by omega))
    clear x2
    have ff_7 := Lib.hid (x3.out.turned tt_3.out (by omega) (by omega))
    clear x3
    have bb_8 := Lib.hid (C.Below.far bb_1.out tt_3.out)
    clear tt_3 bb_1
    clear kW0
    refine (C.szMaze_any W0 m0 a0 b0 c0 d0 (1048576) (by omega) (by omega) (by omega) (by omega)).mono ?_
    rintro e W1 ⟨rfl, hb⟩
    have tt_9 := Lib.hid (C.Turned.of_below hb 0 0)
    have zz_10 := tt_9.out.size
    have ff_11 := Lib.hid (ff_5.out.turned tt_9.out (by omega) (by omega))
    clear ff_5
    have ff_12 := Lib.hid (ff_6.out.turned tt_9.out (by omega) (by omega))
    clear ff_6
    have ff_13 := Lib.hid (ff_7.out.turned tt_9.out (by omega) (by omega))
    clear ff_7
    have ff_14 := Lib.hid (bx_2.out.turned tt_9.out (by omega))
    clear bx_2
    have bb_15 := Lib.hid (C.Below.far bb_8.out tt_9.out)
    clear tt_9 bb_8
    clear hb
    rw [if_pos (by omega)]
    obtain ⟨cl_16, cl_17, cl_18⟩ := ff_14.out.cells
    have cq_19 := ff_14.out.lt
    go_wp2_with fail
    go_ret
    exact ⟨rfl, bb_15.out⟩
  go_enter Try.func11, Try.ntmps11
  have bb_1 := Lib.hid (Below.refl w.heap.size w)
  go_wp2_with fail
  refine C.named ?_
  intro W0 hW0
  have kW0 : Below w.heap.size w W0 := by rw [hW0]; exact (by (repeat (first | exact Below.refl _ _ | (refine Below.alloc ?_ (by first | omega | (simp; done) | (simp; omega)) _))))
  have bx_2p : C.Box3 W0 (w.heap.size) 25 (.int .i64 m0.size) (.slice a0 m0.doors.length c0) (.slice b0 m0.keys.length d0) := by rw [hW0]; exact C.Box3.new _ _ _ _ (by simp)
  have bx_2q := bx_2p.lt
  have bx_2 := Lib.hid bx_2p
  clear bx_2p
  clear hW0
  have tt_3 := Lib.hid (C.Turned.of_below kW0 0 0)
  have zz_4 := tt_3.out.size
  have ff_5 := Lib.hid (x0.out.turned tt_3.out (by omega) (by omega))
  clear x0
  have ff_6 := Lib.hid (x2.out.turned tt_3.out (by omega) (by omega))
  clear x2
  have ff_7 := Lib.hid (x3.out.turned tt_3.out (by omega) (by omega))
  clear x3
  have bb_8 := Lib.hid (C.Below.far bb_1.out tt_3.out)
  clear tt_3 bb_1
  clear kW0
  refine (C.szMaze_any W0 m0 a0 b0 c0 d0 (1048576) (by omega) (by omega) (by omega) (by omega)).mono ?_
  rintro e W1 ⟨rfl, hb⟩
  have tt_9 := Lib.hid (C.Turned.of_below hb 0 0)
  have zz_10 := tt_9.out.size
  have ff_11 := Lib.hid (ff_5.out.turned tt_9.out (by omega) (by omega))
  clear ff_5
  have ff_12 := Lib.hid (ff_6.out.turned tt_9.out (by omega) (by omega))
  clear ff_6
  have ff_13 := Lib.hid (ff_7.out.turned tt_9.out (by omega) (by omega))
  clear ff_7
  have ff_14 := Lib.hid (bx_2.out.turned tt_9.out (by omega))
  clear bx_2
  have bb_15 := Lib.hid (C.Below.far bb_8.out tt_9.out)
  clear tt_9 bb_8
  clear hb
  rw [if_neg (by omega)]
  obtain ⟨cl_16, cl_17, cl_18⟩ := ff_14.out.cells
  have cq_19 := ff_14.out.lt
  have hbd : (M.fillW false m0 a1 l2 l3).length ≤ 1048576 := M.fillW_len _ _ _ _ _
  go_wp2_with fail
  refine (C.toMaze_any W1 0 w.heap.size m0 a0 b0 c0 d0 ff_11.out (by omega) (by omega) (by omega)).mono ?_
  rintro e W2 ⟨t_20, t_21, t_22, t_23, rfl, ho, hb⟩
  clear cl_16 cl_17 cl_18 cq_19
  have tt_24 := Lib.hid (C.Turned.of_below hb 0 0)
  have zz_25 := tt_24.out.size
  have ff_26 := Lib.hid (ff_11.out.turned tt_24.out (by omega) (by omega))
  clear ff_11
  have ff_27 := Lib.hid (ff_12.out.turned tt_24.out (by omega) (by omega))
  clear ff_12
  have ff_28 := Lib.hid (ff_13.out.turned tt_24.out (by omega) (by omega))
  clear ff_13
  have ff_29 := Lib.hid (ff_14.out.turned tt_24.out (by omega))
  clear ff_14
  have bb_30 := Lib.hid (C.Below.far bb_15.out tt_24.out)
  clear tt_24 bb_15
  clear hb
  have fo_31 := Lib.hid ho
  clear ho
  obtain ⟨cl_32, cl_33, cl_34⟩ := ff_29.out.cells
  have cq_35 := ff_29.out.lt
  go_wp2_with fail
  refine (C.toInts_any W2 0 w.heap.size a2 cap2 l2 ff_27.out (by omega) (by omega)).mono ?_
  rintro e W3 ⟨rfl, ho, hb⟩
  clear cl_32 cl_33 cl_34 cq_35
  have tt_36 := Lib.hid (C.Turned.of_below hb 0 0)
  have zz_37 := tt_36.out.size
  have ff_38 := Lib.hid (ff_26.out.turned tt_36.out (by omega) (by omega))
  clear ff_26
  have ff_39 := Lib.hid (ff_27.out.turned tt_36.out (by omega) (by omega))
  clear ff_27
  have ff_40 := Lib.hid (ff_28.out.turned tt_36.out (by omega) (by omega))
  clear ff_28
  have ff_41 := Lib.hid (fo_31.out.turned tt_36.out (by omega) (by omega))
  clear fo_31
  have ff_42 := Lib.hid (ff_29.out.turned tt_36.out (by omega))
  clear ff_29
  have bb_43 := Lib.hid (C.Below.far bb_30.out tt_36.out)
  clear tt_36 bb_30
  clear hb
  have fo_44 := Lib.hid ho
  clear ho
  obtain ⟨cl_45, cl_46, cl_47⟩ := ff_42.out.cells
  have cq_48 := ff_42.out.lt
  go_wp2_with fail
  refine (C.toInts_any W3 0 w.heap.size a3 cap3 l3 ff_40.out (by omega) (by omega)).mono ?_
  rintro e W4 ⟨rfl, ho, hb⟩
  clear cl_45 cl_46 cl_47 cq_48
  have tt_49 := Lib.hid (C.Turned.of_below hb 0 0)
  have zz_50 := tt_49.out.size
  have ff_51 := Lib.hid (ff_38.out.turned tt_49.out (by omega) (by omega))
  clear ff_38
  have ff_52 := Lib.hid (ff_39.out.turned tt_49.out (by omega) (by omega))
  clear ff_39
  have ff_53 := Lib.hid (ff_40.out.turned tt_49.out (by omega) (by omega))
  clear ff_40
  have ff_54 := Lib.hid (ff_41.out.turned tt_49.out (by omega) (by omega))
  clear ff_41
  have ff_55 := Lib.hid (fo_44.out.turned tt_49.out (by omega) (by omega))
  clear fo_44
  have ff_56 := Lib.hid (ff_42.out.turned tt_49.out (by omega))
  clear ff_42
  have bb_57 := Lib.hid (C.Below.far bb_43.out tt_49.out)
  clear tt_49 bb_43
  clear hb
  have fo_58 := Lib.hid ho
  clear ho
  obtain ⟨cl_59, cl_60, cl_61⟩ := ff_56.out.cells
  have cq_62 := ff_56.out.lt
  go_wp2_with fail
  refine (C.specAss_lw W4 (W1.heap.size) (W2.heap.size) m0 t_20 t_22 t_21 t_23 ff_54.out.mz (by omega) (by omega) (by omega) a1 (by omega) (by omega) (W2.heap.size) (W3.heap.size) (some ⟨W2.heap.size, 0, none⟩) l2.length l2 ff_55.out.row (by omega) (by omega) (by omega) (by omega) B2.out (W3.heap.size) (W4.heap.size) (some ⟨W3.heap.size, 0, none⟩) l3.length l3 fo_58.out.row (by omega) (by omega) (by omega) (by omega) B3.out).mono ?_
  rintro e W5 ⟨r_63, r_64, rfl, ho, hq1, hq2, hb⟩
  clear cl_59 cl_60 cl_61 cq_62
  have tt_65 := Lib.hid (C.Turned.of_below hb 0 0)
  have zz_66 := tt_65.out.size
  have ff_67 := Lib.hid (ff_51.out.turned tt_65.out (by omega) (by omega))
  clear ff_51
  have ff_68 := Lib.hid (ff_52.out.turned tt_65.out (by omega) (by omega))
  clear ff_52
  have ff_69 := Lib.hid (ff_53.out.turned tt_65.out (by omega) (by omega))
  clear ff_53
  have ff_70 := Lib.hid (ff_54.out.turned tt_65.out (by omega) (by omega))
  clear ff_54
  have ff_71 := Lib.hid (ff_55.out.turned tt_65.out (by omega) (by omega))
  clear ff_55
  have ff_72 := Lib.hid (fo_58.out.turned tt_65.out (by omega) (by omega))
  clear fo_58
  have ff_73 := Lib.hid (ff_56.out.turned tt_65.out (by omega))
  clear ff_56
  have bb_74 := Lib.hid (C.Below.far bb_57.out tt_65.out)
  clear tt_65 bb_57
  clear hb
  have fo_75 := Lib.hid ho
  clear ho hq1 hq2
  obtain ⟨cl_76, cl_77, cl_78⟩ := ff_73.out.cells
  have cq_79 := ff_73.out.lt
  clear ff_70 ff_71 ff_72
  go_wp2_with fail
  refine (C.toMaze_any W5 0 w.heap.size m0 a0 b0 c0 d0 ff_67.out (by omega) (by omega) (by omega)).mono ?_
  rintro e W6 ⟨t_80, t_81, t_82, t_83, rfl, ho, hb⟩
  clear cl_76 cl_77 cl_78 cq_79
  have tt_84 := Lib.hid (C.Turned.of_below hb 0 0)
  have zz_85 := tt_84.out.size
  have ff_86 := Lib.hid (ff_67.out.turned tt_84.out (by omega) (by omega))
  clear ff_67
  have ff_87 := Lib.hid (ff_68.out.turned tt_84.out (by omega) (by omega))
  clear ff_68
  have ff_88 := Lib.hid (ff_69.out.turned tt_84.out (by omega) (by omega))
  clear ff_69
  have ff_89 := Lib.hid (fo_75.out.turned tt_84.out (by omega) (by omega))
  clear fo_75
  have ff_90 := Lib.hid (ff_73.out.turned tt_84.out (by omega))
  clear ff_73
  have bb_91 := Lib.hid (C.Below.far bb_74.out tt_84.out)
  clear tt_84 bb_74
  clear hb
  have fo_92 := Lib.hid ho
  clear ho
  obtain ⟨cl_93, cl_94, cl_95⟩ := ff_90.out.cells
  have cq_96 := ff_90.out.lt
  go_wp2_with fail
  refine C.named ?_
  intro W7 hW7
  have kW7 : Below W6.heap.size W6 W7 := by rw [hW7]; exact (by (repeat (first | exact Below.refl _ _ | (refine Below.alloc ?_ (by first | omega | (simp; done) | (simp; omega)) _))))
  have bx_97p : C.Box3 W7 (W6.heap.size) 27 (.int .i64 m0.size) (.slice t_80 m0.doors.length t_81) (.slice t_82 m0.keys.length t_83) := by rw [hW7]; exact C.Box3.new _ _ _ _ (by simp)
  have bx_97q := bx_97p.lt
  have bx_97 := Lib.hid bx_97p
  clear bx_97p
  clear hW7
  clear cl_93 cl_94 cl_95 cq_96
  have tt_98 := Lib.hid (C.Turned.of_below kW7 0 0)
  have zz_99 := tt_98.out.size
  have ff_100 := Lib.hid (ff_86.out.turned tt_98.out (by omega) (by omega))
  clear ff_86
  have ff_101 := Lib.hid (ff_87.out.turned tt_98.out (by omega) (by omega))
  clear ff_87
  have ff_102 := Lib.hid (ff_88.out.turned tt_98.out (by omega) (by omega))
  clear ff_88
  have ff_103 := Lib.hid (ff_89.out.turned tt_98.out (by omega) (by omega))
  clear ff_89
  have ff_104 := Lib.hid (fo_92.out.turned tt_98.out (by omega) (by omega))
  clear fo_92
  have ff_105 := Lib.hid (ff_90.out.turned tt_98.out (by omega))
  clear ff_90
  have bb_106 := Lib.hid (C.Below.far bb_91.out tt_98.out)
  clear tt_98 bb_91
  clear kW7
  refine (C.toInts_any W7 0 w.heap.size a2 cap2 l2 ff_101.out (by omega) (by omega)).mono ?_
  rintro e W8 ⟨rfl, ho, hb⟩
  have tt_107 := Lib.hid (C.Turned.of_below hb 0 0)
  have zz_108 := tt_107.out.size
  have ff_109 := Lib.hid (ff_100.out.turned tt_107.out (by omega) (by omega))
  clear ff_100
  have ff_110 := Lib.hid (ff_101.out.turned tt_107.out (by omega) (by omega))
  clear ff_101
  have ff_111 := Lib.hid (ff_102.out.turned tt_107.out (by omega) (by omega))
  clear ff_102
  have ff_112 := Lib.hid (ff_103.out.turned tt_107.out (by omega) (by omega))
  clear ff_103
  have ff_113 := Lib.hid (ff_104.out.turned tt_107.out (by omega) (by omega))
  clear ff_104
  have ff_114 := Lib.hid (ff_105.out.turned tt_107.out (by omega))
  clear ff_105
  have ff_115 := Lib.hid (bx_97.out.turned tt_107.out (by omega))
  clear bx_97
  have bb_116 := Lib.hid (C.Below.far bb_106.out tt_107.out)
  clear tt_107 bb_106
  clear hb
  have fo_117 := Lib.hid ho
  clear ho
  obtain ⟨cl_118, cl_119, cl_120⟩ := ff_114.out.cells
  have cq_121 := ff_114.out.lt
  obtain ⟨cl_122, cl_123, cl_124⟩ := ff_115.out.cells
  have cq_125 := ff_115.out.lt
  go_wp2_with fail
  refine (C.toInts_any W8 0 w.heap.size a3 cap3 l3 ff_111.out (by omega) (by omega)).mono ?_
  rintro e W9 ⟨rfl, ho, hb⟩
  clear cl_118 cl_119 cl_120 cq_121 cl_122 cl_123 cl_124 cq_125
  have tt_126 := Lib.hid (C.Turned.of_below hb 0 0)
  have zz_127 := tt_126.out.size
  have ff_128 := Lib.hid (ff_109.out.turned tt_126.out (by omega) (by omega))
  clear ff_109
  have ff_129 := Lib.hid (ff_110.out.turned tt_126.out (by omega) (by omega))
  clear ff_110
  have ff_130 := Lib.hid (ff_111.out.turned tt_126.out (by omega) (by omega))
  clear ff_111
  have ff_131 := Lib.hid (ff_112.out.turned tt_126.out (by omega) (by omega))
  clear ff_112
  have ff_132 := Lib.hid (ff_113.out.turned tt_126.out (by omega) (by omega))
  clear ff_113
  have ff_133 := Lib.hid (fo_117.out.turned tt_126.out (by omega) (by omega))
  clear fo_117
  have ff_134 := Lib.hid (ff_114.out.turned tt_126.out (by omega))
  clear ff_114
  have ff_135 := Lib.hid (ff_115.out.turned tt_126.out (by omega))
  clear ff_115
  have bb_136 := Lib.hid (C.Below.far bb_116.out tt_126.out)
  clear tt_126 bb_116
  clear hb
  have fo_137 := Lib.hid ho
  clear ho
  obtain ⟨cl_138, cl_139, cl_140⟩ := ff_134.out.cells
  have cq_141 := ff_134.out.lt
  obtain ⟨cl_142, cl_143, cl_144⟩ := ff_135.out.cells
  have cq_145 := ff_135.out.lt
  go_wp2_with fail
  refine (C.implAss_lw W9 (W5.heap.size) (W6.heap.size) m0 t_80 t_82 t_81 t_83 ff_132.out.mz (by omega) (by omega) (by omega) a1 (by omega) (by omega) (W7.heap.size) (W8.heap.size) (some ⟨W7.heap.size, 0, none⟩) l2.length l2 ff_133.out.row (by omega) (by omega) (by omega) (by omega) B2.out (W8.heap.size) (W9.heap.size) (some ⟨W8.heap.size, 0, none⟩) l3.length l3 fo_137.out.row (by omega) (by omega) (by omega) (by omega) B3.out).mono ?_
  rintro e W10 ⟨r_146, r_147, rfl, ho, hq1, hq2, hb⟩
  clear cl_138 cl_139 cl_140 cq_141 cl_142 cl_143 cl_144 cq_145
  have tt_148 := Lib.hid (C.Turned.of_below hb 0 0)
  have zz_149 := tt_148.out.size
  have ff_150 := Lib.hid (ff_128.out.turned tt_148.out (by omega) (by omega))
  clear ff_128
  have ff_151 := Lib.hid (ff_129.out.turned tt_148.out (by omega) (by omega))
  clear ff_129
  have ff_152 := Lib.hid (ff_130.out.turned tt_148.out (by omega) (by omega))
  clear ff_130
  have ff_153 := Lib.hid (ff_131.out.turned tt_148.out (by omega) (by omega))
  clear ff_131
  have ff_154 := Lib.hid (ff_132.out.turned tt_148.out (by omega) (by omega))
  clear ff_132
  have ff_155 := Lib.hid (ff_133.out.turned tt_148.out (by omega) (by omega))
  clear ff_133
  have ff_156 := Lib.hid (fo_137.out.turned tt_148.out (by omega) (by omega))
  clear fo_137
  have ff_157 := Lib.hid (ff_134.out.turned tt_148.out (by omega))
  clear ff_134
  have ff_158 := Lib.hid (ff_135.out.turned tt_148.out (by omega))
  clear ff_135
  have bb_159 := Lib.hid (C.Below.far bb_136.out tt_148.out)
  clear tt_148 bb_136
  clear hb
  have fo_160 := Lib.hid ho
  clear ho hq1 hq2
  obtain ⟨cl_161, cl_162, cl_163⟩ := ff_157.out.cells
  have cq_164 := ff_157.out.lt
  obtain ⟨cl_165, cl_166, cl_167⟩ := ff_158.out.cells
  have cq_168 := ff_158.out.lt
  go_wp2_with fail
  refine (C.eqInts_any W10 (W9.heap.size) (W10.heap.size) (W4.heap.size) (W5.heap.size) r_146 r_63 r_147 r_64 (M.fillW false m0 a1 l2 l3) (by omega) fo_160.out.row ff_153.out.row).mono ?_
  rintro e W11 ⟨rfl, nd_169, hW11⟩
  have hb : Below W10.heap.size W10 W11 := by rw [hW11]; exact C.below_drawn _ _
  clear hW11
  clear cl_161 cl_162 cl_163 cq_164 cl_165 cl_166 cl_167 cq_168
  have tt_170 := Lib.hid (C.Turned.of_below hb 0 0)
  have zz_171 := tt_170.out.size
  have ff_172 := Lib.hid (ff_150.out.turned tt_170.out (by omega) (by omega))
  clear ff_150
  have ff_173 := Lib.hid (ff_151.out.turned tt_170.out (by omega) (by omega))
  clear ff_151
  have ff_174 := Lib.hid (ff_152.out.turned tt_170.out (by omega) (by omega))
  clear ff_152
  have ff_175 := Lib.hid (ff_153.out.turned tt_170.out (by omega) (by omega))
  clear ff_153
  have ff_176 := Lib.hid (ff_154.out.turned tt_170.out (by omega) (by omega))
  clear ff_154
  have ff_177 := Lib.hid (ff_155.out.turned tt_170.out (by omega) (by omega))
  clear ff_155
  have ff_178 := Lib.hid (ff_156.out.turned tt_170.out (by omega) (by omega))
  clear ff_156
  have ff_179 := Lib.hid (fo_160.out.turned tt_170.out (by omega) (by omega))
  clear fo_160
  have ff_180 := Lib.hid (ff_157.out.turned tt_170.out (by omega))
  clear ff_157
  have ff_181 := Lib.hid (ff_158.out.turned tt_170.out (by omega))
  clear ff_158
  have bb_182 := Lib.hid (C.Below.far bb_159.out tt_170.out)
  clear tt_170 bb_159
  clear hb
  obtain ⟨cl_183, cl_184, cl_185⟩ := ff_180.out.cells
  have cq_186 := ff_180.out.lt
  obtain ⟨cl_187, cl_188, cl_189⟩ := ff_181.out.cells
  have cq_190 := ff_181.out.lt
  go_upto_region 16 with fail
  go_cut [71] (fun sl wx => sl = .bool false ∧ Below W11.heap.size W11 wx)
  case first =>
    go_region_with (first | (go_at_call 17; refine (C.toMaze_any W11.drew 0 w.heap.size m0 a0 b0 c0 d0 (ff_172.out.turned (C.Turned.of_below (Below.refl W11.heap.size W11).drew 0 0) (by omega) (by omega)) (show w.heap.size ≤ W11.heap.size by omega) (by omega) (by omega)).mono ?_; rintro e w2 ⟨t_191, t_192, t_193, t_194, rfl, ho, hb⟩; have hbq : Below W11.heap.size W11 w2 := (Below.refl W11.heap.size W11).drew.trans hb; have hzq := hbq.size; obtain ⟨cm_195, cm_196, cm_197⟩ := (ff_180.out.turned (C.Turned.of_below hbq 0 0) (by omega)).cells; obtain ⟨cm_198, cm_199, cm_200⟩ := (ff_181.out.turned (C.Turned.of_below hbq 0 0) (by omega)).cells) | (go_at_call 20; refine (C.eqMaze_any w2 (W5.heap.size) (W6.heap.size) _ _ m0 _ _ _ _ _ _ _ _ (C.MzOwn.mz (C.MzOwn.turned ff_176.out (C.Turned.of_below hbq 0 0) (by omega) (by omega))) ho.mz (by omega) (Nat.le_refl _) (by omega) (by omega)).mono ?_; rintro e w3 ⟨rfl, hb3⟩))
    all_goals (go_wp2_with fail; go_meet; exact ⟨rfl, C.Below.more hbq hb3⟩)
  case rest =>
    obtain ⟨rfl, hb⟩ := hcut
    obtain ⟨W12, rfl⟩ : ∃ W, W = wc := ⟨_, rfl⟩
    clear cl_183 cl_184 cl_185 cq_186 cl_187 cl_188 cl_189 cq_190
    have tt_201 := Lib.hid (C.Turned.of_below hb 0 0)
    have zz_202 := tt_201.out.size
    have ff_203 := Lib.hid (ff_172.out.turned tt_201.out (by omega) (by omega))
    clear ff_172
    have ff_204 := Lib.hid (ff_173.out.turned tt_201.out (by omega) (by omega))
    clear ff_173
    have ff_205 := Lib.hid (ff_174.out.turned tt_201.out (by omega) (by omega))
    clear ff_174
    have ff_206 := Lib.hid (ff_175.out.turned tt_201.out (by omega) (by omega))
    clear ff_175
    have ff_207 := Lib.hid (ff_176.out.turned tt_201.out (by omega) (by omega))
    clear ff_176
    have ff_208 := Lib.hid (ff_177.out.turned tt_201.out (by omega) (by omega))
    clear ff_177
    have ff_209 := Lib.hid (ff_178.out.turned tt_201.out (by omega) (by omega))
    clear ff_178
    have ff_210 := Lib.hid (ff_179.out.turned tt_201.out (by omega) (by omega))
    clear ff_179
    have ff_211 := Lib.hid (ff_180.out.turned tt_201.out (by omega))
    clear ff_180
    have ff_212 := Lib.hid (ff_181.out.turned tt_201.out (by omega))
    clear ff_181
    have bb_213 := Lib.hid (C.Below.far bb_182.out tt_201.out)
    clear tt_201 bb_182
    clear hb
    obtain ⟨cl_214, cl_215, cl_216⟩ := ff_211.out.cells
    have cq_217 := ff_211.out.lt
    obtain ⟨cl_218, cl_219, cl_220⟩ := ff_212.out.cells
    have cq_221 := ff_212.out.lt
    go_wp2_with fail
    refine (C.toInts_any W12 0 w.heap.size a2 cap2 l2 ff_204.out (by omega) (by omega)).mono ?_
    rintro e W13 ⟨rfl, ho, hb⟩
    clear cl_214 cl_215 cl_216 cq_217 cl_218 cl_219 cl_220 cq_221
    have tt_222 := Lib.hid (C.Turned.of_below hb 0 0)
    have zz_223 := tt_222.out.size
    have ff_224 := Lib.hid (ff_203.out.turned tt_222.out (by omega) (by omega))
    clear ff_203
    have ff_225 := Lib.hid (ff_204.out.turned tt_222.out (by omega) (by omega))
    clear ff_204
    have ff_226 := Lib.hid (ff_205.out.turned tt_222.out (by omega) (by omega))
    clear ff_205
    have ff_227 := Lib.hid (ff_206.out.turned tt_222.out (by omega) (by omega))
    clear ff_206
    have ff_228 := Lib.hid (ff_207.out.turned tt_222.out (by omega) (by omega))
    clear ff_207
    have ff_229 := Lib.hid (ff_208.out.turned tt_222.out (by omega) (by omega))
    clear ff_208
    have ff_230 := Lib.hid (ff_209.out.turned tt_222.out (by omega) (by omega))
    clear ff_209
    have ff_231 := Lib.hid (ff_210.out.turned tt_222.out (by omega) (by omega))
    clear ff_210
    have ff_232 := Lib.hid (ff_211.out.turned tt_222.out (by omega))
    clear ff_211
    have ff_233 := Lib.hid (ff_212.out.turned tt_222.out (by omega))
    clear ff_212
    have bb_234 := Lib.hid (C.Below.far bb_213.out tt_222.out)
    clear tt_222 bb_213
    clear hb
    have fo_235 := Lib.hid ho
    clear ho
    obtain ⟨cl_236, cl_237, cl_238⟩ := ff_232.out.cells
    have cq_239 := ff_232.out.lt
    obtain ⟨cl_240, cl_241, cl_242⟩ := ff_233.out.cells
    have cq_243 := ff_233.out.lt
    go_wp2_with fail
    refine (C.eqInts_any W13 (W7.heap.size) (W8.heap.size) (W12.heap.size) (W13.heap.size) (some ⟨W7.heap.size, 0, none⟩) (some ⟨W12.heap.size, 0, none⟩) l2.length l2.length l2 (by omega) ff_229.out.row fo_235.out.row).mono ?_
    rintro e W14 ⟨rfl, nd_244, hW14⟩
    have hb : Below W13.heap.size W13 W14 := by rw [hW14]; exact C.below_drawn _ _
    clear hW14
    clear cl_236 cl_237 cl_238 cq_239 cl_240 cl_241 cl_242 cq_243
    have tt_245 := Lib.hid (C.Turned.of_below hb 0 0)
    have zz_246 := tt_245.out.size
    have ff_247 := Lib.hid (ff_224.out.turned tt_245.out (by omega) (by omega))
    clear ff_224
    have ff_248 := Lib.hid (ff_225.out.turned tt_245.out (by omega) (by omega))
    clear ff_225
    have ff_249 := Lib.hid (ff_226.out.turned tt_245.out (by omega) (by omega))
    clear ff_226
    have ff_250 := Lib.hid (ff_227.out.turned tt_245.out (by omega) (by omega))
    clear ff_227
    have ff_251 := Lib.hid (ff_228.out.turned tt_245.out (by omega) (by omega))
    clear ff_228
    have ff_252 := Lib.hid (ff_229.out.turned tt_245.out (by omega) (by omega))
    clear ff_229
    have ff_253 := Lib.hid (ff_230.out.turned tt_245.out (by omega) (by omega))
    clear ff_230
    have ff_254 := Lib.hid (ff_231.out.turned tt_245.out (by omega) (by omega))
    clear ff_231
    have ff_255 := Lib.hid (fo_235.out.turned tt_245.out (by omega) (by omega))
    clear fo_235
    have ff_256 := Lib.hid (ff_232.out.turned tt_245.out (by omega))
    clear ff_232
    have ff_257 := Lib.hid (ff_233.out.turned tt_245.out (by omega))
    clear ff_233
    have bb_258 := Lib.hid (C.Below.far bb_234.out tt_245.out)
    clear tt_245 bb_234
    clear hb
    clear ff_255
    obtain ⟨cl_259, cl_260, cl_261⟩ := ff_256.out.cells
    have cq_262 := ff_256.out.lt
    obtain ⟨cl_263, cl_264, cl_265⟩ := ff_257.out.cells
    have cq_266 := ff_257.out.lt
    go_wp2_with fail
    refine (C.toInts_any W14 0 w.heap.size a3 cap3 l3 ff_249.out (by omega) (by omega)).mono ?_
    rintro e W15 ⟨rfl, ho, hb⟩
    clear cl_259 cl_260 cl_261 cq_262 cl_263 cl_264 cl_265 cq_266
    have tt_267 := Lib.hid (C.Turned.of_below hb 0 0)
    have zz_268 := tt_267.out.size
    have ff_269 := Lib.hid (ff_247.out.turned tt_267.out (by omega) (by omega))
    clear ff_247
    have ff_270 := Lib.hid (ff_248.out.turned tt_267.out (by omega) (by omega))
    clear ff_248
    have ff_271 := Lib.hid (ff_249.out.turned tt_267.out (by omega) (by omega))
    clear ff_249
    have ff_272 := Lib.hid (ff_250.out.turned tt_267.out (by omega) (by omega))
    clear ff_250
    have ff_273 := Lib.hid (ff_251.out.turned tt_267.out (by omega) (by omega))
    clear ff_251
    have ff_274 := Lib.hid (ff_252.out.turned tt_267.out (by omega) (by omega))
    clear ff_252
    have ff_275 := Lib.hid (ff_253.out.turned tt_267.out (by omega) (by omega))
    clear ff_253
    have ff_276 := Lib.hid (ff_254.out.turned tt_267.out (by omega) (by omega))
    clear ff_254
    have ff_277 := Lib.hid (ff_256.out.turned tt_267.out (by omega))
    clear ff_256
    have ff_278 := Lib.hid (ff_257.out.turned tt_267.out (by omega))
    clear ff_257
    have bb_279 := Lib.hid (C.Below.far bb_258.out tt_267.out)
    clear tt_267 bb_258
    clear hb
    have fo_280 := Lib.hid ho
    clear ho
    obtain ⟨cl_281, cl_282, cl_283⟩ := ff_277.out.cells
    have cq_284 := ff_277.out.lt
    obtain ⟨cl_285, cl_286, cl_287⟩ := ff_278.out.cells
    have cq_288 := ff_278.out.lt
    go_wp2_with fail
    refine (C.eqInts_any W15 (W8.heap.size) (W9.heap.size) (W14.heap.size) (W15.heap.size) (some ⟨W8.heap.size, 0, none⟩) (some ⟨W14.heap.size, 0, none⟩) l3.length l3.length l3 (by omega) ff_275.out.row fo_280.out.row).mono ?_
    rintro e W16 ⟨rfl, nd_289, hW16⟩
    have hb : Below W15.heap.size W15 W16 := by rw [hW16]; exact C.below_drawn _ _
    clear hW16
    clear cl_281 cl_282 cl_283 cq_284 cl_285 cl_286 cl_287 cq_288
    have tt_290 := Lib.hid (C.Turned.of_below hb 0 0)
    have zz_291 := tt_290.out.size
    have ff_292 := Lib.hid (ff_269.out.turned tt_290.out (by omega) (by omega))
    clear ff_269
    have ff_293 := Lib.hid (ff_270.out.turned tt_290.out (by omega) (by omega))
    clear ff_270
    have ff_294 := Lib.hid (ff_271.out.turned tt_290.out (by omega) (by omega))
    clear ff_271
    have ff_295 := Lib.hid (ff_272.out.turned tt_290.out (by omega) (by omega))
    clear ff_272
    have ff_296 := Lib.hid (ff_273.out.turned tt_290.out (by omega) (by omega))
    clear ff_273
    have ff_297 := Lib.hid (ff_274.out.turned tt_290.out (by omega) (by omega))
    clear ff_274
    have ff_298 := Lib.hid (ff_275.out.turned tt_290.out (by omega) (by omega))
    clear ff_275
    have ff_299 := Lib.hid (ff_276.out.turned tt_290.out (by omega) (by omega))
    clear ff_276
    have ff_300 := Lib.hid (fo_280.out.turned tt_290.out (by omega) (by omega))
    clear fo_280
    have ff_301 := Lib.hid (ff_277.out.turned tt_290.out (by omega))
    clear ff_277
    have ff_302 := Lib.hid (ff_278.out.turned tt_290.out (by omega))
    clear ff_278
    have bb_303 := Lib.hid (C.Below.far bb_279.out tt_290.out)
    clear tt_290 bb_279
    clear hb
    clear ff_300
    obtain ⟨cl_304, cl_305, cl_306⟩ := ff_301.out.cells
    have cq_307 := ff_301.out.lt
    obtain ⟨cl_308, cl_309, cl_310⟩ := ff_302.out.cells
    have cq_311 := ff_302.out.lt
    go_wp2_with fail
    refine (C.markMaze_any W16 (W5.heap.size) (W6.heap.size) m0 t_80 t_82 t_81 t_83 (1) ff_296.out (by omega) (by omega) (by omega) (by omega)).mono ?_
    rintro e W17 ⟨rfl, hm, ht⟩
    have fm_312 := Lib.hid hm
    clear hm
    clear ff_296
    clear cl_304 cl_305 cl_306 cq_307 cl_308 cl_309 cl_310 cq_311
    have tt_313 := Lib.hid (ht)
    have zz_314 := tt_313.out.size
    have ff_315 := Lib.hid (ff_292.out.turned tt_313.out (by omega) (by omega))
    clear ff_292
    have ff_316 := Lib.hid (ff_293.out.turned tt_313.out (by omega) (by omega))
    clear ff_293
    have ff_317 := Lib.hid (ff_294.out.turned tt_313.out (by omega) (by omega))
    clear ff_294
    have ff_318 := Lib.hid (ff_295.out.turned tt_313.out (by omega) (by omega))
    clear ff_295
    have ff_319 := Lib.hid (ff_297.out.turned tt_313.out (by omega) (by omega))
    clear ff_297
    have ff_320 := Lib.hid (ff_298.out.turned tt_313.out (by omega) (by omega))
    clear ff_298
    have ff_321 := Lib.hid (ff_299.out.turned tt_313.out (by omega) (by omega))
    clear ff_299
    have ff_322 := Lib.hid (ff_301.out.turned tt_313.out (by omega))
    clear ff_301
    have ff_323 := Lib.hid (ff_302.out.turned tt_313.out (by omega))
    clear ff_302
    have bb_324 := Lib.hid (C.Below.thenTurned bb_303.out tt_313.out (by omega) (by omega))
    clear tt_313 bb_303
    clear ht
    obtain ⟨cl_325, cl_326, cl_327⟩ := ff_322.out.cells
    have cq_328 := ff_322.out.lt
    obtain ⟨cl_329, cl_330, cl_331⟩ := ff_323.out.cells
    have cq_332 := ff_323.out.lt
    clear fm_312
    go_wp2_with fail
    refine (C.markInts_any W17 (W7.heap.size) (W8.heap.size) (some ⟨W7.heap.size, 0, none⟩) l2.length l2.length (1 + m0.doors.length * 3 + m0.keys.length) _ (M.encIs_len _) (by omega) (by omega) ff_319.out).mono ?_
    rintro e W18 ⟨rfl, hm, ht⟩
    have fm_333 := Lib.hid hm
    clear hm
    clear ff_319
    clear cl_325 cl_326 cl_327 cq_328 cl_329 cl_330 cl_331 cq_332
    have tt_334 := Lib.hid (ht)
    have zz_335 := tt_334.out.size
    have ff_336 := Lib.hid (ff_315.out.turned tt_334.out (by omega) (by omega))
    clear ff_315
    have ff_337 := Lib.hid (ff_316.out.turned tt_334.out (by omega) (by omega))
    clear ff_316
    have ff_338 := Lib.hid (ff_317.out.turned tt_334.out (by omega) (by omega))
    clear ff_317
    have ff_339 := Lib.hid (ff_318.out.turned tt_334.out (by omega) (by omega))
    clear ff_318
    have ff_340 := Lib.hid (ff_320.out.turned tt_334.out (by omega) (by omega))
    clear ff_320
    have ff_341 := Lib.hid (ff_321.out.turned tt_334.out (by omega) (by omega))
    clear ff_321
    have ff_342 := Lib.hid (ff_322.out.turned tt_334.out (by omega))
    clear ff_322
    have ff_343 := Lib.hid (ff_323.out.turned tt_334.out (by omega))
    clear ff_323
    have bb_344 := Lib.hid (C.Below.thenTurned bb_324.out tt_334.out (by omega) (by omega))
    clear tt_334 bb_324
    clear ht
    obtain ⟨cl_345, cl_346, cl_347⟩ := ff_342.out.cells
    have cq_348 := ff_342.out.lt
    obtain ⟨cl_349, cl_350, cl_351⟩ := ff_343.out.cells
    have cq_352 := ff_343.out.lt
    clear fm_333
    go_wp2_with fail
    refine (C.markInts_any W18 (W8.heap.size) (W9.heap.size) (some ⟨W8.heap.size, 0, none⟩) l3.length l3.length (1 + m0.doors.length * 3 + m0.keys.length + l2.length) _ (M.encIs_len _) (by omega) (by omega) ff_340.out).mono ?_
    rintro e W19 ⟨rfl, hm, ht⟩
    have fm_353 := Lib.hid hm
    clear hm
    clear ff_340
    clear cl_345 cl_346 cl_347 cq_348 cl_349 cl_350 cl_351 cq_352
    have tt_354 := Lib.hid (ht)
    have zz_355 := tt_354.out.size
    have ff_356 := Lib.hid (ff_336.out.turned tt_354.out (by omega) (by omega))
    clear ff_336
    have ff_357 := Lib.hid (ff_337.out.turned tt_354.out (by omega) (by omega))
    clear ff_337
    have ff_358 := Lib.hid (ff_338.out.turned tt_354.out (by omega) (by omega))
    clear ff_338
    have ff_359 := Lib.hid (ff_339.out.turned tt_354.out (by omega) (by omega))
    clear ff_339
    have ff_360 := Lib.hid (ff_341.out.turned tt_354.out (by omega) (by omega))
    clear ff_341
    have ff_361 := Lib.hid (ff_342.out.turned tt_354.out (by omega))
    clear ff_342
    have ff_362 := Lib.hid (ff_343.out.turned tt_354.out (by omega))
    clear ff_343
    have bb_363 := Lib.hid (C.Below.thenTurned bb_344.out tt_354.out (by omega) (by omega))
    clear tt_354 bb_344
    clear ht
    obtain ⟨cl_364, cl_365, cl_366⟩ := ff_361.out.cells
    have cq_367 := ff_361.out.lt
    obtain ⟨cl_368, cl_369, cl_370⟩ := ff_362.out.cells
    have cq_371 := ff_362.out.lt
    clear fm_353
    go_wp2_with fail
    refine (C.eqInts_any W19 (W9.heap.size) (W10.heap.size) (W4.heap.size) (W5.heap.size) r_146 r_63 r_147 r_64 (M.fillW false m0 a1 l2 l3) (by omega) ff_360.out.row ff_359.out.row).mono ?_
    rintro e W20 ⟨rfl, nd_372, hW20⟩
    have hb : Below W19.heap.size W19 W20 := by rw [hW20]; exact C.below_drawn _ _
    clear hW20
    clear cl_364 cl_365 cl_366 cq_367 cl_368 cl_369 cl_370 cq_371
    have tt_373 := Lib.hid (C.Turned.of_below hb 0 0)
    have zz_374 := tt_373.out.size
    have ff_375 := Lib.hid (ff_356.out.turned tt_373.out (by omega) (by omega))
    clear ff_356
    have ff_376 := Lib.hid (ff_357.out.turned tt_373.out (by omega) (by omega))
    clear ff_357
    have ff_377 := Lib.hid (ff_358.out.turned tt_373.out (by omega) (by omega))
    clear ff_358
    have ff_378 := Lib.hid (ff_359.out.turned tt_373.out (by omega) (by omega))
    clear ff_359
    have ff_379 := Lib.hid (ff_360.out.turned tt_373.out (by omega) (by omega))
    clear ff_360
    have ff_380 := Lib.hid (ff_361.out.turned tt_373.out (by omega))
    clear ff_361
    have ff_381 := Lib.hid (ff_362.out.turned tt_373.out (by omega))
    clear ff_362
    have bb_382 := Lib.hid (C.Below.far bb_363.out tt_373.out)
    clear tt_373 bb_363
    clear hb
    obtain ⟨cl_383, cl_384, cl_385⟩ := ff_380.out.cells
    have cq_386 := ff_380.out.lt
    obtain ⟨cl_387, cl_388, cl_389⟩ := ff_381.out.cells
    have cq_390 := ff_381.out.lt
    go_wp2_with fail
    refine (C.markInts_any W20 (W9.heap.size) (W10.heap.size) r_146 r_147 (M.fillW false m0 a1 l2 l3).length (1) _ (M.encIs_len _) (by omega) (by omega) ff_379.out).mono ?_
    rintro e W21 ⟨rfl, hm, ht⟩
    have fm_391 := Lib.hid hm
    clear hm
    clear ff_379
    clear cl_383 cl_384 cl_385 cq_386 cl_387 cl_388 cl_389 cq_390
    have tt_392 := Lib.hid (ht)
    have zz_393 := tt_392.out.size
    have ff_394 := Lib.hid (ff_375.out.turned tt_392.out (by omega) (by omega))
    clear ff_375
    have ff_395 := Lib.hid (ff_376.out.turned tt_392.out (by omega) (by omega))
    clear ff_376
    have ff_396 := Lib.hid (ff_377.out.turned tt_392.out (by omega) (by omega))
    clear ff_377
    have ff_397 := Lib.hid (ff_378.out.turned tt_392.out (by omega) (by omega))
    clear ff_378
    have ff_398 := Lib.hid (ff_380.out.turned tt_392.out (by omega))
    clear ff_380
    have ff_399 := Lib.hid (ff_381.out.turned tt_392.out (by omega))
    clear ff_381
    have bb_400 := Lib.hid (C.Below.thenTurned bb_382.out tt_392.out (by omega) (by omega))
    clear tt_392 bb_382
    clear ht
    obtain ⟨cl_401, cl_402, cl_403⟩ := ff_398.out.cells
    have cq_404 := ff_398.out.lt
    obtain ⟨cl_405, cl_406, cl_407⟩ := ff_399.out.cells
    have cq_408 := ff_399.out.lt
    go_wp2_with fail
    refine (C.heldInts_any W21 (W9.heap.size) (W10.heap.size) r_146 r_147 (M.fillW false m0 a1 l2 l3).length 1 (by omega) (by omega) fm_391.out.row).mono ?_
    rintro e W21 ⟨rfl, rfl⟩
    go_wp2_with fail
    refine (C.toMaze_any W21 0 w.heap.size m0 a0 b0 c0 d0 ff_394.out (by omega) (by omega) (by omega)).mono ?_
    rintro e W23 ⟨t_409, t_410, t_411, t_412, rfl, ho, hb⟩
    clear cl_401 cl_402 cl_403 cq_404 cl_405 cl_406 cl_407 cq_408
    have tt_413 := Lib.hid (C.Turned.of_below hb 0 0)
    have zz_414 := tt_413.out.size
    have ff_415 := Lib.hid (ff_394.out.turned tt_413.out (by omega) (by omega))
    clear ff_394
    have ff_416 := Lib.hid (ff_395.out.turned tt_413.out (by omega) (by omega))
    clear ff_395
    have ff_417 := Lib.hid (ff_396.out.turned tt_413.out (by omega) (by omega))
    clear ff_396
    have ff_418 := Lib.hid (ff_397.out.turned tt_413.out (by omega) (by omega))
    clear ff_397
    have ff_419 := Lib.hid (fm_391.out.turned tt_413.out (by omega) (by omega))
    clear fm_391
    have ff_420 := Lib.hid (ff_398.out.turned tt_413.out (by omega))
    clear ff_398
    have ff_421 := Lib.hid (ff_399.out.turned tt_413.out (by omega))
    clear ff_399
    have bb_422 := Lib.hid (C.Below.far bb_400.out tt_413.out)
    clear tt_413 bb_400
    clear hb
    have fo_423 := Lib.hid ho
    clear ho
    obtain ⟨cl_424, cl_425, cl_426⟩ := ff_420.out.cells
    have cq_427 := ff_420.out.lt
    obtain ⟨cl_428, cl_429, cl_430⟩ := ff_421.out.cells
    have cq_431 := ff_421.out.lt
    go_wp2_with fail
    refine (C.toInts_any W23 0 w.heap.size a2 cap2 l2 ff_416.out (by omega) (by omega)).mono ?_
    rintro e W24 ⟨rfl, ho, hb⟩
    clear cl_424 cl_425 cl_426 cq_427 cl_428 cl_429 cl_430 cq_431
    have tt_432 := Lib.hid (C.Turned.of_below hb 0 0)
    have zz_433 := tt_432.out.size
    have ff_434 := Lib.hid (ff_415.out.turned tt_432.out (by omega) (by omega))
    clear ff_415
    have ff_435 := Lib.hid (ff_416.out.turned tt_432.out (by omega) (by omega))
    clear ff_416
    have ff_436 := Lib.hid (ff_417.out.turned tt_432.out (by omega) (by omega))
    clear ff_417
    have ff_437 := Lib.hid (ff_418.out.turned tt_432.out (by omega) (by omega))
    clear ff_418
    have ff_438 := Lib.hid (ff_419.out.turned tt_432.out (by omega) (by omega))
    clear ff_419
    have ff_439 := Lib.hid (fo_423.out.turned tt_432.out (by omega) (by omega))
    clear fo_423
    have ff_440 := Lib.hid (ff_420.out.turned tt_432.out (by omega))
    clear ff_420
    have ff_441 := Lib.hid (ff_421.out.turned tt_432.out (by omega))
    clear ff_421
    have bb_442 := Lib.hid (C.Below.far bb_422.out tt_432.out)
    clear tt_432 bb_422
    clear hb
    have fo_443 := Lib.hid ho
    clear ho
    obtain ⟨cl_444, cl_445, cl_446⟩ := ff_440.out.cells
    have cq_447 := ff_440.out.lt
    obtain ⟨cl_448, cl_449, cl_450⟩ := ff_441.out.cells
    have cq_451 := ff_441.out.lt
    go_wp2_with fail
    refine (C.toInts_any W24 0 w.heap.size a3 cap3 l3 ff_436.out (by omega) (by omega)).mono ?_
    rintro e W25 ⟨rfl, ho, hb⟩
    clear cl_444 cl_445 cl_446 cq_447 cl_448 cl_449 cl_450 cq_451
    have tt_452 := Lib.hid (C.Turned.of_below hb 0 0)
    have zz_453 := tt_452.out.size
    have ff_454 := Lib.hid (ff_434.out.turned tt_452.out (by omega) (by omega))
    clear ff_434
    have ff_455 := Lib.hid (ff_435.out.turned tt_452.out (by omega) (by omega))
    clear ff_435
    have ff_456 := Lib.hid (ff_436.out.turned tt_452.out (by omega) (by omega))
    clear ff_436
    have ff_457 := Lib.hid (ff_437.out.turned tt_452.out (by omega) (by omega))
    clear ff_437
    have ff_458 := Lib.hid (ff_438.out.turned tt_452.out (by omega) (by omega))
    clear ff_438
    have ff_459 := Lib.hid (ff_439.out.turned tt_452.out (by omega) (by omega))
    clear ff_439
    have ff_460 := Lib.hid (fo_443.out.turned tt_452.out (by omega) (by omega))
    clear fo_443
    have ff_461 := Lib.hid (ff_440.out.turned tt_452.out (by omega))
    clear ff_440
    have ff_462 := Lib.hid (ff_441.out.turned tt_452.out (by omega))
    clear ff_441
    have bb_463 := Lib.hid (C.Below.far bb_442.out tt_452.out)
    clear tt_452 bb_442
    clear hb
    have fo_464 := Lib.hid ho
    clear ho
    obtain ⟨cl_465, cl_466, cl_467⟩ := ff_461.out.cells
    have cq_468 := ff_461.out.lt
    obtain ⟨cl_469, cl_470, cl_471⟩ := ff_462.out.cells
    have cq_472 := ff_462.out.lt
    go_wp2_with fail
    refine (C.implAss_lw W25 (W21.heap.size) (W23.heap.size) m0 t_409 t_411 t_410 t_412 ff_459.out.mz (by omega) (by omega) (by omega) a1 (by omega) (by omega) (W23.heap.size) (W24.heap.size) (some ⟨W23.heap.size, 0, none⟩) l2.length l2 ff_460.out.row (by omega) (by omega) (by omega) (by omega) B2.out (W24.heap.size) (W25.heap.size) (some ⟨W24.heap.size, 0, none⟩) l3.length l3 fo_464.out.row (by omega) (by omega) (by omega) (by omega) B3.out).mono ?_
    rintro e W26 ⟨r_473, r_474, rfl, ho, hq1, hq2, hb⟩
    clear cl_465 cl_466 cl_467 cq_468 cl_469 cl_470 cl_471 cq_472
    have tt_475 := Lib.hid (C.Turned.of_below hb 0 0)
    have zz_476 := tt_475.out.size
    have ff_477 := Lib.hid (ff_454.out.turned tt_475.out (by omega) (by omega))
    clear ff_454
    have ff_478 := Lib.hid (ff_455.out.turned tt_475.out (by omega) (by omega))
    clear ff_455
    have ff_479 := Lib.hid (ff_456.out.turned tt_475.out (by omega) (by omega))
    clear ff_456
    have ff_480 := Lib.hid (ff_457.out.turned tt_475.out (by omega) (by omega))
    clear ff_457
    have ff_481 := Lib.hid (ff_458.out.turned tt_475.out (by omega) (by omega))
    clear ff_458
    have ff_482 := Lib.hid (ff_459.out.turned tt_475.out (by omega) (by omega))
    clear ff_459
    have ff_483 := Lib.hid (ff_460.out.turned tt_475.out (by omega) (by omega))
    clear ff_460
    have ff_484 := Lib.hid (fo_464.out.turned tt_475.out (by omega) (by omega))
    clear fo_464
    have ff_485 := Lib.hid (ff_461.out.turned tt_475.out (by omega))
    clear ff_461
    have ff_486 := Lib.hid (ff_462.out.turned tt_475.out (by omega))
    clear ff_462
    have bb_487 := Lib.hid (C.Below.far bb_463.out tt_475.out)
    clear tt_475 bb_463
    clear hb
    have fo_488 := Lib.hid ho
    clear ho hq1 hq2
    obtain ⟨cl_489, cl_490, cl_491⟩ := ff_485.out.cells
    have cq_492 := ff_485.out.lt
    obtain ⟨cl_493, cl_494, cl_495⟩ := ff_486.out.cells
    have cq_496 := ff_486.out.lt
    clear ff_482 ff_483 ff_484
    go_wp2_with fail
    refine (C.eqInts_any W26 (W25.heap.size) (W26.heap.size) (W4.heap.size) (W5.heap.size) r_473 r_63 r_474 r_64 (M.fillW false m0 a1 l2 l3) (by omega) fo_488.out.row ff_480.out.row).mono ?_
    rintro e W27 ⟨rfl, nd_497, hW27⟩
    have hb : Below W26.heap.size W26 W27 := by rw [hW27]; exact C.below_drawn _ _
    clear hW27
    clear cl_489 cl_490 cl_491 cq_492 cl_493 cl_494 cl_495 cq_496
    have tt_498 := Lib.hid (C.Turned.of_below hb 0 0)
    have zz_499 := tt_498.out.size
    have ff_500 := Lib.hid (ff_477.out.turned tt_498.out (by omega) (by omega))
    clear ff_477
    have ff_501 := Lib.hid (ff_478.out.turned tt_498.out (by omega) (by omega))
    clear ff_478
    have ff_502 := Lib.hid (ff_479.out.turned tt_498.out (by omega) (by omega))
    clear ff_479
    have ff_503 := Lib.hid (ff_480.out.turned tt_498.out (by omega) (by omega))
    clear ff_480
    have ff_504 := Lib.hid (ff_481.out.turned tt_498.out (by omega) (by omega))
    clear ff_481
    have ff_505 := Lib.hid (fo_488.out.turned tt_498.out (by omega) (by omega))
    clear fo_488
    have ff_506 := Lib.hid (ff_485.out.turned tt_498.out (by omega))
    clear ff_485
    have ff_507 := Lib.hid (ff_486.out.turned tt_498.out (by omega))
    clear ff_486
    have bb_508 := Lib.hid (C.Below.far bb_487.out tt_498.out)
    clear tt_498 bb_487
    clear hb
    obtain ⟨cl_509, cl_510, cl_511⟩ := ff_506.out.cells
    have cq_512 := ff_506.out.lt
    obtain ⟨cl_513, cl_514, cl_515⟩ := ff_507.out.cells
    have cq_516 := ff_507.out.lt
    go_wp2_with fail
    refine (C.heldInts_any W27 (W9.heap.size) (W10.heap.size) r_146 r_147 (M.fillW false m0 a1 l2 l3).length 1 (by omega) (by omega) ff_504.out.row).mono ?_
    rintro e W27 ⟨rfl, rfl⟩
    go_wp2_with fail
    go_ret
    exact ⟨rfl, bb_508.out⟩


set_option maxRecDepth 100000 in
theorem lifted (os : Os) (started : os.Started) (H : Type) (enc : TypeId × Value → H) :
    ReturnsInHanded {} Try.checked os 11 .any (Rows.fnExactAssumedFillingSpec.pre6 enc Try.prog Try.f11 Rows.fnExactAssumedFillingRow.domain false) (Rows.fnExactAssumedFillingSpec.post enc Try.prog Try.f11 false true false false) := by
  refine returnsInHanded_of_change (C := Try.checked) P.own started (by kernel_rfl) Try.func11
    (ChangeSpec.witness6 (enc := enc) (C := Try.checked) false ⟨#[], #[.agg #[.int .i64 0, .slice none 0 0, .slice none 0 0], .int .i64 0, .slice none 0 0, .slice none 0 0], []⟩ 8 (by kernel_rfl) (by kernel_rfl) (by kernel_rfl) (by kernel_rfl)) ?_
  intro W base args ds gs before hval0 hW hcnd _
  have hval : ∀ (j : Nat) t v, Try.f11.params[j]? = some t → args[j]? = some v → Value.okWide Try.prog W .any base t v := hval0
  have hW' := hW
  obtain ⟨p, q, hA0, hV, rfl, hfz, hnd⟩ := hW
  have hA : DataW.TrodAll enc Try.prog W 0 (fun _ => true) true Try.f11.params.toList args.toList ds p := hA0
  rw [Try.params11] at hA hval
  obtain ⟨v0, vs0, d0, ds0, p0, q0, hargs, rfl, rfl, h0, r0⟩ := trodAll_cons hA
  obtain ⟨v1, vs1, d1, ds1, p1, q1, rfl, rfl, rfl, h1, r1⟩ := trodAll_cons r0
  obtain ⟨v2, vs2, d2, ds2, p2, q2, rfl, rfl, rfl, h2, r2⟩ := trodAll_cons r1
  obtain ⟨v3, vs3, d3, ds3, p3, q3, rfl, rfl, rfl, h3, r3⟩ := trodAll_cons r2
  obtain ⟨rfl, rfl, rfl⟩ := trodAll_nil r3
  obtain rfl : args = #[v0, v1, v2, v3] := by cases args; simp_all
  obtain ⟨rfl, rfl⟩ := trodVars_none hV
  have k0 := h0
  have lt0 : ∀ x ∈ p0, x.block < W.heap.size := by obtain ⟨m, hm⟩ := k0; exact DataW.trod_lt m _ _ _ hm
  obtain ⟨m0, a0, c0, b0, e0, rfl, w0⟩ := C.open_maze (hval 0 25 v0 rfl rfl) h0
  obtain ⟨a1, rfl, rfl, rfl, w1⟩ := open_int Try.underlying3 (hval 1 3 v1 rfl rfl) h1
  have k2 := h2
  have lt2 : ∀ x ∈ p2, x.block < W.heap.size := by obtain ⟨m, hm⟩ := k2; exact DataW.trod_lt m _ _ _ hm
  obtain ⟨a2, len2, cap2, rfl⟩ := okWide_slice Try.underlying23 (hval 2 23 v2 rfl rfl)
  obtain ⟨l2, rfl, w2, u2, x2, y2⟩ : ∃ l : List Int, len2 = l.length ∧ C.RowIn 0 W.heap.size W a2 (M.encIs l) ∧ l.length ≤ cap2 ∧ cap2 ≤ maxLen ∧ ∀ z ∈ l, (Lit.int .i64 z).wf = true := by
    obtain ⟨fuel, hf⟩ := h2
    exact C.open_ints_at hf
  unfold maxLen at x2
  have b2 : ∀ z ∈ l2, -9223372036854775808 ≤ z ∧ z ≤ 9223372036854775807 := fun z hz => by have := Go.bounds_i64 (y2 z hz); omega
  have k3 := h3
  have lt3 : ∀ x ∈ p3, x.block < W.heap.size := by obtain ⟨m, hm⟩ := k3; exact DataW.trod_lt m _ _ _ hm
  obtain ⟨a3, len3, cap3, rfl⟩ := okWide_slice Try.underlying23 (hval 3 23 v3 rfl rfl)
  obtain ⟨l3, rfl, w3, u3, x3, y3⟩ : ∃ l : List Int, len3 = l.length ∧ C.RowIn 0 W.heap.size W a3 (M.encIs l) ∧ l.length ≤ cap3 ∧ cap3 ≤ maxLen ∧ ∀ z ∈ l, (Lit.int .i64 z).wf = true := by
    obtain ⟨fuel, hf⟩ := h3
    exact C.open_ints_at hf
  unfold maxLen at x3
  have b3 : ∀ z ∈ l3, -9223372036854775808 ≤ z ∧ z ≤ 9223372036854775807 := fun z hz => by have := Go.bounds_i64 (y3 z hz); omega
  clear hA0 hval0
  refine (walk W m0 a0 c0 b0 e0 w0 a1 w1 a2 cap2 l2 w2 u2 (by omega) b2 a3 cap3 l3 w3 u3 (by omega) b3).mono fun e W' ⟨he, hb⟩ => ?_
  subst he
  exact ⟨_, rfl, _, _, _, [], _, [], hW', trodAll_mk1 (shut_bool Try.underlying4 _), (trodAll_cons_mk (Below.trod P.laidOut (by kernel_rfl) (of_decide_eq_true (by kernel_rfl)) k0 hb lt0) (trodAll_cons_mk (shut_int Try.underlying3 w1) (trodAll_cons_mk (Below.trod P.laidOut (by kernel_rfl) (of_decide_eq_true (by kernel_rfl)) k2 hb lt2) (trodAll_cons_mk (Below.trod P.laidOut (by kernel_rfl) (of_decide_eq_true (by kernel_rfl)) k3 hb lt3) trodAll_mk0)))), rfl, hb.frame _, fun h => by cases h⟩

theorem closed : joinedFacts Try.pinned.checked.prog 11 Try.f11 Rows.fnExactAssumedFillingSpec Rows.fnExactAssumedFillingRow = true := by
  show joinedFacts Try.prog 11 Try.f11 Rows.fnExactAssumedFillingSpec Rows.fnExactAssumedFillingRow = true
  unfold joinedFacts
  rw [P.cloEnter, P.cloMake, P.cloLift]
  kernel_rfl
theorem proved : Rows.FnExactAssumedFillingSaid :=
  OpenClaim.holds_of_wide 11 Try.f11 rfl rfl rfl rfl rfl rfl rfl ⟨rfl, rfl, rfl, rfl, rfl⟩ rfl rfl rfl rfl rfl (by kernel_rfl) Try.func11 closed
    (of_decide_eq_true (by kernel_rfl)) (by unfold Func.isWrapper; first | (rw [if_pos (by decide +kernel)]; kernel_rfl) | (rw [if_neg (by decide +kernel)]; exact ⟨rfl, rfl⟩))
    (fun os started H enc _ => lifted os started H enc)
#print axioms proved
end Go.Proofs.Ytddpjjdncmokmaa.fnExactAssumedFilling
