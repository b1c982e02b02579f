/-
  PROVED: for every maze aM, every int aSet and every list of ints aFilling the law laws.FnExactIsFilling returns true, that is, impl.IsFilling answers as the model does; its arguments read afterwards as before. Conditions: none.
-/
import Derived.Test.YtddpjjdncmokmaaRows
import Derived.Test.YtddpjjdncmokmaaWAMem
import Derived.Test.YtddpjjdncmokmaaClo
import Derived.Test.YtddpjjdncmokmaaMaz2
import Derived.Test.YtddpjjdncmokmaaFilS
import Derived.Test.YtddpjjdncmokmaaFilI
import Derived.WalkKit
import Derived.ProofKit
import Derived.JoinedOf
import Derived.OpenShut
import Derived.ShutString
import Derived.Deep.RegionWith
import Derived.Deep.DeepCutAuto
namespace Go.Proofs.Ytddpjjdncmokmaa.fnExactIsFilling
open Go.ChangeShapes Go.WideShapes Go.ChangeAt Go.RowKit
open Go.ChangeMaps (open_string shut_string)
set_option linter.unusedVariables false

set_option maxHeartbeats 4000000 in
set_option maxRecDepth 100000 in
theorem walk (w : World) (m0 : M.Mz) (a0 : Option Addr) (c0 : Nat) (b0 : Option Addr) (d0 : Nat) (w0 : C.MzIn 0 w.heap.size w m0 a0 c0 b0 d0) (a1 : Int) (w1 : (Lit.int .i64 a1).wf = true) (a2 : Option Addr) (cap2 : Nat) (l2 : List Int) (w2 : C.RowIn 0 w.heap.size w a2 (M.encIs l2)) (u2 : l2.length ≤ cap2) (v2 : cap2 ≤ 9223372036854775807) (b2 : ∀ z ∈ l2, -9223372036854775808 ≤ z ∧ z ≤ 9223372036854775807) :
    Calls Try.prog 4 #[(.agg #[.int .i64 m0.size, .slice a0 m0.doors.length c0, .slice b0 m0.keys.length d0]), .int .i64 a1, .slice a2 l2.length cap2] w fun e w' => e = .returned (.bool true) ∧ Below w.heap.size w w' := by
  have wd1 := Go.bounds_i64 w1
  have y0 := Nat.le_trans w0.c1 w0.c2
  have z0 := Nat.le_trans w0.d1 w0.d2
  have x0 := Lib.hid w0
  clear w0
  have x2 := Lib.hid w2
  clear w2
  have B2 := Lib.hid b2
  clear b2
  by_cases s0 : 1048576 < l2.length
  · go_enter Try.func4, Try.ntmps4
    have bb_1 := Lib.hid (Below.refl w.heap.size w)
    go_wp2_with fail
    go_ret
    exact ⟨rfl, (by (repeat (first | exact Below.refl _ _ | (refine Below.alloc ?_ (by first | omega | (simp; done) | (simp; omega)) _))))⟩
  by_cases s1 : 1048576 < m0.doors.length + m0.keys.length
  · go_enter Try.func4, Try.ntmps4
    have bb_1 := Lib.hid (Below.refl w.heap.size w)
    go_wp2_with fail
    refine C.named ?_
    intro W0 hW0
    have kW0 : Below w.heap.size w W0 := by rw [hW0]; exact (by (repeat (first | exact Below.refl _ _ | (refine Below.alloc ?_ (by first | omega | (simp; done) | (simp; omega)) _))))
    have bx_2p : C.Box3 W0 (w.heap.size) 25 (.int .i64 m0.size) (.slice a0 m0.doors.length c0) (.slice b0 m0.keys.length d0) := by rw [hW0]; exact C.Box3.new _ _ _ _ (by simp)
    have bx_2q := bx_2p.lt
    have bx_2 := Lib.hid bx_2p
    clear bx_2p
    clear hW0
    have tt_3 := Lib.hid (C.Turned.of_below kW0 0 0)
    have zz_4 := tt_3.out.size
    have ff_5 := Lib.hid (x0.out.turned tt_3.out (by omega) (by omega))
    clear x0
    have ff_6 := Lib.hid (x2.out.turned tt_3.out (by omega) (by omega))
    clear x2
    have bb_7 := Lib.hid (C.Below.far bb_1.out tt_3.out)
    clear tt_3 bb_1
    clear kW0
    refine (C.szMaze_any W0 m0 a0 b0 c0 d0 (1048576) (by omega) (by omega) (by omega) (by omega)).mono ?_
    rintro e W1 ⟨rfl, hb⟩
    have tt_8 := Lib.hid (C.Turned.of_below hb 0 0)
    have zz_9 := tt_8.out.size
    have ff_10 := Lib.hid (ff_5.out.turned tt_8.out (by omega) (by omega))
    clear ff_5
    have ff_11 := Lib.hid (ff_6.out.turned tt_8.out (by omega) (by omega))
    clear ff_6
    have ff_12 := Lib.hid (bx_2.out.turned tt_8.out (by omega))
    clear bx_2
    have bb_13 := Lib.hid (C.Below.far bb_7.out tt_8.out)
    clear tt_8 bb_7
    clear hb
    rw [if_pos (by omega)]
    obtain ⟨cl_14, cl_15, cl_16⟩ := ff_12.out.cells
    have cq_17 := ff_12.out.lt
    go_wp2_with fail
    go_ret
    exact ⟨rfl, bb_13.out⟩
  go_enter Try.func4, Try.ntmps4
  have bb_1 := Lib.hid (Below.refl w.heap.size w)
  go_wp2_with fail
  refine C.named ?_
  intro W0 hW0
  have kW0 : Below w.heap.size w W0 := by rw [hW0]; exact (by (repeat (first | exact Below.refl _ _ | (refine Below.alloc ?_ (by first | omega | (simp; done) | (simp; omega)) _))))
  have bx_2p : C.Box3 W0 (w.heap.size) 25 (.int .i64 m0.size) (.slice a0 m0.doors.length c0) (.slice b0 m0.keys.length d0) := by rw [hW0]; exact C.Box3.new _ _ _ _ (by simp)
  have bx_2q := bx_2p.lt
  have bx_2 := Lib.hid bx_2p
  clear bx_2p
  clear hW0
  have tt_3 := Lib.hid (C.Turned.of_below kW0 0 0)
  have zz_4 := tt_3.out.size
  have ff_5 := Lib.hid (x0.out.turned tt_3.out (by omega) (by omega))
  clear x0
  have ff_6 := Lib.hid (x2.out.turned tt_3.out (by omega) (by omega))
  clear x2
  have bb_7 := Lib.hid (C.Below.far bb_1.out tt_3.out)
  clear tt_3 bb_1
  clear kW0
  refine (C.szMaze_any W0 m0 a0 b0 c0 d0 (1048576) (by omega) (by omega) (by omega) (by omega)).mono ?_
  rintro e W1 ⟨rfl, hb⟩
  have tt_8 := Lib.hid (C.Turned.of_below hb 0 0)
  have zz_9 := tt_8.out.size
  have ff_10 := Lib.hid (ff_5.out.turned tt_8.out (by omega) (by omega))
  clear ff_5
  have ff_11 := Lib.hid (ff_6.out.turned tt_8.out (by omega) (by omega))
  clear ff_6
  have ff_12 := Lib.hid (bx_2.out.turned tt_8.out (by omega))
  clear bx_2
  have bb_13 := Lib.hid (C.Below.far bb_7.out tt_8.out)
  clear tt_8 bb_7
  clear hb
  rw [if_neg (by omega)]
  obtain ⟨cl_14, cl_15, cl_16⟩ := ff_12.out.cells
  have cq_17 := ff_12.out.lt
  go_wp2_with fail
  refine (C.toMaze_any W1 0 w.heap.size m0 a0 b0 c0 d0 ff_10.out (by omega) (by omega) (by omega)).mono ?_
  rintro e W2 ⟨t_18, t_19, t_20, t_21, rfl, ho, hb⟩
  clear cl_14 cl_15 cl_16 cq_17
  have tt_22 := Lib.hid (C.Turned.of_below hb 0 0)
  have zz_23 := tt_22.out.size
  have ff_24 := Lib.hid (ff_10.out.turned tt_22.out (by omega) (by omega))
  clear ff_10
  have ff_25 := Lib.hid (ff_11.out.turned tt_22.out (by omega) (by omega))
  clear ff_11
  have ff_26 := Lib.hid (ff_12.out.turned tt_22.out (by omega))
  clear ff_12
  have bb_27 := Lib.hid (C.Below.far bb_13.out tt_22.out)
  clear tt_22 bb_13
  clear hb
  have fo_28 := Lib.hid ho
  clear ho
  obtain ⟨cl_29, cl_30, cl_31⟩ := ff_26.out.cells
  have cq_32 := ff_26.out.lt
  go_wp2_with fail
  refine (C.toInts_any W2 0 w.heap.size a2 cap2 l2 ff_25.out (by omega) (by omega)).mono ?_
  rintro e W3 ⟨rfl, ho, hb⟩
  clear cl_29 cl_30 cl_31 cq_32
  have tt_33 := Lib.hid (C.Turned.of_below hb 0 0)
  have zz_34 := tt_33.out.size
  have ff_35 := Lib.hid (ff_24.out.turned tt_33.out (by omega) (by omega))
  clear ff_24
  have ff_36 := Lib.hid (ff_25.out.turned tt_33.out (by omega) (by omega))
  clear ff_25
  have ff_37 := Lib.hid (fo_28.out.turned tt_33.out (by omega) (by omega))
  clear fo_28
  have ff_38 := Lib.hid (ff_26.out.turned tt_33.out (by omega))
  clear ff_26
  have bb_39 := Lib.hid (C.Below.far bb_27.out tt_33.out)
  clear tt_33 bb_27
  clear hb
  have fo_40 := Lib.hid ho
  clear ho
  obtain ⟨cl_41, cl_42, cl_43⟩ := ff_38.out.cells
  have cq_44 := ff_38.out.lt
  go_wp2_with fail
  refine (C.specIsFil_lw W3 (W1.heap.size) (W2.heap.size) m0 t_18 t_20 t_19 t_21 ff_37.out.mz (by omega) (by omega) (by omega) a1 (by omega) (by omega) (W2.heap.size) (W3.heap.size) (some ⟨W2.heap.size, 0, none⟩) l2.length l2 fo_40.out.row (by omega) (by omega) (by omega) (by omega) B2.out).mono ?_
  rintro e W4 ⟨rfl, hb⟩
  clear cl_41 cl_42 cl_43 cq_44
  have tt_45 := Lib.hid (C.Turned.of_below hb 0 0)
  have zz_46 := tt_45.out.size
  have ff_47 := Lib.hid (ff_35.out.turned tt_45.out (by omega) (by omega))
  clear ff_35
  have ff_48 := Lib.hid (ff_36.out.turned tt_45.out (by omega) (by omega))
  clear ff_36
  have ff_49 := Lib.hid (ff_37.out.turned tt_45.out (by omega) (by omega))
  clear ff_37
  have ff_50 := Lib.hid (fo_40.out.turned tt_45.out (by omega) (by omega))
  clear fo_40
  have ff_51 := Lib.hid (ff_38.out.turned tt_45.out (by omega))
  clear ff_38
  have bb_52 := Lib.hid (C.Below.far bb_39.out tt_45.out)
  clear tt_45 bb_39
  clear hb
  obtain ⟨cl_53, cl_54, cl_55⟩ := ff_51.out.cells
  have cq_56 := ff_51.out.lt
  clear ff_49 ff_50
  go_wp2_with fail
  refine (C.toMaze_any W4 0 w.heap.size m0 a0 b0 c0 d0 ff_47.out (by omega) (by omega) (by omega)).mono ?_
  rintro e W5 ⟨t_57, t_58, t_59, t_60, rfl, ho, hb⟩
  clear cl_53 cl_54 cl_55 cq_56
  have tt_61 := Lib.hid (C.Turned.of_below hb 0 0)
  have zz_62 := tt_61.out.size
  have ff_63 := Lib.hid (ff_47.out.turned tt_61.out (by omega) (by omega))
  clear ff_47
  have ff_64 := Lib.hid (ff_48.out.turned tt_61.out (by omega) (by omega))
  clear ff_48
  have ff_65 := Lib.hid (ff_51.out.turned tt_61.out (by omega))
  clear ff_51
  have bb_66 := Lib.hid (C.Below.far bb_52.out tt_61.out)
  clear tt_61 bb_52
  clear hb
  have fo_67 := Lib.hid ho
  clear ho
  obtain ⟨cl_68, cl_69, cl_70⟩ := ff_65.out.cells
  have cq_71 := ff_65.out.lt
  go_wp2_with fail
  refine C.named ?_
  intro W6 hW6
  have kW6 : Below W5.heap.size W5 W6 := by rw [hW6]; exact (by (repeat (first | exact Below.refl _ _ | (refine Below.alloc ?_ (by first | omega | (simp; done) | (simp; omega)) _))))
  have bx_72p : C.Box3 W6 (W5.heap.size) 27 (.int .i64 m0.size) (.slice t_57 m0.doors.length t_58) (.slice t_59 m0.keys.length t_60) := by rw [hW6]; exact C.Box3.new _ _ _ _ (by simp)
  have bx_72q := bx_72p.lt
  have bx_72 := Lib.hid bx_72p
  clear bx_72p
  clear hW6
  clear cl_68 cl_69 cl_70 cq_71
  have tt_73 := Lib.hid (C.Turned.of_below kW6 0 0)
  have zz_74 := tt_73.out.size
  have ff_75 := Lib.hid (ff_63.out.turned tt_73.out (by omega) (by omega))
  clear ff_63
  have ff_76 := Lib.hid (ff_64.out.turned tt_73.out (by omega) (by omega))
  clear ff_64
  have ff_77 := Lib.hid (fo_67.out.turned tt_73.out (by omega) (by omega))
  clear fo_67
  have ff_78 := Lib.hid (ff_65.out.turned tt_73.out (by omega))
  clear ff_65
  have bb_79 := Lib.hid (C.Below.far bb_66.out tt_73.out)
  clear tt_73 bb_66
  clear kW6
  refine (C.toInts_any W6 0 w.heap.size a2 cap2 l2 ff_76.out (by omega) (by omega)).mono ?_
  rintro e W7 ⟨rfl, ho, hb⟩
  have tt_80 := Lib.hid (C.Turned.of_below hb 0 0)
  have zz_81 := tt_80.out.size
  have ff_82 := Lib.hid (ff_75.out.turned tt_80.out (by omega) (by omega))
  clear ff_75
  have ff_83 := Lib.hid (ff_76.out.turned tt_80.out (by omega) (by omega))
  clear ff_76
  have ff_84 := Lib.hid (ff_77.out.turned tt_80.out (by omega) (by omega))
  clear ff_77
  have ff_85 := Lib.hid (ff_78.out.turned tt_80.out (by omega))
  clear ff_78
  have ff_86 := Lib.hid (bx_72.out.turned tt_80.out (by omega))
  clear bx_72
  have bb_87 := Lib.hid (C.Below.far bb_79.out tt_80.out)
  clear tt_80 bb_79
  clear hb
  have fo_88 := Lib.hid ho
  clear ho
  obtain ⟨cl_89, cl_90, cl_91⟩ := ff_85.out.cells
  have cq_92 := ff_85.out.lt
  obtain ⟨cl_93, cl_94, cl_95⟩ := ff_86.out.cells
  have cq_96 := ff_86.out.lt
  go_wp2_with fail
  refine (C.implIsFil_lw W7 (W4.heap.size) (W5.heap.size) m0 t_57 t_59 t_58 t_60 ff_84.out.mz (by omega) (by omega) (by omega) a1 (by omega) (by omega) (W6.heap.size) (W7.heap.size) (some ⟨W6.heap.size, 0, none⟩) l2.length l2 fo_88.out.row (by omega) (by omega) (by omega) (by omega) B2.out).mono ?_
  rintro e W8 ⟨rfl, hb⟩
  clear cl_89 cl_90 cl_91 cq_92 cl_93 cl_94 cl_95 cq_96
  have tt_97 := Lib.hid (C.Turned.of_below hb 0 0)
  have zz_98 := tt_97.out.size
  have ff_99 := Lib.hid (ff_82.out.turned tt_97.out (by omega) (by omega))
  clear ff_82
  have ff_100 := Lib.hid (ff_83.out.turned tt_97.out (by omega) (by omega))
  clear ff_83
  have ff_101 := Lib.hid (ff_84.out.turned tt_97.out (by omega) (by omega))
  clear ff_84
  have ff_102 := Lib.hid (fo_88.out.turned tt_97.out (by omega) (by omega))
  clear fo_88
  have ff_103 := Lib.hid (ff_85.out.turned tt_97.out (by omega))
  clear ff_85
  have ff_104 := Lib.hid (ff_86.out.turned tt_97.out (by omega))
  clear ff_86
  have bb_105 := Lib.hid (C.Below.far bb_87.out tt_97.out)
  clear tt_97 bb_87
  clear hb
  obtain ⟨cl_106, cl_107, cl_108⟩ := ff_103.out.cells
  have cq_109 := ff_103.out.lt
  obtain ⟨cl_110, cl_111, cl_112⟩ := ff_104.out.cells
  have cq_113 := ff_104.out.lt
  go_upto_region 13 with fail
  go_cut [54] (fun sl wx => sl = .bool false ∧ Below W8.heap.size W8 wx)
  case first =>
    go_region_with (first | (go_at_call 17; refine (C.toMaze_any W8.drew 0 w.heap.size m0 a0 b0 c0 d0 (ff_99.out.turned (C.Turned.of_below (Below.refl W8.heap.size W8).drew 0 0) (by omega) (by omega)) (show w.heap.size ≤ W8.heap.size by omega) (by omega) (by omega)).mono ?_; rintro e w2 ⟨t_114, t_115, t_116, t_117, rfl, ho, hb⟩; have hbq : Below W8.heap.size W8 w2 := (Below.refl W8.heap.size W8).drew.trans hb; have hzq := hbq.size; obtain ⟨cm_118, cm_119, cm_120⟩ := (ff_103.out.turned (C.Turned.of_below hbq 0 0) (by omega)).cells; obtain ⟨cm_121, cm_122, cm_123⟩ := (ff_104.out.turned (C.Turned.of_below hbq 0 0) (by omega)).cells) | (go_at_call 20; refine (C.eqMaze_any w2 (W4.heap.size) (W5.heap.size) _ _ m0 _ _ _ _ _ _ _ _ (C.MzOwn.mz (C.MzOwn.turned ff_101.out (C.Turned.of_below hbq 0 0) (by omega) (by omega))) ho.mz (by omega) (Nat.le_refl _) (by omega) (by omega)).mono ?_; rintro e w3 ⟨rfl, hb3⟩))
    all_goals (go_wp2_with fail; go_meet; exact ⟨rfl, C.Below.more hbq hb3⟩)
  case rest =>
    obtain ⟨rfl, hb⟩ := hcut
    obtain ⟨W9, rfl⟩ : ∃ W, W = wc := ⟨_, rfl⟩
    clear cl_106 cl_107 cl_108 cq_109 cl_110 cl_111 cl_112 cq_113
    have tt_124 := Lib.hid (C.Turned.of_below hb 0 0)
    have zz_125 := tt_124.out.size
    have ff_126 := Lib.hid (ff_99.out.turned tt_124.out (by omega) (by omega))
    clear ff_99
    have ff_127 := Lib.hid (ff_100.out.turned tt_124.out (by omega) (by omega))
    clear ff_100
    have ff_128 := Lib.hid (ff_101.out.turned tt_124.out (by omega) (by omega))
    clear ff_101
    have ff_129 := Lib.hid (ff_102.out.turned tt_124.out (by omega) (by omega))
    clear ff_102
    have ff_130 := Lib.hid (ff_103.out.turned tt_124.out (by omega))
    clear ff_103
    have ff_131 := Lib.hid (ff_104.out.turned tt_124.out (by omega))
    clear ff_104
    have bb_132 := Lib.hid (C.Below.far bb_105.out tt_124.out)
    clear tt_124 bb_105
    clear hb
    obtain ⟨cl_133, cl_134, cl_135⟩ := ff_130.out.cells
    have cq_136 := ff_130.out.lt
    obtain ⟨cl_137, cl_138, cl_139⟩ := ff_131.out.cells
    have cq_140 := ff_131.out.lt
    go_wp2_with fail
    refine (C.toInts_any W9 0 w.heap.size a2 cap2 l2 ff_127.out (by omega) (by omega)).mono ?_
    rintro e W10 ⟨rfl, ho, hb⟩
    clear cl_133 cl_134 cl_135 cq_136 cl_137 cl_138 cl_139 cq_140
    have tt_141 := Lib.hid (C.Turned.of_below hb 0 0)
    have zz_142 := tt_141.out.size
    have ff_143 := Lib.hid (ff_126.out.turned tt_141.out (by omega) (by omega))
    clear ff_126
    have ff_144 := Lib.hid (ff_127.out.turned tt_141.out (by omega) (by omega))
    clear ff_127
    have ff_145 := Lib.hid (ff_128.out.turned tt_141.out (by omega) (by omega))
    clear ff_128
    have ff_146 := Lib.hid (ff_129.out.turned tt_141.out (by omega) (by omega))
    clear ff_129
    have ff_147 := Lib.hid (ff_130.out.turned tt_141.out (by omega))
    clear ff_130
    have ff_148 := Lib.hid (ff_131.out.turned tt_141.out (by omega))
    clear ff_131
    have bb_149 := Lib.hid (C.Below.far bb_132.out tt_141.out)
    clear tt_141 bb_132
    clear hb
    have fo_150 := Lib.hid ho
    clear ho
    obtain ⟨cl_151, cl_152, cl_153⟩ := ff_147.out.cells
    have cq_154 := ff_147.out.lt
    obtain ⟨cl_155, cl_156, cl_157⟩ := ff_148.out.cells
    have cq_158 := ff_148.out.lt
    go_wp2_with fail
    refine (C.eqInts_any W10 (W6.heap.size) (W7.heap.size) (W9.heap.size) (W10.heap.size) (some ⟨W6.heap.size, 0, none⟩) (some ⟨W9.heap.size, 0, none⟩) l2.length l2.length l2 (by omega) ff_146.out.row fo_150.out.row).mono ?_
    rintro e W11 ⟨rfl, nd_159, hW11⟩
    have hb : Below W10.heap.size W10 W11 := by rw [hW11]; exact C.below_drawn _ _
    clear hW11
    clear cl_151 cl_152 cl_153 cq_154 cl_155 cl_156 cl_157 cq_158
    have tt_160 := Lib.hid (C.Turned.of_below hb 0 0)
    have zz_161 := tt_160.out.size
    have ff_162 := Lib.hid (ff_143.out.turned tt_160.out (by omega) (by omega))
    clear ff_143
    have ff_163 := Lib.hid (ff_144.out.turned tt_160.out (by omega) (by omega))
    clear ff_144
    have ff_164 := Lib.hid (ff_145.out.turned tt_160.out (by omega) (by omega))
    clear ff_145
    have ff_165 := Lib.hid (ff_146.out.turned tt_160.out (by omega) (by omega))
    clear ff_146
    have ff_166 := Lib.hid (fo_150.out.turned tt_160.out (by omega) (by omega))
    clear fo_150
    have ff_167 := Lib.hid (ff_147.out.turned tt_160.out (by omega))
    clear ff_147
    have ff_168 := Lib.hid (ff_148.out.turned tt_160.out (by omega))
    clear ff_148
    have bb_169 := Lib.hid (C.Below.far bb_149.out tt_160.out)
    clear tt_160 bb_149
    clear hb
    clear ff_166
    obtain ⟨cl_170, cl_171, cl_172⟩ := ff_167.out.cells
    have cq_173 := ff_167.out.lt
    obtain ⟨cl_174, cl_175, cl_176⟩ := ff_168.out.cells
    have cq_177 := ff_168.out.lt
    go_wp2_with fail
    go_ret
    exact ⟨rfl, bb_169.out⟩


set_option maxRecDepth 100000 in
theorem lifted (os : Os) (started : os.Started) (H : Type) (enc : TypeId × Value → H) :
    ReturnsInHanded {} Try.checked os 4 .any (Rows.fnExactIsFillingSpec.pre6 enc Try.prog Try.f4 Rows.fnExactIsFillingRow.domain false) (Rows.fnExactIsFillingSpec.post enc Try.prog Try.f4 false true false false) := by
  refine returnsInHanded_of_change (C := Try.checked) P.own started (by kernel_rfl) Try.func4
    (ChangeSpec.witness6 (enc := enc) (C := Try.checked) false ⟨#[], #[.agg #[.int .i64 0, .slice none 0 0, .slice none 0 0], .int .i64 0, .slice none 0 0], []⟩ 8 (by kernel_rfl) (by kernel_rfl) (by kernel_rfl) (by kernel_rfl)) ?_
  intro W base args ds gs before hval0 hW hcnd _
  have hval : ∀ (j : Nat) t v, Try.f4.params[j]? = some t → args[j]? = some v → Value.okWide Try.prog W .any base t v := hval0
  have hW' := hW
  obtain ⟨p, q, hA0, hV, rfl, hfz, hnd⟩ := hW
  have hA : DataW.TrodAll enc Try.prog W 0 (fun _ => true) true Try.f4.params.toList args.toList ds p := hA0
  rw [Try.params4] at hA hval
  obtain ⟨v0, vs0, d0, ds0, p0, q0, hargs, rfl, rfl, h0, r0⟩ := trodAll_cons hA
  obtain ⟨v1, vs1, d1, ds1, p1, q1, rfl, rfl, rfl, h1, r1⟩ := trodAll_cons r0
  obtain ⟨v2, vs2, d2, ds2, p2, q2, rfl, rfl, rfl, h2, r2⟩ := trodAll_cons r1
  obtain ⟨rfl, rfl, rfl⟩ := trodAll_nil r2
  obtain rfl : args = #[v0, v1, v2] := by cases args; simp_all
  obtain ⟨rfl, rfl⟩ := trodVars_none hV
  have k0 := h0
  have lt0 : ∀ x ∈ p0, x.block < W.heap.size := by obtain ⟨m, hm⟩ := k0; exact DataW.trod_lt m _ _ _ hm
  obtain ⟨m0, a0, c0, b0, e0, rfl, w0⟩ := C.open_maze (hval 0 25 v0 rfl rfl) h0
  obtain ⟨a1, rfl, rfl, rfl, w1⟩ := open_int Try.underlying3 (hval 1 3 v1 rfl rfl) h1
  have k2 := h2
  have lt2 : ∀ x ∈ p2, x.block < W.heap.size := by obtain ⟨m, hm⟩ := k2; exact DataW.trod_lt m _ _ _ hm
  obtain ⟨a2, len2, cap2, rfl⟩ := okWide_slice Try.underlying23 (hval 2 23 v2 rfl rfl)
  obtain ⟨l2, rfl, w2, u2, x2, y2⟩ : ∃ l : List Int, len2 = l.length ∧ C.RowIn 0 W.heap.size W a2 (M.encIs l) ∧ l.length ≤ cap2 ∧ cap2 ≤ maxLen ∧ ∀ z ∈ l, (Lit.int .i64 z).wf = true := by
    obtain ⟨fuel, hf⟩ := h2
    exact C.open_ints_at hf
  unfold maxLen at x2
  have b2 : ∀ z ∈ l2, -9223372036854775808 ≤ z ∧ z ≤ 9223372036854775807 := fun z hz => by have := Go.bounds_i64 (y2 z hz); omega
  clear hA0 hval0
  refine (walk W m0 a0 c0 b0 e0 w0 a1 w1 a2 cap2 l2 w2 u2 (by omega) b2).mono fun e W' ⟨he, hb⟩ => ?_
  subst he
  exact ⟨_, rfl, _, _, _, [], _, [], hW', trodAll_mk1 (shut_bool Try.underlying4 _), (trodAll_cons_mk (Below.trod P.laidOut (by kernel_rfl) (of_decide_eq_true (by kernel_rfl)) k0 hb lt0) (trodAll_cons_mk (shut_int Try.underlying3 w1) (trodAll_cons_mk (Below.trod P.laidOut (by kernel_rfl) (of_decide_eq_true (by kernel_rfl)) k2 hb lt2) trodAll_mk0))), rfl, hb.frame _, fun h => by cases h⟩

theorem closed : joinedFacts Try.pinned.checked.prog 4 Try.f4 Rows.fnExactIsFillingSpec Rows.fnExactIsFillingRow = true := by
  show joinedFacts Try.prog 4 Try.f4 Rows.fnExactIsFillingSpec Rows.fnExactIsFillingRow = true
  unfold joinedFacts
  rw [P.cloEnter, P.cloMake, P.cloLift]
  kernel_rfl
theorem proved : Rows.FnExactIsFillingSaid :=
  OpenClaim.holds_of_wide 4 Try.f4 rfl rfl rfl rfl rfl rfl rfl ⟨rfl, rfl, rfl, rfl, rfl⟩ rfl rfl rfl rfl rfl (by kernel_rfl) Try.func4 closed
    (of_decide_eq_true (by kernel_rfl)) (by unfold Func.isWrapper; first | (rw [if_pos (by decide +kernel)]; kernel_rfl) | (rw [if_neg (by decide +kernel)]; exact ⟨rfl, rfl⟩))
    (fun os started H enc _ => lifted os started H enc)
#print axioms proved
end Go.Proofs.Ytddpjjdncmokmaa.fnExactIsFilling
