/-
  PROVED: for every maze aM and every list of ints aWalk the law laws.FnExactIsKeyWalk returns true, that is, impl.IsKeyWalk answers as the model does; its arguments read afterwards as before. Conditions: none.
-/
import Derived.Test.YtkgjmddogcoemaaRows
import Derived.Test.YtkgjmddogcoemaaOpen
import Derived.Test.YtkgjmddogcoemaaMaz2
import Derived.Test.YtkgjmddogcoemaaImplWalk
import Derived.WalkKit
import Derived.ProofKit
import Derived.OpenShut
import Derived.ShutString
import Derived.Deep.RegionWith
import Derived.Deep.DeepCutAuto
namespace Go.Proofs.Ytkgjmddogcoemaa.fnExactIsKeyWalk
open Go.ChangeShapes Go.WideShapes Go.ChangeAt Go.RowKit
open Go.ChangeMaps (open_string shut_string)
set_option linter.unusedVariables false

set_option maxHeartbeats 4000000 in
set_option maxRecDepth 100000 in
theorem walk (w : World) (m0 : M.Mz) (a0 : Option Addr) (c0 : Nat) (b0 : Option Addr) (d0 : Nat) (w0 : C.MzIn 0 w.heap.size w m0 a0 c0 b0 d0) (a1 : Option Addr) (cap1 : Nat) (l1 : List Int) (w1 : C.RowIn 0 w.heap.size w a1 (M.encIs l1)) (u1 : l1.length ≤ cap1) (v1 : cap1 ≤ 9223372036854775807) (b1 : ∀ z ∈ l1, -9223372036854775808 ≤ z ∧ z ≤ 9223372036854775807) :
    Calls Try.prog 9 #[(.agg #[.int .i64 m0.size, .slice a0 m0.doors.length c0, .slice b0 m0.keys.length d0]), .slice a1 l1.length cap1] w fun e w' => e = .returned (.bool true) ∧ Below w.heap.size w w' := by
  have y0 := Nat.le_trans w0.c1 w0.c2
  have z0 := Nat.le_trans w0.d1 w0.d2
  have x0 := Lib.hid w0
  clear w0
  have x1 := Lib.hid w1
  clear w1
  have B1 := Lib.hid b1
  clear b1
  by_cases s0 : 1048576 < l1.length
  · go_enter Try.func9, Try.ntmps9
    have bb_1 := Lib.hid (Below.refl w.heap.size w)
    go_wp2_with fail
    go_ret
    exact ⟨rfl, (by (repeat (first | exact Below.refl _ _ | (refine Below.alloc ?_ (by first | omega | (simp; done) | (simp; omega)) _))))⟩
  by_cases s1 : 1048576 < m0.doors.length + m0.keys.length
  · go_enter Try.func9, Try.ntmps9
    have bb_1 := Lib.hid (Below.refl w.heap.size w)
    go_wp2_with fail
    refine C.named ?_
    intro W0 hW0
    have kW0 : Below w.heap.size w W0 := by rw [hW0]; exact (by (repeat (first | exact Below.refl _ _ | (refine Below.alloc ?_ (by first | omega | (simp; done) | (simp; omega)) _))))
    have bx_2p : C.Box3 W0 (w.heap.size) 30 (.int .i64 m0.size) (.slice a0 m0.doors.length c0) (.slice b0 m0.keys.length d0) := by rw [hW0]; exact C.Box3.new _ _ _ _ (by simp)
    have bx_2q := bx_2p.lt
    have bx_2 := Lib.hid bx_2p
    clear bx_2p
    clear hW0
    have tt_3 := Lib.hid (C.Turned.of_below kW0 0 0)
    have zz_4 := tt_3.out.size
    have ff_5 := Lib.hid (x0.out.turned tt_3.out (by omega) (by omega))
    clear x0
    have ff_6 := Lib.hid (x1.out.turned tt_3.out (by omega) (by omega))
    clear x1
    have bb_7 := Lib.hid (C.Below.far bb_1.out tt_3.out)
    clear tt_3 bb_1
    clear kW0
    refine (C.szMaze_any W0 m0 a0 b0 c0 d0 (1048576) (by omega) (by omega) (by omega) (by omega)).mono ?_
    rintro e W1 ⟨rfl, hb⟩
    have tt_8 := Lib.hid (C.Turned.of_below hb 0 0)
    have zz_9 := tt_8.out.size
    have ff_10 := Lib.hid (ff_5.out.turned tt_8.out (by omega) (by omega))
    clear ff_5
    have ff_11 := Lib.hid (ff_6.out.turned tt_8.out (by omega) (by omega))
    clear ff_6
    have ff_12 := Lib.hid (bx_2.out.turned tt_8.out (by omega))
    clear bx_2
    have bb_13 := Lib.hid (C.Below.far bb_7.out tt_8.out)
    clear tt_8 bb_7
    clear hb
    rw [if_pos (by omega)]
    obtain ⟨cl_14, cl_15, cl_16⟩ := ff_12.out.cells
    go_wp2_with fail
    go_ret
    exact ⟨rfl, bb_13.out⟩
  go_enter Try.func9, Try.ntmps9
  have bb_1 := Lib.hid (Below.refl w.heap.size w)
  go_wp2_with fail
  refine C.named ?_
  intro W0 hW0
  have kW0 : Below w.heap.size w W0 := by rw [hW0]; exact (by (repeat (first | exact Below.refl _ _ | (refine Below.alloc ?_ (by first | omega | (simp; done) | (simp; omega)) _))))
  have bx_2p : C.Box3 W0 (w.heap.size) 30 (.int .i64 m0.size) (.slice a0 m0.doors.length c0) (.slice b0 m0.keys.length d0) := by rw [hW0]; exact C.Box3.new _ _ _ _ (by simp)
  have bx_2q := bx_2p.lt
  have bx_2 := Lib.hid bx_2p
  clear bx_2p
  clear hW0
  have tt_3 := Lib.hid (C.Turned.of_below kW0 0 0)
  have zz_4 := tt_3.out.size
  have ff_5 := Lib.hid (x0.out.turned tt_3.out (by omega) (by omega))
  clear x0
  have ff_6 := Lib.hid (x1.out.turned tt_3.out (by omega) (by omega))
  clear x1
  have bb_7 := Lib.hid (C.Below.far bb_1.out tt_3.out)
  clear tt_3 bb_1
  clear kW0
  refine (C.szMaze_any W0 m0 a0 b0 c0 d0 (1048576) (by omega) (by omega) (by omega) (by omega)).mono ?_
  rintro e W1 ⟨rfl, hb⟩
  have tt_8 := Lib.hid (C.Turned.of_below hb 0 0)
  have zz_9 := tt_8.out.size
  have ff_10 := Lib.hid (ff_5.out.turned tt_8.out (by omega) (by omega))
  clear ff_5
  have ff_11 := Lib.hid (ff_6.out.turned tt_8.out (by omega) (by omega))
  clear ff_6
  have ff_12 := Lib.hid (bx_2.out.turned tt_8.out (by omega))
  clear bx_2
  have bb_13 := Lib.hid (C.Below.far bb_7.out tt_8.out)
  clear tt_8 bb_7
  clear hb
  rw [if_neg (by omega)]
  obtain ⟨cl_14, cl_15, cl_16⟩ := ff_12.out.cells
  go_wp2_with fail
  refine (C.toMaze_any W1 0 w.heap.size m0 a0 b0 c0 d0 ff_10.out (by omega) (by omega) (by omega)).mono ?_
  rintro e W2 ⟨t_17, t_18, t_19, t_20, rfl, ho, hb⟩
  clear cl_14 cl_15 cl_16
  have tt_21 := Lib.hid (C.Turned.of_below hb 0 0)
  have zz_22 := tt_21.out.size
  have ff_23 := Lib.hid (ff_10.out.turned tt_21.out (by omega) (by omega))
  clear ff_10
  have ff_24 := Lib.hid (ff_11.out.turned tt_21.out (by omega) (by omega))
  clear ff_11
  have ff_25 := Lib.hid (ff_12.out.turned tt_21.out (by omega))
  clear ff_12
  have bb_26 := Lib.hid (C.Below.far bb_13.out tt_21.out)
  clear tt_21 bb_13
  clear hb
  have fo_27 := Lib.hid ho
  clear ho
  obtain ⟨cl_28, cl_29, cl_30⟩ := ff_25.out.cells
  go_wp2_with fail
  refine (C.toInts_any W2 0 w.heap.size a1 cap1 l1 ff_24.out (by omega) (by omega)).mono ?_
  rintro e W3 ⟨rfl, ho, hb⟩
  clear cl_28 cl_29 cl_30
  have tt_31 := Lib.hid (C.Turned.of_below hb 0 0)
  have zz_32 := tt_31.out.size
  have ff_33 := Lib.hid (ff_23.out.turned tt_31.out (by omega) (by omega))
  clear ff_23
  have ff_34 := Lib.hid (ff_24.out.turned tt_31.out (by omega) (by omega))
  clear ff_24
  have ff_35 := Lib.hid (fo_27.out.turned tt_31.out (by omega) (by omega))
  clear fo_27
  have ff_36 := Lib.hid (ff_25.out.turned tt_31.out (by omega))
  clear ff_25
  have bb_37 := Lib.hid (C.Below.far bb_26.out tt_31.out)
  clear tt_31 bb_26
  clear hb
  have fo_38 := Lib.hid ho
  clear ho
  obtain ⟨cl_39, cl_40, cl_41⟩ := ff_36.out.cells
  go_wp2_with fail
  refine (C.specIsKeyWalk_lw W3 (W1.heap.size) (W2.heap.size) m0 t_17 t_19 t_18 t_20 ff_35.out.mz (by omega) (by omega) (by omega) (W2.heap.size) (W3.heap.size) (some ⟨W2.heap.size, 0, none⟩) l1.length l1 fo_38.out.row (by omega) (by omega) (by omega) (by omega) B1.out).mono ?_
  rintro e W4 ⟨rfl, hb⟩
  clear cl_39 cl_40 cl_41
  have tt_42 := Lib.hid (C.Turned.of_below hb 0 0)
  have zz_43 := tt_42.out.size
  have ff_44 := Lib.hid (ff_33.out.turned tt_42.out (by omega) (by omega))
  clear ff_33
  have ff_45 := Lib.hid (ff_34.out.turned tt_42.out (by omega) (by omega))
  clear ff_34
  have ff_46 := Lib.hid (ff_35.out.turned tt_42.out (by omega) (by omega))
  clear ff_35
  have ff_47 := Lib.hid (fo_38.out.turned tt_42.out (by omega) (by omega))
  clear fo_38
  have ff_48 := Lib.hid (ff_36.out.turned tt_42.out (by omega))
  clear ff_36
  have bb_49 := Lib.hid (C.Below.far bb_37.out tt_42.out)
  clear tt_42 bb_37
  clear hb
  obtain ⟨cl_50, cl_51, cl_52⟩ := ff_48.out.cells
  clear ff_46 ff_47
  go_wp2_with fail
  refine (C.toMaze_any W4 0 w.heap.size m0 a0 b0 c0 d0 ff_44.out (by omega) (by omega) (by omega)).mono ?_
  rintro e W5 ⟨t_53, t_54, t_55, t_56, rfl, ho, hb⟩
  clear cl_50 cl_51 cl_52
  have tt_57 := Lib.hid (C.Turned.of_below hb 0 0)
  have zz_58 := tt_57.out.size
  have ff_59 := Lib.hid (ff_44.out.turned tt_57.out (by omega) (by omega))
  clear ff_44
  have ff_60 := Lib.hid (ff_45.out.turned tt_57.out (by omega) (by omega))
  clear ff_45
  have ff_61 := Lib.hid (ff_48.out.turned tt_57.out (by omega))
  clear ff_48
  have bb_62 := Lib.hid (C.Below.far bb_49.out tt_57.out)
  clear tt_57 bb_49
  clear hb
  have fo_63 := Lib.hid ho
  clear ho
  obtain ⟨cl_64, cl_65, cl_66⟩ := ff_61.out.cells
  go_wp2_with fail
  refine C.named ?_
  intro W6 hW6
  have kW6 : Below W5.heap.size W5 W6 := by rw [hW6]; exact (by (repeat (first | exact Below.refl _ _ | (refine Below.alloc ?_ (by first | omega | (simp; done) | (simp; omega)) _))))
  have bx_67p : C.Box3 W6 (W5.heap.size) 33 (.int .i64 m0.size) (.slice t_53 m0.doors.length t_54) (.slice t_55 m0.keys.length t_56) := by rw [hW6]; exact C.Box3.new _ _ _ _ (by simp)
  have bx_67q := bx_67p.lt
  have bx_67 := Lib.hid bx_67p
  clear bx_67p
  clear hW6
  clear cl_64 cl_65 cl_66
  have tt_68 := Lib.hid (C.Turned.of_below kW6 0 0)
  have zz_69 := tt_68.out.size
  have ff_70 := Lib.hid (ff_59.out.turned tt_68.out (by omega) (by omega))
  clear ff_59
  have ff_71 := Lib.hid (ff_60.out.turned tt_68.out (by omega) (by omega))
  clear ff_60
  have ff_72 := Lib.hid (fo_63.out.turned tt_68.out (by omega) (by omega))
  clear fo_63
  have ff_73 := Lib.hid (ff_61.out.turned tt_68.out (by omega))
  clear ff_61
  have bb_74 := Lib.hid (C.Below.far bb_62.out tt_68.out)
  clear tt_68 bb_62
  clear kW6
  refine (C.toInts_any W6 0 w.heap.size a1 cap1 l1 ff_71.out (by omega) (by omega)).mono ?_
  rintro e W7 ⟨rfl, ho, hb⟩
  have tt_75 := Lib.hid (C.Turned.of_below hb 0 0)
  have zz_76 := tt_75.out.size
  have ff_77 := Lib.hid (ff_70.out.turned tt_75.out (by omega) (by omega))
  clear ff_70
  have ff_78 := Lib.hid (ff_71.out.turned tt_75.out (by omega) (by omega))
  clear ff_71
  have ff_79 := Lib.hid (ff_72.out.turned tt_75.out (by omega) (by omega))
  clear ff_72
  have ff_80 := Lib.hid (ff_73.out.turned tt_75.out (by omega))
  clear ff_73
  have ff_81 := Lib.hid (bx_67.out.turned tt_75.out (by omega))
  clear bx_67
  have bb_82 := Lib.hid (C.Below.far bb_74.out tt_75.out)
  clear tt_75 bb_74
  clear hb
  have fo_83 := Lib.hid ho
  clear ho
  obtain ⟨cl_84, cl_85, cl_86⟩ := ff_80.out.cells
  obtain ⟨cl_87, cl_88, cl_89⟩ := ff_81.out.cells
  go_wp2_with fail
  refine (C.implIsKeyWalk_lw W7 (W4.heap.size) (W5.heap.size) m0 t_53 t_55 t_54 t_56 ff_79.out.mz (by omega) (by omega) (by omega) (W6.heap.size) (W7.heap.size) (some ⟨W6.heap.size, 0, none⟩) l1.length l1 fo_83.out.row (by omega) (by omega) (by omega) (by omega) B1.out).mono ?_
  rintro e W8 ⟨rfl, hb⟩
  clear cl_84 cl_85 cl_86 cl_87 cl_88 cl_89
  have tt_90 := Lib.hid (C.Turned.of_below hb 0 0)
  have zz_91 := tt_90.out.size
  have ff_92 := Lib.hid (ff_77.out.turned tt_90.out (by omega) (by omega))
  clear ff_77
  have ff_93 := Lib.hid (ff_78.out.turned tt_90.out (by omega) (by omega))
  clear ff_78
  have ff_94 := Lib.hid (ff_79.out.turned tt_90.out (by omega) (by omega))
  clear ff_79
  have ff_95 := Lib.hid (fo_83.out.turned tt_90.out (by omega) (by omega))
  clear fo_83
  have ff_96 := Lib.hid (ff_80.out.turned tt_90.out (by omega))
  clear ff_80
  have ff_97 := Lib.hid (ff_81.out.turned tt_90.out (by omega))
  clear ff_81
  have bb_98 := Lib.hid (C.Below.far bb_82.out tt_90.out)
  clear tt_90 bb_82
  clear hb
  obtain ⟨cl_99, cl_100, cl_101⟩ := ff_96.out.cells
  obtain ⟨cl_102, cl_103, cl_104⟩ := ff_97.out.cells
  go_upto_region 13 with fail
  go_cut [50] (fun sl wx => sl = .bool false ∧ Below W8.heap.size W8 wx)
  case first =>
    go_region_with (first | (go_at_call 21; refine (C.toMaze_any W8.drew 0 w.heap.size m0 a0 b0 c0 d0 (ff_92.out.turned (C.Turned.of_below (Below.refl W8.heap.size W8).drew 0 0) (by omega) (by omega)) (show w.heap.size ≤ W8.heap.size by omega) (by omega) (by omega)).mono ?_; rintro e w2 ⟨t_105, t_106, t_107, t_108, rfl, ho, hb⟩; have hbq : Below W8.heap.size W8 w2 := (Below.refl W8.heap.size W8).drew.trans hb; have hzq := hbq.size; obtain ⟨cm_109, cm_110, cm_111⟩ := (ff_96.out.turned (C.Turned.of_below hbq 0 0) (by omega)).cells; obtain ⟨cm_112, cm_113, cm_114⟩ := (ff_97.out.turned (C.Turned.of_below hbq 0 0) (by omega)).cells) | (go_at_call 23; refine (C.eqMaze_any w2 (W4.heap.size) (W5.heap.size) _ _ m0 _ _ _ _ _ _ _ _ (C.MzOwn.mz (C.MzOwn.turned ff_94.out (C.Turned.of_below hbq 0 0) (by omega) (by omega))) ho.mz (by omega) (Nat.le_refl _) (by omega) (by omega)).mono ?_; rintro e w3 ⟨rfl, hb3⟩))
    all_goals (go_wp2_with fail; go_meet; exact ⟨rfl, C.Below.more hbq hb3⟩)
  case rest =>
    obtain ⟨rfl, hb⟩ := hcut
    clear cl_99 cl_100 cl_101 cl_102 cl_103 cl_104
    have tt_115 := Lib.hid (C.Turned.of_below hb 0 0)
    have zz_116 := tt_115.out.size
    have ff_117 := Lib.hid (ff_92.out.turned tt_115.out (by omega) (by omega))
    clear ff_92
    have ff_118 := Lib.hid (ff_93.out.turned tt_115.out (by omega) (by omega))
    clear ff_93
    have ff_119 := Lib.hid (ff_94.out.turned tt_115.out (by omega) (by omega))
    clear ff_94
    have ff_120 := Lib.hid (ff_95.out.turned tt_115.out (by omega) (by omega))
    clear ff_95
    have ff_121 := Lib.hid (ff_96.out.turned tt_115.out (by omega))
    clear ff_96
    have ff_122 := Lib.hid (ff_97.out.turned tt_115.out (by omega))
    clear ff_97
    have bb_123 := Lib.hid (C.Below.far bb_98.out tt_115.out)
    clear tt_115 bb_98
    clear hb
    obtain ⟨cl_124, cl_125, cl_126⟩ := ff_121.out.cells
    obtain ⟨cl_127, cl_128, cl_129⟩ := ff_122.out.cells
    go_wp2_with fail
    refine (C.toInts_any wc 0 w.heap.size a1 cap1 l1 ff_118.out (by omega) (by omega)).mono ?_
    rintro e W10 ⟨rfl, ho, hb⟩
    clear cl_124 cl_125 cl_126 cl_127 cl_128 cl_129
    have tt_130 := Lib.hid (C.Turned.of_below hb 0 0)
    have zz_131 := tt_130.out.size
    have ff_132 := Lib.hid (ff_117.out.turned tt_130.out (by omega) (by omega))
    clear ff_117
    have ff_133 := Lib.hid (ff_118.out.turned tt_130.out (by omega) (by omega))
    clear ff_118
    have ff_134 := Lib.hid (ff_119.out.turned tt_130.out (by omega) (by omega))
    clear ff_119
    have ff_135 := Lib.hid (ff_120.out.turned tt_130.out (by omega) (by omega))
    clear ff_120
    have ff_136 := Lib.hid (ff_121.out.turned tt_130.out (by omega))
    clear ff_121
    have ff_137 := Lib.hid (ff_122.out.turned tt_130.out (by omega))
    clear ff_122
    have bb_138 := Lib.hid (C.Below.far bb_123.out tt_130.out)
    clear tt_130 bb_123
    clear hb
    have fo_139 := Lib.hid ho
    clear ho
    obtain ⟨cl_140, cl_141, cl_142⟩ := ff_136.out.cells
    obtain ⟨cl_143, cl_144, cl_145⟩ := ff_137.out.cells
    go_wp2_with fail
    refine (C.eqInts_any W10 (W6.heap.size) (W7.heap.size) (wc.heap.size) (W10.heap.size) (some ⟨W6.heap.size, 0, none⟩) (some ⟨wc.heap.size, 0, none⟩) l1.length l1.length l1 (by omega) ff_135.out.row fo_139.out.row).mono ?_
    rintro e W11 ⟨rfl, nd_146, hW11⟩
    have hb : Below W10.heap.size W10 W11 := by rw [hW11]; exact C.below_drawn _ _
    clear hW11
    clear cl_140 cl_141 cl_142 cl_143 cl_144 cl_145
    have tt_147 := Lib.hid (C.Turned.of_below hb 0 0)
    have zz_148 := tt_147.out.size
    have ff_149 := Lib.hid (ff_132.out.turned tt_147.out (by omega) (by omega))
    clear ff_132
    have ff_150 := Lib.hid (ff_133.out.turned tt_147.out (by omega) (by omega))
    clear ff_133
    have ff_151 := Lib.hid (ff_134.out.turned tt_147.out (by omega) (by omega))
    clear ff_134
    have ff_152 := Lib.hid (ff_135.out.turned tt_147.out (by omega) (by omega))
    clear ff_135
    have ff_153 := Lib.hid (fo_139.out.turned tt_147.out (by omega) (by omega))
    clear fo_139
    have ff_154 := Lib.hid (ff_136.out.turned tt_147.out (by omega))
    clear ff_136
    have ff_155 := Lib.hid (ff_137.out.turned tt_147.out (by omega))
    clear ff_137
    have bb_156 := Lib.hid (C.Below.far bb_138.out tt_147.out)
    clear tt_147 bb_138
    clear hb
    clear ff_153
    obtain ⟨cl_157, cl_158, cl_159⟩ := ff_154.out.cells
    obtain ⟨cl_160, cl_161, cl_162⟩ := ff_155.out.cells
    go_wp2_with fail
    go_ret
    exact ⟨rfl, bb_156.out⟩


set_option maxRecDepth 100000 in
theorem lifted (os : Os) (started : os.Started) (H : Type) (enc : TypeId × Value → H) :
    ReturnsInHanded {} Try.checked os 9 .any (Rows.fnExactIsKeyWalkSpec.pre6 enc Try.prog Try.f9 Rows.fnExactIsKeyWalkRow.domain false) (Rows.fnExactIsKeyWalkSpec.post enc Try.prog Try.f9 false true false false) := by
  refine returnsInHanded_of_change (C := Try.checked) P.own started (by kernel_rfl) Try.func9
    (ChangeSpec.witness6 (enc := enc) (C := Try.checked) false ⟨#[], #[.agg #[.int .i64 0, .slice none 0 0, .slice none 0 0], .slice none 0 0], []⟩ 8 (by kernel_rfl) (by kernel_rfl) (by kernel_rfl) (by kernel_rfl)) ?_
  intro W base args ds gs before hval0 hW hcnd _
  have hval : ∀ (j : Nat) t v, Try.f9.params[j]? = some t → args[j]? = some v → Value.okWide Try.prog W .any base t v := hval0
  have hW' := hW
  obtain ⟨p, q, hA0, hV, rfl, hfz, hnd⟩ := hW
  have hA : DataW.TrodAll enc Try.prog W 0 (fun _ => true) true Try.f9.params.toList args.toList ds p := hA0
  rw [Try.params9] at hA hval
  obtain ⟨v0, vs0, d0, ds0, p0, q0, hargs, rfl, rfl, h0, r0⟩ := trodAll_cons hA
  obtain ⟨v1, vs1, d1, ds1, p1, q1, rfl, rfl, rfl, h1, r1⟩ := trodAll_cons r0
  obtain ⟨rfl, rfl, rfl⟩ := trodAll_nil r1
  obtain rfl : args = #[v0, v1] := by cases args; simp_all
  obtain ⟨rfl, rfl⟩ := trodVars_none hV
  have k0 := h0
  have lt0 : ∀ x ∈ p0, x.block < W.heap.size := by obtain ⟨m, hm⟩ := k0; exact DataW.trod_lt m _ _ _ hm
  obtain ⟨m0, a0, c0, b0, e0, rfl, w0⟩ := C.open_maze (hval 0 30 v0 rfl rfl) h0
  have k1 := h1
  have lt1 : ∀ x ∈ p1, x.block < W.heap.size := by obtain ⟨m, hm⟩ := k1; exact DataW.trod_lt m _ _ _ hm
  obtain ⟨a1, len1, cap1, rfl⟩ := okWide_slice Try.underlying22 (hval 1 22 v1 rfl rfl)
  obtain ⟨l1, rfl, w1, u1, x1, y1⟩ : ∃ l : List Int, len1 = l.length ∧ C.RowIn 0 W.heap.size W a1 (M.encIs l) ∧ l.length ≤ cap1 ∧ cap1 ≤ maxLen ∧ ∀ z ∈ l, (Lit.int .i64 z).wf = true := by
    obtain ⟨fuel, hf⟩ := h1
    exact C.open_ints_at hf
  unfold maxLen at x1
  have b1 : ∀ z ∈ l1, -9223372036854775808 ≤ z ∧ z ≤ 9223372036854775807 := fun z hz => by have := Go.bounds_i64 (y1 z hz); omega
  clear hA0 hval0
  refine (walk W m0 a0 c0 b0 e0 w0 a1 cap1 l1 w1 u1 (by omega) b1).mono fun e W' ⟨he, hb⟩ => ?_
  subst he
  exact ⟨_, rfl, _, _, _, [], _, [], hW', trodAll_mk1 (shut_bool Try.underlying4 _), (trodAll_cons_mk (Below.trod P.laidOut (by kernel_rfl) (of_decide_eq_true (by kernel_rfl)) k0 hb lt0) (trodAll_cons_mk (Below.trod P.laidOut (by kernel_rfl) (of_decide_eq_true (by kernel_rfl)) k1 hb lt1) trodAll_mk0)), rfl, hb.frame _, fun h => by cases h⟩

theorem proved : Rows.FnExactIsKeyWalkSaid :=
  OpenClaim.holds_of_wide 9 Try.f9 rfl rfl rfl rfl rfl rfl rfl ⟨rfl, rfl, rfl, rfl, rfl⟩ rfl rfl rfl rfl rfl (by kernel_rfl) Try.func9 (by kernel_rfl)
    (of_decide_eq_true (by kernel_rfl)) (by unfold Func.isWrapper; first | (rw [if_pos (by decide +kernel)]; kernel_rfl) | (rw [if_neg (by decide +kernel)]; exact ⟨rfl, rfl⟩))
    (fun os started H enc _ => lifted os started H enc)
#print axioms proved
end Go.Proofs.Ytkgjmddogcoemaa.fnExactIsKeyWalk
