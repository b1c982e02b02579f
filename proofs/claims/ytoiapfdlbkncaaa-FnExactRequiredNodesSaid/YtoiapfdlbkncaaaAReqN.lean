/-
  CONTRACT of the model's RequiredNodes; what lay in memory stays. No condition but that the maze reads so.
  CONTRACT of the program's RequiredNodes; what lay in memory stays. No condition but that the maze reads so.
-/
import Derived.Test.YtoiapfdlbkncaaaAReq
import Derived.Test.YtoiapfdlbkncaaaADel
namespace Go.Proofs.Ytoiapfdlbkncaaa
open Go.RowKit
namespace M
noncomputable def reqN (m : Mz) (s : Int) (k : Nat) : Bool := (decide (k ≠ 0) && decide ((k : Int) ≠ m.size - 1)) && !canB (noNode m k) s
noncomputable def reqNV (m : Mz) (s : Int) : List Int := ifWins (winsB m s) (numsTo (reqN m s) m.size.toNat) []
theorem reqNV_len (m : Mz) (s : Int) : (reqNV m s).length ≤ 1048576 := by
  cases h : winsB m s with
  | false => rw [show reqNV m s = _ from ifWins_no h _ _]; simp
  | true =>
    rw [show reqNV m s = _ from ifWins_yes h _ _]
    have := numsTo_len (reqN m s) m.size.toNat
    have := (ask_yes (wins_yes h).1).1.size12
    omega
theorem reqN_mid {m : Mz} {s : Int} {k : Nat} (h1 : k ≠ 0) (h2 : (k : Int) ≠ m.size - 1) : reqN m s k = !canB (noNode m k) s := by
  unfold reqN
  rw [decide_eq_true h1, decide_eq_true h2]
  rfl
theorem reqN_first (m : Mz) (s : Int) : numsTo (reqN m s) 1 = [] := numsTo_no (p := reqN m s) (k := 0) rfl
theorem reqN_last {m : Mz} (V : Valid m) (s : Int) {k : Nat} (hk : (k : Int) = m.size - 1 ∨ ((k : Int) = m.size)) (hk1 : 1 ≤ k) : numsTo (reqN m s) k = numsTo (reqN m s) m.size.toNat := by
  have h1 := V.size1
  rcases hk with hk | hk
  · have e : m.size.toNat = k + 1 := by omega
    rw [e, numsTo_no]
    unfold reqN
    rw [show decide ((k : Int) ≠ m.size - 1) = false from decide_eq_false (by omega), Bool.and_false]
    rfl
  · have e : m.size.toNat = k := by omega
    rw [e]
end M
namespace C
set_option maxHeartbeats 3200000
set_option maxRecDepth 20000
theorem specReqN_lw (w : World) (lo hi : Nat) (m : M.Mz) (a b : Option Addr) (c d : Nat) (h : MzIn lo hi w m a c b d) (hz : hi ≤ w.heap.size) (_h1 : m.doors.length ≤ 1048576) (_h2 : m.keys.length ≤ 1048576) (s : Int) (_s1 : -9223372036854775808 ≤ s) (_s2 : s ≤ 9223372036854775807) :
    Calls Try.prog 36 #[.agg #[.int .i64 m.size, .slice a m.doors.length c, .slice b m.keys.length d], .int .i64 s] w (IntsOkPost w (M.reqNV m s) (M.winsB m s)) := by
  obtain ⟨ii0, hi0, hz0, hzz1, hzz2⟩ := info_parts infoI
  have H := Lib.hid h
  clear h
  go_enter Try.func36, Try.ntmps36
  go_wp2_with fail
  refine named ?_
  intro W hW
  have hb : Below w.heap.size w W := by rw [hW]; exact (below_alloc _ _).alloc (by simp) _
  have x1 : Box3 W w.heap.size 29 (.int .i64 m.size) (.slice a m.doors.length c) (.slice b m.keys.length d) := by rw [hW]; exact (Box3.new _ _ _ _ rfl).alloc _
  have o1 : W.ownsRow w.heap.size 3 1 (.slice (some ⟨w.heap.size + 1, 0, none⟩) 0 0) 0 [] := by
    rw [hW]
    have := ownsRow_empty (w.alloc (.cells #[.int .i64 m.size, .slice a m.doors.length c, .slice b m.keys.length d] 29)) w.heap.size 3 1 (by simp)
    simpa using this
  clear hW
  have hzw := hb.size
  refine (can_any W lo hi m a b c d s (H.out.below hb hz) (by omega)).mono ?_
  rintro e w1 ⟨rfl, hb1⟩
  have X1 := Lib.hid (x1.below hb1)
  have O1 := Lib.hid (own_below o1 hb1)
  clear o1
  have HB1 := Lib.hid (hb.trans (hb1.mono hzw))
  have hz1 := hb1.size
  have hbl := X1.out.lt
  clear hb hb1 x1
  obtain ⟨c0, c1, c2⟩ := X1.out.cells
  cases q0 : M.winsB m s with
  | false =>
    have HF := Lib.hid q0
    clear q0
    go_wp2_with fail
    go_ret2
    rw [HF.out, show M.reqNV m s = _ from M.ifWins_no HF.out _ _]
    exact intsOk_end (l := []) O1.out HB1.out
  | true =>
    have HF := Lib.hid q0
    have HA := (M.wins_yes q0).1
    have HVA := Lib.hid (M.ask_yes HA).1
    obtain ⟨_, s0, s64⟩ := M.ask_yes HA
    have v1 := HVA.out.size1
    have v12 := HVA.out.size12
    have v30 := HVA.out.few
    have vk := HVA.out.keysLen
    clear q0 HA
    go_wp2_with fail
    have HV := Lib.hid (show M.reqNV m s = _ from M.ifWins_yes HF.out _ _)
    go_loopw [6, 7] (fun v6 v7 wr => ∃ (k : Nat), 1 ≤ k ∧ k ≤ m.size.toNat ∧ v7 = .int .i64 k ∧ wr.ownsRow w.heap.size 3 1 v6 (M.numsTo (M.reqN m s) k).length (M.encIs (M.numsTo (M.reqN m s) k)) ∧ Box3 wr w.heap.size 29 (.int .i64 m.size) (.slice a m.doors.length c) (.slice b m.keys.length d) ∧ Below w.heap.size w wr) (fun _ v7 _ => m.size.toNat - (intOf v7).toNat)
    case atStart => exact ⟨1, Nat.le_refl _, by omega, rfl, by rw [M.reqN_first]; exact O1.out, X1.out, HB1.out⟩
    case round =>
      obtain ⟨k, hlk, hk, rfl, hso, hx, hlow⟩ := hrel
      obtain ⟨la, lc, hv, hl1, hl2, _⟩ := own_slice hso
      subst hv
      have SO := Lib.hid hso
      have X7 := Lib.hid hx
      have LO := Lib.hid hlow
      have hzr := hlow.size
      have hxl := hx.lt
      have hll := M.numsTo_len (M.reqN m s) k
      obtain ⟨c0, c1, c2⟩ := hx.cells
      clear hso hx hlow
      by_cases hkl : (k : Int) < m.size - 1
      · have HY := Lib.hid (fun (h : M.reqN m s k = true) => M.numsTo_yes h)
        have HN := Lib.hid (fun (h : M.reqN m s k = false) => M.numsTo_no h)
        have HNV := Lib.hid (M.noNode_valid HVA.out (k : Int))
        have HPK : Hid (M.reqN m s k = !M.canB (M.noNode m k) s) := Lib.hid (M.reqN_mid (by omega) (by omega))
        have CL := Lib.hid (l3Node_any wr lo hi m a b c d (H.out.below LO.out hz) (by omega) (by omega) (by omega) (k : Int))
        generalize M.noNode m (k : Int) = mn at *
        generalize M.reqN m s k = pk at *
        go_wp2_with fail
        refine CL.out.mono ?_
        rintro e w2 ⟨ca, cc, cb, cd, rfl, ho, hb2⟩
        have HO := Lib.hid ho
        have HB2 := Lib.hid hb2
        have hz2 := hb2.size
        clear ho hb2
        go_wp2_with fail
        refine (wins_any w2 _ _ mn ca cb cc cd HO.out.mz (Nat.le_refl _) HNV.out s s0 s64).mono ?_
        rintro e w3 ⟨rfl, hb3⟩
        have HB3 := Lib.hid (HB2.out.trans (hb3.mono hz2))
        have X3 := Lib.hid (X7.out.below HB3.out)
        have SO3 := Lib.hid (own_below SO.out HB3.out)
        have LO3 := Lib.hid (LO.out.trans (HB3.out.mono hzr))
        have hz3 := HB3.out.size
        clear hb3 c0 c1 c2
        generalize M.canB mn s = cn at *
        cases cn with
        | true =>
          have HS := Lib.hid (HN.out (by rw [HPK.out]; try rfl))
          go_wp2_with fail
          go_roundw
          case rel => exact ⟨k + 1, by omega, by omega, by go_num, by rw [HS.out]; exact SO3.out, X3.out, LO3.out⟩
          case measure => simp [intOf]; omega
        | false =>
          have HS := Lib.hid (HY.out (by rw [HPK.out]; try rfl))
          have HNE := Lib.hid (own_ne_box SO3.out X3.out (by decide))
          go_wp2_with (at_builtin; refine wpList_append_own _ rfl _ _ 23 rfl w.heap.size 3 ii0 (.int .i64 0) 1 8 Try.underlying23 hi0 hz0 hzz1 hzz2 rfl (by decide) _ _ _ rfl (SO3.out.alloc _) ⟨w3.heap.size, 0, none⟩ 1 1 [.int .i64 (k : Int)] rfl rfl (cell_one_new _ _ _) (fun x hx => by simp at hx; subst hx; rfl) (by unfold maxLen; omega) (by omega) (by simp; omega) ?_; intro v' w5 hown' hgrow5 hnil5)
          go_roundw
          case rel =>
            refine ⟨k + 1, by omega, by omega, by go_num, ?_, (X3.out.alloc _).grown hgrow5 HNE.out, (LO3.out.alloc (by omega) _).grown hgrow5 (by simp; omega) (own_base SO3.out)⟩
            rw [HS.out, M.encIs_append, List.length_append]
            exact hown'
          case measure => simp [intOf]; omega
      · have hlast := M.reqN_last HVA.out s (k := k) (by omega) hlk
        have HLA := Lib.hid hlast
        clear hlast
        go_wp2_with fail
        go_ret2
        rw [HF.out, HV.out, ← HLA.out]
        exact intsOk_end SO.out LO.out
end C
end Go.Proofs.Ytoiapfdlbkncaaa
namespace Go.Proofs.Ytoiapfdlbkncaaa
open Go.RowKit
namespace M
def endB (m : Mz) (x : Int) : Bool := (x == 0) || (x == m.size - 1)
theorem kept_nums (q : Int → Bool) (p : Nat → Bool) (n : Nat) : kept q (numsTo p n) = numsTo (fun k => p k && !q (k : Int)) n := by
  induction n with
  | zero => rfl
  | succ n ih =>
    cases hp : p n with
    | false =>
      rw [numsTo_no hp, ih, numsTo_no]
      show (p n && !q (n : Int)) = false
      rw [hp]; rfl
    | true =>
      rw [numsTo_yes hp]
      unfold kept at ih ⊢
      rw [List.filter_append, ih]
      cases hq : q (n : Int) with
      | false =>
        rw [numsTo_yes (show (p n && !q (n : Int)) = true by rw [hp, hq]; rfl), List.filter_cons_of_pos (p := fun x => !q x) (by show (!q (n : Int)) = true; rw [hq]; rfl)]
        rfl
      | true =>
        rw [numsTo_no (show (p n && !q (n : Int)) = false by rw [hp, hq]; rfl), List.filter_cons_of_neg (p := fun x => !q x) (by show ¬ (!q (n : Int)) = true; rw [hq]; decide)]
        simp
theorem part_node {m : Mz} {s : Int} (V : Valid m) (h0 : 0 ≤ s ∧ s < 64) {k : Nat} (hk : k < m.size.toNat) : partB false s (fun k => woNodeV m k) (fun k => mzNodeB m k) k = !canB (noNode m k) s := by
  have hb : mzNodeB m k = true := mzNode_yes (of_valid V) (decide_eq_true ⟨by omega, by omega⟩)
  show (mzNodeB m (k : Int) && (winsB (woNodeV m (k : Int)) s == false)) = _
  rw [hb, woNodeV_yes hb, wins_of (noNode_valid V k) h0]
  cases canB (noNode m k) s <;> rfl
theorem parts_node {m : Mz} {s : Int} (h : winsB m s = true) : kept (endB m) (partsV false m s m.size.toNat (fun k => woNodeV m k) (fun k => mzNodeB m k)) = reqNV m s := by
  obtain ⟨V, h0⟩ := ask_yes (wins_yes h).1
  unfold partsV
  rw [if_pos h, kept_nums, show reqNV m s = _ from ifWins_yes h _ _]
  refine numsTo_congr fun i hi => ?_
  rw [part_node V h0 hi]
  unfold reqN endB
  rw [Bool.and_comm]
  congr 1
  rw [Bool.eq_iff_iff]
  simp
end M
namespace C
set_option maxHeartbeats 3200000
set_option maxRecDepth 20000
theorem indexI_nil (w : World) (a : Option Addr) (c : Nat) (g : FuncId) (lb : Array Value) :
    Calls Try.prog 116 #[.slice a 0 c, .func (.func g) #[] lb] w fun e w' => e = .returned (.int .i64 (-1)) ∧ Below w.heap.size w w' := by
  go_enter Try.func116, Try.ntmps116
  go_wp2_with fail
  go_loopw [5, 8] (fun _ i wr => i = .int .i64 0 ∧ Below w.heap.size w wr) (fun _ _ _ => 0)
  case atStart => exact ⟨rfl, Below.refl _ _⟩
  case round =>
    obtain ⟨rfl, hlow⟩ := hrel
    have LO := Lib.hid hlow
    clear hlow
    go_wp2_with fail
    go_ret
    exact ⟨rfl, LO.out⟩
theorem deleteFI_nil (w : World) (a : Option Addr) (c : Nat) (g : FuncId) (lb : Array Value) :
    Calls Try.prog 87 #[.slice a 0 c, .func (.func g) #[] lb] w fun e w' => e = .returned (.slice a 0 c) ∧ Below w.heap.size w w' := by
  go_enter Try.func87, Try.ntmps87
  go_wp2_with fail
  refine (indexI_nil w a c g lb).mono ?_
  rintro e w1 ⟨rfl, hb1⟩
  have HB1 := Lib.hid hb1
  clear hb1
  go_wp2_with fail
  go_ret
  exact ⟨rfl, HB1.out⟩
theorem reqN1_any (B : Nat) (m : M.Mz) (a b : Option Addr) (c d : Nat) (x : Int) (w : World) (hx : Box3 w B 29 (.int .i64 m.size) (.slice a m.doors.length c) (.slice b m.keys.length d)) (h1 : 1 ≤ m.size) (h2 : m.size ≤ 12) :
    Calls Try.prog 86 (#[.int .i64 x] ++ #[.pointer (some ⟨B, 0, none⟩)]) w fun e w' => e = .returned (.bool (M.endB m x)) ∧ Below w.heap.size w w' := by
  show Calls Try.prog 86 #[.int .i64 x, .pointer (some ⟨B, 0, none⟩)] w _
  obtain ⟨c0, c1, c2⟩ := hx.cells
  have hbl := hx.lt
  by_cases hx0 : x = 0
  · have hf : Hid (M.endB m x = true) := Lib.hid (by unfold M.endB; simp [hx0])
    subst hx0
    go_enter Try.func86, Try.ntmps86
    go_wp2_with fail
    go_ret
    exact ⟨by rw [hf.out]; rfl, Below.refl _ _⟩
  · have hf : Hid (M.endB m x = (x == m.size - 1)) := Lib.hid (by unfold M.endB; simp [hx0])
    have hb0 : (x == 0) = false := by simpa using hx0
    clear hx0
    go_enter Try.func86, Try.ntmps86
    go_wp2_with fail
    refine (goal_any w m a b c d h1 h2).mono ?_
    rintro e w1 ⟨rfl, hb1⟩
    have HB1 := Lib.hid hb1
    clear hb1
    go_wp2_with fail
    go_ret
    exact ⟨by rw [hf.out]; rfl, HB1.out⟩
theorem implReqN_lw (w : World) (lo hi : Nat) (m : M.Mz) (a b : Option Addr) (c d : Nat) (h : MzIn lo hi w m a c b d) (hz : hi ≤ w.heap.size) (_h1 : m.doors.length ≤ 1048576) (_h2 : m.keys.length ≤ 1048576) (s : Int) (_s1 : -9223372036854775808 ≤ s) (_s2 : s ≤ 9223372036854775807) :
    Calls Try.prog 37 #[.agg #[.int .i64 m.size, .slice a m.doors.length c, .slice b m.keys.length d], .int .i64 s] w (IntsOkPost w (M.reqNV m s) (M.winsB m s)) := by
  have H := Lib.hid h
  clear h
  go_enter Try.func37, Try.ntmps37
  go_wp2_with fail
  refine named ?_
  intro W hW
  have hb : Below w.heap.size w W := by rw [hW]; exact below_alloc _ _
  have x1 : Box3 W w.heap.size 29 (.int .i64 m.size) (.slice a m.doors.length c) (.slice b m.keys.length d) := by rw [hW]; exact Box3.new _ _ _ _ rfl
  clear hW
  have hzw := hb.size
  have hxl := x1.lt
  have X0 := Lib.hid x1
  have HB0 := Lib.hid hb
  cases q0 : M.winsB m s with
  | false =>
    have HF := Lib.hid q0
    have HV := Lib.hid (show M.reqNV m s = _ from M.ifWins_no q0 _ _)
    have CP := parts_no 46 false m.size W lo hi m a b c d (H.out.below hb hz) (by omega) _h1 _h2 s _s1 _s2 q0
    clear q0
    refine CP.mono ?_
    rintro e w1 ⟨ra, rc, rfl, ho, ho1, ho2, hb1⟩
    have HB1 := Lib.hid (hb.trans (hb1.mono hzw))
    have hz1 := hb1.size
    clear CP hb hb1 x1 ho
    go_wp2_with fail
    refine (deleteFI_nil w1 ra rc _ _).mono ?_
    rintro e w2 ⟨rfl, hb2⟩
    have HB2 := Lib.hid (HB1.out.trans (hb2.mono HB1.out.size))
    clear hb2
    go_wp2_with fail
    go_ret2
    rw [HV.out, HF.out]
    exact ⟨_, _, rfl, OwnAt.nil _ _ _ _ _, by simp, ho2, HB2.out⟩
  | true =>
    have HF := Lib.hid q0
    have HVA := Lib.hid (M.ask_yes (M.wins_yes q0).1).1
    have v1 := HVA.out.size1
    have v12 := HVA.out.size12
    have HPN := Lib.hid (M.parts_node q0)
    have hsn : m.size = ((m.size.toNat : Nat) : Int) := by omega
    have CP := parts_any 46 (enters_of Try.func46 (by kernel_rfl) rfl) false m.size.toNat (fun k => M.woNodeV m k) (fun k => M.mzNodeB m k) (fun k => M.woNodeV_len m k) (by omega) W lo hi m a b c d (H.out.below hb hz) (by omega) _h1 _h2 s _s1 _s2 (fun W' k _ hq => implWoNode_lw W' lo hi m a b c d (H.out.below (HB0.out.trans (hq.mono hzw)) hz) (by have := hq.size; omega) _h1 _h2 (k : Int) (by omega) (by omega))
    have hlen : (M.partsV false m s m.size.toNat (fun k => M.woNodeV m k) (fun k => M.mzNodeB m k)).length ≤ 12 := by
      unfold M.partsV
      rw [if_pos q0]
      have := M.numsTo_len (M.partB false s (fun k => M.woNodeV m k) (fun k => M.mzNodeB m k)) m.size.toNat
      omega
    rw [← hsn, q0] at CP
    clear q0 hsn
    generalize M.partsV false m s m.size.toNat (fun k => M.woNodeV m k) (fun k => M.mzNodeB m k) = L at *
    refine CP.mono ?_
    rintro e w1 ⟨ra, rc, rfl, ho, ho1, ho2, hb1⟩
    have HB1 := Lib.hid (hb.trans (hb1.mono hzw))
    have hz1 := hb1.size
    have x2 := X0.out.below hb1
    have CD := deleteFI_any 86 #[.pointer (some ⟨w.heap.size, 0, none⟩)] (M.endB m) (enters_of Try.func86 (by kernel_rfl) rfl) w1 W.heap.size w1.heap.size ra rc L
      (fun W' z ht => reqN1_any w.heap.size m a b c d z W' (x2.turned ht (.inl hxl)) v1 v12) ho (Nat.le_refl _) (by omega) ho1 ho2
    rw [HPN.out] at CD
    clear CP hb hb1 x1 ho x2
    go_wp2_with fail
    refine CD.mono ?_
    rintro e w2 ⟨rfl, ho2', ht2⟩
    have hz2 := ht2.size
    have HO2 := Lib.hid ho2'
    have HB2 := Lib.hid (Below.thenTurned HB1.out ht2 (by omega) HB1.out.size)
    have hlr : (M.reqNV m s).length ≤ rc := by rw [← HPN.out]; exact Nat.le_trans (List.length_filter_le _ _) ho1
    clear ho2' ht2 CD
    go_wp2_with fail
    go_ret2
    rw [HF.out]
    exact ⟨_, _, rfl, HO2.out.mono (by omega) hz2, hlr, ho2, HB2.out⟩
end C
end Go.Proofs.Ytoiapfdlbkncaaa
