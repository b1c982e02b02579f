/-
  CONTRACT of impl.AllOpened: whether some opening opens all locks; what lay in memory stays. Condition: none.
-/
import Derived.Test.YthgmkkkfhbjhoaaVOpn
import Derived.DeepKeys
namespace Go.Proofs.Ythgmkkkfhbjhoaa
open Go.RowKit
namespace M
/-- the doors below k -/
def upO (k : Nat) : Op := fun j => decide (j < k)
end M
namespace C
set_option maxHeartbeats 6400000
set_option maxRecDepth 40000
def eqO (o o' : M.Op) : Bool := (List.range 30).all fun k => o k == o' k
theorem eqO_iff {o o' : M.Op} : eqO o o' = true ↔ encO o = encO o' := by
  unfold eqO
  rw [List.all_eq_true]
  constructor
  · intro h
    exact encO_ext fun k hk => by have := h k (List.mem_range.2 hk); rwa [beq_iff_eq] at this
  · intro h k hk
    rw [beq_iff_eq]
    exact encO_inj h (List.mem_range.1 hk)
theorem set_turned7 (w : World) (g k : Nat) (u : Value) : Turned g (g + 1) w (w.setCell ⟨g, k, none⟩ u) :=
  ⟨rfl, rfl, rfl, by simp [World.setCell], fun b _ hb => Below.heap_setCell w ⟨g, k, none⟩ u b (show b ≠ g by omega)⟩
theorem eqlO_run (w : World) (o o' : M.Op) : (binOp .eql 52 (.agg (encO o).toArray) (.agg (encO o').toArray)).run Try.prog w = .ok (.bool (eqO o o')) w := by
  obtain ⟨lx, hx⟩ := keyO_ex o
  obtain ⟨ly, hy⟩ := keyO_ex o'
  obtain ⟨r, hr, hiff⟩ := run_equal_deep (P := Try.prog) w (m := 2) (by omega) (arrO.at 0) arrO.wide hx hy
  have hiff2 : r = true ↔ encO o = encO o' := by
    rw [hiff]
    constructor
    · rintro rfl
      exact agg_inj (lawO.inj hx hy)
    · intro e
      rw [e, hy] at hx
      injection hx with hx
      exact hx.symm
  have hrd : r = eqO o o' := by
    rw [Bool.eq_iff_iff, hiff2, eqO_iff]
  rw [← hrd]
  simp only [binOp]
  simp only [Sem.run_bind, hr, Result.andThen_ok]
  rfl
theorem wpList_eqlO {ops : Array Oper} {rest : List Oper} {op : Oper} {a : Act} {w : World} {Q : Exit → Act → World → Prop} (hg : op.guard = none) (x y : Operand) (t' : TypeId) (ho : op.op = .binOp .eql 52 x y t') (o o' : M.Op) (hx : a.eval x = .agg (encO o).toArray) (hy : a.eval y = .agg (encO o').toArray)
    (k : wpList Try.prog ops Q rest (a.put op.dst (.bool (eqO o o'))) w) : wpList Try.prog ops Q (op :: rest) a w :=
  wpList_plain hg fun K hK => by
    unfold Oper.wp execOp
    have hgd := run_eqGuard_agg (P := Try.prog) w .eql 52 x y (encO o).toArray (encO o').toArray (by kernel_rfl)
    simp only [ho, hx, hy, Sem.run_bind, hgd, eqlO_run, Result.andThen_ok]
    exact hK _ _ k
theorem eqO_any (w : World) (g : Nat) (o o' : M.Op) (hB : BoxO w g o') : Calls Try.prog 84 #[.agg (encO o).toArray, .pointer (some ⟨g, 0, none⟩)] w (BoolPost w (eqO o o')) := by
  have hgl := hB.lt
  have HB := Lib.hid hB
  clear hB
  go_enter Try.func84, Try.ntmps84
  go_upto_region 1 with fail
  refine wp_named ?_
  intro W hW
  have O1 := Lib.hid (show BoxO W w.heap.size o by rw [hW]; exact BoxO.new _ _)
  have O2 := Lib.hid (show BoxO W g o' by rw [hW]; exact HB.out.alloc _)
  have BL := Lib.hid (show Below w.heap.size w W by rw [hW]; exact below_alloc _ _)
  clear hW
  generalize hd : eqO o o' = dd
  have HD := Lib.hid hd
  clear hd
  go_wp2_with (first | (refine wpList_loadO rfl _ rfl _ rfl _ O1.out ?_) | (refine wpList_loadO rfl _ rfl _ rfl _ O2.out ?_) | (refine wpList_eqlO rfl _ _ _ rfl o o' rfl rfl ?_; rw [HD.out]))
  go_ret
  exact ⟨by rw [HD.out]; rfl, BL.out⟩
theorem built0 : Try.prog.built 52 [] = some (encO noO).toArray := by kernel_rfl
theorem wpList_build0 {ops : Array Oper} {rest : List Oper} {op : Oper} {a : Act} {w : World} {Q : Exit → Act → World → Prop} (hg : op.guard = none) (ho : op.op = .build 52 #[])
    (k : wpList Try.prog ops Q rest (a.put op.dst (.agg (encO noO).toArray)) w) : wpList Try.prog ops Q (op :: rest) a w :=
  wpList_plain hg fun K hK => by
    unfold Oper.wp execOp
    have hb := run_build (P := Try.prog) w 52 #[] _ built0
    simp only [ho, List.map_toArray, List.map_nil, Sem.run_bind, hb, Result.andThen_ok]
    exact hK _ _ k
theorem all_eq {m : M.Mz} (V : M.Valid m) {x : List Int} (hx : M.isO m x = true) : M.allB m x = eqO (M.behO m x) (M.upO m.doors.length) := by
  have v30 := V.few
  rw [Bool.eq_iff_iff, M.all_beh (M.isO_opn V _ x rfl hx).lock, eqO_iff]
  constructor
  · intro h
    exact encO_ext fun k _ => h k
  · intro h k
    rcases Nat.lt_or_ge k 30 with hk | hk
    · exact encO_inj h hk
    · rw [M.beh_far V hx hk, decide_eq_false (by omega)]
theorem implAll_lw (w : World) (lo hi : Nat) (m : M.Mz) (a b : Option Addr) (c d : Nat) (h : MzIn lo hi w m a c b d) (hz : hi ≤ w.heap.size) (_h1 : m.doors.length ≤ 1048576) (_h2 : m.keys.length ≤ 1048576) :
    Calls Try.prog 49 #[.agg #[.int .i64 m.size, .slice a m.doors.length c, .slice b m.keys.length d]] w (BoolOkPost w (M.allV m) (M.goodB m)) := by
  have H := Lib.hid h
  have HH1 := Lib.hid _h1
  have HH2 := Lib.hid _h2
  clear h
  go_enter Try.func49, Try.ntmps49
  go_upto_region 1 with fail
  refine wp_named ?_
  intro W hW
  have X1 := Lib.hid (show Box3 W w.heap.size 29 (.int .i64 m.size) (.slice a m.doors.length c) (.slice b m.keys.length d) by rw [hW]; exact Box3.new _ _ _ _ rfl)
  have HB := Lib.hid (show Below w.heap.size w W by rw [hW]; exact below_alloc _ _)
  clear hW
  have hzw := HB.out.size
  have hwl := X1.out.lt
  obtain ⟨c0, c1, c2⟩ := X1.out.cells
  go_wp2_with fail
  refine (isLock_any W lo hi m a b c d (H.out.below HB.out hz) (by omega) HH1.out HH2.out).mono ?_
  rintro e w1 ⟨rfl, hb1⟩
  have X2 := Lib.hid (X1.out.below hb1)
  have B2 := Lib.hid (HB.out.trans (hb1.mono hzw))
  have hz1 := hb1.size
  clear hb1 c0 c1 c2
  have HSV : Hid (M.allV m = M.foB m (M.allB m)) := Lib.hid rfl
  cases q0 : M.goodB m with
  | false =>
    have HG := Lib.hid q0
    have HG2 := Lib.hid (M.fo_no (M.allB m) q0).2
    clear q0
    go_wp2_with fail
    go_ret2
    exact ⟨by rw [HSV.out, HG2.out, HG.out]; rfl, B2.out⟩
  | true =>
    have HG := Lib.hid q0
    have HV := Lib.hid (M.valid_of (M.good_maze q0))
    have v30 := HV.out.few
    clear q0
    go_upto_region 4 with (first | (refine wpList_build0 rfl rfl ?_) | (refine wpList_storeO rfl _ _ rfl _ rfl _ rfl _ (BoxO.zero _) ?_; intro W3 hO3 hT3))
    refine wp_named ?_
    intro W4 hW4
    obtain rfl : W4 = W3 := hW4
    have hb4 : Below w1.heap.size w1 W4 := Below.thenTurned (below_alloc _ _) hT3 (by omega) (by simp)
    have O4 := Lib.hid (show BoxO W4 w1.heap.size (M.upO 0) by
      have h0 := hO3
      unfold BoxO at h0 ⊢
      rw [show encO (M.upO 0) = encO noO from encO_ext fun k _ => by simp [M.upO, noO]]
      exact h0)
    have X4 := Lib.hid (X2.out.below hb4)
    have B4 := Lib.hid (B2.out.trans (hb4.mono (by omega)))
    have hz4 := hb4.size
    have hgl := O4.out.lt
    obtain ⟨g4, hg4⟩ : ∃ g4, g4 = w1.heap.size := ⟨_, rfl⟩
    have hg4w : w.heap.size < g4 := by omega
    rw [← hg4] at O4 hgl
    rw [← hg4]
    clear hb4 hO3 hT3 hg4
    obtain ⟨c0, c1, c2⟩ := X4.out.cells
    go_wp2_with fail
    go_loopw [5, 15] (fun _ v wr => ∃ (k : Nat), k ≤ m.doors.length ∧ v = .int .i64 (k : Int) ∧ BoxO wr g4 (M.upO k) ∧ Turned g4 (g4 + 1) W4 wr) (fun _ v _ => m.doors.length - (intOf v).toNat)
    case atStart => exact ⟨0, Nat.zero_le _, rfl, O4.out, Turned.of_below (Below.refl _ _) _ _⟩
    case round =>
      obtain ⟨k, hkk, rfl, ho, ht⟩ := hrel
      have O5 := Lib.hid ho
      have T5 := Lib.hid ht
      have hzr := ht.size
      have X5 := Lib.hid (X4.out.turned ht (.inl (by omega)))
      have B5 := Lib.hid (Below.thenTurned B4.out ht (by omega) (by omega))
      clear ho ht c0 c1 c2
      by_cases hkl : k < m.doors.length
      · have k1 := O5.out.cell (k := k) (by omega)
        have k2 := O5.out.free k
        have hk30 : k < 30 := by omega
        go_wp2_with fail
        go_roundw
        case rel =>
          refine ⟨k + 1, by omega, by go_num, ?_, T5.out.trans (set_turned7 _ _ _ _)⟩
          have h1 := O5.out.set_ hk30 true
          unfold BoxO at h1 ⊢
          rw [show encO (M.upO (k + 1)) = encO (updO (M.upO k) k true) from encO_ext fun j _ => by
            unfold updO M.upO
            by_cases e : j = k
            · subst e; simp
            · rw [if_neg e, Bool.eq_iff_iff, decide_eq_true_iff, decide_eq_true_iff]; omega]
          exact h1
        case measure => simp [intOf]; omega
      · obtain rfl : k = m.doors.length := by omega
        obtain ⟨c0, c1, c2⟩ := X5.out.cells
        have hfo : Calls Try.prog 72 #[.agg #[.int .i64 m.size, .slice a m.doors.length c, .slice b m.keys.length d], .func (.func 84) #[] #[.pointer (some ⟨g4, 0, none⟩)]] wr (IntsOkPost wr (M.foV m (M.allB m)) (M.foB m (M.allB m))) := (firstOpening_any wr lo hi m a b c d (H.out.below B5.out hz) (by omega) HH1.out HH2.out 84 (enters_of Try.func84 (by kernel_rfl) rfl) #[] #[.pointer (some ⟨g4, 0, none⟩)] (M.allB m) (fun _ W x hx hb => by
          rw [all_eq HV.out hx]
          exact eqO_any W g4 (M.behO m x) _ (O5.out.below hb)))
        have HFO := Lib.hid hfo
        clear hfo
        go_wp2_with fail
        refine HFO.out.mono ?_
        rintro e w5 ⟨ra, rc, rfl, hr, hr1, hr2, hb5⟩
        have B6 := Lib.hid (B5.out.trans (hb5.mono (by omega)))
        clear hr hb5 c0 c1 c2
        go_wp2_with fail
        go_ret2
        exact ⟨by rw [HSV.out, HG.out]; rfl, B6.out⟩
end C
end Go.Proofs.Ythgmkkkfhbjhoaa
