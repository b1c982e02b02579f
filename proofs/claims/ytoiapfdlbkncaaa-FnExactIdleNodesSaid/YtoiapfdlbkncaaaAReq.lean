/-
  CONTRACT of impl.partsWhere: the numbers of those parts without which a maze can still be won, or cannot; what lay in memory stays. Condition: the function value answers with mazes of memory of its own.
  MATHEMATICS of required, idle and helpful parts, own to these proofs. No condition.
  CONTRACTS of the model's RequiredColours, HelpfulColours, IdleNodes, and of l3Can; what lay in memory stays. No condition but that the maze reads so.
  CONTRACTS of the program's RequiredColours, IdleNodes, HelpfulColours; what lay in memory stays. No condition but that the maze reads so.
-/
import Derived.Test.YtoiapfdlbkncaaaAP3
import Derived.Test.YtoiapfdlbkncaaaAWo
import Derived.Deep.RegionWith
namespace Go.Proofs.Ytoiapfdlbkncaaa
open Go.RowKit
namespace M
noncomputable def winsB (m : Mz) (s : Int) : Bool := askB m s && canB m s
/-- the numbers below k for which p holds -/
def numsTo (p : Nat → Bool) (k : Nat) : List Int := ((List.range k).filter p).map fun i : Nat => (i : Int)
theorem numsTo_yes {p : Nat → Bool} {k : Nat} (h : p k = true) : numsTo p (k + 1) = numsTo p k ++ [(k : Int)] := by
  unfold numsTo; rw [List.range_succ, List.filter_append, List.filter_cons_of_pos h]; simp
theorem numsTo_no {p : Nat → Bool} {k : Nat} (h : p k = false) : numsTo p (k + 1) = numsTo p k := by
  unfold numsTo; rw [List.range_succ, List.filter_append, List.filter_cons_of_neg (by rw [h]; decide)]; simp
theorem numsTo_len (p : Nat → Bool) (k : Nat) : (numsTo p k).length ≤ k := by
  unfold numsTo
  rw [List.length_map]
  have := List.length_filter_le p (List.range k)
  simpa using this
theorem numsTo_congr {p q : Nat → Bool} {k : Nat} (h : ∀ i, i < k → p i = q i) : numsTo p k = numsTo q k := by
  unfold numsTo
  congr 1
  exact List.filter_congr fun i hi => h i (List.mem_range.1 hi)
theorem mem_numsTo {p : Nat → Bool} {k : Nat} {x : Int} : x ∈ numsTo p k ↔ ∃ i : Nat, x = i ∧ i < k ∧ p i = true := by
  unfold numsTo
  rw [List.mem_map]
  constructor
  · rintro ⟨i, hi, rfl⟩
    rw [List.mem_filter, List.mem_range] at hi
    exact ⟨i, rfl, hi.1, hi.2⟩
  · rintro ⟨i, rfl, h1, h2⟩
    exact ⟨i, by rw [List.mem_filter, List.mem_range]; exact ⟨h1, h2⟩, rfl⟩
/-- whether a part counts -/
noncomputable def partB (still : Bool) (s : Int) (V : Nat → Mz) (B : Nat → Bool) (k : Nat) : Bool := B k && (winsB (V k) s == still)
noncomputable def partsV (still : Bool) (m : Mz) (s : Int) (n : Nat) (V : Nat → Mz) (B : Nat → Bool) : List Int := if winsB m s then numsTo (partB still s V B) n else []
end M
namespace C
set_option maxHeartbeats 3200000
set_option maxRecDepth 20000
def PartOk (F : FuncId) (n : Nat) (V : Nat → M.Mz) (B : Nat → Bool) (m : M.Mz) (a b : Option Addr) (c d : Nat) (w : World) : Prop :=
  ∀ W (k : Nat), k < n → Below w.heap.size w W → Calls Try.prog F (#[.agg #[.int .i64 m.size, .slice a m.doors.length c, .slice b m.keys.length d], .int .i64 (k : Int)] ++ #[]) W (MzOkPost W (V k) (B k))
theorem parts_no (F : FuncId) (still : Bool) (n : Int) (w : World) (lo hi : Nat) (m : M.Mz) (a b : Option Addr) (c d : Nat) (h : MzIn lo hi w m a c b d) (hz : hi ≤ w.heap.size) (h1 : m.doors.length ≤ 1048576) (h2 : m.keys.length ≤ 1048576) (s : Int) (s1 : -9223372036854775808 ≤ s) (s2 : s ≤ 9223372036854775807) (hq : M.winsB m s = false) :
    Calls Try.prog 83 #[.bool still, .agg #[.int .i64 m.size, .slice a m.doors.length c, .slice b m.keys.length d], .int .i64 s, .int .i64 n, .func (.func F) #[] #[]] w (IntsOkPost w [] false) := by
  have H := Lib.hid h
  clear h
  go_enter Try.func83, Try.ntmps83
  go_wp2_with fail
  refine named ?_
  intro W hW
  have hb : Below w.heap.size w W := by rw [hW]; exact below_alloc _ _
  have x1 : Box3 W w.heap.size 29 (.int .i64 m.size) (.slice a m.doors.length c) (.slice b m.keys.length d) := by rw [hW]; exact Box3.new _ _ _ _ rfl
  clear hW
  have hzw := hb.size
  have hcw := canBeWon_any W lo hi m a b c d (H.out.below hb hz) (by omega) h1 h2 s s1 s2
  rw [show (M.askB m s && M.canB m s) = M.winsB m s from rfl, hq] at hcw
  refine hcw.mono ?_
  rintro e w1 ⟨rfl, hb1⟩
  have X1 := Lib.hid (x1.below hb1)
  have HB1 := Lib.hid (hb.trans (hb1.mono hzw))
  have hz1 := hb1.size
  have hbl := X1.out.lt
  clear hb hb1 x1 hcw
  go_wp2_with fail
  go_ret2
  exact intsOk_end (l := []) (ownsRow_empty _ _ _ _ (by omega)) (HB1.out.alloc (by omega) _)
theorem parts_any (F : FuncId) (eF : ∀ args w, (callFunc F args).run Try.prog w = .ok (.enter F args) w) (still : Bool) (n : Nat) (V : Nat → M.Mz) (B : Nat → Bool) (hV : ∀ k, (V k).doors.length ≤ 1048576 ∧ (V k).keys.length ≤ 1048576) (hn : n ≤ 1000)
    (w : World) (lo hi : Nat) (m : M.Mz) (a b : Option Addr) (c d : Nat) (h : MzIn lo hi w m a c b d) (hz : hi ≤ w.heap.size) (h1 : m.doors.length ≤ 1048576) (h2 : m.keys.length ≤ 1048576) (s : Int) (s1 : -9223372036854775808 ≤ s) (s2 : s ≤ 9223372036854775807) (hp : PartOk F n V B m a b c d w) :
    Calls Try.prog 83 #[.bool still, .agg #[.int .i64 m.size, .slice a m.doors.length c, .slice b m.keys.length d], .int .i64 s, .int .i64 (n : Int), .func (.func F) #[] #[]] w (IntsOkPost w (M.partsV still m s n V B) (M.winsB m s)) := by
  obtain ⟨ii0, hi0, hz0, hzz1, hz2⟩ := info_parts infoI
  have H := Lib.hid h
  have HP := Lib.hid hp
  have HVL := Lib.hid hV
  clear h hp hV
  go_enter Try.func83, Try.ntmps83
  go_wp2_with fail
  refine named ?_
  intro W hW
  have hb : Below w.heap.size w W := by rw [hW]; exact below_alloc _ _
  have x1 : Box3 W w.heap.size 29 (.int .i64 m.size) (.slice a m.doors.length c) (.slice b m.keys.length d) := by rw [hW]; exact Box3.new _ _ _ _ rfl
  clear hW
  have hzw := hb.size
  have hcw := canBeWon_any W lo hi m a b c d (H.out.below hb hz) (by omega) h1 h2 s s1 s2
  rw [show (M.askB m s && M.canB m s) = M.winsB m s from rfl] at hcw
  refine hcw.mono ?_
  rintro e w1 ⟨rfl, hb1⟩
  have X1 := Lib.hid (x1.below hb1)
  have HB1 := Lib.hid (hb.trans (hb1.mono hzw))
  have hz1 := hb1.size
  have hbl := X1.out.lt
  clear hb hb1 x1 hcw
  cases q0 : M.winsB m s with
  | false =>
    have HF := Lib.hid q0
    have HV : Hid (M.partsV still m s n V B = []) := Lib.hid (by unfold M.partsV; rw [q0]; rfl)
    clear q0
    go_wp2_with fail
    go_ret2
    rw [HF.out, HV.out]
    exact intsOk_end (l := []) (ownsRow_empty _ _ _ _ (by omega)) (HB1.out.alloc (by omega) _)
  | true =>
    have HF := Lib.hid q0
    have HV : Hid (M.partsV still m s n V B = M.numsTo (M.partB still s V B) n) := Lib.hid (by unfold M.partsV; rw [if_pos q0])
    clear q0
    go_wp2_with fail
    refine wp_named ?_
    intro W2 hW2
    have hb2 : Below w1.heap.size w1 W2 := by rw [hW2]; exact below_alloc _ _
    have o2 : W2.ownsRow w.heap.size 3 1 (.slice (some ⟨w1.heap.size, 0, none⟩) 0 0) 0 (M.encIs (M.numsTo (M.partB still s V B) 0)) := by rw [hW2]; exact ownsRow_empty _ _ _ _ (by omega)
    have ST := Lib.hid (show W2.ownsRow w.heap.size 3 1 (.slice (some ⟨w1.heap.size, 0, none⟩) 0 0) (M.numsTo (M.partB still s V B) 0).length (M.encIs (M.numsTo (M.partB still s V B) 0)) ∧ Box3 W2 w.heap.size 29 (.int .i64 m.size) (.slice a m.doors.length c) (.slice b m.keys.length d) ∧ Below w.heap.size w W2 from ⟨o2, X1.out.below hb2, HB1.out.trans (hb2.mono HB1.out.size)⟩)
    clear hW2 hb2 o2
    go_loopw [12, 13, 15, 23] (fun v12 _ _ v23 wr => ∃ (k : Nat), k ≤ n ∧ v23 = .int .i64 k ∧ wr.ownsRow w.heap.size 3 1 v12 (M.numsTo (M.partB still s V B) k).length (M.encIs (M.numsTo (M.partB still s V B) k)) ∧ Box3 wr w.heap.size 29 (.int .i64 m.size) (.slice a m.doors.length c) (.slice b m.keys.length d) ∧ Below w.heap.size w wr) (fun _ _ _ v23 _ => n - (intOf v23).toNat)
    case atStart => exact ⟨0, Nat.zero_le _, rfl, ST.out.1, ST.out.2.1, ST.out.2.2⟩
    case round =>
      obtain ⟨k, hk, rfl, hso, hx, hlow⟩ := hrel
      obtain ⟨la, lc, hv, hl1, hl2, _⟩ := own_slice hso
      subst hv
      have SO := Lib.hid hso
      have X7 := Lib.hid hx
      have LO := Lib.hid hlow
      have hzr := hlow.size
      have hxl := hx.lt
      have hll := M.numsTo_len (M.partB still s V B) k
      clear hso hx hlow
      by_cases hkl : k < n
      · obtain ⟨c0, c1, c2⟩ := X7.out.cells
        have HY := Lib.hid (fun (h : M.partB still s V B k = true) => M.numsTo_yes h)
        have HN := Lib.hid (fun (h : M.partB still s V B k = false) => M.numsTo_no h)
        have hpb : M.partB still s V B k = (B k && (M.winsB (V k) s == still)) := rfl
        have HPB := Lib.hid hpb
        have CF := Lib.hid (HP.out wr k hkl LO.out)
        obtain ⟨q1, q2⟩ := HVL.out k
        clear hpb
        generalize M.partB still s V B k = pb at *
        generalize V k = vm at *
        generalize B k = vb at *
        cases vb with
        | false =>
          have hpf : pb = false := by rw [HPB.out]; rfl
          have HNO := Lib.hid (HN.out hpf)
          clear hpf
          go_wp2_with (go_at_fn F; refine (CF.out).mono ?_; rintro e w2 ⟨ca, cc, cb, cd, rfl, ho, hb2⟩)
          have hbx := hb2.trans ((below_alloc w2 (.cells #[.int .i64 vm.size, .slice ca vm.doors.length cc, .slice cb vm.keys.length cd] 29)).mono hb2.size)
          refine ⟨⟨k + 1, by omega, by go_num, ?_, X7.out.below hbx, LO.out.trans (hbx.mono hzr)⟩, by simp [intOf]; omega⟩
          rw [HNO.out]
          exact own_below SO.out hbx
        | true =>
          go_wp2_with (go_at_fn F; refine (CF.out).mono ?_; rintro e w2 ⟨ca, cc, cb, cd, rfl, ho, hb2⟩)
          have hbx := hb2.trans ((below_alloc w2 (.cells #[.int .i64 vm.size, .slice ca vm.doors.length cc, .slice cb vm.keys.length cd] 29)).mono hb2.size)
          have hown := ho.below (below_alloc w2 (.cells #[.int .i64 vm.size, .slice ca vm.doors.length cc, .slice cb vm.keys.length cd] 29)) (Nat.le_refl _)
          have hcw := canBeWon_any _ _ _ vm ca cb cc cd hown.mz (by simp) q1 q2 s s1 s2
          rw [show (M.askB vm s && M.canB vm s) = M.winsB vm s from rfl] at hcw
          refine hcw.mono ?_
          rintro e w4 ⟨rfl, hb4⟩
          have hb24 := hbx.trans (hb4.mono hbx.size)
          have SO4 := Lib.hid (own_below SO.out hb24)
          have X4 := Lib.hid (X7.out.below hb24)
          have LO4 := Lib.hid (LO.out.trans (hb24.mono hzr))
          have hz4 := hb24.size
          clear hcw hb4 hb24 hown ho hb2 hbx c0 c1 c2
          have hpe : pb = (M.winsB vm s == still) := by rw [HPB.out, Bool.true_and]
          generalize M.winsB vm s = wb at *
          cases hq : (wb == still) with
          | false =>
            have HNO := Lib.hid (HN.out (by rw [hpe, hq]))
            have hq2 : ¬ wb = still := by simpa using hq
            clear hpe
            go_wp2_with fail
            go_roundw
            case rel => exact ⟨k + 1, by omega, by go_num, by rw [HNO.out]; exact SO4.out, X4.out, LO4.out⟩
            case measure => simp [intOf]; omega
          | true =>
            have HYE := Lib.hid (HY.out (by rw [hpe, hq]))
            have hq2 : wb = still := by simpa using hq
            have HNE := Lib.hid (own_ne_box SO4.out X4.out (by decide))
            clear hpe
            go_wp2_with (at_builtin; refine wpList_append_own _ rfl _ _ 23 rfl w.heap.size 3 ii0 (.int .i64 0) 1 8 Try.underlying23 hi0 hz0 hzz1 hz2 rfl (by decide) _ _ _ rfl (SO4.out.alloc _) ⟨w4.heap.size, 0, none⟩ 1 1 [.int .i64 (k : Int)] rfl rfl (cell_one_new _ _ _) (fun x hx => by simp at hx; subst hx; rfl) (by unfold maxLen; omega) (by omega) (by simp; omega) ?_; intro v' w3 hown' hgrow3 hnil3)
            go_roundw
            case rel =>
              refine ⟨k + 1, by omega, by go_num, ?_, (X4.out.alloc _).grown hgrow3 HNE.out, (LO4.out.alloc (by omega) _).grown hgrow3 (by simp; omega) (own_base SO4.out)⟩
              rw [HYE.out, M.encIs_append, List.length_append]
              exact hown'
            case measure => simp [intOf]; omega
      · obtain rfl : k = n := by omega
        have HFI := SO
        go_wp2_with fail
        go_ret2
        rw [HF.out, HV.out]
        exact intsOk_end SO.out LO.out
end C
end Go.Proofs.Ytoiapfdlbkncaaa
namespace Go.Proofs.Ytoiapfdlbkncaaa
open Go.RowKit
namespace M
theorem setI_append (l : List Int) (x : Int) : setI (l ++ [x]) = bits .or .i64 (setI l) (bitI x) := by unfold setI; rw [List.foldl_append]; rfl
theorem wins_yes {m : Mz} {s : Int} (h : winsB m s = true) : askB m s = true ∧ canB m s = true := by unfold winsB at h; rwa [Bool.and_eq_true] at h
theorem wins_of {m : Mz} {s : Int} (V : Valid m) (h0 : 0 ≤ s ∧ s < 64) : winsB m s = canB m s := by
  unfold winsB askB
  rw [of_valid V, show setB s = true from decide_eq_true h0]
  rfl
theorem cols_nums (p : Nat → Bool) : colsB (numsTo p 6) = true := by
  unfold colsB
  rw [List.all_eq_true]
  intro x hx
  obtain ⟨i, rfl, h, _⟩ := mem_numsTo.1 hx
  exact decide_eq_true ⟨by omega, by omega⟩
def ifWins {α : Type} (b : Bool) (x d : α) : α := if b then x else d
theorem ifWins_yes {α : Type} {b : Bool} (h : b = true) (x d : α) : ifWins b x d = x := by unfold ifWins; rw [h]; rfl
theorem ifWins_no {α : Type} {b : Bool} (h : b = false) (x d : α) : ifWins b x d = d := by unfold ifWins; rw [h]; rfl
-- colours
noncomputable def reqC (m : Mz) (s : Int) (k : Nat) : Bool := !canB (noSet m (colV k)) s
noncomputable def reqCV (m : Mz) (s : Int) : Int := ifWins (winsB m s) (setI (numsTo (reqC m s) 6)) 0
noncomputable def helpC (m : Mz) (s : Int) (k : Nat) : Bool := canB m (bits .or .i64 s (colV k))
noncomputable def helpB (m : Mz) (s : Int) : Bool := askB m s && !canB m s
noncomputable def helpV (m : Mz) (s : Int) : Int := ifWins (helpB m s) (setI (numsTo (helpC m s) 6)) 0
theorem part_reqC {m : Mz} {s : Int} (V : Valid m) (h0 : 0 ≤ s ∧ s < 64) {k : Nat} (hk : k < 6) : partB false s (fun k => woColV m k) (fun k => woColB m k) k = reqC m s k := by
  have hb : woColB m k = true := by unfold woColB; rw [of_valid V, show colB k = true from decide_eq_true ⟨by omega, by omega⟩]; rfl
  obtain ⟨⟨c0, c1⟩, _⟩ := col_facts (x := (k : Int)) (by omega) (by omega)
  show (woColB m (k : Int) && (winsB (woColV m (k : Int)) s == false)) = !canB (noSet m (colV k)) s
  rw [hb, woColV_yes hb, wins_of (noSet_valid V c0 c1) h0]
  cases canB (noSet m (colV k)) s <;> rfl
-- keys
noncomputable def idleN (m : Mz) (s : Int) (k : Nat) : Bool := canB (noKeys m k) s
noncomputable def idleV (m : Mz) (s : Int) : List Int := ifWins (winsB m s) (numsTo (idleN m s) m.size.toNat) []
theorem idleV_len (m : Mz) (s : Int) : (idleV m s).length ≤ 1048576 := by
  cases h : winsB m s with
  | false => rw [show idleV m s = _ from ifWins_no h _ _]; simp
  | true =>
    rw [show idleV m s = _ from ifWins_yes h _ _]
    have := numsTo_len (idleN m s) m.size.toNat
    have := (ask_yes (wins_yes h).1).1.size12
    omega
theorem part_idle {m : Mz} {s : Int} (V : Valid m) (h0 : 0 ≤ s ∧ s < 64) {k : Nat} (hk : k < m.size.toNat) : partB true s (fun k => putV m k 0) (fun k => putB m k 0) k = idleN m s k := by
  have hb : putB m k 0 = true := by
    rw [putB0]
    exact mzNode_yes (of_valid V) (decide_eq_true ⟨by omega, by omega⟩)
  show (putB m (k : Int) 0 && (winsB (putV m (k : Int) 0) s == true)) = canB (noKeys m k) s
  rw [hb, putV_yes hb]
  have e : (⟨m.size, m.doors, m.keys.set (k : Int).toNat 0⟩ : Mz) = noKeys m k := rfl
  rw [e, wins_of (noKeys_valid V k) h0]
  cases canB (noKeys m k) s <;> rfl
end M
end Go.Proofs.Ytoiapfdlbkncaaa
namespace Go.Proofs.Ytoiapfdlbkncaaa
open Go.RowKit
namespace C
set_option maxHeartbeats 3200000
set_option maxRecDepth 20000
theorem can_any (w : World) (lo hi : Nat) (m : M.Mz) (a b : Option Addr) (c d : Nat) (s : Int) (h : MzIn lo hi w m a c b d) (hz : hi ≤ w.heap.size) :
    Calls Try.prog 81 #[.agg #[.int .i64 m.size, .slice a m.doors.length c, .slice b m.keys.length d], .int .i64 s] w (BoolPost w (M.winsB m s)) := by
  have H := Lib.hid h
  clear h
  go_enter Try.func81, Try.ntmps81
  go_wp2_with fail
  refine named ?_
  intro W hW
  have hb : Below w.heap.size w W := by rw [hW]; exact below_alloc _ _
  have x1 : Box3 W w.heap.size 29 (.int .i64 m.size) (.slice a m.doors.length c) (.slice b m.keys.length d) := by rw [hW]; exact Box3.new _ _ _ _ rfl
  clear hW
  have hzw := hb.size
  refine (ask_any W lo hi m a b c d s (H.out.below hb hz) (by omega)).mono ?_
  rintro e w1 ⟨rfl, hb1⟩
  have X1 := Lib.hid (x1.below hb1)
  have HB1 := Lib.hid (hb.trans (hb1.mono hzw))
  have hz1 := hb1.size
  obtain ⟨c0, c1, c2⟩ := X1.out.cells
  clear hb hb1 x1
  cases q0 : M.askB m s with
  | false =>
    have HF : Hid (M.winsB m s = false) := Lib.hid (by unfold M.winsB; rw [q0]; rfl)
    clear q0
    go_wp2_with fail
    go_ret
    exact ⟨by rw [HF.out]; rfl, HB1.out⟩
  | true =>
    have HF : Hid (M.winsB m s = M.canB m s) := Lib.hid (by unfold M.winsB; rw [q0]; rfl)
    have HVA := Lib.hid (M.ask_yes q0).1
    obtain ⟨_, s0, s64⟩ := M.ask_yes q0
    clear q0
    go_wp2_with fail
    refine (wins_any w1 lo hi m a b c d (H.out.below HB1.out hz) (by omega) HVA.out s s0 s64).mono ?_
    rintro e w2 ⟨rfl, hb2⟩
    have HB2 := Lib.hid (HB1.out.trans (hb2.mono (by omega)))
    clear hb2
    go_wp2_with fail
    go_ret
    exact ⟨by rw [HF.out]; rfl, HB2.out⟩
theorem setS_lt {p : Nat → Bool} {k : Nat} (hk : k < 6) : M.setI (M.numsTo p (k + 1)) = if p k = true then bits .or .i64 (M.setI (M.numsTo p k)) (M.colV k) else M.setI (M.numsTo p k) := by
  cases h : p k with
  | false => rw [M.numsTo_no h]; rfl
  | true => rw [M.numsTo_yes h, M.setI_append, if_pos rfl]; congr 1; exact (M.col_facts (x := (k : Int)) (by omega) (by omega)).2.2.1
theorem specReqC_lw (w : World) (lo hi : Nat) (m : M.Mz) (a b : Option Addr) (c d : Nat) (h : MzIn lo hi w m a c b d) (hz : hi ≤ w.heap.size) (_h1 : m.doors.length ≤ 1048576) (_h2 : m.keys.length ≤ 1048576) (s : Int) (_s1 : -9223372036854775808 ≤ s) (_s2 : s ≤ 9223372036854775807) :
    Calls Try.prog 34 #[.agg #[.int .i64 m.size, .slice a m.doors.length c, .slice b m.keys.length d], .int .i64 s] w (fun e w' => e = .returned (.tuple #[.int .i64 (M.reqCV m s), .bool (M.winsB m s)]) ∧ Below w.heap.size w w') := by
  obtain ⟨ii0, hi0, hz0, hzz1, hzz2⟩ := info_parts infoI
  have H := Lib.hid h
  clear h
  go_enter Try.func34, Try.ntmps34
  go_wp2_with fail
  refine named ?_
  intro W hW
  have hb : Below w.heap.size w W := by rw [hW]; exact below_alloc _ _
  have x1 : Box3 W w.heap.size 29 (.int .i64 m.size) (.slice a m.doors.length c) (.slice b m.keys.length d) := by rw [hW]; exact Box3.new _ _ _ _ rfl
  clear hW
  have hzw := hb.size
  refine (can_any W lo hi m a b c d s (H.out.below hb hz) (by omega)).mono ?_
  rintro e w1 ⟨rfl, hb1⟩
  have X1 := Lib.hid (x1.below hb1)
  have HB1 := Lib.hid (hb.trans (hb1.mono hzw))
  have hz1 := hb1.size
  have hbl := X1.out.lt
  clear hb hb1 x1
  obtain ⟨c0, c1, c2⟩ := X1.out.cells
  cases q0 : M.winsB m s with
  | false =>
    have HF := Lib.hid q0
    clear q0
    go_wp2_with fail
    go_ret2
    rw [HF.out, show M.reqCV m s = _ from M.ifWins_no HF.out _ _]
    exact ⟨rfl, HB1.out⟩
  | true =>
    have HF := Lib.hid q0
    have HA := (M.wins_yes q0).1
    have HVA := Lib.hid (M.ask_yes HA).1
    obtain ⟨_, s0, s64⟩ := M.ask_yes HA
    have v1 := HVA.out.size1
    have v12 := HVA.out.size12
    have v30 := HVA.out.few
    have vk := HVA.out.keysLen
    clear q0 HA
    go_wp2_with fail
    have HV := Lib.hid (show M.reqCV m s = _ from M.ifWins_yes HF.out _ _)
    go_loopw [6, 7] (fun v6 v7 wr => ∃ (k : Nat), k ≤ 6 ∧ v7 = .int .i64 k ∧ v6 = .int .i64 (M.setI (M.numsTo (M.reqC m s) k)) ∧ Box3 wr w.heap.size 29 (.int .i64 m.size) (.slice a m.doors.length c) (.slice b m.keys.length d) ∧ Below w.heap.size w wr) (fun _ v7 _ => 6 - (intOf v7).toNat)
    case atStart => exact ⟨0, by omega, rfl, rfl, X1.out, HB1.out⟩
    case round =>
      obtain ⟨k, hk, rfl, rfl, hx, hlow⟩ := hrel
      have X7 := Lib.hid hx
      have LO := Lib.hid hlow
      have hzr := hlow.size
      have hxl := hx.lt
      clear hx hlow
      by_cases hkl : k < 6
      · obtain ⟨c0, c1, c2⟩ := X7.out.cells
        have HST := Lib.hid (setS_lt (p := M.reqC m s) hkl)
        obtain ⟨⟨cv0, cv1⟩, _, hsh, _⟩ := M.col_facts (x := (k : Int)) (by omega) (by omega)
        rw [Int.toNat_natCast] at hsh
        have HSW := Lib.hid hsh
        clear hsh
        have HNV := Lib.hid (M.noSet_valid HVA.out cv0 cv1)
        have HPK : Hid (M.reqC m s k = !M.canB (M.noSet m (M.colV k)) s) := Lib.hid rfl
        have CL := Lib.hid (l3Colour_any wr lo hi m a b c d (H.out.below LO.out hz) (by omega) (by omega) (by omega) vk (k : Int) (by omega) (by omega))
        have hk6 : (k : Int) < 6 := by omega
        have hkn : ¬ (k : Int) < 0 := by omega
        generalize M.colV (k : Int) = cv at *
        generalize M.noSet m cv = mn at *
        generalize M.setI (M.numsTo (M.reqC m s) k) = sk at *
        generalize M.reqC m s k = pk at *
        go_wp2_with fail
        refine CL.out.mono ?_
        rintro e w2 ⟨ca, cc, cb, cd, rfl, ho, hb2⟩
        have HO := Lib.hid ho
        have HB2 := Lib.hid hb2
        have hz2 := hb2.size
        clear ho hb2
        go_wp2_with fail
        refine (wins_any w2 _ _ mn ca cb cc cd HO.out.mz (Nat.le_refl _) HNV.out s s0 s64).mono ?_
        rintro e w3 ⟨rfl, hb3⟩
        have HB3 := Lib.hid (HB2.out.trans (hb3.mono hz2))
        have X3 := Lib.hid (X7.out.below HB3.out)
        have LO3 := Lib.hid (LO.out.trans (HB3.out.mono hzr))
        clear hb3 c0 c1 c2
        generalize M.canB mn s = cn at *
        cases cn with
        | true =>
          have hpk : pk = false := by rw [HPK.out]; rfl
          have HS := HST.out
          rw [hpk] at HS
          have HSS := Lib.hid HS
          clear HS hpk
          go_wp2_with fail
          go_roundw
          case rel => exact ⟨k + 1, by omega, by go_num, by rw [HSS.out]; rfl, X3.out, LO3.out⟩
          case measure => simp [intOf]; omega
        | false =>
          have hpk : pk = true := by rw [HPK.out]; rfl
          have HS := HST.out
          rw [hpk] at HS
          have HSS := Lib.hid HS
          clear HS hpk
          go_wp2_with fail
          go_roundw
          case rel => exact ⟨k + 1, by omega, by go_num, by rw [HSS.out, HSW.out]; rfl, X3.out, LO3.out⟩
          case measure => simp [intOf]; omega
      · obtain rfl : k = 6 := by omega
        go_wp2_with fail
        go_ret2
        rw [HF.out, HV.out]
        exact ⟨rfl, LO.out⟩
theorem specHelp_lw (w : World) (lo hi : Nat) (m : M.Mz) (a b : Option Addr) (c d : Nat) (h : MzIn lo hi w m a c b d) (hz : hi ≤ w.heap.size) (_h1 : m.doors.length ≤ 1048576) (_h2 : m.keys.length ≤ 1048576) (s : Int) (_s1 : -9223372036854775808 ≤ s) (_s2 : s ≤ 9223372036854775807) :
    Calls Try.prog 42 #[.agg #[.int .i64 m.size, .slice a m.doors.length c, .slice b m.keys.length d], .int .i64 s] w (fun e w' => e = .returned (.tuple #[.int .i64 (M.helpV m s), .bool (M.helpB m s)]) ∧ Below w.heap.size w w') := by
  have H := Lib.hid h
  clear h
  go_enter Try.func42, Try.ntmps42
  go_wp2_with fail
  refine named ?_
  intro W hW
  have hb : Below w.heap.size w W := by rw [hW]; exact below_alloc _ _
  have x1 : Box3 W w.heap.size 29 (.int .i64 m.size) (.slice a m.doors.length c) (.slice b m.keys.length d) := by rw [hW]; exact Box3.new _ _ _ _ rfl
  clear hW
  have hzw := hb.size
  refine (ask_any W lo hi m a b c d s (H.out.below hb hz) (by omega)).mono ?_
  rintro e w1 ⟨rfl, hb1⟩
  have X1 := Lib.hid (x1.below hb1)
  have HB1 := Lib.hid (hb.trans (hb1.mono hzw))
  have hz1 := hb1.size
  have hbl := X1.out.lt
  clear hb hb1 x1
  obtain ⟨c0, c1, c2⟩ := X1.out.cells
  cases q0 : M.askB m s with
  | false =>
    have HF := Lib.hid q0
    clear q0
    go_wp2_with fail
    go_ret2
    have HQ : Hid (M.helpB m s = false) := Lib.hid (by unfold M.helpB; rw [HF.out]; rfl)
    rw [HQ.out, show M.helpV m s = _ from M.ifWins_no HQ.out _ _]
    exact ⟨rfl, HB1.out⟩
  | true =>
    have HF := Lib.hid q0
    have HVA := Lib.hid (M.ask_yes q0).1
    obtain ⟨_, s0, s64⟩ := M.ask_yes q0
    have v1 := HVA.out.size1
    have v12 := HVA.out.size12
    clear q0
    go_wp2_with fail
    refine (wins_any w1 lo hi m a b c d (H.out.below HB1.out hz) (by omega) HVA.out s s0 s64).mono ?_
    rintro e w2 ⟨rfl, hb2⟩
    have X2 := Lib.hid (X1.out.below hb2)
    have HB2 := Lib.hid (HB1.out.trans (hb2.mono (by omega)))
    clear hb2 c0 c1 c2
    cases q1 : M.canB m s with
    | true =>
      have HQ : Hid (M.helpB m s = false) := Lib.hid (by unfold M.helpB; rw [q1, Bool.not_true, Bool.and_false])
      clear q1
      go_wp2_with fail
      go_ret2
      rw [HQ.out, show M.helpV m s = _ from M.ifWins_no HQ.out _ _]
      exact ⟨rfl, HB2.out⟩
    | false =>
      have HQ : Hid (M.helpB m s = true) := Lib.hid (by unfold M.helpB; rw [q1, HF.out]; rfl)
      have HV := Lib.hid (show M.helpV m s = _ from M.ifWins_yes HQ.out _ _)
      clear q1
      go_wp2_with fail
      go_loopw [6, 7] (fun v6 v7 wr => ∃ (k : Nat), k ≤ 6 ∧ v7 = .int .i64 k ∧ v6 = .int .i64 (M.setI (M.numsTo (M.helpC m s) k)) ∧ Box3 wr w.heap.size 29 (.int .i64 m.size) (.slice a m.doors.length c) (.slice b m.keys.length d) ∧ Below w.heap.size w wr) (fun _ v7 _ => 6 - (intOf v7).toNat)
      case atStart => exact ⟨0, by omega, rfl, rfl, X2.out, HB2.out⟩
      case round =>
        obtain ⟨k, hk, rfl, rfl, hx, hlow⟩ := hrel
        have X7 := Lib.hid hx
        have LO := Lib.hid hlow
        have hzr := hlow.size
        have hxl := hx.lt
        clear hx hlow
        by_cases hkl : k < 6
        · obtain ⟨c0, c1, c2⟩ := X7.out.cells
          have HST := Lib.hid (setS_lt (p := M.helpC m s) hkl)
          obtain ⟨⟨cv0, cv1⟩, hsh0, hsh1, _⟩ := M.col_facts (x := (k : Int)) (by omega) (by omega)
          rw [Int.toNat_natCast] at hsh0 hsh1
          have HSW := Lib.hid hsh1
          clear hsh1
          obtain ⟨or0, or1⟩ := M.or_set s0 s64 cv0 cv1
          have HPK : Hid (M.helpC m s k = M.canB m (bits .or .i64 s (M.colV k))) := Lib.hid rfl
          have CW := Lib.hid (fun W' (hq : Below wr.heap.size wr W') => wins_any W' lo hi m a b c d (H.out.below (LO.out.trans (hq.mono hzr)) hz) (by have := hq.size; omega) HVA.out (bits .or .i64 s (M.colV k)) or0 or1)
          have hk6 : (k : Int) < 6 := by omega
          have hkn : ¬ (k : Int) < 0 := by omega
          rw [← HPK.out] at CW
          clear HPK
          generalize M.colV (k : Int) = cv at *
          generalize M.setI (M.numsTo (M.helpC m s) k) = sk at *
          generalize M.helpC m s k = pk at *
          go_wp2_with fail
          go_region_with (first
            | (go_at_call 76; refine (CW.out wr.drew (Below.refl wr.heap.size wr).drew).mono ?_; rintro e w3 ⟨rfl, hb3⟩; have hb3' : Below wr.heap.size wr w3 := (Below.refl wr.heap.size wr).drew.trans hb3))
          all_goals
            have X3 := Lib.hid (X7.out.below hb3')
            have LO3 := Lib.hid (LO.out.trans (hb3'.mono hzr))
            clear hb3 hb3' c0 c1 c2 hsh0
            cases pk with
            | true =>
              go_wp2_with fail
              go_roundw
              case rel => exact ⟨k + 1, by omega, by go_num, by rw [HST.out, HSW.out]; rfl, X3.out, LO3.out⟩
              case measure => simp [intOf]; omega
            | false =>
              go_wp2_with fail
              go_roundw
              case rel => exact ⟨k + 1, by omega, by go_num, by rw [HST.out]; rfl, X3.out, LO3.out⟩
              case measure => simp [intOf]; omega
        · obtain rfl : k = 6 := by omega
          go_wp2_with fail
          go_ret2
          rw [HQ.out, HV.out]
          exact ⟨rfl, LO.out⟩
theorem specIdle_lw (w : World) (lo hi : Nat) (m : M.Mz) (a b : Option Addr) (c d : Nat) (h : MzIn lo hi w m a c b d) (hz : hi ≤ w.heap.size) (_h1 : m.doors.length ≤ 1048576) (_h2 : m.keys.length ≤ 1048576) (s : Int) (_s1 : -9223372036854775808 ≤ s) (_s2 : s ≤ 9223372036854775807) :
    Calls Try.prog 40 #[.agg #[.int .i64 m.size, .slice a m.doors.length c, .slice b m.keys.length d], .int .i64 s] w (IntsOkPost w (M.idleV m s) (M.winsB m s)) := by
  obtain ⟨ii0, hi0, hz0, hzz1, hzz2⟩ := info_parts infoI
  have H := Lib.hid h
  clear h
  go_enter Try.func40, Try.ntmps40
  go_wp2_with fail
  refine named ?_
  intro W hW
  have hb : Below w.heap.size w W := by rw [hW]; exact (below_alloc _ _).alloc (by simp) _
  have x1 : Box3 W w.heap.size 29 (.int .i64 m.size) (.slice a m.doors.length c) (.slice b m.keys.length d) := by rw [hW]; exact (Box3.new _ _ _ _ rfl).alloc _
  have o1 : W.ownsRow w.heap.size 3 1 (.slice (some ⟨w.heap.size + 1, 0, none⟩) 0 0) 0 [] := by
    rw [hW]
    have := ownsRow_empty (w.alloc (.cells #[.int .i64 m.size, .slice a m.doors.length c, .slice b m.keys.length d] 29)) w.heap.size 3 1 (by simp)
    simpa using this
  clear hW
  have hzw := hb.size
  refine (can_any W lo hi m a b c d s (H.out.below hb hz) (by omega)).mono ?_
  rintro e w1 ⟨rfl, hb1⟩
  have X1 := Lib.hid (x1.below hb1)
  have O1 := Lib.hid (own_below o1 hb1)
  clear o1
  have HB1 := Lib.hid (hb.trans (hb1.mono hzw))
  have hz1 := hb1.size
  have hbl := X1.out.lt
  clear hb hb1 x1
  obtain ⟨c0, c1, c2⟩ := X1.out.cells
  cases q0 : M.winsB m s with
  | false =>
    have HF := Lib.hid q0
    clear q0
    go_wp2_with fail
    go_ret2
    rw [HF.out, show M.idleV m s = _ from M.ifWins_no HF.out _ _]
    exact intsOk_end (l := []) O1.out HB1.out
  | true =>
    have HF := Lib.hid q0
    have HA := (M.wins_yes q0).1
    have HVA := Lib.hid (M.ask_yes HA).1
    obtain ⟨_, s0, s64⟩ := M.ask_yes HA
    have v1 := HVA.out.size1
    have v12 := HVA.out.size12
    have v30 := HVA.out.few
    have vk := HVA.out.keysLen
    clear q0 HA
    go_wp2_with fail
    have HV := Lib.hid (show M.idleV m s = _ from M.ifWins_yes HF.out _ _)
    go_loopw [6, 7] (fun v6 v7 wr => ∃ (k : Nat), 0 ≤ k ∧ k ≤ m.size.toNat ∧ v7 = .int .i64 k ∧ wr.ownsRow w.heap.size 3 1 v6 (M.numsTo (M.idleN m s) k).length (M.encIs (M.numsTo (M.idleN m s) k)) ∧ Box3 wr w.heap.size 29 (.int .i64 m.size) (.slice a m.doors.length c) (.slice b m.keys.length d) ∧ Below w.heap.size w wr) (fun _ v7 _ => m.size.toNat - (intOf v7).toNat)
    case atStart => exact ⟨0, Nat.le_refl _, Nat.zero_le _, rfl, O1.out, X1.out, HB1.out⟩
    case round =>
      obtain ⟨k, hlk, hk, rfl, hso, hx, hlow⟩ := hrel
      obtain ⟨la, lc, hv, hl1, hl2, _⟩ := own_slice hso
      subst hv
      have SO := Lib.hid hso
      have X7 := Lib.hid hx
      have LO := Lib.hid hlow
      have hzr := hlow.size
      have hxl := hx.lt
      have hll := M.numsTo_len (M.idleN m s) k
      obtain ⟨c0, c1, c2⟩ := hx.cells
      clear hso hx hlow
      by_cases hkl : k < m.size.toNat
      · have HY := Lib.hid (fun (h : M.idleN m s k = true) => M.numsTo_yes h)
        have HN := Lib.hid (fun (h : M.idleN m s k = false) => M.numsTo_no h)
        have HNV := Lib.hid (M.noKeys_valid HVA.out k)
        have HPK : Hid (M.idleN m s k = M.canB (M.noKeys m k) s) := Lib.hid rfl
        have CL := Lib.hid (l3Keys_any wr lo hi m a b c d (H.out.below LO.out hz) (by omega) (by omega) (by omega) k (by omega))
        have hks : (k : Int) < m.size := by omega
        generalize M.noKeys m k = mn at *
        generalize M.idleN m s k = pk at *
        go_wp2_with fail
        refine CL.out.mono ?_
        rintro e w2 ⟨ca, cc, cb, cd, rfl, ho, hb2⟩
        have HO := Lib.hid ho
        have HB2 := Lib.hid hb2
        have hz2 := hb2.size
        clear ho hb2
        go_wp2_with fail
        refine (wins_any w2 _ _ mn ca cb cc cd HO.out.mz (Nat.le_refl _) HNV.out s s0 s64).mono ?_
        rintro e w3 ⟨rfl, hb3⟩
        have HB3 := Lib.hid (HB2.out.trans (hb3.mono hz2))
        have X3 := Lib.hid (X7.out.below HB3.out)
        have SO3 := Lib.hid (own_below SO.out HB3.out)
        have LO3 := Lib.hid (LO.out.trans (HB3.out.mono hzr))
        have hz3 := HB3.out.size
        clear hb3 c0 c1 c2
        generalize M.canB mn s = cn at *
        cases cn with
        | false =>
          have HS := Lib.hid (HN.out (by rw [HPK.out]; try rfl))
          go_wp2_with fail
          go_roundw
          case rel => exact ⟨k + 1, by omega, by omega, by go_num, by rw [HS.out]; exact SO3.out, X3.out, LO3.out⟩
          case measure => simp [intOf]; omega
        | true =>
          have HS := Lib.hid (HY.out (by rw [HPK.out]; try rfl))
          have HNE := Lib.hid (own_ne_box SO3.out X3.out (by decide))
          go_wp2_with (at_builtin; refine wpList_append_own _ rfl _ _ 23 rfl w.heap.size 3 ii0 (.int .i64 0) 1 8 Try.underlying23 hi0 hz0 hzz1 hzz2 rfl (by decide) _ _ _ rfl (SO3.out.alloc _) ⟨w3.heap.size, 0, none⟩ 1 1 [.int .i64 (k : Int)] rfl rfl (cell_one_new _ _ _) (fun x hx => by simp at hx; subst hx; rfl) (by unfold maxLen; omega) (by omega) (by simp; omega) ?_; intro v' w5 hown' hgrow5 hnil5)
          go_roundw
          case rel =>
            refine ⟨k + 1, by omega, by omega, by go_num, ?_, (X3.out.alloc _).grown hgrow5 HNE.out, (LO3.out.alloc (by omega) _).grown hgrow5 (by simp; omega) (own_base SO3.out)⟩
            rw [HS.out, M.encIs_append, List.length_append]
            exact hown'
          case measure => simp [intOf]; omega
      · obtain rfl : k = m.size.toNat := by omega
        have hks : ¬ ((m.size.toNat : Nat) : Int) < m.size := by omega
        go_wp2_with fail
        go_ret2
        rw [HF.out, HV.out]
        exact intsOk_end SO.out LO.out
end C
end Go.Proofs.Ytoiapfdlbkncaaa
namespace Go.Proofs.Ytoiapfdlbkncaaa
open Go.RowKit
namespace M
theorem parts_reqC (m : Mz) (s : Int) : partsV false m s 6 (fun k => woColV m k) (fun k => woColB m k) = ifWins (winsB m s) (numsTo (reqC m s) 6) [] := by
  unfold partsV
  cases h : winsB m s with
  | false => rfl
  | true =>
    obtain ⟨V, h0⟩ := ask_yes (wins_yes h).1
    rw [if_pos rfl]
    exact numsTo_congr fun i hi => part_reqC V h0 hi
theorem parts_idle (m : Mz) (s : Int) : partsV true m s m.size.toNat (fun k => putV m k 0) (fun k => putB m k 0) = idleV m s := by
  unfold partsV idleV
  cases h : winsB m s with
  | false => rfl
  | true =>
    obtain ⟨V, h0⟩ := ask_yes (wins_yes h).1
    rw [if_pos rfl]
    exact numsTo_congr fun i hi => part_idle V h0 hi
end M
namespace C
set_option maxHeartbeats 3200000
set_option maxRecDepth 20000
theorem set_any (w : World) (lo hi : Nat) (a : Option Addr) (c : Nat) (p : Nat → Bool) (h : RowIn lo hi w a (M.encIs (M.numsTo p 6))) :
    Calls Try.prog 84 #[.slice a (M.numsTo p 6).length c] w fun e w' => e = .returned (.tuple #[.int .i64 (M.setI (M.numsTo p 6)), .bool true]) ∧ w = w' := by
  have hl := M.numsTo_len p 6
  have := implSetOf_any w lo hi a c (M.numsTo p 6) h (by omega)
  unfold SetPost at this
  rw [M.cols_nums] at this
  exact this
theorem implReqC_lw (w : World) (lo hi : Nat) (m : M.Mz) (a b : Option Addr) (c d : Nat) (h : MzIn lo hi w m a c b d) (hz : hi ≤ w.heap.size) (_h1 : m.doors.length ≤ 1048576) (_h2 : m.keys.length ≤ 1048576) (s : Int) (_s1 : -9223372036854775808 ≤ s) (_s2 : s ≤ 9223372036854775807) :
    Calls Try.prog 35 #[.agg #[.int .i64 m.size, .slice a m.doors.length c, .slice b m.keys.length d], .int .i64 s] w (fun e w' => e = .returned (.tuple #[.int .i64 (M.reqCV m s), .bool (M.winsB m s)]) ∧ Below w.heap.size w w') := by
  obtain ⟨ii0, hi0, hz0, hzz1, hzz2⟩ := info_parts infoI
  have H := Lib.hid h
  clear h
  go_enter Try.func35, Try.ntmps35
  go_wp2_with fail
  refine named ?_
  intro W hW
  have hb : Below w.heap.size w W := by rw [hW]; exact below_alloc _ _
  have x1 : Box3 W w.heap.size 29 (.int .i64 m.size) (.slice a m.doors.length c) (.slice b m.keys.length d) := by rw [hW]; exact Box3.new _ _ _ _ rfl
  clear hW
  have hzw := hb.size
  have X0 := Lib.hid x1
  have HB0 := Lib.hid hb
  have CP := parts_any 52 (enters_of Try.func52 (by kernel_rfl) rfl) false 6 (fun k => M.woColV m k) (fun k => M.woColB m k) (fun k => M.woColV_len m k) (by omega) W lo hi m a b c d (H.out.below hb hz) (by omega) _h1 _h2 s _s1 _s2 (fun W' k _ hq => implWoCol_lw W' lo hi m a b c d (H.out.below (HB0.out.trans (hq.mono hzw)) hz) (by have := hq.size; omega) _h1 _h2 (k : Int) (by omega) (by omega))
  rw [M.parts_reqC] at CP
  refine CP.mono ?_
  rintro e w1 ⟨ra, rc, rfl, ho, ho1, ho2, hb1⟩
  have HB1 := Lib.hid (hb.trans (hb1.mono hzw))
  clear CP hb hb1 x1
  cases q0 : M.winsB m s with
  | false =>
    have HF := Lib.hid q0
    clear q0 ho
    rw [M.ifWins_no rfl]
    go_wp2_with fail
    go_ret2
    rw [HF.out, show M.reqCV m s = _ from M.ifWins_no HF.out _ _]
    exact ⟨rfl, HB1.out⟩
  | true =>
    have HF := Lib.hid q0
    rw [q0, M.ifWins_yes rfl] at ho
    have HO := Lib.hid ho
    clear q0 ho
    rw [M.ifWins_yes rfl]
    have CS := Lib.hid (set_any w1 _ _ ra rc (M.reqC m s) HO.out.row)
    have HV := Lib.hid (show M.reqCV m s = _ from M.ifWins_yes HF.out _ _)
    generalize M.setI (M.numsTo (M.reqC m s) 6) = sv at *
    go_wp2_with fail
    refine CS.out.mono ?_
    rintro e w2 ⟨rfl, rfl⟩
    go_wp2_with fail
    go_ret2
    rw [HF.out, HV.out]
    exact ⟨rfl, HB1.out⟩
theorem implIdle_lw (w : World) (lo hi : Nat) (m : M.Mz) (a b : Option Addr) (c d : Nat) (h : MzIn lo hi w m a c b d) (hz : hi ≤ w.heap.size) (_h1 : m.doors.length ≤ 1048576) (_h2 : m.keys.length ≤ 1048576) (s : Int) (_s1 : -9223372036854775808 ≤ s) (_s2 : s ≤ 9223372036854775807) :
    Calls Try.prog 41 #[.agg #[.int .i64 m.size, .slice a m.doors.length c, .slice b m.keys.length d], .int .i64 s] w (IntsOkPost w (M.idleV m s) (M.winsB m s)) := by
  obtain ⟨ii0, hi0, hz0, hzz1, hzz2⟩ := info_parts infoI
  have H := Lib.hid h
  clear h
  go_enter Try.func41, Try.ntmps41
  go_wp2_with fail
  refine named ?_
  intro W hW
  have hb : Below w.heap.size w W := by rw [hW]; exact below_alloc _ _
  have x1 : Box3 W w.heap.size 29 (.int .i64 m.size) (.slice a m.doors.length c) (.slice b m.keys.length d) := by rw [hW]; exact Box3.new _ _ _ _ rfl
  clear hW
  have hzw := hb.size
  have X0 := Lib.hid x1
  have HB0 := Lib.hid hb
  rcases Decidable.em (1 ≤ m.size ∧ m.size ≤ 12) with hms | hms
  · have hsn : m.size = ((m.size.toNat : Nat) : Int) := by omega
    have CP := parts_any 48 (enters_of Try.func48 (by kernel_rfl) rfl) true m.size.toNat (fun k => M.putV m k 0) (fun k => M.putB m k 0) (fun k => M.putV_len m k 0) (by omega) W lo hi m a b c d (H.out.below hb hz) (by omega) _h1 _h2 s _s1 _s2 (fun W' k _ hq => implWoKeys_lw W' lo hi m a b c d (H.out.below (HB0.out.trans (hq.mono hzw)) hz) (by have := hq.size; omega) _h1 _h2 (k : Int) (by omega) (by omega))
    rw [M.parts_idle, ← hsn] at CP
    refine CP.mono ?_
    rintro e w1 ⟨ra, rc, rfl, ho, ho1, ho2, hb1⟩
    have HB1 := Lib.hid (hb.trans (hb1.mono hzw))
    have HO := Lib.hid ho
    have hz1 := hb1.size
    clear CP hb hb1 x1 ho hsn
    generalize M.winsB m s = wb at *
    go_wp2_with fail
    go_ret2
    exact ⟨_, _, rfl, HO.out.mono (by omega) (Nat.le_refl _), ho1, ho2, HB1.out⟩
  · have hq : M.winsB m s = false := by
      rw [Bool.eq_false_iff]
      intro hw
      have V := (M.ask_yes (M.wins_yes hw).1).1
      exact hms ⟨V.size1, V.size12⟩
    have HF := Lib.hid hq
    have HV := Lib.hid (show M.idleV m s = _ from M.ifWins_no hq _ _)
    have CP := parts_no 48 true m.size W lo hi m a b c d (H.out.below hb hz) (by omega) _h1 _h2 s _s1 _s2 hq
    clear hq
    refine CP.mono ?_
    rintro e w1 ⟨ra, rc, rfl, ho, ho1, ho2, hb1⟩
    have HB1 := Lib.hid (hb.trans (hb1.mono hzw))
    clear CP hb hb1 x1 ho
    go_wp2_with fail
    go_ret2
    rw [HF.out, HV.out]
    exact ⟨_, _, rfl, OwnAt.nil _ _ _ _ _, by simp, ho2, HB1.out⟩
theorem implHelp_lw (w : World) (lo hi : Nat) (m : M.Mz) (a b : Option Addr) (c d : Nat) (h : MzIn lo hi w m a c b d) (hz : hi ≤ w.heap.size) (_h1 : m.doors.length ≤ 1048576) (_h2 : m.keys.length ≤ 1048576) (s : Int) (_s1 : -9223372036854775808 ≤ s) (_s2 : s ≤ 9223372036854775807) :
    Calls Try.prog 43 #[.agg #[.int .i64 m.size, .slice a m.doors.length c, .slice b m.keys.length d], .int .i64 s] w (fun e w' => e = .returned (.tuple #[.int .i64 (M.helpV m s), .bool (M.helpB m s)]) ∧ Below w.heap.size w w') := by
  obtain ⟨ii0, hi0, hz0, hzz1, hzz2⟩ := info_parts infoI
  have H := Lib.hid h
  clear h
  go_enter Try.func43, Try.ntmps43
  go_wp2_with fail
  refine named ?_
  intro W hW
  have hb : Below w.heap.size w W := by rw [hW]; exact below_alloc _ _
  have x1 : Box3 W w.heap.size 29 (.int .i64 m.size) (.slice a m.doors.length c) (.slice b m.keys.length d) := by rw [hW]; exact Box3.new _ _ _ _ rfl
  clear hW
  have hzw := hb.size
  have X0 := Lib.hid x1
  have HB0 := Lib.hid hb
  refine (implCan_lw W lo hi m a b c d (H.out.below hb hz) (by omega) _h1 _h2 s _s1 _s2).mono ?_
  rintro e w1 ⟨rfl, hb1⟩
  have X1 := Lib.hid (X0.out.below hb1)
  have HB1 := Lib.hid (hb.trans (hb1.mono hzw))
  have hz1 := hb1.size
  clear hb hb1 x1
  cases q0 : M.askB m s with
  | false =>
    have HQ : Hid (M.helpB m s = false) := Lib.hid (by unfold M.helpB; rw [q0]; rfl)
    rw [M.ifAsk_no q0]
    clear q0
    go_wp2_with fail
    go_ret2
    rw [HQ.out, show M.helpV m s = _ from M.ifWins_no HQ.out _ _]
    exact ⟨rfl, HB1.out⟩
  | true =>
    have HVA := Lib.hid (M.ask_yes q0).1
    have HA := Lib.hid q0
    obtain ⟨_, s0, s64⟩ := M.ask_yes q0
    rw [M.ifAsk_yes q0]
    clear q0
    cases q1 : M.canB m s with
    | true =>
      have HQ : Hid (M.helpB m s = false) := Lib.hid (by unfold M.helpB; rw [q1, Bool.not_true, Bool.and_false])
      clear q1
      go_wp2_with fail
      go_ret2
      rw [HQ.out, show M.helpV m s = _ from M.ifWins_no HQ.out _ _]
      exact ⟨rfl, HB1.out⟩
    | false =>
      have HQ : Hid (M.helpB m s = true) := Lib.hid (by unfold M.helpB; rw [q1, HA.out]; rfl)
      have HV := Lib.hid (show M.helpV m s = _ from M.ifWins_yes HQ.out _ _)
      clear q1
      go_wp2_with fail
      refine wp_named ?_
      intro W2 hW2
      have hb2 : Below w1.heap.size w1 W2 := by rw [hW2]; exact below_alloc _ _
      have o2 : W2.ownsRow w.heap.size 3 1 (.slice (some ⟨w1.heap.size, 0, none⟩) 0 0) 0 (M.encIs (M.numsTo (M.helpC m s) 0)) := by rw [hW2]; exact ownsRow_empty _ _ _ _ (by omega)
      have O2 := Lib.hid o2
      have X2 := Lib.hid (X1.out.below hb2)
      have HB2 := Lib.hid (HB1.out.trans (hb2.mono (by omega)))
      clear hW2 hb2 o2
      go_loopw [8, 9, 22] (fun v8 _ v22 wr => ∃ (k : Nat), k ≤ 6 ∧ v22 = .int .i64 k ∧ wr.ownsRow w.heap.size 3 1 v8 (M.numsTo (M.helpC m s) k).length (M.encIs (M.numsTo (M.helpC m s) k)) ∧ Box3 wr w.heap.size 29 (.int .i64 m.size) (.slice a m.doors.length c) (.slice b m.keys.length d) ∧ Below w.heap.size w wr) (fun _ _ v22 _ => 6 - (intOf v22).toNat)
      case atStart => exact ⟨0, by omega, rfl, O2.out, X2.out, HB2.out⟩
      case round =>
        obtain ⟨k, hk, rfl, hso, hx, hlow⟩ := hrel
        obtain ⟨la, lc, hv, hl1, hl2, _⟩ := own_slice hso
        subst hv
        have SO := Lib.hid hso
        have X7 := Lib.hid hx
        have LO := Lib.hid hlow
        have hzr := hlow.size
        have hxl := hx.lt
        have hll := M.numsTo_len (M.helpC m s) k
        obtain ⟨c0, c1, c2⟩ := hx.cells
        clear hso hx hlow
        by_cases hkl : k < 6
        · have HY := Lib.hid (fun (h : M.helpC m s k = true) => M.numsTo_yes h)
          have HN := Lib.hid (fun (h : M.helpC m s k = false) => M.numsTo_no h)
          obtain ⟨⟨cv0, cv1⟩, hsh0, hsh1, _⟩ := M.col_facts (x := (k : Int)) (by omega) (by omega)
          rw [Int.toNat_natCast] at hsh0 hsh1
          obtain ⟨or0, or1⟩ := M.or_set s0 s64 cv0 cv1
          have HWN : Hid (M.winsB m (bits .or .i64 s (M.colV k)) = M.helpC m s k) := Lib.hid (M.wins_of HVA.out ⟨or0, or1⟩)
          have CW := Lib.hid (fun W' (hq : Below wr.heap.size wr W') => canBeWon_any W' lo hi m a b c d (H.out.below (LO.out.trans (hq.mono hzr)) hz) (by have := hq.size; omega) _h1 _h2 (bits .or .i64 s (M.colV k)) (by omega) (by omega))
          rw [show (M.askB m (bits .or .i64 s (M.colV k)) && M.canB m (bits .or .i64 s (M.colV k))) = M.winsB m (bits .or .i64 s (M.colV k)) from rfl, HWN.out] at CW
          have hk6 : (k : Int) < 6 := by omega
          have hkn : ¬ (k : Int) < 0 := by omega
          clear HWN hsh1
          generalize M.colV (k : Int) = cv at *
          generalize M.helpC m s k = pk at *
          go_wp2_with fail
          go_region_with (first
            | (go_at_call 77; refine (CW.out wr.drew (Below.refl wr.heap.size wr).drew).mono ?_; rintro e w3 ⟨rfl, hb3⟩; have hb3' : Below wr.heap.size wr w3 := (Below.refl wr.heap.size wr).drew.trans hb3))
          all_goals
            have X3 := Lib.hid (X7.out.below hb3')
            have SO3 := Lib.hid (own_below SO.out hb3')
            have LO3 := Lib.hid (LO.out.trans (hb3'.mono hzr))
            have hz3 := hb3'.size
            clear hb3 hb3' c0 c1 c2 hsh0
            cases pk with
            | false =>
              have HS := Lib.hid (HN.out rfl)
              go_wp2_with fail
              go_roundw
              case rel => exact ⟨k + 1, by omega, by go_num, by rw [HS.out]; exact SO3.out, X3.out, LO3.out⟩
              case measure => simp [intOf]; omega
            | true =>
              have HS := Lib.hid (HY.out rfl)
              have HNE := Lib.hid (own_ne_box SO3.out X3.out (by decide))
              go_wp2_with (at_builtin; refine wpList_append_own _ rfl _ _ 23 rfl w.heap.size 3 ii0 (.int .i64 0) 1 8 Try.underlying23 hi0 hz0 hzz1 hzz2 rfl (by decide) _ _ _ rfl (SO3.out.alloc _) ⟨w3.heap.size, 0, none⟩ 1 1 [.int .i64 (k : Int)] rfl rfl (cell_one_new _ _ _) (fun x hx => by simp at hx; subst hx; rfl) (by unfold maxLen; omega) (by omega) (by simp; omega) ?_; intro v' w5 hown' hgrow5 hnil5)
              go_roundw
              case rel =>
                refine ⟨k + 1, by omega, by go_num, ?_, (X3.out.alloc _).grown hgrow5 HNE.out, (LO3.out.alloc (by omega) _).grown hgrow5 (by simp; omega) (own_base SO3.out)⟩
                rw [HS.out, M.encIs_append, List.length_append]
                exact hown'
              case measure => simp [intOf]; omega
        · obtain rfl : k = 6 := by omega
          have CS := Lib.hid (set_any wr _ _ la lc (M.helpC m s) (OwnAt.of_own SO.out).row)
          generalize M.setI (M.numsTo (M.helpC m s) 6) = sv at *
          clear c0 c1 c2
          go_wp2_with fail
          refine CS.out.mono ?_
          rintro e w2 ⟨rfl, rfl⟩
          go_wp2_with fail
          go_ret2
          rw [HQ.out, HV.out]
          exact ⟨rfl, LO.out⟩
end C
end Go.Proofs.Ytoiapfdlbkncaaa
