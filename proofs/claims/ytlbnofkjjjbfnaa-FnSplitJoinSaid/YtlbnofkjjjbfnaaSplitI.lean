/-
  CONTRACT of impl.SplitString where the text has at most 4000 bytes and the separator one: the parts, owned; what lay below is not written. Conditions: those two.
-/
import Derived.Test.YtlbnofkjjjbfnaaIter
import Derived.RangeFuncFrom
namespace Go.Proofs.Ytlbnofkjjjbfnaa
open Go.RowKit Go.Shelf
attribute [local go_sem] Oper.semAt_some
namespace M
theorem split_le (c : UInt8) (l : List UInt8) : (splitL c l).length ≤ l.length + 1 := by
  have := sp_len c l
  simp [splitL]
  exact this
end M
namespace C

set_option maxHeartbeats 1000000 in
theorem partsOf_in (F : Fence) (n : Nat) (hF : F.fn 27) (hro : F.round = none) (s : ByteArray) (c : UInt8) (w : World) :
    CallsIn F n Try.prog 27 #[.string s, .int .u8 c.toNat] w fun e w' => e = .returned (.func (.func 36) #[] #[.pointer (some ⟨w.heap.size, 0, none⟩), .pointer (some ⟨w.heap.size + 1, 0, none⟩)]) ∧ w' = (w.alloc (.cells #[.string s] 9)).alloc (.cells #[.int .u8 c.toNat] 5) := by
  refine callsIn_of_wp Try.func27 rfl hF ?_ hro
  simp only [Try.ntmps27, List.size_toArray, List.length_cons, List.length_nil, Nat.reduceAdd, Nat.reduceSub, Array.replicate_succ, Array.replicate_zero, List.push_toArray, List.append_toArray, List.nil_append, List.cons_append]
  gi_wp2
  go_ret
  exact ⟨rfl, rfl⟩

theorem parts_stops (F : Fence) (n : Nat) (hF : F.fn 36) (hro : F.round = none) (hn : 1 ≤ n) (Bs Bc : Nat) (s : ByteArray) (c : UInt8) (hs : s.size ≤ 4000) (w : World) (hb1 : Bs < w.heap.size)
    (hs0 : w.cell? ⟨Bs, 0, none⟩ = some (.string s)) (hc0 : Boxed w Bc 5 (.int .u8 c.toNat)) :
    SeqStopsK F n Try.prog 36 #[.pointer (some ⟨Bs, 0, none⟩), .pointer (some ⟨Bc, 0, none⟩)] (fun x : List UInt8 => #[M.strV x]) (BoxKept Bc 5 (.int .u8 c.toNat)) (fun ys => ys = M.splitL c s.data.toList) (fun pre => pre <+: M.splitL c s.data.toList) (M.splitL c s.data.toList).length w := fun l J Jx W hW hJ _ hY h0 =>
  parts_in F n hF hro hn l Bs Bc s c hs J Jx hY W hJ ((hW.cell (p := ⟨Bs, 0, none⟩) hb1).trans hs0) ((hW.block Bc hc0.lt).trans hc0) h0

theorem boxed_own {β : Type} (B : Nat) (t : TypeId) (v : Value) : Own (fun (_ : β) W => Boxed W B t v) := by
  rintro s X Y row hv hg hrow
  refine hv.kept hg (fun e' => ?_)
  obtain ⟨o, ho, hc⟩ := hrow B e'.symm
  rw [show X.heap[B]? = _ from hv] at ho; cases ho; cases hc
theorem boxKept_t {B : Nat} {t : TypeId} {v : Value} {X Y Z : World} (h : BoxKept B t v X Y) (k : BoxKept B t v Y Z) : BoxKept B t v X Z := fun e => k (h e)
theorem boxKept_b {B : Nat} {t : TypeId} {v : Value} {w : World} (W : World) (l : Nat) (o o' : Obj) (_ : w.heap.size ≤ l) (h : W.heap[l]? = some o) (hc : o.isCells = false) (_ : o.isWalk = false) : BoxKept B t v W (W.putObj l o') := fun hb =>
  hb.kept (grownBy_putObj' W l o') (fun e => by cases e; rw [show W.heap[B]? = _ from hb] at h; cases h; cases hc)

set_option maxRecDepth 100000 in
set_option maxHeartbeats 2000000 in
theorem implSplit_in (F : Fence) (n : Nat) (h10 : F.fn 10) (h27 : F.fn 27) (h36 : F.fn 36) (hro : F.round = none) (hn : 3 ≤ n) (s : ByteArray) (c : UInt8) (hs : s.size ≤ 4000) (w : World) :
    CallsIn F n Try.prog 10 #[.string s, .string ⟨#[c]⟩] w fun e W' => ∃ v, e = .returned (.tuple #[v, .bool true]) ∧ W'.ownsRow w.heap.size 9 1 v (M.splitL c s.data.toList).length ((M.splitL c s.data.toList).map M.strV) ∧ Below w.heap.size w W' := by
  have h1 : 1 ≤ n := by omega
  obtain ⟨i0, hi, hz0, hz1, hz2⟩ := info_parts info9
  have hN := M.split_le c s.data.toList
  have hN2 : s.data.toList.length = s.size := by rw [Array.length_toList]; rfl
  have hsz : (⟨#[c]⟩ : ByteArray).size = 1 := rfl
  have hsi : ((⟨#[c]⟩ : ByteArray).size : Int) = 1 := rfl
  refine callsIn_of_wp_marks Try.func10 rfl h10 ?_ hro
  simp only [Try.ntmps10, List.size_toArray, List.length_cons, List.length_nil, Nat.reduceAdd, Nat.reduceSub, Array.replicate_succ, Array.replicate_zero, List.push_toArray, List.append_toArray, List.nil_append, List.cons_append]
  gi_wp2_with (gi_at_call 27; refine (partsOf_in F (n - 1) h27 hro _ _ _).mono ?_; rintro e w' ⟨rfl, rfl⟩)
  have bO := Boxed.new (w.alloc (.cells #[] 9)) 26 (.slice (some ⟨w.heap.size, 0, none⟩) 0 0)
  have bS := Boxed.new ((w.alloc (.cells #[] 9)).alloc (.cells #[.slice (some ⟨w.heap.size, 0, none⟩) 0 0] 26)) 9 (.string s)
  have bC := Boxed.new (((w.alloc (.cells #[] 9)).alloc (.cells #[.slice (some ⟨w.heap.size, 0, none⟩) 0 0] 26)).alloc (.cells #[.string s] 9)) 5 (.int .u8 c.toNat)
  simp only [World.size_alloc] at bO bS bC
  have hB0 : Below w.heap.size w ((((w.alloc (.cells #[] 9)).alloc (.cells #[.slice (some ⟨w.heap.size, 0, none⟩) 0 0] 26)).alloc (.cells #[.string s] 9)).alloc (.cells #[.int .u8 c.toNat] 5)) :=
    ((((Below.refl _ w).alloc (Nat.le_refl _) _).alloc (by simp) _).alloc (by simp; omega) _).alloc (by simp; omega) _
  refine wpIn_rangeFunc_ownG hro h1 (gf := 36) (lb := #[.pointer (some ⟨w.heap.size + 1 + 1, 0, none⟩), .pointer (some ⟨w.heap.size + 1 + 1 + 1, 0, none⟩)]) rfl h36 (enters_of Try.func36 (by kernel_rfl) rfl)
    (parts_stops F (n - 1) h36 hro (by omega) (w.heap.size + 1 + 1) (w.heap.size + 1 + 1 + 1) s c hs _ (by simp) (bS.alloc _).cell bC) boxKept_t boxKept_b (Below.refl _ _) (fun _ => rfl)
    (fun pre W => ((∃ v, Boxed W (w.heap.size + 1) 26 v ∧ W.ownsRow w.heap.size 9 1 v pre.length (pre.map M.strV) ∧ True) ∧ Boxed W (w.heap.size + 1 + 1 + 1) 5 (.int .u8 c.toNat)) ∧ Below w.heap.size w W)
    (fun _ _ _ => False)
    ?own
    (fun _ _ _ _ _ hs _ _ => hs)
    ⟨⟨⟨_, (bO.alloc _).alloc _, (((ownsRow_empty w w.heap.size 9 1 (Nat.le_refl _)).alloc _).alloc _).alloc _, trivial⟩, bC⟩, hB0⟩
    (fun x => { tmps := #[.string s, .string ⟨#[c]⟩, undef, undef, .slice none 0 0, .bool false, .pointer (some ⟨w.heap.size + 1, 0, none⟩), M.strV x, .string s, .int .i64 s.size, .bool (decide ((4000 : Int) < s.size)), .bool (decide ((4000 : Int) < s.size)), .string ⟨#[c]⟩, .int .i64 1, .bool false, .bool (decide ((4000 : Int) < s.size)), undef, .slice (some ⟨w.heap.size, 0, none⟩) 0 0, .string s, .string ⟨#[c]⟩, .int .u8 c.toNat, .func (.func 36) #[] #[.pointer (some ⟨w.heap.size + 1 + 1, 0, none⟩), .pointer (some ⟨w.heap.size + 1 + 1 + 1, 0, none⟩)], M.strV x, undef, undef, undef, undef, undef], defers := [] }) ?assign ?body ?done ?stop
  case own => exact OwnFrom.and (OwnFrom.and (Own.from (holdsRow_own w.heap.size (w.heap.size + 1) 26 9 1 (fun (pre : List (List UInt8)) => pre.length) (fun pre => pre.map M.strV) (fun _ _ => True)) _) (Own.from (boxed_own _ _ _) _)) (ownFrom_below (Nat.le_refl _) (by simp; omega))
  case assign =>
    intro l x W K hK
    gi_wp2
    exact hK
  case body =>
    rintro l pre x W ⟨⟨⟨v, hv, hrow, _⟩, hbx⟩, hB⟩ hlt
    have hc := hv.cell
    obtain ⟨b, hb⟩ : ∃ b, M.strV x = .string b := ⟨_, rfl⟩
    have HB := Lib.hid hb
    rw [hb]
    clear hb
    gi_wp2_with (gi_at_builtin; refine wpListIn_append_own _ rfl _ _ 26 rfl w.heap.size 9 i0 (.string ByteArray.empty) 1 16 Try.underlying26 hi hz0 hz1 hz2 rfl (by decide) _ _ _ rfl (hrow.alloc _) ⟨W.heap.size, 0, none⟩ 1 1 [.string b] rfl rfl (cell_one_new _ _ _) (by simp [Value.oneCell']) (by unfold maxLen; omega) (by omega) (by have := hB.size; simp; omega) ?_; intro v' w1 hown' hgrow _; obtain ⟨g', cap', rfl⟩ := ownsRow_succ hown'; obtain ⟨hv1, hv2, hr2, hk2, hb2⟩ := hv.appended (by decide) hrow hB.size (by omega) hown' hgrow; have hbx1 := (hbx.alloc _).kept hgrow (hbx.not_row (by decide) hrow); have hc1 := hv1.cell; have hf1 := hv1.frozen)
    have hbx2 := hbx1.kept (grownBy_setCell' _ (w.heap.size + 1) (.slice (some ⟨g', 0, none⟩) (pre.length + 1) cap')) (fun e => by injection e with e; omega)
    exact ⟨hk2.from _, fun _ => hbx2, ⟨⟨_, hv2, by simpa [HB.out] using hr2, trivial⟩, hbx2⟩, hB.trans hb2⟩
  case done =>
    rintro D ys W hD rfl ⟨⟨⟨v, hv, hrow, _⟩, _⟩, hB⟩ hK
    have hc := hv.cell
    gi_wp2
    refine ⟨by simp, .inl ⟨_, _, rfl, run_takeDeferred hK, ?_⟩⟩
    exact ⟨_, results_tmp2 rfl _ _ _, v, rfl, ownsRow_putObj hrow _ hK rfl, hB.trans (belowK_b (w := w) (Nat.le_refl _) W D _ _ (by simp at hD; omega) hK rfl rfl)⟩
  case stop =>
    rintro D c pre W _ _ h _
    exact h.elim

set_option maxHeartbeats 800000 in
theorem implSplit_one (s : ByteArray) (c : UInt8) (hs : s.size ≤ 4000) (w : World) :
    Calls Try.prog 10 #[.string s, .string ⟨#[c]⟩] w fun e W' => ∃ v, e = .returned (.tuple #[v, .bool true]) ∧ W'.ownsRow w.heap.size 9 1 v (M.splitL c s.data.toList).length ((M.splitL c s.data.toList).map M.strV) ∧ Below w.heap.size w W' :=
  callsIn_wide.1 (implSplit_in Fence.wide 3 trivial trivial trivial rfl (Nat.le_refl _) s c hs w)
theorem implSplit_bad (s sep : ByteArray) (hb : 4000 < s.size ∨ sep.size ≠ 1) (hm : s.size ≤ 1048576) (w : World) :
    Calls Try.prog 10 #[.string s, .string sep] w fun e W' => e = .returned (.tuple #[.slice (some ⟨w.heap.size, 0, none⟩) 0 0, .bool false]) ∧ W' = w.alloc (.cells #[] 9) := by
  by_cases hs : (4000 : Int) < s.size
  · clear hb
    go_enter Try.func10, Try.ntmps10
    go_wp2_with fail
    all_goals
      go_ret2
      exact ⟨rfl, rfl⟩
  · have hne : ((sep.size : Int) != 1) = true := by simp; omega
    clear hb
    go_enter Try.func10, Try.ntmps10
    go_wp2_with fail
    all_goals
      go_ret2
      exact ⟨rfl, rfl⟩
theorem specSplit_bad (s sep : ByteArray) (hb : 4000 < s.size ∨ sep.size ≠ 1) (hm : s.size ≤ 1048576) (w : World) :
    Calls Try.prog 17 #[.string s, .string sep] w fun e W' => e = .returned (.tuple #[.slice (some ⟨w.heap.size, 0, none⟩) 0 0, .bool false]) ∧ W' = w.alloc (.cells #[] 9) := by
  by_cases hs : (4000 : Int) < s.size
  · clear hb
    go_enter Try.func17, Try.ntmps17
    go_wp2_with fail
    all_goals
      go_ret2
      exact ⟨rfl, rfl⟩
  · have hne : ((sep.size : Int) != 1) = true := by simp; omega
    clear hb
    go_enter Try.func17, Try.ntmps17
    go_wp2_with fail
    all_goals
      go_ret2
      exact ⟨rfl, rfl⟩
theorem specSplit_one (s : ByteArray) (c : UInt8) (hs : s.size ≤ 4000) (w : World) :
    Calls Try.prog 17 #[.string s, .string ⟨#[c]⟩] w fun e W' => ∃ v, e = .returned (.tuple #[v, .bool true]) ∧ W'.ownsRow w.heap.size 9 1 v (M.splitL c s.data.toList).length ((M.splitL c s.data.toList).map M.strV) ∧ Below w.heap.size w W' := by
  have hsi : ((⟨#[c]⟩ : ByteArray).size : Int) = 1 := rfl
  have hs1 : (s.size : Int) ≤ 4000 := by omega
  go_enter Try.func17, Try.ntmps17
  go_wp2_with fail
  refine (split_any s c _ (by omega)).mono ?_
  rintro e w' ⟨v, rfl, hown, hb⟩
  go_wp2_with fail
  go_ret2
  exact ⟨v, rfl, hown, hb⟩
end C
end Go.Proofs.Ytlbnofkjjjbfnaa
