/-
  CONTRACT of impl.fewestTo at visits; what lay in memory stays. Condition: the function value answers at each key.
-/
import Derived.Test.YtdgfceiobpnchaaLeastV
namespace Go.Proofs.Ytdgfceiobpnchaa
open Go.RowKit
namespace M
/-- one more is looked at -/
theorem isLst_more {P P' : Nat → Prop} {best : Option Nat} (h : IsLst P best) {k : Nat} (e : ∀ n, P' n ↔ P n ∨ n = k) : IsLst P' (match best with | none => some k | some v => if k < v then some k else some v) := by
  cases best with
  | none =>
    refine ⟨(e k).2 (.inr rfl), fun n hn => ?_⟩
    rcases (e n).1 hn with h' | h'
    · exact absurd h' (h n)
    · omega
  | some v =>
    show IsLst P' (if k < v then some k else some v)
    split
    · rename_i hlt
      refine ⟨(e k).2 (.inr rfl), fun n hn => ?_⟩
      rcases (e n).1 hn with h' | h'
      · have := h.2 n h'; omega
      · omega
    · rename_i hlt
      refine ⟨(e v).2 (.inl h.1), fun n hn => ?_⟩
      rcases (e n).1 hn with h' | h'
      · exact h.2 n h'
      · omega
theorem isLst_same {P P' : Nat → Prop} {best : Option Nat} (h : IsLst P best) (e : ∀ n, P' n ↔ P n) : IsLst P' best := h.congr fun n => (e n).symm
end M
namespace C
set_option maxHeartbeats 3200000
set_option maxRecDepth 20000
section
variable {w : World} {ops : Array Oper} {rest : List Oper} {o : Oper} {a : Act} {Q : Exit → Act → World → Prop}
theorem wpList_rangeS (hg : o.guard = none) (m : Operand) (hop : o.op = Op.range 84 m) (b : Nat) (L : List M.St) (f : M.St → Option Nat) (hm : a.eval m = .map (some b)) (h : MapP w b L f)
    (hK : ∀ w', RangeP w' b w.heap.size L f L L.length → Below w.heap.size w w' → w'.heap.size = w.heap.size + 1 → wpList Try.prog ops Q rest (a.put o.dst (.pointer (some ⟨w.heap.size, 0, none⟩))) w') : wpList Try.prog ops Q (o :: rest) a w := by
  refine wpList_plain hg fun K' hK' => ?_
  obtain ⟨w', hrun, r1, r2, r3⟩ := h.range
  unfold Oper.wp
  simp [execOp, hop, hm, hrun, Result.andThen]
  exact hK' _ _ (hK w' r1 r2 r3)
theorem wpList_nextS (hg : o.guard = none) (it : Operand) (hop : o.op = Op.next it false) (b r : Nat) (L : List M.St) (f : M.St → Option Nat) (left : List M.St) (cnt : Nat) (hit : a.eval it = .pointer (some ⟨r, 0, none⟩)) (h : RangeP w b r L f left cnt)
    (hDone : left = [] → wpList Try.prog ops Q rest (a.put o.dst (.tuple #[.bool false])) w)
    (hMore : ∀ (s : M.St) (w' : World) (cnt' k : Nat), s ∈ left → f s = some k → (k : Int) ≤ 9223372036854775807 → RangeP w' b r L f (left.erase s) cnt' → cnt' < cnt → Turned r (r + 1) w w' → w'.heap.size = w.heap.size →
      (Instr.entry (.pointer (some ⟨r, 0, none⟩))).run Try.prog w' = .ok (.tuple #[.agg #[.int .i64 s.1, .int .i64 s.2], .int .i64 (k : Int)]) w' → wpList Try.prog ops Q rest (a.put o.dst (.tuple #[.bool true, .agg #[.int .i64 s.1, .int .i64 s.2], .int .i64 (k : Int)])) w') : wpList Try.prog ops Q (o :: rest) a w := by
  refine wpList_plain hg fun K' hK' => ?_
  unfold Oper.wp
  rcases h.next o.type with ⟨hl, hrun⟩ | ⟨s, w', cnt', k, hs, hf, hk, hrun, hr, hlt, ht, hsz, hen⟩
  · simp [execOp, hop, hit, hrun, Result.andThen]
    exact hK' _ _ (hDone hl)
  · simp [execOp, hop, hit, hrun, Result.andThen]
    exact hK' _ _ (hMore s w' cnt' k hs hf hk hr hlt ht hsz hen)
end
/-- what the function value answers -/
def WantOk (g : Nat) (pre post : Array Value) (p : M.St → Bool) (S : M.St → Prop) (w : World) : Prop :=
  ∀ W s, Below w.heap.size w W → S s → Calls Try.prog g (pre.push (.agg #[.int .i64 s.1, .int .i64 s.2]) ++ post) W (BoolW W (p s))
def OptPost (w : World) (r : Option Nat) (e : Ending) (w' : World) : Prop := e = .returned (.tuple #[.int .i64 ((r.getD 0 : Nat) : Int), .bool r.isSome]) ∧ Below w.heap.size w w'
theorem fewestTo_any (g : Nat) (pre post : Array Value) (eg : ∀ args w, (callFunc g args).run Try.prog w = .ok (.enter g args) w) (p : M.St → Bool) (w : World) (b : Nat) (L : List M.St) (f : M.St → Option Nat) (h : MapP w b L f) (hp : WantOk g pre post p (fun s => s ∈ L) w) :
    Calls Try.prog 83 #[.map (some b), .func (.func g) pre post] w (OptPost w (M.minO (fun s => p s = true) f)) := by
  have H := Lib.hid h
  have HP := Lib.hid hp
  have hbl := h.lt
  clear h hp
  go_enter Try.func83, Try.ntmps83
  go_wp2_with (at_range; refine wpList_rangeS rfl _ rfl b L f rfl H.out ?_; intro w0 hr0 hb0 hs0)
  go_frame
  go_loopw [6, 7, 8, 9] (fun v6 v7 _ _ wr => ∃ (left : List M.St) (cnt : Nat) (best : Option Nat), v6 = .int .i64 ((best.getD 0 : Nat) : Int) ∧ v7 = .bool best.isSome ∧ RangeP wr b w.heap.size L f left cnt ∧ left.Nodup ∧ (∀ s ∈ left, s ∈ L) ∧
    M.IsLst (fun n => ∃ s, (s ∈ L ∧ s ∉ left ∧ p s = true) ∧ f s = some n) best ∧ Below w.heap.size w wr) (fun _ _ _ _ wr => wr.rangeLeft b w.heap.size)
  case atStart =>
    refine ⟨L, L.length, none, rfl, rfl, hr0, ?_, fun _ h => h, ?_, hb0⟩
    · obtain ⟨_, _, _, _, hn, _⟩ := hr0; exact hn
    · rintro n ⟨s, ⟨h1, h2, _⟩, _⟩; exact h2 h1
  case round =>
    obtain ⟨left, cnt, best, rfl, rfl, hrg, hnd, hin, hbest, hlow⟩ := hrel
    have RG := Lib.hid hrg
    have LO := Lib.hid hlow
    have BE := Lib.hid hbest
    have HIN := Lib.hid hin
    have HND := Lib.hid hnd
    have HLE := Lib.hid hrg.left_eq
    have hzr := hlow.size
    obtain ⟨l1, l2⟩ := hrg.lt
    clear hrg hlow hbest hin hnd hr0 hb0
    go_wp2_with (refine wpList_nextS rfl _ rfl b w.heap.size L f left cnt rfl RG.out ?_ ?_)
    · intro hl0
      have HL0 := Lib.hid hl0
      clear hl0
      go_wp2_with fail
      go_ret2
      have hm : M.minO (fun s => p s = true) f = best := M.lst_eq ((BE.out).congr fun n => ⟨fun ⟨s, ⟨_, _, h3⟩, h4⟩ => ⟨s, h3, h4⟩, fun ⟨s, h3, h4⟩ => ⟨s, ⟨(H.out.some_iff s).2 ⟨n, h4⟩, by rw [HL0.out]; simp, h3⟩, h4⟩⟩)
      rw [hm]
      exact ⟨rfl, LO.out⟩
    · intro x y w1 cnt1 k hs hfs hk hrg1 hlt ht1 hs1 hen
      obtain ⟨s, rfl, rfl⟩ : ∃ s : M.St, s.1 = x ∧ s.2 = y := ⟨(x, y), rfl, rfl⟩
      have hs : s ∈ left := hs
      have hfs : f s = some k := hfs
      have hrg1 : RangeP w1 b w.heap.size L f (left.erase s) cnt1 := hrg1
      have HP1 := HP.out (w1.alloc (.cells #[.int .i64 s.1, .int .i64 s.2] 71)) s ((Below.thenTurned LO.out ht1 (Nat.le_refl _) (by omega)).alloc (by omega) _) (HIN.out s hs)
      have HMORE : ∀ n, (∃ t, (t ∈ L ∧ t ∉ left.erase s ∧ p t = true) ∧ f t = some n) ↔ (∃ t, (t ∈ L ∧ t ∉ left ∧ p t = true) ∧ f t = some n) ∨ (p s = true ∧ n = k) := by
        intro n
        constructor
        · rintro ⟨t, ⟨h1, h2, h3⟩, h4⟩
          rcases Classical.em (t = s) with e | e
          · subst e
            rw [hfs] at h4
            injection h4 with h4
            exact .inr ⟨h3, h4.symm⟩
          · exact .inl ⟨t, ⟨h1, fun hm => h2 ((List.Nodup.mem_erase_iff HND.out).2 ⟨e, hm⟩), h3⟩, h4⟩
        · rintro (⟨t, ⟨h1, h2, h3⟩, h4⟩ | ⟨h3, rfl⟩)
          · exact ⟨t, ⟨h1, fun hm => h2 (List.mem_of_mem_erase hm), h3⟩, h4⟩
          · exact ⟨s, ⟨HIN.out s hs, fun hm => ((List.Nodup.mem_erase_iff HND.out).1 hm).1 rfl, h3⟩, hfs⟩
      have HM := Lib.hid HMORE
      have RG1 := Lib.hid hrg1
      have LO1 := Lib.hid (Below.thenTurned LO.out ht1 (Nat.le_refl _) (by omega))
      have HND1 := Lib.hid (HND.out.erase s)
      have HIN1 := Lib.hid (fun t (h : t ∈ left.erase s) => HIN.out t (List.mem_of_mem_erase h))
      have HLT := Lib.hid hlt
      clear HMORE hrg1 ht1 hlt hs hfs
      cases hps : p s with
      | false =>
        have HB := Lib.hid (M.isLst_same BE.out fun n => (HM.out n).trans ⟨fun h => h.elim id fun h => (by rw [hps] at h; cases h.1), .inl⟩)
        rw [hps] at HP1
        have HP2 := Lib.hid HP1
        clear HP1 hps
        go_wp2_with fail
        refine (HP2.out).mono ?_
        rintro e w3 ⟨rfl, hb3⟩
        have RG3 := Lib.hid ((RG1.out.below (below_alloc _ _)).below hb3)
        have LO3 := Lib.hid ((LO1.out.alloc (by omega) (.cells #[.int .i64 s.1, .int .i64 s.2] 71)).trans (hb3.mono (by simp; omega)))
        clear hb3
        go_wp2_with fail
        go_roundw
        case rel => exact ⟨left.erase s, cnt1, best, rfl, rfl, RG3.out, HND1.out, HIN1.out, HB.out, LO3.out⟩
        case measure => rw [RG3.out.left_eq, HLE.out]; exact HLT.out
      | true =>
        have HB := Lib.hid (M.isLst_more BE.out (P' := fun n => ∃ t, (t ∈ L ∧ t ∉ left.erase s ∧ p t = true) ∧ f t = some n) (k := k) fun n => (HM.out n).trans ⟨fun h => h.imp id (·.2), fun h => h.imp id fun h => ⟨hps, h⟩⟩)
        rw [hps] at HP1
        have HP2 := Lib.hid HP1
        clear HP1 hps
        cases best with
        | none =>
          go_wp2_with fail
          refine (HP2.out).mono ?_
          rintro e w3 ⟨rfl, hb3⟩
          have RG3 := Lib.hid ((RG1.out.below (below_alloc _ _)).below hb3)
          have LO3 := Lib.hid ((LO1.out.alloc (by omega) (.cells #[.int .i64 s.1, .int .i64 s.2] 71)).trans (hb3.mono (by simp; omega)))
          clear hb3
          go_wp2_with fail
          go_roundw
          case rel => exact ⟨left.erase s, cnt1, some k, rfl, rfl, RG3.out, HND1.out, HIN1.out, HB.out, LO3.out⟩
          case measure => rw [RG3.out.left_eq, HLE.out]; exact HLT.out
        | some v =>
          by_cases hkv : k < v
          · have HB2 : Hid (M.IsLst (fun n => ∃ t, (t ∈ L ∧ t ∉ left.erase s ∧ p t = true) ∧ f t = some n) (some k)) := Lib.hid (by have := HB.out; simp only [if_pos hkv] at this; exact this)
            have hkvi : (k : Int) < (v : Int) := by omega
            go_wp2_with fail
            refine (HP2.out).mono ?_
            rintro e w3 ⟨rfl, hb3⟩
            have RG3 := Lib.hid ((RG1.out.below (below_alloc _ _)).below hb3)
            have LO3 := Lib.hid ((LO1.out.alloc (by omega) (.cells #[.int .i64 s.1, .int .i64 s.2] 71)).trans (hb3.mono (by simp; omega)))
            clear hb3
            go_wp2_with fail
            go_roundw
            case rel => exact ⟨left.erase s, cnt1, some k, rfl, rfl, RG3.out, HND1.out, HIN1.out, HB2.out, LO3.out⟩
            case measure => rw [RG3.out.left_eq, HLE.out]; exact HLT.out
          · have HB2 : Hid (M.IsLst (fun n => ∃ t, (t ∈ L ∧ t ∉ left.erase s ∧ p t = true) ∧ f t = some n) (some v)) := Lib.hid (by have := HB.out; simp only [if_neg hkv] at this; exact this)
            have hkvi : ¬ (k : Int) < (v : Int) := by omega
            go_wp2_with fail
            refine (HP2.out).mono ?_
            rintro e w3 ⟨rfl, hb3⟩
            have RG3 := Lib.hid ((RG1.out.below (below_alloc _ _)).below hb3)
            have LO3 := Lib.hid ((LO1.out.alloc (by omega) (.cells #[.int .i64 s.1, .int .i64 s.2] 71)).trans (hb3.mono (by simp; omega)))
            clear hb3
            go_wp2_with fail
            go_roundw
            case rel => exact ⟨left.erase s, cnt1, some v, rfl, rfl, RG3.out, HND1.out, HIN1.out, HB2.out, LO3.out⟩
            case measure => rw [RG3.out.left_eq, HLE.out]; exact HLT.out
end C
end Go.Proofs.Ytdgfceiobpnchaa
