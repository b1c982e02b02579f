/-
  CONTRACT of slices.SortFunc at numbers and impl.compareSets: the row holds the sets sorted; what lay elsewhere stays. Condition: the row may be written, at most 1048576 sets.
-/
import Derived.Test.YtkkfmleoamhgkaaShelf
import Derived.Test.YtkkfmleoamhgkaaCmpS
import Derived.Sort.Grow
namespace Go.Proofs.Ytkkfmleoamhgkaa
open Go.RowKit Go.Sort Go.Proofs
namespace C
set_option maxHeartbeats 800000
set_option maxRecDepth 20000
def enc6 (a : M.St6) : Value := .int .i64 (a.val : Int)
theorem enc6_at {l : List M.St6} {j : Nat} (h : j < l.length) : (M.encIs (M.intsF l))[j]? = some (enc6 l[j]) := by
  rw [M.encIs_at (by rw [M.intsF_len]; exact h), M.intsF_at h]; rfl
theorem holds6_of_own {lo hi : Nat} {w : World} {b off : Nat} {l : List M.St6} (h : OwnAt lo hi w 3 (some ⟨b, off, none⟩) (M.encIs (M.intsF l))) : Holds enc6 w b off l.toArray := by
  intro j hj
  have hj' : j < l.length := by simpa using hj
  have hj2 : j < (M.encIs (M.intsF l)).length := by rw [M.encIs_len, M.intsF_len]; exact hj'
  obtain ⟨b', off', e, _, _, hc⟩ := h.row.at_ (k := j) hj2
  injection e with e
  injection e with e1 e2 _
  subst e1; subst e2
  have e : l.toArray[j]! = l[j] := by simp [hj']
  exact ⟨by rw [e]; exact hc j _ (enc6_at hj'), h.free rfl (k := j) hj2 _⟩
theorem sorted_world6 {lo hi : Nat} {w : World} {b off : Nat} {l l' : List M.St6} (h : OwnAt lo hi w 3 (some ⟨b, off, none⟩) (M.encIs (M.intsF l))) (hne : l ≠ []) (hl : l'.length = l.length) (n : Nat) (os : Array Obj) :
    OwnAt lo hi (grow (putRow enc6 (Sort.ahead w n) b off l'.toArray) os) 3 (some ⟨b, off, none⟩) (M.encIs (M.intsF l')) ∧ Turned lo hi w (grow (putRow enc6 (Sort.ahead w n) b off l'.toArray) os) := by
  have hH := holds6_of_own h
  rcases h with h | ⟨g, o, cur, e, h1, h2, hh, hc⟩
  · have hz : (M.encIs (M.intsF l)).length = 0 := by rw [h]; rfl
    rw [M.encIs_len, M.intsF_len] at hz
    exact absurd (List.eq_nil_of_length_eq_zero hz) hne
  · injection e with e
    injection e with e1 e2 _
    subst e1; subst e2
    have hlt := heap_lt hh
    have hheap : (grow (putRow enc6 (Sort.ahead w n) b off l'.toArray) os).heap[b]? = some (.cells (putCells enc6 off l'.toArray cur) 3 (0, 0)) := by
      rw [heap_grow_old _ _ (by rw [Sort.size_putRow]; exact hlt)]
      unfold putRow mapBlock
      show (w.heap.modify b _)[b]? = _
      rw [Array.getElem?_modify, if_pos rfl, hh]
      rfl
    have hK : Holds enc6 (grow (putRow enc6 (Sort.ahead w n) b off l'.toArray) os) b off l'.toArray :=
      holds_grow _ _ _ _ _ _ (by rw [Sort.size_putRow]; exact hlt) (holds_putRow enc6 (Sort.ahead w n) b off l.toArray l'.toArray hH (by simpa using hl))
    refine ⟨.inr ⟨b, off, _, rfl, h1, h2, hheap, fun i u hu => ?_⟩, ?_⟩
    · have hi : i < l'.length := by
        have := (List.getElem?_eq_some_iff.1 hu).1
        rwa [M.encIs_len, M.intsF_len] at this
      have := (hK i (by simpa using hi)).1
      have hcell : (grow (putRow enc6 (Sort.ahead w n) b off l'.toArray) os).cell? ⟨b, off + i, none⟩ = (putCells enc6 off l'.toArray cur)[off + i]? := by
        unfold World.cell?
        simp [hheap]
      rw [hcell] at this
      rw [this, show l'.toArray[i]! = l'[i] by simp [hi], ← hu, enc6_at hi]
    · refine ⟨rfl, rfl, rfl, ?_, fun k hk ho => ?_⟩
      · rw [size_grow, Sort.size_putRow]
        exact Nat.le_add_right _ _
      · rw [heap_grow_old _ _ (by rw [Sort.size_putRow]; exact hk)]
        unfold putRow mapBlock
        show (w.heap.modify b _)[k]? = _
        rw [Array.getElem?_modify, if_neg (by omega)]
theorem ltOf_cmpS (x y : M.St6) : ltOf M.cmpS x y = M.ltS x y := M.cmpS_lt x y
theorem swoS : SWO (ltOf M.cmpS) := by
  constructor
  · intro a; rw [ltOf_cmpS]; exact M.ordS.irrefl a
  · intro a b c h1 h2; rw [ltOf_cmpS] at *; exact M.ordS.trans h1 h2
  · intro a b c h1 h2
    rw [ltOf_cmpS] at *
    unfold M.ltS at *
    simp only [decide_eq_false_iff_not] at *
    omega
/-- slices.SortFunc at sets -/
theorem sortSets_any (w : World) (lo hi : Nat) (a : Option Addr) (c : Nat) (l : List M.St6) (h : OwnAt lo hi w 3 a (M.encIs (M.intsF l))) (hl : l.length ≤ 1048576) :
    Calls Try.prog 29 #[.slice a l.length c, .func (.func 30) #[] #[]] w fun e w' => e = .returned (.tuple #[]) ∧ OwnAt lo hi w' 3 a (M.encIs (M.intsF (M.srtS l))) ∧ Turned lo hi w w' := by
  rcases hll : l with _ | ⟨d0, l0⟩
  · refine (Try.slices_SortFunc_none (α := M.St6) a c _ w).mono ?_
    rintro e w' ⟨rfl, rfl⟩
    exact ⟨rfl, by rw [show M.srtS [] = [] by unfold M.srtS; simp]; exact OwnAt.nil _ _ _ _ _, Turned.refl _ _ _⟩
  · rw [← hll]
    have hne : l ≠ [] := by rw [hll]; simp
    obtain ⟨b, off, ha, h1, h2, _⟩ := h.row.at_ (k := 0) (by rw [M.encIs_len, M.intsF_len, hll]; simp)
    subst ha
    have hb : b < w.heap.size := by
      rcases h with e | ⟨g, off', cur, e, _, _, hh, _⟩
      · have hz : (M.encIs (M.intsF l)).length = 0 := by rw [e]; rfl
        rw [M.encIs_len, M.intsF_len] at hz
        exact absurd (List.eq_nil_of_length_eq_zero hz) hne
      · injection e with e
        injection e with e1 e2 _
        subst e1
        exact heap_lt hh
    have := Try.slices_SortFunc_total (α := M.St6) enc6 (fun _ => rfl) M.cmpS swoS 30 #[] b off c l.toArray w (enters_of Try.func30 (by kernel_rfl) rfl) (fun m os dk _ x y => compareSets_any x y _) (holds6_of_own h) hb (by simp; omega) (fun x y hx hy => by rw [ltOf_cmpS] at hx hy; exact M.ordS.tri hx hy)
    simp only [List.size_toArray] at this
    refine this.mono ?_
    rintro e w' ⟨rfl, n, os, rfl⟩
    have hs : (l.mergeSort fun x y => !(ltOf M.cmpS) y x) = M.srtS l := by
      unfold M.srtS M.leS
      congr 1
      funext x y
      rw [ltOf_cmpS]
    rw [hs]
    obtain ⟨r1, r2⟩ := sorted_world6 (l' := M.srtS l) h hne (M.srtS_perm l).length_eq n os
    exact ⟨rfl, r1, r2⟩
end C
end Go.Proofs.Ytkkfmleoamhgkaa
