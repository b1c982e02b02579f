/-
  CONTRACT of slices.SortFunc at doors and impl.compareDoors: the row holds the doors sorted; what lay elsewhere stays. Condition: the row may be written, at most 1048576 doors.
-/
import Derived.Test.YtmccpjdgnenmeaaShelf
import Derived.Test.YtmccpjdgnenmeaaNode
import Derived.Test.YtmccpjdgnenmeaaMaz
import Derived.Test.YtmccpjdgnenmeaaSortMath
import Derived.Test.YtmccpjdgnenmeaaPutW
namespace Go.Proofs.Ytmccpjdgnenmeaa
open Go.RowKit Go.Sort Go.Proofs
namespace C
set_option maxHeartbeats 800000
set_option maxRecDepth 20000
theorem encDs_get {l : List M.Dr} {t : Nat} (h : t < l.length * 3) : (M.encDs l)[t]? = some ((M.encD (l.toArray[t / 3]!))[t % 3]!) := by
  have hk : t / 3 < l.length := by omega
  have ht : t / 3 * 3 + t % 3 = t := by omega
  have := M.encDs_at hk (t % 3) (by omega)
  rw [ht] at this
  rw [this]
  have e : l.toArray[t / 3]! = l[t / 3] := by simp [hk]
  rw [e]
  have hl : t % 3 < (M.encD l[t / 3]).length := by show t % 3 < 3; omega
  rw [List.getElem?_eq_getElem hl, getElem!_pos (M.encD l[t / 3]) (t % 3) hl]
theorem holds_of_own {lo hi : Nat} {w : World} {b off : Nat} {l : List M.Dr} (h : OwnAt lo hi w 60 (some ⟨b, off, none⟩) (M.encDs l)) : HoldsK M.encD 3 w b off l.toArray := by
  intro t ht
  rw [size_flatK] at ht
  have ht' : t < l.length * 3 := by simpa using ht
  rw [get_flatK _ _ _ _ ht]
  obtain ⟨b', off', e, _, _, hc⟩ := h.row.at_ (k := t) (by rw [M.encDs_len]; exact ht')
  injection e with e
  injection e with e1 e2 _
  subst e1; subst e2
  exact ⟨hc t _ (encDs_get ht'), h.free rfl (k := t) (by rw [M.encDs_len]; exact ht') _⟩
theorem sorted_world {lo hi : Nat} {w : World} {b off : Nat} {l l' : List M.Dr} (h : OwnAt lo hi w 60 (some ⟨b, off, none⟩) (M.encDs l)) (hne : l ≠ []) (hl : l'.length = l.length) (n : Nat) (os : Array Obj) :
    OwnAt lo hi (sortWorldK M.encD 3 w b off n l'.toArray os) 60 (some ⟨b, off, none⟩) (M.encDs l') ∧ Turned lo hi w (sortWorldK M.encD 3 w b off n l'.toArray os) := by
  have hH := holds_of_own h
  rcases h with h | ⟨g, o, cur, e, h1, h2, hh, hc⟩
  · exact absurd (M.encDs_inj (b := []) h) hne
  · injection e with e
    injection e with e1 e2 _
    subst e1; subst e2
    have hlt := heap_lt hh
    have hheap : (sortWorldK M.encD 3 w b off n l'.toArray os).heap[b]? = some (.cells (putCells id off (flatK M.encD 3 l'.toArray) cur) 60 (0, 0)) := by
      unfold sortWorldK
      rw [heap_grow_old _ _ (by rw [size_putRowK]; exact hlt)]
      unfold putRowK putRow mapBlock
      show (w.heap.modify b _)[b]? = _
      rw [Array.getElem?_modify, if_pos rfl, hh]
      rfl
    have hK := holdsK_sortWorldK M.encD 3 w b off n l.toArray l'.toArray os hlt hH (by simpa using hl)
    refine ⟨.inr ⟨b, off, _, rfl, h1, h2, hheap, fun i u hu => ?_⟩, ?_⟩
    · have hi : i < l'.length * 3 := by
        have := (List.getElem?_eq_some_iff.1 hu).1
        rwa [M.encDs_len] at this
      have := (hK i (by rw [size_flatK]; simpa using hi)).1
      rw [get_flatK _ _ _ _ (by simpa using hi)] at this
      rw [encDs_get hi] at hu
      have hcell : (sortWorldK M.encD 3 w b off n l'.toArray os).cell? ⟨b, off + i, none⟩ = (putCells id off (flatK M.encD 3 l'.toArray) cur)[off + i]? := by
        unfold World.cell?
        simp [hheap]
      rw [hcell] at this
      rw [this]
      exact hu
    · refine ⟨rfl, rfl, rfl, ?_, fun k hk ho => ?_⟩
      · unfold sortWorldK
        rw [size_grow, size_putRowK]
        exact Nat.le_add_right _ _
      · unfold sortWorldK
        rw [heap_grow_old _ _ (by rw [size_putRowK]; exact hk)]
        unfold putRowK putRow mapBlock
        show (w.heap.modify b _)[k]? = _
        rw [Array.getElem?_modify, if_neg (by omega)]
theorem ltOf_cmpD (x y : M.Dr) : ltOf M.cmpD x y = M.ltD x y := by
  unfold ltOf M.cmpD
  cases h : M.ltD x y with
  | true => simp
  | false => cases h2 : M.ltD y x <;> simp
theorem swoD : SWO (ltOf M.cmpD) := by
  constructor
  · intro a; rw [ltOf_cmpD]; exact M.ltD_irrefl a
  · intro a b c h1 h2; rw [ltOf_cmpD] at *; exact M.ltD_trans h1 h2
  · intro a b c h1 h2
    rw [ltOf_cmpD] at *
    unfold M.ltD at *
    simp only [decide_eq_false_iff_not] at *
    omega
/-- slices.SortFunc at doors -/
theorem sortDoors_any (w : World) (lo hi : Nat) (a : Option Addr) (c : Nat) (l : List M.Dr) (h : OwnAt lo hi w 60 a (M.encDs l)) (hl : l.length ≤ 1048576) :
    Calls Try.prog 99 #[.slice a l.length c, .func (.func 94) #[] #[]] w fun e w' => e = .returned (.tuple #[]) ∧ OwnAt lo hi w' 60 a (M.encDs (M.srt l)) ∧ Turned lo hi w w' := by
  rcases hll : l with _ | ⟨d0, l0⟩
  · refine (Try.slices_SortFunc_none (α := M.Dr) a c _ w).mono ?_
    rintro e w' ⟨rfl, rfl⟩
    exact ⟨rfl, by rw [show M.srt [] = [] by unfold M.srt; simp]; exact OwnAt.nil _ _ _ _ _, Turned.refl _ _ _⟩
  · rw [← hll]
    have hne : l ≠ [] := by rw [hll]; simp
    obtain ⟨b, off, ha, h1, h2, _⟩ := h.row.at_ (k := 0) (by rw [M.encDs_len, hll]; simp)
    subst ha
    have hb : b < w.heap.size := by
      rcases h with e | ⟨g, off', cur, e, _, _, hh, _⟩
      · exact absurd (M.encDs_inj (b := []) e) hne
      · injection e with e
        injection e with e1 e2 _
        subst e1
        exact heap_lt hh
    have := Try.slices_SortFunc_total (α := M.Dr) 3 (fun w => by have := Try.isAgg60; exact this w) (fun w => by have := Try.sizeOf60; exact this w) M.encD (fun _ => rfl) encD_one M.cmpD swoD 94 #[] b off c l.toArray w (enters_of Try.func94 (by kernel_rfl) rfl) (fun m os dk _ x y => compareDoors_any x y _) (holds_of_own h) hb (by simp; omega) (fun x y hx hy => by rw [ltOf_cmpD] at hx hy; exact M.ltD_tri hx hy)
    simp only [List.size_toArray] at this
    refine this.mono ?_
    rintro e w' ⟨rfl, n, os, rfl⟩
    have hs : (l.mergeSort fun x y => !(ltOf M.cmpD) y x) = M.srt l := by
      unfold M.srt M.leD
      congr 1
      funext x y
      rw [ltOf_cmpD]
    rw [hs]
    obtain ⟨r1, r2⟩ := sorted_world (l' := M.srt l) h hne (M.srt_len l) n os
    exact ⟨rfl, r1, r2⟩
end C
end Go.Proofs.Ytmccpjdgnenmeaa
