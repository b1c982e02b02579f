/-
  CONTRACTS of the cursor at lists that the call lays itself: of over a new list of strings, and any1, which gives one of nine short strings; each writes the cursor's own block alone, beside new blocks. Conditions: as for the cursor.
-/
import Derived.Test.YtlbnofkjjjbfnaaCur
import Derived.WalkKit
import Derived.WalkSpells
import Derived.WalkLawsBesides
import Derived.Lib.Hide
namespace Go.Proofs.Ytlbnofkjjjbfnaa
open Go.RowKit
namespace C

theorem new_cells {α : Type} (w : World) (f : α → Value) (l : List α) (T : TypeId) : ∀ j s, l[j]? = some s → (w.alloc (.cells (l.map f).toArray T)).cell? ⟨w.heap.size, j, none⟩ = some (f s) := by
  intro j s h
  rw [World.cell?_alloc_new]
  simp [h]
theorem grown_alloc (w : World) (o : Obj) (row : Option Nat) : w.grownBy (w.alloc o) row := World.grownBy_alloc w o row

/-- of over a list of strings that lies in a new block -/
theorem of_new (B : Nat) (w : World) (g : Nat) (a : Option Addr) (len cap p : Nat) (l : List ByteArray) (h : CurAt B w g a len cap p) (hp : p ≤ 1073741000) (hl : 0 < l.length) (hl2 : l.length ≤ 100) (T : TypeId) :
    Calls Try.prog 26 #[.pointer (some ⟨g, 0, none⟩), .slice (some ⟨w.heap.size, 0, none⟩) l.length l.length] (w.alloc (.cells (l.map Value.string).toArray T)) (OfPost B w g a len cap p l) := by
  have hlt := h.lt
  refine (of_any B (w.alloc (.cells (l.map Value.string).toArray T)) g a len cap p w.heap.size l (h.other (grown_alloc w _ none) (fun k e => by cases e) (by simp)) hp hl hl2 (by omega) (by simp) (new_cells w Value.string l T)).mono ?_
  rintro e w' ⟨s, he, hs, hc, hg⟩
  exact ⟨s, he, hs, hc, grown_trans (grown_alloc w _ _) hg⟩

def nine : List ByteArray := [⟨#[]⟩, ⟨#[97]⟩, ⟨#[97, 44, 98]⟩, ⟨#[115, 111, 109, 101, 32, 119, 111, 114, 100, 115]⟩, ⟨#[120, 35, 121]⟩, ⟨#[45, 49, 50]⟩, ⟨#[0, 255]⟩, ⟨#[44, 44]⟩, ⟨#[48]⟩]
theorem nine_size : ∀ s ∈ nine, s.size ≤ 10 := by decide

set_option maxHeartbeats 800000 in
theorem any1_any (B : Nat) (w : World) (g : Nat) (a : Option Addr) (len cap p : Nat) (h : CurAt B w g a len cap p) (hp : p ≤ 1073741000) :
    Calls Try.prog 25 #[.pointer (some ⟨g, 0, none⟩)] w (OfPost B w g a len cap p nine) := by
  have c := Lib.hid (of_new B w g a len cap p nine h hp (by decide) (by decide) 9)
  clear h
  go_enter Try.func25, Try.ntmps25
  go_wp2_with fail
  refine c.out.mono ?_
  rintro e w1 ⟨s, rfl, hs, hc1, hg1⟩
  have hs' := Lib.hid hs
  have hc1' := Lib.hid hc1
  have hg1' := Lib.hid hg1
  clear hs hc1 hg1
  go_wp2_with fail
  go_ret
  exact ⟨s, rfl, hs'.out, hc1'.out, hg1'.out⟩

/-- a new cursor -/
theorem cur_new (w : World) (a : Option Addr) (len cap : Nat) (hl : len ≤ 65536) (hc : CodeAt w.heap.size w a len) :
    CurAt w.heap.size (w.alloc (.cells #[.slice a len cap, .int .i64 0, .int .u64 0] 44)) w.heap.size a len cap 0 :=
  ⟨Nat.le_refl _, hl, hc.grown (grown_alloc w _ none) (Nat.le_refl _) (fun k e => by cases e), 0, 0, Nat.le_refl _, by omega, by omega, heap_alloc_new w _⟩
theorem grown_to_below {w w' : World} {o : Obj} (h : (w.alloc o).grownBy w' (some w.heap.size)) : Below w.heap.size w w' :=
  grown_below (row := some w.heap.size) (grown_trans (grown_alloc w o _) h) (Nat.le_refl _) (fun k e => by cases e; exact Nat.le_refl _)
end C
end Go.Proofs.Ytlbnofkjjjbfnaa
