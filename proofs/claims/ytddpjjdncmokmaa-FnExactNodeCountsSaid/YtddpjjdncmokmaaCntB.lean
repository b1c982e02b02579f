/-
  WORDS and contract of one step of the counting at a place. Condition: the place is there.
-/
import Derived.Test.YtddpjjdncmokmaaOverI
import Derived.Test.YtddpjjdncmokmaaFilL
import Derived.Test.YtddpjjdncmokmaaWBDigitsI
namespace Go.Proofs.Ytddpjjdncmokmaa
open Go.RowKit
namespace M
/-- how often each number stands at a place -/
def atV (l : List (List Int)) (p : Nat) (i : Nat) : Int := ((atN l p (i : Int) : Nat) : Int)
def upd8 (A : Nat → Int) (x i : Nat) : Int := if i = x then A i + 1 else A i
theorem atV_snoc (l : List (List Int)) {p : Nat} {fs : List Int} {x : Nat} (hx : fs.getD p 0 = (x : Int)) : atV (l ++ [fs]) p = upd8 (atV l p) x := by
  funext i
  unfold atV upd8 atN
  rw [List.countP_append, List.countP_singleton, hx]
  by_cases e : i = x
  · subst e; simp
  · rw [if_neg e]
    have : ¬ ((x : Int) = (i : Int)) := by omega
    simp [this]
theorem atV_nil (p : Nat) : atV [] p = fun _ => 0 := rfl
theorem atV_le (l : List (List Int)) (p i : Nat) : 0 ≤ atV l p i ∧ atV l p i ≤ (l.length : Int) := by
  unfold atV
  have : atN l p (i : Int) ≤ l.length := List.countP_le_length
  omega
theorem cntsL_atV (n : Nat) (l : List (List Int)) (p : Nat) : cntsL n l p = (List.range n).map (atV l p) := rfl
end M
namespace C
set_option linter.unusedVariables false
set_option maxHeartbeats 3200000
set_option maxRecDepth 20000
/-- a block of eight numbers -/
def Box8 (w : World) (g : Nat) (T : TypeId) (A : Nat → Int) : Prop := w.heap[g]? = some (.cells #[.int .i64 (A 0), .int .i64 (A 1), .int .i64 (A 2), .int .i64 (A 3), .int .i64 (A 4), .int .i64 (A 5), .int .i64 (A 6), .int .i64 (A 7)] T (0, 0))
def agg8 (A : Nat → Int) : Value := .agg #[.int .i64 (A 0), .int .i64 (A 1), .int .i64 (A 2), .int .i64 (A 3), .int .i64 (A 4), .int .i64 (A 5), .int .i64 (A 6), .int .i64 (A 7)]
section
variable {w w' : World} {g : Nat} {T : TypeId} {A : Nat → Int}
theorem Box8.lt (h : Box8 w g T A) : g < w.heap.size := heap_lt h
theorem Box8.new (T : TypeId) (A : Nat → Int) (hg : g = w.heap.size) : Box8 (w.alloc (.cells #[.int .i64 (A 0), .int .i64 (A 1), .int .i64 (A 2), .int .i64 (A 3), .int .i64 (A 4), .int .i64 (A 5), .int .i64 (A 6), .int .i64 (A 7)] T)) g T A := by subst hg; exact heap_alloc_new w _
theorem Box8.alloc (h : Box8 w g T A) (o : Obj) : Box8 (w.alloc o) g T A := (Below.heap_alloc w o g h.lt).trans h
theorem Box8.cells (h : Box8 w g T A) : w.cell? ⟨g, 0, none⟩ = some (.int .i64 (A 0)) ∧ w.cell? ⟨g, 1, none⟩ = some (.int .i64 (A 1)) ∧ w.cell? ⟨g, 2, none⟩ = some (.int .i64 (A 2)) ∧ w.cell? ⟨g, 3, none⟩ = some (.int .i64 (A 3)) ∧ w.cell? ⟨g, 4, none⟩ = some (.int .i64 (A 4)) ∧ w.cell? ⟨g, 5, none⟩ = some (.int .i64 (A 5)) ∧ w.cell? ⟨g, 6, none⟩ = some (.int .i64 (A 6)) ∧ w.cell? ⟨g, 7, none⟩ = some (.int .i64 (A 7)) := ⟨cell_of_row w g 0 _ _ _ h, cell_of_row w g 1 _ _ _ h, cell_of_row w g 2 _ _ _ h, cell_of_row w g 3 _ _ _ h, cell_of_row w g 4 _ _ _ h, cell_of_row w g 5 _ _ _ h, cell_of_row w g 6 _ _ _ h, cell_of_row w g 7 _ _ _ h⟩
theorem Box8.free (h : Box8 w g T A) : w.frozen? ⟨g, 0, none⟩ = false ∧ w.frozen? ⟨g, 1, none⟩ = false ∧ w.frozen? ⟨g, 2, none⟩ = false ∧ w.frozen? ⟨g, 3, none⟩ = false ∧ w.frozen? ⟨g, 4, none⟩ = false ∧ w.frozen? ⟨g, 5, none⟩ = false ∧ w.frozen? ⟨g, 6, none⟩ = false ∧ w.frozen? ⟨g, 7, none⟩ = false := by
  unfold Box8 at h
  exact ⟨by simp [World.frozen?, h], by simp [World.frozen?, h], by simp [World.frozen?, h], by simp [World.frozen?, h], by simp [World.frozen?, h], by simp [World.frozen?, h], by simp [World.frozen?, h], by simp [World.frozen?, h]⟩
theorem Box8.below (h : Box8 w g T A) (t : Below w.heap.size w w') : Box8 w' g T A := (t.block g h.lt).trans h
theorem Box8.grown {row : Option Nat} (h : Box8 w g T A) (hg : w.grownBy w' row) (hne : row ≠ some g) : Box8 w' g T A := (hg.block g h.lt (fun e => hne e.symm)).trans h
end
theorem Box8.setAll {w : World} {g : Nat} {T : TypeId} {A : Nat → Int} (h : Box8 w g T A) (B : Nat → Int) : Box8 ((((((((w.setCell ⟨g, 0, none⟩ (.int .i64 (B 0))).setCell ⟨g, 1, none⟩ (.int .i64 (B 1))).setCell ⟨g, 2, none⟩ (.int .i64 (B 2))).setCell ⟨g, 3, none⟩ (.int .i64 (B 3))).setCell ⟨g, 4, none⟩ (.int .i64 (B 4))).setCell ⟨g, 5, none⟩ (.int .i64 (B 5))).setCell ⟨g, 6, none⟩ (.int .i64 (B 6))).setCell ⟨g, 7, none⟩ (.int .i64 (B 7))) g T B := by
  unfold Box8 at h ⊢
  simp [World.setCell, Array.getElem?_modify, h]
theorem Box8.up0 {w : World} {g : Nat} {T : TypeId} {A : Nat → Int} (h : Box8 w g T A) : Box8 (w.setCell ⟨g, 0, none⟩ (.int .i64 (A 0 + 1))) g T (M.upd8 A 0) := by
  unfold Box8 at h ⊢
  simp [World.setCell, Array.getElem?_modify, h, M.upd8]
theorem Box8.up1 {w : World} {g : Nat} {T : TypeId} {A : Nat → Int} (h : Box8 w g T A) : Box8 (w.setCell ⟨g, 1, none⟩ (.int .i64 (A 1 + 1))) g T (M.upd8 A 1) := by
  unfold Box8 at h ⊢
  simp [World.setCell, Array.getElem?_modify, h, M.upd8]
theorem Box8.up2 {w : World} {g : Nat} {T : TypeId} {A : Nat → Int} (h : Box8 w g T A) : Box8 (w.setCell ⟨g, 2, none⟩ (.int .i64 (A 2 + 1))) g T (M.upd8 A 2) := by
  unfold Box8 at h ⊢
  simp [World.setCell, Array.getElem?_modify, h, M.upd8]
theorem Box8.up3 {w : World} {g : Nat} {T : TypeId} {A : Nat → Int} (h : Box8 w g T A) : Box8 (w.setCell ⟨g, 3, none⟩ (.int .i64 (A 3 + 1))) g T (M.upd8 A 3) := by
  unfold Box8 at h ⊢
  simp [World.setCell, Array.getElem?_modify, h, M.upd8]
theorem Box8.up4 {w : World} {g : Nat} {T : TypeId} {A : Nat → Int} (h : Box8 w g T A) : Box8 (w.setCell ⟨g, 4, none⟩ (.int .i64 (A 4 + 1))) g T (M.upd8 A 4) := by
  unfold Box8 at h ⊢
  simp [World.setCell, Array.getElem?_modify, h, M.upd8]
theorem Box8.up5 {w : World} {g : Nat} {T : TypeId} {A : Nat → Int} (h : Box8 w g T A) : Box8 (w.setCell ⟨g, 5, none⟩ (.int .i64 (A 5 + 1))) g T (M.upd8 A 5) := by
  unfold Box8 at h ⊢
  simp [World.setCell, Array.getElem?_modify, h, M.upd8]
theorem Box8.up6 {w : World} {g : Nat} {T : TypeId} {A : Nat → Int} (h : Box8 w g T A) : Box8 (w.setCell ⟨g, 6, none⟩ (.int .i64 (A 6 + 1))) g T (M.upd8 A 6) := by
  unfold Box8 at h ⊢
  simp [World.setCell, Array.getElem?_modify, h, M.upd8]
theorem Box8.up7 {w : World} {g : Nat} {T : TypeId} {A : Nat → Int} (h : Box8 w g T A) : Box8 (w.setCell ⟨g, 7, none⟩ (.int .i64 (A 7 + 1))) g T (M.upd8 A 7) := by
  unfold Box8 at h ⊢
  simp [World.setCell, Array.getElem?_modify, h, M.upd8]
theorem step8_any (W : World) (A : Nat → Int) (f p k x pb : Nat) (dep : Int) (hc : W.cell? ⟨f, p, none⟩ = some (.int .i64 (x : Int))) (hfl : f < W.heap.size) (hp : p < k) (hk : k ≤ 6) (hb : Boxed W pb 3 (.int .i64 (p : Int))) (hx : x < 8) (hA : ∀ i, 0 ≤ A i ∧ A i ≤ 4096) :
    Calls Try.prog 83 #[agg8 A, .slice (some ⟨f, 0, none⟩) k k, .int .i64 dep, .pointer (some ⟨pb, 0, none⟩)] W fun e w' => e = .returned (agg8 (M.upd8 A x)) ∧ Below W.heap.size W w' := by
  have HB := Lib.hid hb
  have HC := Lib.hid hc
  have HP := Lib.hid hb.lt
  clear hb hc
  unfold agg8
  go_enter Try.func83, Try.ntmps83
  go_upto_region 1 with fail
  refine wp_named ?_
  intro W1 hW1
  have hb1 : Below W.heap.size W W1 := by rw [hW1]; exact (below_alloc _ _).alloc (by simp) _
  have y1 : Box8 W1 W.heap.size 83 A := by rw [hW1]; exact (Box8.new _ _ rfl).alloc _
  have y2 : Box8 W1 (W.heap.size + 1) 83 (fun _ => 0) := by rw [hW1]; exact Box8.new (w := W.alloc (.cells #[.int .i64 (A 0), .int .i64 (A 1), .int .i64 (A 2), .int .i64 (A 3), .int .i64 (A 4), .int .i64 (A 5), .int .i64 (A 6), .int .i64 (A 7)] 83)) _ (fun _ => 0) (by simp)
  have hz1 : W1.heap.size = W.heap.size + 2 := by rw [hW1]; simp
  clear hW1
  have p0 := (Boxed.low HB.out hb1).cell
  have hf : W1.cell? ⟨f, p, none⟩ = some (.int .i64 (x : Int)) := (hb1.cell (p := ⟨f, p, none⟩) hfl).trans HC.out
  obtain ⟨a0, a1, a2, a3, a4, a5, a6, a7⟩ := y1.cells
  obtain ⟨g0, g1, g2, g3, g4, g5, g6, g7⟩ := y1.free
  have Y1 := Lib.hid y1
  have Y2 := Lib.hid y2
  have HB1 := Lib.hid hb1
  have hpl := HP.out
  clear y1 y2 hb1
  have hAx := hA x
  have HXX : x = 0 ∨ x = 1 ∨ x = 2 ∨ x = 3 ∨ x = 4 ∨ x = 5 ∨ x = 6 ∨ x = 7 := by omega
  rcases HXX with rfl | rfl | rfl | rfl | rfl | rfl | rfl | rfl
  · go_upto_region 2 with fail
    refine wp_named ?_
    intro W2 hW2
    have z1 : Box8 W2 W.heap.size 83 (M.upd8 A 0) := by rw [hW2]; exact Y1.out.up0
    have z2 : Box8 W2 (W.heap.size + 1) 83 (fun _ => 0) := by rw [hW2]; exact (Below.heap_setCell W1 ⟨W.heap.size, 0, none⟩ _ (W.heap.size + 1) (fun e => by have e' : W.heap.size + 1 = W.heap.size := e; omega)).trans Y2.out
    have HB2 : Hid (Below W.heap.size W W2) := Lib.hid (by rw [hW2]; exact HB1.out.setCell (p := ⟨W.heap.size, 0, none⟩) (Nat.le_refl _) _)
    have hz2 : W2.heap.size = W1.heap.size := by rw [hW2]; simp
    clear hW2 a0 a1 a2 a3 a4 a5 a6 a7 g0 g1 g2 g3 g4 g5 g6 g7 hf p0
    obtain ⟨a0, a1, a2, a3, a4, a5, a6, a7⟩ := z1.cells
    obtain ⟨b0, b1, b2, b3, b4, b5, b6, b7⟩ := z2.cells
    obtain ⟨g0, g1, g2, g3, g4, g5, g6, g7⟩ := z2.free
    obtain ⟨q0, q1, q2, q3, q4, q5, q6, q7⟩ := (z2.setAll (M.upd8 A 0)).cells
    have hl2 := z2.lt
    clear z1 z2
    go_wp2_with fail
    refine ⟨rfl, agg8 (M.upd8 A 0), by simp [results, Try.results83, go_sem, agg8, q0, q1, q2, q3, q4, q5, q6, q7], ?_⟩
    exact ⟨rfl, ((((((((HB2.out.setCell (p := ⟨W.heap.size + 1, 0, none⟩) (show W.heap.size ≤ W.heap.size + 1 by omega) _).setCell (p := ⟨W.heap.size + 1, 1, none⟩) (show W.heap.size ≤ W.heap.size + 1 by omega) _).setCell (p := ⟨W.heap.size + 1, 2, none⟩) (show W.heap.size ≤ W.heap.size + 1 by omega) _).setCell (p := ⟨W.heap.size + 1, 3, none⟩) (show W.heap.size ≤ W.heap.size + 1 by omega) _).setCell (p := ⟨W.heap.size + 1, 4, none⟩) (show W.heap.size ≤ W.heap.size + 1 by omega) _).setCell (p := ⟨W.heap.size + 1, 5, none⟩) (show W.heap.size ≤ W.heap.size + 1 by omega) _).setCell (p := ⟨W.heap.size + 1, 6, none⟩) (show W.heap.size ≤ W.heap.size + 1 by omega) _).setCell (p := ⟨W.heap.size + 1, 7, none⟩) (show W.heap.size ≤ W.heap.size + 1 by omega) _)⟩
  · go_upto_region 2 with fail
    refine wp_named ?_
    intro W2 hW2
    have z1 : Box8 W2 W.heap.size 83 (M.upd8 A 1) := by rw [hW2]; exact Y1.out.up1
    have z2 : Box8 W2 (W.heap.size + 1) 83 (fun _ => 0) := by rw [hW2]; exact (Below.heap_setCell W1 ⟨W.heap.size, 1, none⟩ _ (W.heap.size + 1) (fun e => by have e' : W.heap.size + 1 = W.heap.size := e; omega)).trans Y2.out
    have HB2 : Hid (Below W.heap.size W W2) := Lib.hid (by rw [hW2]; exact HB1.out.setCell (p := ⟨W.heap.size, 1, none⟩) (Nat.le_refl _) _)
    have hz2 : W2.heap.size = W1.heap.size := by rw [hW2]; simp
    clear hW2 a0 a1 a2 a3 a4 a5 a6 a7 g0 g1 g2 g3 g4 g5 g6 g7 hf p0
    obtain ⟨a0, a1, a2, a3, a4, a5, a6, a7⟩ := z1.cells
    obtain ⟨b0, b1, b2, b3, b4, b5, b6, b7⟩ := z2.cells
    obtain ⟨g0, g1, g2, g3, g4, g5, g6, g7⟩ := z2.free
    obtain ⟨q0, q1, q2, q3, q4, q5, q6, q7⟩ := (z2.setAll (M.upd8 A 1)).cells
    have hl2 := z2.lt
    clear z1 z2
    go_wp2_with fail
    refine ⟨rfl, agg8 (M.upd8 A 1), by simp [results, Try.results83, go_sem, agg8, q0, q1, q2, q3, q4, q5, q6, q7], ?_⟩
    exact ⟨rfl, ((((((((HB2.out.setCell (p := ⟨W.heap.size + 1, 0, none⟩) (show W.heap.size ≤ W.heap.size + 1 by omega) _).setCell (p := ⟨W.heap.size + 1, 1, none⟩) (show W.heap.size ≤ W.heap.size + 1 by omega) _).setCell (p := ⟨W.heap.size + 1, 2, none⟩) (show W.heap.size ≤ W.heap.size + 1 by omega) _).setCell (p := ⟨W.heap.size + 1, 3, none⟩) (show W.heap.size ≤ W.heap.size + 1 by omega) _).setCell (p := ⟨W.heap.size + 1, 4, none⟩) (show W.heap.size ≤ W.heap.size + 1 by omega) _).setCell (p := ⟨W.heap.size + 1, 5, none⟩) (show W.heap.size ≤ W.heap.size + 1 by omega) _).setCell (p := ⟨W.heap.size + 1, 6, none⟩) (show W.heap.size ≤ W.heap.size + 1 by omega) _).setCell (p := ⟨W.heap.size + 1, 7, none⟩) (show W.heap.size ≤ W.heap.size + 1 by omega) _)⟩
  · go_upto_region 2 with fail
    refine wp_named ?_
    intro W2 hW2
    have z1 : Box8 W2 W.heap.size 83 (M.upd8 A 2) := by rw [hW2]; exact Y1.out.up2
    have z2 : Box8 W2 (W.heap.size + 1) 83 (fun _ => 0) := by rw [hW2]; exact (Below.heap_setCell W1 ⟨W.heap.size, 2, none⟩ _ (W.heap.size + 1) (fun e => by have e' : W.heap.size + 1 = W.heap.size := e; omega)).trans Y2.out
    have HB2 : Hid (Below W.heap.size W W2) := Lib.hid (by rw [hW2]; exact HB1.out.setCell (p := ⟨W.heap.size, 2, none⟩) (Nat.le_refl _) _)
    have hz2 : W2.heap.size = W1.heap.size := by rw [hW2]; simp
    clear hW2 a0 a1 a2 a3 a4 a5 a6 a7 g0 g1 g2 g3 g4 g5 g6 g7 hf p0
    obtain ⟨a0, a1, a2, a3, a4, a5, a6, a7⟩ := z1.cells
    obtain ⟨b0, b1, b2, b3, b4, b5, b6, b7⟩ := z2.cells
    obtain ⟨g0, g1, g2, g3, g4, g5, g6, g7⟩ := z2.free
    obtain ⟨q0, q1, q2, q3, q4, q5, q6, q7⟩ := (z2.setAll (M.upd8 A 2)).cells
    have hl2 := z2.lt
    clear z1 z2
    go_wp2_with fail
    refine ⟨rfl, agg8 (M.upd8 A 2), by simp [results, Try.results83, go_sem, agg8, q0, q1, q2, q3, q4, q5, q6, q7], ?_⟩
    exact ⟨rfl, ((((((((HB2.out.setCell (p := ⟨W.heap.size + 1, 0, none⟩) (show W.heap.size ≤ W.heap.size + 1 by omega) _).setCell (p := ⟨W.heap.size + 1, 1, none⟩) (show W.heap.size ≤ W.heap.size + 1 by omega) _).setCell (p := ⟨W.heap.size + 1, 2, none⟩) (show W.heap.size ≤ W.heap.size + 1 by omega) _).setCell (p := ⟨W.heap.size + 1, 3, none⟩) (show W.heap.size ≤ W.heap.size + 1 by omega) _).setCell (p := ⟨W.heap.size + 1, 4, none⟩) (show W.heap.size ≤ W.heap.size + 1 by omega) _).setCell (p := ⟨W.heap.size + 1, 5, none⟩) (show W.heap.size ≤ W.heap.size + 1 by omega) _).setCell (p := ⟨W.heap.size + 1, 6, none⟩) (show W.heap.size ≤ W.heap.size + 1 by omega) _).setCell (p := ⟨W.heap.size + 1, 7, none⟩) (show W.heap.size ≤ W.heap.size + 1 by omega) _)⟩
  · go_upto_region 2 with fail
    refine wp_named ?_
    intro W2 hW2
    have z1 : Box8 W2 W.heap.size 83 (M.upd8 A 3) := by rw [hW2]; exact Y1.out.up3
    have z2 : Box8 W2 (W.heap.size + 1) 83 (fun _ => 0) := by rw [hW2]; exact (Below.heap_setCell W1 ⟨W.heap.size, 3, none⟩ _ (W.heap.size + 1) (fun e => by have e' : W.heap.size + 1 = W.heap.size := e; omega)).trans Y2.out
    have HB2 : Hid (Below W.heap.size W W2) := Lib.hid (by rw [hW2]; exact HB1.out.setCell (p := ⟨W.heap.size, 3, none⟩) (Nat.le_refl _) _)
    have hz2 : W2.heap.size = W1.heap.size := by rw [hW2]; simp
    clear hW2 a0 a1 a2 a3 a4 a5 a6 a7 g0 g1 g2 g3 g4 g5 g6 g7 hf p0
    obtain ⟨a0, a1, a2, a3, a4, a5, a6, a7⟩ := z1.cells
    obtain ⟨b0, b1, b2, b3, b4, b5, b6, b7⟩ := z2.cells
    obtain ⟨g0, g1, g2, g3, g4, g5, g6, g7⟩ := z2.free
    obtain ⟨q0, q1, q2, q3, q4, q5, q6, q7⟩ := (z2.setAll (M.upd8 A 3)).cells
    have hl2 := z2.lt
    clear z1 z2
    go_wp2_with fail
    refine ⟨rfl, agg8 (M.upd8 A 3), by simp [results, Try.results83, go_sem, agg8, q0, q1, q2, q3, q4, q5, q6, q7], ?_⟩
    exact ⟨rfl, ((((((((HB2.out.setCell (p := ⟨W.heap.size + 1, 0, none⟩) (show W.heap.size ≤ W.heap.size + 1 by omega) _).setCell (p := ⟨W.heap.size + 1, 1, none⟩) (show W.heap.size ≤ W.heap.size + 1 by omega) _).setCell (p := ⟨W.heap.size + 1, 2, none⟩) (show W.heap.size ≤ W.heap.size + 1 by omega) _).setCell (p := ⟨W.heap.size + 1, 3, none⟩) (show W.heap.size ≤ W.heap.size + 1 by omega) _).setCell (p := ⟨W.heap.size + 1, 4, none⟩) (show W.heap.size ≤ W.heap.size + 1 by omega) _).setCell (p := ⟨W.heap.size + 1, 5, none⟩) (show W.heap.size ≤ W.heap.size + 1 by omega) _).setCell (p := ⟨W.heap.size + 1, 6, none⟩) (show W.heap.size ≤ W.heap.size + 1 by omega) _).setCell (p := ⟨W.heap.size + 1, 7, none⟩) (show W.heap.size ≤ W.heap.size + 1 by omega) _)⟩
  · go_upto_region 2 with fail
    refine wp_named ?_
    intro W2 hW2
    have z1 : Box8 W2 W.heap.size 83 (M.upd8 A 4) := by rw [hW2]; exact Y1.out.up4
    have z2 : Box8 W2 (W.heap.size + 1) 83 (fun _ => 0) := by rw [hW2]; exact (Below.heap_setCell W1 ⟨W.heap.size, 4, none⟩ _ (W.heap.size + 1) (fun e => by have e' : W.heap.size + 1 = W.heap.size := e; omega)).trans Y2.out
    have HB2 : Hid (Below W.heap.size W W2) := Lib.hid (by rw [hW2]; exact HB1.out.setCell (p := ⟨W.heap.size, 4, none⟩) (Nat.le_refl _) _)
    have hz2 : W2.heap.size = W1.heap.size := by rw [hW2]; simp
    clear hW2 a0 a1 a2 a3 a4 a5 a6 a7 g0 g1 g2 g3 g4 g5 g6 g7 hf p0
    obtain ⟨a0, a1, a2, a3, a4, a5, a6, a7⟩ := z1.cells
    obtain ⟨b0, b1, b2, b3, b4, b5, b6, b7⟩ := z2.cells
    obtain ⟨g0, g1, g2, g3, g4, g5, g6, g7⟩ := z2.free
    obtain ⟨q0, q1, q2, q3, q4, q5, q6, q7⟩ := (z2.setAll (M.upd8 A 4)).cells
    have hl2 := z2.lt
    clear z1 z2
    go_wp2_with fail
    refine ⟨rfl, agg8 (M.upd8 A 4), by simp [results, Try.results83, go_sem, agg8, q0, q1, q2, q3, q4, q5, q6, q7], ?_⟩
    exact ⟨rfl, ((((((((HB2.out.setCell (p := ⟨W.heap.size + 1, 0, none⟩) (show W.heap.size ≤ W.heap.size + 1 by omega) _).setCell (p := ⟨W.heap.size + 1, 1, none⟩) (show W.heap.size ≤ W.heap.size + 1 by omega) _).setCell (p := ⟨W.heap.size + 1, 2, none⟩) (show W.heap.size ≤ W.heap.size + 1 by omega) _).setCell (p := ⟨W.heap.size + 1, 3, none⟩) (show W.heap.size ≤ W.heap.size + 1 by omega) _).setCell (p := ⟨W.heap.size + 1, 4, none⟩) (show W.heap.size ≤ W.heap.size + 1 by omega) _).setCell (p := ⟨W.heap.size + 1, 5, none⟩) (show W.heap.size ≤ W.heap.size + 1 by omega) _).setCell (p := ⟨W.heap.size + 1, 6, none⟩) (show W.heap.size ≤ W.heap.size + 1 by omega) _).setCell (p := ⟨W.heap.size + 1, 7, none⟩) (show W.heap.size ≤ W.heap.size + 1 by omega) _)⟩
  · go_upto_region 2 with fail
    refine wp_named ?_
    intro W2 hW2
    have z1 : Box8 W2 W.heap.size 83 (M.upd8 A 5) := by rw [hW2]; exact Y1.out.up5
    have z2 : Box8 W2 (W.heap.size + 1) 83 (fun _ => 0) := by rw [hW2]; exact (Below.heap_setCell W1 ⟨W.heap.size, 5, none⟩ _ (W.heap.size + 1) (fun e => by have e' : W.heap.size + 1 = W.heap.size := e; omega)).trans Y2.out
    have HB2 : Hid (Below W.heap.size W W2) := Lib.hid (by rw [hW2]; exact HB1.out.setCell (p := ⟨W.heap.size, 5, none⟩) (Nat.le_refl _) _)
    have hz2 : W2.heap.size = W1.heap.size := by rw [hW2]; simp
    clear hW2 a0 a1 a2 a3 a4 a5 a6 a7 g0 g1 g2 g3 g4 g5 g6 g7 hf p0
    obtain ⟨a0, a1, a2, a3, a4, a5, a6, a7⟩ := z1.cells
    obtain ⟨b0, b1, b2, b3, b4, b5, b6, b7⟩ := z2.cells
    obtain ⟨g0, g1, g2, g3, g4, g5, g6, g7⟩ := z2.free
    obtain ⟨q0, q1, q2, q3, q4, q5, q6, q7⟩ := (z2.setAll (M.upd8 A 5)).cells
    have hl2 := z2.lt
    clear z1 z2
    go_wp2_with fail
    refine ⟨rfl, agg8 (M.upd8 A 5), by simp [results, Try.results83, go_sem, agg8, q0, q1, q2, q3, q4, q5, q6, q7], ?_⟩
    exact ⟨rfl, ((((((((HB2.out.setCell (p := ⟨W.heap.size + 1, 0, none⟩) (show W.heap.size ≤ W.heap.size + 1 by omega) _).setCell (p := ⟨W.heap.size + 1, 1, none⟩) (show W.heap.size ≤ W.heap.size + 1 by omega) _).setCell (p := ⟨W.heap.size + 1, 2, none⟩) (show W.heap.size ≤ W.heap.size + 1 by omega) _).setCell (p := ⟨W.heap.size + 1, 3, none⟩) (show W.heap.size ≤ W.heap.size + 1 by omega) _).setCell (p := ⟨W.heap.size + 1, 4, none⟩) (show W.heap.size ≤ W.heap.size + 1 by omega) _).setCell (p := ⟨W.heap.size + 1, 5, none⟩) (show W.heap.size ≤ W.heap.size + 1 by omega) _).setCell (p := ⟨W.heap.size + 1, 6, none⟩) (show W.heap.size ≤ W.heap.size + 1 by omega) _).setCell (p := ⟨W.heap.size + 1, 7, none⟩) (show W.heap.size ≤ W.heap.size + 1 by omega) _)⟩
  · go_upto_region 2 with fail
    refine wp_named ?_
    intro W2 hW2
    have z1 : Box8 W2 W.heap.size 83 (M.upd8 A 6) := by rw [hW2]; exact Y1.out.up6
    have z2 : Box8 W2 (W.heap.size + 1) 83 (fun _ => 0) := by rw [hW2]; exact (Below.heap_setCell W1 ⟨W.heap.size, 6, none⟩ _ (W.heap.size + 1) (fun e => by have e' : W.heap.size + 1 = W.heap.size := e; omega)).trans Y2.out
    have HB2 : Hid (Below W.heap.size W W2) := Lib.hid (by rw [hW2]; exact HB1.out.setCell (p := ⟨W.heap.size, 6, none⟩) (Nat.le_refl _) _)
    have hz2 : W2.heap.size = W1.heap.size := by rw [hW2]; simp
    clear hW2 a0 a1 a2 a3 a4 a5 a6 a7 g0 g1 g2 g3 g4 g5 g6 g7 hf p0
    obtain ⟨a0, a1, a2, a3, a4, a5, a6, a7⟩ := z1.cells
    obtain ⟨b0, b1, b2, b3, b4, b5, b6, b7⟩ := z2.cells
    obtain ⟨g0, g1, g2, g3, g4, g5, g6, g7⟩ := z2.free
    obtain ⟨q0, q1, q2, q3, q4, q5, q6, q7⟩ := (z2.setAll (M.upd8 A 6)).cells
    have hl2 := z2.lt
    clear z1 z2
    go_wp2_with fail
    refine ⟨rfl, agg8 (M.upd8 A 6), by simp [results, Try.results83, go_sem, agg8, q0, q1, q2, q3, q4, q5, q6, q7], ?_⟩
    exact ⟨rfl, ((((((((HB2.out.setCell (p := ⟨W.heap.size + 1, 0, none⟩) (show W.heap.size ≤ W.heap.size + 1 by omega) _).setCell (p := ⟨W.heap.size + 1, 1, none⟩) (show W.heap.size ≤ W.heap.size + 1 by omega) _).setCell (p := ⟨W.heap.size + 1, 2, none⟩) (show W.heap.size ≤ W.heap.size + 1 by omega) _).setCell (p := ⟨W.heap.size + 1, 3, none⟩) (show W.heap.size ≤ W.heap.size + 1 by omega) _).setCell (p := ⟨W.heap.size + 1, 4, none⟩) (show W.heap.size ≤ W.heap.size + 1 by omega) _).setCell (p := ⟨W.heap.size + 1, 5, none⟩) (show W.heap.size ≤ W.heap.size + 1 by omega) _).setCell (p := ⟨W.heap.size + 1, 6, none⟩) (show W.heap.size ≤ W.heap.size + 1 by omega) _).setCell (p := ⟨W.heap.size + 1, 7, none⟩) (show W.heap.size ≤ W.heap.size + 1 by omega) _)⟩
  · go_upto_region 2 with fail
    refine wp_named ?_
    intro W2 hW2
    have z1 : Box8 W2 W.heap.size 83 (M.upd8 A 7) := by rw [hW2]; exact Y1.out.up7
    have z2 : Box8 W2 (W.heap.size + 1) 83 (fun _ => 0) := by rw [hW2]; exact (Below.heap_setCell W1 ⟨W.heap.size, 7, none⟩ _ (W.heap.size + 1) (fun e => by have e' : W.heap.size + 1 = W.heap.size := e; omega)).trans Y2.out
    have HB2 : Hid (Below W.heap.size W W2) := Lib.hid (by rw [hW2]; exact HB1.out.setCell (p := ⟨W.heap.size, 7, none⟩) (Nat.le_refl _) _)
    have hz2 : W2.heap.size = W1.heap.size := by rw [hW2]; simp
    clear hW2 a0 a1 a2 a3 a4 a5 a6 a7 g0 g1 g2 g3 g4 g5 g6 g7 hf p0
    obtain ⟨a0, a1, a2, a3, a4, a5, a6, a7⟩ := z1.cells
    obtain ⟨b0, b1, b2, b3, b4, b5, b6, b7⟩ := z2.cells
    obtain ⟨g0, g1, g2, g3, g4, g5, g6, g7⟩ := z2.free
    obtain ⟨q0, q1, q2, q3, q4, q5, q6, q7⟩ := (z2.setAll (M.upd8 A 7)).cells
    have hl2 := z2.lt
    clear z1 z2
    go_wp2_with fail
    refine ⟨rfl, agg8 (M.upd8 A 7), by simp [results, Try.results83, go_sem, agg8, q0, q1, q2, q3, q4, q5, q6, q7], ?_⟩
    exact ⟨rfl, ((((((((HB2.out.setCell (p := ⟨W.heap.size + 1, 0, none⟩) (show W.heap.size ≤ W.heap.size + 1 by omega) _).setCell (p := ⟨W.heap.size + 1, 1, none⟩) (show W.heap.size ≤ W.heap.size + 1 by omega) _).setCell (p := ⟨W.heap.size + 1, 2, none⟩) (show W.heap.size ≤ W.heap.size + 1 by omega) _).setCell (p := ⟨W.heap.size + 1, 3, none⟩) (show W.heap.size ≤ W.heap.size + 1 by omega) _).setCell (p := ⟨W.heap.size + 1, 4, none⟩) (show W.heap.size ≤ W.heap.size + 1 by omega) _).setCell (p := ⟨W.heap.size + 1, 5, none⟩) (show W.heap.size ≤ W.heap.size + 1 by omega) _).setCell (p := ⟨W.heap.size + 1, 6, none⟩) (show W.heap.size ≤ W.heap.size + 1 by omega) _).setCell (p := ⟨W.heap.size + 1, 7, none⟩) (show W.heap.size ≤ W.heap.size + 1 by omega) _)⟩
end C
end Go.Proofs.Ytddpjjdncmokmaa
