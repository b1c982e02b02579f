/-
  CONTRACTS for a door put to its place: spec.l1Least, spec.l1Most; words on rows. No condition.
-/
import Derived.Test.YthgmkkkfhbjhoaaOwnMaz3
import Derived.Test.YthgmkkkfhbjhoaaSpecMaze
import Derived.Test.YthgmkkkfhbjhoaaArr2
import Derived.Test.YthgmkkkfhbjhoaaSortMath
namespace Go.Proofs.Ythgmkkkfhbjhoaa
open Go.RowKit
namespace C
set_option maxHeartbeats 800000
set_option maxRecDepth 20000
/-- doors in memory from B on, the rest as it was -/
def PutPost (B : Nat) (w : World) (l : List M.Dr) (e : Ending) (w' : World) : Prop :=
  ∃ a c, e = .returned (.slice a l.length c) ∧ OwnAt B w'.heap.size w' 48 a (M.encDs l) ∧ l.length ≤ c ∧ c ≤ 9223372036854775807 ∧ Below w.heap.size w w'
theorem put_end {B n : Nat} {w w' W : World} {l xs : List M.Dr} {v : Value} (hW : Below w.heap.size w W) (hB : B ≤ w.heap.size) (h : w'.ownsRow W.heap.size 48 3 v n (M.encDs xs)) (hx : xs = l) (hn : n = l.length) (hb : Below W.heap.size W w') : PutPost B w l (.returned v) w' := by
  subst hx; subst hn
  obtain ⟨a, c, rfl, h1, h2, h3⟩ := own_slice h
  have := hW.size
  exact ⟨a, c, rfl, h3.mono (by omega) (Nat.le_refl _), h1, h2, hW.trans (hb.mono this)⟩
theorem encDs_single (d : M.Dr) : M.encDs [d] = M.encD d := by simp [M.encDs]
theorem encD_one (d : M.Dr) : ∀ x ∈ M.encD d, x.oneCell' = true := by
  intro x hx
  simp [M.encD] at hx
  rcases hx with rfl | rfl | rfl <;> rfl
theorem news3 {w : World} {g : Nat} {d : M.Dr} (h : Box3 w g 48 (.int .i64 d.1) (.int .i64 d.2.1) (.int .i64 d.2.2)) : ∀ j u, (M.encD d)[j]? = some u → w.cell? ((⟨g, 0, none⟩ : Addr).add j) = some u := World.news_of_block h
theorem add_off (b off j : Nat) : (⟨b, off, none⟩ : Addr).add j = ⟨b, off + j, none⟩ := by
  unfold Addr.add
  split
  · rename_i h; subst h; rfl
  · rfl
theorem news_take {W : World} {b off : Nat} {l : List M.Dr} (h : ∀ j u, (M.encDs l)[j]? = some u → W.cell? ⟨b, off + j, none⟩ = some u) (k : Nat) : ∀ j u, (M.encDs (l.take k))[j]? = some u → W.cell? ((⟨b, off, none⟩ : Addr).add j) = some u := by
  intro j u hu
  rw [M.encDs_take, List.getElem?_take] at hu
  split at hu
  · rw [add_off]; exact h j u hu
  · cases hu
theorem news_drop {W : World} {b off : Nat} {l : List M.Dr} (h : ∀ j u, (M.encDs l)[j]? = some u → W.cell? ⟨b, off + j, none⟩ = some u) (k : Nat) : ∀ j u, (M.encDs (l.drop k))[j]? = some u → W.cell? ((⟨b, off + k * 3, none⟩ : Addr).add j) = some u := by
  intro j u hu
  rw [M.encDs_drop, List.getElem?_drop] at hu
  rw [add_off, Nat.add_assoc]
  exact h _ u hu
end C
end Go.Proofs.Ythgmkkkfhbjhoaa
