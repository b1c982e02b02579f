/-
  WHAT THE STATEMENTS over works share: how works that came in read; how they lie in memory. No condition of its own.
-/
import Derived.Test.YtdgfceiobpnchaaBaseW
import Derived.Test.YtdgfceiobpnchaaWkM
namespace Go.Proofs.Ytdgfceiobpnchaa
open Go.ChangeShapes Go.WideShapes Go.ChangeAt Go.RowKit
open Go.ChangeMaps (open_string shut_string)
namespace C
/-- a maze in memory: its doors and its keys -/
structure WkIn (lo hi : Nat) (w : World) (m : M.Wk) (a : Option Addr) (c : Nat) (b : Option Addr) (d : Nat) : Prop where
  gates : RowIn lo hi w a (M.encGs m.gates)
  pulls : RowIn lo hi w b (M.encIs m.pulls)
  c1 : m.gates.length ≤ c
  c2 : c ≤ 9223372036854775807
  d1 : m.pulls.length ≤ d
  d2 : d ≤ 9223372036854775807
/-- the same, and it may be written -/
structure WkOwn (lo hi : Nat) (w : World) (m : M.Wk) (a : Option Addr) (c : Nat) (b : Option Addr) (d : Nat) : Prop where
  gates : OwnAt lo hi w 67 a (M.encGs m.gates)
  pulls : OwnAt lo hi w 3 b (M.encIs m.pulls)
  c1 : m.gates.length ≤ c
  c2 : c ≤ 9223372036854775807
  d1 : m.pulls.length ≤ d
  d2 : d ≤ 9223372036854775807
section
variable {lo hi lo' hi' : Nat} {w w' : World} {m : M.Wk} {a b : Option Addr} {c d : Nat}
theorem WkOwn.mz (h : WkOwn lo hi w m a c b d) : WkIn lo hi w m a c b d := ⟨h.gates.row, h.pulls.row, h.c1, h.c2, h.d1, h.d2⟩
theorem WkIn.turned (h : WkIn lo hi w m a c b d) (t : Turned lo' hi' w w') (hz : hi ≤ w.heap.size) (hd : hi ≤ lo' ∨ hi' ≤ lo) : WkIn lo hi w' m a c b d := ⟨h.gates.turned t hz hd, h.pulls.turned t hz hd, h.c1, h.c2, h.d1, h.d2⟩
theorem WkOwn.turned (h : WkOwn lo hi w m a c b d) (t : Turned lo' hi' w w') (hz : hi ≤ w.heap.size) (hd : hi ≤ lo' ∨ hi' ≤ lo) : WkOwn lo hi w' m a c b d := ⟨h.gates.turned t hz hd, h.pulls.turned t hz hd, h.c1, h.c2, h.d1, h.d2⟩
theorem WkIn.below (h : WkIn lo hi w m a c b d) (t : Below w.heap.size w w') (hz : hi ≤ w.heap.size) : WkIn lo hi w' m a c b d := h.turned (Turned.of_below t hi hi) hz (.inl (Nat.le_refl _))
theorem WkOwn.below (h : WkOwn lo hi w m a c b d) (t : Below w.heap.size w w') (hz : hi ≤ w.heap.size) : WkOwn lo hi w' m a c b d := h.turned (Turned.of_below t hi hi) hz (.inl (Nat.le_refl _))
theorem WkIn.mono (h : WkIn lo hi w m a c b d) (h1 : lo' ≤ lo) (h2 : hi ≤ hi') : WkIn lo' hi' w m a c b d := ⟨h.gates.mono h1 h2, h.pulls.mono h1 h2, h.c1, h.c2, h.d1, h.d2⟩
theorem WkOwn.mono (h : WkOwn lo hi w m a c b d) (h1 : lo' ≤ lo) (h2 : hi ≤ hi') : WkOwn lo' hi' w m a c b d := ⟨h.gates.mono h1 h2, h.pulls.mono h1 h2, h.c1, h.c2, h.d1, h.d2⟩
end
def wk0 : M.Wk := ⟨0, [], []⟩
theorem WkOwn.zero (lo hi : Nat) (w : World) : WkOwn lo hi w wk0 none 0 none 0 := ⟨OwnAt.nil _ _ _ _ _, OwnAt.nil _ _ _ _ _, by simp [wk0], by omega, by simp [wk0], by omega⟩
section
variable {H : Type} {enc : TypeId × Value → H} {w : World} {B : Nat} {sp : Nat → Bool} {hd : Bool}
set_option maxRecDepth 4000 in
theorem gate_cells {fuel : Nat} {cs : List Value} {x : DataW H × List MemPlace} (hf : DataW.trod enc Try.prog w B sp hd fuel 67 cs = some x) : ∃ d : M.Gt, cs = M.encG d := by
  obtain ⟨xs, m, rfl, _, hl, hx, hi⟩ := Go.DataW.trod_array Try.underlying67 hf
  have hc : Try.prog.cellsOf 67 = 4 := by kernel_rfl
  have hc1 : Try.prog.cellsOf 3 = 1 := by kernel_rfl
  rw [hc] at hl
  match cs, hl with
  | [u0, u1, u2, u3], _ =>
    have g : ∀ (i : Nat) (hi' : i < 4) (u : Value), ((([u0, u1, u2, u3] : List Value).drop (i * 1)).take 1) = [u] → ∃ z : Int, u = .int .i64 z := by
      intro i hi' u hu
      have h0 := hi i hi'
      rw [hc1, hu] at h0
      have hxi : xs[i]? = some (xs[i]'(by omega)) := List.getElem?_eq_getElem (by omega)
      rw [hxi] at h0
      obtain ⟨z, hz, _⟩ := Go.DataW.trod_int Try.underlying3 h0
      simp at hz
      exact ⟨z, hz⟩
    obtain ⟨z0, rfl⟩ := g 0 (by omega) u0 rfl
    obtain ⟨z1, rfl⟩ := g 1 (by omega) u1 rfl
    obtain ⟨z2, rfl⟩ := g 2 (by omega) u2 rfl
    obtain ⟨z3, rfl⟩ := g 3 (by omega) u3 rfl
    exact ⟨(z0, z1, z2, z3), rfl⟩
set_option maxRecDepth 4000 in
theorem open_gates_at {a : Option Addr} {len cap : Nat} {x : DataW H × List MemPlace} {fuel : Nat}
    (hf : DataW.trod enc Try.prog w B sp hd fuel 22 [.slice a len cap] = some x) : ∃ l : List M.Gt, len = l.length ∧ RowIn 0 w.heap.size w a (M.encGs l) ∧ l.length ≤ cap ∧ cap ≤ maxLen := by
  have hc : Try.prog.cellsOf 67 = 4 := by kernel_rfl
  rcases Go.Deep.open_slice Try.underlying22 hf with ⟨hcs, _⟩ | ⟨x, l, c, m, n, D, Pl, hcs, _, hl, hm, hmm, _, hi⟩
  · simp at hcs
    obtain ⟨rfl, rfl, rfl⟩ := hcs
    exact ⟨[], rfl, .inl rfl, Nat.zero_le _, Nat.zero_le _⟩
  · simp at hcs
    obtain ⟨rfl, rfl, rfl⟩ := hcs
    have hlm : len ≤ m := by rw [hmm]; split <;> omega
    have hd : ∀ i, ∃ d : M.Gt, i < len → w.cells? B (x.add (i * 4)) 4 = some (M.encG d) := by
      intro i
      by_cases h : i < len
      · obtain ⟨cs', h1, h2⟩ := hi i (by omega)
        rw [hc] at h1
        obtain ⟨d, rfl⟩ := gate_cells h2
        exact ⟨d, fun _ => h1⟩
      · exact ⟨default, fun h' => absurd h' h⟩
    let f : Nat → M.Gt := fun i => Classical.choose (hd i)
    have hf' : ∀ i, i < len → w.cells? B (x.add (i * 4)) 4 = some (M.encG (f i)) := fun i => Classical.choose_spec (hd i)
    refine ⟨(List.range len).map f, by simp, row_of fun i u hu => ?_, by simp; omega, hm⟩
    have hil : i < len * 4 := by
      have := (List.getElem?_eq_some_iff.1 hu).1
      rw [M.encGs_len] at this
      simpa using this
    have hk : i / 4 < len := by omega
    have hij : i / 4 * 4 + i % 4 = i := by omega
    have he := M.encGs_at (l := (List.range len).map f) (k := i / 4) (by simpa using hk) (i % 4) (by omega)
    rw [hij, hu] at he
    simp only [List.getElem_map, List.getElem_range] at he
    obtain ⟨_, hcl, hat⟩ := World.cells?_some (hf' _ hk)
    have h3 := hat (i % 4) (by omega)
    rw [add_add, hij] at h3
    rw [h3]
    exact he.symm
set_option maxRecDepth 4000 in
theorem open_works {v : Value} {x : DataW H} {p : List MemPlace} {r : Reach} {b0 : Nat} (hv : Value.okWide Try.prog w r b0 25 v)
    (h : DataW.Trod enc Try.prog w B sp hd 25 v x p) : ∃ (m : M.Wk) (a : Option Addr) (c : Nat) (b : Option Addr) (d : Nat), v = .agg #[.int .i64 m.size, .slice a m.gates.length c, .slice b m.pulls.length d] ∧ WkIn 0 w.heap.size w m a c b d := by
  obtain ⟨v0, v1, v2, y0, y1, y2, n, rfl, _, _, h0, h1, h2⟩ := Go.Joins.open_agg3 Try.underlying25 (by kernel_rfl) (by kernel_rfl) hv h
  obtain ⟨z, hz, _⟩ := Go.DataW.trod_int Try.underlying3 h0
  have hz' : v0 = .int .i64 z := by simpa using hz
  subst hz'
  have e1 : ∃ a l c, v1 = .slice a l c := by
    rcases Go.Deep.open_slice Try.underlying22 h1 with ⟨hcs, _⟩ | ⟨x, l, c, m, n, D, Pl, hcs, _⟩
    · exact ⟨_, _, _, by simpa using hcs⟩
    · exact ⟨_, _, _, by simpa using hcs⟩
  have e2 : ∃ a l c, v2 = .slice a l c := by
    rcases Go.Deep.open_slice Try.underlying23 h2 with ⟨hcs, _⟩ | ⟨x, l, c, m, n, D, Pl, hcs, _⟩
    · exact ⟨_, _, _, by simpa using hcs⟩
    · exact ⟨_, _, _, by simpa using hcs⟩
  obtain ⟨a, l, c, rfl⟩ := e1
  obtain ⟨b, k, d, rfl⟩ := e2
  obtain ⟨ds, rfl, r1, c1, c2⟩ := open_gates_at h1
  obtain ⟨ks, rfl, r2, d1, d2, _⟩ := open_ints_at h2
  unfold maxLen at c2 d2
  exact ⟨⟨z, ds, ks⟩, a, c, b, d, rfl, ⟨r1, r2, c1, by omega, d1, by omega⟩⟩
end
end C
end Go.Proofs.Ytdgfceiobpnchaa
