/-
  WHAT THE STATEMENTS over mazes share: closed facts of the program; how a maze, or a slice of numbers, that came in reads; the row's last step where only 'what lay below stands' is known of the world. No condition of its own.
-/
import Derived.Test.YthgmkkkfhbjhoaaMem
import Derived.Test.YthgmkkkfhbjhoaaMazMath
import Derived.ProofKit
import Derived.OpenShut
import Derived.ShutString
import Derived.Deep.Slices
import Derived.Lib.SmallJoins
namespace Go.Proofs.Ythgmkkkfhbjhoaa
open Go.ChangeShapes Go.WideShapes Go.ChangeAt Go.RowKit
open Go.ChangeMaps (open_string shut_string)
namespace C
/-- a maze in memory: its doors and its keys -/
structure MzIn (lo hi : Nat) (w : World) (m : M.Mz) (a : Option Addr) (c : Nat) (b : Option Addr) (d : Nat) : Prop where
  doors : RowIn lo hi w a (M.encDs m.doors)
  keys : RowIn lo hi w b (M.encIs m.keys)
  c1 : m.doors.length ≤ c
  c2 : c ≤ 9223372036854775807
  d1 : m.keys.length ≤ d
  d2 : d ≤ 9223372036854775807
/-- the same, and it may be written -/
structure MzOwn (lo hi : Nat) (w : World) (m : M.Mz) (a : Option Addr) (c : Nat) (b : Option Addr) (d : Nat) : Prop where
  doors : OwnAt lo hi w 48 a (M.encDs m.doors)
  keys : OwnAt lo hi w 3 b (M.encIs m.keys)
  c1 : m.doors.length ≤ c
  c2 : c ≤ 9223372036854775807
  d1 : m.keys.length ≤ d
  d2 : d ≤ 9223372036854775807
section
variable {lo hi lo' hi' : Nat} {w w' : World} {m : M.Mz} {a b : Option Addr} {c d : Nat}
theorem MzOwn.mz (h : MzOwn lo hi w m a c b d) : MzIn lo hi w m a c b d := ⟨h.doors.row, h.keys.row, h.c1, h.c2, h.d1, h.d2⟩
theorem MzIn.turned (h : MzIn lo hi w m a c b d) (t : Turned lo' hi' w w') (hz : hi ≤ w.heap.size) (hd : hi ≤ lo' ∨ hi' ≤ lo) : MzIn lo hi w' m a c b d := ⟨h.doors.turned t hz hd, h.keys.turned t hz hd, h.c1, h.c2, h.d1, h.d2⟩
theorem MzOwn.turned (h : MzOwn lo hi w m a c b d) (t : Turned lo' hi' w w') (hz : hi ≤ w.heap.size) (hd : hi ≤ lo' ∨ hi' ≤ lo) : MzOwn lo hi w' m a c b d := ⟨h.doors.turned t hz hd, h.keys.turned t hz hd, h.c1, h.c2, h.d1, h.d2⟩
theorem MzIn.below (h : MzIn lo hi w m a c b d) (t : Below w.heap.size w w') (hz : hi ≤ w.heap.size) : MzIn lo hi w' m a c b d := h.turned (Turned.of_below t hi hi) hz (.inl (Nat.le_refl _))
theorem MzOwn.below (h : MzOwn lo hi w m a c b d) (t : Below w.heap.size w w') (hz : hi ≤ w.heap.size) : MzOwn lo hi w' m a c b d := h.turned (Turned.of_below t hi hi) hz (.inl (Nat.le_refl _))
theorem MzIn.mono (h : MzIn lo hi w m a c b d) (h1 : lo' ≤ lo) (h2 : hi ≤ hi') : MzIn lo' hi' w m a c b d := ⟨h.doors.mono h1 h2, h.keys.mono h1 h2, h.c1, h.c2, h.d1, h.d2⟩
theorem MzOwn.mono (h : MzOwn lo hi w m a c b d) (h1 : lo' ≤ lo) (h2 : hi ≤ hi') : MzOwn lo' hi' w m a c b d := ⟨h.doors.mono h1 h2, h.keys.mono h1 h2, h.c1, h.c2, h.d1, h.d2⟩
end
def mz0 : M.Mz := ⟨0, [], []⟩
theorem MzOwn.zero (lo hi : Nat) (w : World) : MzOwn lo hi w mz0 none 0 none 0 := ⟨OwnAt.nil _ _ _ _ _, OwnAt.nil _ _ _ _ _, by simp [mz0], by omega, by simp [mz0], by omega⟩
end C
namespace P
theorem own : ownKnob Try.prog.godebug = none := by kernel_rfl
theorem laidOut : laidOutB Try.prog = true := by kernel_rfl
section
variable {H : Type} {enc : TypeId × Value → H} {P : Program}
theorem post_of_below {f : Func} {s : ChangeSpec} {apart fresh handsOn again : Bool} {W W' : World} {args : Array Value} {v : Value} {ds gs : List (DataW H)} {before pa pv : List MemPlace}
    (hW : DataW.Whole enc P f.params.toList s.vars apart W args.toList ds gs before)
    (hres : ∀ (b : Nat) (sp : Nat → Bool) (hd : Bool), DataW.TrodAll enc P W' b sp hd f.resultTypes.toList (v.resultList f.resultTypes.size) (s.fn H (ds ++ gs)).results [])
    (hargs : ∀ sp : Nat → Bool, (∀ p ∈ before, sp p.block = true) → DataW.TrodAll enc P W' 0 sp true f.params.toList args.toList (s.fn H (ds ++ gs)).args pa)
    (hvars : ∀ sp : Nat → Bool, (∀ p ∈ before, sp p.block = true) → DataW.TrodVars enc P W' sp s.vars (s.fn H (ds ++ gs)).vars pv)
    (hps : before = pa ++ pv) (hb : Below W.heap.size W W')
    (hok : ∀ (j : Nat) (t : TypeId) (r : Value), f.resultTypes[j]? = some t → (v.resultList f.resultTypes.size)[j]? = some r → Value.okWide P W' .any 0 t r) :
    s.post enc P f apart fresh handsOn again W args v W' := by
  have hlt : ∀ p ∈ before, p.block < W.heap.size := fun p hp => hW.lt p hp
  have hold : ∀ p ∈ before, (fun b => decide (b < W.heap.size)) p.block = true := fun p hp => by simpa using hlt p hp
  refine ⟨ds, gs, before, [], pa, pv, hW, hres _ _ _, hargs _ hold, hvars _ hold, World.keptBut_mono (fun p hp => ⟨hp, ?_⟩) (hb.frame (· ∈ before)), fun _ => ?_⟩
  · rw [hps, List.mem_append] at hp
    exact Or.inr hp
  · obtain ⟨_, _, _, _, _, hz, hn⟩ := hW
    refine ⟨hok, _, _, ([] ++ pa) ++ pv, ⟨[] ++ pa, pv, trodAll_append (hargs _ (fun _ _ => rfl)) (hres _ _ _), hvars _ (fun _ _ => rfl), rfl, ?_, ?_⟩, ?_⟩
    · intro b off hp
      have hin : MemPlace.cell b off ∈ before := by rw [hps]; simpa using hp
      rw [hb.frozen (hlt _ hin)]
      exact hz b off hin
    · intro ha
      have := hn ha
      rw [hps] at this
      simpa using this
    · intro p hp _
      rw [hps]
      simpa using hp
end
end P
namespace C
theorem row_of {w : World} {x : Addr} {xs : List Value} (hcell : ∀ i u, xs[i]? = some u → w.cell? (x.add i) = some u) : RowIn 0 w.heap.size w (some x) xs := by
  rcases xs with _ | ⟨u0, xs⟩
  · exact .inl rfl
  · obtain ⟨b, off, spot⟩ := x
    have hc := hcell 0 u0 rfl
    have hspot : spot = none := by simpa [Addr.add] using World.cell?_spot hc
    subst hspot
    have hadd : ∀ i, (⟨b, off, none⟩ : Addr).add i = ⟨b, off + i, none⟩ := by
      intro i
      unfold Addr.add
      split
      · rename_i h; subst h; rfl
      · rfl
    have hlt : b < w.heap.size := by
      rcases Nat.lt_or_ge b w.heap.size with h | h
      · exact h
      · rw [hadd] at hc
        simp [World.cell?, Array.getElem?_eq_none h] at hc
    refine .inr ⟨b, off, rfl, Nat.zero_le _, hlt, fun i u hu => ?_⟩
    have := hcell i u hu
    rwa [hadd] at this
theorem add_add (a : Addr) (i j : Nat) : (a.add i).add j = a.add (i + j) := by
  unfold Addr.add
  by_cases hi : i = 0 <;> by_cases hj : j = 0 <;> simp [hi, hj, Nat.add_assoc]
section
variable {H : Type} {enc : TypeId × Value → H} {w : World} {B : Nat} {sp : Nat → Bool} {hd : Bool}
set_option maxRecDepth 4000 in
theorem open_ints_at {a : Option Addr} {len cap : Nat} {x : DataW H × List MemPlace} {fuel : Nat}
    (hf : DataW.trod enc Try.prog w B sp hd fuel 23 [.slice a len cap] = some x) : ∃ l : List Int, len = l.length ∧ RowIn 0 w.heap.size w a (M.encIs l) ∧ l.length ≤ cap ∧ cap ≤ maxLen ∧ ∀ z ∈ l, (Lit.int .i64 z).wf = true := by
  rcases open_ints Try.underlying23 Try.underlying3 (by kernel_rfl) hf with ⟨hcs, _⟩ | ⟨x, l, c, zs, hcs, _, hl, hm, hz, _, hcell, hwf⟩
  · simp at hcs
    obtain ⟨rfl, rfl, rfl⟩ := hcs
    exact ⟨[], rfl, .inl rfl, Nat.zero_le _, Nat.zero_le _, fun s hs => by cases hs⟩
  · simp at hcs
    obtain ⟨rfl, rfl, rfl⟩ := hcs
    have hlz : len ≤ zs.length := by rw [hz]; split <;> omega
    refine ⟨zs.take len, by rw [List.length_take]; omega, row_of fun i u hu => ?_, by rw [List.length_take]; omega, hm, fun z hz => hwf z (List.mem_of_mem_take hz)⟩
    unfold M.encIs at hu
    rw [List.getElem?_map, List.getElem?_take] at hu
    split at hu
    · rename_i hi
      rw [List.getElem?_eq_getElem (by omega)] at hu
      rw [hcell i (by omega), List.getD_eq_getElem?_getD, List.getElem?_eq_getElem (by omega)]
      exact hu
    · cases hu
set_option maxRecDepth 4000 in
theorem door_cells {fuel : Nat} {cs : List Value} {x : DataW H × List MemPlace} (hf : DataW.trod enc Try.prog w B sp hd fuel 48 cs = some x) : ∃ d : M.Dr, cs = M.encD d := by
  obtain ⟨xs, m, rfl, _, hl, hx, hi⟩ := Go.DataW.trod_array Try.underlying48 hf
  have hc : Try.prog.cellsOf 48 = 3 := by kernel_rfl
  have hc1 : Try.prog.cellsOf 3 = 1 := by kernel_rfl
  rw [hc] at hl
  match cs, hl with
  | [u0, u1, u2], _ =>
    have g : ∀ (i : Nat) (hi' : i < 3) (u : Value), ((([u0, u1, u2] : List Value).drop (i * 1)).take 1) = [u] → ∃ z : Int, u = .int .i64 z := by
      intro i hi' u hu
      have h0 := hi i hi'
      rw [hc1, hu] at h0
      have hxi : xs[i]? = some (xs[i]'(by omega)) := List.getElem?_eq_getElem (by omega)
      rw [hxi] at h0
      obtain ⟨z, hz, _⟩ := Go.DataW.trod_int Try.underlying3 h0
      simp at hz
      exact ⟨z, hz⟩
    obtain ⟨z0, rfl⟩ := g 0 (by omega) u0 rfl
    obtain ⟨z1, rfl⟩ := g 1 (by omega) u1 rfl
    obtain ⟨z2, rfl⟩ := g 2 (by omega) u2 rfl
    exact ⟨(z0, z1, z2), rfl⟩
set_option maxRecDepth 4000 in
theorem open_doors_at {a : Option Addr} {len cap : Nat} {x : DataW H × List MemPlace} {fuel : Nat}
    (hf : DataW.trod enc Try.prog w B sp hd fuel 22 [.slice a len cap] = some x) : ∃ l : List M.Dr, len = l.length ∧ RowIn 0 w.heap.size w a (M.encDs l) ∧ l.length ≤ cap ∧ cap ≤ maxLen := by
  have hc : Try.prog.cellsOf 48 = 3 := by kernel_rfl
  rcases Go.Deep.open_slice Try.underlying22 hf with ⟨hcs, _⟩ | ⟨x, l, c, m, n, D, Pl, hcs, _, hl, hm, hmm, _, hi⟩
  · simp at hcs
    obtain ⟨rfl, rfl, rfl⟩ := hcs
    exact ⟨[], rfl, .inl rfl, Nat.zero_le _, Nat.zero_le _⟩
  · simp at hcs
    obtain ⟨rfl, rfl, rfl⟩ := hcs
    have hlm : len ≤ m := by rw [hmm]; split <;> omega
    have hd : ∀ i, ∃ d : M.Dr, i < len → w.cells? B (x.add (i * 3)) 3 = some (M.encD d) := by
      intro i
      by_cases h : i < len
      · obtain ⟨cs', h1, h2⟩ := hi i (by omega)
        rw [hc] at h1
        obtain ⟨d, rfl⟩ := door_cells h2
        exact ⟨d, fun _ => h1⟩
      · exact ⟨default, fun h' => absurd h' h⟩
    let f : Nat → M.Dr := fun i => Classical.choose (hd i)
    have hf' : ∀ i, i < len → w.cells? B (x.add (i * 3)) 3 = some (M.encD (f i)) := fun i => Classical.choose_spec (hd i)
    refine ⟨(List.range len).map f, by simp, row_of fun i u hu => ?_, by simp; omega, hm⟩
    have hil : i < len * 3 := by
      have := (List.getElem?_eq_some_iff.1 hu).1
      rw [M.encDs_len] at this
      simpa using this
    have hk : i / 3 < len := by omega
    have hij : i / 3 * 3 + i % 3 = i := by omega
    have he := M.encDs_at (l := (List.range len).map f) (k := i / 3) (by simpa using hk) (i % 3) (by omega)
    rw [hij, hu] at he
    simp only [List.getElem_map, List.getElem_range] at he
    obtain ⟨_, hcl, hat⟩ := World.cells?_some (hf' _ hk)
    have h3 := hat (i % 3) (by omega)
    rw [add_add, hij] at h3
    rw [h3]
    exact he.symm
set_option maxRecDepth 4000 in
theorem open_maze {v : Value} {x : DataW H} {p : List MemPlace} {r : Reach} {b0 : Nat} (hv : Value.okWide Try.prog w r b0 25 v)
    (h : DataW.Trod enc Try.prog w B sp hd 25 v x p) : ∃ (m : M.Mz) (a : Option Addr) (c : Nat) (b : Option Addr) (d : Nat), v = .agg #[.int .i64 m.size, .slice a m.doors.length c, .slice b m.keys.length d] ∧ MzIn 0 w.heap.size w m a c b d := by
  obtain ⟨v0, v1, v2, y0, y1, y2, n, rfl, _, _, h0, h1, h2⟩ := Go.Joins.open_agg3 Try.underlying25 (by kernel_rfl) (by kernel_rfl) hv h
  obtain ⟨z, hz, _⟩ := Go.DataW.trod_int Try.underlying3 h0
  have hz' : v0 = .int .i64 z := by simpa using hz
  subst hz'
  have e1 : ∃ a l c, v1 = .slice a l c := by
    rcases Go.Deep.open_slice Try.underlying22 h1 with ⟨hcs, _⟩ | ⟨x, l, c, m, n, D, Pl, hcs, _⟩
    · exact ⟨_, _, _, by simpa using hcs⟩
    · exact ⟨_, _, _, by simpa using hcs⟩
  have e2 : ∃ a l c, v2 = .slice a l c := by
    rcases Go.Deep.open_slice Try.underlying23 h2 with ⟨hcs, _⟩ | ⟨x, l, c, m, n, D, Pl, hcs, _⟩
    · exact ⟨_, _, _, by simpa using hcs⟩
    · exact ⟨_, _, _, by simpa using hcs⟩
  obtain ⟨a, l, c, rfl⟩ := e1
  obtain ⟨b, k, d, rfl⟩ := e2
  obtain ⟨ds, rfl, r1, c1, c2⟩ := open_doors_at h1
  obtain ⟨ks, rfl, r2, d1, d2, _⟩ := open_ints_at h2
  unfold maxLen at c2 d2
  exact ⟨⟨z, ds, ks⟩, a, c, b, d, rfl, ⟨r1, r2, c1, by omega, d1, by omega⟩⟩
end
end C
end Go.Proofs.Ythgmkkkfhbjhoaa
