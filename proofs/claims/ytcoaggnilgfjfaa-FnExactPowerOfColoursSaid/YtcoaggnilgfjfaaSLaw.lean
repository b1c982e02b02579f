/-
  WHAT THE STATEMENTS over mazes share: closed facts of the program; how a maze, or a slice of numbers, that came in reads; the row's last step where only 'what lay below stands' is known of the world. No condition of its own.
  CONTRACTS of the laws' own helpers over slices of numbers: toIntS gives a copy of its own, eqIntS says yes of two slices that read alike, markIntS writes rising numbers, heldIntS finds them; sizes are counted. Condition: the slices read as lists of numbers, at most 1048576 of them.
  CONTRACTS of the laws' own helpers over mazes: toMaze gives a copy of its own, eqMaze says yes of two that read alike. Condition: at most 1048576 doors and keys.
  CONTRACTS of the laws' own helpers over mazes: toMaze gives a copy of its own, eqMaze says yes of two that read alike, markMaze writes rising numbers, heldMaze finds them. Condition: at most 1048576 doors and keys.
-/
import Derived.Test.YtcoaggnilgfjfaaSBase
import Derived.ProofKit
import Derived.OpenShut
import Derived.ShutString
import Derived.Deep.Slices
import Derived.Lib.SmallJoins
import Derived.BigQuiet
import Derived.Deep.QuietTactic
import Derived.Laws.MakeOwn
import Derived.WalkKit
import Derived.WalkSpells
import Derived.WalkLawsBesides
import Derived.Lib.Hide
import Derived.Deep.RegionWith
namespace Go.Proofs.Ytcoaggnilgfjfaa
open Go.ChangeShapes Go.WideShapes Go.ChangeAt Go.RowKit
open Go.ChangeMaps (open_string shut_string)
namespace C
/-- a maze in memory: its doors and its keys -/
structure MzIn (lo hi : Nat) (w : World) (m : M.Mz) (a : Option Addr) (c : Nat) (b : Option Addr) (d : Nat) : Prop where
  doors : RowIn lo hi w a (M.encDs m.doors)
  keys : RowIn lo hi w b (M.encIs m.keys)
  c1 : m.doors.length ≤ c
  c2 : c ≤ 9223372036854775807
  d1 : m.keys.length ≤ d
  d2 : d ≤ 9223372036854775807
/-- the same, and it may be written -/
structure MzOwn (lo hi : Nat) (w : World) (m : M.Mz) (a : Option Addr) (c : Nat) (b : Option Addr) (d : Nat) : Prop where
  doors : OwnAt lo hi w 69 a (M.encDs m.doors)
  keys : OwnAt lo hi w 3 b (M.encIs m.keys)
  c1 : m.doors.length ≤ c
  c2 : c ≤ 9223372036854775807
  d1 : m.keys.length ≤ d
  d2 : d ≤ 9223372036854775807
section
variable {lo hi lo' hi' : Nat} {w w' : World} {m : M.Mz} {a b : Option Addr} {c d : Nat}
theorem MzOwn.mz (h : MzOwn lo hi w m a c b d) : MzIn lo hi w m a c b d := ⟨h.doors.row, h.keys.row, h.c1, h.c2, h.d1, h.d2⟩
theorem MzIn.turned (h : MzIn lo hi w m a c b d) (t : Turned lo' hi' w w') (hz : hi ≤ w.heap.size) (hd : hi ≤ lo' ∨ hi' ≤ lo) : MzIn lo hi w' m a c b d := ⟨h.doors.turned t hz hd, h.keys.turned t hz hd, h.c1, h.c2, h.d1, h.d2⟩
theorem MzOwn.turned (h : MzOwn lo hi w m a c b d) (t : Turned lo' hi' w w') (hz : hi ≤ w.heap.size) (hd : hi ≤ lo' ∨ hi' ≤ lo) : MzOwn lo hi w' m a c b d := ⟨h.doors.turned t hz hd, h.keys.turned t hz hd, h.c1, h.c2, h.d1, h.d2⟩
theorem MzIn.below (h : MzIn lo hi w m a c b d) (t : Below w.heap.size w w') (hz : hi ≤ w.heap.size) : MzIn lo hi w' m a c b d := h.turned (Turned.of_below t hi hi) hz (.inl (Nat.le_refl _))
theorem MzOwn.below (h : MzOwn lo hi w m a c b d) (t : Below w.heap.size w w') (hz : hi ≤ w.heap.size) : MzOwn lo hi w' m a c b d := h.turned (Turned.of_below t hi hi) hz (.inl (Nat.le_refl _))
theorem MzIn.mono (h : MzIn lo hi w m a c b d) (h1 : lo' ≤ lo) (h2 : hi ≤ hi') : MzIn lo' hi' w m a c b d := ⟨h.doors.mono h1 h2, h.keys.mono h1 h2, h.c1, h.c2, h.d1, h.d2⟩
theorem MzOwn.mono (h : MzOwn lo hi w m a c b d) (h1 : lo' ≤ lo) (h2 : hi ≤ hi') : MzOwn lo' hi' w m a c b d := ⟨h.doors.mono h1 h2, h.keys.mono h1 h2, h.c1, h.c2, h.d1, h.d2⟩
end
def mz0 : M.Mz := ⟨0, [], []⟩
theorem MzOwn.zero (lo hi : Nat) (w : World) : MzOwn lo hi w mz0 none 0 none 0 := ⟨OwnAt.nil _ _ _ _ _, OwnAt.nil _ _ _ _ _, by simp [mz0], by omega, by simp [mz0], by omega⟩
end C
namespace P
theorem own : ownKnob Try.prog.godebug = none := by kernel_rfl
theorem laidOut : laidOutB Try.prog = true := by kernel_rfl
section
variable {H : Type} {enc : TypeId × Value → H} {P : Program}
theorem post_of_below {f : Func} {s : ChangeSpec} {apart fresh handsOn again : Bool} {W W' : World} {args : Array Value} {v : Value} {ds gs : List (DataW H)} {before pa pv : List MemPlace}
    (hW : DataW.Whole enc P f.params.toList s.vars apart W args.toList ds gs before)
    (hres : ∀ (b : Nat) (sp : Nat → Bool) (hd : Bool), DataW.TrodAll enc P W' b sp hd f.resultTypes.toList (v.resultList f.resultTypes.size) (s.fn H (ds ++ gs)).results [])
    (hargs : ∀ sp : Nat → Bool, (∀ p ∈ before, sp p.block = true) → DataW.TrodAll enc P W' 0 sp true f.params.toList args.toList (s.fn H (ds ++ gs)).args pa)
    (hvars : ∀ sp : Nat → Bool, (∀ p ∈ before, sp p.block = true) → DataW.TrodVars enc P W' sp s.vars (s.fn H (ds ++ gs)).vars pv)
    (hps : before = pa ++ pv) (hb : Below W.heap.size W W')
    (hok : ∀ (j : Nat) (t : TypeId) (r : Value), f.resultTypes[j]? = some t → (v.resultList f.resultTypes.size)[j]? = some r → Value.okWide P W' .any 0 t r) :
    s.post enc P f apart fresh handsOn again W args v W' := by
  have hlt : ∀ p ∈ before, p.block < W.heap.size := fun p hp => hW.lt p hp
  have hold : ∀ p ∈ before, (fun b => decide (b < W.heap.size)) p.block = true := fun p hp => by simpa using hlt p hp
  refine ⟨ds, gs, before, [], pa, pv, hW, hres _ _ _, hargs _ hold, hvars _ hold, World.keptBut_mono (fun p hp => ⟨hp, ?_⟩) (hb.frame (· ∈ before)), fun _ => ?_⟩
  · rw [hps, List.mem_append] at hp
    exact Or.inr hp
  · obtain ⟨_, _, _, _, _, hz, hn⟩ := hW
    refine ⟨hok, _, _, ([] ++ pa) ++ pv, ⟨[] ++ pa, pv, trodAll_append (hargs _ (fun _ _ => rfl)) (hres _ _ _), hvars _ (fun _ _ => rfl), rfl, ?_, ?_⟩, ?_⟩
    · intro b off hp
      have hin : MemPlace.cell b off ∈ before := by rw [hps]; simpa using hp
      rw [hb.frozen (hlt _ hin)]
      exact hz b off hin
    · intro ha
      have := hn ha
      rw [hps] at this
      simpa using this
    · intro p hp _
      rw [hps]
      simpa using hp
end
end P
namespace C
theorem row_of {w : World} {x : Addr} {xs : List Value} (hcell : ∀ i u, xs[i]? = some u → w.cell? (x.add i) = some u) : RowIn 0 w.heap.size w (some x) xs := by
  rcases xs with _ | ⟨u0, xs⟩
  · exact .inl rfl
  · obtain ⟨b, off, spot⟩ := x
    have hc := hcell 0 u0 rfl
    have hspot : spot = none := by simpa [Addr.add] using World.cell?_spot hc
    subst hspot
    have hadd : ∀ i, (⟨b, off, none⟩ : Addr).add i = ⟨b, off + i, none⟩ := by
      intro i
      unfold Addr.add
      split
      · rename_i h; subst h; rfl
      · rfl
    have hlt : b < w.heap.size := by
      rcases Nat.lt_or_ge b w.heap.size with h | h
      · exact h
      · rw [hadd] at hc
        simp [World.cell?, Array.getElem?_eq_none h] at hc
    refine .inr ⟨b, off, rfl, Nat.zero_le _, hlt, fun i u hu => ?_⟩
    have := hcell i u hu
    rwa [hadd] at this
theorem add_add (a : Addr) (i j : Nat) : (a.add i).add j = a.add (i + j) := by
  unfold Addr.add
  by_cases hi : i = 0 <;> by_cases hj : j = 0 <;> simp [hi, hj, Nat.add_assoc]
section
variable {H : Type} {enc : TypeId × Value → H} {w : World} {B : Nat} {sp : Nat → Bool} {hd : Bool}
set_option maxRecDepth 4000 in
theorem open_ints_at {a : Option Addr} {len cap : Nat} {x : DataW H × List MemPlace} {fuel : Nat}
    (hf : DataW.trod enc Try.prog w B sp hd fuel 23 [.slice a len cap] = some x) : ∃ l : List Int, len = l.length ∧ RowIn 0 w.heap.size w a (M.encIs l) ∧ l.length ≤ cap ∧ cap ≤ maxLen ∧ ∀ z ∈ l, (Lit.int .i64 z).wf = true := by
  rcases open_ints Try.underlying23 Try.underlying3 (by kernel_rfl) hf with ⟨hcs, _⟩ | ⟨x, l, c, zs, hcs, _, hl, hm, hz, _, hcell, hwf⟩
  · simp at hcs
    obtain ⟨rfl, rfl, rfl⟩ := hcs
    exact ⟨[], rfl, .inl rfl, Nat.zero_le _, Nat.zero_le _, fun s hs => by cases hs⟩
  · simp at hcs
    obtain ⟨rfl, rfl, rfl⟩ := hcs
    have hlz : len ≤ zs.length := by rw [hz]; split <;> omega
    refine ⟨zs.take len, by rw [List.length_take]; omega, row_of fun i u hu => ?_, by rw [List.length_take]; omega, hm, fun z hz => hwf z (List.mem_of_mem_take hz)⟩
    unfold M.encIs at hu
    rw [List.getElem?_map, List.getElem?_take] at hu
    split at hu
    · rename_i hi
      rw [List.getElem?_eq_getElem (by omega)] at hu
      rw [hcell i (by omega), List.getD_eq_getElem?_getD, List.getElem?_eq_getElem (by omega)]
      exact hu
    · cases hu
set_option maxRecDepth 4000 in
theorem door_cells {fuel : Nat} {cs : List Value} {x : DataW H × List MemPlace} (hf : DataW.trod enc Try.prog w B sp hd fuel 69 cs = some x) : ∃ d : M.Dr, cs = M.encD d := by
  obtain ⟨xs, m, rfl, _, hl, hx, hi⟩ := Go.DataW.trod_array Try.underlying69 hf
  have hc : Try.prog.cellsOf 69 = 3 := by kernel_rfl
  have hc1 : Try.prog.cellsOf 3 = 1 := by kernel_rfl
  rw [hc] at hl
  match cs, hl with
  | [u0, u1, u2], _ =>
    have g : ∀ (i : Nat) (hi' : i < 3) (u : Value), ((([u0, u1, u2] : List Value).drop (i * 1)).take 1) = [u] → ∃ z : Int, u = .int .i64 z := by
      intro i hi' u hu
      have h0 := hi i hi'
      rw [hc1, hu] at h0
      have hxi : xs[i]? = some (xs[i]'(by omega)) := List.getElem?_eq_getElem (by omega)
      rw [hxi] at h0
      obtain ⟨z, hz, _⟩ := Go.DataW.trod_int Try.underlying3 h0
      simp at hz
      exact ⟨z, hz⟩
    obtain ⟨z0, rfl⟩ := g 0 (by omega) u0 rfl
    obtain ⟨z1, rfl⟩ := g 1 (by omega) u1 rfl
    obtain ⟨z2, rfl⟩ := g 2 (by omega) u2 rfl
    exact ⟨(z0, z1, z2), rfl⟩
set_option maxRecDepth 4000 in
theorem open_doors_at {a : Option Addr} {len cap : Nat} {x : DataW H × List MemPlace} {fuel : Nat}
    (hf : DataW.trod enc Try.prog w B sp hd fuel 22 [.slice a len cap] = some x) : ∃ l : List M.Dr, len = l.length ∧ RowIn 0 w.heap.size w a (M.encDs l) ∧ l.length ≤ cap ∧ cap ≤ maxLen := by
  have hc : Try.prog.cellsOf 69 = 3 := by kernel_rfl
  rcases Go.Deep.open_slice Try.underlying22 hf with ⟨hcs, _⟩ | ⟨x, l, c, m, n, D, Pl, hcs, _, hl, hm, hmm, _, hi⟩
  · simp at hcs
    obtain ⟨rfl, rfl, rfl⟩ := hcs
    exact ⟨[], rfl, .inl rfl, Nat.zero_le _, Nat.zero_le _⟩
  · simp at hcs
    obtain ⟨rfl, rfl, rfl⟩ := hcs
    have hlm : len ≤ m := by rw [hmm]; split <;> omega
    have hd : ∀ i, ∃ d : M.Dr, i < len → w.cells? B (x.add (i * 3)) 3 = some (M.encD d) := by
      intro i
      by_cases h : i < len
      · obtain ⟨cs', h1, h2⟩ := hi i (by omega)
        rw [hc] at h1
        obtain ⟨d, rfl⟩ := door_cells h2
        exact ⟨d, fun _ => h1⟩
      · exact ⟨default, fun h' => absurd h' h⟩
    let f : Nat → M.Dr := fun i => Classical.choose (hd i)
    have hf' : ∀ i, i < len → w.cells? B (x.add (i * 3)) 3 = some (M.encD (f i)) := fun i => Classical.choose_spec (hd i)
    refine ⟨(List.range len).map f, by simp, row_of fun i u hu => ?_, by simp; omega, hm⟩
    have hil : i < len * 3 := by
      have := (List.getElem?_eq_some_iff.1 hu).1
      rw [M.encDs_len] at this
      simpa using this
    have hk : i / 3 < len := by omega
    have hij : i / 3 * 3 + i % 3 = i := by omega
    have he := M.encDs_at (l := (List.range len).map f) (k := i / 3) (by simpa using hk) (i % 3) (by omega)
    rw [hij, hu] at he
    simp only [List.getElem_map, List.getElem_range] at he
    obtain ⟨_, hcl, hat⟩ := World.cells?_some (hf' _ hk)
    have h3 := hat (i % 3) (by omega)
    rw [add_add, hij] at h3
    rw [h3]
    exact he.symm
set_option maxRecDepth 4000 in
theorem open_maze {v : Value} {x : DataW H} {p : List MemPlace} {r : Reach} {b0 : Nat} (hv : Value.okWide Try.prog w r b0 25 v)
    (h : DataW.Trod enc Try.prog w B sp hd 25 v x p) : ∃ (m : M.Mz) (a : Option Addr) (c : Nat) (b : Option Addr) (d : Nat), v = .agg #[.int .i64 m.size, .slice a m.doors.length c, .slice b m.keys.length d] ∧ MzIn 0 w.heap.size w m a c b d := by
  obtain ⟨v0, v1, v2, y0, y1, y2, n, rfl, _, _, h0, h1, h2⟩ := Go.Joins.open_agg3 Try.underlying25 (by kernel_rfl) (by kernel_rfl) hv h
  obtain ⟨z, hz, _⟩ := Go.DataW.trod_int Try.underlying3 h0
  have hz' : v0 = .int .i64 z := by simpa using hz
  subst hz'
  have e1 : ∃ a l c, v1 = .slice a l c := by
    rcases Go.Deep.open_slice Try.underlying22 h1 with ⟨hcs, _⟩ | ⟨x, l, c, m, n, D, Pl, hcs, _⟩
    · exact ⟨_, _, _, by simpa using hcs⟩
    · exact ⟨_, _, _, by simpa using hcs⟩
  have e2 : ∃ a l c, v2 = .slice a l c := by
    rcases Go.Deep.open_slice Try.underlying23 h2 with ⟨hcs, _⟩ | ⟨x, l, c, m, n, D, Pl, hcs, _⟩
    · exact ⟨_, _, _, by simpa using hcs⟩
    · exact ⟨_, _, _, by simpa using hcs⟩
  obtain ⟨a, l, c, rfl⟩ := e1
  obtain ⟨b, k, d, rfl⟩ := e2
  obtain ⟨ds, rfl, r1, c1, c2⟩ := open_doors_at h1
  obtain ⟨ks, rfl, r2, d1, d2, _⟩ := open_ints_at h2
  unfold maxLen at c2 d2
  exact ⟨⟨z, ds, ks⟩, a, c, b, d, rfl, ⟨r1, r2, c1, by omega, d1, by omega⟩⟩
end
end C
end Go.Proofs.Ytcoaggnilgfjfaa
namespace Go.Proofs.Ytcoaggnilgfjfaa
open Go.RowKit
namespace M
/-- rising numbers from k on -/
def marks (k n : Nat) : List Value := (List.range n).map fun i => .int .i64 ((k + i : Nat) : Int)
theorem marks_succ (k n : Nat) : marks k (n + 1) = marks k n ++ [.int .i64 ((k + n : Nat) : Int)] := by
  unfold marks; rw [List.range_succ, List.map_append]; rfl
theorem marks_len (k n : Nat) : (marks k n).length = n := by simp [marks]
theorem marks_at {k n i : Nat} (h : i < n) : (marks k n)[i]? = some (.int .i64 ((k + i : Nat) : Int)) := by
  unfold marks
  rw [List.getElem?_map, List.getElem?_range h]
  rfl
theorem encIs_take (l : List Int) (k : Nat) : encIs (l.take k) = (encIs l).take k := by simp [encIs]
theorem takeI_snoc {l : List Int} {k : Nat} (h : k < l.length) : encIs (l.take (k + 1)) = encIs (l.take k) ++ [.int .i64 l[k]] := by
  rw [List.take_succ_eq_append_getElem h, encIs_append]; rfl
end M
namespace C
theorem infoI : (Try.prog.info? 3).map (fun i => (i.zero, i.size, i.bytes)) = some (some (.int .i64 0), 1, 8) := by kernel_rfl

section
set_option maxHeartbeats 800000
set_option maxRecDepth 20000
theorem szInts_any (w : World) (a : Option Addr) (n c : Nat) (left : Int) (h0 : 0 ≤ left) (h1 : left ≤ 1048576) (hn : n ≤ 9223372036854775807) :
    Calls Try.prog 54 #[.slice a n c, .int .i64 left] w fun e w' => (e = .returned (.int .i64 (if left < n then -1 else left - n))) ∧ w = w' := by
  by_cases hlt : left < (n : Int)
  · rw [if_pos hlt]
    go_enter Try.func54, Try.ntmps54
    go_wp2_with fail
    go_ret
    exact ⟨rfl, rfl⟩
  · rw [if_neg hlt]
    go_enter Try.func54, Try.ntmps54
    go_wp2_with fail
    go_ret
    exact ⟨rfl, rfl⟩
theorem szDoors_any (w : World) (a : Option Addr) (n c : Nat) (left : Int) (h0 : 0 ≤ left) (h1 : left ≤ 1048576) (hn : n ≤ 9223372036854775807) :
    Calls Try.prog 53 #[.slice a n c, .int .i64 left] w fun e w' => (e = .returned (.int .i64 (if left < n then -1 else left - n))) ∧ w = w' := by
  by_cases hlt : left < (n : Int)
  · rw [if_pos hlt]
    go_enter Try.func53, Try.ntmps53
    go_wp2_with fail
    go_ret
    exact ⟨rfl, rfl⟩
  · rw [if_neg hlt]
    go_enter Try.func53, Try.ntmps53
    go_wp2_with fail
    go_ret
    exact ⟨rfl, rfl⟩

theorem toInts_any (w : World) (lo hi : Nat) (a : Option Addr) (c : Nat) (l : List Int) (h : RowIn lo hi w a (M.encIs l)) (hz : hi ≤ w.heap.size) (hl : l.length ≤ 1048576) :
    Calls Try.prog 41 #[.slice a l.length c] w fun e w' => e = .returned (.slice (some ⟨w.heap.size, 0, none⟩) l.length l.length) ∧ OwnAt w.heap.size w'.heap.size w' 3 (some ⟨w.heap.size, 0, none⟩) (M.encIs l) ∧ Below w.heap.size w w' := by
  obtain ⟨i0, hi0, hz0, hz1, hz2⟩ := info_parts infoI
  have h' := Lib.hid h
  clear h
  go_enter Try.func41, Try.ntmps41
  go_wp2_with (at_make; refine wpList_make_full _ rfl _ _ 23 rfl w.heap.size 3 i0 (.int .i64 0) 1 Try.underlying23 hi0 hz0 hz1 .i64 .i64 _ _ l.length rfl rfl rfl rfl (by rw [hz2]; omega) (by unfold maxLen; omega) (Nat.le_refl _) ?_; intro w1 hown1 hgrow1)
  have hb1 : Below w.heap.size w w1 := (Below.refl _ _).grown hgrow1 (Nat.le_refl _) (fun k e => by cases e)
  have hx1 : ∃ xs : List Value, w1.ownsRow w.heap.size 3 1 (.slice (some ⟨w.heap.size, 0, none⟩) l.length l.length) l.length xs := ⟨_, hown1⟩
  have HB1 := Lib.hid hb1
  have HX1 := Lib.hid hx1
  clear hown1 hgrow1 hb1 hx1
  go_wp2_with fail
  go_loopw [4] (fun i wr => ∃ (k : Nat) (xs : List Value), k ≤ l.length ∧ i = .int .i64 k ∧ xs.take k = M.encIs (l.take k) ∧
      wr.ownsRow w.heap.size 3 1 (.slice (some ⟨w.heap.size, 0, none⟩) l.length l.length) l.length xs ∧ Below w.heap.size w wr) (fun i _ => l.length - (intOf i).toNat)
  case atStart =>
    obtain ⟨xs, hx⟩ := HX1.out
    exact ⟨0, xs, Nat.zero_le _, rfl, by simp [M.encIs], hx, HB1.out⟩
  case round =>
    obtain ⟨k, xs, hk, rfl, ht, hown, hnx⟩ := hrel
    have HT := Lib.hid ht
    have HO := Lib.hid hown
    have HN := Lib.hid hnx
    have hxl : xs.length = l.length := by have := hown.1; omega
    clear ht hown hnx
    by_cases hlt : k < l.length
    · obtain ⟨b, off, rfl, _, hb, hcell0⟩ := h'.out.at_ (k := k) (by rw [M.encIs_len]; exact hlt)
      have hcell : wr.cell? ⟨b, off + k, none⟩ = some (.int .i64 l[k]) := (HN.out.cell (p := ⟨b, off + k, none⟩) (Nat.lt_of_lt_of_le hb hz)).trans (hcell0 k _ (M.encIs_at hlt))
      obtain ⟨u, hu⟩ : ∃ u, xs[k]? = some u := ⟨_, List.getElem?_eq_getElem (by omega)⟩
      have hdst : wr.cell? ⟨w.heap.size, k, none⟩ = some u := by
        rw [HO.out.cellAt k (by omega), hu]
      have hfr : wr.frozen? ⟨w.heap.size, k, none⟩ = false := HO.out.frozenAt k
      have HS := Lib.hid (HO.out.stored k (.int .i64 l[k]))
      clear hcell0 hu
      have HX := Lib.hid hxl
      clear hxl
      go_wp2_with fail
      go_roundw
      case rel =>
        refine ⟨k + 1, xs.set k (.int .i64 l[k]), by omega, by go_num, ?_, HS.out.1, HN.out.setCell (p := ⟨w.heap.size, k, none⟩) (Nat.le_refl _) _⟩
        have h1 : k < xs.length := by have := HX.out; omega
        rw [List.take_succ_eq_append_getElem (by simpa using h1), List.take_set_of_le (Nat.le_refl _), HT.out, M.takeI_snoc hlt, List.getElem_set_self]
      case measure => simp [intOf]; omega
    · have HA : Hid (xs = M.encIs l) := Lib.hid (by
        have := HT.out
        rwa [List.take_of_length_le (by omega), List.take_of_length_le (by omega)] at this)
      go_wp2_with fail
      go_ret
      exact ⟨rfl, by have := HO.out; rw [HA.out] at this; exact OwnAt.of_own this, HN.out⟩

theorem eqInts_any (w : World) (lo hi lo' hi' : Nat) (a b : Option Addr) (c1 c2 : Nat) (l : List Int) (hl : l.length ≤ 9223372036854775806) (h1 : RowIn lo hi w a (M.encIs l)) (h2 : RowIn lo' hi' w b (M.encIs l)) :
    Calls Try.prog 24 #[.slice a l.length c1, .slice b l.length c2] w fun e w' => e = .returned (.bool true) ∧ ∃ m, w' = w.drewN m := by
  have h1' := Lib.hid h1
  have h2' := Lib.hid h2
  clear h1 h2
  go_enter Try.func24, Try.ntmps24
  go_wp2_with fail
  go_loopw [5] (fun i wr => ∃ (k m : Nat), k ≤ l.length ∧ i = .int .i64 k ∧ wr = w.drewN m) (fun i _ => l.length - (intOf i).toNat)
  case atStart => exact ⟨0, 0, Nat.zero_le _, rfl, rfl⟩
  case round =>
    obtain ⟨k, m, hk, rfl, rfl⟩ := hrel
    by_cases hlt : k < l.length
    · obtain ⟨ab, ao, rfl, _, _, hca0⟩ := h1'.out.at_ (k := k) (by rw [M.encIs_len]; exact hlt)
      obtain ⟨bb, bo, rfl, _, _, hcb0⟩ := h2'.out.at_ (k := k) (by rw [M.encIs_len]; exact hlt)
      have hca := hca0 k _ (M.encIs_at hlt)
      have hcb := hcb0 k _ (M.encIs_at hlt)
      clear hca0 hcb0
      go_wp2_with fail
      go_quiet (fail)
      go_wp2_with fail
      go_roundw
      case rel => exact ⟨k + 1, _, by omega, by go_num, rfl⟩
      case measure => simp [intOf]; omega
    · go_wp2_with fail
      go_ret
      exact ⟨rfl, _, rfl⟩

theorem markInts_any (w : World) (lo hi : Nat) (a : Option Addr) (c n k0 : Nat) (xs0 : List Value) (hn : xs0.length = n) (hl : n ≤ 1073741824) (hk0 : k0 ≤ 4294967296) (h : OwnAt lo hi w 3 a xs0) :
    Calls Try.prog 26 #[.slice a n c, .int .i64 k0] w fun e w' => e = .returned (.int .i64 ((k0 + n : Nat) : Int)) ∧ OwnAt lo hi w' 3 a (M.marks k0 n) ∧ Turned lo hi w w' := by
  have h' := Lib.hid h
  have HN0 := Lib.hid hn
  clear h hn
  go_enter Try.func26, Try.ntmps26
  go_wp2_with fail
  go_loopw [1, 5] (fun m i wr => ∃ (k : Nat) (xs : List Value), k ≤ n ∧ i = .int .i64 k ∧ m = .int .i64 ((k0 + k : Nat) : Int) ∧ xs.length = n ∧ xs.take k = M.marks k0 k ∧
      OwnAt lo hi wr 3 a xs ∧ Turned lo hi w wr) (fun _ i _ => n - (intOf i).toNat)
  case atStart => exact ⟨0, xs0, Nat.zero_le _, rfl, rfl, HN0.out, rfl, h'.out, Turned.refl _ _ _⟩
  case round =>
    obtain ⟨k, xs, hk, rfl, rfl, hxl, ht, hown, hnx⟩ := hrel
    have HT := Lib.hid ht
    have HX := Lib.hid hxl
    clear ht hxl
    by_cases hlt : k < n
    · have hkx : k < xs.length := by have := HX.out; omega
      obtain ⟨b, off, ha, h1, h2, hc⟩ := hown.row.at_ hkx
      subst ha
      obtain ⟨u, hu⟩ : ∃ u, xs[k]? = some u := ⟨_, List.getElem?_eq_getElem hkx⟩
      have hdst : wr.cell? ⟨b, off + k, none⟩ = some u := hc k u hu
      have hfr : wr.frozen? ⟨b, off + k, none⟩ = false := hown.free rfl hkx _
      have HS := Lib.hid (hown.set_ rfl k (.int .i64 ((k0 + k : Nat) : Int)))
      have HN := Lib.hid (hnx.trans (Turned.setCell wr b (off + k) (.int .i64 ((k0 + k : Nat) : Int)) h1 h2))
      clear hu hc hown hnx
      go_wp2_with fail
      go_roundw
      case rel =>
        refine ⟨k + 1, xs.set k (.int .i64 ((k0 + k : Nat) : Int)), by omega, by go_num, by go_num, by rw [List.length_set]; exact HX.out, ?_, HS.out, HN.out⟩
        rw [List.take_succ_eq_append_getElem (by simpa using hkx), List.take_set_of_le (Nat.le_refl _), HT.out, M.marks_succ, List.getElem_set_self]
      case measure => simp [intOf]; omega
    · obtain rfl : k = n := by omega
      have HO := Lib.hid hown
      have HN := Lib.hid hnx
      clear hown hnx
      go_wp2_with fail
      go_ret
      refine ⟨rfl, ?_, HN.out⟩
      have e : xs = M.marks k0 k := by
        have := HT.out
        rwa [List.take_of_length_le (by have := HX.out; omega)] at this
      rw [← e]
      exact HO.out
theorem heldInts_any (w : World) (lo hi : Nat) (a : Option Addr) (c n k0 : Nat) (hl : n ≤ 1073741824) (hk0 : k0 ≤ 4294967296) (h : RowIn lo hi w a (M.marks k0 n)) :
    Calls Try.prog 27 #[.slice a n c, .int .i64 k0] w fun e w' => e = .returned (.int .i64 ((k0 + n : Nat) : Int)) ∧ w = w' := by
  have h' := Lib.hid h
  clear h
  go_enter Try.func27, Try.ntmps27
  go_wp2_with fail
  go_loop [1, 5] (fun m i => ∃ (k : Nat), k ≤ n ∧ i = .int .i64 k ∧ m = .int .i64 ((k0 + k : Nat) : Int)) (fun _ i => n - (intOf i).toNat)
  case atStart => exact ⟨0, Nat.zero_le _, rfl, rfl⟩
  case round =>
    obtain ⟨k, hk, rfl, rfl⟩ := hrel
    by_cases hlt : k < n
    · obtain ⟨b, off, rfl, _, _, hc0⟩ := h'.out.at_ (k := k) (by rw [M.marks_len]; exact hlt)
      have hc := hc0 k _ (M.marks_at hlt)
      clear hc0
      go_wp2_with fail
      go_round
      case rel => exact ⟨k + 1, by omega, by go_num, by go_num⟩
      case measure => simp [intOf]; omega
    · obtain rfl : k = n := by omega
      go_wp2_with fail
      go_ret
      exact ⟨rfl, rfl⟩
end
end C
end Go.Proofs.Ytcoaggnilgfjfaa
namespace Go.Proofs.Ytcoaggnilgfjfaa
open Go.RowKit
namespace C
theorem infoD : (Try.prog.info? 69).map (fun i => (i.zero, i.size, i.bytes)) = some (some (.agg #[.int .i64 0, .int .i64 0, .int .i64 0]), 3, 24) := by kernel_rfl

set_option maxHeartbeats 800000
set_option maxRecDepth 20000
/-- an array of three is copied -/
theorem toDoor_any (w : World) (d : M.Dr) : Calls Try.prog 89 #[.agg #[.int .i64 d.1, .int .i64 d.2.1, .int .i64 d.2.2]] w fun e w' => e = .returned (.agg #[.int .i64 d.1, .int .i64 d.2.1, .int .i64 d.2.2]) ∧ Below w.heap.size w w' := by
  go_enter Try.func89, Try.ntmps89
  go_wp2_with fail
  refine wp_loop_rounds 4 ?_
  rw [rounds_succ]
  go_wp2_with fail
  rw [rounds_succ]
  go_wp2_with fail
  rw [rounds_succ]
  go_wp2_with fail
  rw [rounds_succ]
  go_wp2_with fail
  refine bodyPost_ret (v := .agg #[.int .i64 d.1, .int .i64 d.2.1, .int .i64 d.2.2]) (by simp [results, Try.results89, go_sem]) rfl ⟨rfl, (((Below.refl _ _).alloc (Nat.le_refl _) _).alloc (by simp) _).alloc (by simp; omega) _⟩
theorem eqDoor_any (w : World) (d : M.Dr) : Calls Try.prog 95 #[.agg #[.int .i64 d.1, .int .i64 d.2.1, .int .i64 d.2.2], .agg #[.int .i64 d.1, .int .i64 d.2.1, .int .i64 d.2.2]] w fun e w' => e = .returned (.bool true) ∧ Below w.heap.size w w' := by
  go_enter Try.func95, Try.ntmps95
  go_wp2_with fail
  refine wp_loop_rounds 4 ?_
  rw [rounds_succ]
  go_wp2_with fail
  go_quiet (fail)
  go_wp2_with fail
  rw [rounds_succ]
  go_wp2_with fail
  go_quiet (fail)
  go_wp2_with fail
  rw [rounds_succ]
  go_wp2_with fail
  go_quiet (fail)
  go_wp2_with fail
  rw [rounds_succ]
  go_wp2_with fail
  go_ret
  exact ⟨rfl, Below.drawnN (((Below.refl _ _).alloc (Nat.le_refl _) _).alloc (by simp) _) _⟩
theorem szMaze_any (w : World) (m : M.Mz) (a b : Option Addr) (c d : Nat) (left : Int) (h0 : 0 ≤ left) (h1 : left ≤ 1048576) (hn : m.doors.length ≤ 9223372036854775807) (hk : m.keys.length ≤ 9223372036854775807) :
    Calls Try.prog 17 #[.agg #[.int .i64 m.size, .slice a m.doors.length c, .slice b m.keys.length d], .int .i64 left] w
      fun e w' => e = .returned (.int .i64 (if left < m.doors.length + m.keys.length then -1 else left - m.doors.length - m.keys.length)) ∧ Below w.heap.size w w' := by
  by_cases hlt : left < m.doors.length
  · rw [if_pos (by omega)]
    go_enter Try.func17, Try.ntmps17
    go_wp2_with fail
    refine (szDoors_any _ a _ _ left h0 h1 hn).mono ?_
    rintro e w1 ⟨rfl, rfl⟩
    rw [if_pos (by omega)]
    go_wp2_with fail
    go_ret
    exact ⟨rfl, below_alloc _ _⟩
  · by_cases hlt2 : left - m.doors.length < m.keys.length
    · rw [if_pos (by omega)]
      go_enter Try.func17, Try.ntmps17
      go_wp2_with fail
      refine (szDoors_any _ a _ _ left h0 h1 hn).mono ?_
      rintro e w1 ⟨rfl, rfl⟩
      rw [if_neg (by omega)]
      go_wp2_with fail
      refine (szInts_any _ b _ _ (left - m.doors.length) (by omega) (by omega) hk).mono ?_
      rintro e w1 ⟨rfl, rfl⟩
      rw [if_pos (by omega)]
      go_wp2_with fail
      go_ret
      exact ⟨rfl, below_alloc _ _⟩
    · rw [if_neg (by omega)]
      go_enter Try.func17, Try.ntmps17
      go_wp2_with fail
      refine (szDoors_any _ a _ _ left h0 h1 hn).mono ?_
      rintro e w1 ⟨rfl, rfl⟩
      rw [if_neg (by omega)]
      go_wp2_with fail
      refine (szInts_any _ b _ _ (left - m.doors.length) (by omega) (by omega) hk).mono ?_
      rintro e w1 ⟨rfl, rfl⟩
      rw [if_neg (by omega)]
      go_wp2_with fail
      go_ret
      exact ⟨rfl, below_alloc _ _⟩
/-- a maze handed back in memory of the call's own -/
def MzPost (w : World) (m : M.Mz) (e : Ending) (w' : World) : Prop :=
  ∃ a c b d, e = .returned (.agg #[.int .i64 m.size, .slice a m.doors.length c, .slice b m.keys.length d]) ∧ MzOwn w.heap.size w'.heap.size w' m a c b d ∧ Below w.heap.size w w'
/-- the same, and whether it could be done -/
def MzOkPost (w : World) (m : M.Mz) (ok : Bool) (e : Ending) (w' : World) : Prop :=
  ∃ a c b d, e = .returned (.tuple #[.agg #[.int .i64 m.size, .slice a m.doors.length c, .slice b m.keys.length d], .bool ok]) ∧ MzOwn w.heap.size w'.heap.size w' m a c b d ∧ Below w.heap.size w w'

theorem takeD_snoc {l : List M.Dr} {k : Nat} (h : k < l.length) : M.encDs (l.take (k + 1)) = M.encDs (l.take k) ++ M.encD l[k] := by
  rw [List.take_succ_eq_append_getElem h, M.encDs_append]; simp [M.encDs]
theorem set3 {α : Type} (xs : List α) (k : Nat) (u v z : α) (h : k * 3 + 3 ≤ xs.length) : (((xs.set (k * 3) u).set (k * 3 + 1) v).set (k * 3 + 2) z).take ((k + 1) * 3) = xs.take (k * 3) ++ [u, v, z] := by
  have e : xs = xs.take (k * 3) ++ xs.drop (k * 3) := (List.take_append_drop _ _).symm
  have hA : (xs.take (k * 3)).length = k * 3 := by rw [List.length_take]; omega
  have hB : 3 ≤ (xs.drop (k * 3)).length := by rw [List.length_drop]; omega
  generalize xs.take (k * 3) = A at e hA ⊢
  generalize xs.drop (k * 3) = B at e hB
  subst e
  match B, hB with
  | p :: q :: r :: B, _ =>
    rw [List.set_append, if_neg (by omega), List.set_append, if_neg (by omega), List.set_append, if_neg (by omega), hA, Nat.sub_self]
    have e1 : k * 3 + 1 - k * 3 = 1 := by omega
    have e2 : k * 3 + 2 - k * 3 = 2 := by omega
    rw [e1, e2, show (k + 1) * 3 = A.length + 3 by omega, List.take_append]
    simp [List.take_of_length_le]
theorem toDoors_any (w : World) (lo hi : Nat) (a : Option Addr) (c : Nat) (l : List M.Dr) (h : RowIn lo hi w a (M.encDs l)) (hz : hi ≤ w.heap.size) (hl : l.length ≤ 1048576) :
    Calls Try.prog 58 #[.slice a l.length c] w fun e w' => e = .returned (.slice (some ⟨w.heap.size, 0, none⟩) l.length l.length) ∧ OwnAt w.heap.size w'.heap.size w' 69 (some ⟨w.heap.size, 0, none⟩) (M.encDs l) ∧ Below w.heap.size w w' := by
  obtain ⟨i0, hi0, hz0, hz1, hz2⟩ := info_parts infoD
  have h' := Lib.hid h
  clear h
  go_enter Try.func58, Try.ntmps58
  go_wp2_with (at_make; refine wpList_make_full _ rfl _ _ 22 rfl w.heap.size 69 i0 (.agg #[.int .i64 0, .int .i64 0, .int .i64 0]) 3 Try.underlying22 hi0 hz0 hz1 .i64 .i64 _ _ l.length rfl rfl rfl rfl (by rw [hz2]; omega) (by unfold maxLen; omega) (Nat.le_refl _) ?_; intro w1 hown1 hgrow1)
  have hb1 : Below w.heap.size w w1 := (Below.refl _ _).grown hgrow1 (Nat.le_refl _) (fun k e => by cases e)
  have hx1 : ∃ xs : List Value, xs.length = l.length * 3 ∧ OwnAt w.heap.size w1.heap.size w1 69 (some ⟨w.heap.size, 0, none⟩) xs := ⟨_, hown1.1, OwnAt.of_own hown1⟩
  have HB1 := Lib.hid hb1
  have HX1 := Lib.hid hx1
  clear hown1 hgrow1 hb1 hx1
  go_wp2_with fail
  go_loopw [4] (fun i wr => ∃ (k : Nat) (xs : List Value), k ≤ l.length ∧ i = .int .i64 k ∧ xs.length = l.length * 3 ∧ xs.take (k * 3) = M.encDs (l.take k) ∧
      OwnAt w.heap.size wr.heap.size wr 69 (some ⟨w.heap.size, 0, none⟩) xs ∧ Below w.heap.size w wr) (fun i _ => l.length - (intOf i).toNat)
  case atStart =>
    obtain ⟨xs, hx, ho⟩ := HX1.out
    exact ⟨0, xs, Nat.zero_le _, rfl, hx, by simp [M.encDs], ho, HB1.out⟩
  case round =>
    obtain ⟨k, xs, hk, rfl, hxl, ht, hown, hnx⟩ := hrel
    have HT := Lib.hid ht
    have HN := Lib.hid hnx
    have HX := Lib.hid hxl
    clear ht hnx hxl
    by_cases hlt : k < l.length
    · obtain ⟨b, off, rfl, _, hb, hcell0⟩ := h'.out.at_ (k := k * 3) (by rw [M.encDs_len]; omega)
      have c0 : wr.cell? ⟨b, off + k * 3, none⟩ = some (.int .i64 l[k].1) := (HN.out.cell (p := ⟨b, off + k * 3, none⟩) (Nat.lt_of_lt_of_le hb hz)).trans (hcell0 _ _ (M.encDs_at0 hlt))
      have c1 : wr.cell? ⟨b, off + k * 3 + 1, none⟩ = some (.int .i64 l[k].2.1) := (HN.out.cell (p := ⟨b, off + k * 3 + 1, none⟩) (Nat.lt_of_lt_of_le hb hz)).trans (hcell0 _ _ (M.encDs_at1 hlt))
      have c2 : wr.cell? ⟨b, off + k * 3 + 2, none⟩ = some (.int .i64 l[k].2.2) := (HN.out.cell (p := ⟨b, off + k * 3 + 2, none⟩) (Nat.lt_of_lt_of_le hb hz)).trans (hcell0 _ _ (M.encDs_at2 hlt))
      have HO := Lib.hid hown
      clear hcell0 hown
      go_wp2_with fail
      refine (toDoor_any _ _).mono ?_
      rintro e w2 ⟨rfl, hb2⟩
      have own2 := HO.out.below hb2 (Nat.le_refl _)
      have hz2 := hb2.size
      obtain ⟨u0, _, d0, f0⟩ := own2.cell0 (k := k * 3) (by have := HX.out; omega)
      obtain ⟨u1, _, d1, f1⟩ := own2.cell0 (k := k * 3 + 1) (by have := HX.out; omega)
      obtain ⟨u2, _, d2, f2⟩ := own2.cell0 (k := k * 3 + 2) (by have := HX.out; omega)
      have HS := Lib.hid (((own2.set0 (k * 3) (.int .i64 l[k].1)).set0 (k * 3 + 1) (.int .i64 l[k].2.1)).set0 (k * 3 + 2) (.int .i64 l[k].2.2))
      have HN2 := Lib.hid ((((HN.out.trans (hb2.mono HN.out.size)).setCell (p := ⟨w.heap.size, k * 3, none⟩) (Nat.le_refl _) (.int .i64 l[k].1)).setCell (p := ⟨w.heap.size, k * 3 + 1, none⟩) (Nat.le_refl _) (.int .i64 l[k].2.1)).setCell (p := ⟨w.heap.size, k * 3 + 2, none⟩) (Nat.le_refl _) (.int .i64 l[k].2.2))
      have H3 := Lib.hid (set3 xs k (.int .i64 l[k].1) (.int .i64 l[k].2.1) (.int .i64 l[k].2.2) (by have := HX.out; omega))
      clear own2 hb2
      go_wp2_with fail
      go_roundw
      case rel =>
        refine ⟨k + 1, _, by omega, by go_num, ?_, ?_, HS.out.mono (Nat.le_refl _) (by simpa [World.setCell] using hz2), HN2.out⟩
        · simp only [List.length_set]; exact HX.out
        · rw [H3.out, HT.out, takeD_snoc hlt]; rfl
      case measure => simp [intOf]; omega
    · have HA : Hid (xs = M.encDs l) := Lib.hid (by
        have := HT.out
        rwa [List.take_of_length_le (by have := HX.out; omega), List.take_of_length_le (by omega)] at this)
      have HO := Lib.hid hown
      clear hown
      go_wp2_with fail
      go_ret
      exact ⟨rfl, by have := HO.out; rwa [HA.out] at this, HN.out⟩
theorem eqDoors_any (w : World) (lo hi lo' hi' : Nat) (a b : Option Addr) (c1 c2 : Nat) (l : List M.Dr) (hl : l.length ≤ 9223372036854775806) (h1 : RowIn lo hi w a (M.encDs l)) (h2 : RowIn lo' hi' w b (M.encDs l)) (hz1 : hi ≤ w.heap.size) (hz2 : hi' ≤ w.heap.size) :
    Calls Try.prog 62 #[.slice a l.length c1, .slice b l.length c2] w fun e w' => e = .returned (.bool true) ∧ Below w.heap.size w w' := by
  have h1' := Lib.hid h1
  have h2' := Lib.hid h2
  clear h1 h2
  go_enter Try.func62, Try.ntmps62
  go_wp2_with fail
  go_loopw [5] (fun i wr => ∃ (k : Nat), k ≤ l.length ∧ i = .int .i64 k ∧ Below w.heap.size w wr) (fun i _ => l.length - (intOf i).toNat)
  case atStart => exact ⟨0, Nat.zero_le _, rfl, Below.refl _ _⟩
  case round =>
    obtain ⟨k, hk, rfl, hnx⟩ := hrel
    have HN := Lib.hid hnx
    have hzr := hnx.size
    clear hnx
    by_cases hlt : k < l.length
    · obtain ⟨ab, ao, rfl, _, hab, hca0⟩ := (h1'.out.below HN.out hz1).at_ (k := k * 3) (by rw [M.encDs_len]; omega)
      obtain ⟨bb, bo, rfl, _, hbb, hcb0⟩ := (h2'.out.below HN.out hz2).at_ (k := k * 3) (by rw [M.encDs_len]; omega)
      have a0 := hca0 _ _ (M.encDs_at0 hlt)
      have a1 : wr.cell? ⟨ab, ao + k * 3 + 1, none⟩ = some (.int .i64 l[k].2.1) := hca0 _ _ (M.encDs_at1 hlt)
      have a2 : wr.cell? ⟨ab, ao + k * 3 + 2, none⟩ = some (.int .i64 l[k].2.2) := hca0 _ _ (M.encDs_at2 hlt)
      have b0 := hcb0 _ _ (M.encDs_at0 hlt)
      have b1 : wr.cell? ⟨bb, bo + k * 3 + 1, none⟩ = some (.int .i64 l[k].2.1) := hcb0 _ _ (M.encDs_at1 hlt)
      have b2 : wr.cell? ⟨bb, bo + k * 3 + 2, none⟩ = some (.int .i64 l[k].2.2) := hcb0 _ _ (M.encDs_at2 hlt)
      clear hca0 hcb0
      go_wp2_with fail
      go_region_with (go_at_call 95; refine (eqDoor_any _ _).mono ?_; rintro e w2 ⟨rfl, hb2⟩)
      all_goals
        have HN2 := Lib.hid (HN.out.drew.trans (hb2.mono hzr))
        clear hb2
        go_wp2_with fail
        go_roundw
        case rel => exact ⟨k + 1, by omega, by go_num, HN2.out⟩
        case measure => simp [intOf]; omega
    · go_wp2_with fail
      go_ret
      exact ⟨rfl, HN.out⟩
end C
end Go.Proofs.Ytcoaggnilgfjfaa
namespace Go.Proofs.Ytcoaggnilgfjfaa
open Go.RowKit
namespace C
set_option maxHeartbeats 800000
set_option maxRecDepth 20000
theorem toMaze_any (w : World) (lo hi : Nat) (m : M.Mz) (a b : Option Addr) (c d : Nat) (h : MzIn lo hi w m a c b d) (hz : hi ≤ w.heap.size) (h1 : m.doors.length ≤ 1048576) (h2 : m.keys.length ≤ 1048576) :
    Calls Try.prog 19 #[.agg #[.int .i64 m.size, .slice a m.doors.length c, .slice b m.keys.length d]] w (MzPost w m) := by
  have H := Lib.hid h
  clear h
  go_enter Try.func19, Try.ntmps19
  go_wp2_with fail
  refine named ?_
  intro W hW
  have hb : Below w.heap.size w W := by rw [hW]; exact (((Below.refl _ _).alloc (Nat.le_refl _) _).alloc (by simp) _).alloc (by simp; omega) _
  have x1 : Box3 W w.heap.size 25 (.int .i64 m.size) (.slice a m.doors.length c) (.slice b m.keys.length d) := by rw [hW]; exact ((Box3.new _ _ _ _ rfl).alloc _).alloc _
  have x2 : Box3 W (w.heap.size + 1) 29 (.int .i64 0) (.slice none 0 0) (.slice none 0 0) := by rw [hW]; exact (Box3.new _ _ _ _ (by simp)).alloc _
  have x3 : Box3 W (w.heap.size + 1 + 1) 29 (.int .i64 m.size) (.slice none 0 0) (.slice none 0 0) := by rw [hW]; exact Box3.new _ _ _ _ (by simp)
  clear hW
  have hz1 := x3.lt
  have H1 := Lib.hid (H.out.below hb hz)
  have hzw := hb.size
  refine (toDoors_any W lo hi a c m.doors H1.out.doors (by omega) h1).mono ?_
  rintro e w1 ⟨rfl, o1, hb1⟩
  have y1 := x1.below hb1
  have y2 := Lib.hid (x2.below hb1)
  have y3 := x3.below hb1
  obtain ⟨c10, c11, c12⟩ := y1.cells
  obtain ⟨c30, c31, c32⟩ := y3.cells
  obtain ⟨f30, f31, f32⟩ := y3.free
  have Y1 := Lib.hid y1
  have Y3 := Lib.hid y3
  have O1 := Lib.hid o1
  have B1 := Lib.hid (hb.trans (hb1.mono hzw))
  have H2 := Lib.hid (H1.out.below hb1 (by omega))
  have hz2 := hb1.size
  clear y1 y3 o1 hb1 x1 x2 x3 hb
  go_wp2_with fail
  refine named ?_
  intro W2 hW2
  clear c10 c11 c12 c30 c31 c32 f30 f31 f32
  have hT : Turned (w.heap.size + 1 + 1) (w.heap.size + 1 + 1 + 1) w1 W2 := by rw [hW2]; exact Turned.setCell w1 _ 1 _ (by omega) (by omega)
  have x3 : Box3 W2 (w.heap.size + 1 + 1) 29 (.int .i64 m.size) (.slice (some ⟨W.heap.size, 0, none⟩) m.doors.length m.doors.length) (.slice none 0 0) := by
    rw [hW2]
    have := Y3.out
    unfold Box3 at this ⊢
    simp [World.setCell, Array.getElem?_modify, this]
  have hzz : w1.heap.size ≤ W2.heap.size := hT.size
  have hsz : W2.heap.size = w1.heap.size := by rw [hW2]; simp [World.setCell]
  clear hW2
  have x2 := y2.out.turned hT (by omega)
  have o1 := O1.out.turned hT (Nat.le_refl _) (by omega)
  have H3 := H2.out.turned hT (by omega) (by omega)
  refine (toInts_any W2 lo hi b d m.keys H3.keys (by omega) h2).mono ?_
  rintro e w2 ⟨rfl, o2, hb2⟩
  have hz3 := hb2.size
  have z2 := x2.below hb2
  have z3 := x3.below hb2
  have p1 := o1.below hb2 (by omega)
  obtain ⟨c20, c21, c22⟩ := z2.cells
  obtain ⟨f20, f21, f22⟩ := z2.free
  obtain ⟨c30, c31, c32⟩ := z3.cells
  obtain ⟨f30, f31, f32⟩ := z3.free
  have P1 := Lib.hid p1
  have O2 := Lib.hid o2
  have Z2 := Lib.hid z2
  have Z3 := Lib.hid z3
  have HS := Lib.hid hsz
  have B2 := Lib.hid ((Below.thenTurned B1.out hT (by omega) (by omega)).trans (hb2.mono (by omega)))
  clear hT hsz x2 x3 z2 z3 p1 o2 o1 hb2 H3
  go_wp2_with fail
  refine bodyPost_ret (v := .agg #[.int .i64 m.size, .slice (some ⟨W.heap.size, 0, none⟩) m.doors.length m.doors.length, .slice (some ⟨W2.heap.size, 0, none⟩) m.keys.length m.keys.length]) (by simp [results, Try.results19, go_sem, c20, c21, c22]) rfl ?_
  have hT : ∀ u0 u1 u2 u3, Turned (w.heap.size + 1) (w.heap.size + 1 + 1 + 1) w2 ((((w2.setCell ⟨w.heap.size + 1 + 1, 2, none⟩ u0).setCell ⟨w.heap.size + 1, 0, none⟩ u1).setCell ⟨w.heap.size + 1, 1, none⟩ u2).setCell ⟨w.heap.size + 1, 2, none⟩ u3) := fun u0 u1 u2 u3 =>
    (((Turned.setCell _ _ _ _ (by omega) (by omega)).trans (Turned.setCell _ _ _ _ (by omega) (by omega))).trans (Turned.setCell _ _ _ _ (by omega) (by omega))).trans (Turned.setCell _ _ _ _ (by omega) (by omega))
  have hsz := HS.out
  refine ⟨_, _, _, _, rfl, ⟨(P1.out.turned (hT _ _ _ _) (by omega) (by omega)).mono (by omega) ?_, (O2.out.turned (hT _ _ _ _) (Nat.le_refl _) (by omega)).mono (by omega) ?_, Nat.le_refl _, by omega, Nat.le_refl _, by omega⟩, Below.thenTurned B2.out (hT _ _ _ _) (by omega) (by omega)⟩
  · have := (hT (.slice (some ⟨W2.heap.size, 0, none⟩) m.keys.length m.keys.length) (.int .i64 m.size) (.slice (some ⟨W.heap.size, 0, none⟩) m.doors.length m.doors.length) (.slice (some ⟨W2.heap.size, 0, none⟩) m.keys.length m.keys.length)).size
    omega
  · exact (hT _ _ _ _).size
theorem eqMaze_any (w : World) (lo hi lo' hi' : Nat) (m : M.Mz) (a b a' b' : Option Addr) (c d c' d' : Nat) (h : MzIn lo hi w m a c b d) (h' : MzIn lo' hi' w m a' c' b' d') (hz : hi ≤ w.heap.size) (hz' : hi' ≤ w.heap.size) (h1 : m.doors.length ≤ 1048576) (h2 : m.keys.length ≤ 1048576) :
    Calls Try.prog 21 #[.agg #[.int .i64 m.size, .slice a m.doors.length c, .slice b m.keys.length d], .agg #[.int .i64 m.size, .slice a' m.doors.length c', .slice b' m.keys.length d']] w fun e w' => e = .returned (.bool true) ∧ Below w.heap.size w w' := by
  have H := Lib.hid h
  have H' := Lib.hid h'
  clear h h'
  go_enter Try.func21, Try.ntmps21
  go_wp2_with fail
  refine named ?_
  intro W hW
  have hb : Below w.heap.size w W := by rw [hW]; exact ((Below.refl _ _).alloc (Nat.le_refl _) _).alloc (by simp) _
  have x1 : Box3 W w.heap.size 29 (.int .i64 m.size) (.slice a m.doors.length c) (.slice b m.keys.length d) := by rw [hW]; exact (Box3.new _ _ _ _ rfl).alloc _
  have x2 : Box3 W (w.heap.size + 1) 29 (.int .i64 m.size) (.slice a' m.doors.length c') (.slice b' m.keys.length d') := by rw [hW]; exact Box3.new _ _ _ _ (by simp)
  clear hW
  have hzw := hb.size
  have H1 := Lib.hid (H.out.below hb hz)
  have H1' := Lib.hid (H'.out.below hb hz')
  refine (eqDoors_any W lo hi lo' hi' a a' c c' m.doors (by omega) H1.out.doors H1'.out.doors (by omega) (by omega)).mono ?_
  rintro e w1 ⟨rfl, hb1⟩
  have y1 := x1.below hb1
  have y2 := x2.below hb1
  obtain ⟨c10, c11, c12⟩ := y1.cells
  obtain ⟨c20, c21, c22⟩ := y2.cells
  have hz1 := hb1.size
  have H2 := Lib.hid (H1.out.below hb1 (by omega))
  have H2' := Lib.hid (H1'.out.below hb1 (by omega))
  have B := Lib.hid (hb.trans (hb1.mono hzw))
  clear x1 x2 y1 y2 hb hb1
  go_wp2_with fail
  refine (eqInts_any w1 lo hi lo' hi' b b' d d' m.keys (by omega) H2.out.keys H2'.out.keys).mono ?_
  rintro e w2 ⟨rfl, n, rfl⟩
  go_wp2_with fail
  go_ret
  exact ⟨rfl, Below.drawnN B.out _⟩
theorem markDoors_any (w : World) (lo hi : Nat) (a : Option Addr) (c n k0 : Nat) (xs0 : List Value) (hn : xs0.length = n * 3) (hl : n ≤ 1073741824) (hk0 : k0 ≤ 4294967296) (h : OwnAt lo hi w 69 a xs0) :
    Calls Try.prog 65 #[.slice a n c, .int .i64 k0] w fun e w' => e = .returned (.int .i64 ((k0 + n * 3 : Nat) : Int)) ∧ OwnAt lo hi w' 69 a (M.marks k0 (n * 3)) ∧ Turned lo hi w w' := by
  have h' := Lib.hid h
  have HN0 := Lib.hid hn
  clear h hn
  go_enter Try.func65, Try.ntmps65
  go_wp2_with fail
  go_loopw [1, 5, 6] (fun m i _ wr => ∃ (k : Nat) (xs : List Value), k ≤ n ∧ i = .int .i64 k ∧ m = .int .i64 ((k0 + k * 3 : Nat) : Int) ∧ xs.length = n * 3 ∧ xs.take (k * 3) = M.marks k0 (k * 3) ∧
      OwnAt lo hi wr 69 a xs ∧ Turned lo hi w wr) (fun _ i _ _ => n - (intOf i).toNat)
  case atStart => exact ⟨0, xs0, Nat.zero_le _, rfl, by simp, HN0.out, by simp [M.marks], h'.out, Turned.refl _ _ _⟩
  case round =>
    obtain ⟨k, xs, hk, rfl, rfl, hxl, ht, hown, hnx⟩ := hrel
    have HT := Lib.hid ht
    have HX := Lib.hid hxl
    clear ht hxl
    by_cases hlt : k < n
    · have hkx : k * 3 + 2 < xs.length := by have := HX.out; omega
      obtain ⟨b, off, ha, h1, h2, hc⟩ := hown.row.at_ hkx
      subst ha
      obtain ⟨u0, hu0⟩ : ∃ u, xs[k * 3]? = some u := ⟨_, List.getElem?_eq_getElem (by omega)⟩
      obtain ⟨u1, hu1⟩ : ∃ u, xs[k * 3 + 1]? = some u := ⟨_, List.getElem?_eq_getElem (by omega)⟩
      obtain ⟨u2, hu2⟩ : ∃ u, xs[k * 3 + 2]? = some u := ⟨_, List.getElem?_eq_getElem (by omega)⟩
      have d0 : wr.cell? ⟨b, off + k * 3, none⟩ = some u0 := hc _ _ hu0
      have d1 : wr.cell? ⟨b, off + k * 3 + 1, none⟩ = some u1 := hc _ _ hu1
      have d2 : wr.cell? ⟨b, off + k * 3 + 2, none⟩ = some u2 := hc _ _ hu2
      have f0 : wr.frozen? ⟨b, off + k * 3, none⟩ = false := hown.free rfl hkx _
      have f1 : wr.frozen? ⟨b, off + k * 3 + 1, none⟩ = false := hown.free rfl hkx _
      have f2 : wr.frozen? ⟨b, off + k * 3 + 2, none⟩ = false := hown.free rfl hkx _
      have HS := Lib.hid (((hown.set_ rfl (k * 3) (.int .i64 ((k0 + k * 3 : Nat) : Int))).set_ rfl (k * 3 + 1) (.int .i64 ((k0 + (k * 3 + 1) : Nat) : Int))).set_ rfl (k * 3 + 2) (.int .i64 ((k0 + (k * 3 + 2) : Nat) : Int)))
      have HNX := Lib.hid hnx
      have HU := Lib.hid (fun u0 u1 u2 => ((Turned.setCell wr b (off + k * 3) u0 h1 h2).trans (Turned.setCell _ b (off + k * 3 + 1) u1 h1 h2)).trans (Turned.setCell _ b (off + k * 3 + 2) u2 h1 h2))
      have H3 := Lib.hid (set3 xs k (.int .i64 ((k0 + k * 3 : Nat) : Int)) (.int .i64 ((k0 + (k * 3 + 1) : Nat) : Int)) (.int .i64 ((k0 + (k * 3 + 2) : Nat) : Int)) (by omega))
      clear hu0 hu1 hu2 hc hown hnx
      go_wp2_with fail
      refine wp_loop_rounds 4 ?_
      rw [rounds_succ]
      go_wp2_with fail
      rw [rounds_succ]
      go_wp2_with fail
      rw [rounds_succ]
      go_wp2_with fail
      rw [rounds_succ]
      go_wp2_with fail
      go_roundw
      case rel =>
        refine ⟨k + 1, _, by omega, by go_num, by go_num, ?_, ?_, HS.out, HNX.out.trans (HU.out _ _ _)⟩
        · simp only [List.length_set]; exact HX.out
        · rw [H3.out, HT.out, show (k + 1) * 3 = k * 3 + 1 + 1 + 1 by omega, M.marks_succ, M.marks_succ, M.marks_succ]
          simp
      case measure => simp [intOf]; omega
    · obtain rfl : k = n := by omega
      have HO := Lib.hid hown
      have HN := Lib.hid hnx
      clear hown hnx
      go_wp2_with fail
      go_ret
      refine ⟨rfl, ?_, HN.out⟩
      have e : xs = M.marks k0 (k * 3) := by
        have := HT.out
        rwa [List.take_of_length_le (by have := HX.out; omega)] at this
      rw [← e]
      exact HO.out
/-- a maze whose numbers are rising ones from k on -/
def MzMarked (lo hi : Nat) (w : World) (k n1 n2 : Nat) (a b : Option Addr) : Prop := RowIn lo hi w a (M.marks k (n1 * 3)) ∧ RowIn lo hi w b (M.marks (k + n1 * 3) n2)
theorem MzMarked.turned {lo hi lo' hi' k n1 n2 : Nat} {w w' : World} {a b : Option Addr} (h : MzMarked lo hi w k n1 n2 a b) (t : Turned lo' hi' w w') (hz : hi ≤ w.heap.size) (hd : hi ≤ lo' ∨ hi' ≤ lo) : MzMarked lo hi w' k n1 n2 a b := ⟨h.1.turned t hz hd, h.2.turned t hz hd⟩
theorem tne : 69 ≠ 3 := by decide
theorem markMaze_any (w : World) (lo hi : Nat) (m : M.Mz) (a b : Option Addr) (c d k0 : Nat) (h : MzOwn lo hi w m a c b d) (hz : hi ≤ w.heap.size) (h1 : m.doors.length ≤ 1048576) (h2 : m.keys.length ≤ 1048576) (hk0 : k0 ≤ 1073741824) :
    Calls Try.prog 25 #[.agg #[.int .i64 m.size, .slice a m.doors.length c, .slice b m.keys.length d], .int .i64 k0] w fun e w' => e = .returned (.int .i64 ((k0 + m.doors.length * 3 + m.keys.length : Nat) : Int)) ∧ MzMarked lo hi w' k0 m.doors.length m.keys.length a b ∧ Turned lo hi w w' := by
  have H := Lib.hid h
  clear h
  go_enter Try.func25, Try.ntmps25
  go_wp2_with fail
  refine named ?_
  intro W hW
  have hb : Below w.heap.size w W := by rw [hW]; exact (Below.refl _ _).alloc (Nat.le_refl _) _
  have x1 : Box3 W w.heap.size 29 (.int .i64 m.size) (.slice a m.doors.length c) (.slice b m.keys.length d) := by rw [hW]; exact Box3.new _ _ _ _ rfl
  clear hW
  have hzw := hb.size
  have hlt := x1.lt
  have H1 := H.out.below hb hz
  obtain ⟨g1, n1, t1, q1, v1⟩ := H1.doors.narrow
  have T0 := Lib.hid (Turned.of_below hb lo hi)
  have O1 := Lib.hid H1.keys
  clear H1 hb
  refine (markDoors_any W g1 (g1 + 1) a c m.doors.length k0 _ (M.encDs_len _) (by omega) (by omega) n1).mono ?_
  rintro e w1 ⟨rfl, r1, tt1⟩
  have T1 := Lib.hid (t1 _ tt1)
  have o2 := O1.out.other tt1 fun cur V f hf => by rw [v1 _ _ _ hf]; exact tne
  have y1 := x1.turned T1.out (.inr (by omega))
  obtain ⟨c10, c11, c12⟩ := y1.cells
  obtain ⟨g2, n2, t2, q2, v2⟩ := o2.narrow
  have hz1 := T1.out.size
  have R1 := Lib.hid (q1 _ _ (by rw [M.marks_len, M.encDs_len]) r1)
  have Q2 := Lib.hid q2
  have T2' := Lib.hid t2
  have V2 := Lib.hid v2
  have hN := Lib.hid n2
  clear t1 x1 y1 n1 tt1 r1 q1 v1 q2 t2 v2 n2 o2
  go_wp2_with fail
  refine (markInts_any w1 g2 (g2 + 1) b d m.keys.length (k0 + m.doors.length * 3) _ (M.encIs_len _) (by omega) (by omega) hN.out).mono ?_
  rintro e w2 ⟨rfl, r2, tt2⟩
  have R1' := Lib.hid (R1.out.other tt2 fun cur V f hf => by rw [V2.out _ _ _ hf]; exact Ne.symm tne).row
  have R2 := Lib.hid (Q2.out _ _ (by rw [M.marks_len, M.encIs_len]) r2).row
  have F := Lib.hid (T0.out.trans (T1.out.trans (T2'.out _ tt2)))
  clear r2 tt2
  go_wp2_with fail
  go_ret
  exact ⟨rfl, ⟨R1'.out, R2.out⟩, F.out⟩
end C
end Go.Proofs.Ytcoaggnilgfjfaa
