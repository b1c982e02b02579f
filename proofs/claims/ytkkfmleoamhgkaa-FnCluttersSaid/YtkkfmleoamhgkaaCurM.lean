/-
  CONTRACTS of the drawing cursor (*spec.l1Cur), over this chapter's words: next gives a number within 0..255, pick one within 0..n-1, one a bool, among an element of its list of numbers, few and colours a number; each writes the cursor's own block alone, beside new blocks. Conditions: the cursor is a block of the call's own, and its code reads as bytes.
-/
import Derived.Test.YtkkfmleoamhgkaaOwn
import Derived.Test.YtkkfmleoamhgkaaSets
import Derived.IntWalk
import Derived.WalkKit
import Derived.WalkSpells
import Derived.WalkLawsBesides
import Derived.Lib.Hide
import Derived.BigQuiet
import Derived.Deep.QuietTactic
import Derived.Deep.AppendLies
namespace Go.Proofs.Ytkkfmleoamhgkaa
open Go.RowKit
namespace C

/-- the code that the cursor reads: bytes, in memory below block B -/
def CodeAt (B : Nat) (w : World) (a : Option Addr) (len : Nat) : Prop :=
  len = 0 ∨ ∃ b off, a = some ⟨b, off, none⟩ ∧ b < B ∧ ∀ i, i < len → ∃ z : Int, w.cell? ⟨b, off + i, none⟩ = some (.int .u8 z) ∧ 0 ≤ z ∧ z ≤ 255
/-- block g is a cursor over such a code, at a place of at most p -/
def CurAt (B : Nat) (w : World) (g : Nat) (a : Option Addr) (len cap p : Nat) : Prop :=
  B ≤ g ∧ len ≤ 65536 ∧ CodeAt B w a len ∧ ∃ (i : Nat) (q : Int), i ≤ p ∧ 0 ≤ q ∧ q ≤ 18446744073709551615 ∧ w.heap[g]? = some (.cells #[.slice a len cap, .int .i64 i, .int .u64 q] 42 (0, 0))

theorem CodeAt.grown {B : Nat} {w w' : World} {a : Option Addr} {len : Nat} {row : Option Nat} (h : CodeAt B w a len) (hg : w.grownBy w' row) (hB : B ≤ w.heap.size) (hr : ∀ k, row = some k → B ≤ k) : CodeAt B w' a len := by
  rcases h with h | ⟨b, off, ha, hb, hc⟩
  · exact .inl h
  · refine .inr ⟨b, off, ha, hb, fun i hi => ?_⟩
    obtain ⟨z, hz, h0, h1⟩ := hc i hi
    refine ⟨z, (World.cell?_of_block (w := w) (hg.block b (by omega) (fun e => by have := hr _ e.symm; omega))).trans hz, h0, h1⟩
theorem CurAt.lt {B : Nat} {w : World} {g : Nat} {a : Option Addr} {len cap p : Nat} (h : CurAt B w g a len cap p) : g < w.heap.size := by
  obtain ⟨_, _, _, i, q, _, _, _, hh⟩ := h
  exact heap_lt hh
/-- a cursor stays where other blocks turn -/
theorem CurAt.other {B : Nat} {w w' : World} {g : Nat} {a : Option Addr} {len cap p : Nat} {row : Option Nat} (h : CurAt B w g a len cap p) (hg : w.grownBy w' row) (hr : ∀ k, row = some k → B ≤ k) (hne : some g ≠ row) : CurAt B w' g a len cap p := by
  have hlt := h.lt
  obtain ⟨h1, h2, h3, i, q, h4, h5, h6, hh⟩ := h
  exact ⟨h1, h2, h3.grown hg (by omega) hr, i, q, h4, h5, h6, (hg.block g hlt hne).trans hh⟩
theorem CurAt.mono {B : Nat} {w : World} {g : Nat} {a : Option Addr} {len cap p p' : Nat} (h : CurAt B w g a len cap p) (hp : p ≤ p') : CurAt B w g a len cap p' := by
  obtain ⟨h1, h2, h3, i, q, h4, h5⟩ := h
  exact ⟨h1, h2, h3, i, q, by omega, h5⟩
theorem grown_trans {a b c : World} {row : Option Nat} (h : a.grownBy b row) (k : b.grownBy c row) : a.grownBy c row :=
  ⟨k.os.trans h.os, k.tape.trans h.tape, k.output.trans h.output, Nat.le_trans h.size k.size, fun i hi hne => (k.block i (Nat.lt_of_lt_of_le hi h.size) hne).trans (h.block i hi hne)⟩
theorem grown_below {B : Nat} {a b : World} {row : Option Nat} (h : a.grownBy b row) (hB : B ≤ a.heap.size) (hr : ∀ k, row = some k → B ≤ k) : Below B a b :=
  ⟨h.os, h.tape, h.output, h.size, fun k hk => h.block k (by omega) (fun e => by have := hr _ e.symm; omega)⟩
theorem grown_drewN (w : World) (n : Nat) (row : Option Nat) : w.grownBy (w.drewN n) row := ⟨rfl, rfl, rfl, Nat.le_refl _, fun _ _ _ => rfl⟩
theorem grown_setCell (w : World) (g i : Nat) (u : Value) : w.grownBy (w.setCell ⟨g, i, none⟩ u) (some g) :=
  ⟨rfl, rfl, rfl, by simp [World.setCell], fun k _ hne => Below.heap_setCell w ⟨g, i, none⟩ u k (fun e => hne (by rw [e]))⟩

/-- what a step of the cursor makes of the world -/
theorem cur_step {w : World} {g : Nat} {A B0 C0 B1 C1 : Value} {T : TypeId} (n m : Nat) (h : w.heap[g]? = some (.cells #[A, B0, C0] T (0, 0))) :
    ((((w.drewN n).setCell ⟨g, 1, none⟩ B1).setCell ⟨g, 2, none⟩ C1).drewN m).heap[g]? = some (.cells #[A, B1, C1] T (0, 0)) ∧ w.grownBy ((((w.drewN n).setCell ⟨g, 1, none⟩ B1).setCell ⟨g, 2, none⟩ C1).drewN m) (some g) := by
  refine ⟨?_, grown_trans (grown_drewN w n _) (grown_trans (grown_setCell _ g 1 B1) (grown_trans (grown_setCell _ g 2 C1) (grown_drewN _ m _)))⟩
  simp [World.setCell, Array.getElem?_modify, h]

theorem and255 (x : Int) : 0 ≤ bits .and .u64 x 255 ∧ bits .and .u64 x 255 ≤ 255 := by
  have h : bits .and .u64 x 255 = IntKind.u64.wrap ((BitVec.ofInt 64 x &&& BitVec.ofInt 64 255).toNat : Int) := rfl
  have h2 : (BitVec.ofInt 64 x &&& BitVec.ofInt 64 255).toNat ≤ 255 := by
    rw [BitVec.toNat_and]
    exact Nat.and_le_right
  rw [h, IntKind.wrap_u64]
  omega

/-- the post of a step: a number within 0..255; the cursor one place on; its block alone has turned -/
def NextPost (B : Nat) (w : World) (g : Nat) (a : Option Addr) (len cap p : Nat) (e : Ending) (w' : World) : Prop :=
  ∃ r : Int, e = .returned (.int .i64 r) ∧ 0 ≤ r ∧ r ≤ 255 ∧ CurAt B w' g a len cap (p + 1) ∧ w.grownBy w' (some g)

theorem wrap_u64_bd (x : Int) : 0 ≤ IntKind.u64.wrap x ∧ IntKind.u64.wrap x ≤ 18446744073709551615 := by
  rw [IntKind.wrap_u64]
  omega

theorem next_end {B : Nat} {w : World} {g : Nat} {a : Option Addr} {len cap p : Nat} {i : Nat} {q : Int} (hB : B ≤ g) (hl : len ≤ 65536) (hc : CodeAt B w a len) (hi : i ≤ p)
    (hh : w.heap[g]? = some (.cells #[.slice a len cap, .int .i64 i, .int .u64 q] 42 (0, 0))) (n m : Nat) {r : Int} (hr : 0 ≤ r ∧ r ≤ 255) (x : Int) {e : Ending} (he : e = .returned (.int .i64 r)) :
    NextPost B w g a len cap p e ((((w.drewN n).setCell ⟨g, 1, none⟩ (.int .i64 ((i : Int) + 1))).setCell ⟨g, 2, none⟩ (.int .u64 (IntKind.u64.wrap x))).drewN m) := by
  obtain ⟨h1, h2⟩ := cur_step (B1 := .int .i64 ((i : Int) + 1)) (C1 := .int .u64 (IntKind.u64.wrap x)) n m hh
  have hlt := heap_lt hh
  exact ⟨r, he, hr.1, hr.2, ⟨hB, hl, hc.grown h2 (by omega) (fun k e => by cases e; exact hB), i + 1, _, by omega, (wrap_u64_bd x).1, (wrap_u64_bd x).2, h1⟩, h2⟩

set_option maxHeartbeats 800000 in
theorem next_any (B : Nat) (w : World) (g : Nat) (a : Option Addr) (len cap p : Nat) (h : CurAt B w g a len cap p) (hp : p ≤ 1073741824) :
    Calls Try.prog 51 #[.pointer (some ⟨g, 0, none⟩)] w (NextPost B w g a len cap p) := by
  obtain ⟨hB, hl, hc, i, q, hi, hq0, hq1, hh⟩ := h
  have c0 := cell_of_row w g 0 _ _ _ hh
  have c1 := cell_of_row w g 1 _ _ _ hh
  have c2 := cell_of_row w g 2 _ _ _ hh
  have f1 : w.frozen? ⟨g, 1, none⟩ = false := by simp [World.frozen?, hh]
  have f2 : w.frozen? ⟨g, 2, none⟩ = false := by simp [World.frozen?, hh]
  simp at c0 c1 c2
  have hc' := Lib.hid hc
  by_cases hlt : i < len
  · rcases hc with h0 | ⟨b, off, rfl, hb, hz⟩
    · omega
    · obtain ⟨z, hz, hz0, hz1⟩ := hz i hlt
      have hbg : b ≠ g := by omega
      have E := Lib.hid (fun n m x e => next_end (cap := cap) (p := p) (q := q) hB hl hc'.out hi hh n m ⟨hz0, hz1⟩ x (e := e))
      clear hh hc'
      go_enter Try.func51, Try.ntmps51
      go_wp2_with fail
      go_quiet (fail)
      go_wp2_with fail
      go_quiet (fail)
      go_wp2_with fail
      go_quiet (fail)
      go_wp2_with fail
      go_ret
      exact E.out _ _ _ _ rfl
  · have hr := fun x => and255 x
    have E := Lib.hid (fun n m r hr x e => next_end (cap := cap) (p := p) (q := q) (r := r) hB hl hc'.out hi hh n m hr x (e := e))
    have R := Lib.hid (fun x => IntWalk.wrap64_in (bits .and .u64 x 255) ⟨by have := and255 x; omega, by have := and255 x; omega⟩)
    clear hh hc' hc hr
    go_enter Try.func51, Try.ntmps51
    go_wp2_with fail
    go_quiet (fail)
    go_wp2_with fail
    go_quiet (fail)
    go_wp2_with fail
    go_ret
    exact E.out _ _ _ (and255 _) _ _ (congrArg (fun x => Ending.returned (.int .i64 x)) (R.out _))

/-- the post of a choice: a number that meets Q; the cursor at most k places on; its block alone has turned -/
def PickPost (B : Nat) (w : World) (g : Nat) (a : Option Addr) (len cap p : Nat) (n : Int) (e : Ending) (w' : World) : Prop :=
  ∃ r : Int, e = .returned (.int .i64 r) ∧ 0 ≤ r ∧ r < n ∧ CurAt B w' g a len cap (p + 2) ∧ w.grownBy w' (some g)

set_option maxHeartbeats 800000 in
theorem pick_any (B : Nat) (w : World) (g : Nat) (a : Option Addr) (len cap p : Nat) (n : Int) (h : CurAt B w g a len cap p) (hp : p ≤ 1073741000) (hn : 1 ≤ n) (hn2 : n ≤ 65536) :
    Calls Try.prog 41 #[.pointer (some ⟨g, 0, none⟩), .int .i64 n] w (PickPost B w g a len cap p n) := by
  by_cases h1 : n ≤ 1
  · obtain rfl : n = 1 := by omega
    have H := Lib.hid h
    clear h
    go_enter Try.func41, Try.ntmps41
    go_wp2_with fail
    go_ret
    exact ⟨0, rfl, by omega, by omega, H.out.mono (by omega), ⟨rfl, rfl, rfl, Nat.le_refl _, fun _ _ _ => rfl⟩⟩
  · by_cases h2 : 200 < n
    · have c := Lib.hid (next_any B w g a len cap p h (by omega))
      clear h
      go_enter Try.func41, Try.ntmps41
      go_wp2_with fail
      refine c.out.mono ?_
      rintro e w1 ⟨r, rfl, hr0, hr1, hc1, hg1⟩
      have c2 := Lib.hid (next_any B w1 g a len cap (p + 1) hc1 (by omega))
      have hg1' := Lib.hid hg1
      clear hc1 hg1
      go_wp2_with fail
      refine c2.out.mono ?_
      rintro e w2 ⟨r2, rfl, hr20, hr21, hc2, hg2⟩
      have hg2' := Lib.hid hg2
      have hc2' := Lib.hid hc2
      clear hc2 hg2
      have hm1 := Int.emod_nonneg (r * 256 + r2) (b := n) (by omega)
      have hm2 := Int.emod_lt_of_pos (r * 256 + r2) (b := n) (by omega)
      go_wp2_with fail
      go_ret
      exact ⟨_, rfl, hm1, hm2, hc2'.out, grown_trans hg1'.out hg2'.out⟩
    · have c := Lib.hid (next_any B w g a len cap p h (by omega))
      clear h
      go_enter Try.func41, Try.ntmps41
      go_wp2_with fail
      refine c.out.mono ?_
      rintro e w1 ⟨r, rfl, hr0, hr1, hc1, hg1⟩
      have hg1' := Lib.hid hg1
      have hc1' := Lib.hid hc1
      clear hc1 hg1
      have hm1 := Int.emod_nonneg r (b := n) (by omega)
      have hm2 := Int.emod_lt_of_pos r (b := n) (by omega)
      go_wp2_with fail
      go_ret
      exact ⟨_, rfl, hm1, hm2, hc1'.out.mono (by omega), hg1'.out⟩

/-- the post of a yes or no -/
def OnePost (B : Nat) (w : World) (g : Nat) (a : Option Addr) (len cap p : Nat) (e : Ending) (w' : World) : Prop :=
  ∃ b : Bool, e = .returned (.bool b) ∧ CurAt B w' g a len cap (p + 2) ∧ w.grownBy w' (some g)
theorem one_any (B : Nat) (w : World) (g : Nat) (a : Option Addr) (len cap p : Nat) (n : Int) (h : CurAt B w g a len cap p) (hp : p ≤ 1073741000) (hn : 1 ≤ n) (hn2 : n ≤ 65536) :
    Calls Try.prog 42 #[.pointer (some ⟨g, 0, none⟩), .int .i64 n] w (OnePost B w g a len cap p) := by
  have c := Lib.hid (pick_any B w g a len cap p n h hp hn hn2)
  clear h
  go_enter Try.func42, Try.ntmps42
  go_wp2_with fail
  refine c.out.mono ?_
  rintro e w1 ⟨r, rfl, hr0, hr1, hc1, hg1⟩
  have hg1' := Lib.hid hg1
  have hc1' := Lib.hid hc1
  clear hc1 hg1
  go_wp2_with fail
  go_ret
  exact ⟨_, rfl, hc1'.out, hg1'.out⟩

theorem new_cells {α : Type} (w : World) (f : α → Value) (l : List α) (T : TypeId) : ∀ j s, l[j]? = some s → (w.alloc (.cells (l.map f).toArray T)).cell? ⟨w.heap.size, j, none⟩ = some (f s) := by
  intro j s h
  rw [World.cell?_alloc_new]
  simp [h]
theorem grown_alloc (w : World) (o : Obj) (row : Option Nat) : w.grownBy (w.alloc o) row := World.grownBy_alloc w o row

/-- a new cursor -/
theorem cur_new (w : World) (a : Option Addr) (len cap : Nat) (hl : len ≤ 65536) (hc : CodeAt w.heap.size w a len) :
    CurAt w.heap.size (w.alloc (.cells #[.slice a len cap, .int .i64 0, .int .u64 0] 42)) w.heap.size a len cap 0 :=
  ⟨Nat.le_refl _, hl, hc.grown (grown_alloc w _ none) (Nat.le_refl _) (fun k e => by cases e), 0, 0, Nat.le_refl _, by omega, by omega, heap_alloc_new w _⟩
theorem grown_to_below {w w' : World} {o : Obj} (h : (w.alloc o).grownBy w' (some w.heap.size)) : Below w.heap.size w w' :=
  grown_below (row := some w.heap.size) (grown_trans (grown_alloc w o _) h) (Nat.le_refl _) (fun k e => by cases e; exact Nat.le_refl _)
/-- the post of an element of a list of numbers -/
def AmongPost (B : Nat) (w : World) (g : Nat) (a : Option Addr) (len cap p : Nat) (l : List Int) (e : Ending) (w' : World) : Prop :=
  ∃ s : Int, e = .returned (.int .i64 s) ∧ s ∈ l ∧ CurAt B w' g a len cap (p + 2) ∧ w.grownBy w' (some g)
set_option maxHeartbeats 800000 in
theorem among_any (B : Nat) (w : World) (g : Nat) (a : Option Addr) (len cap p : Nat) (gl lc : Nat) (l : List Int) (h : CurAt B w g a len cap p) (hp : p ≤ 1073741000) (hl : 0 < l.length) (hl2 : l.length ≤ 100) (_hlc : l.length ≤ lc)
    (hne : gl ≠ g) (hgl : gl < w.heap.size) (hc : ∀ j s, l[j]? = some s → w.cell? ⟨gl, j, none⟩ = some (.int .i64 s)) :
    Calls Try.prog 39 #[.pointer (some ⟨g, 0, none⟩), .slice (some ⟨gl, 0, none⟩) l.length lc] w (AmongPost B w g a len cap p l) := by
  have c := Lib.hid (pick_any B w g a len cap p l.length h hp (by omega) (by omega))
  have hc' := Lib.hid hc
  clear h hc
  go_enter Try.func39, Try.ntmps39
  go_wp2_with fail
  refine c.out.mono ?_
  rintro e w1 ⟨r, rfl, hr0, hr1, hc1, hg1⟩
  obtain ⟨k, rfl⟩ : ∃ k : Nat, r = k := ⟨r.toNat, by omega⟩
  have hk : k < l.length := by omega
  have hcell : w1.cell? ⟨gl, k, none⟩ = some (.int .i64 l[k]) := (hg1.cell_far ⟨gl, k, none⟩ hgl (fun e => hne (Option.some.inj e))).trans (hc'.out k _ (List.getElem?_eq_getElem hk))
  have hg1' := Lib.hid hg1
  have hc1' := Lib.hid hc1
  have hm := Lib.hid (List.getElem_mem hk)
  clear hc1 hg1
  go_wp2_with fail
  go_ret
  exact ⟨_, rfl, hm.out, hc1'.out, hg1'.out⟩
/-- among over a list of numbers that lies in a new block -/
theorem among_new (B : Nat) (w : World) (g : Nat) (a : Option Addr) (len cap p : Nat) (l : List Int) (h : CurAt B w g a len cap p) (hp : p ≤ 1073741000) (hl : 0 < l.length) (hl2 : l.length ≤ 100) (T : TypeId) (n : Nat) (hn : n = l.length) (lc : Nat) (hlc : n ≤ lc) (X : Array Value) (hX : X = (l.map (Value.int .i64)).toArray) :
    Calls Try.prog 39 #[.pointer (some ⟨g, 0, none⟩), .slice (some ⟨w.heap.size, 0, none⟩) n lc] (w.alloc (.cells X T)) (AmongPost B w g a len cap p l) := by
  subst hX
  subst hn
  have hlt := h.lt
  refine (among_any B (w.alloc (.cells (l.map (Value.int .i64)).toArray T)) g a len cap p w.heap.size lc l (h.other (grown_alloc w _ none) (fun k e => by cases e) (by simp)) hp hl hl2 hlc (by omega) (by simp) (new_cells w (Value.int .i64) l T)).mono ?_
  rintro e w' ⟨s, he, hs, hc, hg⟩
  exact ⟨s, he, hs, hc, grown_trans (grown_alloc w _ _) hg⟩
end C
end Go.Proofs.Ytkkfmleoamhgkaa
