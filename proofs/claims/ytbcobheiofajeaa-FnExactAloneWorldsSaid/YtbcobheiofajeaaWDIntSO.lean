/-
  CONTRACTS of the laws' own helpers over slices of slices of numbers: eqIntSS says yes of two that read alike, markIntSS writes rising numbers, heldIntSS finds them. Condition: each row lies in a block of its own, at most 1048576 numbers in all.
  WORDS for a queue of the call's own, own to these proofs: a slice that lies anywhere in a row that the call owns; what is taken off its head, what is appended to it. No condition.
  WORDS for a table that grows: a list of slices of the call's own, each in a block of its own, own to these proofs; a row may be nil. No condition.
  CONTRACTS of the laws' helpers over a table of numbers, in a law's words. Condition: each row lies in a block of its own, or is nil, at most 1048576 numbers in all.
  CONTRACT of impl.Maze.hasNode in a weaker form: what lay in memory stays. No condition.
  WORDS for two results, own to these proofs: a bool and whether the arguments were valid. No condition.
-/
import Derived.Test.YtbcobheiofajeaaWAMem
import Derived.Test.YtbcobheiofajeaaWCOwnMaz2
import Derived.Deep.AppendSrc
import Derived.Deep.AppendLies
import Derived.Test.YtbcobheiofajeaaWBReachMath
namespace Go.Proofs.Ytbcobheiofajeaa
open Go.RowKit
namespace M
def totL (X : List (List Value)) : Nat := (X.map List.length).sum
theorem totL_nil : totL [] = 0 := rfl
theorem totL_cons (x : List Value) (X : List (List Value)) : totL (x :: X) = x.length + totL X := by unfold totL; rw [List.map_cons, List.sum_cons]
theorem totL_append (X Y : List (List Value)) : totL (X ++ Y) = totL X + totL Y := by unfold totL; rw [List.map_append, List.sum_append]
theorem totL_succ {X : List (List Value)} {k : Nat} (h : k < X.length) : totL (X.take (k + 1)) = totL (X.take k) + X[k].length := by
  rw [List.take_succ_eq_append_getElem h, totL_append, totL_cons, totL_nil]
  omega
theorem totL_le (X : List (List Value)) (k : Nat) : totL (X.take k) ≤ totL X := by
  have := totL_append (X.take k) (X.drop k)
  rw [List.take_append_drop] at this
  omega
theorem len_le_tot {X : List (List Value)} {k : Nat} (h : k < X.length) : X[k].length ≤ totL X := by
  have h1 := totL_succ h
  have h2 := totL_le X (k + 1)
  omega
/-- rising numbers, row by row -/
def marksSS : Nat → List (List Value) → List (List Value)
  | _, [] => []
  | k, x :: X => marks k x.length :: marksSS (k + x.length) X
theorem marksSS_len : ∀ (X : List (List Value)) (k : Nat), (marksSS k X).length = X.length
  | [], _ => rfl
  | x :: X, k => by
    show (marks k x.length :: marksSS (k + x.length) X).length = _
    rw [List.length_cons, marksSS_len X, List.length_cons]
theorem marksSS_at : ∀ (X : List (List Value)) (k i : Nat) (h : i < X.length), (marksSS k X)[i]? = some (marks (k + totL (X.take i)) X[i].length)
  | x :: X, k, 0, h => by
    show (marks k x.length :: marksSS (k + x.length) X)[0]? = _
    rfl
  | x :: X, k, i + 1, h => by
    show (marks k x.length :: marksSS (k + x.length) X)[i + 1]? = _
    rw [List.getElem?_cons_succ, marksSS_at X (k + x.length) i (by simpa using h), List.take_succ_cons, totL_cons, Nat.add_assoc]
    rfl
end M
namespace C
theorem infoII : (Try.prog.info? 39).map (fun i => (i.zero, i.size, i.bytes)) = some (some (.slice none 0 0), 1, 24) := by kernel_rfl
/-- a row's slice: the block, where it has one, the length, the room -/
abbrev Sl := Option Nat × Nat × Nat
def adr (p : Option Nat) : Option Addr := p.map fun g => ⟨g, 0, none⟩
def loB (p : Option Nat) : Nat := p.getD 0
def hiB : Option Nat → Nat
  | some g => g + 1
  | none => 0
def slV (u : Sl) : Value := .slice (adr u.1) u.2.1 u.2.2
/-- a list of lists of values, each in a block of its own, or nil -/
structure OwnSS (lo hi : Nat) (w : World) (a : Option Addr) (V : List Sl) (X : List (List Value)) : Prop where
  len : V.length = X.length
  outer : OwnAt lo hi w 39 a (V.map slV)
  row : ∀ (i : Nat) (u : Sl) (x : List Value), V[i]? = some u → X[i]? = some x → u.2.1 = x.length ∧ (∀ g, u.1 = some g → lo ≤ g ∧ g < hi) ∧ OwnAt (loB u.1) (hiB u.1) w 3 (adr u.1) x
  apart : ∀ (i j : Nat) (u v : Sl), V[i]? = some u → V[j]? = some v → i ≠ j → ∀ g, u.1 = some g → v.1 ≠ some g
  beside : ∀ u ∈ V, ∀ p : Addr, a = some p → u.1 ≠ some p.block
section
variable {lo hi lo' hi' : Nat} {w w' : World} {a : Option Addr} {V : List Sl} {X : List (List Value)}
theorem OwnAt.turnedB {T : TypeId} {xs : List Value} (h : OwnAt lo hi w T a xs) (t : Turned lo' hi' w w') (hd : ∀ p, a = some p → p.block < lo' ∨ hi' ≤ p.block) : OwnAt lo hi w' T a xs := by
  rcases h with h | ⟨g, off, cur, ha, h1, h2, hh, hc⟩
  · exact .inl h
  · exact .inr ⟨g, off, cur, ha, h1, h2, (t.block g (heap_lt hh) (hd _ ha)).trans hh, hc⟩
theorem adr_some {p : Option Nat} {q : Addr} (h : adr p = some q) : p = some q.block := by
  cases p with
  | none => cases h
  | some g => injection h with h; subst h; rfl
theorem OwnSS.turned (h : OwnSS lo hi w a V X) (t : Turned lo' hi' w w') (hz : hi ≤ w.heap.size) (hd : hi ≤ lo' ∨ hi' ≤ lo) : OwnSS lo hi w' a V X :=
  ⟨h.len, h.outer.turned t hz hd, fun i u x hu hx => by
    obtain ⟨h1, h2, h4⟩ := h.row i u x hu hx
    refine ⟨h1, h2, h4.turnedB t fun p hp => ?_⟩
    have := h2 _ (adr_some hp)
    omega, h.apart, h.beside⟩
theorem OwnSS.mono (h : OwnSS lo hi w a V X) (h1 : lo' ≤ lo) (h2 : hi ≤ hi') : OwnSS lo' hi' w a V X :=
  ⟨h.len, h.outer.mono h1 h2, fun i u x hu hx => by
    obtain ⟨q1, q2, q4⟩ := h.row i u x hu hx
    exact ⟨q1, fun g hg => by have := q2 g hg; omega, q4⟩, h.apart, h.beside⟩
theorem OwnSS.at_ (h : OwnSS lo hi w a V X) {k : Nat} (hk : k < X.length) : ∃ g c b off, V[k]? = some (g, X[k].length, c) ∧ a = some ⟨b, off, none⟩ ∧ w.cell? ⟨b, off + k, none⟩ = some (.slice (adr g) X[k].length c) ∧ (∀ r, g = some r → lo ≤ r ∧ r < hi) ∧ b < hi ∧ OwnAt (loB g) (hiB g) w 3 (adr g) X[k] := by
  have hkV : k < V.length := by rw [h.len]; exact hk
  obtain ⟨b, off, ha, _, hb, hc⟩ := h.outer.row.at_ (k := k) (by rw [List.length_map]; exact hkV)
  obtain ⟨⟨g, n, c⟩, hu⟩ : ∃ u, V[k]? = some u := ⟨_, List.getElem?_eq_getElem hkV⟩
  obtain ⟨h1, h2, h4⟩ := h.row k _ _ hu (List.getElem?_eq_getElem hk)
  have hn : n = X[k].length := h1
  subst hn
  exact ⟨g, c, b, off, hu, ha, hc k _ (by rw [List.getElem?_map, hu]; rfl), h2, hb, h4⟩
/-- one row is written over -/
theorem OwnSS.setRow (h : OwnSS lo hi w a V X) {k n c : Nat} {g : Option Nat} (hu : V[k]? = some (g, n, c)) {Z : List Value} (hl : n = Z.length) (t : Turned (loB g) (hiB g) w w') (ho : OwnAt (loB g) (hiB g) w' 3 (adr g) Z) : OwnSS lo hi w' a V (X.set k Z) := by
  have far : ∀ b : Nat, g ≠ some b → b < loB g ∨ hiB g ≤ b := fun b hb => by
    cases g with
    | none => exact .inr (Nat.zero_le _)
    | some r =>
      have : r ≠ b := fun e => hb (by rw [e])
      show b < r ∨ r + 1 ≤ b
      omega
  refine ⟨by rw [List.length_set]; exact h.len, h.outer.turnedB t fun p hp => far _ (h.beside _ (List.mem_of_getElem? hu) p hp), fun i u x hi hx => ?_, h.apart, h.beside⟩
  have hkV := (List.getElem?_eq_some_iff.1 hu).1
  have hkX : k < X.length := by rw [← h.len]; exact hkV
  by_cases e : i = k
  · subst e
    rw [hu] at hi
    injection hi with hi
    subst hi
    rw [List.getElem?_set_self hkX] at hx
    injection hx with hx
    subst hx
    obtain ⟨_, h2, _⟩ := h.row i _ _ hu (List.getElem?_eq_getElem hkX)
    exact ⟨hl, h2, ho⟩
  · rw [List.getElem?_set_ne (fun e2 => e e2.symm)] at hx
    obtain ⟨h1, h2, h4⟩ := h.row i u x hi hx
    refine ⟨h1, h2, h4.turnedB t fun p hp => far _ ?_⟩
    exact h.apart i k _ _ hi hu e _ (adr_some hp)
end
theorem Turned.row {lo hi : Nat} {w w' : World} {p : Option Nat} (h : Turned (loB p) (hiB p) w w') (hp : ∀ g, p = some g → lo ≤ g ∧ g < hi) : Turned lo hi w w' := by
  cases p with
  | none => exact ⟨h.os, h.tape, h.output, h.size, fun k hk _ => h.block k hk (.inr (Nat.zero_le _))⟩
  | some g =>
    have := hp g rfl
    exact ⟨h.os, h.tape, h.output, h.size, fun k hk ho => h.block k hk (by show k < g ∨ g + 1 ≤ k; omega)⟩
theorem Turned.more {lo hi lo' hi' : Nat} {w w' : World} (h : Turned lo hi w w') (h1 : lo' ≤ lo) (h2 : hi ≤ hi') : Turned lo' hi' w w' := ⟨h.os, h.tape, h.output, h.size, fun k hk ho => h.block k hk (by omega)⟩
set_option maxHeartbeats 1600000
set_option maxRecDepth 20000
theorem eqIntSS_any (w : World) (lo hi lo' hi' : Nat) (a a' : Option Addr) (c c' : Nat) (V V' : List Sl) (ll : List (List Int)) (h1 : OwnSS lo hi w a V (ll.map M.encIs)) (h2 : OwnSS lo' hi' w a' V' (ll.map M.encIs)) (hz : hi ≤ w.heap.size) (hz' : hi' ≤ w.heap.size) (hl : ll.length ≤ 1048576) (ht : M.totL (ll.map M.encIs) ≤ 1048576) :
    Calls Try.prog 22 #[.slice a ll.length c, .slice a' ll.length c'] w (fun e w' => e = .returned (.bool true) ∧ Below w.heap.size w w') := by
  have H1 := Lib.hid h1
  have H2 := Lib.hid h2
  have HT := Lib.hid (fun k (hk : k < ll.length) => show ll[k].length ≤ 1048576 by
    have := M.len_le_tot (X := ll.map M.encIs) (k := k) (by rw [List.length_map]; exact hk)
    rw [List.getElem_map, M.encIs_len] at this
    omega)
  clear h1 h2 ht
  go_enter Try.func22, Try.ntmps22
  go_wp2_with fail
  go_loopw [5] (fun v5 wr => ∃ (k : Nat), k ≤ ll.length ∧ v5 = .int .i64 (k : Int) ∧ Below w.heap.size w wr) (fun v5 _ => ll.length - (intOf v5).toNat)
  case atStart => exact ⟨0, Nat.zero_le _, rfl, Below.refl _ _⟩
  case round =>
    obtain ⟨k, hk, rfl, hlow⟩ := hrel
    have LO := Lib.hid hlow
    have hzr := hlow.size
    by_cases hkl : k < ll.length
    · obtain ⟨g, rc, ab, ao, _, ha, x0, _, habh, hr1⟩ := (H1.out.turned (Turned.of_below hlow 0 0) hz (.inr (Nat.zero_le _))).at_ (k := k) (by rw [List.length_map]; exact hkl)
      obtain ⟨g', rc', ab', ao', _, ha', x1, _, habh', hr2⟩ := (H2.out.turned (Turned.of_below hlow 0 0) hz' (.inr (Nat.zero_le _))).at_ (k := k) (by rw [List.length_map]; exact hkl)
      subst ha
      subst ha'
      simp only [List.getElem_map, M.encIs_len] at x0 x1 hr1 hr2
      have CE := Lib.hid (eqInts_any wr.drew _ _ _ _ (adr g) (adr g') rc rc' ll[k] (by have := HT.out k hkl; omega) (show RowIn (loB g) (hiB g) wr.drew _ _ from hr1.row) (show RowIn (loB g') (hiB g') wr.drew _ _ from hr2.row))
      clear hr1 hr2 hlow
      generalize adr g = ag at *
      generalize adr g' = ag' at *
      generalize ll[k].length = nk at *
      go_wp2_with fail
      refine wp_region_late2 (fun (wq : World) => wq.cell? ⟨ab, ao + k, none⟩ = some (.slice ag nk rc) ∧ wq.cell? ⟨ab', ao' + k, none⟩ = some (.slice ag' nk rc')) [] 10 #[false, false, false, false, false, false, false, false, false, false] rfl rfl (by kernel_rfl) ?_
      have hS : (fun (wq : World) => wq.cell? ⟨ab, ao + k, none⟩ = some (.slice ag nk rc) ∧ wq.cell? ⟨ab', ao' + k, none⟩ = some (.slice ag' nk rc')) wr.drew := ⟨x0, x1⟩
      refine wpAnyL_take (i := 0) (oi := { dst := some 17, op := Go.Op.move (Go.Operand.tmp 0), type := 23, pos := "exact.go:268", after := #[], guard := none }) (v := ?qv0) rfl (by kernel_rfl) (by kernel_rfl) (by kernel_rfl) (by kernel_rfl) (fun _ _ _ h => h) (Or.inl ⟨by rfl, ?qh0⟩) hS ?qr0
      case qh0 => (intro wS hSw; (try dsimp only at hSw); go_split_ands; go_simp; try with_reducible rfl)
      try simp only [Act.put, List.setIfInBounds_toArray, List.set_cons_zero, List.set_cons_succ]
      refine wpAnyL_take (i := 1) (oi := { dst := some 18, op := Go.Op.move (Go.Operand.tmp 5), type := 3, pos := "exact.go:268", after := #[], guard := none }) (v := ?qv1) rfl (by kernel_rfl) (by kernel_rfl) (by kernel_rfl) (by kernel_rfl) (fun _ _ _ h => h) (Or.inl ⟨by rfl, ?qh1⟩) hS ?qr1
      case qh1 => (intro wS hSw; (try dsimp only at hSw); go_split_ands; go_simp; try with_reducible rfl)
      try simp only [Act.put, List.setIfInBounds_toArray, List.set_cons_zero, List.set_cons_succ]
      refine wpAnyL_take (i := 2) (oi := { dst := some 19, op := Go.Op.indexAddr 23 (Go.Operand.tmp 17) (Go.Operand.tmp 18), type := 0, pos := "exact.go:268", after := #[{ on := 0, ground := Go.Ground.data }, { on := 1, ground := Go.Ground.data }], guard := none }) (v := ?qv2) rfl (by kernel_rfl) (by kernel_rfl) (by kernel_rfl) (by kernel_rfl) (fun _ _ _ h => h) (Or.inl ⟨by rfl, ?qh2⟩) hS ?qr2
      case qh2 => (intro wS hSw; (try dsimp only at hSw); go_split_ands; go_simp; try with_reducible rfl)
      try simp only [Act.put, List.setIfInBounds_toArray, List.set_cons_zero, List.set_cons_succ]
      refine wpAnyL_take (i := 3) (oi := { dst := some 20, op := Go.Op.load 39 (Go.Operand.tmp 19), type := 39, pos := "exact.go:268", after := #[{ on := 2, ground := Go.Ground.data }], guard := none }) (v := ?qv3) rfl (by kernel_rfl) (by kernel_rfl) (by kernel_rfl) (by kernel_rfl) (fun _ _ _ h => h) (Or.inl ⟨by rfl, ?qh3⟩) hS ?qr3
      case qh3 => (intro wS hSw; (try dsimp only at hSw); go_split_ands; go_simp; try with_reducible rfl)
      try simp only [Act.put, List.setIfInBounds_toArray, List.set_cons_zero, List.set_cons_succ]
      refine wpAnyL_take (i := 4) (oi := { dst := some 21, op := Go.Op.move (Go.Operand.tmp 1), type := 23, pos := "exact.go:268", after := #[], guard := none }) (v := ?qv4) rfl (by kernel_rfl) (by kernel_rfl) (by kernel_rfl) (by kernel_rfl) (fun _ _ _ h => h) (Or.inl ⟨by rfl, ?qh4⟩) hS ?qr4
      case qh4 => (intro wS hSw; (try dsimp only at hSw); go_split_ands; go_simp; try with_reducible rfl)
      try simp only [Act.put, List.setIfInBounds_toArray, List.set_cons_zero, List.set_cons_succ]
      refine wpAnyL_take (i := 5) (oi := { dst := some 22, op := Go.Op.move (Go.Operand.tmp 5), type := 3, pos := "exact.go:268", after := #[], guard := none }) (v := ?qv5) rfl (by kernel_rfl) (by kernel_rfl) (by kernel_rfl) (by kernel_rfl) (fun _ _ _ h => h) (Or.inl ⟨by rfl, ?qh5⟩) hS ?qr5
      case qh5 => (intro wS hSw; (try dsimp only at hSw); go_split_ands; go_simp; try with_reducible rfl)
      try simp only [Act.put, List.setIfInBounds_toArray, List.set_cons_zero, List.set_cons_succ]
      refine wpAnyL_take (i := 6) (oi := { dst := some 23, op := Go.Op.indexAddr 23 (Go.Operand.tmp 21) (Go.Operand.tmp 22), type := 0, pos := "exact.go:268", after := #[{ on := 4, ground := Go.Ground.data }, { on := 5, ground := Go.Ground.data }], guard := none }) (v := ?qv6) rfl (by kernel_rfl) (by kernel_rfl) (by kernel_rfl) (by kernel_rfl) (fun _ _ _ h => h) (Or.inl ⟨by rfl, ?qh6⟩) hS ?qr6
      case qh6 => (intro wS hSw; (try dsimp only at hSw); go_split_ands; go_simp; try with_reducible rfl)
      try simp only [Act.put, List.setIfInBounds_toArray, List.set_cons_zero, List.set_cons_succ]
      refine wpAnyL_take (i := 7) (oi := { dst := some 24, op := Go.Op.load 39 (Go.Operand.tmp 23), type := 39, pos := "exact.go:268", after := #[{ on := 6, ground := Go.Ground.data }], guard := none }) (v := ?qv7) rfl (by kernel_rfl) (by kernel_rfl) (by kernel_rfl) (by kernel_rfl) (fun _ _ _ h => h) (Or.inl ⟨by rfl, ?qh7⟩) hS ?qr7
      case qh7 => (intro wS hSw; (try dsimp only at hSw); go_split_ands; go_simp; try with_reducible rfl)
      try simp only [Act.put, List.setIfInBounds_toArray, List.set_cons_zero, List.set_cons_succ]
      refine wpAnyL_one (i := 8) (oi := { dst := some 25, op := Go.Op.call { callee := Go.Callee.value (Go.Operand.func 28), args := #[Go.Operand.tmp 20, Go.Operand.tmp 24], argTypes := #[39, 39] }, type := 4, pos := "exact.go:268", after := #[{ on := 3, ground := Go.Ground.data }, { on := 7, ground := Go.Ground.data }], guard := none }) (by kernel_rfl) rfl (fun Kq8 hKq8 => ?_)
      refine step_call (by rfl) 28 #[.slice ag nk rc, .slice ag' nk rc'] (by go_simp; try rfl) (CE.out) ?_
      rintro e w2 ⟨rfl, nd, hW2⟩
      refine ⟨_, rfl, ?_⟩
      have hb2 : Below wr.drew.heap.size wr.drew w2 := by rw [hW2]; exact below_drawn _ _
      clear hW2
      have hSs : (fun (wq : World) => wq.cell? ⟨ab, ao + k, none⟩ = some (.slice ag nk rc) ∧ wq.cell? ⟨ab', ao' + k, none⟩ = some (.slice ag' nk rc')) w2 := ⟨(hb2.cell (p := ⟨ab, ao + k, none⟩) (show ab < wr.heap.size by omega)).trans x0, (hb2.cell (p := ⟨ab', ao' + k, none⟩) (show ab' < wr.heap.size by omega)).trans x1⟩
      refine hKq8 _ _ (fun _ => hSs) ?_
      clear hS
      have hS := hSs
      try simp only [Act.put, List.setIfInBounds_toArray, List.set_cons_zero, List.set_cons_succ]
      refine wpAnyL_take (i := 9) (oi := { dst := some 26, op := Go.Op.unOp Go.UnOp.not 4 (Go.Operand.tmp 25), type := 4, pos := "exact.go:268", after := #[{ on := 8, ground := Go.Ground.data }], guard := none }) (v := ?qv9) rfl (by kernel_rfl) (by kernel_rfl) (by kernel_rfl) (by kernel_rfl) (fun _ _ _ h => h) (Or.inl ⟨by rfl, ?qh9⟩) hS ?qr9
      case qh9 => (intro wS hSw; (try dsimp only at hSw); go_split_ands; go_simp; try with_reducible rfl)
      try simp only [Act.put, List.setIfInBounds_toArray, List.set_cons_zero, List.set_cons_succ]
      refine wpAnyL_done (by kernel_rfl) ?_ _
      go_wp2_with fail
      go_roundw
      case rel => exact ⟨k + 1, by omega, by go_num, (Below.drawnN LO.out 1).trans (hb2.mono (by show w.heap.size ≤ wr.heap.size; omega))⟩
      case measure => simp [intOf]; omega
    · obtain rfl : k = ll.length := by omega
      go_wp2_with fail
      go_ret
      exact ⟨rfl, LO.out⟩
theorem markIntSS_any (w : World) (lo hi : Nat) (a : Option Addr) (c k0 : Nat) (V : List Sl) (X : List (List Value)) (h : OwnSS lo hi w a V X) (hl : X.length ≤ 1048576) (ht : M.totL X ≤ 1048576) (hk0 : k0 ≤ 1048576) :
    Calls Try.prog 24 #[.slice a X.length c, .int .i64 (k0 : Int)] w (fun e w' => e = .returned (.int .i64 ((k0 + M.totL X : Nat) : Int)) ∧ OwnSS lo hi w' a V (M.marksSS k0 X) ∧ Turned lo hi w w') := by
  have H1 := Lib.hid h
  have HTT := Lib.hid (fun k => M.totL_le X k)
  have HLT := Lib.hid (fun k (hk : k < X.length) => M.len_le_tot hk)
  have HSU := Lib.hid (fun k (hk : k < X.length) => M.totL_succ hk)
  clear h
  go_enter Try.func24, Try.ntmps24
  go_wp2_with fail
  go_loopw [1, 5] (fun v1 v5 wr => ∃ (k : Nat) (Y : List (List Value)), k ≤ X.length ∧ v5 = .int .i64 (k : Int) ∧ v1 = .int .i64 ((k0 + M.totL (X.take k) : Nat) : Int) ∧ Y.length = X.length ∧ (∀ i (hi : i < X.length), i < k → Y[i]? = some (M.marks (k0 + M.totL (X.take i)) X[i].length)) ∧ (∀ i, k ≤ i → Y[i]? = X[i]?) ∧ OwnSS lo hi wr a V Y ∧ Turned lo hi w wr) (fun _ v5 _ => X.length - (intOf v5).toNat)
  case atStart => exact ⟨0, X, Nat.zero_le _, rfl, rfl, rfl, fun i _ h => absurd h (Nat.not_lt_zero _), fun _ _ => rfl, H1.out, Turned.refl _ _ _⟩
  case round =>
    obtain ⟨k, Y, hk, rfl, rfl, hyl, hdone, hto, hown, htr⟩ := hrel
    have YL := Lib.hid hyl
    have DO := Lib.hid hdone
    have TO := Lib.hid hto
    have OW := Lib.hid hown
    have TR := Lib.hid htr
    have hzr := htr.size
    clear hyl hdone hto hown htr
    have htk := HTT.out k
    by_cases hkl : k < X.length
    · have hkY : k < Y.length := by have := YL.out; omega
      obtain ⟨g, rc, ab, ao, hu, ha, x0, hg0, habh, hr1⟩ := OW.out.at_ hkY
      subst ha
      have hYk : Y[k] = X[k] := by
        have := TO.out k (Nat.le_refl _)
        rw [List.getElem?_eq_getElem hkY, List.getElem?_eq_getElem hkl] at this
        exact Option.some.inj this
      rw [hYk] at hu x0 hr1
      have hlk := HLT.out k hkl
      have CM := Lib.hid (markInts_any wr (loB g) (hiB g) (adr g) rc X[k].length (k0 + M.totL (X.take k)) X[k] rfl (by omega) (by omega) hr1)
      have HU := Lib.hid hu
      have HG0 := Lib.hid hg0
      clear hg0
      have HS := Lib.hid (HSU.out k hkl)
      clear hu hr1 hYk
      generalize hnk : X[k].length = nk at *
      have HNK := Lib.hid hnk
      clear hnk
      generalize hT9 : M.totL (X.take k) = tk at *
      have HT9 := Lib.hid hT9
      clear hT9
      go_wp2_with fail
      refine (CM.out).mono ?_
      rintro e w2 ⟨rfl, ho2, ht2⟩
      have O2 := Lib.hid ho2
      have T2 := Lib.hid ht2
      clear ho2 ht2
      go_wp2_with fail
      go_roundw
      case rel =>
        refine ⟨k + 1, Y.set k (M.marks (k0 + tk) nk), by omega, by go_num, by rw [HS.out]; congr 1; omega, by rw [List.length_set]; exact YL.out, fun i hi hik => ?_, fun i hi => ?_, OW.out.setRow HU.out (by rw [M.marks_len]) T2.out O2.out, TR.out.trans (T2.out.row HG0.out)⟩
        · rcases Nat.eq_or_lt_of_le (Nat.le_of_lt_succ hik) with e | e
          · subst e
            rw [List.getElem?_set_self hkY, HT9.out, HNK.out]
          · rw [List.getElem?_set_ne (by omega)]
            exact DO.out i hi e
        · rw [List.getElem?_set_ne (by omega)]
          exact TO.out i (by omega)
      case measure => simp [intOf]; omega
    · obtain rfl : k = X.length := by omega
      have HY : Hid (Y = M.marksSS k0 X) := Lib.hid (by
        refine List.ext_getElem? fun i => ?_
        rcases Nat.lt_or_ge i X.length with h | h
        · rw [DO.out i h h, M.marksSS_at X k0 i h]
        · rw [List.getElem?_eq_none (by have := YL.out; omega), List.getElem?_eq_none (by rw [M.marksSS_len]; exact h)])
      have HTA : Hid (M.totL (X.take X.length) = M.totL X) := Lib.hid (by rw [List.take_length])
      rw [HTA.out]
      go_wp2_with fail
      go_ret
      exact ⟨rfl, by rw [← HY.out]; exact OW.out, TR.out⟩
theorem heldIntSS_any (w : World) (lo hi : Nat) (a : Option Addr) (c k0 : Nat) (V : List Sl) (X : List (List Value)) (h : OwnSS lo hi w a V (M.marksSS k0 X)) (hl : X.length ≤ 1048576) (ht : M.totL X ≤ 1048576) (hk0 : k0 ≤ 1048576) :
    Calls Try.prog 25 #[.slice a X.length c, .int .i64 (k0 : Int)] w (fun e w' => e = .returned (.int .i64 ((k0 + M.totL X : Nat) : Int)) ∧ w = w') := by
  have H1 := Lib.hid h
  have HTT := Lib.hid (fun k => M.totL_le X k)
  have HLT := Lib.hid (fun k (hk : k < X.length) => M.len_le_tot hk)
  have HSU := Lib.hid (fun k (hk : k < X.length) => M.totL_succ hk)
  clear h
  go_enter Try.func25, Try.ntmps25
  go_wp2_with fail
  go_loop [1, 5] (fun v1 v5 => ∃ (k : Nat), k ≤ X.length ∧ v5 = .int .i64 (k : Int) ∧ v1 = .int .i64 ((k0 + M.totL (X.take k) : Nat) : Int)) (fun _ v5 => X.length - (intOf v5).toNat)
  case atStart => exact ⟨0, Nat.zero_le _, rfl, rfl⟩
  case round =>
    obtain ⟨k, hk, rfl, rfl⟩ := hrel
    have htk := HTT.out k
    by_cases hkl : k < X.length
    · have hkM : k < (M.marksSS k0 X).length := by rw [M.marksSS_len]; exact hkl
      obtain ⟨g, rc, ab, ao, hu, ha, x0, hg0, habh, hr1⟩ := H1.out.at_ hkM
      subst ha
      have hmk : (M.marksSS k0 X)[k] = M.marks (k0 + M.totL (X.take k)) X[k].length := by
        have := M.marksSS_at X k0 k hkl
        rw [List.getElem?_eq_getElem hkM] at this
        exact Option.some.inj this
      rw [hmk, M.marks_len] at x0
      rw [hmk] at hr1
      have hlk := HLT.out k hkl
      have CM := Lib.hid (heldInts_any w (loB g) (hiB g) (adr g) rc X[k].length (k0 + M.totL (X.take k)) (by omega) (by omega) hr1.row)
      have HS := Lib.hid (HSU.out k hkl)
      clear hu hr1 hmk hg0
      generalize X[k].length = nk at *
      generalize hT9 : M.totL (X.take k) = tk at *
      clear hT9
      have hpos : ¬ ((k0 + tk + nk : Nat) : Int) < 0 := by omega
      go_wp2_with fail
      refine (CM.out).mono ?_
      rintro e w2 ⟨rfl, rfl⟩
      go_wp2_with fail
      go_round
      case rel => exact ⟨k + 1, by omega, by go_num, by rw [HS.out]; congr 1; omega⟩
      case measure => simp [intOf]; omega
    · obtain rfl : k = X.length := by omega
      have HTA : Hid (M.totL (X.take X.length) = M.totL X) := Lib.hid (by rw [List.take_length])
      rw [HTA.out]
      go_wp2_with fail
      go_ret
      exact ⟨rfl, rfl⟩
end C
end Go.Proofs.Ytbcobheiofajeaa
namespace Go.Proofs.Ytbcobheiofajeaa
open Go.RowKit
namespace C
def OwnQ (B : Nat) (w : World) (T : TypeId) (size : Nat) (v : Value) (n : Nat) (xs : List Value) : Prop :=
  xs.length = n * size ∧ ((v = .slice none 0 0 ∧ n = 0) ∨ ∃ g off cap cur, v = .slice (some ⟨g, off, none⟩) n cap ∧ B ≤ g ∧ w.heap[g]? = some (.cells cur T (0, 0)) ∧ n ≤ cap ∧ cap ≤ maxLen ∧ off + cap * size ≤ cur.size ∧ ∀ j u, xs[j]? = some u → cur[off + j]? = some u)
section
variable {B size n : Nat} {w w' : World} {T : TypeId} {v : Value} {xs : List Value}
theorem OwnQ.of_own (h : w.ownsRow B T size v n xs) : OwnQ B w T size v n xs := by
  refine ⟨h.1, ?_⟩
  rcases h.2 with h' | ⟨g, cap, cur, hv, hb, hh, hn, hm, hs, ht⟩
  · exact .inl h'
  · refine .inr ⟨g, 0, cap, cur, hv, hb, hh, hn, hm, by omega, fun j u hu => ?_⟩
    rw [← ht, List.getElem?_take] at hu
    split at hu
    · simpa using hu
    · cases hu
theorem OwnQ.mono {B' : Nat} (h : OwnQ B w T size v n xs) (hB : B' ≤ B) : OwnQ B' w T size v n xs := by
  refine ⟨h.1, ?_⟩
  rcases h.2 with h' | ⟨g, off, cap, cur, hv, hb, r⟩
  · exact .inl h'
  · exact .inr ⟨g, off, cap, cur, hv, by omega, r⟩
theorem OwnQ.shape (h : OwnQ B w T size v n xs) : ∃ a c, v = .slice a n c ∧ n ≤ c ∧ c ≤ maxLen := by
  rcases h.2 with ⟨rfl, rfl⟩ | ⟨g, off, cap, cur, rfl, _, _, hn, hm, _⟩
  · exact ⟨none, 0, rfl, Nat.le_refl _, Nat.zero_le _⟩
  · exact ⟨_, _, rfl, hn, hm⟩
theorem OwnQ.base (h : OwnQ B w T size v n xs) : ∀ k, v.ownBlock = some k → B ≤ k ∧ k < w.heap.size := by
  rcases h.2 with ⟨rfl, rfl⟩ | ⟨g, off, cap, cur, rfl, hb, hh, _⟩
  · intro k hk; cases hk
  · intro k hk
    have : g = k := by simpa [Value.ownBlock] using hk
    subst this
    exact ⟨hb, heap_lt hh⟩
/-- where no other type's cells lie -/
theorem OwnQ.ne {b : Nat} (h : OwnQ B w T size v n xs) (hb : ∀ cur f, w.heap[b]? ≠ some (.cells cur T f)) : v.ownBlock ≠ some b := by
  rcases h.2 with ⟨rfl, rfl⟩ | ⟨g, off, cap, cur, rfl, _, hh, _⟩
  · intro e; cases e
  · intro e
    have : g = b := by simpa [Value.ownBlock] using e
    subst this
    exact hb _ _ hh
theorem OwnQ.row (h : OwnQ B w T size v n xs) {a : Option Addr} {c : Nat} (hv : v = .slice a n c) : RowIn B w.heap.size w a xs := by
  subst hv
  rcases h.2 with ⟨_, rfl⟩ | ⟨g, off, cap, cur, e, hb, hh, _, _, _, hc⟩
  · exact .inl (List.eq_nil_of_length_eq_zero (by simpa using h.1))
  · injection e with e _ _
    exact .inr ⟨g, off, e, hb, heap_lt hh, fun i u hu => (cell_of_row w g (off + i) cur T (0, 0) hh).trans (hc i u hu)⟩
theorem OwnQ.turned {lo hi : Nat} (h : OwnQ B w T size v n xs) (t : Turned lo hi w w') (hd : ∀ k, v.ownBlock = some k → k < lo ∨ hi ≤ k) : OwnQ B w' T size v n xs := by
  refine ⟨h.1, ?_⟩
  rcases h.2 with h' | ⟨g, off, cap, cur, rfl, hb, hh, r⟩
  · exact .inl h'
  · exact .inr ⟨g, off, cap, cur, rfl, hb, (t.block g (heap_lt hh) (hd g rfl)).trans hh, r⟩
theorem OwnQ.below (h : OwnQ B w T size v n xs) (t : Below w.heap.size w w') : OwnQ B w' T size v n xs := h.turned (Turned.of_below t 0 0) fun _ _ => .inr (Nat.zero_le _)
/-- x[1:] -/
theorem OwnQ.tail {g off cap : Nat} {ys : List Value} (h : OwnQ B w T size (.slice (some ⟨g, off, none⟩) (n + 1) (cap + 1)) (n + 1) (xs ++ ys)) (hx : xs.length = size) :
    OwnQ B w T size (.slice (some ⟨g, if cap = 0 then off else off + size, none⟩) n cap) n ys := by
  obtain ⟨h1, h2⟩ := h
  rw [List.length_append, hx, Nat.succ_mul] at h1
  refine ⟨by omega, ?_⟩
  rcases h2 with ⟨e, _⟩ | ⟨g', off', cap', cur, e, hb, hh, hn, hm, hs, hc⟩
  · cases e
  · injection e with e1 _ e3
    injection e1 with e1
    injection e1 with e4 e5 _
    subst e4; subst e5; subst e3
    rw [Nat.succ_mul] at hs
    by_cases h0 : cap = 0
    · subst h0
      rw [if_pos rfl]
      refine .inr ⟨g, off, 0, cur, rfl, hb, hh, by omega, by omega, by omega, fun j u hu => ?_⟩
      have hy : ys = [] := List.eq_nil_of_length_eq_zero (by have : n = 0 := by omega
                                                             subst this; omega)
      rw [hy] at hu
      cases hu
    · rw [if_neg h0]
      refine .inr ⟨g, off + size, cap, cur, rfl, hb, hh, by omega, by omega, by omega, fun j u hu => ?_⟩
      have := hc (size + j) u (by rw [List.getElem?_append_right (by omega), hx, Nat.add_sub_cancel_left]; exact hu)
      rw [Nat.add_assoc]
      exact this
theorem heap_setCells (g : Nat) : ∀ (vs : List Value) (o : Nat) (w : World) (cur : Array Value), w.heap[g]? = some (.cells cur T (0, 0)) →
    ∃ cur', (w.setCells g o vs).heap[g]? = some (.cells cur' T (0, 0)) ∧ cur'.size = cur.size ∧ (∀ j, j < o ∨ o + vs.length ≤ j → cur'[j]? = cur[j]?) ∧ (∀ j u, vs[j]? = some u → o + j < cur.size → cur'[o + j]? = some u) ∧ w.grownBy (w.setCells g o vs) (some g)
  | [], o, w, cur, h => ⟨cur, h, rfl, fun _ _ => rfl, fun j u hu _ => (by cases hu), ⟨rfl, rfl, rfl, Nat.le_refl _, fun _ _ _ => rfl⟩⟩
  | v :: vs, o, w, cur, h => by
    have h1 : (w.setCell ⟨g, o, none⟩ v).heap[g]? = some (.cells (cur.setIfInBounds o v) T (0, 0)) := by simp [World.setCell, Array.getElem?_modify, h]
    obtain ⟨cur', e1, e2, e3, e4, e5⟩ := heap_setCells g vs (o + 1) (w.setCell ⟨g, o, none⟩ v) _ h1
    refine ⟨cur', e1, by rw [e2, Array.size_setIfInBounds], fun j hj => ?_, fun j u hu hlt => ?_, ?_⟩
    · rw [List.length_cons] at hj
      rw [e3 j (by omega), Array.getElem?_setIfInBounds_ne (by omega)]
    · cases j with
      | zero =>
        rw [List.getElem?_cons_zero] at hu
        injection hu with hu
        rw [Nat.add_zero] at hlt ⊢
        rw [e3 o (by omega), Array.getElem?_setIfInBounds_self_of_lt hlt, hu]
      | succ j =>
        rw [List.getElem?_cons_succ] at hu
        have := e4 j u hu (by rw [Array.size_setIfInBounds]; omega)
        rw [show o + (j + 1) = o + 1 + j by omega]
        exact this
    · have hsz : (w.setCell ⟨g, o, none⟩ v).heap.size = w.heap.size := by simp [World.setCell]
      exact ⟨e5.os, e5.tape, e5.output, hsz ▸ e5.size, fun k hk hne => (e5.block k (by rw [hsz]; exact hk) hne).trans (Below.heap_setCell w ⟨g, o, none⟩ v k fun e => hne (by rw [e]))⟩
theorem run_append_q {P : Program} (t ty : TypeId) (i : TypeInfo) (z : Value) (bytes : Nat) (ht : P.underlying t = some (.slice T)) (hi : P.info? T = some i) (hz : i.zero = some z) (hsize : i.size = size) (hby : i.bytes = bytes) (hzs : z.cells.size = size)
    (h : OwnQ B w T size v n xs) (hB : B ≤ w.heap.size) (ad : Addr) (c : Nat) (news : List Value) (hl : news.length = size) (hnews : ∀ j u, news[j]? = some u → w.cell? (ad.add j) = some u) (h1 : ∀ u ∈ news, u.oneCell' = true) (hn : n + 1 ≤ maxLen) (hbytes : (n + 1) * bytes ≤ 140737488355328) :
    ∃ v' w', (Builtin.append_ #[t, t] ty #[v, .slice (some ad) 1 c]).run P w = .ok v' w' ∧ OwnQ B w' T size v' (n + 1) (xs ++ news) ∧ w.grownBy w' v.ownBlock ∧ (v'.ownBlock = v.ownBlock ∨ v'.ownBlock = some w.heap.size) := by
  subst hsize
  subst hby
  have hs : Src P i.size t (.slice (some ad) 1 c) 1 news w := Src.ofSlice w ht ad 1 c news (by omega) hnews h1
  have hlen : (xs ++ news).length = (n + 1) * i.size := by rw [List.length_append, h.1, hl, Nat.succ_mul]
  have hsmall : ((n + 1 : Nat) : Int) ≤ 9223372036854775807 := by simp only [maxLen] at hn; omega
  have grown : ∀ (old : Nat) (row : Option Nat), old < n + 1 →
      OwnQ B (w.drew.alloc (.cells ((xs ++ news).toArray ++ Builtin.zeroCells z.cells (grownCap w (n + 1) old T - (n + 1))) T)) T i.size (.slice (some ⟨w.heap.size, 0, none⟩) (n + 1) (grownCap w (n + 1) old T)) (n + 1) (xs ++ news) ∧
      w.grownBy (w.drew.alloc (.cells ((xs ++ news).toArray ++ Builtin.zeroCells z.cells (grownCap w (n + 1) old T - (n + 1))) T)) row := by
    intro old row ho
    have hge := grownCap_ge w (n + 1) old T
    refine ⟨⟨hlen, .inr ⟨w.heap.size, 0, _, _, rfl, hB, heap_alloc_new w.drew _, hge, grownCap_le_maxLen w (n + 1) old T hn, ?_, fun j u hu => ?_⟩⟩, ⟨rfl, rfl, rfl, by simp, fun k hk _ => Below.heap_alloc w.drew _ k hk⟩⟩
    · rw [Array.size_append, size_zeroCells, List.size_toArray, hlen, hzs, ← Nat.add_mul, Nat.zero_add]
      exact Nat.mul_le_mul_right _ (by omega)
    · rw [Nat.zero_add, Array.getElem?_append_left (by rw [List.size_toArray]; exact (List.getElem?_eq_some_iff.1 hu).1)]
      simpa using hu
  rcases h.2 with ⟨rfl, rfl⟩ | ⟨g, off, cap, cur, rfl, hb, hh, hnc, hcm, hcs, hc⟩
  · have hx : xs = [] := List.eq_nil_of_length_eq_zero (by simpa using h.1)
    subst hx
    have hr := run_append_grow_src (P := P) w t t ty T i z ht hi hz none 0 0 [] (by simpa using run_firstCells_none (P := P) w.drew i.size 0 0 0) (.slice (some ad) 1 c) 1 news hs (by omega) hsmall (growslice_fits (by omega) hbytes)
    obtain ⟨g1, g2⟩ := grown 0 (Value.ownBlock (.slice none 0 0)) (by omega)
    exact ⟨_, _, hr, g1, g2, .inr rfl⟩
  · by_cases hroom : n + 1 ≤ cap
    · have hfit : off + n * i.size + news.length ≤ cur.size := by
        have := Nat.mul_le_mul_right i.size hroom
        rw [Nat.succ_mul] at this
        omega
      have hr := run_append_room_src (P := P) w t t ty T i ht hi g off n cap (.slice (some ad) 1 c) 1 news hs hroom
        (fun j hj => by rw [cell_of_row w g _ cur T (0, 0) hh, Array.getElem?_eq_getElem (by omega)]; rfl) (fun j hj => by simp [World.frozen?, hh])
      obtain ⟨cur', e1, e2, e3, e4, e5⟩ := heap_setCells g news (off + n * i.size) w cur hh
      refine ⟨_, _, hr, ⟨hlen, .inr ⟨g, off, cap, cur', rfl, hb, e1, hroom, hcm, by omega, fun j u hu => ?_⟩⟩, e5, .inl rfl⟩
      rcases Nat.lt_or_ge j xs.length with hj | hj
      · rw [List.getElem?_append_left hj] at hu
        rw [e3 _ (by have := h.1; omega)]
        exact hc j u hu
      · rw [List.getElem?_append_right hj] at hu
        have h0 := h.1
        have := e4 (j - xs.length) u hu (by have := (List.getElem?_eq_some_iff.1 hu).1; omega)
        rw [show off + j = off + n * i.size + (j - xs.length) by omega]
        exact this
    · have hr := run_append_grow_src (P := P) w t t ty T i z ht hi hz (some ⟨g, off, none⟩) n cap xs
        (by
          refine run_firstCells_some (P := P) w.drew i.size n ⟨g, off, none⟩ n cap xs h.1 fun j u hu => ?_
          have hadd : (⟨g, off, none⟩ : Addr).add j = ⟨g, off + j, none⟩ := Addr.add_lit ..
          rw [hadd]
          exact (cell_of_row w g (off + j) cur T (0, 0) hh).trans (hc j u hu)) (.slice (some ad) 1 c) 1 news hs (by omega) hsmall (growslice_fits (by omega) hbytes)
      obtain ⟨g1, g2⟩ := grown cap (Value.ownBlock (.slice (some ⟨g, off, none⟩) n cap)) (by omega)
      exact ⟨_, _, hr, g1, g2, .inr rfl⟩
end
theorem wpList_append_q {P : Program} {w : World} {ops : Array Oper} {rest : List Oper} {o : Oper} {a : Act} {Q : Exit → Act → World → Prop} (hgd : o.guard = none) (s x : Operand) (t : TypeId)
    (ho : o.op = .call { callee := .builtin .append, args := #[s, x], argTypes := #[t, t] }) (B : Nat) (T : TypeId) (i : TypeInfo) (z : Value) (size bytes : Nat) (ht : P.underlying t = some (.slice T)) (hi : P.info? T = some i) (hz : i.zero = some z) (hsize : i.size = size) (hby : i.bytes = bytes) (hzs : z.cells.size = size)
    (v : Value) (n : Nat) (xs : List Value) (hs : a.eval s = v) (h : OwnQ B w T size v n xs) (ad : Addr) (c : Nat) (news : List Value) (hx : a.eval x = .slice (some ad) 1 c) (hl : news.length = size) (hnews : ∀ j u, news[j]? = some u → w.cell? (ad.add j) = some u) (h1 : ∀ u ∈ news, u.oneCell' = true)
    (hn : n + 1 ≤ maxLen) (hbytes : (n + 1) * bytes ≤ 140737488355328) (hB : B ≤ w.heap.size) (hK : ∀ v' w', OwnQ B w' T size v' (n + 1) (xs ++ news) → w.grownBy w' v.ownBlock → (v'.ownBlock = v.ownBlock ∨ v'.ownBlock = some w.heap.size) → wpList P ops Q rest (a.put o.dst v') w') : wpList P ops Q (o :: rest) a w := by
  refine wpList_plain hgd fun K' hK' => ?_
  obtain ⟨v', w', hr, h2, h3, h4⟩ := run_append_q (P := P) t o.type i z bytes ht hi hz hsize hby hzs h hB ad c news hl hnews h1 hn hbytes
  unfold Oper.wp execOp
  simp only [ho, resolve, invoke, builtin, Sem.run_bind, Sem.run_pure, Result.andThen_ok, List.map_toArray, List.map_cons, List.map_nil, hs, hx, hr]
  exact hK' _ _ (hK v' w' h2 h3 h4)
theorem RowIn.grown {w w' : World} {lo hi : Nat} {a : Option Addr} {xs : List Value} {row : Option Nat} (h : RowIn lo hi w a xs) (hg : w.grownBy w' row) (hz : hi ≤ w.heap.size) (hd : ∀ z, row = some z → z < lo ∨ hi ≤ z) : RowIn lo hi w' a xs := by
  rcases h with h | ⟨b, off, ha, h1, h2, hc⟩
  · exact .inl h
  · refine .inr ⟨b, off, ha, h1, h2, fun i u hu => (World.cell?_of_block (w := w) (hg.block b (by omega) fun e => ?_)).trans (hc i u hu)⟩
    have := hd b e.symm
    omega
theorem OwnQ.own {B size n : Nat} {w : World} {T : TypeId} {v : Value} {xs : List Value} (h : OwnQ B w T size v n xs) {a : Option Addr} {c : Nat} (hv : v = .slice a n c) : OwnAt B w.heap.size w T a xs := by
  subst hv
  rcases h.2 with ⟨_, rfl⟩ | ⟨g, off, cap, cur, e, hb, hh, _, _, _, hc⟩
  · exact .inl (List.eq_nil_of_length_eq_zero (by simpa using h.1))
  · injection e with e _ _
    exact .inr ⟨g, off, cur, e, hb, heap_lt hh, hh, hc⟩
theorem OwnAt.grownRow {lo hi : Nat} {w w' : World} {T : TypeId} {a : Option Addr} {xs : List Value} {row : Option Nat} (h : OwnAt lo hi w T a xs) (hg : w.grownBy w' row) (_hz : hi ≤ w.heap.size) (hd : ∀ z, row = some z → z < lo ∨ hi ≤ z) : OwnAt lo hi w' T a xs := by
  rcases h with h | ⟨b, off, cur, ha, h1, h2, hh, hc⟩
  · exact .inl h
  · refine .inr ⟨b, off, cur, ha, h1, h2, (hg.block b (heap_lt hh) fun e => ?_).trans hh, hc⟩
    have := hd b e.symm
    omega
end C
end Go.Proofs.Ytbcobheiofajeaa
namespace Go.Proofs.Ytbcobheiofajeaa
open Go.RowKit
namespace M
def encSS (ll : List (List Int)) : List (List Value) := ll.map encIs
end M
namespace C
/-- the rows that a growing table's slices name -/
structure RowsT (B : Nat) (w : World) (V : List Sl) (ll : List (List Int)) : Prop where
  len : V.length = ll.length
  row : ∀ (i : Nat) (u : Sl) (l : List Int), V[i]? = some u → ll[i]? = some l → u.2.1 = l.length ∧ w.ownsRow B 3 1 (slV u) l.length (M.encIs l)
  apart : ∀ (i j : Nat) (u v : Sl), V[i]? = some u → V[j]? = some v → i ≠ j → ∀ g, u.1 = some g → v.1 ≠ some g
section
variable {B lo hi : Nat} {w w' : World} {V : List Sl} {ll : List (List Int)}
theorem RowsT.nil (B : Nat) (w : World) : RowsT B w [] [] := ⟨rfl, fun i u l h => (by simp at h), fun i j u v h => (by simp at h)⟩
theorem slV_block (u : Sl) : (slV u).ownBlock = u.1 := by
  obtain ⟨p, n, c⟩ := u
  cases p <;> rfl
theorem RowsT.base (h : RowsT B w V ll) {i : Nat} {u : Sl} (hu : V[i]? = some u) : ∀ g, u.1 = some g → B ≤ g ∧ g < w.heap.size := fun g hg => by
  have hi := (List.getElem?_eq_some_iff.1 hu).1
  rw [h.len] at hi
  exact (h.row i u _ hu (List.getElem?_eq_getElem hi)).2.lt g (by rw [slV_block]; exact hg)
theorem RowsT.baseM (h : RowsT B w V ll) {u : Sl} (hu : u ∈ V) : ∀ g, u.1 = some g → B ≤ g ∧ g < w.heap.size := by
  obtain ⟨i, hi, rfl⟩ := List.mem_iff_getElem.1 hu
  exact h.base (List.getElem?_eq_getElem hi)
theorem RowsT.grown {row : Option Nat} (h : RowsT B w V ll) (g : w.grownBy w' row) (hd : ∀ u ∈ V, ∀ z, u.1 = some z → row ≠ some z) : RowsT B w' V ll :=
  ⟨h.len, fun i u l hu hl => ⟨(h.row i u l hu hl).1, by
    have h0 := (h.row i u l hu hl).2
    cases e : u.1 with
    | none => exact h0.kept g (.inl (by rw [slV_block]; exact e))
    | some z => exact h0.kept g (.inr (by rw [slV_block, e]; exact fun e2 => hd u (List.mem_of_getElem? hu) z e e2.symm))⟩, h.apart⟩
theorem RowsT.below (h : RowsT B w V ll) (t : Below w.heap.size w w') : RowsT B w' V ll :=
  ⟨h.len, fun i u l hu hl => ⟨(h.row i u l hu hl).1, by
    have h0 := (h.row i u l hu hl).2
    refine ⟨h0.1, ?_⟩
    rcases h0.2 with h' | ⟨g, cap, cur, hv, hb, hh, hr⟩
    · exact .inl h'
    · exact .inr ⟨g, cap, cur, hv, hb, (t.block g (heap_lt hh)).trans hh, hr⟩⟩, h.apart⟩
theorem RowsT.alloc (h : RowsT B w V ll) (o : Obj) : RowsT B (w.alloc o) V ll := h.below ⟨rfl, rfl, rfl, by simp, fun k hk => Below.heap_alloc w o k hk⟩
/-- one row more -/
theorem RowsT.push (h : RowsT B w V ll) {u : Sl} {l : List Int} (hl : u.2.1 = l.length) (ho : w.ownsRow B 3 1 (slV u) l.length (M.encIs l)) (hn : ∀ v ∈ V, ∀ g, u.1 = some g → v.1 ≠ some g) : RowsT B w (V ++ [u]) (ll ++ [l]) := by
  have hlt : ∀ (i : Nat) (v : Sl), (V ++ [u])[i]? = some v → (i < V.length ∧ V[i]? = some v) ∨ (i = V.length ∧ v = u) := fun i v hv => by
    rcases Nat.lt_or_ge i V.length with hi | hi
    · rw [List.getElem?_append_left hi] at hv
      exact .inl ⟨hi, hv⟩
    · have e : i = V.length := by
        have := (List.getElem?_eq_some_iff.1 hv).1
        rw [List.length_append, List.length_singleton] at this
        omega
      subst e
      rw [List.getElem?_append_right (Nat.le_refl _), Nat.sub_self] at hv
      simp at hv
      exact .inr ⟨rfl, hv.symm⟩
  refine ⟨by rw [List.length_append, List.length_append, h.len]; rfl, fun i v k hv hk => ?_, fun i j v v' hv hv' hij g hg => ?_⟩
  · rcases hlt i v hv with ⟨hi, hv⟩ | ⟨rfl, rfl⟩
    · rw [List.getElem?_append_left (by rw [← h.len]; exact hi)] at hk
      exact h.row i v k hv hk
    · rw [h.len, List.getElem?_append_right (Nat.le_refl _), Nat.sub_self] at hk
      simp at hk
      subst hk
      exact ⟨hl, ho⟩
  · rcases hlt i v hv with ⟨h1, h2⟩ | ⟨h1, h2⟩ <;> rcases hlt j v' hv' with ⟨h3, h4⟩ | ⟨h3, h4⟩
    · exact h.apart i j v v' h2 h4 hij g hg
    · subst h4; exact fun e => hn v (List.mem_of_getElem? h2) g e hg
    · subst h2; exact hn v' (List.mem_of_getElem? h4) g hg
    · omega
/-- one row is another now -/
theorem RowsT.set (h : RowsT B w V ll) {k : Nat} {u : Sl} {l : List Int} (hk : k < V.length) (hl : u.2.1 = l.length) (ho : w.ownsRow B 3 1 (slV u) l.length (M.encIs l)) (hn : ∀ (j : Nat) (v : Sl), j ≠ k → V[j]? = some v → ∀ g, u.1 = some g → v.1 ≠ some g) : RowsT B w (V.set k u) (ll.set k l) := by
  have hkl : k < ll.length := by rw [← h.len]; exact hk
  refine ⟨by rw [List.length_set, List.length_set, h.len], fun i v x hv hx => ?_, fun i j v v' hv hv' hij g hg => ?_⟩
  · by_cases e : i = k
    · subst e
      rw [List.getElem?_set_self hk] at hv
      rw [List.getElem?_set_self hkl] at hx
      injection hv with hv
      injection hx with hx
      subst hv; subst hx
      exact ⟨hl, ho⟩
    · rw [List.getElem?_set_ne (fun e2 => e e2.symm)] at hv hx
      exact h.row i v x hv hx
  · by_cases e : i = k
    · subst e
      rw [List.getElem?_set_self hk] at hv
      injection hv with hv
      subst hv
      rw [List.getElem?_set_ne hij] at hv'
      exact hn j v' (fun e2 => hij e2.symm) hv' g hg
    · rw [List.getElem?_set_ne (fun e2 => e e2.symm)] at hv
      by_cases e' : j = k
      · subst e'
        rw [List.getElem?_set_self hk] at hv'
        injection hv' with hv'
        subst hv'
        exact fun e2 => hn i v e hv g e2 hg
      · rw [List.getElem?_set_ne (fun e2 => e' e2.symm)] at hv'
        exact h.apart i j v v' hv hv' hij g hg
/-- what a law asks of a table -/
def IntssOkPost (w : World) (ll : List (List Int)) (ok : Bool) (e : Ending) (w' : World) : Prop :=
  ∃ a c V, e = .returned (.tuple #[.slice a ll.length c, .bool ok]) ∧ OwnSS w.heap.size w'.heap.size w' a V (M.encSS ll) ∧ ll.length ≤ c ∧ c ≤ 9223372036854775807 ∧ Below w.heap.size w w'
theorem intssOk_end {w0 : World} {v : Value} {ok : Bool} (hr : RowsT w0.heap.size w V ll) (ho : w.ownsRow w0.heap.size 39 1 v ll.length (V.map slV)) (hd : ∀ u ∈ V, ∀ g, u.1 = some g → v.ownBlock ≠ some g) (hb : Below w0.heap.size w0 w) : IntssOkPost w0 ll ok (.returned (.tuple #[v, .bool ok])) w := by
  obtain ⟨a, c, rfl, h1, h2, h3⟩ := own_slice ho
  refine ⟨a, c, V, rfl, ⟨by rw [hr.len]; unfold M.encSS; rw [List.length_map], h3, fun i u x hu hx => ?_, hr.apart, fun u hu p hp e => ?_⟩, h1, h2, hb⟩
  · unfold M.encSS at hx
    rw [List.getElem?_map] at hx
    obtain ⟨l, hl, rfl⟩ := Option.map_eq_some_iff.1 hx
    obtain ⟨e1, e2⟩ := hr.row i u l hu hl
    refine ⟨by rw [M.encIs_len]; exact e1, hr.base hu, ?_⟩
    obtain ⟨p, n, c⟩ := u
    rcases e2.2 with ⟨e, h0⟩ | ⟨g, cap, cur, e, hb', hh, hn, hm, hs, ht⟩
    · refine .inl (List.eq_nil_of_length_eq_zero ?_)
      rw [e2.1, h0, Nat.zero_mul]
    · have eg : p = some g := by
        have := congrArg Value.ownBlock e
        rw [slV_block] at this
        exact this
      subst eg
      refine .inr ⟨g, 0, cur, rfl, Nat.le_refl _, Nat.lt_succ_self _, hh, fun j x hx => ?_⟩
      rw [← ht, List.getElem?_take] at hx
      split at hx
      · rw [Nat.zero_add]; simpa using hx
      · cases hx
  · subst hp
    exact hd u hu _ e rfl
end
end C
end Go.Proofs.Ytbcobheiofajeaa
namespace Go.Proofs.Ytbcobheiofajeaa
open Go.RowKit
namespace C
theorem encSS_len (ll : List (List Int)) : (M.encSS ll).length = ll.length := by unfold M.encSS; rw [List.length_map]
theorem markT_any (w : World) (lo hi : Nat) (a : Option Addr) (c k0 : Nat) (V : List Sl) (ll : List (List Int)) (h : OwnSS lo hi w a V (M.encSS ll)) (hl : ll.length ≤ 1048576) (ht : M.totL (M.encSS ll) ≤ 1048576) (hk0 : k0 ≤ 1048576) :
    Calls Try.prog 24 #[.slice a ll.length c, .int .i64 (k0 : Int)] w (fun e w' => e = .returned (.int .i64 ((k0 + M.totL (M.encSS ll) : Nat) : Int)) ∧ OwnSS lo hi w' a V (M.marksSS k0 (M.encSS ll)) ∧ Turned lo hi w w') := by
  have := markIntSS_any w lo hi a c k0 V (M.encSS ll) h (by rw [encSS_len]; exact hl) ht hk0
  rw [encSS_len] at this
  exact this
theorem heldT_any (w : World) (lo hi : Nat) (a : Option Addr) (c k0 : Nat) (V : List Sl) (ll : List (List Int)) (h : OwnSS lo hi w a V (M.marksSS k0 (M.encSS ll))) (hl : ll.length ≤ 1048576) (ht : M.totL (M.encSS ll) ≤ 1048576) (hk0 : k0 ≤ 1048576) :
    Calls Try.prog 25 #[.slice a ll.length c, .int .i64 (k0 : Int)] w (fun e w' => e = .returned (.int .i64 ((k0 + M.totL (M.encSS ll) : Nat) : Int)) ∧ w = w') := by
  have := heldIntSS_any w lo hi a c k0 V (M.encSS ll) h (by rw [encSS_len]; exact hl) ht hk0
  rw [encSS_len] at this
  exact this
end C
end Go.Proofs.Ytbcobheiofajeaa
namespace Go.Proofs.Ytbcobheiofajeaa
open Go.RowKit
namespace C
theorem hasNode_b (m : M.Mz) (a b : Option Addr) (c d : Nat) (x : Int) (w : World) :
    Calls Try.prog 95 #[.agg #[.int .i64 m.size, .slice a m.doors.length c, .slice b m.keys.length d], .int .i64 x] w fun e w' => e = .returned (.bool (M.nodeB m.size x)) ∧ Below w.heap.size w w' :=
  (hasNode_any m a b c d x w).mono fun _ _ ⟨h1, h2⟩ => ⟨h1, by rw [← h2]; exact below_alloc _ _⟩
end C
end Go.Proofs.Ytbcobheiofajeaa
namespace Go.Proofs.Ytbcobheiofajeaa
open Go.RowKit
namespace C
def BoolOkPost (w : World) (r ok : Bool) (e : Ending) (w' : World) : Prop := e = .returned (.tuple #[.bool r, .bool ok]) ∧ Below w.heap.size w w'
end C
end Go.Proofs.Ytbcobheiofajeaa
