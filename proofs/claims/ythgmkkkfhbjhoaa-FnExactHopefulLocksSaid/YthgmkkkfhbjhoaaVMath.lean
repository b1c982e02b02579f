/-
  MATHEMATICS of spent keys, own to these proofs: which nodes are near when some doors are open, what is left, what can be opened next, openings. No condition.
  MATHEMATICS of searching openings, own to these proofs: sets of locks by their places, the first opening of each set, what the functions of chapter 7 tell by them. No condition.
  MATHEMATICS of vectors of six counts, own to these proofs. No condition.
  MATHEMATICS of the locks that can be opened next, own to these proofs. No condition.
  MATHEMATICS of the model's way to count the keys left, own to these proofs. No condition.
-/
import Derived.Test.YthgmkkkfhbjhoaaGathM
namespace Go.Proofs.Ythgmkkkfhbjhoaa
open Go.RowKit
namespace M
/-- which doors are open, by their numbers -/
abbrev Op := Nat → Bool
def need (m : Mz) (k : Nat) : Int := (m.doors.getD k default).2.2
def opZ (d : Dr) : Bool := d.2.2 == 0
def oDoor (m : Mz) (o : Op) (k : Nat) : Dr := ((m.doors.getD k default).1, (m.doors.getD k default).2.1, if o k then 0 else 1)
def oDoors (m : Mz) (o : Op) : List Dr := (List.range m.doors.length).map (oDoor m o)
theorem doorD {m : Mz} {k : Nat} (h : k < m.doors.length) : m.doors.getD k default = m.doors[k] := by rw [List.getD_eq_getElem?_getD, List.getElem?_eq_getElem h]; rfl
theorem need_at {m : Mz} {k : Nat} (h : k < m.doors.length) : need m k = m.doors[k].2.2 := by unfold need; rw [doorD h]
theorem mem_oDoors {m : Mz} {o : Op} {d : Dr} : d ∈ oDoors m o ↔ ∃ k, k < m.doors.length ∧ d = oDoor m o k := by
  unfold oDoors
  rw [List.mem_map]
  constructor
  · rintro ⟨k, hk, rfl⟩; exact ⟨k, List.mem_range.1 hk, rfl⟩
  · rintro ⟨k, hk, rfl⟩; exact ⟨k, List.mem_range.2 hk, rfl⟩
theorem opZ_oDoor (m : Mz) (o : Op) (k : Nat) : opZ (oDoor m o k) = o k := by
  unfold opZ oDoor
  cases o k <;> rfl
theorem oDoor_ends {m : Mz} {o : Op} {k : Nat} (h : k < m.doors.length) : endsN (oDoor m o k) = endsN m.doors[k] := by unfold endsN oDoor; rw [doorD h]
theorem oDoor_rng {m : Mz} (V : Valid m) (o : Op) {k : Nat} (h : k < m.doors.length) : 0 ≤ (oDoor m o k).1 ∧ (oDoor m o k).1 < m.size ∧ 0 ≤ (oDoor m o k).2.1 ∧ (oDoor m o k).2.1 < m.size := by
  unfold oDoor
  rw [doorD h]
  obtain ⟨a, b, c, d, _⟩ := V.door k h
  exact ⟨a, b, c, d⟩
theorem oDoors_rng {m : Mz} (V : Valid m) (o : Op) : ∀ d ∈ oDoors m o, 0 ≤ d.1 ∧ d.1 < 12 ∧ 0 ≤ d.2.1 ∧ d.2.1 < 12 := by
  intro d hd
  obtain ⟨k, hk, rfl⟩ := mem_oDoors.1 hd
  have := oDoor_rng V o hk
  have := V.size12
  omega
theorem near_rng {m : Mz} (V : Valid m) {o : Op} {y : Int} (h : Rch (oDoors m o) opZ 0 y) : 0 ≤ y ∧ y < m.size := by
  have h1 := V.size1
  induction h with
  | refl => omega
  | fwd hd _ _ _ => obtain ⟨k, hk, rfl⟩ := mem_oDoors.1 hd; exact (oDoor_rng V o hk).2.2
  | bwd hd _ _ _ => obtain ⟨k, hk, rfl⟩ := mem_oDoors.1 hd; have := oDoor_rng V o hk; exact ⟨this.1, this.2.1⟩
/-- the nodes that are near -/
noncomputable def nearL (m : Mz) (o : Op) : List Int := rchL (oDoors m o) opZ 0
noncomputable def nearN (m : Mz) (o : Op) : Nat := mk (nearL m o)
theorem mem_nearL {m : Mz} (V : Valid m) (o : Op) (y : Int) : y ∈ nearL m o ↔ Rch (oDoors m o) opZ 0 y :=
  mem_rchL (fun z hz => by have := near_rng V hz; have := V.size12; omega) y
theorem nearL_rng {m : Mz} (V : Valid m) {o : Op} {y : Int} (h : y ∈ nearL m o) : 0 ≤ y ∧ y < m.size := near_rng V ((mem_nearL V o y).1 h)
theorem nearL_len (m : Mz) (o : Op) : (nearL m o).length ≤ 12 := rchL_len _ _ _
theorem nearL_asc (m : Mz) (o : Op) : Asc ltI (nearL m o) := rchL_asc _ _ _
theorem nearN_lt {m : Mz} (V : Valid m) (o : Op) : nearN m o < 4096 := mk_lt fun x hx => by have := nearL_rng V hx; have := V.size12; omega
theorem digB_near {m : Mz} (V : Valid m) (o : Op) (p : Nat) : digB (nearN m o) p = true ↔ (p : Int) ∈ nearL m o := digB_mk (fun _ hx => (nearL_rng V hx).1) p
theorem nearN_node {m : Mz} (V : Valid m) (o : Op) (p : Nat) (h : digB (nearN m o) p = true) : (p : Int) < m.size := (nearL_rng V ((digB_near V o p).1 h)).2
theorem near_digs {m : Mz} (V : Valid m) (o : Op) : digsTo (nearN m o) 12 = nearL m o := by
  refine (digsTo_asc _ 12).ext ordI (nearL_asc _ _) fun y => ?_
  rw [mem_digsTo]
  constructor
  · rintro ⟨p, rfl, _, hp⟩
    exact (digB_near V o p).1 hp
  · intro hy
    have hn := nearL_rng V hy
    have := V.size12
    have ey : ((y.toNat : Nat) : Int) = y := by omega
    exact ⟨y.toNat, by omega, by omega, (digB_near V o y.toNat).2 (by rw [ey]; exact hy)⟩
theorem passN_fix {op : Dr → Bool} {n : Nat} : ∀ {ds : List Dr}, (∀ d ∈ ds, stepN op n d = n) → passN op n ds = n
  | [], _ => rfl
  | d :: ds, h => by
    show passN op (stepN op n d) ds = n
    rw [h d (List.mem_cons_self ..)]
    exact passN_fix fun e he => h e (List.mem_cons_of_mem _ he)
/-- the program's number, where no door leads on -/
theorem near_stop {m : Mz} (V : Valid m) {o : Op} {n : Nat} (h : MaskOk (oDoors m o) opZ (0 : Nat) n) (hs : ∀ k, k < m.doors.length → stepN opZ n (oDoor m o k) = n) : n = nearN m o := by
  have hp : passN opZ n (oDoors m o) = n := passN_fix fun d hd => by
    obtain ⟨k, hk, rfl⟩ := mem_oDoors.1 hd
    exact hs k hk
  have he := mask_end (x := 0) h hp (oDoors_rng V o)
  have : digsTo n 12 = nearL m o := (rchL_eq (fun y hy => by have := near_rng V hy; have := V.size12; omega) (digsTo_asc n 12) he).symm
  unfold nearN
  rw [← this, mk_digs h.2.1]
theorem near_start (m : Mz) (o : Op) : MaskOk (oDoors m o) opZ (0 : Nat) 1 := MaskOk.start (x := 0) (by decide)
theorem near_step {m : Mz} (V : Valid m) {o : Op} {n : Nat} (h : MaskOk (oDoors m o) opZ (0 : Nat) n) {k : Nat} (hk : k < m.doors.length) (ho : o k = true) (hn : n &&& endsN m.doors[k] ≠ 0) : MaskOk (oDoors m o) opZ (0 : Nat) (n ||| endsN m.doors[k]) := by
  have hd := (mem_oDoors (m := m) (o := o)).2 ⟨k, hk, rfl⟩
  obtain ⟨a, b, c, d⟩ := oDoors_rng V o _ hd
  have hs := h.step hd a b c d
  have e : stepN opZ n (oDoor m o k) = n ||| endsN m.doors[k] := by
    unfold stepN
    rw [oDoor_ends hk, opZ_oDoor, if_pos ⟨ho, hn⟩]
  rwa [e] at hs
theorem near_still {m : Mz} {o : Op} {n k : Nat} (hk : k < m.doors.length) (h : o k = false ∨ n &&& endsN m.doors[k] = 0 ∨ n ||| endsN m.doors[k] = n) : stepN opZ n (oDoor m o k) = n := by
  unfold stepN
  rw [oDoor_ends hk, opZ_oDoor]
  rcases h with h | h | h
  · rw [h, if_neg (by simp)]
  · rw [h, if_neg (by simp)]
  · rw [h]; split <;> rfl
/-- the model's list, where no door leads on -/
theorem near_list {m : Mz} (V : Valid m) {o : Op} {out : List Int} (ha : Asc ltI out) (hr : ∀ z ∈ out, Rch (oDoors m o) opZ 0 z) (h0 : (0 : Int) ∈ out) (hs : ∀ k (h : k < m.doors.length), o k = true → (m.doors[k].1 ∈ out ↔ m.doors[k].2.1 ∈ out)) : out = nearL m o := by
  refine (rchL_eq (fun y hy => by have := near_rng V hy; have := V.size12; omega) ha fun y => ⟨hr y, ?_⟩).symm
  refine Rch.closed (S := fun y => y ∈ out) h0 fun d hd ho => ?_
  obtain ⟨k, hk, rfl⟩ := mem_oDoors.1 hd
  rw [opZ_oDoor] at ho
  unfold oDoor
  rw [doorD hk]
  exact hs k hk ho
theorem near_both {m : Mz} {o : Op} {k : Nat} (hk : k < m.doors.length) (ho : o k = true) (h : Rch (oDoors m o) opZ 0 m.doors[k].1 ∨ Rch (oDoors m o) opZ 0 m.doors[k].2.1) : Rch (oDoors m o) opZ 0 m.doors[k].1 ∧ Rch (oDoors m o) opZ 0 m.doors[k].2.1 := by
  have hd := (mem_oDoors (m := m) (o := o)).2 ⟨k, hk, rfl⟩
  have hz : opZ (oDoor m o k) = true := by rw [opZ_oDoor]; exact ho
  have e1 : (oDoor m o k).1 = m.doors[k].1 := by unfold oDoor; rw [doorD hk]
  have e2 : (oDoor m o k).2.1 = m.doors[k].2.1 := by unfold oDoor; rw [doorD hk]
  rw [← e1, ← e2] at h ⊢
  rcases h with h | h
  · exact ⟨h, .fwd hd hz h⟩
  · exact ⟨.bwd hd hz h, h⟩
theorem nearL_mono {m : Mz} (V : Valid m) {o o' : Op} (h : ∀ k, k < m.doors.length → o k = true → o' k = true) {y : Int} (hy : y ∈ nearL m o) : y ∈ nearL m o' := by
  rw [mem_nearL V] at *
  induction hy with
  | refl => exact .refl
  | fwd hd hz _ ih =>
    obtain ⟨k, hk, rfl⟩ := mem_oDoors.1 hd
    rw [opZ_oDoor] at hz
    exact Rch.fwd (d := oDoor m o' k) (mem_oDoors.2 ⟨k, hk, rfl⟩) (by rw [opZ_oDoor]; exact h k hk hz) ih
  | bwd hd hz _ ih =>
    obtain ⟨k, hk, rfl⟩ := mem_oDoors.1 hd
    rw [opZ_oDoor] at hz
    exact Rch.bwd (d := oDoor m o' k) (mem_oDoors.2 ⟨k, hk, rfl⟩) (by rw [opZ_oDoor]; exact h k hk hz) ih
theorem nearL_zero {m : Mz} (V : Valid m) (o : Op) : (0 : Int) ∈ nearL m o := (mem_nearL V o 0).2 .refl
-- only the doors that there are count
theorem nearL_ext {m : Mz} (V : Valid m) {o o' : Op} (h : ∀ k, k < m.doors.length → o k = o' k) : nearL m o = nearL m o' :=
  (nearL_asc m o).ext ordI (nearL_asc m o') fun y => ⟨nearL_mono V fun k hk e => by rw [← h k hk]; exact e, nearL_mono V fun k hk e => by rw [h k hk]; exact e⟩

-- sums
def sm (f : Nat → Int) : Nat → Int
  | 0 => 0
  | n + 1 => sm f n + f n
theorem sm_ext {f g : Nat → Int} : ∀ {n : Nat}, (∀ k, k < n → f k = g k) → sm f n = sm g n
  | 0, _ => rfl
  | n + 1, h => by
    show sm f n + f n = sm g n + g n
    rw [sm_ext fun k hk => h k (by omega), h n (by omega)]
theorem sm_le {f g : Nat → Int} : ∀ {n : Nat}, (∀ k, k < n → f k ≤ g k) → sm f n ≤ sm g n
  | 0, _ => Int.le_refl _
  | n + 1, h => by
    have h1 := sm_le (f := f) (g := g) (n := n) fun k hk => h k (by omega)
    have h2 := h n (by omega)
    show sm f n + f n ≤ sm g n + g n
    omega
theorem sm_bnd {f : Nat → Int} : ∀ {n : Nat}, (∀ k, k < n → 0 ≤ f k ∧ f k ≤ 1) → 0 ≤ sm f n ∧ sm f n ≤ n
  | 0, _ => ⟨Int.le_refl _, Int.le_refl _⟩
  | n + 1, h => by
    have h1 := sm_bnd (f := f) (n := n) fun k hk => h k (by omega)
    have h2 := h n (by omega)
    show 0 ≤ sm f n + f n ∧ sm f n + f n ≤ ((n + 1 : Nat) : Int)
    omega
theorem sm_one {f g : Nat → Int} {i : Nat} {u : Int} : ∀ {n : Nat}, (∀ k, k < n → k ≠ i → f k = g k) → (f i = g i + u) → i < n → sm f n = sm g n + u
  | 0, _, _, h => by omega
  | n + 1, h, hi, hn => by
    show sm f n + f n = sm g n + g n + u
    rcases Nat.lt_or_ge i n with hlt | hge
    · rw [sm_one (fun k hk => h k (by omega)) hi hlt, h n (by omega) (by omega)]
      omega
    · obtain rfl : i = n := by omega
      rw [hi, sm_ext fun k hk => h k (by omega) (by omega)]
      omega
/-- the digit of a set at a colour, as a number -/
def bt (s : Int) (c : Nat) : Int := if digB s.toNat c then 1 else 0
theorem bt_01 (s : Int) (c : Nat) : 0 ≤ bt s c ∧ bt s c ≤ 1 := by unfold bt; split <;> omega
def onI (b : Bool) (x : Int) : Int := if b then x else 0
theorem onI_t (x : Int) : onI true x = x := rfl
theorem onI_f (x : Int) : onI false x = 0 := rfl
theorem onI_01 (b : Bool) {x : Int} (h : 0 ≤ x ∧ x ≤ 1) : 0 ≤ onI b x ∧ onI b x ≤ 1 := by cases b <;> simp [onI] <;> omega
/-- keys of a colour at the first nodes, of those that are near -/
noncomputable def keyC (m : Mz) (o : Op) (n c : Nat) : Int := sm (fun x => onI ((nearL m o).contains (x : Int)) (bt (m.keys.getD x 0) c)) n
/-- keys of a colour that the first doors took, of those that are open -/
def tookC (m : Mz) (o : Op) (n c : Nat) : Int := sm (fun k => onI (o k) (bt (need m k) c)) n
noncomputable def leftC (m : Mz) (o : Op) (c : Nat) : Int := keyC m o 12 c - tookC m o m.doors.length c
noncomputable def leftL (m : Mz) (o : Op) : List Int := (List.range 6).map fun c => leftC m o c
theorem keyC_bnd (m : Mz) (o : Op) (n c : Nat) : 0 ≤ keyC m o n c ∧ keyC m o n c ≤ n := sm_bnd fun _ _ => onI_01 _ (bt_01 _ _)
theorem tookC_bnd (m : Mz) (o : Op) (n c : Nat) : 0 ≤ tookC m o n c ∧ tookC m o n c ≤ n := sm_bnd fun _ _ => onI_01 _ (bt_01 _ _)
theorem keyC_mono {m : Mz} (V : Valid m) {o o' : Op} (h : ∀ k, k < m.doors.length → o k = true → o' k = true) (n c : Nat) : keyC m o n c ≤ keyC m o' n c := by
  refine sm_le fun x _ => ?_
  cases e : (nearL m o).contains (x : Int) with
  | false => rw [onI_f]; exact (onI_01 _ (bt_01 _ _)).1
  | true =>
    have : (nearL m o').contains (x : Int) = true := List.contains_iff_mem.2 (nearL_mono V h (List.contains_iff_mem.1 e))
    rw [this]
    exact Int.le_refl _
theorem leftC_ext {m : Mz} (V : Valid m) {o o' : Op} (h : ∀ k, k < m.doors.length → o k = o' k) (c : Nat) : leftC m o c = leftC m o' c := by
  unfold leftC keyC tookC
  rw [nearL_ext V h, sm_ext (f := fun k => onI (o k) (bt (need m k) c)) (g := fun k => onI (o' k) (bt (need m k) c)) fun k hk => by show onI (o k) _ = onI (o' k) _; rw [h k hk]]
-- what can be opened next
noncomputable def nearD (m : Mz) (o : Op) (k : Nat) : Bool := (nearL m o).contains (m.doors.getD k default).1 || (nearL m o).contains (m.doors.getD k default).2.1
noncomputable def payB (m : Mz) (o : Op) (k : Nat) : Bool := (List.range 6).all fun c => !digB (need m k).toNat c || decide (0 < leftC m o c)
noncomputable def nextOB (m : Mz) (o : Op) (k : Nat) : Bool := !o k && (nearD m o k && payB m o k)
/-- the numbers below n of which p holds -/
def fl (p : Nat → Bool) (n : Nat) : List Int := ((List.range n).filter p).map fun k : Nat => (k : Int)
theorem fl_yes {p : Nat → Bool} {n : Nat} (h : p n = true) : fl p (n + 1) = fl p n ++ [(n : Int)] := by
  unfold fl; rw [List.range_succ, List.filter_append, List.filter_cons_of_pos h]; simp
theorem fl_no {p : Nat → Bool} {n : Nat} (h : p n = false) : fl p (n + 1) = fl p n := by
  unfold fl; rw [List.range_succ, List.filter_append, List.filter_cons_of_neg (by rw [h]; decide)]; simp
theorem fl_len (p : Nat → Bool) (n : Nat) : (fl p n).length ≤ n := by
  unfold fl
  rw [List.length_map]
  have := List.length_filter_le p (List.range n)
  simpa using this
theorem mem_fl {p : Nat → Bool} {n : Nat} {x : Int} : x ∈ fl p n ↔ ∃ k : Nat, x = k ∧ k < n ∧ p k = true := by
  unfold fl
  rw [List.mem_map]
  constructor
  · rintro ⟨k, hk, rfl⟩
    rw [List.mem_filter, List.mem_range] at hk
    exact ⟨k, rfl, hk.1, hk.2⟩
  · rintro ⟨k, rfl, h1, h2⟩
    exact ⟨k, by rw [List.mem_filter, List.mem_range]; exact ⟨h1, h2⟩, rfl⟩
theorem fl_ext {p q : Nat → Bool} : ∀ {n : Nat}, (∀ k, k < n → p k = q k) → fl p n = fl q n
  | 0, _ => rfl
  | n + 1, h => by
    have ih := fl_ext (p := p) (q := q) (n := n) fun k hk => h k (by omega)
    have hn := h n (by omega)
    cases e : p n with
    | true => rw [fl_yes e, fl_yes (by rw [← hn]; exact e), ih]
    | false => rw [fl_no e, fl_no (by rw [← hn]; exact e), ih]
theorem fl_asc (p : Nat → Bool) (n : Nat) : Asc ltI (fl p n) := by
  unfold fl Asc
  rw [List.pairwise_map]
  refine (List.Pairwise.filter _ List.pairwise_lt_range).imp ?_
  intro a b hab
  unfold ltI
  rw [decide_eq_true_iff]
  omega
theorem asc_nodup {l : List Int} (h : Asc ltI l) : l.Nodup := h.imp fun {a b} hab => by
  rintro rfl
  rw [ordI.irrefl] at hab
  cases hab
noncomputable def nextO (m : Mz) (o : Op) : List Int := fl (nextOB m o) m.doors.length
theorem nextO_len (m : Mz) (o : Op) : (nextO m o).length ≤ m.doors.length := fl_len _ _
-- openings
def o0 (m : Mz) : Op := fun k => decide (k < m.doors.length) && (need m k == 0)
def andO (o : Op) (k : Int) : Op := fun j => o j || ((j : Int) == k)
def behO (m : Mz) (l : List Int) : Op := l.foldl andO (o0 m)
theorem behO_snoc (m : Mz) (l : List Int) (k : Int) : behO m (l ++ [k]) = andO (behO m l) k := by unfold behO; rw [List.foldl_append]; rfl
theorem foldO_at : ∀ (l : List Int) (o : Op) (j : Nat), l.foldl andO o j = (o j || l.contains (j : Int))
  | [], o, j => by simp
  | k :: l, o, j => by
    rw [List.foldl_cons, foldO_at l (andO o k) j, List.contains_cons]
    unfold andO
    rw [Bool.or_assoc]
theorem behO_at (m : Mz) (l : List Int) (j : Nat) : behO m l j = (o0 m j || l.contains (j : Int)) := foldO_at l _ j
noncomputable def opnB (m : Mz) : Op → List Int → Bool
  | _, [] => true
  | o, k :: l => (nextO m o).contains k && opnB m (andO o k) l
theorem opnB_snoc (m : Mz) : ∀ (l : List Int) (o : Op) (k : Int), opnB m o (l ++ [k]) = (opnB m o l && (nextO m (l.foldl andO o)).contains k)
  | [], o, k => by simp [opnB]
  | x :: l, o, k => by
    show ((nextO m o).contains x && opnB m (andO o x) (l ++ [k])) = _
    rw [opnB_snoc m l, ← Bool.and_assoc]
    rfl
/-- whether a list is an opening -/
noncomputable def isO (m : Mz) (l : List Int) : Bool := opnB m (o0 m) l
theorem isO_snoc (m : Mz) (l : List Int) (k : Int) : isO m (l ++ [k]) = (isO m l && (nextO m (behO m l)).contains k) := opnB_snoc m l _ k
theorem isO_take {m : Mz} {l : List Int} {k : Nat} (h : k < l.length) : isO m (l.take (k + 1)) = (isO m (l.take k) && (nextO m (behO m (l.take k))).contains l[k]) := by
  rw [List.take_succ_eq_append_getElem h, isO_snoc]
theorem isO_pre {m : Mz} {l : List Int} : ∀ (l' : List Int), isO m (l ++ l') = true → isO m l = true := by
  intro l'
  induction l' generalizing l with
  | nil => intro h; simpa using h
  | cons x l' ih =>
    intro h
    have := ih (l := l ++ [x]) (by simpa using h)
    rw [isO_snoc, Bool.and_eq_true] at this
    exact this.1
def lockB (m : Mz) (k : Nat) : Bool := need m k != 0
def lockL (m : Mz) : List Int := fl (lockB m) m.doors.length
def goodB (m : Mz) : Bool := mazeB m && decide ((lockL m).length ≤ 10)
theorem good_maze {m : Mz} (h : goodB m = true) : mazeB m = true := by unfold goodB at h; rw [Bool.and_eq_true] at h; exact h.1
theorem good_few {m : Mz} (h : goodB m = true) : (lockL m).length ≤ 10 := by unfold goodB at h; rw [Bool.and_eq_true, decide_eq_true_iff] at h; exact h.2
structure Opn (m : Mz) (l : List Int) : Prop where
  nodup : l.Nodup
  lock : ∀ k ∈ l, k ∈ lockL m
  pos : ∀ c, 0 ≤ leftC m (behO m l) c
theorem Opn.rng {m : Mz} {l : List Int} (h : Opn m l) {k : Int} (hk : k ∈ l) : 0 ≤ k ∧ k < m.doors.length ∧ need m k.toNat ≠ 0 := by
  obtain ⟨j, rfl, hj, hl⟩ := mem_fl.1 (h.lock k hk)
  unfold lockB at hl
  refine ⟨by omega, by omega, ?_⟩
  simpa using hl
theorem next_new {m : Mz} {l : List Int} {k : Int} (h : k ∈ nextO m (behO m l)) : k ∈ lockL m ∧ k ∉ l := by
  obtain ⟨j, rfl, hj, hn⟩ := mem_fl.1 h
  unfold nextOB at hn
  rw [Bool.and_eq_true, behO_at, Bool.not_or, Bool.and_eq_true] at hn
  obtain ⟨⟨h1, h2⟩, _⟩ := hn
  refine ⟨mem_fl.2 ⟨j, rfl, hj, ?_⟩, fun hm => ?_⟩
  · unfold o0 at h1
    rw [decide_eq_true hj, Bool.true_and] at h1
    exact h1
  · rw [List.contains_iff_mem.2 hm] at h2
    cases h2
theorem tookC_zero (m : Mz) (c : Nat) (n : Nat) : tookC m (o0 m) n c = 0 := by
  unfold tookC
  induction n with
  | zero => rfl
  | succ n ih =>
    show sm _ n + onI (o0 m n) (bt (need m n) c) = 0
    rw [ih]
    cases e : o0 m n with
    | false => rfl
    | true =>
      unfold o0 at e
      rw [Bool.and_eq_true, beq_iff_eq] at e
      rw [e.2, onI_t]
      unfold bt digB
      simp
theorem tookC_and {m : Mz} {o : Op} {k : Nat} (hk : k < m.doors.length) (ho : o k = false) (c : Nat) : tookC m (andO o k) m.doors.length c = tookC m o m.doors.length c + bt (need m k) c := by
  unfold tookC
  refine sm_one (i := k) (fun j hj hne => ?_) ?_ hk
  · show onI (andO o k j) _ = onI (o j) _
    unfold andO
    have : (((j : Nat) : Int) == (k : Int)) = false := by
      rw [beq_eq_false_iff_ne]; omega
    rw [this, Bool.or_false]
  · show onI (andO o k k) _ = onI (o k) _ + _
    unfold andO
    rw [ho, beq_self_eq_true, Bool.false_or, onI_t, onI_f]
    omega
theorem isO_opn {m : Mz} (V : Valid m) : ∀ (n : Nat) (l : List Int), l.length = n → isO m l = true → Opn m l := by
  intro n
  induction n with
  | zero =>
    intro l hl _
    obtain rfl := List.eq_nil_of_length_eq_zero hl
    refine ⟨by simp, by simp, fun c => ?_⟩
    show 0 ≤ leftC m (o0 m) c
    unfold leftC
    rw [tookC_zero]
    have := keyC_bnd m (o0 m) 12 c
    omega
  | succ n ih =>
    intro l hl h
    obtain ⟨l', k, rfl⟩ : ∃ l' k, l = l' ++ [k] := by
      refine ⟨l.dropLast, l.getLast (by rintro rfl; simp at hl), (List.dropLast_concat_getLast _).symm⟩
    rw [List.length_append, List.length_singleton] at hl
    rw [isO_snoc, Bool.and_eq_true, List.contains_iff_mem] at h
    have IH := ih l' (by omega) h.1
    obtain ⟨hk1, hk2⟩ := next_new h.2
    refine ⟨?_, ?_, fun c => ?_⟩
    · rw [List.nodup_append]
      exact ⟨IH.nodup, by simp, fun a ha b hb e => by rw [List.mem_singleton] at hb; subst hb; exact hk2 (e ▸ ha)⟩
    · intro z hz
      rw [List.mem_append, List.mem_singleton] at hz
      rcases hz with hz | rfl
      · exact IH.lock z hz
      · exact hk1
    · rw [behO_snoc]
      obtain ⟨j, rfl, hj, hn⟩ := mem_fl.1 h.2
      unfold nextOB at hn
      rw [Bool.and_eq_true, Bool.and_eq_true] at hn
      obtain ⟨ho, _, hp⟩ := hn
      have ho' : behO m l' j = false := by simpa using ho
      unfold leftC
      rw [tookC_and hj ho']
      have h1 := keyC_mono V (o := behO m l') (o' := andO (behO m l') (j : Int)) (fun k _ e => by unfold andO; rw [e, Bool.true_or]) 12 c
      have h2 := IH.pos c
      unfold leftC at h2
      unfold payB at hp
      rw [List.all_eq_true] at hp
      unfold bt
      cases e : digB (need m j).toNat c with
      | false => simp; omega
      | true =>
        rcases Nat.lt_or_ge c 6 with hc | hc
        · have := hp c (List.mem_range.2 hc)
          rw [e] at this
          simp at this
          unfold leftC at this
          simp
          omega
        · exfalso
          have hd : 0 ≤ need m j ∧ need m j < 64 := by
            rw [need_at hj]
            obtain ⟨_, _, _, _, _, a, b⟩ := V.door j hj
            exact ⟨a, b⟩
          rw [digB_lt (k := 6) (Nat.div_eq_of_lt (by omega)) hc] at e
          cases e
theorem nodup_sub : ∀ (l L : List Int), l.Nodup → (∀ x ∈ l, x ∈ L) → l.length ≤ L.length
  | [], _, _, _ => Nat.zero_le _
  | a :: l, L, hn, hs => by
    obtain ⟨h1, h2⟩ := List.nodup_cons.1 hn
    have ha := hs a (List.mem_cons_self ..)
    have ih := nodup_sub l (L.erase a) h2 fun x hx => (List.mem_erase_of_ne (by rintro rfl; exact h1 hx)).2 (hs x (List.mem_cons_of_mem _ hx))
    rw [List.length_erase_of_mem ha] at ih
    have := List.length_pos_of_mem ha
    rw [List.length_cons]
    omega
theorem isO_len {m : Mz} (V : Valid m) {l : List Int} (h : isO m l = true) : l.length ≤ (lockL m).length := by
  have H := isO_opn V _ l rfl h
  exact nodup_sub _ _ H.nodup H.lock
-- the model's tests
/-- what the model asks of what is left -/
theorem pay_left {m : Mz} {o : Op} (h : ∀ c, 0 ≤ leftC m o c) {k : Nat} : ((List.range 6).all fun c => decide (bt (need m k) c ≤ leftC m o c)) = payB m o k := by
  unfold payB
  congr 1
  funext c
  have := h c
  unfold bt
  cases digB (need m k).toNat c
  · simp [this]
  · simp; omega
end M
end Go.Proofs.Ythgmkkkfhbjhoaa
namespace Go.Proofs.Ythgmkkkfhbjhoaa
open Go.RowKit
namespace M
/-- the set of an opening by binary digits, by the places of its locks -/
def codeTo (L l : List Int) : Nat → Nat
  | 0 => 0
  | i + 1 => if l.contains (L.getD i 0) then codeTo L l i ||| 2 ^ i else codeTo L l i
theorem codeTo_digB (L l : List Int) (p : Nat) : ∀ n, digB (codeTo L l n) p = (decide (p < n) && l.contains (L.getD p 0))
  | 0 => by simp [codeTo, digB]
  | n + 1 => by
    have ih := codeTo_digB L l p n
    unfold codeTo
    rcases Nat.lt_trichotomy p n with h | h | h
    · rw [decide_eq_true h] at ih
      rw [decide_eq_true (show p < n + 1 by omega)]
      split
      · rw [digB_or, ih, digB_pow, decide_eq_false (by omega), Bool.or_false]
      · exact ih
    · subst h
      rw [decide_eq_false (by omega), Bool.false_and] at ih
      rw [decide_eq_true (show p < p + 1 by omega), Bool.true_and]
      split
      · rename_i hc
        rw [digB_or, ih, digB_pow, decide_eq_true rfl, hc]
        rfl
      · rename_i hc
        rw [ih]
        simpa using hc
    · rw [decide_eq_false (by omega), Bool.false_and] at ih
      rw [decide_eq_false (show ¬ p < n + 1 by omega), Bool.false_and]
      split
      · rw [digB_or, ih, digB_pow, decide_eq_false (by omega)]
        rfl
      · exact ih
theorem codeTo_lt (L l : List Int) : ∀ n, codeTo L l n < 2 ^ n
  | 0 => by show (0 : Nat) < 1; decide
  | n + 1 => by
    have ih := codeTo_lt L l n
    have hp : (2 : Nat) ^ n < 2 ^ (n + 1) := Nat.pow_lt_pow_of_lt (by decide) (by omega)
    unfold codeTo
    split
    · exact Nat.or_lt_two_pow (by omega) hp
    · omega
noncomputable def codeN (m : Mz) (l : List Int) : Nat := codeTo (lockL m) l (lockL m).length
theorem ext_digB {a b : Nat} (h : ∀ p, digB a p = digB b p) : a = b := Nat.eq_of_testBit_eq fun p => by rw [← digB_testBit, ← digB_testBit, h]
theorem code_iff {m : Mz} {a b : List Int} : codeN m a = codeN m b ↔ ∀ k ∈ lockL m, (k ∈ a ↔ k ∈ b) := by
  unfold codeN
  constructor
  · intro h k hk
    obtain ⟨p, hp, rfl⟩ := List.mem_iff_getElem.1 hk
    have ha := codeTo_digB (lockL m) a p (lockL m).length
    have hb := codeTo_digB (lockL m) b p (lockL m).length
    rw [h, hb, decide_eq_true hp, Bool.true_and, Bool.true_and, List.getD_eq_getElem?_getD, List.getElem?_eq_getElem hp] at ha
    simp only [Option.getD_some] at ha
    rw [← List.contains_iff_mem, ← List.contains_iff_mem, ha]
  · intro h
    refine ext_digB fun p => ?_
    rw [codeTo_digB, codeTo_digB]
    rcases Nat.lt_or_ge p (lockL m).length with hp | hp
    · have := h _ (List.getElem_mem hp)
      rw [List.getD_eq_getElem?_getD, List.getElem?_eq_getElem hp]
      simp only [Option.getD_some]
      rw [← List.contains_iff_mem, ← List.contains_iff_mem] at this
      rw [Bool.eq_iff_iff.2 this]
    · rw [decide_eq_false (by omega), Bool.false_and, Bool.false_and]
/-- the same locks: the same doors open, and back -/
theorem code_beh {m : Mz} {a b : List Int} (ha : ∀ k ∈ a, k ∈ lockL m) (hb : ∀ k ∈ b, k ∈ lockL m) : codeN m a = codeN m b ↔ ∀ k, behO m a k = behO m b k := by
  rw [code_iff]
  have key : ∀ (l : List Int) (k : Int), k ∈ lockL m → (k ∈ l ↔ behO m l k.toNat = true) := by
    intro l k hk
    obtain ⟨j, rfl, hj, hl⟩ := mem_fl.1 hk
    rw [behO_at]
    have : o0 m j = false := by
      unfold o0
      unfold lockB at hl
      rw [decide_eq_true hj, Bool.true_and]
      simpa using hl
    rw [Int.toNat_natCast, this, Bool.false_or, List.contains_iff_mem]
  constructor
  · intro h k
    rw [behO_at, behO_at]
    congr 1
    rw [Bool.eq_iff_iff, List.contains_iff_mem, List.contains_iff_mem]
    exact ⟨fun hk => (h _ (ha _ hk)).1 hk, fun hk => (h _ (hb _ hk)).2 hk⟩
  · intro h k hk
    rw [key a k hk, key b k hk, h]
-- the search
noncomputable def addS (m : Mz) (ops : List (List Int)) (x : List Int) : List (List Int) := if ops.any (fun y => codeN m y == codeN m x) then ops else ops ++ [x]
noncomputable def roundS (m : Mz) (cur : List Int) : List (List Int) → List Int → List (List Int)
  | ops, [] => ops
  | ops, k :: l => roundS m cur (addS m ops (cur ++ [k])) l
theorem roundS_snoc (m : Mz) (cur : List Int) : ∀ (l : List Int) (ops : List (List Int)) (k : Int), roundS m cur ops (l ++ [k]) = addS m (roundS m cur ops l) (cur ++ [k])
  | [], _, _ => rfl
  | x :: l, ops, k => roundS_snoc m cur l (addS m ops (cur ++ [x])) k
theorem roundS_take {m : Mz} {cur : List Int} {ops : List (List Int)} {l : List Int} {k : Nat} (h : k < l.length) : roundS m cur ops (l.take (k + 1)) = addS m (roundS m cur ops (l.take k)) (cur ++ [l[k]]) := by
  rw [List.take_succ_eq_append_getElem h, roundS_snoc]
noncomputable def fullS (m : Mz) (ops : List (List Int)) (i : Nat) : List (List Int) := roundS m (ops.getD i []) ops (nextO m (behO m (ops.getD i [])))
noncomputable def srch (m : Mz) : Nat → List (List Int) → Nat → List (List Int)
  | 0, ops, _ => ops
  | f + 1, ops, i => if i < ops.length then srch m f (fullS m ops i) (i + 1) else ops
theorem srch_step {m : Mz} {ops : List (List Int)} {i : Nat} (h : i < ops.length) (hi : i < 1025) : srch m (1025 - i) ops i = srch m (1025 - (i + 1)) (fullS m ops i) (i + 1) := by
  have e : 1025 - i = (1025 - (i + 1)) + 1 := by omega
  rw [e]
  show (if i < ops.length then _ else _) = _
  rw [if_pos h]
theorem srch_end {m : Mz} {ops : List (List Int)} {i f : Nat} (h : ops.length ≤ i) : srch m f ops i = ops := by
  cases f with
  | zero => rfl
  | succ f => show (if i < ops.length then _ else _) = _; rw [if_neg (by omega)]
/-- the first openings of all sets of locks behind one opening -/
noncomputable def srchL (m : Mz) (begun : List Int) : List (List Int) := srch m 1025 [begun] 0
/-- on the way -/
structure Srch (m : Mz) (begun : List Int) (ops : List (List Int)) : Prop where
  open_ : ∀ x ∈ ops, isO m x = true
  from_ : ∀ x ∈ ops, ∃ y, x = begun ++ y
  apart : (ops.map (codeN m)).Nodup
  some_ : 0 < ops.length
theorem Srch.start {m : Mz} {begun : List Int} (h : isO m begun = true) : Srch m begun [begun] :=
  ⟨fun x hx => by rw [List.mem_singleton] at hx; subst hx; exact h, fun x hx => by rw [List.mem_singleton] at hx; subst hx; exact ⟨[], by simp⟩, by simp, by simp⟩
theorem Srch.add {m : Mz} {begun : List Int} {ops : List (List Int)} (h : Srch m begun ops) {cur : List Int} (hc : cur ∈ ops) {k : Int} (hk : k ∈ nextO m (behO m cur)) : Srch m begun (addS m ops (cur ++ [k])) := by
  unfold addS
  split
  · exact h
  · rename_i hn
    refine ⟨fun x hx => ?_, fun x hx => ?_, ?_, by rw [List.length_append]; have := h.some_; omega⟩
    · rw [List.mem_append, List.mem_singleton] at hx
      rcases hx with hx | rfl
      · exact h.open_ x hx
      · rw [isO_snoc, h.open_ cur hc, Bool.true_and, List.contains_iff_mem]; exact hk
    · rw [List.mem_append, List.mem_singleton] at hx
      rcases hx with hx | rfl
      · exact h.from_ x hx
      · obtain ⟨y, rfl⟩ := h.from_ cur hc
        exact ⟨y ++ [k], by rw [List.append_assoc]⟩
    · rw [List.map_append, List.nodup_append]
      refine ⟨h.apart, by simp, fun a ha b hb e => ?_⟩
      rw [List.map_cons, List.map_nil, List.mem_singleton] at hb
      subst hb
      obtain ⟨y, hy, rfl⟩ := List.mem_map.1 ha
      exact hn (List.any_eq_true.2 ⟨y, hy, by rw [beq_iff_eq]; exact e⟩)
theorem addS_pre (m : Mz) (ops : List (List Int)) (x : List Int) : ∃ t, addS m ops x = ops ++ t := by
  unfold addS
  split
  · exact ⟨[], by simp⟩
  · exact ⟨[x], rfl⟩
theorem roundS_pre (m : Mz) (cur : List Int) : ∀ (l : List Int) (ops : List (List Int)), ∃ t, roundS m cur ops l = ops ++ t
  | [], ops => ⟨[], by simp [roundS]⟩
  | k :: l, ops => by
    obtain ⟨t1, h1⟩ := addS_pre m ops (cur ++ [k])
    obtain ⟨t2, h2⟩ := roundS_pre m cur l (addS m ops (cur ++ [k]))
    exact ⟨t1 ++ t2, by show roundS m cur (addS m ops (cur ++ [k])) l = _; rw [h2, h1, List.append_assoc]⟩
theorem Srch.round {m : Mz} {begun : List Int} {cur : List Int} : ∀ (l : List Int) {ops : List (List Int)}, Srch m begun ops → cur ∈ ops → (∀ k ∈ l, k ∈ nextO m (behO m cur)) → Srch m begun (roundS m cur ops l)
  | [], _, h, _, _ => h
  | k :: l, ops, h, hc, hk => by
    have h1 := h.add hc (hk k (List.mem_cons_self ..))
    obtain ⟨t, ht⟩ := addS_pre m ops (cur ++ [k])
    exact Srch.round l h1 (by rw [ht]; exact List.mem_append_left _ hc) fun z hz => hk z (List.mem_cons_of_mem _ hz)
theorem nat_nodup {n : Nat} {l : List Nat} (h : l.Nodup) (hb : ∀ z ∈ l, z < n) : l.length ≤ n := by
  have h1 : (l.map fun k : Nat => (k : Int)).Nodup := by
    rw [List.nodup_iff_pairwise_ne, List.pairwise_map]
    exact h.imp fun {a b} hab e => hab (by omega)
  have := nodup_len (n := n) h1 fun z hz => by
    obtain ⟨k, hk, rfl⟩ := List.mem_map.1 hz
    have := hb k hk
    omega
  rwa [List.length_map] at this
theorem Srch.len {m : Mz} {begun : List Int} {ops : List (List Int)} (h : Srch m begun ops) (hf : (lockL m).length ≤ 10) : ops.length ≤ 1024 := by
  have := nat_nodup (n := 1024) h.apart fun z hz => by
    obtain ⟨x, _, rfl⟩ := List.mem_map.1 hz
    have h1 := codeTo_lt (lockL m) x (lockL m).length
    have h2 : (2 : Nat) ^ (lockL m).length ≤ 2 ^ 10 := Nat.pow_le_pow_right (by decide) hf
    have h3 : (2 : Nat) ^ 10 = 1024 := rfl
    unfold codeN
    omega
  rwa [List.length_map] at this
theorem Srch.full {m : Mz} {begun : List Int} {ops : List (List Int)} (h : Srch m begun ops) {i : Nat} (hi : i < ops.length) : Srch m begun (fullS m ops i) := by
  unfold fullS
  refine Srch.round _ h ?_ fun k hk => hk
  rw [List.getD_eq_getElem?_getD, List.getElem?_eq_getElem hi]
  exact List.getElem_mem hi
theorem fullS_len {m : Mz} {ops : List (List Int)} {i : Nat} : ops.length ≤ (fullS m ops i).length := by
  unfold fullS
  obtain ⟨t, ht⟩ := roundS_pre m (ops.getD i []) (nextO m (behO m (ops.getD i []))) ops
  rw [ht, List.length_append]
  omega
theorem srch_ok {m : Mz} {begun : List Int} (hf : (lockL m).length ≤ 10) : ∀ (f : Nat) (ops : List (List Int)) (i : Nat), Srch m begun ops → Srch m begun (srch m f ops i)
  | 0, _, _, h => h
  | f + 1, ops, i, h => by
    show Srch m begun (if i < ops.length then srch m f (fullS m ops i) (i + 1) else ops)
    split
    · rename_i hi
      exact srch_ok hf f _ _ (h.full hi)
    · exact h
theorem srchL_ok {m : Mz} {begun : List Int} (hf : (lockL m).length ≤ 10) (h : isO m begun = true) : Srch m begun (srchL m begun) := srch_ok hf _ _ _ (Srch.start h)
theorem srchL_len {m : Mz} {begun : List Int} (hf : (lockL m).length ≤ 10) (h : isO m begun = true) : (srchL m begun).length ≤ 1024 := (srchL_ok hf h).len hf
-- what is told
noncomputable def winO (m : Mz) (o : Op) : Bool := (nearL m o).contains (m.size - 1)
noncomputable def winsB (m : Mz) (l : List Int) : Bool := winO m (behO m l)
noncomputable def stuckO (m : Mz) (o : Op) : Bool := !winO m o && (nextO m o).isEmpty
noncomputable def stuckB (m : Mz) (l : List Int) : Bool := stuckO m (behO m l)
/-- the first one of which p holds -/
def fstV (p : List Int → Bool) (L : List (List Int)) : List Int := (L.find? p).getD []
def fstB (p : List Int → Bool) (L : List (List Int)) : Bool := L.any p
theorem fst_yes {p : List Int → Bool} {L : List (List Int)} {k : Nat} (hk : k < L.length) (hb : ∀ j (h : j < L.length), j < k → p L[j] = false) (h : p L[k] = true) : fstV p L = L[k] ∧ fstB p L = true := by
  refine ⟨?_, List.any_eq_true.2 ⟨_, List.getElem_mem hk, h⟩⟩
  unfold fstV
  have : L.find? p = some L[k] := by
    rw [List.find?_eq_some_iff_getElem]
    exact ⟨h, k, hk, rfl, fun j hj => by rw [hb j (by omega) hj]; rfl⟩
  rw [this]; rfl
theorem fst_no {p : List Int → Bool} {L : List (List Int)} (hb : ∀ j (h : j < L.length), p L[j] = false) : fstV p L = [] ∧ fstB p L = false := by
  have hn : ∀ x ∈ L, ¬ p x = true := fun x hx => by
    obtain ⟨j, hj, rfl⟩ := List.mem_iff_getElem.1 hx
    rw [hb j hj]; decide
  refine ⟨?_, ?_⟩
  · unfold fstV
    rw [List.find?_eq_none.2 hn]; rfl
  · unfold fstB
    rw [Bool.eq_false_iff]
    intro h
    obtain ⟨x, hx, hp⟩ := List.any_eq_true.1 h
    exact hn x hx hp
theorem fstV_mem {p : List Int → Bool} {L : List (List Int)} : fstV p L = [] ∨ fstV p L ∈ L := by
  unfold fstV
  cases h : L.find? p with
  | none => exact .inl rfl
  | some x => exact .inr (List.mem_of_find?_eq_some h)
/-- whether all locks are opened -/
def allB (m : Mz) (l : List Int) : Bool := (lockL m).all fun k => l.contains k
theorem full_digB (n p : Nat) : digB (2 ^ n - 1) p = decide (p < n) := by rw [digB_testBit, Nat.testBit_two_pow_sub_one]
theorem all_code (m : Mz) (l : List Int) : codeN m l = 2 ^ (lockL m).length - 1 ↔ allB m l = true := by
  unfold allB codeN
  rw [List.all_eq_true]
  constructor
  · intro h k hk
    obtain ⟨p, hp, rfl⟩ := List.mem_iff_getElem.1 hk
    have := codeTo_digB (lockL m) l p (lockL m).length
    rw [h, full_digB, decide_eq_true hp, Bool.true_and, List.getD_eq_getElem?_getD, List.getElem?_eq_getElem hp] at this
    exact this.symm
  · intro h
    refine ext_digB fun p => ?_
    rw [codeTo_digB, full_digB]
    rcases Nat.lt_or_ge p (lockL m).length with hp | hp
    · rw [decide_eq_true hp, Bool.true_and, List.getD_eq_getElem?_getD, List.getElem?_eq_getElem hp]
      exact h _ (List.getElem_mem hp)
    · rw [decide_eq_false (by omega), Bool.false_and]
theorem all_beh {m : Mz} {l : List Int} (hl : ∀ k ∈ l, k ∈ lockL m) : allB m l = true ↔ ∀ k, behO m l k = decide (k < m.doors.length) := by
  unfold allB
  rw [List.all_eq_true]
  constructor
  · intro h k
    rw [behO_at]
    rcases Nat.lt_or_ge k m.doors.length with hk | hk
    · rw [decide_eq_true hk]
      cases e : lockB m k with
      | true =>
        rw [h _ (mem_fl.2 ⟨k, rfl, hk, e⟩), Bool.or_true]
      | false =>
        unfold o0
        unfold lockB at e
        rw [decide_eq_true hk, Bool.true_and]
        have : (need m k == 0) = true := by simpa using e
        rw [this, Bool.true_or]
    · rw [decide_eq_false (by omega)]
      have h1 : o0 m k = false := by unfold o0; rw [decide_eq_false (by omega), Bool.false_and]
      have h2 : l.contains (k : Int) = false := by
        rw [Bool.eq_false_iff]
        intro h
        obtain ⟨j, e, hj, _⟩ := mem_fl.1 (hl _ (List.contains_iff_mem.1 h))
        omega
      rw [h1, h2]; rfl
  · intro h k hk
    obtain ⟨j, rfl, hj, hb⟩ := mem_fl.1 hk
    have := h j
    rw [behO_at, decide_eq_true hj] at this
    have h0 : o0 m j = false := by
      unfold o0
      unfold lockB at hb
      rw [decide_eq_true hj, Bool.true_and]
      simpa using hb
    rwa [h0, Bool.false_or] at this
-- the laws' values
noncomputable def askB (m : Mz) (l : List Int) : Bool := goodB m && isO m l
def locksV (m : Mz) : List Int := if goodB m then lockL m else []
noncomputable def openV (m : Mz) (l : List Int) : Bool := askB m l
noncomputable def nearV (m : Mz) (l : List Int) : List Int := if askB m l then nearL m (behO m l) else []
noncomputable def leftV (m : Mz) (l : List Int) : List Int := if askB m l then leftL m (behO m l) else []
noncomputable def nextV (m : Mz) (l : List Int) : List Int := if askB m l then nextO m (behO m l) else []
noncomputable def winV (m : Mz) (l : List Int) : Bool := askB m l && winsB m l
noncomputable def fwB (m : Mz) : Bool := goodB m && fstB (winsB m) (srchL m [])
noncomputable def fwV (m : Mz) : List Int := if goodB m then fstV (winsB m) (srchL m []) else []
noncomputable def fsB (m : Mz) : Bool := goodB m && fstB (stuckB m) (srchL m [])
noncomputable def fsV (m : Mz) : List Int := if goodB m then fstV (stuckB m) (srchL m []) else []
noncomputable def safeV (m : Mz) : Bool := goodB m && !fsB m
noncomputable def csV (m : Mz) : Int := if goodB m then ((srchL m []).length : Int) else 0
noncomputable def hopeB (m : Mz) (l : List Int) : Bool := fstB (winsB m) (srchL m l)
noncomputable def hopB (m : Mz) (l : List Int) : Bool := askB m l && !winsB m l
noncomputable def hopV (m : Mz) (l : List Int) : List Int := if hopB m l then (nextO m (behO m l)).filter (fun k => hopeB m (l ++ [k])) else []
def needC (m : Mz) (n c : Nat) : Int := sm (fun k => bt (need m k) c) n
def needsV (m : Mz) : List Int := if goodB m then (List.range 6).map (fun c => needC m m.doors.length c) else []
noncomputable def allV (m : Mz) : Bool := goodB m && fstB (allB m) (srchL m [])
end M
end Go.Proofs.Ythgmkkkfhbjhoaa
namespace Go.Proofs.Ythgmkkkfhbjhoaa
open Go.RowKit
namespace M
def vecL (f : Nat → Int) : List Int := (List.range 6).map f
def updF (f : Nat → Int) (k : Nat) (u : Int) : Nat → Int := fun c => if c = k then u else f c
theorem vecL_len (f : Nat → Int) : (vecL f).length = 6 := by simp [vecL]
theorem vecL_at (f : Nat → Int) {k : Nat} (h : k < 6) : (encIs (vecL f))[k]? = some (.int .i64 (f k)) := by
  unfold encIs vecL
  rw [List.getElem?_map, List.getElem?_map, List.getElem?_range h]
  rfl
theorem vecL_ext {f g : Nat → Int} (h : ∀ c, c < 6 → f c = g c) : vecL f = vecL g := by
  unfold vecL
  exact List.map_congr_left fun c hc => h c (List.mem_range.1 hc)
theorem vecL_set (f : Nat → Int) {k : Nat} (hk : k < 6) (u : Int) : (encIs (vecL f)).set k (.int .i64 u) = encIs (vecL (updF f k u)) := by
  refine List.ext_getElem? fun i => ?_
  rw [List.getElem?_set]
  rcases Nat.lt_or_ge i 6 with hi | hi
  · rw [vecL_at f hi, vecL_at _ hi, encIs_len, vecL_len]
    unfold updF
    by_cases e : k = i
    · subst e; simp [hk]
    · rw [if_neg e, if_neg (fun e' => e e'.symm)]
  · have h1 : ∀ g : Nat → Int, (encIs (vecL g))[i]? = none := fun g => List.getElem?_eq_none (by rw [encIs_len, vecL_len]; exact hi)
    rw [h1, h1, if_neg (by omega)]
theorem vecL_zero : encIs (vecL fun _ => 0) = List.replicate 6 (.int .i64 0) := by rfl
/-- 1 at what a list holds -/
def onL (l : List Int) (c : Nat) : Int := if l.contains (c : Int) then 1 else 0
theorem onL_01 (l : List Int) (c : Nat) : 0 ≤ onL l c ∧ onL l c ≤ 1 := by unfold onL; split <;> omega
theorem onL_nil (c : Nat) : onL [] c = 0 := rfl
theorem onL_take {l : List Int} (hn : l.Nodup) {j p : Nat} (hj : j < l.length) (hp : l[j] = (p : Int)) (c : Nat) : onL (l.take (j + 1)) c = if c = p then onL (l.take j) c + 1 else onL (l.take j) c := by
  unfold onL
  rw [List.take_succ_eq_append_getElem hj, hp]
  have hno : (p : Int) ∉ l.take j := fun hm => by
    obtain ⟨i, hi, he⟩ := List.mem_iff_getElem.1 hm
    rw [List.getElem_take, ← hp] at he
    rw [List.length_take] at hi
    exact List.pairwise_iff_getElem.1 (List.nodup_iff_pairwise_ne.1 hn) i j (by omega) hj (by omega) he
  by_cases e : c = p
  · subst e
    rw [if_pos rfl, if_pos (List.contains_iff_mem.2 (by simp)), if_neg (fun h => hno (List.contains_iff_mem.1 h))]
    rfl
  · rw [if_neg e]
    have : (l.take j ++ [(p : Int)]).contains (c : Int) = (l.take j).contains (c : Int) := by
      rw [Bool.eq_iff_iff, List.contains_iff_mem, List.contains_iff_mem, List.mem_append, List.mem_singleton]
      constructor
      · rintro (h | h)
        · exact h
        · omega
      · exact .inl
    rw [this]
theorem digs_nodup (n k : Nat) : (digsTo n k).Nodup := asc_nodup (digsTo_asc n k)
theorem digs_six {n : Nat} (h : n < 64) {j : Nat} (hj : j < (digsTo n 12).length) : ∃ p : Nat, (digsTo n 12)[j] = (p : Int) ∧ p < 6 := by
  obtain ⟨p, hp, _, hd⟩ := mem_digsTo.1 (List.getElem_mem hj)
  refine ⟨p, hp, ?_⟩
  rcases Nat.lt_or_ge p 6 with h6 | h6
  · exact h6
  · rw [digB_lt (k := 6) (Nat.div_eq_of_lt h) h6] at hd; cases hd
theorem onL_digs {n c : Nat} (hc : c < 6) : onL (digsTo n 12) c = bt (n : Int) c := by
  unfold onL bt
  rw [Int.toNat_natCast]
  have : (digsTo n 12).contains (c : Int) = digB n c := by
    rw [Bool.eq_iff_iff, List.contains_iff_mem, mem_digsTo]
    constructor
    · rintro ⟨p, hp, _, hd⟩
      obtain rfl : c = p := by omega
      exact hd
    · intro hd; exact ⟨c, rfl, by omega, hd⟩
  rw [this]
/-- a vector with one more, or less, at each place of a list's beginning -/
def vecP (f : Nat → Int) (u : Int) (l : List Int) : Nat → Int := fun c => f c + u * onL l c
theorem vecP_zero (f : Nat → Int) (u : Int) (l : List Int) : vecL (vecP f u (l.take 0)) = vecL f := vecL_ext fun c _ => by
  unfold vecP
  rw [List.take_zero, onL_nil]
  omega
theorem vecP_step (f : Nat → Int) (u : Int) {l : List Int} (hn : l.Nodup) {j p : Nat} (hj : j < l.length) (hp : l[j] = (p : Int)) : vecL (updF (vecP f u (l.take j)) p (vecP f u (l.take j) p + u)) = vecL (vecP f u (l.take (j + 1))) := vecL_ext fun c _ => by
  unfold updF vecP
  rw [onL_take hn hj hp]
  by_cases e : c = p
  · subst e
    rw [if_pos rfl, if_pos rfl, Int.mul_add]
    omega
  · rw [if_neg e, if_neg e]
theorem vecP_end (f : Nat → Int) (u : Int) (n : Nat) : vecL (vecP f u (digsTo n 12)) = vecL fun c => f c + u * bt (n : Int) c := vecL_ext fun c hc => by
  unfold vecP
  rw [onL_digs hc]
/-- sums over a list -/
def smL (g : Nat → Int) : List Int → Int
  | [] => 0
  | x :: l => g x.toNat + smL g l
theorem smL_append (g : Nat → Int) : ∀ (l l' : List Int), smL g (l ++ l') = smL g l + smL g l'
  | [], _ => by simp [smL]
  | x :: l, l' => by
    show g x.toNat + smL g (l ++ l') = g x.toNat + smL g l + smL g l'
    rw [smL_append g l l']
    omega
theorem smL_take (g : Nat → Int) {l : List Int} {k : Nat} (h : k < l.length) : smL g (l.take (k + 1)) = smL g (l.take k) + g l[k].toNat := by
  rw [List.take_succ_eq_append_getElem h, smL_append]
  show smL g (l.take k) + (g l[k].toNat + 0) = _
  omega
theorem smL_bnd {g : Nat → Int} (hg : ∀ k, 0 ≤ g k ∧ g k ≤ 1) : ∀ l : List Int, 0 ≤ smL g l ∧ smL g l ≤ l.length
  | [] => ⟨Int.le_refl _, Int.le_refl _⟩
  | x :: l => by
    have h1 := smL_bnd hg l
    have h2 := hg x.toNat
    show 0 ≤ g x.toNat + smL g l ∧ g x.toNat + smL g l ≤ ((l.length + 1 : Nat) : Int)
    omega
theorem smL_fl (g : Nat → Int) (p : Nat → Bool) : ∀ n, smL g (fl p n) = sm (fun k => onI (p k) (g k)) n
  | 0 => rfl
  | n + 1 => by
    show _ = sm (fun k => onI (p k) (g k)) n + onI (p n) (g n)
    cases e : p n with
    | true =>
      rw [fl_yes e, smL_append, smL_fl g p n, onI_t]
      show _ + (g (Int.toNat n) + 0) = _
      rw [Int.toNat_natCast]
      omega
    | false =>
      rw [fl_no e, smL_fl g p n, onI_f]
      omega
def keyG (m : Mz) (c : Nat) : Nat → Int := fun x => bt (m.keys.getD x 0) c
theorem near_fl {m : Mz} (V : Valid m) (o : Op) : nearL m o = fl (fun x => (nearL m o).contains (x : Int)) 12 :=
  (nearL_asc m o).ext ordI (fl_asc _ _) fun y => by
    rw [mem_fl]
    constructor
    · intro hy
      have := nearL_rng V hy
      have := V.size12
      have e : ((y.toNat : Nat) : Int) = y := by omega
      exact ⟨y.toNat, e.symm, by omega, by rw [e]; exact List.contains_iff_mem.2 hy⟩
    · rintro ⟨k, rfl, _, hk⟩
      exact List.contains_iff_mem.1 hk
theorem key_sum {m : Mz} (V : Valid m) (o : Op) (c : Nat) : smL (keyG m c) (nearL m o) = keyC m o 12 c := by
  have h := smL_fl (keyG m c) (fun x => (nearL m o).contains (x : Int)) 12
  rw [← near_fl V o] at h
  exact h
theorem took_step (m : Mz) (o : Op) (k c : Nat) : tookC m o (k + 1) c = tookC m o k c + onI (o k) (bt (need m k) c) := rfl
/-- the vector after some near nodes -/
noncomputable def leftV1 (m : Mz) (o : Op) (k : Nat) : Nat → Int := fun c => smL (keyG m c) ((nearL m o).take k)
/-- the vector after all near nodes and some doors -/
noncomputable def leftV2 (m : Mz) (o : Op) (k : Nat) : Nat → Int := fun c => keyC m o 12 c - tookC m o k c
theorem leftV1_zero (m : Mz) (o : Op) : vecL (leftV1 m o 0) = vecL fun _ => 0 := vecL_ext fun _ _ => rfl
theorem leftV1_step {m : Mz} {o : Op} {k : Nat} (h : k < (nearL m o).length) {n : Nat} (hn : m.keys.getD (nearL m o)[k].toNat 0 = (n : Int)) : (vecL fun c => leftV1 m o k c + 1 * bt (n : Int) c) = vecL (leftV1 m o (k + 1)) := vecL_ext fun c _ => by
  unfold leftV1
  rw [smL_take _ h]
  show _ = smL (keyG m c) ((nearL m o).take k) + bt (m.keys.getD (nearL m o)[k].toNat 0) c
  rw [hn]
  omega
theorem leftV1_end {m : Mz} (V : Valid m) (o : Op) : vecL (leftV1 m o (nearL m o).length) = vecL (leftV2 m o 0) := vecL_ext fun c _ => by
  unfold leftV1 leftV2
  rw [List.take_of_length_le (Nat.le_refl _), key_sum V]
  show _ = keyC m o 12 c - 0
  omega
theorem leftV1_bnd (m : Mz) (o : Op) (k c : Nat) : 0 ≤ leftV1 m o k c ∧ leftV1 m o k c ≤ 12 := by
  have := smL_bnd (g := keyG m c) (fun _ => bt_01 _ _) ((nearL m o).take k)
  have h := nearL_len m o
  rw [List.length_take] at this
  unfold leftV1
  omega
theorem leftV2_no {m : Mz} {o : Op} {k : Nat} (h : o k = false) : vecL (leftV2 m o k) = vecL (leftV2 m o (k + 1)) := vecL_ext fun c _ => by
  unfold leftV2
  rw [took_step, h, onI_f]
  omega
theorem leftV2_yes {m : Mz} {o : Op} {k : Nat} (h : o k = true) {n : Nat} (hn : need m k = (n : Int)) : (vecL fun c => leftV2 m o k c + -1 * bt (n : Int) c) = vecL (leftV2 m o (k + 1)) := vecL_ext fun c _ => by
  unfold leftV2
  rw [took_step, h, onI_t, hn]
  omega
theorem leftV2_bnd (m : Mz) (o : Op) (k c : Nat) : -(k : Int) ≤ leftV2 m o k c ∧ leftV2 m o k c ≤ 12 := by
  have h1 := keyC_bnd m o 12 c
  have h2 := tookC_bnd m o k c
  unfold leftV2
  omega
theorem leftV2_end (m : Mz) (o : Op) : vecL (leftV2 m o m.doors.length) = leftL m o := rfl
theorem vecP_bnd {f : Nat → Int} {lo hi : Int} (h : ∀ c, lo ≤ f c ∧ f c ≤ hi) (l : List Int) (c : Nat) : (lo ≤ vecP f 1 l c ∧ vecP f 1 l c ≤ hi + 1) ∧ (lo - 1 ≤ vecP f (-1) l c ∧ vecP f (-1) l c ≤ hi) := by
  have h1 := h c
  have h2 := onL_01 l c
  unfold vecP
  omega
end M
end Go.Proofs.Ythgmkkkfhbjhoaa
namespace Go.Proofs.Ythgmkkkfhbjhoaa
open Go.RowKit
namespace M
noncomputable def nextTo (m : Mz) (o : Op) (k : Nat) : List Int := fl (nextOB m o) k
theorem nextTo_yes {m : Mz} {o : Op} {k : Nat} (h : nextOB m o k = true) : nextTo m o (k + 1) = nextTo m o k ++ [(k : Int)] := fl_yes h
theorem nextTo_no {m : Mz} {o : Op} {k : Nat} (h : nextOB m o k = false) : nextTo m o (k + 1) = nextTo m o k := fl_no h
theorem nextTo_len (m : Mz) (o : Op) (k : Nat) : (nextTo m o k).length ≤ k := fl_len _ _
end M
end Go.Proofs.Ythgmkkkfhbjhoaa
namespace Go.Proofs.Ythgmkkkfhbjhoaa
open Go.RowKit
namespace M
def needG (m : Mz) (c : Nat) : Nat → Int := fun k => bt (need m k) c
theorem took_walk {m : Mz} (c : Nat) : ∀ (n : Nat) (l : List Int), l.length = n → isO m l = true → smL (needG m c) l = tookC m (behO m l) m.doors.length c := by
  intro n
  induction n with
  | zero =>
    intro l hl _
    obtain rfl := List.eq_nil_of_length_eq_zero hl
    exact (tookC_zero m c _).symm
  | succ n ih =>
    intro l hl h
    obtain ⟨l', k, rfl⟩ : ∃ l' k, l = l' ++ [k] := ⟨l.dropLast, l.getLast (by rintro rfl; simp at hl), (List.dropLast_concat_getLast _).symm⟩
    rw [List.length_append, List.length_singleton] at hl
    rw [isO_snoc, Bool.and_eq_true, List.contains_iff_mem] at h
    obtain ⟨j, rfl, hj, hn⟩ := mem_fl.1 h.2
    unfold nextOB at hn
    rw [Bool.and_eq_true] at hn
    have ho' : behO m l' j = false := by simpa using hn.1
    rw [smL_append, ih l' (by omega) h.1, behO_snoc, tookC_and hj ho']
    show _ + (bt (need m (Int.toNat j)) c + 0) = _
    rw [Int.toNat_natCast]
    omega
theorem left_walk {m : Mz} (V : Valid m) {l : List Int} (h : isO m l = true) (c : Nat) : leftC m (behO m l) c = smL (keyG m c) (nearL m (behO m l)) - smL (needG m c) l := by
  unfold leftC
  rw [key_sum V, took_walk c _ l rfl h]
/-- the vector while a colour is counted -/
def atC (f : Nat → Int) (c : Nat) (u : Int) : Nat → Int := fun c' => if c' < c then f c' else if c' = c then u else 0
theorem atC_zero (f : Nat → Int) : vecL (atC f 0 0) = vecL fun _ => 0 := vecL_ext fun c _ => by
  unfold atC
  rw [if_neg (by omega)]
  split <;> rfl
theorem atC_set (f : Nat → Int) {c : Nat} (hc : c < 6) (u u' : Int) : (encIs (vecL (atC f c u))).set c (.int .i64 u') = encIs (vecL (atC f c u')) := by
  rw [vecL_set _ hc]
  congr 1
  refine vecL_ext fun c' _ => ?_
  unfold updF atC
  by_cases e : c' = c
  · subst e; simp
  · rw [if_neg e, if_neg e, if_neg e]
theorem atC_at (f : Nat → Int) {c : Nat} (hc : c < 6) (u : Int) : (encIs (vecL (atC f c u)))[c]? = some (.int .i64 u) := by
  rw [vecL_at _ hc]
  unfold atC
  rw [if_neg (by omega), if_pos rfl]
theorem atC_next (f : Nat → Int) (c : Nat) : vecL (atC f c (f c)) = vecL (atC f (c + 1) 0) := vecL_ext fun c' _ => by
  unfold atC
  rcases Nat.lt_trichotomy c' c with h | h | h
  · rw [if_pos h, if_pos (by omega)]
  · subst h; rw [if_neg (by omega), if_pos rfl, if_pos (by omega)]
  · rw [if_neg (by omega), if_neg (by omega), if_neg (by omega)]
    split <;> rfl
theorem atC_end (f : Nat → Int) : vecL (atC f 6 0) = vecL f := vecL_ext fun c hc => by unfold atC; rw [if_pos hc]
theorem bt_bits {n c : Nat} (h : n < 64) : bits .and .i64 ((n : Int) / 2 ^ c) 1 = bt (n : Int) c := by
  rw [shr_nat, and1 _ (Nat.lt_of_le_of_lt (Nat.div_le_self _ _) (by omega))]
  unfold bt digB
  rw [Int.toNat_natCast]
  have : n / 2 ^ c % 2 = 0 ∨ n / 2 ^ c % 2 = 1 := by omega
  rcases this with h | h <;> rw [h] <;> rfl
end M
end Go.Proofs.Ythgmkkkfhbjhoaa
