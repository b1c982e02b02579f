/-
  MATHEMATICS of spent keys, own to these proofs: which nodes are near when some doors are open, what is left, what can be opened next, openings. No condition.
-/
import Derived.Test.YthgmkkkfhbjhoaaGathM
namespace Go.Proofs.Ythgmkkkfhbjhoaa
open Go.RowKit
namespace M
/-- which doors are open, by their numbers -/
abbrev Op := Nat → Bool
def need (m : Mz) (k : Nat) : Int := (m.doors.getD k default).2.2
def opZ (d : Dr) : Bool := d.2.2 == 0
def oDoor (m : Mz) (o : Op) (k : Nat) : Dr := ((m.doors.getD k default).1, (m.doors.getD k default).2.1, if o k then 0 else 1)
def oDoors (m : Mz) (o : Op) : List Dr := (List.range m.doors.length).map (oDoor m o)
theorem doorD {m : Mz} {k : Nat} (h : k < m.doors.length) : m.doors.getD k default = m.doors[k] := by rw [List.getD_eq_getElem?_getD, List.getElem?_eq_getElem h]; rfl
theorem need_at {m : Mz} {k : Nat} (h : k < m.doors.length) : need m k = m.doors[k].2.2 := by unfold need; rw [doorD h]
theorem mem_oDoors {m : Mz} {o : Op} {d : Dr} : d ∈ oDoors m o ↔ ∃ k, k < m.doors.length ∧ d = oDoor m o k := by
  unfold oDoors
  rw [List.mem_map]
  constructor
  · rintro ⟨k, hk, rfl⟩; exact ⟨k, List.mem_range.1 hk, rfl⟩
  · rintro ⟨k, hk, rfl⟩; exact ⟨k, List.mem_range.2 hk, rfl⟩
theorem opZ_oDoor (m : Mz) (o : Op) (k : Nat) : opZ (oDoor m o k) = o k := by
  unfold opZ oDoor
  cases o k <;> rfl
theorem oDoor_ends {m : Mz} {o : Op} {k : Nat} (h : k < m.doors.length) : endsN (oDoor m o k) = endsN m.doors[k] := by unfold endsN oDoor; rw [doorD h]
theorem oDoor_rng {m : Mz} (V : Valid m) (o : Op) {k : Nat} (h : k < m.doors.length) : 0 ≤ (oDoor m o k).1 ∧ (oDoor m o k).1 < m.size ∧ 0 ≤ (oDoor m o k).2.1 ∧ (oDoor m o k).2.1 < m.size := by
  unfold oDoor
  rw [doorD h]
  obtain ⟨a, b, c, d, _⟩ := V.door k h
  exact ⟨a, b, c, d⟩
theorem oDoors_rng {m : Mz} (V : Valid m) (o : Op) : ∀ d ∈ oDoors m o, 0 ≤ d.1 ∧ d.1 < 12 ∧ 0 ≤ d.2.1 ∧ d.2.1 < 12 := by
  intro d hd
  obtain ⟨k, hk, rfl⟩ := mem_oDoors.1 hd
  have := oDoor_rng V o hk
  have := V.size12
  omega
theorem near_rng {m : Mz} (V : Valid m) {o : Op} {y : Int} (h : Rch (oDoors m o) opZ 0 y) : 0 ≤ y ∧ y < m.size := by
  have h1 := V.size1
  induction h with
  | refl => omega
  | fwd hd _ _ _ => obtain ⟨k, hk, rfl⟩ := mem_oDoors.1 hd; exact (oDoor_rng V o hk).2.2
  | bwd hd _ _ _ => obtain ⟨k, hk, rfl⟩ := mem_oDoors.1 hd; have := oDoor_rng V o hk; exact ⟨this.1, this.2.1⟩
/-- the nodes that are near -/
noncomputable def nearL (m : Mz) (o : Op) : List Int := rchL (oDoors m o) opZ 0
noncomputable def nearN (m : Mz) (o : Op) : Nat := mk (nearL m o)
theorem mem_nearL {m : Mz} (V : Valid m) (o : Op) (y : Int) : y ∈ nearL m o ↔ Rch (oDoors m o) opZ 0 y :=
  mem_rchL (fun z hz => by have := near_rng V hz; have := V.size12; omega) y
theorem nearL_rng {m : Mz} (V : Valid m) {o : Op} {y : Int} (h : y ∈ nearL m o) : 0 ≤ y ∧ y < m.size := near_rng V ((mem_nearL V o y).1 h)
theorem nearL_len (m : Mz) (o : Op) : (nearL m o).length ≤ 12 := rchL_len _ _ _
theorem nearL_asc (m : Mz) (o : Op) : Asc ltI (nearL m o) := rchL_asc _ _ _
theorem nearN_lt {m : Mz} (V : Valid m) (o : Op) : nearN m o < 4096 := mk_lt fun x hx => by have := nearL_rng V hx; have := V.size12; omega
theorem digB_near {m : Mz} (V : Valid m) (o : Op) (p : Nat) : digB (nearN m o) p = true ↔ (p : Int) ∈ nearL m o := digB_mk (fun _ hx => (nearL_rng V hx).1) p
theorem nearN_node {m : Mz} (V : Valid m) (o : Op) (p : Nat) (h : digB (nearN m o) p = true) : (p : Int) < m.size := (nearL_rng V ((digB_near V o p).1 h)).2
theorem near_digs {m : Mz} (V : Valid m) (o : Op) : digsTo (nearN m o) 12 = nearL m o := by
  refine (digsTo_asc _ 12).ext ordI (nearL_asc _ _) fun y => ?_
  rw [mem_digsTo]
  constructor
  · rintro ⟨p, rfl, _, hp⟩
    exact (digB_near V o p).1 hp
  · intro hy
    have hn := nearL_rng V hy
    have := V.size12
    have ey : ((y.toNat : Nat) : Int) = y := by omega
    exact ⟨y.toNat, by omega, by omega, (digB_near V o y.toNat).2 (by rw [ey]; exact hy)⟩
theorem passN_fix {op : Dr → Bool} {n : Nat} : ∀ {ds : List Dr}, (∀ d ∈ ds, stepN op n d = n) → passN op n ds = n
  | [], _ => rfl
  | d :: ds, h => by
    show passN op (stepN op n d) ds = n
    rw [h d (List.mem_cons_self ..)]
    exact passN_fix fun e he => h e (List.mem_cons_of_mem _ he)
/-- the program's number, where no door leads on -/
theorem near_stop {m : Mz} (V : Valid m) {o : Op} {n : Nat} (h : MaskOk (oDoors m o) opZ (0 : Nat) n) (hs : ∀ k, k < m.doors.length → stepN opZ n (oDoor m o k) = n) : n = nearN m o := by
  have hp : passN opZ n (oDoors m o) = n := passN_fix fun d hd => by
    obtain ⟨k, hk, rfl⟩ := mem_oDoors.1 hd
    exact hs k hk
  have he := mask_end (x := 0) h hp (oDoors_rng V o)
  have : digsTo n 12 = nearL m o := (rchL_eq (fun y hy => by have := near_rng V hy; have := V.size12; omega) (digsTo_asc n 12) he).symm
  unfold nearN
  rw [← this, mk_digs h.2.1]
theorem near_start (m : Mz) (o : Op) : MaskOk (oDoors m o) opZ (0 : Nat) 1 := MaskOk.start (x := 0) (by decide)
theorem near_step {m : Mz} (V : Valid m) {o : Op} {n : Nat} (h : MaskOk (oDoors m o) opZ (0 : Nat) n) {k : Nat} (hk : k < m.doors.length) (ho : o k = true) (hn : n &&& endsN m.doors[k] ≠ 0) : MaskOk (oDoors m o) opZ (0 : Nat) (n ||| endsN m.doors[k]) := by
  have hd := (mem_oDoors (m := m) (o := o)).2 ⟨k, hk, rfl⟩
  obtain ⟨a, b, c, d⟩ := oDoors_rng V o _ hd
  have hs := h.step hd a b c d
  have e : stepN opZ n (oDoor m o k) = n ||| endsN m.doors[k] := by
    unfold stepN
    rw [oDoor_ends hk, opZ_oDoor, if_pos ⟨ho, hn⟩]
  rwa [e] at hs
theorem near_still {m : Mz} {o : Op} {n k : Nat} (hk : k < m.doors.length) (h : o k = false ∨ n &&& endsN m.doors[k] = 0 ∨ n ||| endsN m.doors[k] = n) : stepN opZ n (oDoor m o k) = n := by
  unfold stepN
  rw [oDoor_ends hk, opZ_oDoor]
  rcases h with h | h | h
  · rw [h, if_neg (by simp)]
  · rw [h, if_neg (by simp)]
  · rw [h]; split <;> rfl
/-- the model's list, where no door leads on -/
theorem near_list {m : Mz} (V : Valid m) {o : Op} {out : List Int} (ha : Asc ltI out) (hr : ∀ z ∈ out, Rch (oDoors m o) opZ 0 z) (h0 : (0 : Int) ∈ out) (hs : ∀ k (h : k < m.doors.length), o k = true → (m.doors[k].1 ∈ out ↔ m.doors[k].2.1 ∈ out)) : out = nearL m o := by
  refine (rchL_eq (fun y hy => by have := near_rng V hy; have := V.size12; omega) ha fun y => ⟨hr y, ?_⟩).symm
  refine Rch.closed (S := fun y => y ∈ out) h0 fun d hd ho => ?_
  obtain ⟨k, hk, rfl⟩ := mem_oDoors.1 hd
  rw [opZ_oDoor] at ho
  unfold oDoor
  rw [doorD hk]
  exact hs k hk ho
theorem near_both {m : Mz} {o : Op} {k : Nat} (hk : k < m.doors.length) (ho : o k = true) (h : Rch (oDoors m o) opZ 0 m.doors[k].1 ∨ Rch (oDoors m o) opZ 0 m.doors[k].2.1) : Rch (oDoors m o) opZ 0 m.doors[k].1 ∧ Rch (oDoors m o) opZ 0 m.doors[k].2.1 := by
  have hd := (mem_oDoors (m := m) (o := o)).2 ⟨k, hk, rfl⟩
  have hz : opZ (oDoor m o k) = true := by rw [opZ_oDoor]; exact ho
  have e1 : (oDoor m o k).1 = m.doors[k].1 := by unfold oDoor; rw [doorD hk]
  have e2 : (oDoor m o k).2.1 = m.doors[k].2.1 := by unfold oDoor; rw [doorD hk]
  rw [← e1, ← e2] at h ⊢
  rcases h with h | h
  · exact ⟨h, .fwd hd hz h⟩
  · exact ⟨.bwd hd hz h, h⟩
theorem nearL_mono {m : Mz} (V : Valid m) {o o' : Op} (h : ∀ k, k < m.doors.length → o k = true → o' k = true) {y : Int} (hy : y ∈ nearL m o) : y ∈ nearL m o' := by
  rw [mem_nearL V] at *
  induction hy with
  | refl => exact .refl
  | fwd hd hz _ ih =>
    obtain ⟨k, hk, rfl⟩ := mem_oDoors.1 hd
    rw [opZ_oDoor] at hz
    exact Rch.fwd (d := oDoor m o' k) (mem_oDoors.2 ⟨k, hk, rfl⟩) (by rw [opZ_oDoor]; exact h k hk hz) ih
  | bwd hd hz _ ih =>
    obtain ⟨k, hk, rfl⟩ := mem_oDoors.1 hd
    rw [opZ_oDoor] at hz
    exact Rch.bwd (d := oDoor m o' k) (mem_oDoors.2 ⟨k, hk, rfl⟩) (by rw [opZ_oDoor]; exact h k hk hz) ih
theorem nearL_zero {m : Mz} (V : Valid m) (o : Op) : (0 : Int) ∈ nearL m o := (mem_nearL V o 0).2 .refl
-- only the doors that there are count
theorem nearL_ext {m : Mz} (V : Valid m) {o o' : Op} (h : ∀ k, k < m.doors.length → o k = o' k) : nearL m o = nearL m o' :=
  (nearL_asc m o).ext ordI (nearL_asc m o') fun y => ⟨nearL_mono V fun k hk e => by rw [← h k hk]; exact e, nearL_mono V fun k hk e => by rw [h k hk]; exact e⟩

-- sums
def sm (f : Nat → Int) : Nat → Int
  | 0 => 0
  | n + 1 => sm f n + f n
theorem sm_ext {f g : Nat → Int} : ∀ {n : Nat}, (∀ k, k < n → f k = g k) → sm f n = sm g n
  | 0, _ => rfl
  | n + 1, h => by
    show sm f n + f n = sm g n + g n
    rw [sm_ext fun k hk => h k (by omega), h n (by omega)]
theorem sm_le {f g : Nat → Int} : ∀ {n : Nat}, (∀ k, k < n → f k ≤ g k) → sm f n ≤ sm g n
  | 0, _ => Int.le_refl _
  | n + 1, h => by
    have h1 := sm_le (f := f) (g := g) (n := n) fun k hk => h k (by omega)
    have h2 := h n (by omega)
    show sm f n + f n ≤ sm g n + g n
    omega
theorem sm_bnd {f : Nat → Int} : ∀ {n : Nat}, (∀ k, k < n → 0 ≤ f k ∧ f k ≤ 1) → 0 ≤ sm f n ∧ sm f n ≤ n
  | 0, _ => ⟨Int.le_refl _, Int.le_refl _⟩
  | n + 1, h => by
    have h1 := sm_bnd (f := f) (n := n) fun k hk => h k (by omega)
    have h2 := h n (by omega)
    show 0 ≤ sm f n + f n ∧ sm f n + f n ≤ ((n + 1 : Nat) : Int)
    omega
theorem sm_one {f g : Nat → Int} {i : Nat} {u : Int} : ∀ {n : Nat}, (∀ k, k < n → k ≠ i → f k = g k) → (f i = g i + u) → i < n → sm f n = sm g n + u
  | 0, _, _, h => by omega
  | n + 1, h, hi, hn => by
    show sm f n + f n = sm g n + g n + u
    rcases Nat.lt_or_ge i n with hlt | hge
    · rw [sm_one (fun k hk => h k (by omega)) hi hlt, h n (by omega) (by omega)]
      omega
    · obtain rfl : i = n := by omega
      rw [hi, sm_ext fun k hk => h k (by omega) (by omega)]
      omega
/-- the digit of a set at a colour, as a number -/
def bt (s : Int) (c : Nat) : Int := if digB s.toNat c then 1 else 0
theorem bt_01 (s : Int) (c : Nat) : 0 ≤ bt s c ∧ bt s c ≤ 1 := by unfold bt; split <;> omega
def onI (b : Bool) (x : Int) : Int := if b then x else 0
theorem onI_t (x : Int) : onI true x = x := rfl
theorem onI_f (x : Int) : onI false x = 0 := rfl
theorem onI_01 (b : Bool) {x : Int} (h : 0 ≤ x ∧ x ≤ 1) : 0 ≤ onI b x ∧ onI b x ≤ 1 := by cases b <;> simp [onI] <;> omega
/-- keys of a colour at the first nodes, of those that are near -/
noncomputable def keyC (m : Mz) (o : Op) (n c : Nat) : Int := sm (fun x => onI ((nearL m o).contains (x : Int)) (bt (m.keys.getD x 0) c)) n
/-- keys of a colour that the first doors took, of those that are open -/
def tookC (m : Mz) (o : Op) (n c : Nat) : Int := sm (fun k => onI (o k) (bt (need m k) c)) n
noncomputable def leftC (m : Mz) (o : Op) (c : Nat) : Int := keyC m o 12 c - tookC m o m.doors.length c
noncomputable def leftL (m : Mz) (o : Op) : List Int := (List.range 6).map fun c => leftC m o c
theorem keyC_bnd (m : Mz) (o : Op) (n c : Nat) : 0 ≤ keyC m o n c ∧ keyC m o n c ≤ n := sm_bnd fun _ _ => onI_01 _ (bt_01 _ _)
theorem tookC_bnd (m : Mz) (o : Op) (n c : Nat) : 0 ≤ tookC m o n c ∧ tookC m o n c ≤ n := sm_bnd fun _ _ => onI_01 _ (bt_01 _ _)
theorem keyC_mono {m : Mz} (V : Valid m) {o o' : Op} (h : ∀ k, k < m.doors.length → o k = true → o' k = true) (n c : Nat) : keyC m o n c ≤ keyC m o' n c := by
  refine sm_le fun x _ => ?_
  cases e : (nearL m o).contains (x : Int) with
  | false => rw [onI_f]; exact (onI_01 _ (bt_01 _ _)).1
  | true =>
    have : (nearL m o').contains (x : Int) = true := List.contains_iff_mem.2 (nearL_mono V h (List.contains_iff_mem.1 e))
    rw [this]
    exact Int.le_refl _
theorem leftC_ext {m : Mz} (V : Valid m) {o o' : Op} (h : ∀ k, k < m.doors.length → o k = o' k) (c : Nat) : leftC m o c = leftC m o' c := by
  unfold leftC keyC tookC
  rw [nearL_ext V h, sm_ext (f := fun k => onI (o k) (bt (need m k) c)) (g := fun k => onI (o' k) (bt (need m k) c)) fun k hk => by show onI (o k) _ = onI (o' k) _; rw [h k hk]]
-- what can be opened next
noncomputable def nearD (m : Mz) (o : Op) (k : Nat) : Bool := (nearL m o).contains (m.doors.getD k default).1 || (nearL m o).contains (m.doors.getD k default).2.1
noncomputable def payB (m : Mz) (o : Op) (k : Nat) : Bool := (List.range 6).all fun c => !digB (need m k).toNat c || decide (0 < leftC m o c)
noncomputable def nextOB (m : Mz) (o : Op) (k : Nat) : Bool := !o k && (nearD m o k && payB m o k)
/-- the numbers below n of which p holds -/
def fl (p : Nat → Bool) (n : Nat) : List Int := ((List.range n).filter p).map fun k : Nat => (k : Int)
theorem fl_yes {p : Nat → Bool} {n : Nat} (h : p n = true) : fl p (n + 1) = fl p n ++ [(n : Int)] := by
  unfold fl; rw [List.range_succ, List.filter_append, List.filter_cons_of_pos h]; simp
theorem fl_no {p : Nat → Bool} {n : Nat} (h : p n = false) : fl p (n + 1) = fl p n := by
  unfold fl; rw [List.range_succ, List.filter_append, List.filter_cons_of_neg (by rw [h]; decide)]; simp
theorem fl_len (p : Nat → Bool) (n : Nat) : (fl p n).length ≤ n := by
  unfold fl
  rw [List.length_map]
  have := List.length_filter_le p (List.range n)
  simpa using this
theorem mem_fl {p : Nat → Bool} {n : Nat} {x : Int} : x ∈ fl p n ↔ ∃ k : Nat, x = k ∧ k < n ∧ p k = true := by
  unfold fl
  rw [List.mem_map]
  constructor
  · rintro ⟨k, hk, rfl⟩
    rw [List.mem_filter, List.mem_range] at hk
    exact ⟨k, rfl, hk.1, hk.2⟩
  · rintro ⟨k, rfl, h1, h2⟩
    exact ⟨k, by rw [List.mem_filter, List.mem_range]; exact ⟨h1, h2⟩, rfl⟩
theorem fl_ext {p q : Nat → Bool} : ∀ {n : Nat}, (∀ k, k < n → p k = q k) → fl p n = fl q n
  | 0, _ => rfl
  | n + 1, h => by
    have ih := fl_ext (p := p) (q := q) (n := n) fun k hk => h k (by omega)
    have hn := h n (by omega)
    cases e : p n with
    | true => rw [fl_yes e, fl_yes (by rw [← hn]; exact e), ih]
    | false => rw [fl_no e, fl_no (by rw [← hn]; exact e), ih]
theorem fl_asc (p : Nat → Bool) (n : Nat) : Asc ltI (fl p n) := by
  unfold fl Asc
  rw [List.pairwise_map]
  refine (List.Pairwise.filter _ List.pairwise_lt_range).imp ?_
  intro a b hab
  unfold ltI
  rw [decide_eq_true_iff]
  omega
theorem asc_nodup {l : List Int} (h : Asc ltI l) : l.Nodup := h.imp fun {a b} hab => by
  rintro rfl
  rw [ordI.irrefl] at hab
  cases hab
noncomputable def nextO (m : Mz) (o : Op) : List Int := fl (nextOB m o) m.doors.length
theorem nextO_len (m : Mz) (o : Op) : (nextO m o).length ≤ m.doors.length := fl_len _ _
-- openings
def o0 (m : Mz) : Op := fun k => decide (k < m.doors.length) && (need m k == 0)
def andO (o : Op) (k : Int) : Op := fun j => o j || ((j : Int) == k)
def behO (m : Mz) (l : List Int) : Op := l.foldl andO (o0 m)
theorem behO_snoc (m : Mz) (l : List Int) (k : Int) : behO m (l ++ [k]) = andO (behO m l) k := by unfold behO; rw [List.foldl_append]; rfl
theorem foldO_at : ∀ (l : List Int) (o : Op) (j : Nat), l.foldl andO o j = (o j || l.contains (j : Int))
  | [], o, j => by simp
  | k :: l, o, j => by
    rw [List.foldl_cons, foldO_at l (andO o k) j, List.contains_cons]
    unfold andO
    rw [Bool.or_assoc]
theorem behO_at (m : Mz) (l : List Int) (j : Nat) : behO m l j = (o0 m j || l.contains (j : Int)) := foldO_at l _ j
noncomputable def opnB (m : Mz) : Op → List Int → Bool
  | _, [] => true
  | o, k :: l => (nextO m o).contains k && opnB m (andO o k) l
theorem opnB_snoc (m : Mz) : ∀ (l : List Int) (o : Op) (k : Int), opnB m o (l ++ [k]) = (opnB m o l && (nextO m (l.foldl andO o)).contains k)
  | [], o, k => by simp [opnB]
  | x :: l, o, k => by
    show ((nextO m o).contains x && opnB m (andO o x) (l ++ [k])) = _
    rw [opnB_snoc m l, ← Bool.and_assoc]
    rfl
/-- whether a list is an opening -/
noncomputable def isO (m : Mz) (l : List Int) : Bool := opnB m (o0 m) l
theorem isO_snoc (m : Mz) (l : List Int) (k : Int) : isO m (l ++ [k]) = (isO m l && (nextO m (behO m l)).contains k) := opnB_snoc m l _ k
theorem isO_take {m : Mz} {l : List Int} {k : Nat} (h : k < l.length) : isO m (l.take (k + 1)) = (isO m (l.take k) && (nextO m (behO m (l.take k))).contains l[k]) := by
  rw [List.take_succ_eq_append_getElem h, isO_snoc]
theorem isO_pre {m : Mz} {l : List Int} : ∀ (l' : List Int), isO m (l ++ l') = true → isO m l = true := by
  intro l'
  induction l' generalizing l with
  | nil => intro h; simpa using h
  | cons x l' ih =>
    intro h
    have := ih (l := l ++ [x]) (by simpa using h)
    rw [isO_snoc, Bool.and_eq_true] at this
    exact this.1
def lockB (m : Mz) (k : Nat) : Bool := need m k != 0
def lockL (m : Mz) : List Int := fl (lockB m) m.doors.length
def goodB (m : Mz) : Bool := mazeB m && decide ((lockL m).length ≤ 10)
theorem good_maze {m : Mz} (h : goodB m = true) : mazeB m = true := by unfold goodB at h; rw [Bool.and_eq_true] at h; exact h.1
theorem good_few {m : Mz} (h : goodB m = true) : (lockL m).length ≤ 10 := by unfold goodB at h; rw [Bool.and_eq_true, decide_eq_true_iff] at h; exact h.2
structure Opn (m : Mz) (l : List Int) : Prop where
  nodup : l.Nodup
  lock : ∀ k ∈ l, k ∈ lockL m
  pos : ∀ c, 0 ≤ leftC m (behO m l) c
theorem Opn.rng {m : Mz} {l : List Int} (h : Opn m l) {k : Int} (hk : k ∈ l) : 0 ≤ k ∧ k < m.doors.length ∧ need m k.toNat ≠ 0 := by
  obtain ⟨j, rfl, hj, hl⟩ := mem_fl.1 (h.lock k hk)
  unfold lockB at hl
  refine ⟨by omega, by omega, ?_⟩
  simpa using hl
theorem next_new {m : Mz} {l : List Int} {k : Int} (h : k ∈ nextO m (behO m l)) : k ∈ lockL m ∧ k ∉ l := by
  obtain ⟨j, rfl, hj, hn⟩ := mem_fl.1 h
  unfold nextOB at hn
  rw [Bool.and_eq_true, behO_at, Bool.not_or, Bool.and_eq_true] at hn
  obtain ⟨⟨h1, h2⟩, _⟩ := hn
  refine ⟨mem_fl.2 ⟨j, rfl, hj, ?_⟩, fun hm => ?_⟩
  · unfold o0 at h1
    rw [decide_eq_true hj, Bool.true_and] at h1
    exact h1
  · rw [List.contains_iff_mem.2 hm] at h2
    cases h2
theorem tookC_zero (m : Mz) (c : Nat) (n : Nat) : tookC m (o0 m) n c = 0 := by
  unfold tookC
  induction n with
  | zero => rfl
  | succ n ih =>
    show sm _ n + onI (o0 m n) (bt (need m n) c) = 0
    rw [ih]
    cases e : o0 m n with
    | false => rfl
    | true =>
      unfold o0 at e
      rw [Bool.and_eq_true, beq_iff_eq] at e
      rw [e.2, onI_t]
      unfold bt digB
      simp
theorem tookC_and {m : Mz} {o : Op} {k : Nat} (hk : k < m.doors.length) (ho : o k = false) (c : Nat) : tookC m (andO o k) m.doors.length c = tookC m o m.doors.length c + bt (need m k) c := by
  unfold tookC
  refine sm_one (i := k) (fun j hj hne => ?_) ?_ hk
  · show onI (andO o k j) _ = onI (o j) _
    unfold andO
    have : (((j : Nat) : Int) == (k : Int)) = false := by
      rw [beq_eq_false_iff_ne]; omega
    rw [this, Bool.or_false]
  · show onI (andO o k k) _ = onI (o k) _ + _
    unfold andO
    rw [ho, beq_self_eq_true, Bool.false_or, onI_t, onI_f]
    omega
theorem isO_opn {m : Mz} (V : Valid m) : ∀ (n : Nat) (l : List Int), l.length = n → isO m l = true → Opn m l := by
  intro n
  induction n with
  | zero =>
    intro l hl _
    obtain rfl := List.eq_nil_of_length_eq_zero hl
    refine ⟨by simp, by simp, fun c => ?_⟩
    show 0 ≤ leftC m (o0 m) c
    unfold leftC
    rw [tookC_zero]
    have := keyC_bnd m (o0 m) 12 c
    omega
  | succ n ih =>
    intro l hl h
    obtain ⟨l', k, rfl⟩ : ∃ l' k, l = l' ++ [k] := by
      refine ⟨l.dropLast, l.getLast (by rintro rfl; simp at hl), (List.dropLast_concat_getLast _).symm⟩
    rw [List.length_append, List.length_singleton] at hl
    rw [isO_snoc, Bool.and_eq_true, List.contains_iff_mem] at h
    have IH := ih l' (by omega) h.1
    obtain ⟨hk1, hk2⟩ := next_new h.2
    refine ⟨?_, ?_, fun c => ?_⟩
    · rw [List.nodup_append]
      exact ⟨IH.nodup, by simp, fun a ha b hb e => by rw [List.mem_singleton] at hb; subst hb; exact hk2 (e ▸ ha)⟩
    · intro z hz
      rw [List.mem_append, List.mem_singleton] at hz
      rcases hz with hz | rfl
      · exact IH.lock z hz
      · exact hk1
    · rw [behO_snoc]
      obtain ⟨j, rfl, hj, hn⟩ := mem_fl.1 h.2
      unfold nextOB at hn
      rw [Bool.and_eq_true, Bool.and_eq_true] at hn
      obtain ⟨ho, _, hp⟩ := hn
      have ho' : behO m l' j = false := by simpa using ho
      unfold leftC
      rw [tookC_and hj ho']
      have h1 := keyC_mono V (o := behO m l') (o' := andO (behO m l') (j : Int)) (fun k _ e => by unfold andO; rw [e, Bool.true_or]) 12 c
      have h2 := IH.pos c
      unfold leftC at h2
      unfold payB at hp
      rw [List.all_eq_true] at hp
      unfold bt
      cases e : digB (need m j).toNat c with
      | false => simp; omega
      | true =>
        rcases Nat.lt_or_ge c 6 with hc | hc
        · have := hp c (List.mem_range.2 hc)
          rw [e] at this
          simp at this
          unfold leftC at this
          simp
          omega
        · exfalso
          have hd : 0 ≤ need m j ∧ need m j < 64 := by
            rw [need_at hj]
            obtain ⟨_, _, _, _, _, a, b⟩ := V.door j hj
            exact ⟨a, b⟩
          rw [digB_lt (k := 6) (Nat.div_eq_of_lt (by omega)) hc] at e
          cases e
theorem nodup_sub : ∀ (l L : List Int), l.Nodup → (∀ x ∈ l, x ∈ L) → l.length ≤ L.length
  | [], _, _, _ => Nat.zero_le _
  | a :: l, L, hn, hs => by
    obtain ⟨h1, h2⟩ := List.nodup_cons.1 hn
    have ha := hs a (List.mem_cons_self ..)
    have ih := nodup_sub l (L.erase a) h2 fun x hx => (List.mem_erase_of_ne (by rintro rfl; exact h1 hx)).2 (hs x (List.mem_cons_of_mem _ hx))
    rw [List.length_erase_of_mem ha] at ih
    have := List.length_pos_of_mem ha
    rw [List.length_cons]
    omega
theorem isO_len {m : Mz} (V : Valid m) {l : List Int} (h : isO m l = true) : l.length ≤ (lockL m).length := by
  have H := isO_opn V _ l rfl h
  exact nodup_sub _ _ H.nodup H.lock
-- the model's tests
/-- what the model asks of what is left -/
theorem pay_left {m : Mz} {o : Op} (h : ∀ c, 0 ≤ leftC m o c) {k : Nat} : ((List.range 6).all fun c => decide (bt (need m k) c ≤ leftC m o c)) = payB m o k := by
  unfold payB
  congr 1
  funext c
  have := h c
  unfold bt
  cases digB (need m k).toNat c
  · simp [this]
  · simp; omega
end M
end Go.Proofs.Ythgmkkkfhbjhoaa
