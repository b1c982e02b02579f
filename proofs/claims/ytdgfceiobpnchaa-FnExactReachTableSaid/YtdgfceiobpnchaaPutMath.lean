/-
  MATHEMATICS of lists in order, own to these proofs: an element put to its place; a list that ascends is told by its members; doors and numbers in order. No condition.
-/
import Derived.Test.YtdgfceiobpnchaaMazMath
namespace Go.Proofs.Ytdgfceiobpnchaa
open Go.RowKit
namespace M

/-- an order in which any two differ or are one -/
structure Ord {α : Type} (lt : α → α → Bool) : Prop where
  irrefl : ∀ a, lt a a = false
  trans : ∀ {a b c}, lt a b = true → lt b c = true → lt a c = true
  tri : ∀ {a b}, lt a b = false → lt b a = false → a = b

section
variable {α : Type} {lt : α → α → Bool}
/-- a list that ascends strictly -/
def Asc (lt : α → α → Bool) (l : List α) : Prop := l.Pairwise fun a b => lt a b = true

theorem Asc.nil : Asc lt [] := List.Pairwise.nil
theorem Asc.tail {d : α} {l : List α} (h : Asc lt (d :: l)) : Asc lt l := (List.pairwise_cons.1 h).2
theorem Asc.head {d : α} {l : List α} (h : Asc lt (d :: l)) : ∀ x ∈ l, lt d x = true := (List.pairwise_cons.1 h).1
theorem asc_of_sorted (o : Ord lt) {l : List α} (h : ∀ k (h : k + 1 < l.length), lt l[k] l[k + 1] = true) : Asc lt l := by
  unfold Asc
  induction l with
  | nil => exact List.Pairwise.nil
  | cons d l ih =>
    have ih' := ih fun k hk => by
      have := h (k + 1) (by simp; omega)
      simpa using this
    refine List.pairwise_cons.2 ⟨fun x hx => ?_, ih'⟩
    cases l with
    | nil => cases hx
    | cons e l =>
      have h0 : lt d e = true := by simpa using h 0 (by simp)
      rcases List.mem_cons.1 hx with rfl | hx
      · exact h0
      · exact o.trans h0 ((List.pairwise_cons.1 ih').1 x hx)
theorem Asc.sorted {l : List α} (h : Asc lt l) : ∀ k (h : k + 1 < l.length), lt l[k] l[k + 1] = true := fun k hk =>
  List.pairwise_iff_getElem.1 h k (k + 1) (by omega) hk (by omega)
theorem Asc.not_mem (o : Ord lt) {d : α} {l : List α} (h : Asc lt (d :: l)) : d ∉ l := fun hm => by
  have := h.head d hm
  rw [o.irrefl] at this
  cases this
/-- two such lists with the same members are one -/
theorem Asc.ext (o : Ord lt) : ∀ {a b : List α}, Asc lt a → Asc lt b → (∀ x, x ∈ a ↔ x ∈ b) → a = b
  | [], [], _, _, _ => rfl
  | [], y :: b, _, _, h => absurd ((h y).2 (List.mem_cons_self ..)) (by simp)
  | x :: a, [], _, _, h => absurd ((h x).1 (List.mem_cons_self ..)) (by simp)
  | x :: a, y :: b, ha, hb, h => by
    have hxy : x = y := by
      have h1 : x ∈ y :: b := (h x).1 (List.mem_cons_self ..)
      have h2 : y ∈ x :: a := (h y).2 (List.mem_cons_self ..)
      rcases List.mem_cons.1 h1 with e | h1
      · exact e
      · rcases List.mem_cons.1 h2 with e | h2
        · exact e.symm
        · have k1 := hb.head x h1
          have k2 := ha.head y h2
          have := o.trans k1 k2
          rw [o.irrefl] at this
          cases this
    subst hxy
    have := Asc.ext o ha.tail hb.tail fun z => by
      constructor
      · intro hz
        have : z ∈ x :: b := (h z).1 (List.mem_cons_of_mem _ hz)
        rcases List.mem_cons.1 this with e | e
        · subst e; exact absurd hz (ha.not_mem o)
        · exact e
      · intro hz
        have : z ∈ x :: a := (h z).2 (List.mem_cons_of_mem _ hz)
        rcases List.mem_cons.1 this with e | e
        · subst e; exact absurd hz (hb.not_mem o)
        · exact e
    rw [this]

/-- the place of an element in a list: how many of the first ones come before it -/
def place (lt : α → α → Bool) (l : List α) (d : α) : Nat := (l.takeWhile fun x => lt x d).length
/-- an element put to its place, once -/
noncomputable def put (lt : α → α → Bool) (l : List α) (d : α) : List α := open Classical in if l[place lt l d]? = some d then l else l.take (place lt l d) ++ d :: l.drop (place lt l d)

theorem place_le (l : List α) (d : α) : place lt l d ≤ l.length := by
  unfold place
  exact (List.takeWhile_sublist _).length_le
theorem place_lt {l : List α} {d : α} {k : Nat} (hk : k < place lt l d) : ∃ h : k < l.length, lt l[k] d = true := by
  have hl := place_le (lt := lt) l d
  have hkl : k < l.length := by omega
  refine ⟨hkl, ?_⟩
  unfold place at hk
  have hm := List.getElem_mem hk
  have := List.all_eq_true.1 (List.all_takeWhile (l := l) (p := fun x => lt x d)) _ hm
  have e : (l.takeWhile fun x => lt x d)[k] = l[k]'hkl := by
    have hp := List.takeWhile_prefix (l := l) (p := fun x => lt x d)
    exact hp.getElem hk
  rw [e] at this
  exact this
theorem place_at {l : List α} {d : α} (h : place lt l d < l.length) : lt l[place lt l d] d = false := by
  have hx : ∀ (l : List α) (h : (l.takeWhile fun x => lt x d).length < l.length), lt l[(l.takeWhile fun x => lt x d).length] d = false := by
    intro l
    induction l with
    | nil => intro h; simp at h
    | cons x l ih =>
      intro h
      by_cases hx : lt x d = true
      · simp only [List.takeWhile_cons, hx, if_true, List.length_cons, List.getElem_cons_succ] at h ⊢
        exact ih (by omega)
      · simp only [List.takeWhile_cons, hx] at h ⊢
        simpa using hx
  exact hx l h
/-- told by its two marks -/
theorem place_eq {l : List α} {d : α} {k : Nat} (hk : k ≤ l.length) (h1 : ∀ i (h : i < l.length), i < k → lt l[i] d = true) (h2 : ∀ h : k < l.length, lt l[k] d = false) : place lt l d = k := by
  rcases Nat.lt_trichotomy (place lt l d) k with h | h | h
  · have := place_at (lt := lt) (l := l) (d := d) (by omega)
    rw [h1 _ (by omega) h] at this
    cases this
  · exact h
  · obtain ⟨h', he⟩ := place_lt h
    rw [h2 h'] at he
    cases he
theorem put_at {l : List α} {d : α} {k : Nat} (hp : place lt l d = k) (h : l[k]? = some d) : put lt l d = l := by
  unfold put; rw [hp]; exact if_pos h
theorem put_new {l : List α} {d : α} {k : Nat} (hp : place lt l d = k) (h : l[k]? ≠ some d) : put lt l d = l.take k ++ d :: l.drop k := by
  unfold put; rw [hp]; exact if_neg h
theorem mem_put {l : List α} {d x : α} : x ∈ put lt l d ↔ x ∈ l ∨ x = d := by
  unfold put
  split
  · rename_i h
    have hm : d ∈ l := List.mem_of_getElem? h
    constructor
    · exact .inl
    · rintro (h | rfl)
      · exact h
      · exact hm
  · rw [List.mem_append, List.mem_cons]
    constructor
    · rintro (h | rfl | h)
      · exact .inl (List.mem_of_mem_take h)
      · exact .inr rfl
      · exact .inl (List.mem_of_mem_drop h)
    · rintro (h | rfl)
      · rw [← List.take_append_drop (place lt l d) l, List.mem_append] at h
        rcases h with h | h
        · exact .inl h
        · exact .inr (.inr h)
      · exact .inr (.inl rfl)
theorem Asc.put (o : Ord lt) {l : List α} (h : Asc lt l) (d : α) : Asc lt (M.put lt l d) := by
  unfold M.put
  split
  · exact h
  · rename_i hne
    unfold Asc at h ⊢
    have h1 : ∀ x ∈ l.take (place lt l d), lt x d = true := by
      intro x hx
      obtain ⟨k, hk, rfl⟩ := List.mem_iff_getElem.1 hx
      rw [List.length_take] at hk
      obtain ⟨hk', he⟩ := place_lt (lt := lt) (l := l) (d := d) (k := k) (by omega)
      rw [List.getElem_take]
      exact he
    have h2 : ∀ x ∈ l.drop (place lt l d), lt d x = true := by
      have h0 : ∀ h : place lt l d < l.length, lt d l[place lt l d] = true := by
        intro hlt
        have ha := place_at hlt
        cases hb : lt d l[place lt l d] with
        | true => rfl
        | false =>
          exact absurd (by rw [List.getElem?_eq_getElem hlt, o.tri ha hb]) hne
      intro x hx
      obtain ⟨k, hk, rfl⟩ := List.mem_iff_getElem.1 hx
      rw [List.length_drop] at hk
      rw [List.getElem_drop]
      have hlt : place lt l d < l.length := by omega
      cases k with
      | zero => simpa using h0 hlt
      | succ k => exact o.trans (h0 hlt) (List.pairwise_iff_getElem.1 h _ _ (by omega) (by omega) (by omega))
    rw [List.pairwise_append]
    refine ⟨h.sublist (List.take_sublist _ _), List.pairwise_cons.2 ⟨h2, h.sublist (List.drop_sublist _ _)⟩, fun a ha b hb => ?_⟩
    rcases List.mem_cons.1 hb with rfl | hb
    · exact h1 a ha
    · exact o.trans (h1 a ha) (h2 b hb)
/-- many put, one behind the other -/
noncomputable def putAll (lt : α → α → Bool) (l : List α) (ds : List α) : List α := ds.foldl (put lt) l
theorem putAll_nil (l : List α) : putAll lt l [] = l := rfl
theorem putAll_snoc (l ds : List α) (d : α) : putAll lt l (ds ++ [d]) = put lt (putAll lt l ds) d := by unfold putAll; rw [List.foldl_append]; rfl
theorem mem_putAll {l ds : List α} {x : α} : x ∈ putAll lt l ds ↔ x ∈ l ∨ x ∈ ds := by
  induction ds generalizing l with
  | nil => simp [putAll]
  | cons d ds ih =>
    show x ∈ putAll lt (put lt l d) ds ↔ _
    rw [ih, mem_put, List.mem_cons]
    exact or_assoc
theorem Asc.putAll (o : Ord lt) {l : List α} (h : Asc lt l) (ds : List α) : Asc lt (M.putAll lt l ds) := by
  induction ds generalizing l with
  | nil => exact h
  | cons d ds ih => exact ih (h.put o d)
theorem len_put_le (l : List α) (d : α) : (put lt l d).length ≤ l.length + 1 := by
  unfold put
  split
  · omega
  · simp; omega
theorem len_putAll_le (l ds : List α) : (putAll lt l ds).length ≤ l.length + ds.length := by
  induction ds generalizing l with
  | nil => simp [putAll]
  | cons d ds ih =>
    have h1 := ih (put lt l d)
    have h2 := len_put_le (lt := lt) l d
    show (putAll lt (put lt l d) ds).length ≤ _
    simp
    omega
/-- those put are those of any list that ascends and has the same ones -/
theorem putAll_eq (o : Ord lt) {l ds s : List α} (hl : Asc lt l) (hs : Asc lt s) (hm : ∀ x, x ∈ s ↔ x ∈ l ∨ x ∈ ds) : putAll lt l ds = s :=
  (hl.putAll o ds).ext o hs fun x => by rw [mem_putAll, hm]
end
theorem ordD : Ord ltD := ⟨ltD_irrefl, ltD_trans, ltD_tri⟩
def ltI (a b : Int) : Bool := decide (a < b)
theorem ordI : Ord ltI := ⟨fun a => by simp [ltI], fun h1 h2 => by unfold ltI at *; simp only [decide_eq_true_eq] at *; omega, fun h1 h2 => by unfold ltI at *; simp only [decide_eq_false_iff_not] at *; omega⟩
theorem Valid.asc {m : Mz} (h : Valid m) : Asc ltD m.doors := asc_of_sorted ordD h.sorted
end M
end Go.Proofs.Ytdgfceiobpnchaa
