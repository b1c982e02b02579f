/-
  MATHEMATICS of shortest ways, own to these proofs: what is least; walks step by step; breadth first finds the least numbers of steps. No condition.
-/
import Derived.Test.YtdgfceiobpnchaaReachMath
namespace Go.Proofs.Ytdgfceiobpnchaa
open Go.RowKit
namespace M
/-- the least number of which P holds, or none -/
def IsLst (P : Nat → Prop) : Option Nat → Prop
  | some n => P n ∧ ∀ k, P k → n ≤ k
  | none => ∀ k, ¬ P k
theorem isLst_ex (P : Nat → Prop) : ∃ r, IsLst P r := by
  rcases Classical.em (∃ n, P n) with ⟨n, hn⟩ | h
  · have : ∀ m, P m → ∃ r, IsLst P r := by
      intro m
      induction m using Nat.strongRecOn with
      | _ m ih =>
        intro hm
        rcases Classical.em (∃ k, k < m ∧ P k) with ⟨k, hk, hp⟩ | h
        · exact ih k hk hp
        · exact ⟨some m, hm, fun k hk => Nat.le_of_not_lt fun hlt => h ⟨k, hlt, hk⟩⟩
    exact this n hn
  · exact ⟨none, fun k hk => h ⟨k, hk⟩⟩
theorem IsLst.unique {P : Nat → Prop} {r r' : Option Nat} (h : IsLst P r) (h' : IsLst P r') : r = r' := by
  cases r with
  | none =>
    cases r' with
    | none => rfl
    | some n => exact absurd h'.1 (h n)
  | some n =>
    cases r' with
    | none => exact absurd h.1 (h' n)
    | some k => rw [Nat.le_antisymm (h.2 k h'.1) (h'.2 n h.1)]
theorem IsLst.congr {P Q : Nat → Prop} {r : Option Nat} (h : IsLst P r) (e : ∀ n, P n ↔ Q n) : IsLst Q r := by
  have : P = Q := funext fun n => propext (e n)
  rwa [← this]
noncomputable def lst (P : Nat → Prop) : Option Nat := Classical.choose (isLst_ex P)
theorem lst_is (P : Nat → Prop) : IsLst P (lst P) := Classical.choose_spec (isLst_ex P)
theorem lst_eq {P : Nat → Prop} {r : Option Nat} (h : IsLst P r) : lst P = r := (lst_is P).unique h
theorem lst_congr {P Q : Nat → Prop} (e : ∀ n, P n ↔ Q n) : lst P = lst Q := lst_eq ((lst_is Q).congr fun n => (e n).symm)
/-- as a table has it -/
def optI : Option Nat → Int
  | some n => n
  | none => -1
theorem optI_none : optI none = -1 := rfl
theorem optI_some (n : Nat) : optI (some n) = n := rfl
theorem optI_nonneg (r : Option Nat) : 0 ≤ optI r ↔ r.isSome = true := by cases r <;> simp [optI]

section
variable {α : Type} {N : α → List α} {F : List α}
/-- a walk of so many steps from one of the first ones -/
inductive Wlk (N : α → List α) (F : List α) : Nat → α → Prop
  | zero {s : α} : s ∈ F → Wlk N F 0 s
  | succ {n : Nat} {s t : α} : Wlk N F n s → t ∈ N s → Wlk N F (n + 1) t
theorem wlk_zero {s : α} : Wlk N F 0 s ↔ s ∈ F := ⟨fun h => by cases h; assumption, .zero⟩
theorem wlk_succ {n : Nat} {t : α} : Wlk N F (n + 1) t ↔ ∃ s, Wlk N F n s ∧ t ∈ N s := ⟨fun h => by cases h with | succ a b => exact ⟨_, a, b⟩, fun ⟨_, a, b⟩ => .succ a b⟩
/-- the first step first -/
theorem wlk_first {s : α} : ∀ {n : Nat} {t : α}, Wlk N [s] (n + 1) t ↔ ∃ u, u ∈ N s ∧ Wlk N [u] n t
  | 0, t => by
    rw [wlk_succ]
    constructor
    · rintro ⟨u, hu, ht⟩
      rw [wlk_zero, List.mem_singleton] at hu
      subst hu
      exact ⟨t, ht, .zero (by simp)⟩
    · rintro ⟨u, hu, ht⟩
      rw [wlk_zero, List.mem_singleton] at ht
      subst ht
      exact ⟨s, .zero (by simp), hu⟩
  | n + 1, t => by
    rw [wlk_succ]
    constructor
    · rintro ⟨v, hv, ht⟩
      obtain ⟨u, hu, hv⟩ := wlk_first.1 hv
      exact ⟨u, hu, .succ hv ht⟩
    · rintro ⟨u, hu, ht⟩
      obtain ⟨v, hv, ht⟩ := wlk_succ.1 ht
      exact ⟨v, wlk_first.2 ⟨u, hu, hv⟩, ht⟩
theorem Wlk.inside {S : α → Prop} (h0 : ∀ s ∈ F, S s) (h1 : ∀ s, S s → ∀ t ∈ N s, S t) {n : Nat} {t : α} (h : Wlk N F n t) : S t := by
  induction h with
  | zero h => exact h0 _ h
  | succ _ ht ih => exact h1 _ ih _ ht
/-- the least number of steps -/
noncomputable def dst (N : α → List α) (F : List α) (s : α) : Option Nat := lst fun n => Wlk N F n s
theorem dst_is (N : α → List α) (F : List α) (s : α) : IsLst (fun n => Wlk N F n s) (dst N F s) := lst_is _
/-- the least number that f has where S holds -/
noncomputable def minO (S : α → Prop) (f : α → Option Nat) : Option Nat := lst fun n => ∃ s, S s ∧ f s = some n
theorem minO_congr {S S' : α → Prop} {f f' : α → Option Nat} (e : ∀ s n, (S s ∧ f s = some n) ↔ (S' s ∧ f' s = some n)) : minO S f = minO S' f' :=
  lst_congr fun n => ⟨fun ⟨s, h⟩ => ⟨s, (e s n).1 h⟩, fun ⟨s, h⟩ => ⟨s, (e s n).2 h⟩⟩
/-- .. of the least numbers of steps: the least number of steps to where S holds -/
theorem minO_dst (S : α → Prop) (N : α → List α) (F : List α) : minO S (dst N F) = lst fun n => ∃ s, S s ∧ Wlk N F n s := by
  refine lst_eq ?_
  have h := lst_is fun n => ∃ s, S s ∧ Wlk N F n s
  generalize lst (fun n => ∃ s, S s ∧ Wlk N F n s) = r at h
  cases r with
  | none =>
    rintro k ⟨s, hs, hk⟩
    have := dst_is N F s
    rw [hk] at this
    exact h k ⟨s, hs, this.1⟩
  | some n =>
    obtain ⟨⟨s, hs, hw⟩, hmin⟩ := h
    refine ⟨⟨s, hs, ?_⟩, ?_⟩
    · have hd := dst_is N F s
      cases e : dst N F s with
      | none => rw [e] at hd; exact absurd hw (hd n)
      | some k =>
        rw [e] at hd
        rw [Nat.le_antisymm (hd.2 n hw) (hmin k ⟨s, hs, hd.1⟩)]
    · rintro k ⟨t, ht, hk⟩
      have hd := dst_is N F t
      rw [hk] at hd
      exact hmin k ⟨t, ht, hd.1⟩
end

section
variable {α : Type} {N : α → List α} {F : List α}
def upd [DecidableEq α] (f : α → Option Nat) (t : α) (v : Nat) : α → Option Nat := fun s => if s = t then some v else f s
theorem upd_same [DecidableEq α] (f : α → Option Nat) (t : α) (v : Nat) : upd f t v t = some v := if_pos rfl
theorem upd_other [DecidableEq α] (f : α → Option Nat) {t s : α} (v : Nat) (h : s ≠ t) : upd f t v s = f s := if_neg h
/-- what is found (in the order in which it is found), of which the first n have been looked at; f: in how many steps -/
structure Bfs (N : α → List α) (F : List α) (L : List α) (n : Nat) (f : α → Option Nat) : Prop where
  nodup : L.Nodup
  mem : ∀ s, s ∈ L ↔ ∃ k, f s = some k
  val : ∀ s k, f s = some k → Wlk N F k s
  first : ∀ s ∈ F, f s = some 0
  closed : ∀ i (h : i < L.length), i < n → ∀ t ∈ N L[i], ∃ k k', f L[i] = some k ∧ f t = some k' ∧ k' ≤ k + 1
  sorted : L.Pairwise fun a b => ∀ k k', f a = some k → f b = some k' → k ≤ k'
  span : ∀ (h : n < L.length) k, f L[n] = some k → ∀ s k', f s = some k' → k' ≤ k + 1
  small : ∀ i (h : i < L.length) k, f L[i] = some k → k ≤ i
  le : n ≤ L.length
/-- the first of the steps from node n have been looked at -/
structure Mid (N : α → List α) (F : List α) (L : List α) (n j : Nat) (f : α → Option Nat) (x : α) (k : Nat) : Prop where
  base : Bfs N F L n f
  at_ : L[n]? = some x
  has : f x = some k
  part : ∀ t ∈ (N x).take j, ∃ k', f t = some k' ∧ k' ≤ k + 1
theorem Bfs.start [DecidableEq α] (hF : F.Nodup) : Bfs N F F 0 (fun s => if s ∈ F then some 0 else none) := by
  refine ⟨hF, fun s => ?_, fun s k h => ?_, fun s hs => if_pos hs, fun i _ h => by omega, ?_, fun h k hk s k' hk' => ?_, fun i h k hk => ?_, Nat.zero_le _⟩
  · constructor
    · intro h; exact ⟨0, if_pos h⟩
    · rintro ⟨k, hk⟩
      split at hk
      · assumption
      · cases hk
  · split at h
    · rename_i hs
      injection h with h
      subst h
      exact .zero hs
    · cases h
  · refine List.pairwise_iff_getElem.2 fun i j hi hj hij k k' hk hk' => ?_
    rw [if_pos (List.getElem_mem hi)] at hk
    injection hk with hk
    omega
  · have : k' = 0 := by
      split at hk'
      · injection hk' with hk'; exact hk'.symm
      · cases hk'
    omega
  · rw [if_pos (List.getElem_mem h)] at hk
    injection hk with hk
    omega
theorem Bfs.enter {L : List α} {n : Nat} {f : α → Option Nat} (h : Bfs N F L n f) (hn : n < L.length) : ∃ k, Mid N F L n 0 f L[n] k ∧ k ≤ n := by
  obtain ⟨k, hk⟩ := (h.mem L[n]).1 (List.getElem_mem hn)
  exact ⟨k, ⟨h, List.getElem?_eq_getElem hn, hk, by simp⟩, h.small n hn k hk⟩
theorem Mid.lt {L : List α} {n j : Nat} {f : α → Option Nat} {x : α} {k : Nat} (h : Mid N F L n j f x k) : n < L.length := (List.getElem?_eq_some_iff.1 h.at_).1
theorem Mid.get {L : List α} {n j : Nat} {f : α → Option Nat} {x : α} {k : Nat} (h : Mid N F L n j f x k) : L[n]'h.lt = x := (List.getElem?_eq_some_iff.1 h.at_).2
/-- a step to what is found already -/
theorem Mid.old {L : List α} {n j : Nat} {f : α → Option Nat} {x : α} {k : Nat} (h : Mid N F L n j f x k) (hj : j < (N x).length) {k' : Nat} (hf : f (N x)[j] = some k') : Mid N F L n (j + 1) f x k := by
  refine ⟨h.base, h.at_, h.has, fun t ht => ?_⟩
  rw [List.take_succ_eq_append_getElem hj, List.mem_append, List.mem_singleton] at ht
  rcases ht with ht | rfl
  · exact h.part t ht
  · exact ⟨k', hf, h.base.span h.lt k (by rw [h.get]; exact h.has) _ _ hf⟩
/-- a step to what is new -/
theorem Mid.new [DecidableEq α] {L : List α} {n j : Nat} {f : α → Option Nat} {x : α} {k : Nat} (h : Mid N F L n j f x k) (hj : j < (N x).length) (hf : f (N x)[j] = none) : Mid N F (L ++ [(N x)[j]]) n (j + 1) (upd f (N x)[j] (k + 1)) x k := by
  have hb := h.base
  have hlt := h.lt
  have hget := h.get
  generalize ht : (N x)[j] = t at *
  have htN : t ∈ N x := by rw [← ht]; exact List.getElem_mem hj
  have hnot : t ∉ L := fun hm => by obtain ⟨v, hv⟩ := (hb.mem t).1 hm; rw [hf] at hv; cases hv
  have hne : ∀ s ∈ L, s ≠ t := fun s hs e => hnot (e ▸ hs)
  have hxL : x ∈ L := by rw [← hget]; exact List.getElem_mem hlt
  have hkn : k ≤ n := hb.small n hlt k (by rw [hget]; exact h.has)
  have hspan : ∀ s k', f s = some k' → k' ≤ k + 1 := hb.span hlt k (by rw [hget]; exact h.has)
  have hsome : ∀ s v, f s = some v → s ≠ t := fun s v hv e => by rw [e, hf] at hv; cases hv
  refine ⟨⟨?_, fun s => ?_, fun s v hv => ?_, fun s hs => ?_, fun i hi hin u hu => ?_, ?_, fun hn v hv s v' hv' => ?_, fun i hi v hv => ?_, ?_⟩, ?_, ?_, fun u hu => ?_⟩
  · rw [List.nodup_append]
    exact ⟨hb.nodup, by simp, fun a ha b hb e => by rw [List.mem_singleton] at hb; subst hb; exact hne a ha e⟩
  · rw [List.mem_append, List.mem_singleton]
    constructor
    · rintro (hs | rfl)
      · obtain ⟨v, hv⟩ := (hb.mem s).1 hs
        exact ⟨v, by rw [upd_other _ _ (hne s hs)]; exact hv⟩
      · exact ⟨_, upd_same _ _ _⟩
    · rintro ⟨v, hv⟩
      rcases Decidable.em (s = t) with e | e
      · exact .inr e
      · rw [upd_other _ _ e] at hv
        exact .inl ((hb.mem s).2 ⟨v, hv⟩)
  · rcases Decidable.em (s = t) with e | e
    · subst e
      rw [upd_same] at hv
      injection hv with hv
      subst hv
      exact .succ (hb.val x k h.has) htN
    · rw [upd_other _ _ e] at hv
      exact hb.val s v hv
  · have := hb.first s hs
    rw [upd_other _ _ (hsome s 0 this)]
    exact this
  · have hi' : i < L.length := by omega
    rw [List.getElem_append_left hi'] at hu ⊢
    obtain ⟨a, b, h1, h2, h3⟩ := hb.closed i hi' hin u hu
    exact ⟨a, b, by rw [upd_other _ _ (hsome _ _ h1)]; exact h1, by rw [upd_other _ _ (hsome _ _ h2)]; exact h2, h3⟩
  · rw [List.pairwise_append]
    refine ⟨?_, by simp, fun a ha b hb' v v' hv hv' => ?_⟩
    · refine List.Pairwise.imp_of_mem (fun {a b} ha hb' hp => ?_) hb.sorted
      intro v v' hv hv'
      rw [upd_other _ _ (hne a ha)] at hv
      rw [upd_other _ _ (hne b hb')] at hv'
      exact hp v v' hv hv'
    · rw [List.mem_singleton] at hb'
      subst hb'
      rw [upd_other _ _ (hne a ha)] at hv
      rw [upd_same] at hv'
      injection hv' with hv'
      have := hspan a v hv
      omega
  · rw [List.getElem_append_left hlt, hget, upd_other _ _ (hne x hxL), h.has] at hv
    injection hv with hv
    subst hv
    rcases Decidable.em (s = t) with e | e
    · subst e
      rw [upd_same] at hv'
      injection hv' with hv'
      omega
    · rw [upd_other _ _ e] at hv'
      exact hspan s v' hv'
  · rcases Nat.lt_or_ge i L.length with hi' | hi'
    · rw [List.getElem_append_left hi', upd_other _ _ (hne _ (List.getElem_mem hi'))] at hv
      exact hb.small i hi' v hv
    · have e : i = L.length := by simp at hi; omega
      subst e
      rw [List.getElem_append_right (by omega)] at hv
      simp [upd_same] at hv
      omega
  · rw [List.length_append]; have := hb.le; omega
  · rw [List.getElem?_append_left hlt]; exact h.at_
  · rw [upd_other _ _ (hne x hxL)]; exact h.has
  · rw [List.take_succ_eq_append_getElem hj, List.mem_append, List.mem_singleton, ht] at hu
    rcases hu with hu | rfl
    · obtain ⟨v, hv, hle⟩ := h.part u hu
      exact ⟨v, by rw [upd_other _ _ (hsome u v hv)]; exact hv, hle⟩
    · exact ⟨k + 1, upd_same _ _ _, Nat.le_refl _⟩
/-- all steps from node n have been looked at -/
theorem Mid.leave {L : List α} {n : Nat} {f : α → Option Nat} {x : α} {k : Nat} (h : Mid N F L n (N x).length f x k) : Bfs N F L (n + 1) f := by
  have hb := h.base
  have hlt := h.lt
  have hget := h.get
  refine ⟨hb.nodup, hb.mem, hb.val, hb.first, fun i hi hin t ht => ?_, hb.sorted, fun hn v hv s v' hv' => ?_, hb.small, hlt⟩
  · rcases Nat.lt_or_ge i n with hi' | hi'
    · exact hb.closed i hi hi' t ht
    · have e : i = n := by omega
      subst e
      rw [hget] at ht ⊢
      obtain ⟨k', h1, h2⟩ := h.part t (by rw [List.take_length]; exact ht)
      exact ⟨k, k', h.has, h1, h2⟩
  · have h1 := hb.span hlt k (by rw [hget]; exact h.has) s v' hv'
    have h2 := List.pairwise_iff_getElem.1 hb.sorted n (n + 1) hlt hn (by omega) k v (by rw [hget]; exact h.has) hv
    omega
/-- where all has been looked at, f tells the least numbers of steps -/
theorem Bfs.done {L : List α} {f : α → Option Nat} (h : Bfs N F L L.length f) (s : α) : f s = dst N F s := by
  have key : ∀ {k : Nat} {t : α}, Wlk N F k t → ∃ v, f t = some v ∧ v ≤ k := by
    intro k t hw
    induction hw with
    | zero hs => exact ⟨0, h.first _ hs, Nat.le_refl _⟩
    | @succ n u t hw ht ih =>
      obtain ⟨v, hv, hle⟩ := ih
      obtain ⟨i, hi, rfl⟩ := List.mem_iff_getElem.1 ((h.mem u).2 ⟨v, hv⟩)
      obtain ⟨a, b, h1, h2, h3⟩ := h.closed i hi hi t ht
      rw [hv] at h1
      injection h1 with h1
      exact ⟨b, h2, by omega⟩
  symm
  refine lst_eq ?_
  cases e : f s with
  | none =>
    intro k hk
    obtain ⟨v, hv, _⟩ := key hk
    rw [e] at hv
    cases hv
  | some v =>
    refine ⟨h.val s v e, fun k hk => ?_⟩
    obtain ⟨v', hv, hle⟩ := key hk
    rw [e] at hv
    injection hv with hv
    omega
/-- how many there can be, where they have numbers of their own -/
theorem Bfs.len {L : List α} {n : Nat} {f : α → Option Nat} (h : Bfs N F L n f) {S : α → Prop} (h0 : ∀ s ∈ F, S s) (h1 : ∀ s, S s → ∀ t ∈ N s, S t) {B : Nat} {g : α → Int} (hg : ∀ s, S s → 0 ≤ g s ∧ g s < B) (hi : ∀ s t, S s → S t → g s = g t → s = t) : L.length ≤ B := by
  have hS : ∀ s ∈ L, S s := fun s hs => by
    obtain ⟨k, hk⟩ := (h.mem s).1 hs
    exact (h.val s k hk).inside h0 h1
  have hn : (L.map g).Nodup := by
    refine List.pairwise_map.2 ?_
    refine List.Pairwise.imp_of_mem (fun {a b} ha hb hne e => hne (hi a b (hS a ha) (hS b hb) e)) h.nodup
  have := nodup_len hn fun z hz => by
    obtain ⟨s, hs, rfl⟩ := List.mem_map.1 hz
    exact hg s (hS s hs)
  simpa using this
end
end M
end Go.Proofs.Ytdgfceiobpnchaa
