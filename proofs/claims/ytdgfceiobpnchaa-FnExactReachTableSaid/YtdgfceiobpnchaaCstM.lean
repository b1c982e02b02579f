/-
  MATHEMATICS of walks whose steps cost 0 or 1, own to these proofs: a list of what is still to be looked at, whose numbers are lowered where a cheaper way is found, finds the least costs. No condition.
-/
import Derived.Test.YtdgfceiobpnchaaWayMath
namespace Go.Proofs.Ytdgfceiobpnchaa
open Go.RowKit
namespace M
section
variable {α : Type} {E : α → List (Nat × α)} {s0 : α}
/-- a walk of so much cost -/
inductive Cst (E : α → List (Nat × α)) (s0 : α) : Nat → α → Prop
  | zero : Cst E s0 0 s0
  | succ {k c : Nat} {s t : α} : Cst E s0 k s → (c, t) ∈ E s → Cst E s0 (k + c) t
noncomputable def dstC (E : α → List (Nat × α)) (s0 : α) (t : α) : Option Nat := lst fun k => Cst E s0 k t
theorem Cst.inside {S : α → Prop} (h0 : S s0) (h1 : ∀ s, S s → ∀ p ∈ E s, S p.2) {n : Nat} {t : α} (h : Cst E s0 n t) : S t := by
  induction h with
  | zero => exact h0
  | succ _ ht ih => exact h1 _ ih _ ht
/-- K: what is found; L: what is to be looked at, of which the first n have been; f: at what cost -/
structure Lbl (E : α → List (Nat × α)) (s0 : α) (K L : List α) (n : Nat) (f : α → Option Nat) : Prop where
  nodup : K.Nodup
  mem : ∀ s, s ∈ K ↔ ∃ k, f s = some k
  sub : ∀ s ∈ L, s ∈ K
  val : ∀ s k, f s = some k → Cst E s0 k s
  first : f s0 = some 0
  done : ∀ s k, f s = some k → (∃ i, n ≤ i ∧ L[i]? = some s) ∨ ∀ p ∈ E s, ∃ k', f p.2 = some k' ∧ k' ≤ k + p.1
  small : ∀ s k, f s = some k → k + 1 ≤ K.length
  le : n ≤ L.length
/-- the first j steps from L[n] have been looked at -/
structure LMid (E : α → List (Nat × α)) (s0 : α) (K L : List α) (n j : Nat) (f : α → Option Nat) (x : α) (k : Nat) : Prop where
  nodup : K.Nodup
  mem : ∀ s, s ∈ K ↔ ∃ k, f s = some k
  sub : ∀ s ∈ L, s ∈ K
  val : ∀ s k, f s = some k → Cst E s0 k s
  first : f s0 = some 0
  done : ∀ s k, s ≠ x → f s = some k → (∃ i, n + 1 ≤ i ∧ L[i]? = some s) ∨ ∀ p ∈ E s, ∃ k', f p.2 = some k' ∧ k' ≤ k + p.1
  small : ∀ s k, f s = some k → k + 1 ≤ K.length
  at_ : L[n]? = some x
  has : f x = some k
  part : ∀ p ∈ (E x).take j, ∃ k', f p.2 = some k' ∧ k' ≤ k + p.1
theorem Lbl.start [DecidableEq α] : Lbl E s0 [s0] [s0] 0 (fun s => if s = s0 then some 0 else none) := by
  refine ⟨by simp, fun s => ?_, fun s h => h, fun s k h => ?_, if_pos rfl, fun s k h => ?_, fun s k h => ?_, Nat.zero_le _⟩
  · rw [List.mem_singleton]
    constructor
    · rintro rfl; exact ⟨0, if_pos rfl⟩
    · rintro ⟨k, hk⟩
      split at hk
      · assumption
      · cases hk
  · split at h
    · rename_i hs
      injection h with h
      subst h; subst hs
      exact .zero
    · cases h
  · split at h
    · rename_i hs
      exact .inl ⟨0, Nat.le_refl _, by rw [hs]; rfl⟩
    · cases h
  · split at h
    · injection h with h
      subst h
      exact Nat.le_refl _
    · cases h
theorem Lbl.enter {K L : List α} {n : Nat} {f : α → Option Nat} (h : Lbl E s0 K L n f) (hn : n < L.length) : ∃ k, LMid E s0 K L n 0 f L[n] k := by
  obtain ⟨k, hk⟩ := (h.mem L[n]).1 (h.sub _ (List.getElem_mem hn))
  refine ⟨k, ⟨h.nodup, h.mem, h.sub, h.val, h.first, fun s v hs hv => ?_, h.small, List.getElem?_eq_getElem hn, hk, by simp⟩⟩
  rcases h.done s v hv with ⟨i, hi, he⟩ | h'
  · rcases Nat.lt_or_ge n i with h1 | h1
    · exact .inl ⟨i, h1, he⟩
    · obtain rfl : i = n := by omega
      rw [List.getElem?_eq_getElem hn] at he
      injection he with he
      exact absurd he.symm hs
  · exact .inr h'
theorem LMid.lt {K L : List α} {n j : Nat} {f : α → Option Nat} {x : α} {k : Nat} (h : LMid E s0 K L n j f x k) : n < L.length := (List.getElem?_eq_some_iff.1 h.at_).1
theorem LMid.inK {K L : List α} {n j : Nat} {f : α → Option Nat} {x : α} {k : Nat} (h : LMid E s0 K L n j f x k) : x ∈ K := (h.mem x).2 ⟨k, h.has⟩
theorem LMid.leave {K L : List α} {n : Nat} {f : α → Option Nat} {x : α} {k : Nat} (h : LMid E s0 K L n (E x).length f x k) : Lbl E s0 K L (n + 1) f := by
  have hp := h.part
  rw [List.take_length] at hp
  have hlt := h.lt
  refine ⟨h.nodup, h.mem, h.sub, h.val, h.first, fun s v hv => ?_, h.small, hlt⟩
  rcases Classical.em (s = x) with e | e
  · subst e
    rw [h.has] at hv
    injection hv with hv
    subst hv
    exact .inr hp
  · exact h.done s v e hv
/-- a step to what is found already, at no greater cost -/
theorem LMid.old {K L : List α} {n j : Nat} {f : α → Option Nat} {x : α} {k : Nat} (h : LMid E s0 K L n j f x k) {c : Nat} {t : α} (hj : (E x)[j]? = some (c, t)) {k' : Nat} (hf : f t = some k') (hle : k' ≤ k + c) : LMid E s0 K L n (j + 1) f x k := by
  obtain ⟨hjl, hje⟩ := List.getElem?_eq_some_iff.1 hj
  refine ⟨h.nodup, h.mem, h.sub, h.val, h.first, h.done, h.small, h.at_, h.has, fun p hp => ?_⟩
  rw [List.take_succ_eq_append_getElem hjl, List.mem_append, List.mem_singleton, hje] at hp
  rcases hp with hp | rfl
  · exact h.part p hp
  · exact ⟨k', hf, hle⟩
theorem sum_upd [DecidableEq α] {K : List α} (hn : K.Nodup) {f : α → Option Nat} {t : α} {v v' : Nat} (hm : t ∈ K) (hf : f t = some v) : (K.map fun s => (upd f t v' s).getD 0).sum + v = (K.map fun s => (f s).getD 0).sum + v' := by
  induction K with
  | nil => cases hm
  | cons a K ih =>
    rw [List.nodup_cons] at hn
    rw [List.map_cons, List.map_cons, List.sum_cons, List.sum_cons]
    rcases Decidable.em (a = t) with e | e
    · subst e
      have hs : (K.map fun s => (upd f a v' s).getD 0) = K.map fun s => (f s).getD 0 := List.map_congr_left fun s hs => by rw [upd_other _ _ (show s ≠ a from fun e => hn.1 (e ▸ hs))]
      rw [hs, upd_same, hf]
      simp only [Option.getD_some]
      omega
    · have hm' : t ∈ K := by rcases List.mem_cons.1 hm with h | h; exact absurd h.symm e; exact h
      have := ih hn.2 hm'
      rw [upd_other _ _ e]
      omega
/-- how much there is still to lower -/
def pot (B : Nat) (K : List α) (f : α → Option Nat) : Nat := (K.map fun s => (f s).getD 0).sum + B * (B - K.length)
/-- a step to what is new -/
theorem LMid.new [DecidableEq α] {K L : List α} {n j : Nat} {f : α → Option Nat} {x : α} {k : Nat} (h : LMid E s0 K L n j f x k) {c : Nat} {t : α} (hj : (E x)[j]? = some (c, t)) (hc : c ≤ 1) (hf : f t = none) :
    LMid E s0 (K ++ [t]) (L ++ [t]) n (j + 1) (upd f t (k + c)) x k ∧ ∀ B, K.length < B → pot B (K ++ [t]) (upd f t (k + c)) < pot B K f := by
  obtain ⟨hjl, hje⟩ := List.getElem?_eq_some_iff.1 hj
  have htN : (c, t) ∈ E x := by rw [← hje]; exact List.getElem_mem hjl
  have hnot : t ∉ K := fun hm => by obtain ⟨v, hv⟩ := (h.mem t).1 hm; rw [hf] at hv; cases hv
  have hsome : ∀ s v, f s = some v → s ≠ t := fun s v hv e => by rw [e, hf] at hv; cases hv
  have hx := hsome x k h.has
  have hlt := h.lt
  have hks := h.small x k h.has
  refine ⟨⟨?_, fun s => ?_, fun s hs => ?_, fun s v hv => ?_, ?_, fun s v hs hv => ?_, fun s v hv => ?_, ?_, ?_, fun p hp => ?_⟩, fun B hB => ?_⟩
  · rw [List.nodup_append]
    exact ⟨h.nodup, by simp, fun a ha b hb e => by rw [List.mem_singleton] at hb; subst hb; exact hnot (e ▸ ha)⟩
  · rw [List.mem_append, List.mem_singleton]
    rcases Decidable.em (s = t) with e | e
    · subst e; exact ⟨fun _ => ⟨_, upd_same _ _ _⟩, fun _ => .inr rfl⟩
    · rw [upd_other _ _ e, ← h.mem s]; simp [e]
  · rw [List.mem_append, List.mem_singleton] at hs ⊢
    exact hs.imp (h.sub s) id
  · rcases Decidable.em (s = t) with e | e
    · subst e
      rw [upd_same] at hv
      injection hv with hv
      subst hv
      exact .succ (h.val x k h.has) htN
    · rw [upd_other _ _ e] at hv
      exact h.val s v hv
  · rw [upd_other _ _ (hsome _ _ h.first)]; exact h.first
  · rcases Decidable.em (s = t) with e | e
    · subst e
      exact .inl ⟨L.length, hlt, by simp⟩
    · rw [upd_other _ _ e] at hv
      rcases h.done s v hs hv with ⟨i, hi, he⟩ | h'
      · exact .inl ⟨i, hi, by rw [List.getElem?_append_left (List.getElem?_eq_some_iff.1 he).1]; exact he⟩
      · refine .inr fun p hp => ?_
        obtain ⟨k', h1, h2⟩ := h' p hp
        exact ⟨k', by rw [upd_other _ _ (hsome _ _ h1)]; exact h1, h2⟩
  · rw [List.length_append, List.length_singleton]
    rcases Decidable.em (s = t) with e | e
    · subst e
      rw [upd_same] at hv
      injection hv with hv
      omega
    · rw [upd_other _ _ e] at hv
      have := h.small s v hv
      omega
  · rw [List.getElem?_append_left hlt]; exact h.at_
  · rw [upd_other _ _ hx]; exact h.has
  · rw [List.take_succ_eq_append_getElem hjl, List.mem_append, List.mem_singleton, hje] at hp
    rcases hp with hp | rfl
    · obtain ⟨v, hv, hle⟩ := h.part p hp
      exact ⟨v, by rw [upd_other _ _ (hsome _ _ hv)]; exact hv, hle⟩
    · exact ⟨_, upd_same _ _ _, Nat.le_refl _⟩
  · unfold pot
    rw [List.map_append, List.sum_append, List.length_append]
    have hs : (K.map fun s => (upd f t (k + c) s).getD 0) = K.map fun s => (f s).getD 0 := List.map_congr_left fun s hs => by rw [upd_other _ _ (show s ≠ t from fun e => hnot (e ▸ hs))]
    rw [hs]
    simp only [List.map_cons, List.map_nil, List.sum_cons, List.sum_nil, upd_same, Option.getD_some, List.length_singleton]
    have e : B * (B - K.length) = B * (B - (K.length + 1)) + B := by
      rw [show B - K.length = B - (K.length + 1) + 1 by omega, Nat.mul_succ]
    rw [e]
    omega
/-- a step that lowers a cost -/
theorem LMid.low [DecidableEq α] {K L : List α} {n j : Nat} {f : α → Option Nat} {x : α} {k : Nat} (h : LMid E s0 K L n j f x k) {c : Nat} {t : α} (hj : (E x)[j]? = some (c, t)) {k' : Nat} (hf : f t = some k') (hlt' : k + c < k') :
    LMid E s0 K (L ++ [t]) n (j + 1) (upd f t (k + c)) x k ∧ ∀ B, pot B K (upd f t (k + c)) < pot B K f := by
  obtain ⟨hjl, hje⟩ := List.getElem?_eq_some_iff.1 hj
  have htN : (c, t) ∈ E x := by rw [← hje]; exact List.getElem_mem hjl
  have hm : t ∈ K := (h.mem t).2 ⟨k', hf⟩
  have hx : x ≠ t := fun e => by have := h.has; rw [e, hf] at this; injection this with this; omega
  have hlt := h.lt
  have h0 : s0 ≠ t := fun e => by have := h.first; rw [e, hf] at this; injection this with this; omega
  have down : ∀ s v, f s = some v → ∃ v', upd f t (k + c) s = some v' ∧ v' ≤ v := fun s v hv => by
    rcases Decidable.em (s = t) with e | e
    · subst e
      rw [hf] at hv
      injection hv with hv
      exact ⟨_, upd_same _ _ _, by omega⟩
    · exact ⟨v, by rw [upd_other _ _ e]; exact hv, Nat.le_refl _⟩
  refine ⟨⟨h.nodup, fun s => ?_, fun s hs => ?_, fun s v hv => ?_, ?_, fun s v hs hv => ?_, fun s v hv => ?_, ?_, ?_, fun p hp => ?_⟩, fun B => ?_⟩
  · rcases Decidable.em (s = t) with e | e
    · subst e; exact ⟨fun _ => ⟨_, upd_same _ _ _⟩, fun _ => hm⟩
    · rw [upd_other _ _ e]; exact h.mem s
  · rw [List.mem_append, List.mem_singleton] at hs
    rcases hs with hs | rfl
    · exact h.sub s hs
    · exact hm
  · rcases Decidable.em (s = t) with e | e
    · subst e
      rw [upd_same] at hv
      injection hv with hv
      subst hv
      exact .succ (h.val x k h.has) htN
    · rw [upd_other _ _ e] at hv
      exact h.val s v hv
  · rw [upd_other _ _ h0]; exact h.first
  · rcases Decidable.em (s = t) with e | e
    · subst e
      exact .inl ⟨L.length, hlt, by simp⟩
    · rw [upd_other _ _ e] at hv
      rcases h.done s v hs hv with ⟨i, hi, he⟩ | h'
      · exact .inl ⟨i, hi, by rw [List.getElem?_append_left (List.getElem?_eq_some_iff.1 he).1]; exact he⟩
      · refine .inr fun p hp => ?_
        obtain ⟨v', h1, h2⟩ := h' p hp
        obtain ⟨v2, h3, h4⟩ := down _ _ h1
        exact ⟨v2, h3, by omega⟩
  · rcases Decidable.em (s = t) with e | e
    · subst e
      rw [upd_same] at hv
      injection hv with hv
      have := h.small s k' hf
      omega
    · rw [upd_other _ _ e] at hv
      exact h.small s v hv
  · rw [List.getElem?_append_left hlt]; exact h.at_
  · rw [upd_other _ _ hx]; exact h.has
  · rw [List.take_succ_eq_append_getElem hjl, List.mem_append, List.mem_singleton, hje] at hp
    rcases hp with hp | rfl
    · obtain ⟨v, hv, hle⟩ := h.part p hp
      obtain ⟨v2, h3, h4⟩ := down _ _ hv
      exact ⟨v2, h3, by omega⟩
    · exact ⟨_, upd_same _ _ _, Nat.le_refl _⟩
  · have := sum_upd h.nodup (v' := k + c) hm hf
    unfold pot
    omega
/-- where all has been looked at, f tells the least costs -/
theorem Lbl.least {K L : List α} {f : α → Option Nat} (h : Lbl E s0 K L L.length f) (s : α) : f s = dstC E s0 s := by
  have key : ∀ {k : Nat} {t : α}, Cst E s0 k t → ∃ v, f t = some v ∧ v ≤ k := by
    intro k t hw
    induction hw with
    | zero => exact ⟨0, h.first, Nat.le_refl _⟩
    | @succ k c u t hw ht ih =>
      obtain ⟨v, hv, hle⟩ := ih
      rcases h.done u v hv with ⟨i, hi, he⟩ | h'
      · have := (List.getElem?_eq_some_iff.1 he).1
        omega
      · obtain ⟨k', h1, h2⟩ := h' _ ht
        exact ⟨k', h1, by simp only at h2; omega⟩
  symm
  refine lst_eq ?_
  cases e : f s with
  | none =>
    intro k hk
    obtain ⟨v, hv, _⟩ := key hk
    rw [e] at hv
    cases hv
  | some v =>
    refine ⟨h.val s v e, fun k hk => ?_⟩
    obtain ⟨v', hv, hle⟩ := key hk
    rw [e] at hv
    injection hv with hv
    omega
/-- how many there can be, where they have numbers of their own -/
theorem Lbl.len {K L : List α} {n : Nat} {f : α → Option Nat} (h : Lbl E s0 K L n f) {S : α → Prop} (h0 : S s0) (h1 : ∀ s, S s → ∀ p ∈ E s, S p.2) {B : Nat} {g : α → Int} (hg : ∀ s, S s → 0 ≤ g s ∧ g s < B) (hi : ∀ s t, S s → S t → g s = g t → s = t) : K.length ≤ B := by
  have hS : ∀ s ∈ K, S s := fun s hs => by
    obtain ⟨k, hk⟩ := (h.mem s).1 hs
    exact (h.val s k hk).inside h0 h1
  have hn : (K.map g).Nodup := by
    refine List.pairwise_map.2 ?_
    refine List.Pairwise.imp_of_mem (fun {a b} ha hb hne e => hne (hi a b (hS a ha) (hS b hb) e)) h.nodup
  have := nodup_len hn fun z hz => by
    obtain ⟨s, hs, rfl⟩ := List.mem_map.1 hz
    exact hg s (hS s hs)
  simpa using this
theorem LMid.len {K L : List α} {n j : Nat} {f : α → Option Nat} {x : α} {k : Nat} (h : LMid E s0 K L n j f x k) {S : α → Prop} (h0 : S s0) (h1 : ∀ s, S s → ∀ p ∈ E s, S p.2) {B : Nat} {g : α → Int} (hg : ∀ s, S s → 0 ≤ g s ∧ g s < B) (hi : ∀ s t, S s → S t → g s = g t → s = t) : K.length ≤ B := by
  have hS : ∀ s ∈ K, S s := fun s hs => by
    obtain ⟨k, hk⟩ := (h.mem s).1 hs
    exact (h.val s k hk).inside h0 h1
  have hn : (K.map g).Nodup := by
    refine List.pairwise_map.2 ?_
    refine List.Pairwise.imp_of_mem (fun {a b} ha hb hne e => hne (hi a b (hS a ha) (hS b hb) e)) h.nodup
  have := nodup_len hn fun z hz => by
    obtain ⟨s, hs, rfl⟩ := List.mem_map.1 hz
    exact hg s (hS s hs)
  simpa using this
/-- where each step costs 1 -/
theorem cst_wlk {N : α → List α} (hE : ∀ s, E s = (N s).map fun t => (1, t)) {k : Nat} {t : α} : Cst E s0 k t ↔ Wlk N [s0] k t := by
  constructor
  · intro h
    induction h with
    | zero => exact .zero (by simp)
    | @succ k c u t _ ht ih =>
      rw [hE] at ht
      obtain ⟨v, hv, e⟩ := List.mem_map.1 ht
      injection e with e1 e2
      subst e1; subst e2
      exact .succ ih hv
  · intro h
    induction h with
    | zero h => rw [List.mem_singleton] at h; subst h; exact .zero
    | @succ n u t _ ht ih => exact .succ ih (by rw [hE]; exact List.mem_map.2 ⟨t, ht, rfl⟩)
theorem dstC_wlk {N : α → List α} (hE : ∀ s, E s = (N s).map fun t => (1, t)) (t : α) : dstC E s0 t = dst N [s0] t := lst_congr fun _ => cst_wlk hE
end
end M
end Go.Proofs.Ytdgfceiobpnchaa
