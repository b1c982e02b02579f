/-
  WORDS for a queue of the call's own, own to these proofs: a slice that lies anywhere in a row that the call owns; what is taken off its head, what is appended to it. No condition.
-/
import Derived.Test.YtdgfceiobpnchaaMem
import Derived.Deep.AppendSrc
namespace Go.Proofs.Ytdgfceiobpnchaa
open Go.RowKit
namespace C
def OwnQ (B : Nat) (w : World) (T : TypeId) (size : Nat) (v : Value) (n : Nat) (xs : List Value) : Prop :=
  xs.length = n * size ∧ ((v = .slice none 0 0 ∧ n = 0) ∨ ∃ g off cap cur, v = .slice (some ⟨g, off, none⟩) n cap ∧ B ≤ g ∧ w.heap[g]? = some (.cells cur T (0, 0)) ∧ n ≤ cap ∧ cap ≤ maxLen ∧ off + cap * size ≤ cur.size ∧ ∀ j u, xs[j]? = some u → cur[off + j]? = some u)
section
variable {B size n : Nat} {w w' : World} {T : TypeId} {v : Value} {xs : List Value}
theorem OwnQ.of_own (h : w.ownsRow B T size v n xs) : OwnQ B w T size v n xs := by
  refine ⟨h.1, ?_⟩
  rcases h.2 with h' | ⟨g, cap, cur, hv, hb, hh, hn, hm, hs, ht⟩
  · exact .inl h'
  · refine .inr ⟨g, 0, cap, cur, hv, hb, hh, hn, hm, by omega, fun j u hu => ?_⟩
    rw [← ht, List.getElem?_take] at hu
    split at hu
    · simpa using hu
    · cases hu
theorem OwnQ.mono {B' : Nat} (h : OwnQ B w T size v n xs) (hB : B' ≤ B) : OwnQ B' w T size v n xs := by
  refine ⟨h.1, ?_⟩
  rcases h.2 with h' | ⟨g, off, cap, cur, hv, hb, r⟩
  · exact .inl h'
  · exact .inr ⟨g, off, cap, cur, hv, by omega, r⟩
theorem OwnQ.shape (h : OwnQ B w T size v n xs) : ∃ a c, v = .slice a n c ∧ n ≤ c ∧ c ≤ maxLen := by
  rcases h.2 with ⟨rfl, rfl⟩ | ⟨g, off, cap, cur, rfl, _, _, hn, hm, _⟩
  · exact ⟨none, 0, rfl, Nat.le_refl _, Nat.zero_le _⟩
  · exact ⟨_, _, rfl, hn, hm⟩
theorem OwnQ.base (h : OwnQ B w T size v n xs) : ∀ k, v.ownBlock = some k → B ≤ k ∧ k < w.heap.size := by
  rcases h.2 with ⟨rfl, rfl⟩ | ⟨g, off, cap, cur, rfl, hb, hh, _⟩
  · intro k hk; cases hk
  · intro k hk
    have : g = k := by simpa [Value.ownBlock] using hk
    subst this
    exact ⟨hb, heap_lt hh⟩
/-- where no other type's cells lie -/
theorem OwnQ.ne {b : Nat} (h : OwnQ B w T size v n xs) (hb : ∀ cur f, w.heap[b]? ≠ some (.cells cur T f)) : v.ownBlock ≠ some b := by
  rcases h.2 with ⟨rfl, rfl⟩ | ⟨g, off, cap, cur, rfl, _, hh, _⟩
  · intro e; cases e
  · intro e
    have : g = b := by simpa [Value.ownBlock] using e
    subst this
    exact hb _ _ hh
theorem OwnQ.row (h : OwnQ B w T size v n xs) {a : Option Addr} {c : Nat} (hv : v = .slice a n c) : RowIn B w.heap.size w a xs := by
  subst hv
  rcases h.2 with ⟨_, rfl⟩ | ⟨g, off, cap, cur, e, hb, hh, _, _, _, hc⟩
  · exact .inl (List.eq_nil_of_length_eq_zero (by simpa using h.1))
  · injection e with e _ _
    exact .inr ⟨g, off, e, hb, heap_lt hh, fun i u hu => (cell_of_row w g (off + i) cur T (0, 0) hh).trans (hc i u hu)⟩
theorem OwnQ.turned {lo hi : Nat} (h : OwnQ B w T size v n xs) (t : Turned lo hi w w') (hd : ∀ k, v.ownBlock = some k → k < lo ∨ hi ≤ k) : OwnQ B w' T size v n xs := by
  refine ⟨h.1, ?_⟩
  rcases h.2 with h' | ⟨g, off, cap, cur, rfl, hb, hh, r⟩
  · exact .inl h'
  · exact .inr ⟨g, off, cap, cur, rfl, hb, (t.block g (heap_lt hh) (hd g rfl)).trans hh, r⟩
theorem OwnQ.below (h : OwnQ B w T size v n xs) (t : Below w.heap.size w w') : OwnQ B w' T size v n xs := h.turned (Turned.of_below t 0 0) fun _ _ => .inr (Nat.zero_le _)
/-- x[1:] -/
theorem OwnQ.tail {g off cap : Nat} {ys : List Value} (h : OwnQ B w T size (.slice (some ⟨g, off, none⟩) (n + 1) (cap + 1)) (n + 1) (xs ++ ys)) (hx : xs.length = size) :
    OwnQ B w T size (.slice (some ⟨g, if cap = 0 then off else off + size, none⟩) n cap) n ys := by
  obtain ⟨h1, h2⟩ := h
  rw [List.length_append, hx, Nat.succ_mul] at h1
  refine ⟨by omega, ?_⟩
  rcases h2 with ⟨e, _⟩ | ⟨g', off', cap', cur, e, hb, hh, hn, hm, hs, hc⟩
  · cases e
  · injection e with e1 _ e3
    injection e1 with e1
    injection e1 with e4 e5 _
    subst e4; subst e5; subst e3
    rw [Nat.succ_mul] at hs
    by_cases h0 : cap = 0
    · subst h0
      rw [if_pos rfl]
      refine .inr ⟨g, off, 0, cur, rfl, hb, hh, by omega, by omega, by omega, fun j u hu => ?_⟩
      have hy : ys = [] := List.eq_nil_of_length_eq_zero (by have : n = 0 := by omega
                                                             subst this; omega)
      rw [hy] at hu
      cases hu
    · rw [if_neg h0]
      refine .inr ⟨g, off + size, cap, cur, rfl, hb, hh, by omega, by omega, by omega, fun j u hu => ?_⟩
      have := hc (size + j) u (by rw [List.getElem?_append_right (by omega), hx, Nat.add_sub_cancel_left]; exact hu)
      rw [Nat.add_assoc]
      exact this
theorem heap_setCells (g : Nat) : ∀ (vs : List Value) (o : Nat) (w : World) (cur : Array Value), w.heap[g]? = some (.cells cur T (0, 0)) →
    ∃ cur', (w.setCells g o vs).heap[g]? = some (.cells cur' T (0, 0)) ∧ cur'.size = cur.size ∧ (∀ j, j < o ∨ o + vs.length ≤ j → cur'[j]? = cur[j]?) ∧ (∀ j u, vs[j]? = some u → o + j < cur.size → cur'[o + j]? = some u) ∧ w.grownBy (w.setCells g o vs) (some g)
  | [], o, w, cur, h => ⟨cur, h, rfl, fun _ _ => rfl, fun j u hu _ => (by cases hu), ⟨rfl, rfl, rfl, Nat.le_refl _, fun _ _ _ => rfl⟩⟩
  | v :: vs, o, w, cur, h => by
    have h1 : (w.setCell ⟨g, o, none⟩ v).heap[g]? = some (.cells (cur.setIfInBounds o v) T (0, 0)) := by simp [World.setCell, Array.getElem?_modify, h]
    obtain ⟨cur', e1, e2, e3, e4, e5⟩ := heap_setCells g vs (o + 1) (w.setCell ⟨g, o, none⟩ v) _ h1
    refine ⟨cur', e1, by rw [e2, Array.size_setIfInBounds], fun j hj => ?_, fun j u hu hlt => ?_, ?_⟩
    · rw [List.length_cons] at hj
      rw [e3 j (by omega), Array.getElem?_setIfInBounds_ne (by omega)]
    · cases j with
      | zero =>
        rw [List.getElem?_cons_zero] at hu
        injection hu with hu
        rw [Nat.add_zero] at hlt ⊢
        rw [e3 o (by omega), Array.getElem?_setIfInBounds_self_of_lt hlt, hu]
      | succ j =>
        rw [List.getElem?_cons_succ] at hu
        have := e4 j u hu (by rw [Array.size_setIfInBounds]; omega)
        rw [show o + (j + 1) = o + 1 + j by omega]
        exact this
    · have hsz : (w.setCell ⟨g, o, none⟩ v).heap.size = w.heap.size := by simp [World.setCell]
      exact ⟨e5.os, e5.tape, e5.output, hsz ▸ e5.size, fun k hk hne => (e5.block k (by rw [hsz]; exact hk) hne).trans (Below.heap_setCell w ⟨g, o, none⟩ v k fun e => hne (by rw [e]))⟩
theorem run_append_q {P : Program} (t ty : TypeId) (i : TypeInfo) (z : Value) (bytes : Nat) (ht : P.underlying t = some (.slice T)) (hi : P.info? T = some i) (hz : i.zero = some z) (hsize : i.size = size) (hby : i.bytes = bytes) (hzs : z.cells.size = size)
    (h : OwnQ B w T size v n xs) (hB : B ≤ w.heap.size) (ad : Addr) (c : Nat) (news : List Value) (hl : news.length = size) (hnews : ∀ j u, news[j]? = some u → w.cell? (ad.add j) = some u) (h1 : ∀ u ∈ news, u.oneCell' = true) (hn : n + 1 ≤ maxLen) (hbytes : (n + 1) * bytes ≤ 140737488355328) :
    ∃ v' w', (Builtin.append_ #[t, t] ty #[v, .slice (some ad) 1 c]).run P w = .ok v' w' ∧ OwnQ B w' T size v' (n + 1) (xs ++ news) ∧ w.grownBy w' v.ownBlock ∧ (v'.ownBlock = v.ownBlock ∨ v'.ownBlock = some w.heap.size) := by
  subst hsize
  subst hby
  have hs : Src P i.size t (.slice (some ad) 1 c) 1 news w := Src.ofSlice w ht ad 1 c news (by omega) hnews h1
  have hlen : (xs ++ news).length = (n + 1) * i.size := by rw [List.length_append, h.1, hl, Nat.succ_mul]
  have hsmall : ((n + 1 : Nat) : Int) ≤ 9223372036854775807 := by simp only [maxLen] at hn; omega
  have grown : ∀ (old : Nat) (row : Option Nat), old < n + 1 →
      OwnQ B (w.drew.alloc (.cells ((xs ++ news).toArray ++ Builtin.zeroCells z.cells (grownCap w (n + 1) old T - (n + 1))) T)) T i.size (.slice (some ⟨w.heap.size, 0, none⟩) (n + 1) (grownCap w (n + 1) old T)) (n + 1) (xs ++ news) ∧
      w.grownBy (w.drew.alloc (.cells ((xs ++ news).toArray ++ Builtin.zeroCells z.cells (grownCap w (n + 1) old T - (n + 1))) T)) row := by
    intro old row ho
    have hge := grownCap_ge w (n + 1) old T
    refine ⟨⟨hlen, .inr ⟨w.heap.size, 0, _, _, rfl, hB, heap_alloc_new w.drew _, hge, grownCap_le_maxLen w (n + 1) old T hn, ?_, fun j u hu => ?_⟩⟩, ⟨rfl, rfl, rfl, by simp, fun k hk _ => Below.heap_alloc w.drew _ k hk⟩⟩
    · rw [Array.size_append, size_zeroCells, List.size_toArray, hlen, hzs, ← Nat.add_mul, Nat.zero_add]
      exact Nat.mul_le_mul_right _ (by omega)
    · rw [Nat.zero_add, Array.getElem?_append_left (by rw [List.size_toArray]; exact (List.getElem?_eq_some_iff.1 hu).1)]
      simpa using hu
  rcases h.2 with ⟨rfl, rfl⟩ | ⟨g, off, cap, cur, rfl, hb, hh, hnc, hcm, hcs, hc⟩
  · have hx : xs = [] := List.eq_nil_of_length_eq_zero (by simpa using h.1)
    subst hx
    have hr := run_append_grow_src (P := P) w t t ty T i z ht hi hz none 0 0 [] (by simpa using run_firstCells_none (P := P) w.drew i.size 0 0 0) (.slice (some ad) 1 c) 1 news hs (by omega) hsmall (growslice_fits (by omega) hbytes)
    obtain ⟨g1, g2⟩ := grown 0 (Value.ownBlock (.slice none 0 0)) (by omega)
    exact ⟨_, _, hr, g1, g2, .inr rfl⟩
  · by_cases hroom : n + 1 ≤ cap
    · have hfit : off + n * i.size + news.length ≤ cur.size := by
        have := Nat.mul_le_mul_right i.size hroom
        rw [Nat.succ_mul] at this
        omega
      have hr := run_append_room_src (P := P) w t t ty T i ht hi g off n cap (.slice (some ad) 1 c) 1 news hs hroom
        (fun j hj => by rw [cell_of_row w g _ cur T (0, 0) hh, Array.getElem?_eq_getElem (by omega)]; rfl) (fun j hj => by simp [World.frozen?, hh])
      obtain ⟨cur', e1, e2, e3, e4, e5⟩ := heap_setCells g news (off + n * i.size) w cur hh
      refine ⟨_, _, hr, ⟨hlen, .inr ⟨g, off, cap, cur', rfl, hb, e1, hroom, hcm, by omega, fun j u hu => ?_⟩⟩, e5, .inl rfl⟩
      rcases Nat.lt_or_ge j xs.length with hj | hj
      · rw [List.getElem?_append_left hj] at hu
        rw [e3 _ (by have := h.1; omega)]
        exact hc j u hu
      · rw [List.getElem?_append_right hj] at hu
        have h0 := h.1
        have := e4 (j - xs.length) u hu (by have := (List.getElem?_eq_some_iff.1 hu).1; omega)
        rw [show off + j = off + n * i.size + (j - xs.length) by omega]
        exact this
    · have hr := run_append_grow_src (P := P) w t t ty T i z ht hi hz (some ⟨g, off, none⟩) n cap xs
        (by
          refine run_firstCells_some (P := P) w.drew i.size n ⟨g, off, none⟩ n cap xs h.1 fun j u hu => ?_
          have hadd : (⟨g, off, none⟩ : Addr).add j = ⟨g, off + j, none⟩ := Addr.add_lit ..
          rw [hadd]
          exact (cell_of_row w g (off + j) cur T (0, 0) hh).trans (hc j u hu)) (.slice (some ad) 1 c) 1 news hs (by omega) hsmall (growslice_fits (by omega) hbytes)
      obtain ⟨g1, g2⟩ := grown cap (Value.ownBlock (.slice (some ⟨g, off, none⟩) n cap)) (by omega)
      exact ⟨_, _, hr, g1, g2, .inr rfl⟩
end
theorem wpList_append_q {P : Program} {w : World} {ops : Array Oper} {rest : List Oper} {o : Oper} {a : Act} {Q : Exit → Act → World → Prop} (hgd : o.guard = none) (s x : Operand) (t : TypeId)
    (ho : o.op = .call { callee := .builtin .append, args := #[s, x], argTypes := #[t, t] }) (B : Nat) (T : TypeId) (i : TypeInfo) (z : Value) (size bytes : Nat) (ht : P.underlying t = some (.slice T)) (hi : P.info? T = some i) (hz : i.zero = some z) (hsize : i.size = size) (hby : i.bytes = bytes) (hzs : z.cells.size = size)
    (v : Value) (n : Nat) (xs : List Value) (hs : a.eval s = v) (h : OwnQ B w T size v n xs) (ad : Addr) (c : Nat) (news : List Value) (hx : a.eval x = .slice (some ad) 1 c) (hl : news.length = size) (hnews : ∀ j u, news[j]? = some u → w.cell? (ad.add j) = some u) (h1 : ∀ u ∈ news, u.oneCell' = true)
    (hn : n + 1 ≤ maxLen) (hbytes : (n + 1) * bytes ≤ 140737488355328) (hB : B ≤ w.heap.size) (hK : ∀ v' w', OwnQ B w' T size v' (n + 1) (xs ++ news) → w.grownBy w' v.ownBlock → (v'.ownBlock = v.ownBlock ∨ v'.ownBlock = some w.heap.size) → wpList P ops Q rest (a.put o.dst v') w') : wpList P ops Q (o :: rest) a w := by
  refine wpList_plain hgd fun K' hK' => ?_
  obtain ⟨v', w', hr, h2, h3, h4⟩ := run_append_q (P := P) t o.type i z bytes ht hi hz hsize hby hzs h hB ad c news hl hnews h1 hn hbytes
  unfold Oper.wp execOp
  simp only [ho, resolve, invoke, builtin, Sem.run_bind, Sem.run_pure, Result.andThen_ok, List.map_toArray, List.map_cons, List.map_nil, hs, hx, hr]
  exact hK' _ _ (hK v' w' h2 h3 h4)
theorem RowIn.grown {w w' : World} {lo hi : Nat} {a : Option Addr} {xs : List Value} {row : Option Nat} (h : RowIn lo hi w a xs) (hg : w.grownBy w' row) (hz : hi ≤ w.heap.size) (hd : ∀ z, row = some z → z < lo ∨ hi ≤ z) : RowIn lo hi w' a xs := by
  rcases h with h | ⟨b, off, ha, h1, h2, hc⟩
  · exact .inl h
  · refine .inr ⟨b, off, ha, h1, h2, fun i u hu => (World.cell?_of_block (w := w) (hg.block b (by omega) fun e => ?_)).trans (hc i u hu)⟩
    have := hd b e.symm
    omega
theorem OwnQ.own {B size n : Nat} {w : World} {T : TypeId} {v : Value} {xs : List Value} (h : OwnQ B w T size v n xs) {a : Option Addr} {c : Nat} (hv : v = .slice a n c) : OwnAt B w.heap.size w T a xs := by
  subst hv
  rcases h.2 with ⟨_, rfl⟩ | ⟨g, off, cap, cur, e, hb, hh, _, _, _, hc⟩
  · exact .inl (List.eq_nil_of_length_eq_zero (by simpa using h.1))
  · injection e with e _ _
    exact .inr ⟨g, off, cur, e, hb, heap_lt hh, hh, hc⟩
theorem OwnAt.grownRow {lo hi : Nat} {w w' : World} {T : TypeId} {a : Option Addr} {xs : List Value} {row : Option Nat} (h : OwnAt lo hi w T a xs) (hg : w.grownBy w' row) (_hz : hi ≤ w.heap.size) (hd : ∀ z, row = some z → z < lo ∨ hi ≤ z) : OwnAt lo hi w' T a xs := by
  rcases h with h | ⟨b, off, cur, ha, h1, h2, hh, hc⟩
  · exact .inl h
  · refine .inr ⟨b, off, cur, ha, h1, h2, (hg.block b (heap_lt hh) fun e => ?_).trans hh, hc⟩
    have := hd b e.symm
    omega
end C
end Go.Proofs.Ytdgfceiobpnchaa
