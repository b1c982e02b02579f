/-
  MATHEMATICS of the power of colours, own to these proofs: counted over the sets that win, and over all sets. No condition.
-/
import Derived.Test.YtcoaggnilgfjfaaSClu
import Derived.Test.YtcoaggnilgfjfaaSReach
import Derived.Laws.MakeOwn
import Derived.OwnWalk
namespace Go.Proofs.Ytcoaggnilgfjfaa
open Go.RowKit
namespace M
/-- what the program counts of a list of sets that win -/
def cntL (P : St6 → Bool) (L : List St6) (c : Nat) : Nat := L.countP fun a => a.val.testBit c && !P (bit6 c a)
/-- what the model counts of the first k sets -/
def cntU (P : St6 → Bool) (k : Nat) (c : Nat) : Nat := (selTo.allN.take k).countP fun a => !a.val.testBit c && (!P a && P (bit6 c a))
theorem bit6_bit6 : ∀ a : St6, ∀ c : Fin 6, bit6 c.val (bit6 c.val a) = a ∧ (bit6 c.val a).val.testBit c.val = !a.val.testBit c.val := by decide +kernel
theorem bit6_perm : ∀ c : Fin 6, (selTo.allN.map (bit6 c.val)).Perm selTo.allN := by decide +kernel
theorem cnt_same (P : St6 → Bool) {c : Nat} (hc : c < 6) : cntL P (selF P) c = cntU P 64 c := by
  unfold cntL cntU selF selTo
  rw [List.take_of_length_le (by rw [allN_len]; exact Nat.le_refl _), List.countP_filter]
  rw [← (bit6_perm ⟨c, hc⟩).countP_eq, List.countP_map]
  refine List.countP_congr fun a _ => ?_
  obtain ⟨h1, h2⟩ := bit6_bit6 a ⟨c, hc⟩
  show ((bit6 c a).val.testBit c && !P (bit6 c (bit6 c a)) && P (bit6 c a)) = true ↔ _
  rw [h1, h2]
  cases a.val.testBit c <;> cases P a <;> cases P (bit6 c a) <;> simp
def rowI (f : Nat → Nat) : List Int := (List.range 6).map fun c : Nat => ((f c : Nat) : Int)
theorem rowI_len (f : Nat → Nat) : (rowI f).length = 6 := by unfold rowI; simp
theorem rowI_at (f : Nat → Nat) {c : Nat} (h : c < 6) : (encIs (rowI f))[c]? = some (.int .i64 ((f c : Nat) : Int)) := by
  unfold encIs rowI
  rw [List.getElem?_map, List.getElem?_map, List.getElem?_range h]
  rfl
theorem rowI_congr {f g : Nat → Nat} (h : ∀ c, c < 6 → f c = g c) : rowI f = rowI g := by
  unfold rowI
  exact List.map_congr_left fun c hc => by rw [h c (List.mem_range.1 hc)]
theorem rowI_set (f : Nat → Nat) (c : Nat) (v : Nat) : (encIs (rowI f)).set c (.int .i64 (v : Int)) = encIs (rowI fun x => if x = c then v else f x) := by
  refine List.ext_getElem? fun i => ?_
  rcases Nat.lt_or_ge i 6 with h | h
  · rw [rowI_at _ h]
    rcases Decidable.em (c = i) with rfl | hne
    · rw [List.getElem?_set_self (by rw [encIs_len, rowI_len]; exact h), if_pos rfl]
    · rw [List.getElem?_set_ne hne, rowI_at _ h, if_neg (fun e => hne e.symm)]
  · rw [List.getElem?_eq_none (by rw [List.length_set, encIs_len, rowI_len]; exact h), List.getElem?_eq_none (by rw [encIs_len, rowI_len]; exact h)]
noncomputable def powV (m : Mz) : List Int := if mazeB m then rowI (cntU (wF m) 64) else []
theorem powV_no {m : Mz} (h : mazeB m = false) : powV m = [] := by unfold powV; rw [h]; rfl
theorem powV_yes {m : Mz} (h : mazeB m = true) : powV m = rowI (cntU (wF m) 64) := by unfold powV; rw [if_pos h]
theorem powV_len (m : Mz) : (powV m).length ≤ 1048576 := by
  cases h : mazeB m with
  | false => rw [powV_no h]; simp
  | true => rw [powV_yes h, rowI_len]; omega
theorem cntL_snoc (P : St6 → Bool) (L : List St6) (a : St6) (c : Nat) : cntL P (L ++ [a]) c = cntL P L c + if (a.val.testBit c && !P (bit6 c a)) = true then 1 else 0 := by
  unfold cntL
  rw [List.countP_append, List.countP_singleton]
theorem cntL_take (P : St6 → Bool) {L : List St6} {i : Nat} (h : i < L.length) (c : Nat) : cntL P (L.take (i + 1)) c = cntL P (L.take i) c + if (L[i].val.testBit c && !P (bit6 c L[i])) = true then 1 else 0 := by
  rw [List.take_succ_eq_append_getElem h, cntL_snoc]
theorem cntL_le (P : St6 → Bool) (L : List St6) (c : Nat) : cntL P L c ≤ L.length := List.countP_le_length
theorem cntU_take (P : St6 → Bool) {k : Nat} (h : k < 64) (c : Nat) : cntU P (k + 1) c = cntU P k c + if (!(⟨k, h⟩ : St6).val.testBit c && (!P ⟨k, h⟩ && P (bit6 c ⟨k, h⟩))) = true then 1 else 0 := by
  unfold cntU
  rw [List.take_succ_eq_append_getElem (by rw [allN_len]; exact h), List.countP_append, selTo_at h, List.countP_singleton]
theorem cntU_le (P : St6 → Bool) (k : Nat) (c : Nat) : cntU P k c ≤ k := by
  unfold cntU
  have := List.countP_le_length (p := fun a => !a.val.testBit c && (!P a && P (bit6 c a))) (l := selTo.allN.take k)
  rw [List.length_take] at this
  omega
/-- the program within a set: the digits up to a place -/
def midI (P : St6 → Bool) (L : List St6) (a : St6) (D : List Int) (c : Nat) : Nat := cntL P L c + if (c : Int) ∈ D ∧ P (bit6 c a) = false then 1 else 0
theorem midI_zero (P : St6 → Bool) (L : List St6) (a : St6) : rowI (midI P L a []) = rowI (cntL P L) := rowI_congr fun c _ => by unfold midI; simp
theorem midI_all (P : St6 → Bool) {L : List St6} {i : Nat} (h : i < L.length) : rowI (midI P (L.take i) L[i] (digsTo L[i].val 12)) = rowI (cntL P (L.take (i + 1))) := rowI_congr fun c hc => by
  rw [cntL_take P h]
  unfold midI
  congr 1
  have : ((c : Int) ∈ digsTo L[i].val 12 ∧ P (bit6 c L[i]) = false) ↔ (L[i].val.testBit c && !P (bit6 c L[i])) = true := by
    rw [mem_digsTo, Bool.and_eq_true, Bool.not_eq_true']
    constructor
    · rintro ⟨⟨p, hp, _, hd⟩, h2⟩
      obtain rfl : c = p := by omega
      rw [digB_testBit] at hd
      exact ⟨hd, h2⟩
    · rintro ⟨h1, h2⟩
      exact ⟨⟨c, rfl, by omega, by rw [digB_testBit]; exact h1⟩, h2⟩
  simp only [this]
theorem midI_no (P : St6 → Bool) (L : List St6) (a : St6) {D : List Int} {j c0 : Nat} (h : j < D.length) (hc : D[j] = (c0 : Int)) (hp : P (bit6 c0 a) = true) : rowI (midI P L a (D.take (j + 1))) = rowI (midI P L a (D.take j)) := rowI_congr fun c _ => by
  unfold midI
  congr 1
  have : ((c : Int) ∈ D.take (j + 1) ∧ P (bit6 c a) = false) ↔ ((c : Int) ∈ D.take j ∧ P (bit6 c a) = false) := by
    rw [List.take_succ_eq_append_getElem h, List.mem_append, List.mem_singleton, hc]
    constructor
    · rintro ⟨h1 | h1, h2⟩
      · exact ⟨h1, h2⟩
      · obtain rfl : c = c0 := by omega
        rw [hp] at h2; cases h2
    · rintro ⟨h1, h2⟩
      exact ⟨.inl h1, h2⟩
  simp only [this]
theorem midI_yes (P : St6 → Bool) (L : List St6) (a : St6) {D : List Int} (hD : Asc ltI D) {j c0 : Nat} (h : j < D.length) (hc : D[j] = (c0 : Int)) (hp : P (bit6 c0 a) = false) : rowI (fun x => if x = c0 then midI P L a (D.take j) c0 + 1 else midI P L a (D.take j) x) = rowI (midI P L a (D.take (j + 1))) := rowI_congr fun c _ => by
  have hno : (c0 : Int) ∉ D.take j := by
    intro hm
    obtain ⟨q, hq, he⟩ := List.mem_iff_getElem.1 hm
    rw [List.length_take] at hq
    rw [List.getElem_take] at he
    have := List.pairwise_iff_getElem.1 hD q j (by omega) h (by omega)
    rw [he, hc] at this
    unfold ltI at this
    simp at this
  unfold midI
  rw [List.take_succ_eq_append_getElem h]
  by_cases e : c = c0
  · subst e
    rw [if_pos rfl, if_neg (fun h => hno h.1), if_pos ⟨by rw [List.mem_append, List.mem_singleton, hc]; exact .inr rfl, hp⟩]
  · rw [if_neg e]
    congr 1
    have : ((c : Int) ∈ D.take j ∧ P (bit6 c a) = false) ↔ ((c : Int) ∈ D.take j ++ [D[j]] ∧ P (bit6 c a) = false) := by
      rw [List.mem_append, List.mem_singleton, hc]
      constructor
      · exact fun ⟨h1, h2⟩ => ⟨.inl h1, h2⟩
      · rintro ⟨h1 | h1, h2⟩
        · exact ⟨h1, h2⟩
        · exact absurd (by omega) e
    simp only [this]
/-- the model within a set: the colours below c -/
def midU (P : St6 → Bool) (k : Nat) (s : St6) (n : Nat) (c : Nat) : Nat := cntU P k c + if c < n ∧ (!s.val.testBit c && (!P s && P (bit6 c s))) = true then 1 else 0
theorem midU_zero (P : St6 → Bool) (k : Nat) (s : St6) : rowI (midU P k s 0) = rowI (cntU P k) := rowI_congr fun c _ => by unfold midU; simp
theorem midU_all (P : St6 → Bool) {k : Nat} (h : k < 64) : rowI (midU P k ⟨k, h⟩ 6) = rowI (cntU P (k + 1)) := rowI_congr fun c hc => by
  rw [cntU_take P h]; unfold midU; simp [hc]
theorem midU_no (P : St6 → Bool) (k : Nat) (s : St6) {n : Nat} (hq : (!s.val.testBit n && (!P s && P (bit6 n s))) = false) : rowI (midU P k s (n + 1)) = rowI (midU P k s n) := rowI_congr fun c _ => by
  unfold midU
  congr 1
  have : (c < n + 1 ∧ (!s.val.testBit c && (!P s && P (bit6 c s))) = true) ↔ (c < n ∧ (!s.val.testBit c && (!P s && P (bit6 c s))) = true) := by
    constructor
    · rintro ⟨h1, h2⟩
      refine ⟨?_, h2⟩
      rcases Nat.lt_or_ge c n with h3 | h3
      · exact h3
      · obtain rfl : c = n := by omega
        rw [hq] at h2; cases h2
    · exact fun ⟨h1, h2⟩ => ⟨by omega, h2⟩
  simp only [this]
theorem midU_yes (P : St6 → Bool) (k : Nat) (s : St6) {n : Nat} (hq : (!s.val.testBit n && (!P s && P (bit6 n s))) = true) : rowI (fun x => if x = n then midU P k s n n + 1 else midU P k s n x) = rowI (midU P k s (n + 1)) := rowI_congr fun c _ => by
  unfold midU
  by_cases e : c = n
  · subst e
    rw [if_pos rfl, if_neg (fun h => Nat.lt_irrefl _ h.1), if_pos ⟨Nat.lt_succ_self _, hq⟩]
  · rw [if_neg e]
    congr 1
    have : (c < n ∧ (!s.val.testBit c && (!P s && P (bit6 c s))) = true) ↔ (c < n + 1 ∧ (!s.val.testBit c && (!P s && P (bit6 c s))) = true) := ⟨fun ⟨h1, h2⟩ => ⟨by omega, h2⟩, fun ⟨h1, h2⟩ => ⟨by omega, h2⟩⟩
    simp only [this]
theorem midU_le (P : St6 → Bool) (k : Nat) (s : St6) (n c : Nat) : midU P k s n c ≤ k + 1 := by
  have := cntU_le P k c
  unfold midU
  split <;> omega
theorem midI_le (P : St6 → Bool) (L : List St6) (a : St6) (D : List Int) (c : Nat) : midI P L a D c ≤ L.length + 1 := by
  have := cntL_le P L c
  unfold midI
  split <;> omega
end M
namespace C
theorem made_six : (madeCells (Value.int .i64 0).cells (6 * 1)).toList = M.encIs (M.rowI fun _ => 0) := by
  refine List.ext_getElem? fun k => ?_
  rcases Nat.lt_or_ge k 6 with h | h
  · rw [M.rowI_at _ h]
    unfold madeCells
    simp [h, Value.cells, Nat.mod_one]
  · rw [List.getElem?_eq_none (l := M.encIs _) (by rw [M.encIs_len, M.rowI_len]; exact h)]
    unfold madeCells
    simp [h]
theorem make_run6 {i : TypeInfo} (hi : Try.prog.info? 3 = some i) (hz : i.zero = some (.int .i64 0)) (hs : i.size = 1) (hb : i.bytes = 8) : ∃ zs : Array Value, zs.size = 6 ∧ zs.toList = M.encIs (M.rowI fun _ => 0) ∧ ∀ w : World,
    (Instr.makeSlice 23 (.int .i64 6) (.int .i64 6)).run Try.prog w = .ok (.slice (some ⟨w.heap.size, 0, none⟩) 6 6) (w.alloc (.cells zs 3)) := by
  refine ⟨madeCells (Value.int .i64 0).cells (6 * 1), by rw [size_madeCells], made_six, fun w => ?_⟩
  have := run_make (P := Try.prog) w 23 3 i (.int .i64 0) Try.underlying23 hi hz .i64 .i64 6 6 (by omega) (Int.le_refl _) (by rw [hb]; omega) (by omega)
  rw [hs] at this
  exact this
end C
end Go.Proofs.Ytcoaggnilgfjfaa
