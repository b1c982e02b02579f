/-
  MATHEMATICS of FnClutters, own to these proofs: at most twenty sets of which none has another one (chains), the dual of a dual. No condition.
-/
import Derived.Test.YtkkfmleoamhgkaaCuM
namespace Go.Proofs.Ytkkfmleoamhgkaa
open Go.RowKit
namespace M
/-- the chain of a set: of two in one chain, one has all of the other -/
def chainT : List Nat := [0, 0, 1, 0, 2, 2, 1, 0, 3, 3, 4, 3, 5, 2, 1, 0, 6, 6, 7, 6, 8, 8, 7, 6, 9, 9, 4, 3, 5, 2, 1, 0, 10, 10, 11, 10, 12, 12, 11, 10, 13, 13, 14, 13, 15, 12, 11, 10, 16, 16, 17, 16, 18, 8, 7, 6, 19, 9, 4, 3, 5, 2, 1, 0]
def chain (a : St6) : Nat := chainT.getD a.val 0
theorem chain_lt : ∀ a : St6, chain a < 20 := by decide +kernel
theorem chain_cmp : ∀ a b : St6, chain a = chain b → subF a b = true ∨ subF b a = true := by decide +kernel
/-- no more than twenty -/
theorem anti_len {l : List St6} (h : CluOk l) : l.length ≤ 20 := by
  have hn : (l.map chain).Nodup := by
    refine List.pairwise_map.2 (List.Pairwise.imp_of_mem (R := fun a b => ltS a b = true) ?_ h.1)
    intro a b ha hb hlt he
    have : a = b := by
      rcases chain_cmp a b he with e | e
      · exact h.2 a ha b hb e
      · exact (h.2 b hb a ha e).symm
    subst this
    rw [ordS.irrefl] at hlt
    cases hlt
  have := hn.length_le_of_subset (l₂ := List.range 20) (fun x hx => by
    obtain ⟨a, _, rfl⟩ := List.mem_map.1 hx
    exact List.mem_range.2 (chain_lt a))
  rwa [List.length_map, List.length_range] at this
theorem cluF_clu (l : List St6) : CluOk (cluF l) := ⟨cluF_asc l, (cluF_ok l).anti⟩
theorem isClu_intsF {l : List St6} (h : CluOk l) : isCluB (intsF l) = true := isClu_iff.2 ⟨by rw [intsF_len]; exact anti_len h, l, rfl, h⟩
/-- the least of a kind are a clutter -/
theorem leastF_clu {P : St6 → Bool} (hP : ∀ a b, subF a b = true → P a = true → P b = true) : CluOk (leastF P) := by
  refine ⟨List.Pairwise.sublist List.filter_sublist allS_asc, fun x hx y hy hxy => ?_⟩
  have h1 := (leastB_iff hP x).1 (List.mem_filter.1 hx).2
  have h2 := (leastB_iff hP y).1 (List.mem_filter.1 hy).2
  exact h2.2 x h1.1 hxy
theorem leastF_mem {P : St6 → Bool} {x : St6} (h : x ∈ leastF P) : P x = true := by
  have := (List.mem_filter.1 h).2
  unfold leastB at this
  rw [Bool.and_eq_true] at this
  exact this.1
/-- below each of a kind lies a least one -/
theorem leastF_some {P : St6 → Bool} (hP : ∀ a b, subF a b = true → P a = true → P b = true) {a : St6} (h : P a = true) : ∃ d ∈ leastF P, subF d a = true := by
  have e := least_all hP (l := allS.filter P) (fun a => ⟨fun h => (List.mem_filter.1 h).2, fun h => List.mem_filter.2 ⟨mem_allS a, h⟩⟩)
  rw [e]
  exact (cluF_ok _).all a ((srtS_perm _).mem_iff.2 (List.mem_filter.2 ⟨mem_allS a, h⟩))
def coS (b : St6) : St6 := ⟨63 - b.val, by omega⟩
theorem co_meet : ∀ s b : St6, subF s b = false → (s.val &&& (coS b).val == 0) = false := by decide +kernel
theorem co_free : ∀ d b : St6, subF d (coS b) = true → (d.val &&& b.val == 0) = true := by decide +kernel
theorem meet_sub : ∀ s b d : St6, subF s b = true → (s.val &&& d.val == 0) = false → (d.val &&& b.val == 0) = false := by
  intro s b d h1 h2
  unfold subF at h1
  rw [beq_iff_eq] at h1
  rw [beq_eq_false_iff_ne] at *
  intro h0
  apply h2
  rw [← h1, Nat.and_comm, ← Nat.and_assoc, h0, Nat.zero_and]
theorem meetF_iff (sl : List St6) (b : St6) : meetF (intsF sl) b = true ↔ ∀ s ∈ sl, (s.val &&& b.val == 0) = false := by
  unfold meetF meetB intsF
  rw [List.all_map, List.all_eq_true]
  refine forall_congr' fun s => forall_congr' fun _ => ?_
  show (!(bits .and .i64 (s.val : Int) (b.val : Int) == 0)) = true ↔ _
  rw [and_nat s.isLt b.isLt, Bool.not_eq_true', beq_eq_false_iff_ne, beq_eq_false_iff_ne]
  omega
/-- what meets the whole dual has one of the clutter -/
theorem meet_dual (sl : List St6) : meetF (intsF (leastF (meetF (intsF sl)))) = hasOneB sl := by
  funext b
  have hup := meetF_more (keysB_intsF sl)
  rw [Bool.eq_iff_iff, meetF_iff]
  constructor
  · intro h
    cases hb : hasOneB sl b with
    | true => rfl
    | false =>
      have hno : ∀ s ∈ sl, subF s b = false := fun s hs => by
        rw [Bool.eq_false_iff]
        intro he
        have : hasOneB sl b = true := List.any_eq_true.2 ⟨s, hs, he⟩
        rw [hb] at this; cases this
      have hco : meetF (intsF sl) (coS b) = true := (meetF_iff _ _).2 fun s hs => co_meet s b (hno s hs)
      obtain ⟨d, hd, hs⟩ := leastF_some hup hco
      have := h d hd
      rw [co_free d b hs] at this
      cases this
  · intro h d hd
    obtain ⟨s, hs, hsb⟩ := List.any_eq_true.1 h
    exact meet_sub s b d hsb ((meetF_iff _ _).1 (leastF_mem hd) s hs)
theorem dual_clu {l : List Int} (h : isCluB l = true) : isCluB (dualV l) = true := by
  rw [dualV_yes h]
  exact isClu_intsF (leastF_clu (meetF_more (clu_keys h)))
theorem dual_dual {l : List Int} (h : isCluB l = true) : dualV (dualV l) = l := by
  have h2 := dual_clu h
  rw [dualV_yes h2, dualV_yes h]
  obtain ⟨_, sl, rfl, hc⟩ := isClu_iff.1 h
  rw [meet_dual, least_list, cluF_self.2 hc]
theorem dual_meets {l : List Int} (h : isCluB l = true) {x : Int} (hx : x ∈ dualV l) : meetV l x = true ∧ askM l x = true := by
  rw [dualV_yes h] at hx
  obtain ⟨d, hd, rfl⟩ := List.mem_map.1 hx
  have hs : setB (d.val : Int) = true := setB_iff.2 ⟨by omega, by omega⟩
  have ha : askM l (d.val : Int) = true := by unfold askM; rw [h, hs]; rfl
  exact ⟨by unfold meetV; rw [ha, Bool.true_and]; exact leastF_mem hd, ha⟩
/-- of a list of sets -/
theorem clu_clu {l : List Int} (h : keysB l = true) : isCluB (cluV l) = true := by
  obtain ⟨sl, rfl, hc⟩ := cluV_yes h
  rw [hc]
  exact isClu_intsF (cluF_clu sl)
theorem clu_some {l : List Int} (h : keysB l = true) {x : Int} (hx : x ∈ l) : ∃ k, ∃ hk : k < (cluV l).length, bits .and .i64 x (cluV l)[k] = (cluV l)[k] := by
  obtain ⟨sl, rfl, hc⟩ := cluV_yes h
  obtain ⟨s, hs, rfl⟩ := List.mem_map.1 hx
  obtain ⟨y, hy, hsub⟩ := (cluF_ok sl).all s ((srtS_perm sl).mem_iff.2 hs)
  obtain ⟨k, hk, e⟩ := List.getElem_of_mem hy
  refine ⟨k, by rw [hc, intsF_len]; exact hk, ?_⟩
  have he : (cluV (intsF sl))[k]? = some (y.val : Int) := by
    rw [hc, List.getElem?_eq_getElem (by rw [intsF_len]; exact hk), intsF_at hk, e]
  have he2 : (cluV (intsF sl))[k]'(by rw [hc, intsF_len]; exact hk) = (y.val : Int) := by
    rw [List.getElem?_eq_getElem (by rw [hc, intsF_len]; exact hk)] at he
    exact Option.some.inj he
  rw [he2, and_nat s.isLt y.isLt]
  unfold subF at hsub
  rw [beq_iff_eq] at hsub
  rw [hsub]
end M
end Go.Proofs.Ytkkfmleoamhgkaa
