/-
  WORDS for the table of reached lever sets, own to these proofs. No condition.
  WORDS for the table of reached lever sets as the program fills it, own to these proofs. No condition.
  CONTRACT of the model's ReachTable; what lay in memory stays. No condition but that the works read so.
  CONTRACT of the program's ReachTable; what lay in memory stays. No condition but that the works read so.
-/
import Derived.Test.YtdgfceiobpnchaaFew8S
import Derived.Test.YtdgfceiobpnchaaRTab
import Derived.Test.YtdgfceiobpnchaaSrtI8
import Derived.Test.YtdgfceiobpnchaaIdsV
import Derived.Test.YtdgfceiobpnchaaOwn
import Derived.StillTailTactics
import Derived.Deep.Cut
import Derived.Test.YtdgfceiobpnchaaLate
import Derived.Test.YtdgfceiobpnchaaStep
import Derived.Deep.RegionHeld3
import Derived.OwnWalk
namespace Go.Proofs.Ytdgfceiobpnchaa
open Go.RowKit
namespace M
/-- the lever sets of a node that have a number, among the first k -/
def rchR (f : Vs → Option Nat) (x : Int) : Nat → List Int
  | 0 => []
  | k + 1 => rchR f x k ++ if (f (x, (k : Int))).isSome then [(k : Int)] else []
theorem rchR_none {f : Vs → Option Nat} {x : Int} {k : Nat} (h : f (x, (k : Int)) = none) : rchR f x (k + 1) = rchR f x k := by
  show rchR f x k ++ (if (f (x, (k : Int))).isSome then [(k : Int)] else []) = _
  rw [h]
  exact List.append_nil _
theorem rchR_some {f : Vs → Option Nat} {x : Int} {k v : Nat} (h : f (x, (k : Int)) = some v) : rchR f x (k + 1) = rchR f x k ++ [(k : Int)] := by
  show rchR f x k ++ (if (f (x, (k : Int))).isSome then [(k : Int)] else []) = _
  rw [h]
  rfl
theorem rchR_len (f : Vs → Option Nat) (x : Int) : ∀ k, (rchR f x k).length ≤ k
  | 0 => Nat.le_refl _
  | k + 1 => by
    have := rchR_len f x k
    show (rchR f x k ++ if (f (x, (k : Int))).isSome then [(k : Int)] else []).length ≤ _
    rw [List.length_append]
    split
    · rw [List.length_singleton]; omega
    · rw [List.length_nil]; omega
def rchT (f : Vs → Option Nat) : Nat → List (List Int)
  | 0 => []
  | k + 1 => rchT f k ++ [rchR f (k : Int) 64]
theorem rchT_succ (f : Vs → Option Nat) (k : Nat) : rchT f (k + 1) = rchT f k ++ [rchR f (k : Int) 64] := rfl
theorem rchT_len (f : Vs → Option Nat) : ∀ k, (rchT f k).length = k
  | 0 => rfl
  | k + 1 => by rw [rchT_succ, List.length_append, rchT_len f k]; rfl
noncomputable def rchV (m : Wk) : List (List Int) := if worksB m then rchT (dst (nextW m) [(0, 0)]) m.size.toNat else []
theorem rch_off {m : Wk} (h : worksB m = false) : rchV m = [] := by unfold rchV; rw [h]; rfl
theorem rch_on {m : Wk} (h : worksB m = true) : rchV m = rchT (dst (nextW m) [(0, 0)]) m.size.toNat := by unfold rchV; rw [h]; rfl
end M
end Go.Proofs.Ytdgfceiobpnchaa
namespace Go.Proofs.Ytdgfceiobpnchaa
open Go.RowKit
namespace M
theorem rchR_mem {f : Vs → Option Nat} {x l : Int} : ∀ {k : Nat}, l ∈ rchR f x k ↔ ∃ j : Nat, j < k ∧ l = (j : Int) ∧ (f (x, (j : Int))).isSome = true
  | 0 => ⟨fun h => (by cases h), fun ⟨j, h, _⟩ => (by omega)⟩
  | k + 1 => by
    show l ∈ (rchR f x k ++ if (f (x, (k : Int))).isSome then [(k : Int)] else []) ↔ _
    rw [List.mem_append, rchR_mem]
    constructor
    · rintro (⟨j, hj, e, h⟩ | h)
      · exact ⟨j, by omega, e, h⟩
      · split at h
        · rename_i hs
          rw [List.mem_singleton] at h
          exact ⟨k, by omega, h, hs⟩
        · cases h
    · rintro ⟨j, hj, e, h⟩
      rcases Nat.lt_or_ge j k with hk | hk
      · exact .inl ⟨j, hk, e, h⟩
      · obtain rfl : j = k := by omega
        right
        rw [if_pos h, List.mem_singleton]
        exact e
theorem rchR_asc (f : Vs → Option Nat) (x : Int) : ∀ k, Asc ltI (rchR f x k)
  | 0 => List.Pairwise.nil
  | k + 1 => by
    show Asc ltI (rchR f x k ++ if (f (x, (k : Int))).isSome then [(k : Int)] else [])
    unfold Asc
    rw [List.pairwise_append]
    refine ⟨rchR_asc f x k, by split <;> simp, fun p hp q hq => ?_⟩
    obtain ⟨j, hj, e, _⟩ := rchR_mem.1 hp
    split at hq
    · rw [List.mem_singleton] at hq
      subst hq
      unfold ltI
      rw [decide_eq_true_iff]
      omega
    · cases hq
/-- the rows hold, each once, the lever sets of the visits of S -/
def Seen (ll : List (List Int)) (S : Vs → Prop) : Prop := ∀ x (hx : x < ll.length), (ll[x]).Nodup ∧ ∀ l : Int, l ∈ ll[x] ↔ S ((x : Int), l)
theorem seen_start (n : Nat) : Seen (List.replicate n []) (fun _ => False) := fun x hx => by
  rw [List.getElem_replicate]
  exact ⟨List.nodup_nil, fun l => by simp⟩
theorem Seen.congr {ll : List (List Int)} {S S' : Vs → Prop} (h : Seen ll S) (e : ∀ t, S t ↔ S' t) : Seen ll S' := fun x hx => ⟨(h x hx).1, fun l => ((h x hx).2 l).trans (e _)⟩
theorem Seen.step {ll : List (List Int)} {S S' : Vs → Prop} (h : Seen ll S) {x : Nat} (hx : x < ll.length) {l : Int} (hn : ¬ S ((x : Int), l)) (e : ∀ t, S' t ↔ S t ∨ t = ((x : Int), l)) : Seen (ll.set x (ll[x] ++ [l])) S' := fun y hy => by
  rw [List.length_set] at hy
  obtain ⟨h1, h2⟩ := h y hy
  by_cases hxy : y = x
  · subst hxy
    rw [List.getElem_set_self]
    refine ⟨?_, fun q => ?_⟩
    · rw [List.nodup_append]
      refine ⟨h1, by simp, fun a ha b hb hab => ?_⟩
      rw [List.mem_singleton] at hb
      subst hb; subst hab
      exact hn ((h2 a).1 ha)
    · rw [List.mem_append, List.mem_singleton, h2, e]
      constructor
      · rintro (h | rfl)
        · exact .inl h
        · exact .inr rfl
      · rintro (h | h)
        · exact .inl h
        · injection h with _ h; exact .inr h
  · rw [List.getElem_set_ne (fun e2 => hxy e2.symm)]
    refine ⟨h1, fun q => ?_⟩
    rw [h2, e]
    constructor
    · exact .inl
    · rintro (h | h)
      · exact h
      · injection h with h _
        omega
theorem Seen.sorted {m : Wk} {ll : List (List Int)} {f : Vs → Option Nat} (h : Seen ll (fun t => ∃ k, f t = some k)) (hf : ∀ t k, f t = some k → VsOk m t) {x : Nat} (hx : x < ll.length) : srtI ll[x] = rchR f (x : Int) 64 := by
  obtain ⟨h1, h2⟩ := h x hx
  refine Asc.ext ordI (srtI_asc h1) (rchR_asc f _ _) fun l => ?_
  rw [(srtI_perm _).mem_iff, h2, rchR_mem]
  constructor
  · rintro ⟨k, hk⟩
    obtain ⟨_, _, h3, h4⟩ := hf _ k hk
    refine ⟨l.toNat, by simp only at h3 h4; omega, (Int.toNat_of_nonneg h3).symm, ?_⟩
    rw [Int.toNat_of_nonneg h3, hk]
    rfl
  · rintro ⟨j, _, rfl, hj⟩
    exact Option.isSome_iff_exists.1 hj
theorem rchT_at (f : Vs → Option Nat) : ∀ (n k : Nat), k < n → (rchT f n)[k]? = some (rchR f (k : Int) 64)
  | 0, k, h => by omega
  | n + 1, k, h => by
    rw [rchT_succ]
    rcases Nat.lt_or_ge k n with hk | hk
    · rw [List.getElem?_append_left (by rw [rchT_len]; exact hk)]
      exact rchT_at f n k hk
    · obtain rfl : k = n := by omega
      rw [List.getElem?_append_right (by rw [rchT_len]; exact Nat.le_refl _), rchT_len, Nat.sub_self]
      rfl
theorem Seen.table {m : Wk} {ll : List (List Int)} {f : Vs → Option Nat} (h : Seen ll (fun t => ∃ k, f t = some k)) (hf : ∀ t k, f t = some k → VsOk m t) : ll.map srtI = rchT f ll.length := by
  refine List.ext_getElem? fun k => ?_
  rcases Nat.lt_or_ge k ll.length with hk | hk
  · rw [List.getElem?_map, List.getElem?_eq_getElem hk, rchT_at f _ k hk, ← h.sorted hf hk]
    rfl
  · rw [List.getElem?_eq_none (by rw [List.length_map]; exact hk), List.getElem?_eq_none (by rw [rchT_len]; exact hk)]
def mixT (ll : List (List Int)) (k : Nat) : List (List Int) := (ll.take k).map srtI ++ ll.drop k
theorem mix_start (ll : List (List Int)) : mixT ll 0 = ll := by unfold mixT; simp
theorem mix_end (ll : List (List Int)) : mixT ll ll.length = ll.map srtI := by unfold mixT; simp
theorem mix_len (ll : List (List Int)) (k : Nat) (hk : k ≤ ll.length) : (mixT ll k).length = ll.length := by unfold mixT; rw [List.length_append, List.length_map, List.length_take, List.length_drop]; omega
theorem mix_at {ll : List (List Int)} {k : Nat} (hk : k < ll.length) : (mixT ll k)[k]? = some ll[k] := by
  unfold mixT
  have hl : ((ll.take k).map srtI).length = k := by rw [List.length_map, List.length_take]; omega
  rw [List.getElem?_append_right (by omega), hl, Nat.sub_self, List.getElem?_drop, Nat.add_zero, List.getElem?_eq_getElem hk]
theorem mix_set {ll : List (List Int)} {k : Nat} (hk : k < ll.length) : (mixT ll k).set k (srtI ll[k]) = mixT ll (k + 1) := by
  unfold mixT
  have hl : ((ll.take k).map srtI).length = k := by rw [List.length_map, List.length_take]; omega
  rw [List.set_append_right _ _ (by omega), hl, Nat.sub_self, List.drop_eq_getElem_cons hk, List.set_cons_zero, List.take_succ_eq_append_getElem hk, List.map_append, List.append_assoc]
  rfl
theorem srtI_nil : srtI [] = [] := List.eq_nil_of_length_eq_zero (srtI_len [])
theorem mix_same {ll : List (List Int)} {k : Nat} (hk : k < ll.length) (h : ll[k] = []) : mixT ll (k + 1) = mixT ll k := by
  rw [← mix_set hk, h, srtI_nil]
  refine List.ext_getElem? fun i => ?_
  by_cases e : i = k
  · subst e
    rw [mix_at hk, h, List.getElem?_set_self (by rw [mix_len ll i (by omega)]; exact hk)]
  · rw [List.getElem?_set_ne (fun e2 => e e2.symm)]
theorem rch_tot (f : Vs → Option Nat) : ∀ n, totL (encSS (rchT f n)) ≤ n * 64
  | 0 => Nat.zero_le _
  | n + 1 => by
    have h := rch_tot f n
    have h2 := rchR_len f (n : Int) 64
    have e : encSS (rchT f (n + 1)) = encSS (rchT f n) ++ [encIs (rchR f (n : Int) 64)] := by rw [rchT_succ]; unfold encSS; rw [List.map_append]; rfl
    rw [e, totL_append, totL_cons, totL_nil, encIs_len]
    omega
theorem rchV_bd (m : Wk) : (rchV m).length ≤ 1048576 ∧ totL (encSS (rchV m)) ≤ 1048576 := by
  cases h : worksB m with
  | false => rw [rch_off h]; exact ⟨Nat.zero_le _, Nat.zero_le _⟩
  | true =>
    have v12 := (wv_of h).size12
    have := rch_tot (dst (nextW m) [(0, 0)]) m.size.toNat
    rw [rch_on h, rchT_len]
    omega
end M
namespace C
/-- a row has been appended to -/
theorem RowsT.app {B : Nat} {w w' : World} {V : List Sl} {ll : List (List Int)} (h : RowsT B w V ll) {k : Nat} {u u' : Sl} {l : List Int} (hu : V[k]? = some u) (g : w.grownBy w' u.1) (hl : u'.2.1 = l.length) (ho : w'.ownsRow B 3 1 (slV u') l.length (M.encIs l))
    (hn : ∀ z, u'.1 = some z → u.1 = some z ∨ w.heap.size ≤ z) : RowsT B w' (V.set k u') (ll.set k l) := by
  have hk : k < V.length := (List.getElem?_eq_some_iff.1 hu).1
  have hkl : k < ll.length := by rw [← h.len]; exact hk
  refine ⟨by rw [List.length_set, List.length_set, h.len], fun i v x hv hx => ?_, fun i j v v' hv hv' hij z hz => ?_⟩
  · by_cases e : i = k
    · subst e
      rw [List.getElem?_set_self hk] at hv
      rw [List.getElem?_set_self hkl] at hx
      injection hv with hv
      injection hx with hx
      subst hv; subst hx
      exact ⟨hl, ho⟩
    · rw [List.getElem?_set_ne (fun e2 => e e2.symm)] at hv hx
      obtain ⟨h1, h2⟩ := h.row i v x hv hx
      refine ⟨h1, ?_⟩
      cases ev : v.1 with
      | none => exact h2.kept g (.inl (by rw [slV_block]; exact ev))
      | some z => exact h2.kept g (.inr (by rw [slV_block, ev]; exact fun e2 => h.apart i k v u hv hu e z ev e2.symm))
  · by_cases e : i = k
    · subst e
      rw [List.getElem?_set_self hk] at hv
      injection hv with hv
      subst hv
      rw [List.getElem?_set_ne hij] at hv'
      intro ev
      rcases hn z hz with h1 | h1
      · exact h.apart i j u v' hu hv' hij z h1 ev
      · have := h.base hv' z ev
        omega
    · rw [List.getElem?_set_ne (fun e2 => e e2.symm)] at hv
      by_cases e' : j = k
      · subst e'
        rw [List.getElem?_set_self hk] at hv'
        injection hv' with hv'
        subst hv'
        intro ev
        rcases hn z ev with h1 | h1
        · exact h.apart i j v u hv hu hij z hz h1
        · have := h.base hv z hz
          omega
      · rw [List.getElem?_set_ne (fun e2 => e' e2.symm)] at hv'
        exact h.apart i j v v' hv hv' hij z hz
/-- the table as a law reads it -/
theorem RowsT.own {B : Nat} {w : World} {V : List Sl} {ll : List (List Int)} {g n c : Nat} (hr : RowsT B w V ll) (ho : w.ownsRow B 23 1 (.slice (some ⟨g, 0, none⟩) n c) n (V.map slV)) (hd : ∀ u ∈ V, ∀ z, u.1 = some z → g ≠ z) : OwnSS B w.heap.size w (some ⟨g, 0, none⟩) V (M.encSS ll) := by
  refine ⟨by rw [hr.len]; unfold M.encSS; rw [List.length_map], OwnAt.of_own ho, fun i u x hu hx => ?_, hr.apart, fun u hu p hp e => ?_⟩
  · unfold M.encSS at hx
    rw [List.getElem?_map] at hx
    obtain ⟨l, hl, rfl⟩ := Option.map_eq_some_iff.1 hx
    obtain ⟨e1, e2⟩ := hr.row i u l hu hl
    refine ⟨by rw [M.encIs_len]; exact e1, hr.base hu, ?_⟩
    obtain ⟨p, n, c⟩ := u
    rcases e2.2 with ⟨e, h0⟩ | ⟨g, cap, cur, e, hb', hh, hn, hm, hs, ht⟩
    · refine .inl (List.eq_nil_of_length_eq_zero ?_)
      rw [e2.1, h0, Nat.zero_mul]
    · have eg : p = some g := by
        have := congrArg Value.ownBlock e
        rw [slV_block] at this
        exact this
      subst eg
      refine .inr ⟨g, 0, cur, rfl, Nat.le_refl _, Nat.lt_succ_self _, hh, fun j x hx => ?_⟩
      rw [← ht, List.getElem?_take] at hx
      split at hx
      · rw [Nat.zero_add]; simpa using hx
      · cases hx
  · injection hp with hp
    subst hp
    exact hd u hu _ e rfl
theorem made_nil (n : Nat) : (madeCells (Value.slice none 0 0).cells (n * 1)).toList = (List.replicate n ((none, 0, 0) : Sl)).map slV := by
  refine List.ext_getElem? fun k => ?_
  unfold madeCells
  rcases Nat.lt_or_ge k n with h | h
  · simp [h, Value.cells, Nat.mod_one, slV, adr]
  · simp [h]
theorem RowsT.start (B : Nat) (w : World) (n : Nat) : RowsT B w (List.replicate n ((none, 0, 0) : Sl)) (List.replicate n []) := by
  refine ⟨by simp, fun i u l hu hl => ?_, fun i j u v hu hv _ g hg => ?_⟩
  · rw [List.getElem?_replicate] at hu hl
    split at hu
    · rename_i hi
      rw [if_pos hi] at hl
      injection hu with hu
      injection hl with hl
      subst hu; subst hl
      exact ⟨rfl, ⟨rfl, .inl ⟨rfl, rfl⟩⟩⟩
    · cases hu
  · rw [List.getElem?_replicate] at hu
    split at hu
    · injection hu with hu
      subst hu
      cases hg
    · cases hu
theorem turned_of_grown {w w' : World} {p : Option Nat} (g : w.grownBy w' p) : Turned (loB p) (hiB p) w w' := ⟨g.os, g.tape, g.output, g.size, fun k hk ho => g.block k hk (fun e => by
  subst e
  have : k < k ∨ k + 1 ≤ k := ho
  omega)⟩
theorem far_of {p : Option Nat} {b : Nat} (h : p ≠ some b) : b < loB p ∨ hiB p ≤ b := by
  cases p with
  | none => exact .inr (Nat.zero_le _)
  | some r =>
    have : r ≠ b := fun e => h (by rw [e])
    show b < r ∨ r + 1 ≤ b
    omega
theorem own_turnedZ {w w' : World} {lo hi B size n : Nat} {e : TypeId} {v : Value} {xs : List Value} (h : w.ownsRow B e size v n xs) (t : Turned lo hi w w') (hd : ∀ z, v.ownBlock = some z → z < lo ∨ hi ≤ z) : w'.ownsRow B e size v n xs := by
  refine ⟨h.1, ?_⟩
  rcases h.2 with h' | ⟨g, cap, cur, hv, hb, hh, hr⟩
  · exact .inl h'
  · exact .inr ⟨g, cap, cur, hv, hb, (t.block g (heap_lt hh) (hd g (by rw [hv]; rfl))).trans hh, hr⟩
theorem RowsT.turned {B : Nat} {w w' : World} {lo hi : Nat} {V : List Sl} {ll : List (List Int)} (h : RowsT B w V ll) (t : Turned lo hi w w') (hd : ∀ u ∈ V, ∀ z, u.1 = some z → z < lo ∨ hi ≤ z) : RowsT B w' V ll :=
  ⟨h.len, fun i u l hu hl => ⟨(h.row i u l hu hl).1, own_turnedZ (h.row i u l hu hl).2 t fun z hz => hd u (List.mem_of_getElem? hu) z (by rw [slV_block] at hz; exact hz)⟩, h.apart⟩
theorem encSS_set (X : List (List Int)) (k : Nat) (r : List Int) : (M.encSS X).set k (M.encIs r) = M.encSS (X.set k r) := by unfold M.encSS; rw [List.map_set]
end C
end Go.Proofs.Ytdgfceiobpnchaa
namespace Go.Proofs.Ytdgfceiobpnchaa
open Go.RowKit
namespace C
set_option maxHeartbeats 3200000
set_option maxRecDepth 20000
theorem specRch_lw (w : World) (lo hi : Nat) (m : M.Wk) (a b : Option Addr) (c d : Nat) (h : WkIn lo hi w m a c b d) (hz : hi ≤ w.heap.size) (_h1 : m.gates.length ≤ 1048576) (_h2 : m.pulls.length ≤ 1048576) :
    Calls Try.prog 43 #[.agg #[.int .i64 m.size, .slice a m.gates.length c, .slice b m.pulls.length d]] w (IntssOkPost w (M.rchV m) (M.worksB m)) := by
  obtain ⟨ii0, hi0, hz0, hzz1, hz2⟩ := info_parts infoI
  obtain ⟨tt0, ti0, tz0, tzz1, tz2⟩ := info_parts infoII
  have H := Lib.hid h
  clear h
  go_enter Try.func43, Try.ntmps43
  go_upto_region 2 with fail
  refine wp_named ?_
  intro W hW
  have hb : Below w.heap.size w W := by rw [hW]; exact (below_alloc _ _).alloc (by simp) _
  have x1 : Box3 W w.heap.size 28 (.int .i64 m.size) (.slice a m.gates.length c) (.slice b m.pulls.length d) := by rw [hW]; exact (Box3.new _ _ _ _ rfl).alloc _
  have o1 : W.ownsRow (w.heap.size + 1) 23 1 (.slice (some ⟨w.heap.size + 1, 0, none⟩) 0 0) 0 [] := by
    rw [hW]
    have := ownsRow_empty (w.alloc (.cells #[.int .i64 m.size, .slice a m.gates.length c, .slice b m.pulls.length d] 28)) (w.heap.size + 1) 23 1 (by simp)
    rw [World.size_alloc] at this
    exact this
  clear hW
  have hzw := hb.size
  have O1 := Lib.hid o1
  have hol : w.heap.size + 1 < W.heap.size := (o1.lt _ rfl).2
  obtain ⟨c0, c1, c2⟩ := x1.cells
  have HIM := Lib.hid (specWorks_any W lo hi m a b c d (H.out.below hb hz) (by omega))
  go_wp2_with fail
  refine (HIM.out).mono ?_
  rintro e w1 ⟨rfl, hb1⟩
  have X1 := Lib.hid (x1.below hb1)
  have HB1 := Lib.hid (hb.trans (hb1.mono hzw))
  have O2 := Lib.hid (own_below O1.out hb1)
  have hz1 := hb1.size
  clear hb hb1 x1 c0 c1 c2 o1
  cases q0 : M.worksB m with
  | false =>
    have HF := Lib.hid (M.rch_off q0)
    have HM := Lib.hid q0
    clear q0
    go_wp2_with fail
    go_ret2
    rw [HF.out, HM.out]
    exact intssOk_end (ll := []) (V := []) (RowsT.nil _ _) (own_weak O2.out (by omega)) (fun _ h => (by cases h)) HB1.out
  | true =>
    have HV := Lib.hid (M.wv_of q0)
    have v1 := HV.out.size1
    have v12 := HV.out.size12
    obtain ⟨n, hn'⟩ : ∃ n : Nat, (n : Int) = m.size := ⟨m.size.toNat, by omega⟩
    have hn12 : n ≤ 12 := by omega
    have hnt : m.size.toNat = n := by omega
    have HF : Hid (M.rchV m = M.rchT (M.dstC (M.edgeW m false) (0, 0)) n) := Lib.hid (by rw [M.rch_on q0, M.dst_same, hnt])
    have HM := Lib.hid q0
    have HN := Lib.hid hn'
    clear q0
    have hsz : M.size64 m = n * 64 := by unfold M.size64; omega
    have HSP := Lib.hid (show Calls _ _ _ w1 (IntsPost w1 (M.tblL (n * 64) (M.dstC (M.edgeW m false) (0, 0)))) by rw [← hsz]; exact l8Spread_any w1 lo hi m a b c d (H.out.below HB1.out hz) (by have := HB1.out.size; omega) HV.out (0, 0) (M.vs0_ok HV.out) false)
    have HOK := Lib.hid (fun (x l : Nat) (hx : x < n) (hl : l < 64) => (show M.VsOk m ((x : Int), (l : Int)) from ⟨by show 0 ≤ (x : Int); omega, by show (x : Int) < m.size; omega, by show 0 ≤ (l : Int); omega, by show (l : Int) < 64; omega⟩))
    have HIL := Lib.hid (fun (x l : Nat) (hx : x < n) (hl : l < 64) => (show M.idN ((x : Int), (l : Int)) < n * 64 by have := M.idN_lt (HOK.out x l hx hl); rw [hnt] at this; exact this))
    have HUN := Lib.hid (fun (x l : Nat) (hx : x < n) (hl : l < 64) => M.unid_idN (HOK.out x l hx hl))
    generalize M.dstC (M.edgeW m false) (0, 0) = f at *
    obtain ⟨c0, c1, c2⟩ := X1.out.cells
    clear hn' hsz hnt
    go_wp2_with fail
    refine (HSP.out).mono ?_
    rintro e w2 ⟨ra, rc, rfl, ho2, hrc1, hrc2, hb2⟩
    have HTL := Lib.hid (M.tblL_len (n * 64) f)
    rw [HTL.out] at hrc1 ⊢
    have hs2 := hb2.size
    have X2 := Lib.hid (X1.out.below hb2)
    have B2 := Lib.hid (HB1.out.trans (hb2.mono (by omega)))
    have O3 := Lib.hid (own_below O2.out hb2)
    have R2 : Hid (RowIn w1.heap.size w2.heap.size w2 ra (M.encIs (M.tblL (n * 64) f))) := Lib.hid ho2.row
    have h0l : w.heap.size + 1 < w1.heap.size := by omega
    clear ho2 hb2 c0 c1 c2
    generalize w1.heap.size = glo at *
    go_wp2_with fail
    go_loopw [4, 6] (fun v4 v6 wr => ∃ (k g5 c5 : Nat) (V : List Sl), k ≤ n ∧ v6 = .int .i64 (k : Int) ∧ v4 = .slice (some ⟨g5, 0, none⟩) k c5 ∧ wr.ownsRow (w.heap.size + 1) 23 1 v4 k (V.map slV) ∧ RowsT (w.heap.size + 1) wr V (M.rchT f k) ∧ (∀ u ∈ V, ∀ z, u.1 = some z → g5 ≠ z) ∧
      RowIn glo w2.heap.size wr ra (M.encIs (M.tblL (n * 64) f)) ∧ (g5 < glo ∨ w2.heap.size ≤ g5) ∧ (∀ u ∈ V, ∀ z, u.1 = some z → w2.heap.size ≤ z) ∧ Box3 wr w.heap.size 28 (.int .i64 m.size) (.slice a m.gates.length c) (.slice b m.pulls.length d) ∧ Below w.heap.size w wr ∧ w2.heap.size ≤ wr.heap.size) (fun _ v6 _ => n - (intOf v6).toNat)
    case atStart => exact ⟨0, w.heap.size + 1, 0, [], Nat.zero_le _, rfl, rfl, O3.out, RowsT.nil _ _, fun _ h => (by cases h), R2.out, .inl h0l, fun _ h => (by cases h), X2.out, B2.out, Nat.le_refl _⟩
    case round =>
      obtain ⟨k, g5, c5, V, hk, rfl, rfl, ho, hr, hd, hrow, hzn, hvz, hx, hlow, hsw⟩ := hrel
      have OO := Lib.hid ho
      have RR := Lib.hid hr
      have DD := Lib.hid hd
      have RW := Lib.hid hrow
      have XX := Lib.hid hx
      have LL := Lib.hid hlow
      have VZ := Lib.hid hvz
      have hzr := hlow.size
      have hxl9 := hx.lt
      have hg5 : w.heap.size + 1 ≤ g5 ∧ g5 < wr.heap.size := ho.lt _ rfl
      obtain ⟨c0, c1, c2⟩ := hx.cells
      rw [← HN.out] at c0
      clear ho hr hd hrow hx hlow hvz
      by_cases hkl : k < n
      · have hki : (k : Int) < (n : Int) := by omega
        have HST := Lib.hid (M.rchT_succ f k)
        have OI := Lib.hid (ownsRow_empty wr wr.heap.size 3 1 (Nat.le_refl _))
        have O4 := Lib.hid (OO.out.alloc (.cells #[] 3))
        have R4 := Lib.hid (RR.out.alloc (.cells #[] 3))
        have RW4 := Lib.hid (RW.out.turned (Turned.of_below (below_alloc wr (.cells #[] 3)) 0 0) hsw (.inr (Nat.zero_le _)))
        have X4 := Lib.hid (XX.out.alloc (.cells #[] 3))
        have L4 := Lib.hid (LL.out.alloc (by omega) (.cells #[] 3))
        have UB := Lib.hid (fun u (hu : u ∈ V) z (hz : u.1 = some z) => (RR.out.baseM hu z hz).2)
        clear RR RW XX LL OO c1 c2
        go_wp2_with fail
        generalize hgr : wr.heap.size = gr at *
        have HGR := Lib.hid hgr
        clear hgr
        go_loopw [7, 8] (fun v7 v8 ws => ∃ (l g7 c7 : Nat), l ≤ 64 ∧ v8 = .int .i64 (l : Int) ∧ v7 = .slice (some ⟨g7, 0, none⟩) (M.rchR f (k : Int) l).length c7 ∧ ws.ownsRow gr 3 1 v7 (M.rchR f (k : Int) l).length (M.encIs (M.rchR f (k : Int) l)) ∧ ws.ownsRow (w.heap.size + 1) 23 1 (.slice (some ⟨g5, 0, none⟩) k c5) k (V.map slV) ∧ RowsT (w.heap.size + 1) ws V (M.rchT f k) ∧
          RowIn glo w2.heap.size ws ra (M.encIs (M.tblL (n * 64) f)) ∧ Box3 ws w.heap.size 28 (.int .i64 m.size) (.slice a m.gates.length c) (.slice b m.pulls.length d) ∧ Below w.heap.size w ws ∧ gr ≤ ws.heap.size) (fun _ v8 _ => 64 - (intOf v8).toNat)
        case atStart => exact ⟨0, gr, 0, Nat.zero_le _, rfl, rfl, OI.out, O4.out, R4.out, RW4.out, X4.out, L4.out, by rw [World.size_alloc, HGR.out]; omega⟩
        case round =>
          obtain ⟨l, g7, c7, hl, rfl, rfl, ho7, ho5, hr, hrow, hx, hlow, hgs⟩ := hrel
          have O7 := Lib.hid ho7
          have O5 := Lib.hid ho5
          have RR := Lib.hid hr
          have RW := Lib.hid hrow
          have XX := Lib.hid hx
          have LL := Lib.hid hlow
          have hzs := hlow.size
          have hxs := hx.lt
          have hrl := M.rchR_len f (k : Int) l
          have hg7 : gr ≤ g7 ∧ g7 < wr.heap.size := ho7.lt _ rfl
          clear ho7 ho5 hr hrow hx hlow
          by_cases hll : l < 64
          · have hli : (l : Int) < 64 := by omega
            have HID := Lib.hid (l4Id_any (k : Int) (l : Int) wr (by omega) (by omega) (by omega) (by omega))
            have hil := HIL.out k l hkl hll
            obtain ⟨sb, off, hsa, _, hsb, hcell⟩ := RW.out.at_ (k := M.idN ((k : Int), (l : Int))) (by rw [M.encIs_len, HTL.out]; exact hil)
            subst hsa
            have y0 := hcell _ _ (M.tblL_at hil)
            rw [HUN.out k l hkl hll] at y0
            have hsbl : sb < wr.heap.size := by omega
            have HRN := Lib.hid (fun (h : f ((k : Int), (l : Int)) = none) => M.rchR_none h)
            have HRS := Lib.hid (fun (v : Nat) (h : f ((k : Int), (l : Int)) = some v) => M.rchR_some h)
            clear hcell
            generalize M.idN ((k : Int), (l : Int)) = i at *
            generalize f ((k : Int), (l : Int)) = r at *
            cases r with
            | none =>
              have HR := Lib.hid (HRN.out rfl)
              rw [M.optI_none] at y0
              go_wp2_with fail
              refine (HID.out).mono ?_
              rintro e w5 ⟨rfl, rfl⟩
              go_wp2_with fail
              go_roundw
              case rel => exact ⟨l + 1, g7, c7, by omega, by go_num, by rw [HR.out], by rw [HR.out]; exact O7.out, O5.out, RR.out, RW.out, XX.out, LL.out, hgs⟩
              case measure => simp [intOf]; omega
            | some v =>
              have HR := Lib.hid (HRS.out v rfl)
              rw [M.optI_some] at y0
              go_wp2_with fail
              refine (HID.out).mono ?_
              rintro e w5 ⟨rfl, rfl⟩
              generalize M.rchR f (k : Int) l = T at *
              go_wp2_with (at_builtin; refine wpList_append_lies _ rfl _ _ 23 rfl gr 3 ii0 (.int .i64 0) 1 8 Try.underlying23 hi0 hz0 hzz1 hz2 rfl (by decide) (.slice (some ⟨g7, 0, none⟩) T.length c7) _ _ rfl (O7.out.alloc _) ⟨wr.heap.size, 0, none⟩ 1 1 [.int .i64 (l : Int)] rfl rfl (cell_one_new _ _ _) (fun x hx => by simp at hx; subst hx; rfl) (by decide) (by unfold maxLen; omega) (by omega) (by simp; omega) _ rfl ?_; intro g8 c8 w8 hown8 hgrow0 hat8 hlt8; have hgrow8 : (wr.alloc (.cells #[.int .i64 (l : Int)] 3)).grownBy w8 (some g7) := hgrow0; clear hgrow0)
              go_roundw
              case rel =>
                have hs8 := hgrow8.size
                rw [World.size_alloc] at hs8
                have HL8 : (T ++ [(l : Int)]).length = T.length + 1 := by rw [List.length_append]; rfl
                have hub := UB.out
                refine ⟨l + 1, g8, c8, by omega, by go_num, by rw [HR.out, HL8], ?_, (O5.out.alloc _).kept hgrow8 (.inr (by simp [Value.ownBlock]; omega)), (RR.out.alloc _).grown hgrow8 (fun u hu z hz e => by injection e with e; have := hub u hu z hz; omega), (RW.out.turned (Turned.of_below (below_alloc wr _) 0 0) (by omega) (.inr (Nat.zero_le _))).grown hgrow8 (by rw [World.size_alloc]; omega) (fun z hz => by injection hz with hz; omega), (XX.out.alloc _).grown hgrow8 (by simp; omega), (LL.out.alloc (by omega) _).grown hgrow8 (by simp; omega) (fun z hz => by injection hz with hz; omega), by omega⟩
                rw [HR.out, HL8, M.encIs_append]
                exact hown8
              case measure => simp [intOf]; omega
          · obtain rfl : l = 64 := by omega
            generalize M.rchR f (k : Int) 64 = T at *
            go_wp2_with (at_builtin; refine wpList_append_lies _ rfl _ _ 50 rfl (w.heap.size + 1) 23 tt0 (.slice none 0 0) 1 24 Try.underlying50 ti0 tz0 tzz1 tz2 rfl (by decide) (.slice (some ⟨g5, 0, none⟩) k c5) _ _ rfl (O5.out.alloc _) ⟨wr.heap.size, 0, none⟩ 1 1 [.slice (some ⟨g7, 0, none⟩) T.length c7] rfl rfl (cell_one_new _ _ _) (fun x hx => by simp at hx; subst hx; rfl) (by decide) (by unfold maxLen; omega) (by omega) (by simp; omega) _ rfl ?_; intro g8 c8 w8 hown8 hgrow0 hat0 hlt8; have hgrow8 : (wr.alloc (.cells #[.slice (some ⟨g7, 0, none⟩) T.length c7] 23)).grownBy w8 (some g5) := hgrow0; have hat8 : some g5 = some g8 ∨ g8 = (wr.alloc (.cells #[.slice (some ⟨g7, 0, none⟩) T.length c7] 23)).heap.size := hat0; clear hgrow0 hat0)
            go_roundw
            case rel =>
              have hs8 := hgrow8.size
              rw [World.size_alloc] at hs8 hat8
              have hdd := DD.out
              have hub := UB.out
              have hvz := VZ.out
              have hg8e : g8 = g5 ∨ g8 = wr.heap.size + 1 := by
                rcases hat8 with e | e
                · injection e with e; exact .inl e.symm
                · exact .inr e
              refine ⟨k + 1, g8, c8, V ++ [(some g7, T.length, c7)], by omega, by go_num, rfl, ?_, ?_, fun u hu z hz => ?_, (RW.out.turned (Turned.of_below (below_alloc wr _) 0 0) (by omega) (.inr (Nat.zero_le _))).grown hgrow8 (by rw [World.size_alloc]; omega) (fun z hz => by injection hz with hz; omega), by omega, fun u hu z hz => ?_, (XX.out.alloc _).grown hgrow8 (by simp; omega), (LL.out.alloc (by omega) _).grown hgrow8 (by simp; omega) (fun z hz => by injection hz with hz; omega), by omega⟩
              · rw [List.map_append]
                exact hown8
              · rw [HST.out]
                exact ((RR.out.alloc _).grown hgrow8 (fun u hu z hz e => hdd u hu z hz (by injection e))).push rfl (own_weak ((O7.out.alloc _).kept hgrow8 (.inr (by simp [Value.ownBlock]; omega))) (by omega)) (fun v hv z hz e => by have hz' : g7 = z := Option.some.inj hz; have := hub v hv z e; omega)
              · rw [List.mem_append, List.mem_singleton] at hu
                rcases hu with hu | rfl
                · have h1 := hdd u hu z hz
                  have h2 := hub u hu z hz
                  omega
                · have hz' : g7 = z := Option.some.inj hz
                  omega
              · rw [List.mem_append, List.mem_singleton] at hu
                rcases hu with hu | rfl
                · exact hvz u hu z hz
                · have hz' : g7 = z := Option.some.inj hz
                  omega
            case measure => simp [intOf]; omega
      · obtain rfl : k = n := by omega
        go_wp2_with fail
        go_ret2
        rw [HF.out, HM.out]
        refine intssOk_end (V := V) ?_ (by rw [M.rchT_len]; exact own_weak OO.out (by omega)) (fun u hu z hz e => DD.out u hu z hz (by injection e)) LL.out
        exact ⟨RR.out.len, fun i u l hu hl => ⟨(RR.out.row i u l hu hl).1, own_weak (RR.out.row i u l hu hl).2 (by omega)⟩, RR.out.apart⟩
end C
end Go.Proofs.Ytdgfceiobpnchaa
namespace Go.Proofs.Ytdgfceiobpnchaa
open Go.RowKit
namespace C
set_option maxHeartbeats 3200000
set_option maxRecDepth 20000
theorem implRch_lw (w : World) (lo hi : Nat) (m : M.Wk) (a b : Option Addr) (c d : Nat) (h : WkIn lo hi w m a c b d) (hz : hi ≤ w.heap.size) (_h1 : m.gates.length ≤ 1048576) (_h2 : m.pulls.length ≤ 1048576) :
    Calls Try.prog 44 #[.agg #[.int .i64 m.size, .slice a m.gates.length c, .slice b m.pulls.length d]] w (IntssOkPost w (M.rchV m) (M.worksB m)) := by
  obtain ⟨ii0, hi0, hz0, hzz1, hz2⟩ := info_parts infoI
  have H := Lib.hid h
  have hc1 := h.c1
  have hc2 := h.c2
  have hd1 := h.d1
  have hd2 := h.d2
  clear h
  obtain ⟨tt0, ti0, tz0, tzz1, tz2⟩ := info_parts infoII
  go_enter Try.func44, Try.ntmps44
  go_wp2_with fail
  refine named ?_
  intro W hW
  have hb : Below w.heap.size w W := by rw [hW]; exact below_alloc _ _
  have x1 : Box3 W w.heap.size 28 (.int .i64 m.size) (.slice a m.gates.length c) (.slice b m.pulls.length d) := by rw [hW]; exact Box3.new _ _ _ _ rfl
  clear hW
  have hzw := hb.size
  refine (isWorks_any W lo hi m a b c d (H.out.below hb hz) (by omega)).mono ?_
  rintro e w1 ⟨rfl, hb1⟩
  have X1 := Lib.hid (x1.below hb1)
  have HB1 := Lib.hid (hb.trans (hb1.mono hzw))
  have hz1 := hb1.size
  have hxl1 := X1.out.lt
  clear hb hb1 x1
  obtain ⟨c0, c1, c2⟩ := X1.out.cells
  cases q0 : M.worksB m with
  | false =>
    have HM := Lib.hid q0
    clear q0
    go_wp2_with fail
    go_ret2
    have HF := Lib.hid (M.rch_off HM.out)
    rw [HF.out, HM.out]
    exact intssOk_end (ll := []) (V := []) (RowsT.nil _ _) (ownsRow_empty w1 w.heap.size 23 1 (by omega)) (fun _ h => (by cases h)) (HB1.out.alloc (by omega) _)
  | true =>
    have HM := Lib.hid q0
    have HV := Lib.hid (M.wv_of q0)
    clear q0
    have v1 := HV.out.size1
    have v12 := HV.out.size12
    obtain ⟨n, hn'⟩ : ∃ n : Nat, (n : Int) = m.size := ⟨m.size.toNat, by omega⟩
    have hn12 : n ≤ 12 := by omega
    have HF : Hid (M.rchV m = M.rchT (M.dst (M.nextW m) [(0, 0)]) n) := Lib.hid (by rw [M.rch_on HM.out]; congr 1; omega)
    have HOKF := Lib.hid (fun t k (h : M.dst (M.nextW m) [(0, 0)] t = some k) => M.edgeW_in (b := false) HV.out (M.vs0_ok HV.out) t k (by rw [M.dst_same]; exact h))
    have HN := Lib.hid hn'
    clear hn'
    go_wp2_with (at_make; refine wpList_make_full _ rfl _ _ 50 rfl (w.heap.size + 1) 23 tt0 (.slice none 0 0) 1 Try.underlying50 ti0 tz0 tzz1 .i64 .i64 _ _ n rfl rfl HN.out.symm HN.out.symm (by rw [tz2]; omega) (by unfold maxLen; omega) (by omega) ?_; intro w2 hown2 hgrow2; have hb2 : Below w1.heap.size w1 w2 := (Below.refl _ _).grown hgrow2 (Nat.le_refl _) (fun k e => by cases e); have X2 := Lib.hid (X1.out.below hb2); have hX2 := X2.out.cells; have x20 := hX2.1; have x21 := hX2.2.1; have x22 := hX2.2.2; clear hX2)
    rw [made_nil] at hown2
    have O2 := Lib.hid hown2
    have B2 := Lib.hid (HB1.out.trans (hb2.mono (by omega)))
    have hs2 := hb2.size
    have hg5 : w.heap.size + 1 ≤ w1.heap.size ∧ w1.heap.size < w2.heap.size := hown2.lt _ rfl
    clear hown2 hgrow2 hb2 c0 c1 c2
    generalize w1.heap.size = g5 at *
    refine (show Calls _ _ _ _ (MapPost w2 (M.dst (M.nextW m) [(0, 0)])) from actsFrom_any w2 lo hi m a b c d (H.out.below B2.out hz) (by have := B2.out.size; omega) HV.out (0, 0) (M.vs0_ok HV.out)).mono ?_
    rintro e w3 ⟨mb, L, rfl, hmb, hmp, hml, hb3⟩
    have O3 := Lib.hid (own_below O2.out hb3)
    have B3 := Lib.hid (B2.out.trans (hb3.mono (by omega)))
    have hs3 := hb3.size
    have M3 := Lib.hid hmp
    have hmlt := hmp.lt
    have HSO := Lib.hid (fun s => M3.out.some_iff s)
    clear hb3 hmp x20 x21 x22
    generalize M.dst (M.nextW m) [(0, 0)] = f at *
    go_wp2_with (at_range; refine wpList_rangeS rfl _ rfl mb L f rfl M3.out ?_; intro w4 hr4 hb4 hs4)
    have O4 := Lib.hid (own_below O3.out hb4)
    have B4 := Lib.hid (B3.out.trans (hb4.mono (by omega)))
    have HR4 := Lib.hid hr4
    have HNDL : Hid L.Nodup := Lib.hid (by obtain ⟨_, _, _, _, hn, _⟩ := hr4; exact hn)
    have hs4' : w3.heap.size + 1 ≤ w4.heap.size := by omega
    clear hr4 hb4 hs4
    generalize w3.heap.size = it at *
    go_frame
    go_loopw [] (fun wr => ∃ (left : List M.Vs) (cnt : Nat) (V : List Sl) (ll : List (List Int)), RangeP wr mb it L f left cnt ∧ left.Nodup ∧ (∀ s ∈ left, s ∈ L) ∧ (∀ r ∈ ll, r.length + left.length ≤ L.length) ∧ ll.length = n ∧ M.Seen ll (fun t => t ∈ L ∧ t ∉ left) ∧ wr.ownsRow (w.heap.size + 1) 23 1 (.slice (some ⟨g5, 0, none⟩) n n) n (V.map slV) ∧ RowsT (w.heap.size + 1) wr V ll ∧ (∀ u ∈ V, ∀ z, u.1 = some z → g5 ≠ z ∧ mb ≠ z ∧ it ≠ z) ∧ Below w.heap.size w wr) (fun wr => wr.rangeLeft mb it)
    case atStart => exact ⟨L, L.length, _, _, HR4.out, HNDL.out, fun _ h => h, fun r hr => (by rw [List.eq_of_mem_replicate hr]; simp), List.length_replicate .., (M.seen_start n).congr (fun t => ⟨fun h => h.elim, fun h => h.2 h.1⟩), O4.out, RowsT.start _ _ n, fun u hu z hz => (by rw [List.eq_of_mem_replicate hu] at hz; cases hz), B4.out⟩
    case round =>
      obtain ⟨left, cnt, V, ll, hrg, hnd, hin, hsh, hlen, hseen, hown, hrows, hdd, hlow⟩ := hrel
      have RG := Lib.hid hrg
      have HND := Lib.hid hnd
      have HIN := Lib.hid hin
      have LE := Lib.hid hlen
      have SH := Lib.hid hsh
      have SE := Lib.hid hseen
      have OO := Lib.hid hown
      have RR := Lib.hid hrows
      have DD := Lib.hid hdd
      have LO := Lib.hid hlow
      have HLE := Lib.hid hrg.left_eq
      have hzr := hlow.size
      obtain ⟨l1, l2⟩ := hrg.lt
      have hg5r : g5 < wr.heap.size := (hown.lt _ rfl).2
      clear hrg hnd hin hsh hlen hseen hown hrows hdd hlow
      go_wp2_with (refine wpList_nextS rfl _ rfl mb it L f left cnt rfl RG.out ?_ ?_)
      · intro hl0
        have HSE : Hid (M.Seen ll (fun t => ∃ k, f t = some k)) := Lib.hid (SE.out.congr fun t => by rw [hl0]; exact ⟨fun h => (HSO.out t).1 h.1, fun h => ⟨(HSO.out t).2 h, by simp⟩⟩)
        have OSS := Lib.hid (RR.out.own OO.out (fun u hu z hz => (DD.out u hu z hz).1))
        have HSH : Hid (∀ k (hk : k < ll.length), ll[k].length ≤ 100000) := Lib.hid (fun k hk => by have := SH.out _ (List.getElem_mem hk); omega)
        have HTB := Lib.hid (HSE.out.table (m := m) HOKF.out)
        clear hl0
        go_wp2_with fail
        generalize hH : wr.heap.size = hH0 at *
        have HH := Lib.hid hH
        clear hH
        go_loopw [7, 38] (fun _ v38 ws => ∃ (k : Nat), k ≤ n ∧ v38 = .int .i64 (k : Int) ∧ OwnSS (w.heap.size + 1) hH0 ws (some ⟨g5, 0, none⟩) V (M.encSS (M.mixT ll k)) ∧ Below w.heap.size w ws ∧ hH0 ≤ ws.heap.size) (fun _ v38 _ => n - (intOf v38).toNat)
        case atStart => exact ⟨0, Nat.zero_le _, rfl, by rw [M.mix_start]; exact OSS.out, LO.out, by rw [HH.out]; exact Nat.le_refl _⟩
        case round =>
          obtain ⟨k, hk, rfl, hos, hlow, hsz⟩ := hrel
          have OS := Lib.hid hos
          have LO2 := Lib.hid hlow
          clear hos hlow
          by_cases hkn : k < n
          · have hkl : k < ll.length := by rw [LE.out]; exact hkn
            have hkX : k < (M.encSS (M.mixT ll k)).length := by unfold M.encSS; rw [List.length_map, M.mix_len ll k (by omega)]; exact hkl
            have hXk : (M.encSS (M.mixT ll k))[k] = M.encIs ll[k] := by
              have := List.getElem?_eq_getElem hkX
              unfold M.encSS at this
              rw [List.getElem?_map, M.mix_at hkl] at this
              injection this with this
              exact this.symm
            obtain ⟨g, cc, b', off', hu, ha, x0, hg, hb', hr1⟩ := OS.out.at_ hkX
            rw [hXk] at hu x0 hr1
            rw [M.encIs_len] at hu x0
            injection ha with ha
            injection ha with ha1 ha2 _
            subst ha1; subst ha2
            rw [Nat.zero_add] at x0
            have HU := Lib.hid hu
            have HG := Lib.hid hg
            have HR1 := Lib.hid hr1
            have hle := HSH.out k hkl
            have HMS := Lib.hid (M.mix_set hkl)
            have HMN := Lib.hid (fun h => M.mix_same hkl h)
            have hg5w : g5 < wr.heap.size := by omega
            have hkni : (k : Int) < (n : Int) := by omega
            clear hu hg hr1 hXk hkX
            generalize hrow : ll[k] = row at *
            clear hrow
            cases row with
            | nil =>
              have HE := Lib.hid (HMN.out rfl)
              go_wp2_with fail
              refine (sortNone_any wr (adr g) cc).mono ?_
              rintro e w9 ⟨rfl, rfl⟩
              go_wp2_with fail
              go_roundw
              case rel => exact ⟨k + 1, by omega, by go_num, by rw [HE.out]; exact OS.out, LO2.out, hsz⟩
              case measure => simp [intOf]; omega
            | cons q row =>
              have HSO2 := Lib.hid (sortInts_any wr (loB g) (hiB g) (adr g) cc (q :: row) HR1.out (by simp) (by omega))
              generalize hqr : q :: row = qr at *
              clear hqr
              go_wp2_with fail
              refine (HSO2.out).mono ?_
              rintro e w9 ⟨rfl, ho9, ht9⟩
              have HO9 := Lib.hid ho9
              have HT9 := Lib.hid ht9
              clear ho9 ht9
              go_wp2_with fail
              go_roundw
              case rel =>
                refine ⟨k + 1, by omega, by go_num, ?_, LO2.out.trans ((HT9.out.row HG.out).below (by omega) (by omega)), Nat.le_trans hsz HT9.out.size⟩
                rw [← HMS.out, ← encSS_set]
                exact OS.out.setRow HU.out (by rw [M.encIs_len, M.srtI_len]) HT9.out HO9.out
              case measure => simp [intOf]; omega
          · obtain rfl : k = n := by omega
            have OE := OS.out
            rw [← LE.out, M.mix_end, HTB.out] at OE
            have OEH := Lib.hid OE
            clear OE
            go_wp2_with fail
            go_ret2
            rw [HF.out, HM.out]
            refine ⟨some ⟨g5, 0, none⟩, k, V, by rw [M.rchT_len]; rfl, ?_, by rw [M.rchT_len]; exact Nat.le_refl _, by omega, LO2.out⟩
            rw [← LE.out]
            exact OEH.out.mono (by omega) hsz
      · intro x0 l w1' cnt1 k hs hfs hk hrg1 hlt ht1 hs1 hen
        have hs : ((x0, l) : M.Vs) ∈ left := hs
        have hfs : f (x0, l) = some k := hfs
        have hrg1 : RangeP w1' mb it L f (left.erase (x0, l)) cnt1 := hrg1
        obtain ⟨hs1a, hs2a, hs3a, hs4a⟩ := HOKF.out (x0, l) k hfs
        simp only at hs1a hs2a hs3a hs4a
        obtain ⟨x, rfl⟩ : ∃ x : Nat, x0 = (x : Int) := ⟨x0.toNat, (Int.toNat_of_nonneg hs1a).symm⟩
        have hx : x < n := by have := HN.out; omega
        have hxl : x < ll.length := by rw [LE.out]; exact hx
        have hxV : x < V.length := by rw [RR.out.len]; exact hxl
        obtain ⟨u, hu⟩ : ∃ u, V[x]? = some u := ⟨_, List.getElem?_eq_getElem hxV⟩
        have hum : u ∈ V := List.mem_of_getElem? hu
        have HDU := Lib.hid (DD.out u hum)
        have O1 := Lib.hid (own_turnedZ OO.out ht1 (fun z hz => by have hz : g5 = z := Option.some.inj hz; omega))
        have R1 := Lib.hid (RR.out.turned ht1 (fun u hu z hz => by have := (DD.out u hu z hz).2.2; omega))
        have LO1 := Lib.hid (Below.thenTurned LO.out ht1 (by omega) (by omega))
        have RG1 := Lib.hid hrg1
        have HUV := Lib.hid hu
        have HSL := Lib.hid (SH.out _ (List.getElem_mem hxl))
        have HLT := Lib.hid hlt
        have HS := Lib.hid hs
        have HFS := Lib.hid hfs
        have hli : (x : Int) < (n : Int) := by omega
        have hll : 1 ≤ left.length := List.length_pos_of_mem hs
        clear hs hfs hrg1 ht1 hlt hu hs1a hs2a
        have hs1' : wr.heap.size ≤ w1'.heap.size := by omega
        have HS1 := Lib.hid hs1
        clear hs1
        go_upto_region 7 with fail
        refine wp_named ?_
        intro W6 hW6
        have hb6 : Below w1'.heap.size w1' W6 := by rw [hW6]; exact below_alloc _ _
        have z6 : Box2 W6 w1'.heap.size 71 (.int .i64 (x : Int)) (.int .i64 l) := by rw [hW6]; exact Box2.new _ _ _ rfl
        clear hW6 hen
        have O6 := Lib.hid (own_below O1.out hb6)
        have R6 := Lib.hid (R1.out.below hb6)
        have LO6 := Lib.hid (LO1.out.trans (hb6.mono (by omega)))
        have RG6 := Lib.hid (RG1.out.below hb6)
        have hbx6 := z6.lt
        have hs6 := hb6.size
        have hg56 : g5 < W6.heap.size := by omega
        obtain ⟨j0, j1⟩ := z6.cells
        have y0 : W6.cell? ⟨g5, x, none⟩ = some (slV u) := by rw [O6.out.cellAt x (by omega), List.getElem?_map, HUV.out]; rfl
        have HU5 : Hid (∀ z, u.1 = some z → z = g5 → False) := Lib.hid (fun z hz e => (HDU.out z hz).1 e.symm)
        have HUX : Hid (∀ z, u.1 = some z → z = w1'.heap.size → False) := Lib.hid (fun z hz e => by have := (R1.out.base HUV.out z hz).2; omega)
        have hrl := (R6.out.row x u _ HUV.out (List.getElem?_eq_getElem hxl)).2
        have OU := Lib.hid hrl
        clear hb6 z6 hrl
        generalize hbx : w1'.heap.size = bx at *
        have HBX := Lib.hid hbx
        clear hbx
        obtain ⟨rl, hrl'⟩ : ∃ rl, rl = ll[x].length := ⟨_, rfl⟩
        rw [← hrl'] at OU HSL
        have HRL := Lib.hid hrl'
        clear hrl'
        have hsl := HSL.out
        refine wp_region_late2 (fun (wq : World) => wq.cell? ⟨bx, 0, none⟩ = some (.int .i64 (x : Int)) ∧ wq.cell? ⟨bx, 1, none⟩ = some (.int .i64 l) ∧ wq.cell? ⟨g5, x, none⟩ = some (slV u)) [13] 14 #[false, false, false, false, false, false, false, false, false, false, false, false, false, false] rfl rfl (by kernel_rfl) ?_
        have hS : (fun (wq : World) => wq.cell? ⟨bx, 0, none⟩ = some (.int .i64 (x : Int)) ∧ wq.cell? ⟨bx, 1, none⟩ = some (.int .i64 l) ∧ wq.cell? ⟨g5, x, none⟩ = some (slV u)) W6.drew := ⟨j0, j1, y0⟩
        refine wpAnyL_take (i := 0) (oi := { dst := some 23, op := Go.Op.move (Go.Operand.tmp 4), type := 50, pos := "l8_levers.go:241", after := #[], guard := none }) (v := ?pv0) rfl (by kernel_rfl) (by kernel_rfl) (by kernel_rfl) (by kernel_rfl) (fun _ _ _ h => h) (Or.inl ⟨by rfl, ?ph0⟩) hS ?pr0
        case ph0 => (intro wS hSw; (try dsimp only at hSw); go_split_ands; go_simp; try with_reducible rfl)
        try simp only [Act.put, List.setIfInBounds_toArray, List.set_cons_zero, List.set_cons_succ]
        refine wpAnyL_take (i := 1) (oi := { dst := some 24, op := Go.Op.fieldAddr 71 (Go.Operand.tmp 5) 0, type := 0, pos := "l8_levers.go:241", after := #[], guard := none }) (v := ?pv1) rfl (by kernel_rfl) (by kernel_rfl) (by kernel_rfl) (by kernel_rfl) (fun _ _ _ h => h) (Or.inl ⟨by rfl, ?ph1⟩) hS ?pr1
        case ph1 => (intro wS hSw; (try dsimp only at hSw); go_split_ands; go_simp; try with_reducible rfl)
        try simp only [Act.put, List.setIfInBounds_toArray, List.set_cons_zero, List.set_cons_succ]
        refine wpAnyL_take (i := 2) (oi := { dst := some 25, op := Go.Op.load 3 (Go.Operand.tmp 24), type := 3, pos := "l8_levers.go:241", after := #[{ on := 1, ground := Go.Ground.data }], guard := none }) (v := ?pv2) rfl (by kernel_rfl) (by kernel_rfl) (by kernel_rfl) (by kernel_rfl) (fun _ _ _ h => h) (Or.inl ⟨by rfl, ?ph2⟩) hS ?pr2
        case ph2 => (intro wS hSw; (try dsimp only at hSw); go_split_ands; go_simp; try with_reducible rfl)
        try simp only [Act.put, List.setIfInBounds_toArray, List.set_cons_zero, List.set_cons_succ]
        refine wpAnyL_take (i := 3) (oi := { dst := some 26, op := Go.Op.move (Go.Operand.tmp 4), type := 50, pos := "l8_levers.go:241", after := #[], guard := none }) (v := ?pv3) rfl (by kernel_rfl) (by kernel_rfl) (by kernel_rfl) (by kernel_rfl) (fun _ _ _ h => h) (Or.inl ⟨by rfl, ?ph3⟩) hS ?pr3
        case ph3 => (intro wS hSw; (try dsimp only at hSw); go_split_ands; go_simp; try with_reducible rfl)
        try simp only [Act.put, List.setIfInBounds_toArray, List.set_cons_zero, List.set_cons_succ]
        refine wpAnyL_take (i := 4) (oi := { dst := some 27, op := Go.Op.fieldAddr 71 (Go.Operand.tmp 5) 0, type := 0, pos := "l8_levers.go:241", after := #[], guard := none }) (v := ?pv4) rfl (by kernel_rfl) (by kernel_rfl) (by kernel_rfl) (by kernel_rfl) (fun _ _ _ h => h) (Or.inl ⟨by rfl, ?ph4⟩) hS ?pr4
        case ph4 => (intro wS hSw; (try dsimp only at hSw); go_split_ands; go_simp; try with_reducible rfl)
        try simp only [Act.put, List.setIfInBounds_toArray, List.set_cons_zero, List.set_cons_succ]
        refine wpAnyL_take (i := 5) (oi := { dst := some 28, op := Go.Op.load 3 (Go.Operand.tmp 27), type := 3, pos := "l8_levers.go:241", after := #[{ on := 4, ground := Go.Ground.data }], guard := none }) (v := ?pv5) rfl (by kernel_rfl) (by kernel_rfl) (by kernel_rfl) (by kernel_rfl) (fun _ _ _ h => h) (Or.inl ⟨by rfl, ?ph5⟩) hS ?pr5
        case ph5 => (intro wS hSw; (try dsimp only at hSw); go_split_ands; go_simp; try with_reducible rfl)
        try simp only [Act.put, List.setIfInBounds_toArray, List.set_cons_zero, List.set_cons_succ]
        refine wpAnyL_take (i := 6) (oi := { dst := some 29, op := Go.Op.indexAddr 50 (Go.Operand.tmp 26) (Go.Operand.tmp 28), type := 0, pos := "l8_levers.go:241", after := #[{ on := 3, ground := Go.Ground.data }, { on := 5, ground := Go.Ground.data }], guard := none }) (v := ?pv6) rfl (by kernel_rfl) (by kernel_rfl) (by kernel_rfl) (by kernel_rfl) (fun _ _ _ h => h) (Or.inl ⟨by rfl, ?ph6⟩) hS ?pr6
        case ph6 => (intro wS hSw; (try dsimp only at hSw); go_split_ands; go_simp; try with_reducible rfl)
        try simp only [Act.put, List.setIfInBounds_toArray, List.set_cons_zero, List.set_cons_succ]
        refine wpAnyL_take (i := 7) (oi := { dst := some 30, op := Go.Op.load 23 (Go.Operand.tmp 29), type := 23, pos := "l8_levers.go:241", after := #[{ on := 6, ground := Go.Ground.data }], guard := none }) (v := ?pv7) rfl (by kernel_rfl) (by kernel_rfl) (by kernel_rfl) (by kernel_rfl) (fun _ _ _ h => h) (Or.inl ⟨by rfl, ?ph7⟩) hS ?pr7
        case ph7 => (intro wS hSw; (try dsimp only at hSw); go_split_ands; go_simp; try with_reducible rfl)
        try simp only [Act.put, List.setIfInBounds_toArray, List.set_cons_zero, List.set_cons_succ]
        refine wpAnyL_take (i := 8) (oi := { dst := some 31, op := Go.Op.fieldAddr 71 (Go.Operand.tmp 5) 1, type := 0, pos := "l8_levers.go:241", after := #[], guard := none }) (v := ?pv8) rfl (by kernel_rfl) (by kernel_rfl) (by kernel_rfl) (by kernel_rfl) (fun _ _ _ h => h) (Or.inl ⟨by rfl, ?ph8⟩) hS ?pr8
        case ph8 => (intro wS hSw; (try dsimp only at hSw); go_split_ands; go_simp; try with_reducible rfl)
        try simp only [Act.put, List.setIfInBounds_toArray, List.set_cons_zero, List.set_cons_succ]
        refine wpAnyL_take (i := 9) (oi := { dst := some 32, op := Go.Op.load 3 (Go.Operand.tmp 31), type := 3, pos := "l8_levers.go:241", after := #[{ on := 8, ground := Go.Ground.data }], guard := none }) (v := ?pv9) rfl (by kernel_rfl) (by kernel_rfl) (by kernel_rfl) (by kernel_rfl) (fun _ _ _ h => h) (Or.inl ⟨by rfl, ?ph9⟩) hS ?pr9
        case ph9 => (intro wS hSw; (try dsimp only at hSw); go_split_ands; go_simp; try with_reducible rfl)
        try simp only [Act.put, List.setIfInBounds_toArray, List.set_cons_zero, List.set_cons_succ]
        refine wpAnyL_one (i := 10) (oi := { dst := some 33, op := Go.Op.buildSlice 23 1 #[(0, Go.Operand.tmp 32)], type := 23, pos := "l8_levers.go:241", after := #[{ on := 9, ground := Go.Ground.data }], guard := none }) (by kernel_rfl) rfl (fun Kp10 hKp10 => ?_)
        go_simp
        have hszA : (W6.alloc (.cells #[.int .i64 l] 3)).drew.heap.size = W6.heap.size + 1 := World.size_alloc _ _
        have hS11 : (fun (wq : World) => wq.cell? ⟨bx, 0, none⟩ = some (.int .i64 (x : Int)) ∧ wq.cell? ⟨bx, 1, none⟩ = some (.int .i64 l) ∧ wq.cell? ⟨g5, x, none⟩ = some (slV u)) (W6.alloc (.cells #[.int .i64 l] 3)).drew := ⟨((below_alloc W6 _).cell (p := ⟨bx, 0, none⟩) hbx6).trans j0, ((below_alloc W6 _).cell (p := ⟨bx, 1, none⟩) hbx6).trans j1, ((below_alloc W6 _).cell (p := ⟨g5, x, none⟩) hg56).trans y0⟩
        refine hKp10 _ _ (fun _ => hS11) ?_
        clear hS
        have hS := hS11
        try simp only [List.setIfInBounds_toArray, List.set_cons_zero, List.set_cons_succ]
        refine wpAnyL_one (i := 11) (oi := { dst := some 34, op := Go.Op.call { callee := Go.Callee.builtin Go.Builtin.append, args := #[Go.Operand.tmp 30, Go.Operand.tmp 33], argTypes := #[23, 23] }, type := 23, pos := "l8_levers.go:241", after := #[{ on := 7, ground := Go.Ground.data }, { on := 10, ground := Go.Ground.data }], guard := none }) (by kernel_rfl) rfl (fun Kp11 hKp11 => ?_)
        refine step_append_lies _ rfl _ _ 23 rfl (w.heap.size + 1) 3 ii0 (.int .i64 0) 1 8 Try.underlying23 hi0 hz0 hzz1 hz2 rfl (by decide) (slV u) rl _ rfl (show (W6.alloc (.cells #[.int .i64 l] 3)).drew.ownsRow _ _ _ _ _ _ from OU.out.alloc _) ⟨W6.heap.size, 0, none⟩ 1 1 [.int .i64 l] rfl rfl (cell_one_new W6 _ _) (fun u hu => by simp at hu; subst hu; rfl) (by decide) (by unfold maxLen; omega) (by omega) (by rw [hszA]; omega) _ rfl ?_
        intro g7 c7 w7 hown7 hgrow7 hat7 hlt7
        rw [slV_block] at hgrow7 hat7
        rw [hszA] at hat7
        have hS12 : (fun (wq : World) => wq.cell? ⟨bx, 0, none⟩ = some (.int .i64 (x : Int)) ∧ wq.cell? ⟨bx, 1, none⟩ = some (.int .i64 l) ∧ wq.cell? ⟨g5, x, none⟩ = some (slV u)) w7 := ⟨(hgrow7.cell_far ⟨bx, 0, none⟩ (by rw [hszA]; show bx < W6.heap.size + 1; omega) (fun e => HUX.out bx e.symm rfl)).trans hS11.1, (hgrow7.cell_far ⟨bx, 1, none⟩ (by rw [hszA]; show bx < W6.heap.size + 1; omega) (fun e => HUX.out bx e.symm rfl)).trans hS11.2.1, (hgrow7.cell_far ⟨g5, x, none⟩ (by rw [hszA]; show g5 < W6.heap.size + 1; omega) (fun e => HU5.out g5 e.symm rfl)).trans hS11.2.2⟩
        refine hKp11 _ _ (fun _ => hS12) ?_
        clear hS
        have hS := hS12
        try simp only [Act.put, List.setIfInBounds_toArray, List.set_cons_zero, List.set_cons_succ]
        refine wpAnyL_take (i := 12) (oi := { dst := some 35, op := Go.Op.indexAddr 50 (Go.Operand.tmp 23) (Go.Operand.tmp 25), type := 0, pos := "l8_levers.go:241", after := #[{ on := 0, ground := Go.Ground.data }, { on := 2, ground := Go.Ground.data }, { on := 0, ground := Go.Ground.phase }, { on := 1, ground := Go.Ground.phase }, { on := 2, ground := Go.Ground.phase }, { on := 3, ground := Go.Ground.phase }, { on := 4, ground := Go.Ground.phase }, { on := 5, ground := Go.Ground.phase }, { on := 6, ground := Go.Ground.phase }, { on := 7, ground := Go.Ground.phase }, { on := 8, ground := Go.Ground.phase }, { on := 9, ground := Go.Ground.phase }, { on := 10, ground := Go.Ground.phase }, { on := 11, ground := Go.Ground.phase }], guard := none }) (v := ?pv12) rfl (by kernel_rfl) (by kernel_rfl) (by kernel_rfl) (by kernel_rfl) (fun _ _ _ h => h) (Or.inl ⟨by rfl, ?ph12⟩) hS ?pr12
        case ph12 => (intro wS hSw; (try dsimp only at hSw); go_split_ands; go_simp; try with_reducible rfl)
        try simp only [Act.put, List.setIfInBounds_toArray, List.set_cons_zero, List.set_cons_succ]
        refine wpAnyL_one (i := 13) (oi := { dst := none, op := Go.Op.store 23 (Go.Operand.tmp 35) (Go.Operand.tmp 34), type := 0, pos := "l8_levers.go:241", after := #[{ on := 12, ground := Go.Ground.data }, { on := 11, ground := Go.Ground.data }, { on := 11, ground := Go.Ground.chain }, { on := 0, ground := Go.Ground.phase }, { on := 1, ground := Go.Ground.phase }, { on := 2, ground := Go.Ground.phase }, { on := 3, ground := Go.Ground.phase }, { on := 4, ground := Go.Ground.phase }, { on := 5, ground := Go.Ground.phase }, { on := 6, ground := Go.Ground.phase }, { on := 7, ground := Go.Ground.phase }, { on := 8, ground := Go.Ground.phase }, { on := 9, ground := Go.Ground.phase }, { on := 10, ground := Go.Ground.phase }, { on := 11, ground := Go.Ground.phase }], guard := none }) (by kernel_rfl) rfl (fun Kp13 hKp13 => ?_)
        have O7 := Lib.hid ((show (W6.alloc (.cells #[.int .i64 l] 3)).drew.ownsRow _ _ _ _ _ _ from O6.out.alloc _).kept hgrow7 (.inr (fun e => HU5.out g5 e.symm rfl)))
        have f0 := O7.out.frozenAt x
        have y7 := hS12.2.2
        have hg57 : g5 < w7.heap.size := (O7.out.lt _ rfl).2
        go_simp
        refine hKp13 _ _ (fun h => absurd h (by decide)) ?_
        refine wpAnyL_done (by kernel_rfl) ?_ _
        clear hS hS11 hS12 j0 j1 y0 y7 f0
        have R7 := Lib.hid ((show RowsT (w.heap.size + 1) (W6.alloc (.cells #[.int .i64 l] 3)).drew V ll from R6.out.below (Below.drawnN (below_alloc W6 _) 1)).app HUV.out hgrow7 (u' := (some g7, rl + 1, c7)) (l := ll[x] ++ [l]) (by rw [List.length_append, ← HRL.out]; rfl) (by rw [List.length_append, ← HRL.out, M.encIs_append]; exact hown7) (fun z hz => by
          have hz : g7 = z := Option.some.inj hz
          rcases hat7 with e | e
          · exact .inl (by rw [e, hz])
          · right
            rw [hszA]
            omega))
        have HNE : Hid (g5 ≠ g7 ∧ mb ≠ g7 ∧ it ≠ g7) := Lib.hid (by
          rcases hat7 with e | e
          · exact HDU.out g7 e
          · refine ⟨?_, ?_, ?_⟩ <;> omega)
        have hs7 := hgrow7.size
        rw [hszA] at hs7
        have LO7 := Lib.hid ((Below.drawnN (LO6.out.alloc (by omega) (.cells #[.int .i64 l] 3)) 1).grown hgrow7 (by show _ ≤ (W6.alloc (.cells #[.int .i64 l] 3)).drew.heap.size; rw [hszA]; omega) (fun z hz => by have := (R6.out.base HUV.out z hz).1; omega))
        have RG7 := Lib.hid ((show RangeP (W6.alloc (.cells #[.int .i64 l] 3)).drew mb it L f (left.erase ((x : Int), l)) cnt1 from RG6.out.below (Below.drawnN (below_alloc W6 _) 1)).turned (turned_of_grown hgrow7) (far_of fun e => (HDU.out mb e).2.1 rfl) (far_of fun e => (HDU.out it e).2.2 rfl))
        go_wp2_with fail
        go_roundw
        case rel =>
          have ST := O7.out.stored x (slV (some g7, rl + 1, c7))
          have hmem : ∀ t, (t ∈ L ∧ t ∉ left.erase ((x : Int), l)) ↔ (t ∈ L ∧ t ∉ left) ∨ t = ((x : Int), l) := fun t => by
            rw [List.Nodup.mem_erase_iff HND.out]
            constructor
            · rintro ⟨h1, h2⟩
              rcases Classical.em (t = ((x : Int), l)) with e | e
              · exact .inr e
              · exact .inl ⟨h1, fun h => h2 ⟨e, h⟩⟩
            · rintro (⟨h1, h2⟩ | rfl)
              · exact ⟨h1, fun h => h2 h.2⟩
              · exact ⟨HIN.out _ HS.out, fun h => h.1 rfl⟩
          refine ⟨left.erase ((x : Int), l), cnt1, V.set x (some g7, rl + 1, c7), ll.set x (ll[x] ++ [l]), RG7.out.turned (Turned.setCell _ _ _ _ (Nat.le_refl _) (Nat.lt_succ_self _)) (by omega) (by omega), HND.out.erase _, fun s hs => HIN.out s (List.mem_of_mem_erase hs), fun r hr => ?_, by rw [List.length_set]; exact LE.out, SE.out.step hxl (fun h => h.2 HS.out) hmem, ?_, R7.out.grown ST.2 (fun v hv z hz e => ?_), fun v hv z hz => ?_, LO7.out.setCell (p := ⟨g5, x, none⟩) (by show w.heap.size ≤ g5; omega) _⟩
          · rw [List.length_erase_of_mem HS.out]
            rcases List.mem_or_eq_of_mem_set hr with h | h
            · have := SH.out r h
              omega
            · rw [h, List.length_append, ← HRL.out]
              show rl + 1 + _ ≤ _
              omega
          · have := ST.1
            rw [← List.map_set] at this
            exact this
          · injection e with e
            subst e
            rcases List.mem_or_eq_of_mem_set hv with h | h
            · exact (DD.out v h g5 hz).1 rfl
            · rw [h] at hz
              exact HNE.out.1 (Option.some.inj hz).symm
          · rcases List.mem_or_eq_of_mem_set hv with h | h
            · exact DD.out v h z hz
            · rw [h] at hz
              rw [← Option.some.inj hz]
              exact HNE.out
        case measure => rw [(RG7.out.turned (Turned.setCell _ _ _ _ (Nat.le_refl _) (Nat.lt_succ_self _)) (by omega) (by omega)).left_eq, HLE.out]; exact HLT.out
end C
end Go.Proofs.Ytdgfceiobpnchaa
