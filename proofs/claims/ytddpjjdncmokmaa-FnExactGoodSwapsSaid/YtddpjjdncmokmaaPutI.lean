/-
  CONTRACTS of spec.l1Put and spec.l1Has: a number put to its place, in memory of the call's own, or where they were; what lay in memory stays. Condition: the numbers lie in memory of the caller's own, at most 1000 of them, and one at least.
-/
import Derived.Test.YtddpjjdncmokmaaWEDoorsAt
import Derived.Test.YtddpjjdncmokmaaWBDigitsI
import Derived.Deep.RegionHeld3
import Derived.Deep.RegionLaw
namespace Go.Proofs.Ytddpjjdncmokmaa
open Go.RowKit
namespace C
set_option maxHeartbeats 32000000
set_option maxRecDepth 20000
theorem encIs_one (l : List Int) : ∀ x ∈ M.encIs l, x.oneCell' = true := fun x hx => by unfold M.encIs at hx; obtain ⟨z, _, rfl⟩ := List.mem_map.1 hx; rfl
def Box1 (w : World) (g : Nat) (T : TypeId) (u : Value) : Prop := w.heap[g]? = some (.cells #[u] T (0, 0))
theorem Box1.new {w : World} {g : Nat} (T : TypeId) (u : Value) (hg : g = w.heap.size) : Box1 (w.alloc (.cells #[u] T)) g T u := by subst hg; exact heap_alloc_new w _
theorem Box1.lt {w : World} {g : Nat} {T : TypeId} {u : Value} (h : Box1 w g T u) : g < w.heap.size := heap_lt h
theorem Box1.alloc {w : World} {g : Nat} {T : TypeId} {u : Value} (h : Box1 w g T u) (o : Obj) : Box1 (w.alloc o) g T u := (Below.heap_alloc w o g h.lt).trans h
theorem Box1.grown {w w' : World} {g : Nat} {T : TypeId} {u : Value} {row : Option Nat} (h : Box1 w g T u) (hg : w.grownBy w' row) (hne : row ≠ some g) : Box1 w' g T u := (hg.block g h.lt (fun e => hne e.symm)).trans h
theorem newsI1 {w : World} {g : Nat} {n : Int} (h : Box1 w g 3 (.int .i64 n)) : ∀ j u, (M.encIs [n])[j]? = some u → w.cell? ((⟨g, 0, none⟩ : Addr).add j) = some u := World.news_of_block h
theorem newsI_take {W : World} {b off : Nat} {l : List Int} (h : ∀ j u, (M.encIs l)[j]? = some u → W.cell? ⟨b, off + j, none⟩ = some u) (k : Nat) : ∀ j u, (M.encIs (l.take k))[j]? = some u → W.cell? ((⟨b, off, none⟩ : Addr).add j) = some u := by
  intro j u hu
  have e : M.encIs (l.take k) = (M.encIs l).take k := by unfold M.encIs; rw [List.map_take]
  rw [e, List.getElem?_take] at hu
  split at hu
  · rw [add_off]; exact h j u hu
  · cases hu
theorem newsI_drop {W : World} {b off : Nat} {l : List Int} (h : ∀ j u, (M.encIs l)[j]? = some u → W.cell? ⟨b, off + j, none⟩ = some u) (k : Nat) : ∀ j u, (M.encIs (l.drop k))[j]? = some u → W.cell? ((⟨b, off + k, none⟩ : Addr).add j) = some u := by
  intro j u hu
  have e : M.encIs (l.drop k) = (M.encIs l).drop k := by unfold M.encIs; rw [List.map_drop]
  rw [e, List.getElem?_drop] at hu
  rw [add_off, Nat.add_assoc]
  exact h _ u hu
/-- numbers in memory from B on, the rest as it was -/
def PutIPost (B : Nat) (w : World) (l : List Int) (e : Ending) (w' : World) : Prop :=
  ∃ a c, e = .returned (.slice a l.length c) ∧ OwnAt B w'.heap.size w' 3 a (M.encIs l) ∧ l.length ≤ c ∧ c ≤ 9223372036854775807 ∧ Below w.heap.size w w'
theorem putI_end {B n : Nat} {w w' W : World} {l xs : List Int} {v : Value} (hW : Below w.heap.size w W) (hB : B ≤ w.heap.size) (h : w'.ownsRow W.heap.size 3 1 v n (M.encIs xs)) (hx : xs = l) (hn : n = l.length) (hb : Below W.heap.size W w') : PutIPost B w l (.returned v) w' := by
  subst hx; subst hn
  obtain ⟨a, c, rfl, h1, h2, h3⟩ := own_slice h
  have := hW.size
  exact ⟨a, c, rfl, h3.mono (by omega) (Nat.le_refl _), h1, h2, hW.trans (hb.mono this)⟩
theorem l1Put_any (w : World) (lo hi : Nat) (b off c : Nat) (l : List Int) (n : Int) (h : RowIn lo hi w (some ⟨b, off, none⟩) (M.encIs l)) (hne : l ≠ []) (hnm : n ∉ l) (hz : hi ≤ w.heap.size) (hl : l.length ≤ 1000) (hc1 : l.length ≤ c) (hc2 : c ≤ 9223372036854775807) :
    Calls Try.prog 139 #[.slice (some ⟨b, off, none⟩) l.length c, .int .i64 n] w (PutIPost w.heap.size w (M.put M.ltI l n)) := by
  obtain ⟨i0, hi0, hz0, hz1, hz2⟩ := info_parts infoI
  have hlen : 0 < l.length := List.length_pos_iff.2 hne
  have HNM := Lib.hid hnm
  clear hnm
  obtain ⟨b', off', e, hb1, hb2, hcc⟩ := h.at_ (k := 0) (by rw [M.encIs_len]; omega)
  injection e with e
  injection e with e1 e2 _
  subst e1; subst e2
  have hbw : b < w.heap.size := by omega
  have HC := Lib.hid (fun W' (hq : Below w.heap.size w W') j u hu => (hq.cell (p := ⟨b, off + j, none⟩) hbw).trans (hcc j u hu))
  clear h hcc hne
  go_enter Try.func139, Try.ntmps139
  go_wp2_with fail
  go_loop [5] (fun i => ∃ (k : Nat), k ≤ l.length ∧ i = .int .i64 k ∧ (∀ j (hj : j < l.length), j < k → M.ltI l[j] n = true)) (fun i => l.length - (intOf i).toNat)
  case atStart => exact ⟨0, Nat.zero_le _, rfl, fun j _ h => by omega⟩
  case round =>
    obtain ⟨k, hk, rfl, hall⟩ := hrel
    have HA := Lib.hid hall
    clear hall
    by_cases hlt : k < l.length
    · have p0 : w.cell? ⟨b, off + k, none⟩ = some (.int .i64 l[k]) := HC.out w (Below.refl _ _) _ _ (M.encIs_at hlt)
      by_cases hlk : l[k] < n
      · have HK : Hid (M.ltI l[k] n = true) := Lib.hid (decide_eq_true hlk)
        go_wp2_with fail
        go_round
        case rel => exact ⟨k + 1, by omega, by go_num, fun j hj hjk => by
          rcases Nat.lt_or_ge j k with h | h
          · exact HA.out j hj h
          · obtain rfl : j = k := by omega
            exact HK.out⟩
        case measure => simp [intOf]; omega
      · have HP := Lib.hid (M.place_eq (lt := M.ltI) hk HA.out (fun _ => decide_eq_false hlk))
        rcases Decidable.em (l[k] = n) with hld | hld
        · exact absurd (List.getElem_mem hlt) (by rw [hld]; exact HNM.out)
        · have HQ := Lib.hid (M.put_new HP.out (by rw [List.getElem?_eq_getElem hlt]; intro e; injection e with e; exact hld e))
          have hlb : (l[k] == n) = false := by simpa using hld
          clear hld
          go_wp2_with fail
          clear p0
          have oa2 : ((w.drew.alloc (.cells #[] 3)).alloc (.cells #[.int .i64 n] 3)).ownsRow w.heap.size 3 1 (.slice (some ⟨w.heap.size, 0, none⟩) 0 0) 0 [] := (ownsRow_empty w.drew w.heap.size 3 1 (Nat.le_refl _)).alloc _
          have oa3 : ((w.drew.alloc (.cells #[.int .i64 n] 3)).alloc (.cells #[] 3)).ownsRow w.heap.size 3 1 (.slice (some ⟨w.heap.size + 1, 0, none⟩) 0 0) 0 [] := by
            have := ownsRow_empty (w.drew.alloc (.cells #[.int .i64 n] 3)) w.heap.size 3 1 (by simp)
            simpa using this
          have cc2 : Box1 ((w.drew.alloc (.cells #[] 3)).alloc (.cells #[.int .i64 n] 3)) (w.heap.size + 1) 3 (.int .i64 n) := Box1.new _ _ (by simp)
          have cc3 : Box1 ((w.drew.alloc (.cells #[.int .i64 n] 3)).alloc (.cells #[] 3)) w.heap.size 3 (.int .i64 n) := (Box1.new _ _ rfl).alloc _
          have OA2 := Lib.hid oa2
          have OA3 := Lib.hid oa3
          have CC2 := Lib.hid cc2
          have CC3 := Lib.hid cc3
          have hdrew : w.drew.heap.size = w.heap.size := rfl
          have hkc : k ≤ c := by omega
          clear oa2 oa3 cc2 cc3
          have HCK : Hid (¬ c = k) := Lib.hid (by omega)
          go_region_held3 (fun _ => True) (exact True.intro) (first
            | (have hcg : ¬ c = k := HCK.out; clear hcg; refine step_append_own rfl (.tmp 40) (.tmp 43) 23 rfl w.heap.size 3 i0 (.int .i64 0) 1 8 Try.underlying23 hi0 hz0 hz1 hz2 rfl (by decide) _ _ _ o9 (by first | (simp [Act.eval]; done) | simp [Act.eval, Act.put]) ⟨b, off + k, none⟩ (l.length - k) (c - k) (M.encIs (l.drop k)) (by first | (simp [Act.eval, HCK.out]; done) | simp [Act.eval, Act.put, HCK.out]) (by rw [M.encIs_len, List.length_drop]; omega) (newsI_drop (HC.out _ hb9) k) (encIs_one _) (by unfold maxLen; omega) (by omega) (by omega) ?_; intro v3 w10 hownw10 hgroww10 hnilw10; have hb10 : Below w.heap.size w w10 := hb9.grown hgroww10 (by omega) (own_base o9); have o10 : w10.ownsRow w.heap.size 3 1 v3 (k + 1 + (l.length - k)) (M.encIs (l.take k ++ [n] ++ l.drop k)) := (by rw [M.encIs_append]; exact hownw10); have hs10 := hb10.size)
            | (refine step_append_own rfl (.tmp 37) (.tmp 39) 23 rfl w.heap.size 3 i0 (.int .i64 0) 1 8 Try.underlying23 hi0 hz0 hz1 hz2 rfl (by decide) _ _ _ (o8.alloc _) (by first | (simp [Act.eval]; done) | simp [Act.eval, Act.put]) ⟨w8.heap.size, 0, none⟩ 1 1 (M.encIs [n]) (by first | (simp [Act.eval]; done) | simp [Act.eval, Act.put]) (show (M.encIs [n]).length = 1 * 1 from rfl) (newsI1 (Box1.new _ _ rfl)) (encIs_one _) (by unfold maxLen; omega) (by omega) (by simp; omega) ?_; intro v2 w9 hownw9 hgroww9 hnilw9; have hb9 : Below w.heap.size w w9 := (hb8.alloc (by omega) _).grown hgroww9 (by simp; omega) (own_base o8); have o9 : w9.ownsRow w.heap.size 3 1 v2 (k + 1) (M.encIs (l.take k ++ [n])) := (by rw [M.encIs_append]; exact hownw9); have hs9 := hb9.size)
            | (refine step_append_own rfl (.tmp 37) (.tmp 39) 23 rfl w.heap.size 3 i0 (.int .i64 0) 1 8 Try.underlying23 hi0 hz0 hz1 hz2 rfl (by decide) _ _ _ o8 (by first | (simp [Act.eval]; done) | simp [Act.eval, Act.put]) ⟨(w.heap.size + 1), 0, none⟩ 1 1 (M.encIs [n]) (by first | (simp [Act.eval]; done) | simp [Act.eval, Act.put]) (show (M.encIs [n]).length = 1 * 1 from rfl) (newsI1 bx8) (encIs_one _) (by unfold maxLen; omega) (by omega) (by omega) ?_; intro v2 w9 hownw9 hgroww9 hnilw9; have hb9 : Below w.heap.size w w9 := hb8.grown hgroww9 (by omega) (own_base o8); have o9 : w9.ownsRow w.heap.size 3 1 v2 (k + 1) (M.encIs (l.take k ++ [n])) := (by rw [M.encIs_append]; exact hownw9); have hs9 := hb9.size)
            | (refine step_append_own rfl (.tmp 37) (.tmp 39) 23 rfl w.heap.size 3 i0 (.int .i64 0) 1 8 Try.underlying23 hi0 hz0 hz1 hz2 rfl (by decide) _ _ _ o8 (by first | (simp [Act.eval]; done) | simp [Act.eval, Act.put]) ⟨w.heap.size, 0, none⟩ 1 1 (M.encIs [n]) (by first | (simp [Act.eval]; done) | simp [Act.eval, Act.put]) (show (M.encIs [n]).length = 1 * 1 from rfl) (newsI1 bx8) (encIs_one _) (by unfold maxLen; omega) (by omega) (by omega) ?_; intro v2 w9 hownw9 hgroww9 hnilw9; have hb9 : Below w.heap.size w w9 := hb8.grown hgroww9 (by omega) (own_base o8); have o9 : w9.ownsRow w.heap.size 3 1 v2 (k + 1) (M.encIs (l.take k ++ [n])) := (by rw [M.encIs_append]; exact hownw9); have hs9 := hb9.size)
            | (refine step_append_own rfl (.tmp 33) (.tmp 36) 23 rfl w.heap.size 3 i0 (.int .i64 0) 1 8 Try.underlying23 hi0 hz0 hz1 hz2 rfl (by decide) _ _ _ (ownsRow_empty w.drew w.heap.size 3 1 (Nat.le_refl _)) (by first | (simp [Act.eval]; done) | simp [Act.eval, Act.put]) ⟨b, off, none⟩ k c (M.encIs (l.take k)) (by first | (simp [Act.eval]; done) | simp [Act.eval, Act.put]) (by rw [M.encIs_len, List.length_take]; omega) (newsI_take (HC.out _ ((Below.refl w.heap.size w).drew.alloc (Nat.le_refl _) _)) k) (encIs_one _) (by unfold maxLen; omega) (by omega) (by simp) ?_; intro v1 w8 hownw8 hgroww8 hnilw8; have hb8 : Below w.heap.size w w8 := ((Below.refl w.heap.size w).drew.alloc (Nat.le_refl _) _).grown hgroww8 (by simp) (own_base (ownsRow_empty w.drew w.heap.size 3 1 (Nat.le_refl _))); have o8 : w8.ownsRow w.heap.size 3 1 v1 k (M.encIs (l.take k)) := (by simpa using hownw8); have hs8 := hb8.size)
            | (refine step_append_own rfl (.tmp 33) (.tmp 36) 23 rfl w.heap.size 3 i0 (.int .i64 0) 1 8 Try.underlying23 hi0 hz0 hz1 hz2 rfl (by decide) _ _ _ (OA2.out) (by first | (simp [Act.eval]; done) | simp [Act.eval, Act.put]) ⟨b, off, none⟩ k c (M.encIs (l.take k)) (by first | (simp [Act.eval]; done) | simp [Act.eval, Act.put]) (by rw [M.encIs_len, List.length_take]; omega) (newsI_take (HC.out _ (((Below.refl w.heap.size w).drew.alloc (Nat.le_refl _) _).alloc (by simp) _)) k) (encIs_one _) (by unfold maxLen; omega) (by omega) (by simp; omega) ?_; intro v1 w8 hownw8 hgroww8 hnilw8; have hb8 : Below w.heap.size w w8 := (((Below.refl w.heap.size w).drew.alloc (Nat.le_refl _) _).alloc (by simp) _).grown hgroww8 (by simp; omega) (own_base OA2.out); have o8 : w8.ownsRow w.heap.size 3 1 v1 k (M.encIs (l.take k)) := (by simpa using hownw8); have bx8 := CC2.out.grown hgroww8 (by simp [Value.ownBlock]); have hs8 := hb8.size)
            | (refine step_append_own rfl (.tmp 33) (.tmp 36) 23 rfl w.heap.size 3 i0 (.int .i64 0) 1 8 Try.underlying23 hi0 hz0 hz1 hz2 rfl (by decide) _ _ _ (OA3.out) (by first | (simp [Act.eval]; done) | simp [Act.eval, Act.put]) ⟨b, off, none⟩ k c (M.encIs (l.take k)) (by first | (simp [Act.eval]; done) | simp [Act.eval, Act.put]) (by rw [M.encIs_len, List.length_take]; omega) (newsI_take (HC.out _ (((Below.refl w.heap.size w).drew.alloc (Nat.le_refl _) _).alloc (by simp) _)) k) (encIs_one _) (by unfold maxLen; omega) (by omega) (by simp; omega) ?_; intro v1 w8 hownw8 hgroww8 hnilw8; have hb8 : Below w.heap.size w w8 := (((Below.refl w.heap.size w).drew.alloc (Nat.le_refl _) _).alloc (by simp) _).grown hgroww8 (by simp; omega) (own_base OA3.out); have o8 : w8.ownsRow w.heap.size 3 1 v1 k (M.encIs (l.take k)) := (by simpa using hownw8); have bx8 := CC3.out.grown hgroww8 (by simp [Value.ownBlock]); have hs8 := hb8.size))
          all_goals
            go_wp2_with fail
            go_ret
            rw [HQ.out]
            exact putI_end (Below.refl _ _) (Nat.le_refl _) o10 (by simp) (by first | (simp; done) | (simp; omega)) hb10
    · obtain rfl : k = l.length := by omega
      have HP := Lib.hid (M.place_eq (lt := M.ltI) hk HA.out (fun h => absurd h (by omega)))
      have HQ := Lib.hid (M.put_new (d := n) HP.out (by rw [List.getElem?_eq_none (Nat.le_refl _)]; intro e; cases e))
      go_wp2_with fail
      have oa2 : ((w.drew.alloc (.cells #[] 3)).alloc (.cells #[.int .i64 n] 3)).ownsRow w.heap.size 3 1 (.slice (some ⟨w.heap.size, 0, none⟩) 0 0) 0 [] := (ownsRow_empty w.drew w.heap.size 3 1 (Nat.le_refl _)).alloc _
      have oa3 : ((w.drew.alloc (.cells #[.int .i64 n] 3)).alloc (.cells #[] 3)).ownsRow w.heap.size 3 1 (.slice (some ⟨w.heap.size + 1, 0, none⟩) 0 0) 0 [] := by
        have := ownsRow_empty (w.drew.alloc (.cells #[.int .i64 n] 3)) w.heap.size 3 1 (by simp)
        simpa using this
      have cc2 : Box1 ((w.drew.alloc (.cells #[] 3)).alloc (.cells #[.int .i64 n] 3)) (w.heap.size + 1) 3 (.int .i64 n) := Box1.new _ _ (by simp)
      have cc3 : Box1 ((w.drew.alloc (.cells #[.int .i64 n] 3)).alloc (.cells #[] 3)) w.heap.size 3 (.int .i64 n) := (Box1.new _ _ rfl).alloc _
      have OA2 := Lib.hid oa2
      have OA3 := Lib.hid oa3
      have CC2 := Lib.hid cc2
      have CC3 := Lib.hid cc3
      have hdrew : w.drew.heap.size = w.heap.size := rfl
      have hkc : l.length ≤ c := by omega
      clear oa2 oa3 cc2 cc3
      rcases Decidable.em (c = l.length) with hck0 | hck0
      all_goals have HCK := Lib.hid hck0
      all_goals clear hck0
      all_goals go_region_held3 (fun _ => True) (exact True.intro) (first
        | (have hcg : ¬ c = l.length := HCK.out; clear hcg; refine step_append_own rfl (.tmp 40) (.tmp 43) 23 rfl w.heap.size 3 i0 (.int .i64 0) 1 8 Try.underlying23 hi0 hz0 hz1 hz2 rfl (by decide) _ _ _ o9 (by first | (simp [Act.eval]; done) | simp [Act.eval, Act.put]) ⟨b, off + l.length, none⟩ (l.length - l.length) (c - l.length) (M.encIs (l.drop l.length)) (by first | (simp [Act.eval, HCK.out]; done) | simp [Act.eval, Act.put, HCK.out]) (by rw [M.encIs_len, List.length_drop]; omega) (newsI_drop (HC.out _ hb9) l.length) (encIs_one _) (by unfold maxLen; omega) (by omega) (by omega) ?_; intro v3 w10 hownw10 hgroww10 hnilw10; have hb10 : Below w.heap.size w w10 := hb9.grown hgroww10 (by omega) (own_base o9); have o10 : w10.ownsRow w.heap.size 3 1 v3 (l.length + 1 + (l.length - l.length)) (M.encIs (l.take l.length ++ [n] ++ l.drop l.length)) := (by rw [M.encIs_append]; exact hownw10); have hs10 := hb10.size)
        | (have hcg : c = l.length := HCK.out; clear hcg; refine step_append_own rfl (.tmp 40) (.tmp 43) 23 rfl w.heap.size 3 i0 (.int .i64 0) 1 8 Try.underlying23 hi0 hz0 hz1 hz2 rfl (by decide) _ _ _ o9 (by first | (simp [Act.eval]; done) | simp [Act.eval, Act.put]) ⟨b, off, none⟩ (l.length - l.length) (c - l.length) (M.encIs (l.drop l.length)) (by first | (simp [Act.eval, HCK.out]; done) | simp [Act.eval, Act.put, HCK.out]) (by rw [M.encIs_len, List.length_drop]; omega) (fun j u hu => absurd hu (by rw [List.drop_eq_nil_of_le (by have := HCK.out; omega)]; simp [M.encIs])) (encIs_one _) (by unfold maxLen; omega) (by omega) (by omega) ?_; intro v3 w10 hownw10 hgroww10 hnilw10; have hb10 : Below w.heap.size w w10 := hb9.grown hgroww10 (by omega) (own_base o9); have o10 : w10.ownsRow w.heap.size 3 1 v3 (l.length + 1 + (l.length - l.length)) (M.encIs (l.take l.length ++ [n] ++ l.drop l.length)) := (by rw [M.encIs_append]; exact hownw10); have hs10 := hb10.size)
        | (refine step_append_own rfl (.tmp 37) (.tmp 39) 23 rfl w.heap.size 3 i0 (.int .i64 0) 1 8 Try.underlying23 hi0 hz0 hz1 hz2 rfl (by decide) _ _ _ (o8.alloc _) (by first | (simp [Act.eval]; done) | simp [Act.eval, Act.put]) ⟨w8.heap.size, 0, none⟩ 1 1 (M.encIs [n]) (by first | (simp [Act.eval]; done) | simp [Act.eval, Act.put]) (show (M.encIs [n]).length = 1 * 1 from rfl) (newsI1 (Box1.new _ _ rfl)) (encIs_one _) (by unfold maxLen; omega) (by omega) (by simp; omega) ?_; intro v2 w9 hownw9 hgroww9 hnilw9; have hb9 : Below w.heap.size w w9 := (hb8.alloc (by omega) _).grown hgroww9 (by simp; omega) (own_base o8); have o9 : w9.ownsRow w.heap.size 3 1 v2 (l.length + 1) (M.encIs (l.take l.length ++ [n])) := (by rw [M.encIs_append]; exact hownw9); have hs9 := hb9.size)
        | (refine step_append_own rfl (.tmp 37) (.tmp 39) 23 rfl w.heap.size 3 i0 (.int .i64 0) 1 8 Try.underlying23 hi0 hz0 hz1 hz2 rfl (by decide) _ _ _ o8 (by first | (simp [Act.eval]; done) | simp [Act.eval, Act.put]) ⟨(w.heap.size + 1), 0, none⟩ 1 1 (M.encIs [n]) (by first | (simp [Act.eval]; done) | simp [Act.eval, Act.put]) (show (M.encIs [n]).length = 1 * 1 from rfl) (newsI1 bx8) (encIs_one _) (by unfold maxLen; omega) (by omega) (by omega) ?_; intro v2 w9 hownw9 hgroww9 hnilw9; have hb9 : Below w.heap.size w w9 := hb8.grown hgroww9 (by omega) (own_base o8); have o9 : w9.ownsRow w.heap.size 3 1 v2 (l.length + 1) (M.encIs (l.take l.length ++ [n])) := (by rw [M.encIs_append]; exact hownw9); have hs9 := hb9.size)
        | (refine step_append_own rfl (.tmp 37) (.tmp 39) 23 rfl w.heap.size 3 i0 (.int .i64 0) 1 8 Try.underlying23 hi0 hz0 hz1 hz2 rfl (by decide) _ _ _ o8 (by first | (simp [Act.eval]; done) | simp [Act.eval, Act.put]) ⟨w.heap.size, 0, none⟩ 1 1 (M.encIs [n]) (by first | (simp [Act.eval]; done) | simp [Act.eval, Act.put]) (show (M.encIs [n]).length = 1 * 1 from rfl) (newsI1 bx8) (encIs_one _) (by unfold maxLen; omega) (by omega) (by omega) ?_; intro v2 w9 hownw9 hgroww9 hnilw9; have hb9 : Below w.heap.size w w9 := hb8.grown hgroww9 (by omega) (own_base o8); have o9 : w9.ownsRow w.heap.size 3 1 v2 (l.length + 1) (M.encIs (l.take l.length ++ [n])) := (by rw [M.encIs_append]; exact hownw9); have hs9 := hb9.size)
        | (refine step_append_own rfl (.tmp 33) (.tmp 36) 23 rfl w.heap.size 3 i0 (.int .i64 0) 1 8 Try.underlying23 hi0 hz0 hz1 hz2 rfl (by decide) _ _ _ (ownsRow_empty w.drew w.heap.size 3 1 (Nat.le_refl _)) (by first | (simp [Act.eval]; done) | simp [Act.eval, Act.put]) ⟨b, off, none⟩ l.length c (M.encIs (l.take l.length)) (by first | (simp [Act.eval]; done) | simp [Act.eval, Act.put]) (by rw [M.encIs_len, List.length_take]; omega) (newsI_take (HC.out _ ((Below.refl w.heap.size w).drew.alloc (Nat.le_refl _) _)) l.length) (encIs_one _) (by unfold maxLen; omega) (by omega) (by simp) ?_; intro v1 w8 hownw8 hgroww8 hnilw8; have hb8 : Below w.heap.size w w8 := ((Below.refl w.heap.size w).drew.alloc (Nat.le_refl _) _).grown hgroww8 (by simp) (own_base (ownsRow_empty w.drew w.heap.size 3 1 (Nat.le_refl _))); have o8 : w8.ownsRow w.heap.size 3 1 v1 l.length (M.encIs (l.take l.length)) := (by simpa using hownw8); have hs8 := hb8.size)
        | (refine step_append_own rfl (.tmp 33) (.tmp 36) 23 rfl w.heap.size 3 i0 (.int .i64 0) 1 8 Try.underlying23 hi0 hz0 hz1 hz2 rfl (by decide) _ _ _ (OA2.out) (by first | (simp [Act.eval]; done) | simp [Act.eval, Act.put]) ⟨b, off, none⟩ l.length c (M.encIs (l.take l.length)) (by first | (simp [Act.eval]; done) | simp [Act.eval, Act.put]) (by rw [M.encIs_len, List.length_take]; omega) (newsI_take (HC.out _ (((Below.refl w.heap.size w).drew.alloc (Nat.le_refl _) _).alloc (by simp) _)) l.length) (encIs_one _) (by unfold maxLen; omega) (by omega) (by simp; omega) ?_; intro v1 w8 hownw8 hgroww8 hnilw8; have hb8 : Below w.heap.size w w8 := (((Below.refl w.heap.size w).drew.alloc (Nat.le_refl _) _).alloc (by simp) _).grown hgroww8 (by simp; omega) (own_base OA2.out); have o8 : w8.ownsRow w.heap.size 3 1 v1 l.length (M.encIs (l.take l.length)) := (by simpa using hownw8); have bx8 := CC2.out.grown hgroww8 (by simp [Value.ownBlock]); have hs8 := hb8.size)
        | (refine step_append_own rfl (.tmp 33) (.tmp 36) 23 rfl w.heap.size 3 i0 (.int .i64 0) 1 8 Try.underlying23 hi0 hz0 hz1 hz2 rfl (by decide) _ _ _ (OA3.out) (by first | (simp [Act.eval]; done) | simp [Act.eval, Act.put]) ⟨b, off, none⟩ l.length c (M.encIs (l.take l.length)) (by first | (simp [Act.eval]; done) | simp [Act.eval, Act.put]) (by rw [M.encIs_len, List.length_take]; omega) (newsI_take (HC.out _ (((Below.refl w.heap.size w).drew.alloc (Nat.le_refl _) _).alloc (by simp) _)) l.length) (encIs_one _) (by unfold maxLen; omega) (by omega) (by simp; omega) ?_; intro v1 w8 hownw8 hgroww8 hnilw8; have hb8 : Below w.heap.size w w8 := (((Below.refl w.heap.size w).drew.alloc (Nat.le_refl _) _).alloc (by simp) _).grown hgroww8 (by simp; omega) (own_base OA3.out); have o8 : w8.ownsRow w.heap.size 3 1 v1 l.length (M.encIs (l.take l.length)) := (by simpa using hownw8); have bx8 := CC3.out.grown hgroww8 (by simp [Value.ownBlock]); have hs8 := hb8.size))
      all_goals
        go_wp2_with fail
        go_ret
        rw [HQ.out]
        exact putI_end (Below.refl _ _) (Nat.le_refl _) o10 (by simp) (by first | (simp; done) | (simp; omega)) hb10
end C
end Go.Proofs.Ytddpjjdncmokmaa
