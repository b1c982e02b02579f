/-
  CLOSED FACTS on arrays of two and three numbers: '==', a slice turned to an array. No condition.
  CONTRACTS for a door put to its place: spec.l1Least, spec.l1Most; words on rows. No condition.
  CONTRACT of spec.l1Has: whether a number is in a list; memory stays. Condition: the list reads so.
  CONTRACTS of spec.l1Put and spec.l1Has: a number put to its place, in memory of the call's own, or where they were; what lay in memory stays. Condition: the numbers lie in memory of the caller's own, at most 1000 of them, and one at least.
  WORDS for steps of drawn regions and for boxes beside rows, own to these proofs. No condition.
  LAW for a region that draws its order, own to these proofs: loads may be taken first under a condition S on the world that the region's last writers need not keep: a writer waits for each operation that is taken so. No condition.
-/
import Derived.Test.YtcoaggnilgfjfaaSBase
import Derived.Laws.StructEq
import Derived.ProofKit
import Derived.Test.YtcoaggnilgfjfaaSOwn
import Derived.Test.YtcoaggnilgfjfaaSValid
import Derived.Test.YtcoaggnilgfjfaaSLaw
import Derived.Deep.RegionHeld3
import Derived.Deep.RegionLaw
import Derived.OwnWalk
import Derived.OrdersHeld
import Derived.Deep.RegionHeld
namespace Go.Proofs.Ytcoaggnilgfjfaa
open Go.RowKit
namespace C
theorem eqA2 (a b c d : Int) (w : World) : (Op.equalIn 10000 64 (.agg #[.int .i64 a, .int .i64 b]) (.agg #[.int .i64 c, .int .i64 d])).run Try.prog w = .ok (a == c && b == d) w := by
  have u3 := Try.underlying3
  have a3 := Try.isAgg3
  have z3 := Try.sizeOf3
  rw [show (10000 : Nat) = 9999 + 1 from rfl, Op.equalIn]
  simp only [Sem.run_bind, run_underlying Try.underlying64, Result.andThen_ok]
  simp only [Std.Legacy.Range.forIn_eq_forIn_range', Std.Legacy.Range.size, Nat.sub_zero, Nat.add_sub_cancel, Nat.div_one, List.range'_succ, List.range'_zero, List.forIn_cons, List.forIn_nil]
  go_simp
  by_cases h1 : a = c <;> by_cases h2 : b = d <;> simp [h1, h2]
theorem eqA3 (a b e c d f : Int) (w : World) : (Op.equalIn 10000 69 (.agg #[.int .i64 a, .int .i64 b, .int .i64 e]) (.agg #[.int .i64 c, .int .i64 d, .int .i64 f])).run Try.prog w = .ok (a == c && b == d && e == f) w := by
  have u3 := Try.underlying3
  have a3 := Try.isAgg3
  have z3 := Try.sizeOf3
  rw [show (10000 : Nat) = 9999 + 1 from rfl, Op.equalIn]
  simp only [Sem.run_bind, run_underlying Try.underlying69, Result.andThen_ok]
  simp only [Std.Legacy.Range.forIn_eq_forIn_range', Std.Legacy.Range.size, Nat.sub_zero, Nat.add_sub_cancel, Nat.div_one, List.range'_succ, List.range'_zero, List.forIn_cons, List.forIn_nil]
  go_simp
  by_cases h1 : a = c <;> by_cases h2 : b = d <;> by_cases h3 : e = f <;> simp [h1, h2, h3]
theorem sl23 (g : Nat) (w : World) : (Instr.sliceAt 69 (.pointer (some ⟨g, 0, none⟩)) none (some (.int .i64 2)) none).run Try.prog w = .ok (.slice (some ⟨g, 0, none⟩) 2 3) w := by kernel_rfl
theorem ar2 (g : Nat) (w : World) : (Instr.arrayAt 64 (.slice (some ⟨g, 0, none⟩) 2 3)).run Try.prog w = .ok (.pointer (some ⟨g, 0, none⟩)) w := by kernel_rfl
theorem eqT2 : Try.prog.eqGuardType Try.prog.depth 64 = false := by kernel_rfl
theorem eqT3 : Try.prog.eqGuardType Try.prog.depth 69 = false := by kernel_rfl
end C
end Go.Proofs.Ytcoaggnilgfjfaa
namespace Go.Proofs.Ytcoaggnilgfjfaa
open Go.RowKit
namespace C
set_option maxHeartbeats 800000
set_option maxRecDepth 20000
/-- doors in memory from B on, the rest as it was -/
def PutPost (B : Nat) (w : World) (l : List M.Dr) (e : Ending) (w' : World) : Prop :=
  ∃ a c, e = .returned (.slice a l.length c) ∧ OwnAt B w'.heap.size w' 69 a (M.encDs l) ∧ l.length ≤ c ∧ c ≤ 9223372036854775807 ∧ Below w.heap.size w w'
theorem put_end {B n : Nat} {w w' W : World} {l xs : List M.Dr} {v : Value} (hW : Below w.heap.size w W) (hB : B ≤ w.heap.size) (h : w'.ownsRow W.heap.size 69 3 v n (M.encDs xs)) (hx : xs = l) (hn : n = l.length) (hb : Below W.heap.size W w') : PutPost B w l (.returned v) w' := by
  subst hx; subst hn
  obtain ⟨a, c, rfl, h1, h2, h3⟩ := own_slice h
  have := hW.size
  exact ⟨a, c, rfl, h3.mono (by omega) (Nat.le_refl _), h1, h2, hW.trans (hb.mono this)⟩
theorem encDs_single (d : M.Dr) : M.encDs [d] = M.encD d := by simp [M.encDs]
theorem encD_one (d : M.Dr) : ∀ x ∈ M.encD d, x.oneCell' = true := by
  intro x hx
  simp [M.encD] at hx
  rcases hx with rfl | rfl | rfl <;> rfl
theorem news3 {w : World} {g : Nat} {d : M.Dr} (h : Box3 w g 69 (.int .i64 d.1) (.int .i64 d.2.1) (.int .i64 d.2.2)) : ∀ j u, (M.encD d)[j]? = some u → w.cell? ((⟨g, 0, none⟩ : Addr).add j) = some u := World.news_of_block h
theorem add_off (b off j : Nat) : (⟨b, off, none⟩ : Addr).add j = ⟨b, off + j, none⟩ := by
  unfold Addr.add
  split
  · rename_i h; subst h; rfl
  · rfl
theorem news_take {W : World} {b off : Nat} {l : List M.Dr} (h : ∀ j u, (M.encDs l)[j]? = some u → W.cell? ⟨b, off + j, none⟩ = some u) (k : Nat) : ∀ j u, (M.encDs (l.take k))[j]? = some u → W.cell? ((⟨b, off, none⟩ : Addr).add j) = some u := by
  intro j u hu
  rw [M.encDs_take, List.getElem?_take] at hu
  split at hu
  · rw [add_off]; exact h j u hu
  · cases hu
theorem news_drop {W : World} {b off : Nat} {l : List M.Dr} (h : ∀ j u, (M.encDs l)[j]? = some u → W.cell? ⟨b, off + j, none⟩ = some u) (k : Nat) : ∀ j u, (M.encDs (l.drop k))[j]? = some u → W.cell? ((⟨b, off + k * 3, none⟩ : Addr).add j) = some u := by
  intro j u hu
  rw [M.encDs_drop, List.getElem?_drop] at hu
  rw [add_off, Nat.add_assoc]
  exact h _ u hu
end C
end Go.Proofs.Ytcoaggnilgfjfaa
namespace Go.Proofs.Ytcoaggnilgfjfaa
open Go.RowKit
namespace M
def memB (l : List Int) (n : Int) : Bool := l.contains n
theorem memB_true {l : List Int} {n : Int} (h : memB l n = true) : n ∈ l := by unfold memB at h; exact List.contains_iff_mem.1 h
theorem memB_false {l : List Int} {n : Int} (h : memB l n = false) : n ∉ l := fun hm => by
  have : memB l n = true := by unfold memB; exact List.contains_iff_mem.2 hm
  rw [h] at this; cases this
end M
namespace C
set_option maxHeartbeats 3200000
set_option maxRecDepth 20000
theorem l1Has_any (w : World) (lo hi : Nat) (a : Option Addr) (c : Nat) (l : List Int) (n : Int) (h : RowIn lo hi w a (M.encIs l)) (hl : l.length ≤ 1048576) :
    Calls Try.prog 88 #[.slice a l.length c, .int .i64 n] w fun e w' => e = .returned (.bool (M.memB l n)) ∧ w = w' := by
  have H := Lib.hid h
  clear h
  go_enter Try.func88, Try.ntmps88
  go_wp2_with fail
  go_loop [5] (fun i => ∃ (k : Nat), k ≤ l.length ∧ i = .int .i64 k ∧ (∀ j (hj : j < l.length), j < k → l[j] ≠ n)) (fun i => l.length - (intOf i).toNat)
  case atStart => exact ⟨0, Nat.zero_le _, rfl, fun j _ h => by omega⟩
  case round =>
    obtain ⟨k, hk, rfl, hall⟩ := hrel
    have HA := Lib.hid hall
    clear hall
    by_cases hlt : k < l.length
    · obtain ⟨b, off, rfl, _, _, hc0⟩ := H.out.at_ (k := k) (by rw [M.encIs_len]; exact hlt)
      have p0 := hc0 _ _ (M.encIs_at hlt)
      clear hc0
      rcases Decidable.em (l[k] = n) with hlk | hlk
      · have HF : Hid (M.memB l n = true) := Lib.hid (by unfold M.memB; rw [List.contains_iff_mem, ← hlk]; exact List.getElem_mem hlt)
        have hb : (l[k] == n) = true := by simpa using hlk
        clear hlk
        go_wp2_with fail
        go_ret
        exact ⟨by rw [HF.out]; rfl, rfl⟩
      · have HK := Lib.hid hlk
        have hb : (l[k] == n) = false := by simpa using hlk
        clear hlk
        go_wp2_with fail
        go_round
        case rel => exact ⟨k + 1, by omega, by go_num, fun j hj hjk => by
          rcases Nat.lt_or_ge j k with h | h
          · exact HA.out j hj h
          · obtain rfl : j = k := by omega
            exact HK.out⟩
        case measure => simp [intOf]; omega
    · have HF : Hid (M.memB l n = false) := Lib.hid (by
        unfold M.memB
        rw [Bool.eq_false_iff, ne_eq, List.contains_iff_mem]
        intro hm
        obtain ⟨j, hj, he⟩ := List.mem_iff_getElem.1 hm
        exact HA.out j hj (by omega) he)
      go_wp2_with fail
      go_ret
      exact ⟨by rw [HF.out]; rfl, rfl⟩
end C
end Go.Proofs.Ytcoaggnilgfjfaa
namespace Go.Proofs.Ytcoaggnilgfjfaa
open Go.RowKit
namespace C
set_option maxHeartbeats 32000000
set_option maxRecDepth 20000
theorem encIs_one (l : List Int) : ∀ x ∈ M.encIs l, x.oneCell' = true := fun x hx => by unfold M.encIs at hx; obtain ⟨z, _, rfl⟩ := List.mem_map.1 hx; rfl
def Box1 (w : World) (g : Nat) (T : TypeId) (u : Value) : Prop := w.heap[g]? = some (.cells #[u] T (0, 0))
theorem Box1.new {w : World} {g : Nat} (T : TypeId) (u : Value) (hg : g = w.heap.size) : Box1 (w.alloc (.cells #[u] T)) g T u := by subst hg; exact heap_alloc_new w _
theorem Box1.lt {w : World} {g : Nat} {T : TypeId} {u : Value} (h : Box1 w g T u) : g < w.heap.size := heap_lt h
theorem Box1.alloc {w : World} {g : Nat} {T : TypeId} {u : Value} (h : Box1 w g T u) (o : Obj) : Box1 (w.alloc o) g T u := (Below.heap_alloc w o g h.lt).trans h
theorem Box1.grown {w w' : World} {g : Nat} {T : TypeId} {u : Value} {row : Option Nat} (h : Box1 w g T u) (hg : w.grownBy w' row) (hne : row ≠ some g) : Box1 w' g T u := (hg.block g h.lt (fun e => hne e.symm)).trans h
theorem newsI1 {w : World} {g : Nat} {n : Int} (h : Box1 w g 3 (.int .i64 n)) : ∀ j u, (M.encIs [n])[j]? = some u → w.cell? ((⟨g, 0, none⟩ : Addr).add j) = some u := World.news_of_block h
theorem newsI_take {W : World} {b off : Nat} {l : List Int} (h : ∀ j u, (M.encIs l)[j]? = some u → W.cell? ⟨b, off + j, none⟩ = some u) (k : Nat) : ∀ j u, (M.encIs (l.take k))[j]? = some u → W.cell? ((⟨b, off, none⟩ : Addr).add j) = some u := by
  intro j u hu
  have e : M.encIs (l.take k) = (M.encIs l).take k := by unfold M.encIs; rw [List.map_take]
  rw [e, List.getElem?_take] at hu
  split at hu
  · rw [add_off]; exact h j u hu
  · cases hu
theorem newsI_drop {W : World} {b off : Nat} {l : List Int} (h : ∀ j u, (M.encIs l)[j]? = some u → W.cell? ⟨b, off + j, none⟩ = some u) (k : Nat) : ∀ j u, (M.encIs (l.drop k))[j]? = some u → W.cell? ((⟨b, off + k, none⟩ : Addr).add j) = some u := by
  intro j u hu
  have e : M.encIs (l.drop k) = (M.encIs l).drop k := by unfold M.encIs; rw [List.map_drop]
  rw [e, List.getElem?_drop] at hu
  rw [add_off, Nat.add_assoc]
  exact h _ u hu
/-- numbers in memory from B on, the rest as it was -/
def PutIPost (B : Nat) (w : World) (l : List Int) (e : Ending) (w' : World) : Prop :=
  ∃ a c, e = .returned (.slice a l.length c) ∧ OwnAt B w'.heap.size w' 3 a (M.encIs l) ∧ l.length ≤ c ∧ c ≤ 9223372036854775807 ∧ Below w.heap.size w w'
theorem putI_end {B n : Nat} {w w' W : World} {l xs : List Int} {v : Value} (hW : Below w.heap.size w W) (hB : B ≤ w.heap.size) (h : w'.ownsRow W.heap.size 3 1 v n (M.encIs xs)) (hx : xs = l) (hn : n = l.length) (hb : Below W.heap.size W w') : PutIPost B w l (.returned v) w' := by
  subst hx; subst hn
  obtain ⟨a, c, rfl, h1, h2, h3⟩ := own_slice h
  have := hW.size
  exact ⟨a, c, rfl, h3.mono (by omega) (Nat.le_refl _), h1, h2, hW.trans (hb.mono this)⟩
theorem l1Put_any (w : World) (lo hi : Nat) (b off c : Nat) (l : List Int) (n : Int) (h : RowIn lo hi w (some ⟨b, off, none⟩) (M.encIs l)) (hne : l ≠ []) (hnm : n ∉ l) (hz : hi ≤ w.heap.size) (hl : l.length ≤ 1000) (hc1 : l.length ≤ c) (hc2 : c ≤ 9223372036854775807) :
    Calls Try.prog 138 #[.slice (some ⟨b, off, none⟩) l.length c, .int .i64 n] w (PutIPost w.heap.size w (M.put M.ltI l n)) := by
  obtain ⟨i0, hi0, hz0, hz1, hz2⟩ := info_parts infoI
  have hlen : 0 < l.length := List.length_pos_iff.2 hne
  have HNM := Lib.hid hnm
  clear hnm
  obtain ⟨b', off', e, hb1, hb2, hcc⟩ := h.at_ (k := 0) (by rw [M.encIs_len]; omega)
  injection e with e
  injection e with e1 e2 _
  subst e1; subst e2
  have hbw : b < w.heap.size := by omega
  have HC := Lib.hid (fun W' (hq : Below w.heap.size w W') j u hu => (hq.cell (p := ⟨b, off + j, none⟩) hbw).trans (hcc j u hu))
  clear h hcc hne
  go_enter Try.func138, Try.ntmps138
  go_wp2_with fail
  go_loop [5] (fun i => ∃ (k : Nat), k ≤ l.length ∧ i = .int .i64 k ∧ (∀ j (hj : j < l.length), j < k → M.ltI l[j] n = true)) (fun i => l.length - (intOf i).toNat)
  case atStart => exact ⟨0, Nat.zero_le _, rfl, fun j _ h => by omega⟩
  case round =>
    obtain ⟨k, hk, rfl, hall⟩ := hrel
    have HA := Lib.hid hall
    clear hall
    by_cases hlt : k < l.length
    · have p0 : w.cell? ⟨b, off + k, none⟩ = some (.int .i64 l[k]) := HC.out w (Below.refl _ _) _ _ (M.encIs_at hlt)
      by_cases hlk : l[k] < n
      · have HK : Hid (M.ltI l[k] n = true) := Lib.hid (decide_eq_true hlk)
        go_wp2_with fail
        go_round
        case rel => exact ⟨k + 1, by omega, by go_num, fun j hj hjk => by
          rcases Nat.lt_or_ge j k with h | h
          · exact HA.out j hj h
          · obtain rfl : j = k := by omega
            exact HK.out⟩
        case measure => simp [intOf]; omega
      · have HP := Lib.hid (M.place_eq (lt := M.ltI) hk HA.out (fun _ => decide_eq_false hlk))
        rcases Decidable.em (l[k] = n) with hld | hld
        · exact absurd (List.getElem_mem hlt) (by rw [hld]; exact HNM.out)
        · have HQ := Lib.hid (M.put_new HP.out (by rw [List.getElem?_eq_getElem hlt]; intro e; injection e with e; exact hld e))
          have hlb : (l[k] == n) = false := by simpa using hld
          clear hld
          go_wp2_with fail
          clear p0
          have oa2 : ((w.drew.alloc (.cells #[] 3)).alloc (.cells #[.int .i64 n] 3)).ownsRow w.heap.size 3 1 (.slice (some ⟨w.heap.size, 0, none⟩) 0 0) 0 [] := (ownsRow_empty w.drew w.heap.size 3 1 (Nat.le_refl _)).alloc _
          have oa3 : ((w.drew.alloc (.cells #[.int .i64 n] 3)).alloc (.cells #[] 3)).ownsRow w.heap.size 3 1 (.slice (some ⟨w.heap.size + 1, 0, none⟩) 0 0) 0 [] := by
            have := ownsRow_empty (w.drew.alloc (.cells #[.int .i64 n] 3)) w.heap.size 3 1 (by simp)
            simpa using this
          have cc2 : Box1 ((w.drew.alloc (.cells #[] 3)).alloc (.cells #[.int .i64 n] 3)) (w.heap.size + 1) 3 (.int .i64 n) := Box1.new _ _ (by simp)
          have cc3 : Box1 ((w.drew.alloc (.cells #[.int .i64 n] 3)).alloc (.cells #[] 3)) w.heap.size 3 (.int .i64 n) := (Box1.new _ _ rfl).alloc _
          have OA2 := Lib.hid oa2
          have OA3 := Lib.hid oa3
          have CC2 := Lib.hid cc2
          have CC3 := Lib.hid cc3
          have hdrew : w.drew.heap.size = w.heap.size := rfl
          have hkc : k ≤ c := by omega
          clear oa2 oa3 cc2 cc3
          have HCK : Hid (¬ c = k) := Lib.hid (by omega)
          go_region_held3 (fun _ => True) (exact True.intro) (first
            | (have hcg : ¬ c = k := HCK.out; clear hcg; refine step_append_own rfl (.tmp 40) (.tmp 43) 23 rfl w.heap.size 3 i0 (.int .i64 0) 1 8 Try.underlying23 hi0 hz0 hz1 hz2 rfl (by decide) _ _ _ o9 (by first | (simp [Act.eval]; done) | simp [Act.eval, Act.put]) ⟨b, off + k, none⟩ (l.length - k) (c - k) (M.encIs (l.drop k)) (by first | (simp [Act.eval, HCK.out]; done) | simp [Act.eval, Act.put, HCK.out]) (by rw [M.encIs_len, List.length_drop]; omega) (newsI_drop (HC.out _ hb9) k) (encIs_one _) (by unfold maxLen; omega) (by omega) (by omega) ?_; intro v3 w10 hownw10 hgroww10 hnilw10; have hb10 : Below w.heap.size w w10 := hb9.grown hgroww10 (by omega) (own_base o9); have o10 : w10.ownsRow w.heap.size 3 1 v3 (k + 1 + (l.length - k)) (M.encIs (l.take k ++ [n] ++ l.drop k)) := (by rw [M.encIs_append]; exact hownw10); have hs10 := hb10.size)
            | (refine step_append_own rfl (.tmp 37) (.tmp 39) 23 rfl w.heap.size 3 i0 (.int .i64 0) 1 8 Try.underlying23 hi0 hz0 hz1 hz2 rfl (by decide) _ _ _ (o8.alloc _) (by first | (simp [Act.eval]; done) | simp [Act.eval, Act.put]) ⟨w8.heap.size, 0, none⟩ 1 1 (M.encIs [n]) (by first | (simp [Act.eval]; done) | simp [Act.eval, Act.put]) (show (M.encIs [n]).length = 1 * 1 from rfl) (newsI1 (Box1.new _ _ rfl)) (encIs_one _) (by unfold maxLen; omega) (by omega) (by simp; omega) ?_; intro v2 w9 hownw9 hgroww9 hnilw9; have hb9 : Below w.heap.size w w9 := (hb8.alloc (by omega) _).grown hgroww9 (by simp; omega) (own_base o8); have o9 : w9.ownsRow w.heap.size 3 1 v2 (k + 1) (M.encIs (l.take k ++ [n])) := (by rw [M.encIs_append]; exact hownw9); have hs9 := hb9.size)
            | (refine step_append_own rfl (.tmp 37) (.tmp 39) 23 rfl w.heap.size 3 i0 (.int .i64 0) 1 8 Try.underlying23 hi0 hz0 hz1 hz2 rfl (by decide) _ _ _ o8 (by first | (simp [Act.eval]; done) | simp [Act.eval, Act.put]) ⟨(w.heap.size + 1), 0, none⟩ 1 1 (M.encIs [n]) (by first | (simp [Act.eval]; done) | simp [Act.eval, Act.put]) (show (M.encIs [n]).length = 1 * 1 from rfl) (newsI1 bx8) (encIs_one _) (by unfold maxLen; omega) (by omega) (by omega) ?_; intro v2 w9 hownw9 hgroww9 hnilw9; have hb9 : Below w.heap.size w w9 := hb8.grown hgroww9 (by omega) (own_base o8); have o9 : w9.ownsRow w.heap.size 3 1 v2 (k + 1) (M.encIs (l.take k ++ [n])) := (by rw [M.encIs_append]; exact hownw9); have hs9 := hb9.size)
            | (refine step_append_own rfl (.tmp 37) (.tmp 39) 23 rfl w.heap.size 3 i0 (.int .i64 0) 1 8 Try.underlying23 hi0 hz0 hz1 hz2 rfl (by decide) _ _ _ o8 (by first | (simp [Act.eval]; done) | simp [Act.eval, Act.put]) ⟨w.heap.size, 0, none⟩ 1 1 (M.encIs [n]) (by first | (simp [Act.eval]; done) | simp [Act.eval, Act.put]) (show (M.encIs [n]).length = 1 * 1 from rfl) (newsI1 bx8) (encIs_one _) (by unfold maxLen; omega) (by omega) (by omega) ?_; intro v2 w9 hownw9 hgroww9 hnilw9; have hb9 : Below w.heap.size w w9 := hb8.grown hgroww9 (by omega) (own_base o8); have o9 : w9.ownsRow w.heap.size 3 1 v2 (k + 1) (M.encIs (l.take k ++ [n])) := (by rw [M.encIs_append]; exact hownw9); have hs9 := hb9.size)
            | (refine step_append_own rfl (.tmp 33) (.tmp 36) 23 rfl w.heap.size 3 i0 (.int .i64 0) 1 8 Try.underlying23 hi0 hz0 hz1 hz2 rfl (by decide) _ _ _ (ownsRow_empty w.drew w.heap.size 3 1 (Nat.le_refl _)) (by first | (simp [Act.eval]; done) | simp [Act.eval, Act.put]) ⟨b, off, none⟩ k c (M.encIs (l.take k)) (by first | (simp [Act.eval]; done) | simp [Act.eval, Act.put]) (by rw [M.encIs_len, List.length_take]; omega) (newsI_take (HC.out _ ((Below.refl w.heap.size w).drew.alloc (Nat.le_refl _) _)) k) (encIs_one _) (by unfold maxLen; omega) (by omega) (by simp) ?_; intro v1 w8 hownw8 hgroww8 hnilw8; have hb8 : Below w.heap.size w w8 := ((Below.refl w.heap.size w).drew.alloc (Nat.le_refl _) _).grown hgroww8 (by simp) (own_base (ownsRow_empty w.drew w.heap.size 3 1 (Nat.le_refl _))); have o8 : w8.ownsRow w.heap.size 3 1 v1 k (M.encIs (l.take k)) := (by simpa using hownw8); have hs8 := hb8.size)
            | (refine step_append_own rfl (.tmp 33) (.tmp 36) 23 rfl w.heap.size 3 i0 (.int .i64 0) 1 8 Try.underlying23 hi0 hz0 hz1 hz2 rfl (by decide) _ _ _ (OA2.out) (by first | (simp [Act.eval]; done) | simp [Act.eval, Act.put]) ⟨b, off, none⟩ k c (M.encIs (l.take k)) (by first | (simp [Act.eval]; done) | simp [Act.eval, Act.put]) (by rw [M.encIs_len, List.length_take]; omega) (newsI_take (HC.out _ (((Below.refl w.heap.size w).drew.alloc (Nat.le_refl _) _).alloc (by simp) _)) k) (encIs_one _) (by unfold maxLen; omega) (by omega) (by simp; omega) ?_; intro v1 w8 hownw8 hgroww8 hnilw8; have hb8 : Below w.heap.size w w8 := (((Below.refl w.heap.size w).drew.alloc (Nat.le_refl _) _).alloc (by simp) _).grown hgroww8 (by simp; omega) (own_base OA2.out); have o8 : w8.ownsRow w.heap.size 3 1 v1 k (M.encIs (l.take k)) := (by simpa using hownw8); have bx8 := CC2.out.grown hgroww8 (by simp [Value.ownBlock]); have hs8 := hb8.size)
            | (refine step_append_own rfl (.tmp 33) (.tmp 36) 23 rfl w.heap.size 3 i0 (.int .i64 0) 1 8 Try.underlying23 hi0 hz0 hz1 hz2 rfl (by decide) _ _ _ (OA3.out) (by first | (simp [Act.eval]; done) | simp [Act.eval, Act.put]) ⟨b, off, none⟩ k c (M.encIs (l.take k)) (by first | (simp [Act.eval]; done) | simp [Act.eval, Act.put]) (by rw [M.encIs_len, List.length_take]; omega) (newsI_take (HC.out _ (((Below.refl w.heap.size w).drew.alloc (Nat.le_refl _) _).alloc (by simp) _)) k) (encIs_one _) (by unfold maxLen; omega) (by omega) (by simp; omega) ?_; intro v1 w8 hownw8 hgroww8 hnilw8; have hb8 : Below w.heap.size w w8 := (((Below.refl w.heap.size w).drew.alloc (Nat.le_refl _) _).alloc (by simp) _).grown hgroww8 (by simp; omega) (own_base OA3.out); have o8 : w8.ownsRow w.heap.size 3 1 v1 k (M.encIs (l.take k)) := (by simpa using hownw8); have bx8 := CC3.out.grown hgroww8 (by simp [Value.ownBlock]); have hs8 := hb8.size))
          all_goals
            go_wp2_with fail
            go_ret
            rw [HQ.out]
            exact putI_end (Below.refl _ _) (Nat.le_refl _) o10 (by simp) (by first | (simp; done) | (simp; omega)) hb10
    · obtain rfl : k = l.length := by omega
      have HP := Lib.hid (M.place_eq (lt := M.ltI) hk HA.out (fun h => absurd h (by omega)))
      have HQ := Lib.hid (M.put_new (d := n) HP.out (by rw [List.getElem?_eq_none (Nat.le_refl _)]; intro e; cases e))
      go_wp2_with fail
      have oa2 : ((w.drew.alloc (.cells #[] 3)).alloc (.cells #[.int .i64 n] 3)).ownsRow w.heap.size 3 1 (.slice (some ⟨w.heap.size, 0, none⟩) 0 0) 0 [] := (ownsRow_empty w.drew w.heap.size 3 1 (Nat.le_refl _)).alloc _
      have oa3 : ((w.drew.alloc (.cells #[.int .i64 n] 3)).alloc (.cells #[] 3)).ownsRow w.heap.size 3 1 (.slice (some ⟨w.heap.size + 1, 0, none⟩) 0 0) 0 [] := by
        have := ownsRow_empty (w.drew.alloc (.cells #[.int .i64 n] 3)) w.heap.size 3 1 (by simp)
        simpa using this
      have cc2 : Box1 ((w.drew.alloc (.cells #[] 3)).alloc (.cells #[.int .i64 n] 3)) (w.heap.size + 1) 3 (.int .i64 n) := Box1.new _ _ (by simp)
      have cc3 : Box1 ((w.drew.alloc (.cells #[.int .i64 n] 3)).alloc (.cells #[] 3)) w.heap.size 3 (.int .i64 n) := (Box1.new _ _ rfl).alloc _
      have OA2 := Lib.hid oa2
      have OA3 := Lib.hid oa3
      have CC2 := Lib.hid cc2
      have CC3 := Lib.hid cc3
      have hdrew : w.drew.heap.size = w.heap.size := rfl
      have hkc : l.length ≤ c := by omega
      clear oa2 oa3 cc2 cc3
      rcases Decidable.em (c = l.length) with hck0 | hck0
      all_goals have HCK := Lib.hid hck0
      all_goals clear hck0
      all_goals go_region_held3 (fun _ => True) (exact True.intro) (first
        | (have hcg : ¬ c = l.length := HCK.out; clear hcg; refine step_append_own rfl (.tmp 40) (.tmp 43) 23 rfl w.heap.size 3 i0 (.int .i64 0) 1 8 Try.underlying23 hi0 hz0 hz1 hz2 rfl (by decide) _ _ _ o9 (by first | (simp [Act.eval]; done) | simp [Act.eval, Act.put]) ⟨b, off + l.length, none⟩ (l.length - l.length) (c - l.length) (M.encIs (l.drop l.length)) (by first | (simp [Act.eval, HCK.out]; done) | simp [Act.eval, Act.put, HCK.out]) (by rw [M.encIs_len, List.length_drop]; omega) (newsI_drop (HC.out _ hb9) l.length) (encIs_one _) (by unfold maxLen; omega) (by omega) (by omega) ?_; intro v3 w10 hownw10 hgroww10 hnilw10; have hb10 : Below w.heap.size w w10 := hb9.grown hgroww10 (by omega) (own_base o9); have o10 : w10.ownsRow w.heap.size 3 1 v3 (l.length + 1 + (l.length - l.length)) (M.encIs (l.take l.length ++ [n] ++ l.drop l.length)) := (by rw [M.encIs_append]; exact hownw10); have hs10 := hb10.size)
        | (have hcg : c = l.length := HCK.out; clear hcg; refine step_append_own rfl (.tmp 40) (.tmp 43) 23 rfl w.heap.size 3 i0 (.int .i64 0) 1 8 Try.underlying23 hi0 hz0 hz1 hz2 rfl (by decide) _ _ _ o9 (by first | (simp [Act.eval]; done) | simp [Act.eval, Act.put]) ⟨b, off, none⟩ (l.length - l.length) (c - l.length) (M.encIs (l.drop l.length)) (by first | (simp [Act.eval, HCK.out]; done) | simp [Act.eval, Act.put, HCK.out]) (by rw [M.encIs_len, List.length_drop]; omega) (fun j u hu => absurd hu (by rw [List.drop_eq_nil_of_le (by have := HCK.out; omega)]; simp [M.encIs])) (encIs_one _) (by unfold maxLen; omega) (by omega) (by omega) ?_; intro v3 w10 hownw10 hgroww10 hnilw10; have hb10 : Below w.heap.size w w10 := hb9.grown hgroww10 (by omega) (own_base o9); have o10 : w10.ownsRow w.heap.size 3 1 v3 (l.length + 1 + (l.length - l.length)) (M.encIs (l.take l.length ++ [n] ++ l.drop l.length)) := (by rw [M.encIs_append]; exact hownw10); have hs10 := hb10.size)
        | (refine step_append_own rfl (.tmp 37) (.tmp 39) 23 rfl w.heap.size 3 i0 (.int .i64 0) 1 8 Try.underlying23 hi0 hz0 hz1 hz2 rfl (by decide) _ _ _ (o8.alloc _) (by first | (simp [Act.eval]; done) | simp [Act.eval, Act.put]) ⟨w8.heap.size, 0, none⟩ 1 1 (M.encIs [n]) (by first | (simp [Act.eval]; done) | simp [Act.eval, Act.put]) (show (M.encIs [n]).length = 1 * 1 from rfl) (newsI1 (Box1.new _ _ rfl)) (encIs_one _) (by unfold maxLen; omega) (by omega) (by simp; omega) ?_; intro v2 w9 hownw9 hgroww9 hnilw9; have hb9 : Below w.heap.size w w9 := (hb8.alloc (by omega) _).grown hgroww9 (by simp; omega) (own_base o8); have o9 : w9.ownsRow w.heap.size 3 1 v2 (l.length + 1) (M.encIs (l.take l.length ++ [n])) := (by rw [M.encIs_append]; exact hownw9); have hs9 := hb9.size)
        | (refine step_append_own rfl (.tmp 37) (.tmp 39) 23 rfl w.heap.size 3 i0 (.int .i64 0) 1 8 Try.underlying23 hi0 hz0 hz1 hz2 rfl (by decide) _ _ _ o8 (by first | (simp [Act.eval]; done) | simp [Act.eval, Act.put]) ⟨(w.heap.size + 1), 0, none⟩ 1 1 (M.encIs [n]) (by first | (simp [Act.eval]; done) | simp [Act.eval, Act.put]) (show (M.encIs [n]).length = 1 * 1 from rfl) (newsI1 bx8) (encIs_one _) (by unfold maxLen; omega) (by omega) (by omega) ?_; intro v2 w9 hownw9 hgroww9 hnilw9; have hb9 : Below w.heap.size w w9 := hb8.grown hgroww9 (by omega) (own_base o8); have o9 : w9.ownsRow w.heap.size 3 1 v2 (l.length + 1) (M.encIs (l.take l.length ++ [n])) := (by rw [M.encIs_append]; exact hownw9); have hs9 := hb9.size)
        | (refine step_append_own rfl (.tmp 37) (.tmp 39) 23 rfl w.heap.size 3 i0 (.int .i64 0) 1 8 Try.underlying23 hi0 hz0 hz1 hz2 rfl (by decide) _ _ _ o8 (by first | (simp [Act.eval]; done) | simp [Act.eval, Act.put]) ⟨w.heap.size, 0, none⟩ 1 1 (M.encIs [n]) (by first | (simp [Act.eval]; done) | simp [Act.eval, Act.put]) (show (M.encIs [n]).length = 1 * 1 from rfl) (newsI1 bx8) (encIs_one _) (by unfold maxLen; omega) (by omega) (by omega) ?_; intro v2 w9 hownw9 hgroww9 hnilw9; have hb9 : Below w.heap.size w w9 := hb8.grown hgroww9 (by omega) (own_base o8); have o9 : w9.ownsRow w.heap.size 3 1 v2 (l.length + 1) (M.encIs (l.take l.length ++ [n])) := (by rw [M.encIs_append]; exact hownw9); have hs9 := hb9.size)
        | (refine step_append_own rfl (.tmp 33) (.tmp 36) 23 rfl w.heap.size 3 i0 (.int .i64 0) 1 8 Try.underlying23 hi0 hz0 hz1 hz2 rfl (by decide) _ _ _ (ownsRow_empty w.drew w.heap.size 3 1 (Nat.le_refl _)) (by first | (simp [Act.eval]; done) | simp [Act.eval, Act.put]) ⟨b, off, none⟩ l.length c (M.encIs (l.take l.length)) (by first | (simp [Act.eval]; done) | simp [Act.eval, Act.put]) (by rw [M.encIs_len, List.length_take]; omega) (newsI_take (HC.out _ ((Below.refl w.heap.size w).drew.alloc (Nat.le_refl _) _)) l.length) (encIs_one _) (by unfold maxLen; omega) (by omega) (by simp) ?_; intro v1 w8 hownw8 hgroww8 hnilw8; have hb8 : Below w.heap.size w w8 := ((Below.refl w.heap.size w).drew.alloc (Nat.le_refl _) _).grown hgroww8 (by simp) (own_base (ownsRow_empty w.drew w.heap.size 3 1 (Nat.le_refl _))); have o8 : w8.ownsRow w.heap.size 3 1 v1 l.length (M.encIs (l.take l.length)) := (by simpa using hownw8); have hs8 := hb8.size)
        | (refine step_append_own rfl (.tmp 33) (.tmp 36) 23 rfl w.heap.size 3 i0 (.int .i64 0) 1 8 Try.underlying23 hi0 hz0 hz1 hz2 rfl (by decide) _ _ _ (OA2.out) (by first | (simp [Act.eval]; done) | simp [Act.eval, Act.put]) ⟨b, off, none⟩ l.length c (M.encIs (l.take l.length)) (by first | (simp [Act.eval]; done) | simp [Act.eval, Act.put]) (by rw [M.encIs_len, List.length_take]; omega) (newsI_take (HC.out _ (((Below.refl w.heap.size w).drew.alloc (Nat.le_refl _) _).alloc (by simp) _)) l.length) (encIs_one _) (by unfold maxLen; omega) (by omega) (by simp; omega) ?_; intro v1 w8 hownw8 hgroww8 hnilw8; have hb8 : Below w.heap.size w w8 := (((Below.refl w.heap.size w).drew.alloc (Nat.le_refl _) _).alloc (by simp) _).grown hgroww8 (by simp; omega) (own_base OA2.out); have o8 : w8.ownsRow w.heap.size 3 1 v1 l.length (M.encIs (l.take l.length)) := (by simpa using hownw8); have bx8 := CC2.out.grown hgroww8 (by simp [Value.ownBlock]); have hs8 := hb8.size)
        | (refine step_append_own rfl (.tmp 33) (.tmp 36) 23 rfl w.heap.size 3 i0 (.int .i64 0) 1 8 Try.underlying23 hi0 hz0 hz1 hz2 rfl (by decide) _ _ _ (OA3.out) (by first | (simp [Act.eval]; done) | simp [Act.eval, Act.put]) ⟨b, off, none⟩ l.length c (M.encIs (l.take l.length)) (by first | (simp [Act.eval]; done) | simp [Act.eval, Act.put]) (by rw [M.encIs_len, List.length_take]; omega) (newsI_take (HC.out _ (((Below.refl w.heap.size w).drew.alloc (Nat.le_refl _) _).alloc (by simp) _)) l.length) (encIs_one _) (by unfold maxLen; omega) (by omega) (by simp; omega) ?_; intro v1 w8 hownw8 hgroww8 hnilw8; have hb8 : Below w.heap.size w w8 := (((Below.refl w.heap.size w).drew.alloc (Nat.le_refl _) _).alloc (by simp) _).grown hgroww8 (by simp; omega) (own_base OA3.out); have o8 : w8.ownsRow w.heap.size 3 1 v1 l.length (M.encIs (l.take l.length)) := (by simpa using hownw8); have bx8 := CC3.out.grown hgroww8 (by simp [Value.ownBlock]); have hs8 := hb8.size))
      all_goals
        go_wp2_with fail
        go_ret
        rw [HQ.out]
        exact putI_end (Below.refl _ _) (Nat.le_refl _) o10 (by simp) (by first | (simp; done) | (simp; omega)) hb10
end C
end Go.Proofs.Ytcoaggnilgfjfaa
namespace Go.Proofs.Ytcoaggnilgfjfaa
open Go.RowKit
namespace C
theorem step_call {P : Program} {w : World} {ops : Array Oper} {o : Oper} {a : Act} {K : Act → World → Prop} {Q : Exit → Act → World → Prop} {E : Prop} (hgd : o.guard = none) (f : FuncId) (args : Array Value)
    (hr : (execOp a.eval o).run P w = .ok (.enter f args) w) {R : Ending → World → Prop} (hc : Calls P f args w R) (hR : ∀ e w', R e w' → ∃ v, e = .returned v ∧ K (a.put o.dst v) w') :
    if Region.wanted o (yielded ops a.tmps) = true then Oper.wp P o a w K Q else E := by
  have hw : Region.wanted o (yielded ops a.tmps) = true := by simp [Region.wanted, hgd]
  rw [if_pos hw]
  unfold Oper.wp
  rw [hr, Oper.upon_enter]
  refine hc.mono fun e w' h => ?_
  obtain ⟨v, rfl, hk⟩ := hR e w' h
  exact hk
theorem step_callG {P : Program} {w : World} {ops : Array Oper} {o : Oper} {a : Act} {K : Act → World → Prop} {Q : Exit → Act → World → Prop} {E : Prop} (hw : Region.wanted o (yielded ops a.tmps) = true) (f : FuncId) (args : Array Value)
    (hr : (execOp a.eval o).run P w = .ok (.enter f args) w) {R : Ending → World → Prop} (hc : Calls P f args w R) (hR : ∀ e w', R e w' → ∃ v, e = .returned v ∧ K (a.put o.dst v) w') :
    if Region.wanted o (yielded ops a.tmps) = true then Oper.wp P o a w K Q else E := by
  rw [if_pos hw]
  unfold Oper.wp
  rw [hr, Oper.upon_enter]
  refine hc.mono fun e w' h => ?_
  obtain ⟨v, rfl, hk⟩ := hR e w' h
  exact hk
theorem own_ne_own {w : World} {B B' : Nat} {e e' : TypeId} {size size' : Nat} {v v' : Value} {n n' : Nat} {xs xs' : List Value} (h : w.ownsRow B e size v n xs) (h' : w.ownsRow B' e' size' v' n' xs') (hne : e ≠ e') : v'.ownBlock = none ∨ v.ownBlock ≠ v'.ownBlock := by
  rcases h'.2 with ⟨rfl, _⟩ | ⟨g', cap', cur', rfl, _, hh', _⟩
  · exact .inl rfl
  · right
    rcases h.2 with ⟨rfl, _⟩ | ⟨g, cap, cur, rfl, _, hh, _⟩
    · simp [Value.ownBlock]
    · intro he
      have : g = g' := by simpa [Value.ownBlock] using he
      subst this
      rw [hh] at hh'
      injection hh' with hh'
      injection hh' with _ ht
      exact hne ht
theorem own_ne_own2 {w : World} {B B' : Nat} {e e' : TypeId} {size size' : Nat} {v v' : Value} {n n' : Nat} {xs xs' : List Value} (h : w.ownsRow B e size v n xs) (h' : w.ownsRow B' e' size' v' n' xs') (hne : e ≠ e') : v'.ownBlock = none ∨ v'.ownBlock ≠ v.ownBlock := (own_ne_own h h' hne).imp id Ne.symm
theorem own_setBox {w : World} {B g : Nat} {e T : TypeId} {size : Nat} {v x y z : Value} {n : Nat} {xs : List Value} (h : w.ownsRow B e size v n xs) (hb : Box3 w g T x y z) (hne : e ≠ T) (i : Nat) (u : Value) : (w.setCell ⟨g, i, none⟩ u).ownsRow B e size v n xs := by
  have hn := own_ne_box h hb hne
  rcases h with ⟨hl, h | ⟨g', cap, cur, hv, hB, hh, hr⟩⟩
  · exact ⟨hl, .inl h⟩
  · refine ⟨hl, .inr ⟨g', cap, cur, hv, hB, ?_, hr⟩⟩
    rw [Below.heap_setCell w ⟨g, i, none⟩ u g' (by rintro rfl; exact hn (by rw [hv]; rfl))]
    exact hh
theorem Box3.set1 {X : World} {g : Nat} {T : TypeId} {x y z : Value} (h : Box3 X g T x y z) (u : Value) : Box3 (X.setCell ⟨g, 1, none⟩ u) g T x u z := by
  unfold Box3 at h ⊢
  simp [World.setCell, Array.getElem?_modify, h]
theorem Box3.other {X : World} {g g' : Nat} {T : TypeId} {x y z : Value} (h : Box3 X g T x y z) (hne : g ≠ g') (i : Nat) (u : Value) : Box3 (X.setCell ⟨g', i, none⟩ u) g T x y z := (Below.heap_setCell X ⟨g', i, none⟩ u g hne).trans h
theorem OwnAt.boxed {lo hi : Nat} {w : World} {T S : TypeId} {a : Option Addr} {xs : List Value} {g : Nat} {x y z : Value} (h : OwnAt lo hi w T a xs) (hb : Box3 w g S x y z) (hne : T ≠ S) (i : Nat) (u : Value) : OwnAt lo hi (w.setCell ⟨g, i, none⟩ u) T a xs := by
  rcases h with h | ⟨b, off, cur, ha, h1, h2, hh, hc⟩
  · exact .inl h
  · refine .inr ⟨b, off, cur, ha, h1, h2, ?_, hc⟩
    rw [Below.heap_setCell w ⟨g, i, none⟩ u b (by
      rintro rfl
      have hb' : w.heap[b]? = some (.cells #[x, y, z] S (0, 0)) := hb
      rw [hh] at hb'
      injection hb' with e
      injection e with _ e2
      exact hne e2)]
    exact hh
end C
end Go.Proofs.Ytcoaggnilgfjfaa
namespace Go.Proofs.Ytcoaggnilgfjfaa
open Go
namespace C
section
variable {P : Program} {ops : Array Oper} {Q : Exit → Act → World → Prop} {md : Region.Mode} {S : World → Prop} {Wr : Nat → Bool}
/-- whatever order is picked from here on; S holds behind every operation that is no writer -/
def wpAnyL (P : Program) (md : Region.Mode) (ops : Array Oper) (Q : Exit → Act → World → Prop) (S : World → Prop) (Wr : Nat → Bool) : Nat → Array Bool → Act → World → Prop
  | 0, listed, a, w => Region.ready md ops listed = [] ∧ Q .normal a w
  | fuel + 1, listed, a, w =>
    (Region.ready md ops listed = [] → Q .normal a w) ∧
    ∀ i ∈ Region.ready md ops listed, wpOp P ops Q i (fun a' w' => (Wr i = false → S w') ∧ wpAnyL P md ops Q S Wr fuel (listed.setIfInBounds i true) a' w') a w
theorem wpAny_of_late : ∀ (fuel : Nat) (listed : Array Bool) (a : Act) (w : World), wpAnyL P md ops Q S Wr fuel listed a w → wpAny P md ops Q fuel listed a w
  | 0, _, _, _, h => h
  | fuel + 1, _, _, _, h => ⟨h.1, fun i hi => wpOp_mono (fun a' w' h' => wpAny_of_late fuel _ a' w' h'.2) (h.2 i hi)⟩
/-- each writer waits for operation i -/
def waits (md : Region.Mode) (ops : Array Oper) (Wr : Nat → Bool) (i : Nat) : Prop := ∀ j oj, ops[j]? = some oj → Wr j = true → ∃ e ∈ oj.after, Region.binds md e = true ∧ e.on = i
theorem wpAnyL_first {i : Nat} {oi : Oper} {v : Value} (hi : ops[i]? = some oi) (hsel : ∀ (j : Nat) (o : Oper) cs b, ops[j]? = some o → o.op ≠ .select cs b)
    (hQ : ∀ c a w, Q (.panic c) (a.put oi.dst v) w → Q (.panic c) a w) (hW : waits md ops Wr i) :
    ∀ (fuel : Nat) (listed : Array Bool) (a : Act) (w : World),
      (∀ j oj, ops[j]? = some oj → j ≠ i → listed.getD j true = false → (∀ e ∈ oj.after, Region.binds md e = true → e.on ≠ i) → oi.apart ops oj = true) →
      i ∈ Region.ready md ops listed → YieldsIf P ops S oi v a → S w →
      wpAnyL P md ops Q S Wr fuel (listed.setIfInBounds i true) (a.put oi.dst v) w → wpAnyL P md ops Q S Wr (fuel + 1) listed a w := by
  intro fuel
  induction fuel with
  | zero =>
    intro listed a w _ hr hy hS H
    refine ⟨fun h => (by rw [h] at hr; cases hr), fun j hj => ?_⟩
    by_cases hji : j = i
    · subst hji; exact hy.wpOp hi hS ⟨fun _ => hS, H⟩
    · have := ready_mono hj hji
      rw [H.1] at this
      cases this
  | succ fuel ih =>
    intro listed a w hfree hr hy hS H
    refine ⟨fun h => (by rw [h] at hr; cases hr), fun j hj => ?_⟩
    by_cases hji : j = i
    · subst hji; exact hy.wpOp hi hS ⟨fun _ => hS, H⟩
    · have h1 := H.2 j (ready_mono hj hji)
      obtain ⟨hjun, oj, hoj, hall⟩ := mem_ready.1 hj
      have hnot : ∀ e ∈ oj.after, Region.binds md e = true → e.on ≠ i := fun e he hb heq => by
        have h1 := hall e he hb
        have h0 := (mem_ready.1 hr).1
        rw [heq] at h1
        rcases Nat.lt_or_ge i listed.size with h' | h'
        · simp [h'] at h0 h1; rw [h0] at h1; cases h1
        · simp [Array.getElem?_eq_none h'] at h1
      have hwj : Wr j = false := by
        cases hw : Wr j with
        | false => rfl
        | true =>
          obtain ⟨e, he, hb, heq⟩ := hW j oj hoj hw
          exact absurd heq (hnot e he hb)
      have h2 := wpOp_putIf hoj (hfree j oj hoj hji hjun hnot) (fun cs b => hsel i oi cs b hi) (fun cs b => hsel j oj cs b hoj) hQ hy h1
      have hfree' : ∀ k ok, ops[k]? = some ok → k ≠ i → (listed.setIfInBounds j true).getD k true = false →
          (∀ e ∈ ok.after, Region.binds md e = true → e.on ≠ i) → oi.apart ops ok = true := fun k ok hk hki hun hno => by
        refine hfree k ok hk hki ?_ hno
        by_cases hjk : j = k
        · subst hjk; exact hjun
        · rw [getD_set_ne true hjk] at hun; exact hun
      refine wpOp_mono (fun a' w' h3 => ⟨fun _ => h3.2.1 hwj, ih (listed.setIfInBounds j true) a' w' hfree' (ready_mono hr (Ne.symm hji)) h3.1 (h3.2.1 hwj) ?_⟩) h2
      rw [Array.setIfInBounds_comm _ _ hji]
      exact h3.2.2
/-- whether each writer waits for i, as a Bool -/
def waitsB (md : Region.Mode) (ops : Array Oper) (wr : List Nat) (i : Nat) : Bool := wr.all fun j => ((ops[j]?).map fun oj => oj.after.any fun e => Region.binds md e && (e.on == i)).getD true
theorem waits_of {wr : List Nat} {i : Nat} (h : waitsB md ops wr i = true) : waits md ops (fun j => wr.contains j) i := by
  intro j oj hj hw
  have := List.all_eq_true.1 h j (List.contains_iff_mem.1 hw)
  rw [hj] at this
  simp only [Option.map_some, Option.getD_some, Array.any_eq_true', Bool.and_eq_true, beq_iff_eq] at this
  exact this
theorem wpAnyL_take {wr : List Nat} {i : Nat} {oi : Oper} {v : Value} {fuel : Nat} {listed : Array Bool} {a : Act} {w : World} (hi : ops[i]? = some oi)
    (hs : Region.noSelect ops = true) (hf : Region.free md ops listed i = true) (hr : (Region.ready md ops listed).contains i = true) (hw : waitsB md ops wr i = true)
    (hQ : ∀ c a w, Q (.panic c) (a.put oi.dst v) w → Q (.panic c) a w) (hy : YieldsIf P ops S oi v a) (hS : S w)
    (h : wpAnyL P md ops Q S (fun j => wr.contains j) fuel (listed.setIfInBounds i true) (a.put oi.dst v) w) : wpAnyL P md ops Q S (fun j => wr.contains j) (fuel + 1) listed a w :=
  wpAnyL_first hi (Region.noSelect_spec hs) hQ (waits_of hw) fuel listed a w (Region.free_spec hi hf) (by simpa using hr) hy hS h
theorem wpAnyL_all {rs : List Nat} {fuel : Nat} {listed : Array Bool} {a : Act} {w : World} (hr : Region.ready md ops listed = rs) (hne : rs ≠ [])
    (h : ∀ i ∈ rs, wpOp P ops Q i (fun a' w' => (Wr i = false → S w') ∧ wpAnyL P md ops Q S Wr fuel (listed.setIfInBounds i true) a' w') a w) : wpAnyL P md ops Q S Wr (fuel + 1) listed a w :=
  ⟨fun h0 => absurd (hr ▸ h0) hne, hr ▸ h⟩
/-- one operation may come up alone -/
theorem wpAnyL_one {i : Nat} {oi : Oper} {fuel : Nat} {listed : Array Bool} {a : Act} {w : World} (hr : Region.ready md ops listed = [i]) (hi : ops[i]? = some oi)
    (h : ∀ K : Act → World → Prop, (∀ a' w', (Wr i = false → S w') → wpAnyL P md ops Q S Wr fuel (listed.setIfInBounds i true) a' w' → K a' w') → if Region.wanted oi (yielded ops a.tmps) = true then Oper.wp P oi a w K Q else K (a.put oi.dst undef) w) :
    wpAnyL P md ops Q S Wr (fuel + 1) listed a w := by
  refine wpAnyL_all hr (by simp) fun j hj => ?_
  have hj' : j = i := by simpa using hj
  subst hj'
  unfold wpOp
  rw [hi]
  have := h (fun a' w' => (Wr j = false → S w') ∧ wpAnyL P md ops Q S Wr fuel (listed.setIfInBounds j true) a' w') (fun _ _ h1 h2 => ⟨h1, h2⟩)
  show if Region.wanted oi (yielded ops a.tmps) = true then _ else _
  split
  · rename_i hw
    rw [if_pos hw] at this
    exact .inl this
  · rename_i hw
    rw [if_neg hw] at this
    exact this
theorem wpAnyL_done {listed : Array Bool} {a : Act} {w : World} (hr : Region.ready md ops listed = []) (h : Q .normal a w) :
    ∀ fuel, wpAnyL P md ops Q S Wr fuel listed a w
  | 0 => ⟨hr, h⟩
  | _ + 1 => ⟨fun _ => h, by rw [hr]; simp⟩
theorem wp_region_late (S : World → Prop) (wr : List Nat) {id : Nat} {a : Act} {w : World} (hm : P.follows .mixedOrders = true)
    (h : wpAnyL P .any ops Q S (fun j => wr.contains j) ops.size (Array.replicate ops.size false) a { w with drawn := w.drawn + 1 }) : (Code.region id ops true).wp P Q a w :=
  wp_region_any hm (wpAny_of_late _ _ _ _ h)
theorem wp_region_late2 (S : World → Prop) (wr : List Nat) (n : Nat) (l : Array Bool) {id : Nat} {a : Act} {w : World} (hn : ops.size = n) (hl : Array.replicate n false = l) (hm : P.follows .mixedOrders = true)
    (h : wpAnyL P .any ops Q S (fun j => wr.contains j) n l a w.drew) : (Code.region id ops true).wp P Q a w := by
  subst hl
  subst hn
  exact wp_region_late S wr hm h
end
end C
end Go.Proofs.Ytcoaggnilgfjfaa
