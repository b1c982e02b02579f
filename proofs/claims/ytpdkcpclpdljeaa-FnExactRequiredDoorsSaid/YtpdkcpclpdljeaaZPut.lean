/-
  CLOSED FACTS on arrays of two and three numbers: '==', a slice turned to an array. No condition.
  CONTRACTS for a door put to its place: spec.l1Least, spec.l1Most; words on rows. No condition.
  CONTRACTS of spec.l1Put and spec.l1Has: a number put to its place, in memory of the call's own, or where they were; what lay in memory stays. Condition: the numbers lie in memory of the caller's own, at most 1000 of them, and one at least.
  CONTRACT of slices.Delete at doors, one door: the row without it, in place; what lay elsewhere stays. Condition: the row may be written, the place is one of its doors.
  WORDS for steps of drawn regions and for boxes beside rows, own to these proofs. No condition.
-/
import Derived.Test.YtpdkcpclpdljeaaZBase
import Derived.Laws.StructEq
import Derived.ProofKit
import Derived.Test.YtpdkcpclpdljeaaZOwn
import Derived.Test.YtpdkcpclpdljeaaZValid
import Derived.Deep.RegionHeld3
import Derived.Deep.RegionLaw
import Derived.Lib.SliceRun
import Derived.OwnWalk
namespace Go.Proofs.Ytpdkcpclpdljeaa
open Go.RowKit
namespace C
theorem eqA3 (a b e c d f : Int) (w : World) : (Op.equalIn 10000 67 (.agg #[.int .i64 a, .int .i64 b, .int .i64 e]) (.agg #[.int .i64 c, .int .i64 d, .int .i64 f])).run Try.prog w = .ok (a == c && b == d && e == f) w := by
  have u3 := Try.underlying3
  have a3 := Try.isAgg3
  have z3 := Try.sizeOf3
  rw [show (10000 : Nat) = 9999 + 1 from rfl, Op.equalIn]
  simp only [Sem.run_bind, run_underlying Try.underlying67, Result.andThen_ok]
  simp only [Std.Legacy.Range.forIn_eq_forIn_range', Std.Legacy.Range.size, Nat.sub_zero, Nat.add_sub_cancel, Nat.div_one, List.range'_succ, List.range'_zero, List.forIn_cons, List.forIn_nil]
  go_simp
  by_cases h1 : a = c <;> by_cases h2 : b = d <;> by_cases h3 : e = f <;> simp [h1, h2, h3]
theorem sl23 (g : Nat) (w : World) : (Instr.sliceAt 67 (.pointer (some ⟨g, 0, none⟩)) none (some (.int .i64 2)) none).run Try.prog w = .ok (.slice (some ⟨g, 0, none⟩) 2 3) w := by kernel_rfl
theorem eqT3 : Try.prog.eqGuardType Try.prog.depth 67 = false := by kernel_rfl
end C
end Go.Proofs.Ytpdkcpclpdljeaa
namespace Go.Proofs.Ytpdkcpclpdljeaa
open Go.RowKit
namespace C
set_option maxHeartbeats 800000
set_option maxRecDepth 20000
/-- doors in memory from B on, the rest as it was -/
def PutPost (B : Nat) (w : World) (l : List M.Dr) (e : Ending) (w' : World) : Prop :=
  ∃ a c, e = .returned (.slice a l.length c) ∧ OwnAt B w'.heap.size w' 67 a (M.encDs l) ∧ l.length ≤ c ∧ c ≤ 9223372036854775807 ∧ Below w.heap.size w w'
theorem put_end {B n : Nat} {w w' W : World} {l xs : List M.Dr} {v : Value} (hW : Below w.heap.size w W) (hB : B ≤ w.heap.size) (h : w'.ownsRow W.heap.size 67 3 v n (M.encDs xs)) (hx : xs = l) (hn : n = l.length) (hb : Below W.heap.size W w') : PutPost B w l (.returned v) w' := by
  subst hx; subst hn
  obtain ⟨a, c, rfl, h1, h2, h3⟩ := own_slice h
  have := hW.size
  exact ⟨a, c, rfl, h3.mono (by omega) (Nat.le_refl _), h1, h2, hW.trans (hb.mono this)⟩
theorem encDs_single (d : M.Dr) : M.encDs [d] = M.encD d := by simp [M.encDs]
theorem encD_one (d : M.Dr) : ∀ x ∈ M.encD d, x.oneCell' = true := by
  intro x hx
  simp [M.encD] at hx
  rcases hx with rfl | rfl | rfl <;> rfl
theorem news3 {w : World} {g : Nat} {d : M.Dr} (h : Box3 w g 67 (.int .i64 d.1) (.int .i64 d.2.1) (.int .i64 d.2.2)) : ∀ j u, (M.encD d)[j]? = some u → w.cell? ((⟨g, 0, none⟩ : Addr).add j) = some u := World.news_of_block h
theorem add_off (b off j : Nat) : (⟨b, off, none⟩ : Addr).add j = ⟨b, off + j, none⟩ := by
  unfold Addr.add
  split
  · rename_i h; subst h; rfl
  · rfl
theorem news_take {W : World} {b off : Nat} {l : List M.Dr} (h : ∀ j u, (M.encDs l)[j]? = some u → W.cell? ⟨b, off + j, none⟩ = some u) (k : Nat) : ∀ j u, (M.encDs (l.take k))[j]? = some u → W.cell? ((⟨b, off, none⟩ : Addr).add j) = some u := by
  intro j u hu
  rw [M.encDs_take, List.getElem?_take] at hu
  split at hu
  · rw [add_off]; exact h j u hu
  · cases hu
theorem news_drop {W : World} {b off : Nat} {l : List M.Dr} (h : ∀ j u, (M.encDs l)[j]? = some u → W.cell? ⟨b, off + j, none⟩ = some u) (k : Nat) : ∀ j u, (M.encDs (l.drop k))[j]? = some u → W.cell? ((⟨b, off + k * 3, none⟩ : Addr).add j) = some u := by
  intro j u hu
  rw [M.encDs_drop, List.getElem?_drop] at hu
  rw [add_off, Nat.add_assoc]
  exact h _ u hu
end C
end Go.Proofs.Ytpdkcpclpdljeaa
namespace Go.Proofs.Ytpdkcpclpdljeaa
open Go.RowKit
namespace M
def memB (l : List Int) (n : Int) : Bool := l.contains n
theorem memB_true {l : List Int} {n : Int} (h : memB l n = true) : n ∈ l := by unfold memB at h; exact List.contains_iff_mem.1 h
theorem memB_false {l : List Int} {n : Int} (h : memB l n = false) : n ∉ l := fun hm => by
  have : memB l n = true := by unfold memB; exact List.contains_iff_mem.2 hm
  rw [h] at this; cases this
end M
namespace C
set_option maxHeartbeats 32000000
set_option maxRecDepth 20000
theorem encIs_one (l : List Int) : ∀ x ∈ M.encIs l, x.oneCell' = true := fun x hx => by unfold M.encIs at hx; obtain ⟨z, _, rfl⟩ := List.mem_map.1 hx; rfl
def Box1 (w : World) (g : Nat) (T : TypeId) (u : Value) : Prop := w.heap[g]? = some (.cells #[u] T (0, 0))
theorem Box1.new {w : World} {g : Nat} (T : TypeId) (u : Value) (hg : g = w.heap.size) : Box1 (w.alloc (.cells #[u] T)) g T u := by subst hg; exact heap_alloc_new w _
theorem Box1.lt {w : World} {g : Nat} {T : TypeId} {u : Value} (h : Box1 w g T u) : g < w.heap.size := heap_lt h
theorem Box1.alloc {w : World} {g : Nat} {T : TypeId} {u : Value} (h : Box1 w g T u) (o : Obj) : Box1 (w.alloc o) g T u := (Below.heap_alloc w o g h.lt).trans h
theorem Box1.grown {w w' : World} {g : Nat} {T : TypeId} {u : Value} {row : Option Nat} (h : Box1 w g T u) (hg : w.grownBy w' row) (hne : row ≠ some g) : Box1 w' g T u := (hg.block g h.lt (fun e => hne e.symm)).trans h
theorem newsI1 {w : World} {g : Nat} {n : Int} (h : Box1 w g 3 (.int .i64 n)) : ∀ j u, (M.encIs [n])[j]? = some u → w.cell? ((⟨g, 0, none⟩ : Addr).add j) = some u := World.news_of_block h
theorem newsI_take {W : World} {b off : Nat} {l : List Int} (h : ∀ j u, (M.encIs l)[j]? = some u → W.cell? ⟨b, off + j, none⟩ = some u) (k : Nat) : ∀ j u, (M.encIs (l.take k))[j]? = some u → W.cell? ((⟨b, off, none⟩ : Addr).add j) = some u := by
  intro j u hu
  have e : M.encIs (l.take k) = (M.encIs l).take k := by unfold M.encIs; rw [List.map_take]
  rw [e, List.getElem?_take] at hu
  split at hu
  · rw [add_off]; exact h j u hu
  · cases hu
theorem newsI_drop {W : World} {b off : Nat} {l : List Int} (h : ∀ j u, (M.encIs l)[j]? = some u → W.cell? ⟨b, off + j, none⟩ = some u) (k : Nat) : ∀ j u, (M.encIs (l.drop k))[j]? = some u → W.cell? ((⟨b, off + k, none⟩ : Addr).add j) = some u := by
  intro j u hu
  have e : M.encIs (l.drop k) = (M.encIs l).drop k := by unfold M.encIs; rw [List.map_drop]
  rw [e, List.getElem?_drop] at hu
  rw [add_off, Nat.add_assoc]
  exact h _ u hu
/-- numbers in memory from B on, the rest as it was -/
def PutIPost (B : Nat) (w : World) (l : List Int) (e : Ending) (w' : World) : Prop :=
  ∃ a c, e = .returned (.slice a l.length c) ∧ OwnAt B w'.heap.size w' 3 a (M.encIs l) ∧ l.length ≤ c ∧ c ≤ 9223372036854775807 ∧ Below w.heap.size w w'
theorem putI_end {B n : Nat} {w w' W : World} {l xs : List Int} {v : Value} (hW : Below w.heap.size w W) (hB : B ≤ w.heap.size) (h : w'.ownsRow W.heap.size 3 1 v n (M.encIs xs)) (hx : xs = l) (hn : n = l.length) (hb : Below W.heap.size W w') : PutIPost B w l (.returned v) w' := by
  subst hx; subst hn
  obtain ⟨a, c, rfl, h1, h2, h3⟩ := own_slice h
  have := hW.size
  exact ⟨a, c, rfl, h3.mono (by omega) (Nat.le_refl _), h1, h2, hW.trans (hb.mono this)⟩
theorem l1Put_any (w : World) (lo hi : Nat) (b off c : Nat) (l : List Int) (n : Int) (h : RowIn lo hi w (some ⟨b, off, none⟩) (M.encIs l)) (hne : l ≠ []) (hnm : n ∉ l) (hz : hi ≤ w.heap.size) (hl : l.length ≤ 1000) (hc1 : l.length ≤ c) (hc2 : c ≤ 9223372036854775807) :
    Calls Try.prog 107 #[.slice (some ⟨b, off, none⟩) l.length c, .int .i64 n] w (PutIPost w.heap.size w (M.put M.ltI l n)) := by
  obtain ⟨i0, hi0, hz0, hz1, hz2⟩ := info_parts infoI
  have hlen : 0 < l.length := List.length_pos_iff.2 hne
  have HNM := Lib.hid hnm
  clear hnm
  obtain ⟨b', off', e, hb1, hb2, hcc⟩ := h.at_ (k := 0) (by rw [M.encIs_len]; omega)
  injection e with e
  injection e with e1 e2 _
  subst e1; subst e2
  have hbw : b < w.heap.size := by omega
  have HC := Lib.hid (fun W' (hq : Below w.heap.size w W') j u hu => (hq.cell (p := ⟨b, off + j, none⟩) hbw).trans (hcc j u hu))
  clear h hcc hne
  go_enter Try.func107, Try.ntmps107
  go_wp2_with fail
  go_loop [5] (fun i => ∃ (k : Nat), k ≤ l.length ∧ i = .int .i64 k ∧ (∀ j (hj : j < l.length), j < k → M.ltI l[j] n = true)) (fun i => l.length - (intOf i).toNat)
  case atStart => exact ⟨0, Nat.zero_le _, rfl, fun j _ h => by omega⟩
  case round =>
    obtain ⟨k, hk, rfl, hall⟩ := hrel
    have HA := Lib.hid hall
    clear hall
    by_cases hlt : k < l.length
    · have p0 : w.cell? ⟨b, off + k, none⟩ = some (.int .i64 l[k]) := HC.out w (Below.refl _ _) _ _ (M.encIs_at hlt)
      by_cases hlk : l[k] < n
      · have HK : Hid (M.ltI l[k] n = true) := Lib.hid (decide_eq_true hlk)
        go_wp2_with fail
        go_round
        case rel => exact ⟨k + 1, by omega, by go_num, fun j hj hjk => by
          rcases Nat.lt_or_ge j k with h | h
          · exact HA.out j hj h
          · obtain rfl : j = k := by omega
            exact HK.out⟩
        case measure => simp [intOf]; omega
      · have HP := Lib.hid (M.place_eq (lt := M.ltI) hk HA.out (fun _ => decide_eq_false hlk))
        rcases Decidable.em (l[k] = n) with hld | hld
        · exact absurd (List.getElem_mem hlt) (by rw [hld]; exact HNM.out)
        · have HQ := Lib.hid (M.put_new HP.out (by rw [List.getElem?_eq_getElem hlt]; intro e; injection e with e; exact hld e))
          have hlb : (l[k] == n) = false := by simpa using hld
          clear hld
          go_wp2_with fail
          clear p0
          have oa2 : ((w.drew.alloc (.cells #[] 3)).alloc (.cells #[.int .i64 n] 3)).ownsRow w.heap.size 3 1 (.slice (some ⟨w.heap.size, 0, none⟩) 0 0) 0 [] := (ownsRow_empty w.drew w.heap.size 3 1 (Nat.le_refl _)).alloc _
          have oa3 : ((w.drew.alloc (.cells #[.int .i64 n] 3)).alloc (.cells #[] 3)).ownsRow w.heap.size 3 1 (.slice (some ⟨w.heap.size + 1, 0, none⟩) 0 0) 0 [] := by
            have := ownsRow_empty (w.drew.alloc (.cells #[.int .i64 n] 3)) w.heap.size 3 1 (by simp)
            simpa using this
          have cc2 : Box1 ((w.drew.alloc (.cells #[] 3)).alloc (.cells #[.int .i64 n] 3)) (w.heap.size + 1) 3 (.int .i64 n) := Box1.new _ _ (by simp)
          have cc3 : Box1 ((w.drew.alloc (.cells #[.int .i64 n] 3)).alloc (.cells #[] 3)) w.heap.size 3 (.int .i64 n) := (Box1.new _ _ rfl).alloc _
          have OA2 := Lib.hid oa2
          have OA3 := Lib.hid oa3
          have CC2 := Lib.hid cc2
          have CC3 := Lib.hid cc3
          have hdrew : w.drew.heap.size = w.heap.size := rfl
          have hkc : k ≤ c := by omega
          clear oa2 oa3 cc2 cc3
          have HCK : Hid (¬ c = k) := Lib.hid (by omega)
          go_region_held3 (fun _ => True) (exact True.intro) (first
            | (have hcg : ¬ c = k := HCK.out; clear hcg; refine step_append_own rfl (.tmp 40) (.tmp 43) 23 rfl w.heap.size 3 i0 (.int .i64 0) 1 8 Try.underlying23 hi0 hz0 hz1 hz2 rfl (by decide) _ _ _ o9 (by first | (simp [Act.eval]; done) | simp [Act.eval, Act.put]) ⟨b, off + k, none⟩ (l.length - k) (c - k) (M.encIs (l.drop k)) (by first | (simp [Act.eval, HCK.out]; done) | simp [Act.eval, Act.put, HCK.out]) (by rw [M.encIs_len, List.length_drop]; omega) (newsI_drop (HC.out _ hb9) k) (encIs_one _) (by unfold maxLen; omega) (by omega) (by omega) ?_; intro v3 w10 hownw10 hgroww10 hnilw10; have hb10 : Below w.heap.size w w10 := hb9.grown hgroww10 (by omega) (own_base o9); have o10 : w10.ownsRow w.heap.size 3 1 v3 (k + 1 + (l.length - k)) (M.encIs (l.take k ++ [n] ++ l.drop k)) := (by rw [M.encIs_append]; exact hownw10); have hs10 := hb10.size)
            | (refine step_append_own rfl (.tmp 37) (.tmp 39) 23 rfl w.heap.size 3 i0 (.int .i64 0) 1 8 Try.underlying23 hi0 hz0 hz1 hz2 rfl (by decide) _ _ _ (o8.alloc _) (by first | (simp [Act.eval]; done) | simp [Act.eval, Act.put]) ⟨w8.heap.size, 0, none⟩ 1 1 (M.encIs [n]) (by first | (simp [Act.eval]; done) | simp [Act.eval, Act.put]) (show (M.encIs [n]).length = 1 * 1 from rfl) (newsI1 (Box1.new _ _ rfl)) (encIs_one _) (by unfold maxLen; omega) (by omega) (by simp; omega) ?_; intro v2 w9 hownw9 hgroww9 hnilw9; have hb9 : Below w.heap.size w w9 := (hb8.alloc (by omega) _).grown hgroww9 (by simp; omega) (own_base o8); have o9 : w9.ownsRow w.heap.size 3 1 v2 (k + 1) (M.encIs (l.take k ++ [n])) := (by rw [M.encIs_append]; exact hownw9); have hs9 := hb9.size)
            | (refine step_append_own rfl (.tmp 37) (.tmp 39) 23 rfl w.heap.size 3 i0 (.int .i64 0) 1 8 Try.underlying23 hi0 hz0 hz1 hz2 rfl (by decide) _ _ _ o8 (by first | (simp [Act.eval]; done) | simp [Act.eval, Act.put]) ⟨(w.heap.size + 1), 0, none⟩ 1 1 (M.encIs [n]) (by first | (simp [Act.eval]; done) | simp [Act.eval, Act.put]) (show (M.encIs [n]).length = 1 * 1 from rfl) (newsI1 bx8) (encIs_one _) (by unfold maxLen; omega) (by omega) (by omega) ?_; intro v2 w9 hownw9 hgroww9 hnilw9; have hb9 : Below w.heap.size w w9 := hb8.grown hgroww9 (by omega) (own_base o8); have o9 : w9.ownsRow w.heap.size 3 1 v2 (k + 1) (M.encIs (l.take k ++ [n])) := (by rw [M.encIs_append]; exact hownw9); have hs9 := hb9.size)
            | (refine step_append_own rfl (.tmp 37) (.tmp 39) 23 rfl w.heap.size 3 i0 (.int .i64 0) 1 8 Try.underlying23 hi0 hz0 hz1 hz2 rfl (by decide) _ _ _ o8 (by first | (simp [Act.eval]; done) | simp [Act.eval, Act.put]) ⟨w.heap.size, 0, none⟩ 1 1 (M.encIs [n]) (by first | (simp [Act.eval]; done) | simp [Act.eval, Act.put]) (show (M.encIs [n]).length = 1 * 1 from rfl) (newsI1 bx8) (encIs_one _) (by unfold maxLen; omega) (by omega) (by omega) ?_; intro v2 w9 hownw9 hgroww9 hnilw9; have hb9 : Below w.heap.size w w9 := hb8.grown hgroww9 (by omega) (own_base o8); have o9 : w9.ownsRow w.heap.size 3 1 v2 (k + 1) (M.encIs (l.take k ++ [n])) := (by rw [M.encIs_append]; exact hownw9); have hs9 := hb9.size)
            | (refine step_append_own rfl (.tmp 33) (.tmp 36) 23 rfl w.heap.size 3 i0 (.int .i64 0) 1 8 Try.underlying23 hi0 hz0 hz1 hz2 rfl (by decide) _ _ _ (ownsRow_empty w.drew w.heap.size 3 1 (Nat.le_refl _)) (by first | (simp [Act.eval]; done) | simp [Act.eval, Act.put]) ⟨b, off, none⟩ k c (M.encIs (l.take k)) (by first | (simp [Act.eval]; done) | simp [Act.eval, Act.put]) (by rw [M.encIs_len, List.length_take]; omega) (newsI_take (HC.out _ ((Below.refl w.heap.size w).drew.alloc (Nat.le_refl _) _)) k) (encIs_one _) (by unfold maxLen; omega) (by omega) (by simp) ?_; intro v1 w8 hownw8 hgroww8 hnilw8; have hb8 : Below w.heap.size w w8 := ((Below.refl w.heap.size w).drew.alloc (Nat.le_refl _) _).grown hgroww8 (by simp) (own_base (ownsRow_empty w.drew w.heap.size 3 1 (Nat.le_refl _))); have o8 : w8.ownsRow w.heap.size 3 1 v1 k (M.encIs (l.take k)) := (by simpa using hownw8); have hs8 := hb8.size)
            | (refine step_append_own rfl (.tmp 33) (.tmp 36) 23 rfl w.heap.size 3 i0 (.int .i64 0) 1 8 Try.underlying23 hi0 hz0 hz1 hz2 rfl (by decide) _ _ _ (OA2.out) (by first | (simp [Act.eval]; done) | simp [Act.eval, Act.put]) ⟨b, off, none⟩ k c (M.encIs (l.take k)) (by first | (simp [Act.eval]; done) | simp [Act.eval, Act.put]) (by rw [M.encIs_len, List.length_take]; omega) (newsI_take (HC.out _ (((Below.refl w.heap.size w).drew.alloc (Nat.le_refl _) _).alloc (by simp) _)) k) (encIs_one _) (by unfold maxLen; omega) (by omega) (by simp; omega) ?_; intro v1 w8 hownw8 hgroww8 hnilw8; have hb8 : Below w.heap.size w w8 := (((Below.refl w.heap.size w).drew.alloc (Nat.le_refl _) _).alloc (by simp) _).grown hgroww8 (by simp; omega) (own_base OA2.out); have o8 : w8.ownsRow w.heap.size 3 1 v1 k (M.encIs (l.take k)) := (by simpa using hownw8); have bx8 := CC2.out.grown hgroww8 (by simp [Value.ownBlock]); have hs8 := hb8.size)
            | (refine step_append_own rfl (.tmp 33) (.tmp 36) 23 rfl w.heap.size 3 i0 (.int .i64 0) 1 8 Try.underlying23 hi0 hz0 hz1 hz2 rfl (by decide) _ _ _ (OA3.out) (by first | (simp [Act.eval]; done) | simp [Act.eval, Act.put]) ⟨b, off, none⟩ k c (M.encIs (l.take k)) (by first | (simp [Act.eval]; done) | simp [Act.eval, Act.put]) (by rw [M.encIs_len, List.length_take]; omega) (newsI_take (HC.out _ (((Below.refl w.heap.size w).drew.alloc (Nat.le_refl _) _).alloc (by simp) _)) k) (encIs_one _) (by unfold maxLen; omega) (by omega) (by simp; omega) ?_; intro v1 w8 hownw8 hgroww8 hnilw8; have hb8 : Below w.heap.size w w8 := (((Below.refl w.heap.size w).drew.alloc (Nat.le_refl _) _).alloc (by simp) _).grown hgroww8 (by simp; omega) (own_base OA3.out); have o8 : w8.ownsRow w.heap.size 3 1 v1 k (M.encIs (l.take k)) := (by simpa using hownw8); have bx8 := CC3.out.grown hgroww8 (by simp [Value.ownBlock]); have hs8 := hb8.size))
          all_goals
            go_wp2_with fail
            go_ret
            rw [HQ.out]
            exact putI_end (Below.refl _ _) (Nat.le_refl _) o10 (by simp) (by first | (simp; done) | (simp; omega)) hb10
    · obtain rfl : k = l.length := by omega
      have HP := Lib.hid (M.place_eq (lt := M.ltI) hk HA.out (fun h => absurd h (by omega)))
      have HQ := Lib.hid (M.put_new (d := n) HP.out (by rw [List.getElem?_eq_none (Nat.le_refl _)]; intro e; cases e))
      go_wp2_with fail
      have oa2 : ((w.drew.alloc (.cells #[] 3)).alloc (.cells #[.int .i64 n] 3)).ownsRow w.heap.size 3 1 (.slice (some ⟨w.heap.size, 0, none⟩) 0 0) 0 [] := (ownsRow_empty w.drew w.heap.size 3 1 (Nat.le_refl _)).alloc _
      have oa3 : ((w.drew.alloc (.cells #[.int .i64 n] 3)).alloc (.cells #[] 3)).ownsRow w.heap.size 3 1 (.slice (some ⟨w.heap.size + 1, 0, none⟩) 0 0) 0 [] := by
        have := ownsRow_empty (w.drew.alloc (.cells #[.int .i64 n] 3)) w.heap.size 3 1 (by simp)
        simpa using this
      have cc2 : Box1 ((w.drew.alloc (.cells #[] 3)).alloc (.cells #[.int .i64 n] 3)) (w.heap.size + 1) 3 (.int .i64 n) := Box1.new _ _ (by simp)
      have cc3 : Box1 ((w.drew.alloc (.cells #[.int .i64 n] 3)).alloc (.cells #[] 3)) w.heap.size 3 (.int .i64 n) := (Box1.new _ _ rfl).alloc _
      have OA2 := Lib.hid oa2
      have OA3 := Lib.hid oa3
      have CC2 := Lib.hid cc2
      have CC3 := Lib.hid cc3
      have hdrew : w.drew.heap.size = w.heap.size := rfl
      have hkc : l.length ≤ c := by omega
      clear oa2 oa3 cc2 cc3
      rcases Decidable.em (c = l.length) with hck0 | hck0
      all_goals have HCK := Lib.hid hck0
      all_goals clear hck0
      all_goals go_region_held3 (fun _ => True) (exact True.intro) (first
        | (have hcg : ¬ c = l.length := HCK.out; clear hcg; refine step_append_own rfl (.tmp 40) (.tmp 43) 23 rfl w.heap.size 3 i0 (.int .i64 0) 1 8 Try.underlying23 hi0 hz0 hz1 hz2 rfl (by decide) _ _ _ o9 (by first | (simp [Act.eval]; done) | simp [Act.eval, Act.put]) ⟨b, off + l.length, none⟩ (l.length - l.length) (c - l.length) (M.encIs (l.drop l.length)) (by first | (simp [Act.eval, HCK.out]; done) | simp [Act.eval, Act.put, HCK.out]) (by rw [M.encIs_len, List.length_drop]; omega) (newsI_drop (HC.out _ hb9) l.length) (encIs_one _) (by unfold maxLen; omega) (by omega) (by omega) ?_; intro v3 w10 hownw10 hgroww10 hnilw10; have hb10 : Below w.heap.size w w10 := hb9.grown hgroww10 (by omega) (own_base o9); have o10 : w10.ownsRow w.heap.size 3 1 v3 (l.length + 1 + (l.length - l.length)) (M.encIs (l.take l.length ++ [n] ++ l.drop l.length)) := (by rw [M.encIs_append]; exact hownw10); have hs10 := hb10.size)
        | (have hcg : c = l.length := HCK.out; clear hcg; refine step_append_own rfl (.tmp 40) (.tmp 43) 23 rfl w.heap.size 3 i0 (.int .i64 0) 1 8 Try.underlying23 hi0 hz0 hz1 hz2 rfl (by decide) _ _ _ o9 (by first | (simp [Act.eval]; done) | simp [Act.eval, Act.put]) ⟨b, off, none⟩ (l.length - l.length) (c - l.length) (M.encIs (l.drop l.length)) (by first | (simp [Act.eval, HCK.out]; done) | simp [Act.eval, Act.put, HCK.out]) (by rw [M.encIs_len, List.length_drop]; omega) (fun j u hu => absurd hu (by rw [List.drop_eq_nil_of_le (by have := HCK.out; omega)]; simp [M.encIs])) (encIs_one _) (by unfold maxLen; omega) (by omega) (by omega) ?_; intro v3 w10 hownw10 hgroww10 hnilw10; have hb10 : Below w.heap.size w w10 := hb9.grown hgroww10 (by omega) (own_base o9); have o10 : w10.ownsRow w.heap.size 3 1 v3 (l.length + 1 + (l.length - l.length)) (M.encIs (l.take l.length ++ [n] ++ l.drop l.length)) := (by rw [M.encIs_append]; exact hownw10); have hs10 := hb10.size)
        | (refine step_append_own rfl (.tmp 37) (.tmp 39) 23 rfl w.heap.size 3 i0 (.int .i64 0) 1 8 Try.underlying23 hi0 hz0 hz1 hz2 rfl (by decide) _ _ _ (o8.alloc _) (by first | (simp [Act.eval]; done) | simp [Act.eval, Act.put]) ⟨w8.heap.size, 0, none⟩ 1 1 (M.encIs [n]) (by first | (simp [Act.eval]; done) | simp [Act.eval, Act.put]) (show (M.encIs [n]).length = 1 * 1 from rfl) (newsI1 (Box1.new _ _ rfl)) (encIs_one _) (by unfold maxLen; omega) (by omega) (by simp; omega) ?_; intro v2 w9 hownw9 hgroww9 hnilw9; have hb9 : Below w.heap.size w w9 := (hb8.alloc (by omega) _).grown hgroww9 (by simp; omega) (own_base o8); have o9 : w9.ownsRow w.heap.size 3 1 v2 (l.length + 1) (M.encIs (l.take l.length ++ [n])) := (by rw [M.encIs_append]; exact hownw9); have hs9 := hb9.size)
        | (refine step_append_own rfl (.tmp 37) (.tmp 39) 23 rfl w.heap.size 3 i0 (.int .i64 0) 1 8 Try.underlying23 hi0 hz0 hz1 hz2 rfl (by decide) _ _ _ o8 (by first | (simp [Act.eval]; done) | simp [Act.eval, Act.put]) ⟨(w.heap.size + 1), 0, none⟩ 1 1 (M.encIs [n]) (by first | (simp [Act.eval]; done) | simp [Act.eval, Act.put]) (show (M.encIs [n]).length = 1 * 1 from rfl) (newsI1 bx8) (encIs_one _) (by unfold maxLen; omega) (by omega) (by omega) ?_; intro v2 w9 hownw9 hgroww9 hnilw9; have hb9 : Below w.heap.size w w9 := hb8.grown hgroww9 (by omega) (own_base o8); have o9 : w9.ownsRow w.heap.size 3 1 v2 (l.length + 1) (M.encIs (l.take l.length ++ [n])) := (by rw [M.encIs_append]; exact hownw9); have hs9 := hb9.size)
        | (refine step_append_own rfl (.tmp 37) (.tmp 39) 23 rfl w.heap.size 3 i0 (.int .i64 0) 1 8 Try.underlying23 hi0 hz0 hz1 hz2 rfl (by decide) _ _ _ o8 (by first | (simp [Act.eval]; done) | simp [Act.eval, Act.put]) ⟨w.heap.size, 0, none⟩ 1 1 (M.encIs [n]) (by first | (simp [Act.eval]; done) | simp [Act.eval, Act.put]) (show (M.encIs [n]).length = 1 * 1 from rfl) (newsI1 bx8) (encIs_one _) (by unfold maxLen; omega) (by omega) (by omega) ?_; intro v2 w9 hownw9 hgroww9 hnilw9; have hb9 : Below w.heap.size w w9 := hb8.grown hgroww9 (by omega) (own_base o8); have o9 : w9.ownsRow w.heap.size 3 1 v2 (l.length + 1) (M.encIs (l.take l.length ++ [n])) := (by rw [M.encIs_append]; exact hownw9); have hs9 := hb9.size)
        | (refine step_append_own rfl (.tmp 33) (.tmp 36) 23 rfl w.heap.size 3 i0 (.int .i64 0) 1 8 Try.underlying23 hi0 hz0 hz1 hz2 rfl (by decide) _ _ _ (ownsRow_empty w.drew w.heap.size 3 1 (Nat.le_refl _)) (by first | (simp [Act.eval]; done) | simp [Act.eval, Act.put]) ⟨b, off, none⟩ l.length c (M.encIs (l.take l.length)) (by first | (simp [Act.eval]; done) | simp [Act.eval, Act.put]) (by rw [M.encIs_len, List.length_take]; omega) (newsI_take (HC.out _ ((Below.refl w.heap.size w).drew.alloc (Nat.le_refl _) _)) l.length) (encIs_one _) (by unfold maxLen; omega) (by omega) (by simp) ?_; intro v1 w8 hownw8 hgroww8 hnilw8; have hb8 : Below w.heap.size w w8 := ((Below.refl w.heap.size w).drew.alloc (Nat.le_refl _) _).grown hgroww8 (by simp) (own_base (ownsRow_empty w.drew w.heap.size 3 1 (Nat.le_refl _))); have o8 : w8.ownsRow w.heap.size 3 1 v1 l.length (M.encIs (l.take l.length)) := (by simpa using hownw8); have hs8 := hb8.size)
        | (refine step_append_own rfl (.tmp 33) (.tmp 36) 23 rfl w.heap.size 3 i0 (.int .i64 0) 1 8 Try.underlying23 hi0 hz0 hz1 hz2 rfl (by decide) _ _ _ (OA2.out) (by first | (simp [Act.eval]; done) | simp [Act.eval, Act.put]) ⟨b, off, none⟩ l.length c (M.encIs (l.take l.length)) (by first | (simp [Act.eval]; done) | simp [Act.eval, Act.put]) (by rw [M.encIs_len, List.length_take]; omega) (newsI_take (HC.out _ (((Below.refl w.heap.size w).drew.alloc (Nat.le_refl _) _).alloc (by simp) _)) l.length) (encIs_one _) (by unfold maxLen; omega) (by omega) (by simp; omega) ?_; intro v1 w8 hownw8 hgroww8 hnilw8; have hb8 : Below w.heap.size w w8 := (((Below.refl w.heap.size w).drew.alloc (Nat.le_refl _) _).alloc (by simp) _).grown hgroww8 (by simp; omega) (own_base OA2.out); have o8 : w8.ownsRow w.heap.size 3 1 v1 l.length (M.encIs (l.take l.length)) := (by simpa using hownw8); have bx8 := CC2.out.grown hgroww8 (by simp [Value.ownBlock]); have hs8 := hb8.size)
        | (refine step_append_own rfl (.tmp 33) (.tmp 36) 23 rfl w.heap.size 3 i0 (.int .i64 0) 1 8 Try.underlying23 hi0 hz0 hz1 hz2 rfl (by decide) _ _ _ (OA3.out) (by first | (simp [Act.eval]; done) | simp [Act.eval, Act.put]) ⟨b, off, none⟩ l.length c (M.encIs (l.take l.length)) (by first | (simp [Act.eval]; done) | simp [Act.eval, Act.put]) (by rw [M.encIs_len, List.length_take]; omega) (newsI_take (HC.out _ (((Below.refl w.heap.size w).drew.alloc (Nat.le_refl _) _).alloc (by simp) _)) l.length) (encIs_one _) (by unfold maxLen; omega) (by omega) (by simp; omega) ?_; intro v1 w8 hownw8 hgroww8 hnilw8; have hb8 : Below w.heap.size w w8 := (((Below.refl w.heap.size w).drew.alloc (Nat.le_refl _) _).alloc (by simp) _).grown hgroww8 (by simp; omega) (own_base OA3.out); have o8 : w8.ownsRow w.heap.size 3 1 v1 l.length (M.encIs (l.take l.length)) := (by simpa using hownw8); have bx8 := CC3.out.grown hgroww8 (by simp [Value.ownBlock]); have hs8 := hb8.size))
      all_goals
        go_wp2_with fail
        go_ret
        rw [HQ.out]
        exact putI_end (Below.refl _ _) (Nat.le_refl _) o10 (by simp) (by first | (simp; done) | (simp; omega)) hb10
theorem l1Has_any (w : World) (lo hi : Nat) (a : Option Addr) (c : Nat) (l : List Int) (n : Int) (h : RowIn lo hi w a (M.encIs l)) (hl : l.length ≤ 1048576) :
    Calls Try.prog 96 #[.slice a l.length c, .int .i64 n] w fun e w' => e = .returned (.bool (M.memB l n)) ∧ w = w' := by
  have H := Lib.hid h
  clear h
  go_enter Try.func96, Try.ntmps96
  go_wp2_with fail
  go_loop [5] (fun i => ∃ (k : Nat), k ≤ l.length ∧ i = .int .i64 k ∧ (∀ j (hj : j < l.length), j < k → l[j] ≠ n)) (fun i => l.length - (intOf i).toNat)
  case atStart => exact ⟨0, Nat.zero_le _, rfl, fun j _ h => by omega⟩
  case round =>
    obtain ⟨k, hk, rfl, hall⟩ := hrel
    have HA := Lib.hid hall
    clear hall
    by_cases hlt : k < l.length
    · obtain ⟨b, off, rfl, _, _, hc0⟩ := H.out.at_ (k := k) (by rw [M.encIs_len]; exact hlt)
      have p0 := hc0 _ _ (M.encIs_at hlt)
      clear hc0
      rcases Decidable.em (l[k] = n) with hlk | hlk
      · have HF : Hid (M.memB l n = true) := Lib.hid (by unfold M.memB; rw [List.contains_iff_mem, ← hlk]; exact List.getElem_mem hlt)
        have hb : (l[k] == n) = true := by simpa using hlk
        clear hlk
        go_wp2_with fail
        go_ret
        exact ⟨by rw [HF.out]; rfl, rfl⟩
      · have HK := Lib.hid hlk
        have hb : (l[k] == n) = false := by simpa using hlk
        clear hlk
        go_wp2_with fail
        go_round
        case rel => exact ⟨k + 1, by omega, by go_num, fun j hj hjk => by
          rcases Nat.lt_or_ge j k with h | h
          · exact HA.out j hj h
          · obtain rfl : j = k := by omega
            exact HK.out⟩
        case measure => simp [intOf]; omega
    · have HF : Hid (M.memB l n = false) := Lib.hid (by
        unfold M.memB
        rw [Bool.eq_false_iff, ne_eq, List.contains_iff_mem]
        intro hm
        obtain ⟨j, hj, he⟩ := List.mem_iff_getElem.1 hm
        exact HA.out j hj (by omega) he)
      go_wp2_with fail
      go_ret
      exact ⟨by rw [HF.out]; rfl, rfl⟩
end C
end Go.Proofs.Ytpdkcpclpdljeaa
namespace Go.Proofs.Ytpdkcpclpdljeaa
open Go.RowKit
namespace M
def over {α : Type} (xs : List α) : Nat → List α → List α
  | _, [] => xs
  | k, v :: vs => over (xs.set k v) (k + 1) vs
theorem over_len {α : Type} : ∀ (vs xs : List α) (k : Nat), (over xs k vs).length = xs.length
  | [], _, _ => rfl
  | v :: vs, xs, k => by unfold over; rw [over_len vs]; simp
theorem over_get {α : Type} : ∀ (vs xs : List α) (k i : Nat), k + vs.length ≤ xs.length → (over xs k vs)[i]? = if i < k then xs[i]? else if i < k + vs.length then vs[i - k]? else xs[i]?
  | [], xs, k, i, _ => by
    unfold over
    simp only [List.length_nil, Nat.add_zero]
    by_cases h : i < k
    · simp only [h, if_true]
    · simp only [h, if_false]
  | v :: vs, xs, k, i, h => by
    unfold over
    simp only [List.length_cons] at h ⊢
    rw [over_get vs (xs.set k v) (k + 1) i (by simp; omega)]
    rcases Nat.lt_trichotomy i k with hi | hi | hi
    · have h1 : i < k + 1 := by omega
      simp only [h1, hi, if_true]
      exact List.getElem?_set_ne (by omega)
    · subst hi
      have h1 : i < i + 1 := by omega
      have h2 : ¬ i < i := by omega
      have h3 : i < i + (vs.length + 1) := by omega
      simp only [h1, h2, h3, if_true, if_false]
      rw [List.getElem?_set_self (by omega), Nat.sub_self]
      rfl
    · have h1 : ¬ i < k + 1 := by omega
      have h2 : ¬ i < k := by omega
      simp only [h1, h2, if_false]
      by_cases h3 : i < k + 1 + vs.length
      · have h4 : i < k + (vs.length + 1) := by omega
        simp only [h3, h4, if_true]
        obtain ⟨j, rfl⟩ : ∃ j, i = k + 1 + j := ⟨i - (k + 1), by omega⟩
        rw [show k + 1 + j - (k + 1) = j by omega, show k + 1 + j - k = j + 1 by omega]
        rfl
      · have h4 : ¬ i < k + (vs.length + 1) := by omega
        simp only [h3, h4, if_false]
        exact List.getElem?_set_ne (by omega)
end M
namespace C
set_option maxHeartbeats 3200000
set_option maxRecDepth 20000
theorem Turned.setCells {lo hi : Nat} (b : Nat) (h1 : lo ≤ b) (h2 : b < hi) : ∀ (vs : List Value) (o : Nat) (w : World), Turned lo hi w (w.setCells b o vs)
  | [], _, w => Turned.refl _ _ w
  | v :: vs, o, w => (Turned.setCell w b o v h1 h2).trans (Turned.setCells b h1 h2 vs (o + 1) _)
theorem OwnAt.setCells {lo hi : Nat} {T : TypeId} {b off : Nat} : ∀ (vs : List Value) (k : Nat) (w : World) (xs : List Value), OwnAt lo hi w T (some ⟨b, off, none⟩) xs → OwnAt lo hi (w.setCells b (off + k) vs) T (some ⟨b, off, none⟩) (M.over xs k vs)
  | [], _, _, _, h => h
  | v :: vs, k, w, xs, h => by
    have := OwnAt.setCells vs (k + 1) _ _ (h.set_ rfl k v)
    rwa [← Nat.add_assoc] at this
theorem OwnAt.less {lo hi : Nat} {w : World} {T : TypeId} {a : Option Addr} {xs ys : List Value} (h : OwnAt lo hi w T a xs) (hy : ∀ (i : Nat) u, ys[i]? = some u → xs[i]? = some u) : OwnAt lo hi w T a ys := by
  rcases h with h | ⟨g, off, cur, ha, h1, h2, hh, hc⟩
  · left
    cases ys with
    | nil => rfl
    | cons y ys => exact absurd (hy 0 y (by simp)) (by rw [h]; simp)
  · exact .inr ⟨g, off, cur, ha, h1, h2, hh, fun i u hu => hc i u (hy i u hu)⟩
theorem run_clear_door {P : Program} (w : World) (t e ty : TypeId) (ht : P.underlying t = some (.slice e)) (hv : ∀ w, (zeroValue e).run P w = .ok (.agg #[.int .i64 0, .int .i64 0, .int .i64 0]) w) (b o c : Nat)
    (hc : ∀ j, j < 3 → (w.cell? ⟨b, o + j, none⟩).isSome = true) (hf : ∀ j, j < 3 → w.frozen? ⟨b, o + j, none⟩ = false) :
    (Builtin.clear_ #[t] ty #[.slice (some ⟨b, o, none⟩) 1 c]).run P w = .ok (.tuple #[]) (w.setCells b o [.int .i64 0, .int .i64 0, .int .i64 0]) := by
  have hst := run_storeCells_cells (P := P) b o [.int .i64 0, .int .i64 0, .int .i64 0] 0 w (by simpa using hc) (by simpa using hf) (by intro v hv'; simp at hv'; subst hv'; rfl)
  simp only [Nat.add_zero] at hst
  have hzc : (Builtin.zeroCells (Value.agg #[.int .i64 0, .int .i64 0, .int .i64 0]).cells 1).toList = [.int .i64 0, .int .i64 0, .int .i64 0] := by kernel_rfl
  simp [Builtin.clear_, run_underlying ht, hv, hzc, hst]
theorem zeroD (w : World) : (zeroValue 67).run Try.prog w = .ok (.agg #[.int .i64 0, .int .i64 0, .int .i64 0]) w := by kernel_rfl
theorem delete_any (w : World) (lo hi : Nat) (b off c : Nat) (l : List M.Dr) (k : Nat) (hk : k < l.length) (h : OwnAt lo hi w 67 (some ⟨b, off, none⟩) (M.encDs l)) (hl : l.length ≤ 1048576) (hc1 : l.length ≤ c) (hc2 : c ≤ 9223372036854775807) :
    Calls Try.prog 101 #[.slice (some ⟨b, off, none⟩) l.length c, .int .i64 (k : Int), .int .i64 ((k : Int) + 1)] w fun e w' => e = .returned (.slice (some ⟨b, off, none⟩) (l.length - 1) c) ∧ OwnAt lo hi w' 67 (some ⟨b, off, none⟩) (M.encDs (l.take k ++ l.drop (k + 1))) ∧ Turned lo hi w w' := by
  obtain ⟨i0, hi0, hz0, hz1, hz2⟩ := info_parts infoD
  have H := Lib.hid h
  obtain ⟨b', off', e, hb1, hb2, hcc⟩ := h.row.at_ (k := 0) (by rw [M.encDs_len]; omega)
  injection e with e
  injection e with e1 e2 _
  subst e1; subst e2
  have hfr : ∀ j, w.frozen? ⟨b, j, none⟩ = false := fun j => h.free rfl (k := 0) (by rw [M.encDs_len]; omega) j
  have hsome : ∀ j, j < l.length * 3 → (w.cell? ⟨b, off + j, none⟩).isSome = true := fun j hj => by
    have := hcc j _ (List.getElem?_eq_getElem (by rw [M.encDs_len]; exact hj))
    rw [this]; rfl
  have HCC := Lib.hid hcc
  have HFR := Lib.hid hfr
  have HSO := Lib.hid hsome
  have hdl : (M.encDs (l.drop (k + 1))).length = (l.length - (k + 1)) * 3 := by rw [M.encDs_len, List.length_drop]
  have hE := H.out.setCells (M.encDs (l.drop (k + 1))) (k * 3) w.drew
  clear h hcc hfr hsome
  have hkc : k ≤ c := by omega
  have hkc1 : k + 1 ≤ c := by omega
  have hlc : l.length - 1 ≤ c := by omega
  have hwr : IntKind.i64.wrap ((k : Int) + 1) = (k : Int) + 1 := IntWalk.i64_in _ (by omega)
  have hne : ((k : Int) == (k : Int) + 1) = false := by rw [beq_eq_false_iff_ne]; omega
  obtain ⟨W1, hW1⟩ : ∃ W1, W1 = w.drew.setCells b (off + k * 3) (M.encDs (l.drop (k + 1))) := ⟨_, rfl⟩
  rw [← hW1] at hE
  have hT1 : Turned lo hi w W1 := by rw [hW1]; exact (Turned.drewN w 1 lo hi).trans (Turned.setCells b hb1 hb2 _ _ _)
  have HW := Lib.hid hW1
  clear hW1
  have hE3 : ∀ j, j < 3 → (W1.cell? ⟨b, off + (l.length - 1) * 3 + j, none⟩).isSome = true := fun j hj => by
    obtain ⟨b', off', e, _, _, hcc⟩ := hE.row.at_ (k := 0) (by rw [M.over_len, M.encDs_len]; omega)
    injection e with e
    injection e with e1 e2 _
    subst e1; subst e2
    have hh : (l.length - 1) * 3 + j < (M.over (M.encDs l) (k * 3) (M.encDs (l.drop (k + 1)))).length := by rw [M.over_len, M.encDs_len]; omega
    have := hcc _ _ (List.getElem?_eq_getElem hh)
    rw [← Nat.add_assoc] at this
    rw [this]; rfl
  have hF3 : ∀ j, j < 3 → W1.frozen? ⟨b, off + (l.length - 1) * 3 + j, none⟩ = false := fun j hj => hE.free rfl (k := 0) (by rw [M.over_len, M.encDs_len]; omega) _
  have hcl := fun ty => run_clear_door (P := Try.prog) W1 22 67 ty Try.underlying22 zeroD b (off + (l.length - 1) * 3) (c - (l.length - 1)) hE3 hF3
  have hE2 := hE.setCells [.int .i64 0, .int .i64 0, .int .i64 0] ((l.length - 1) * 3) W1
  have hT2 := hT1.trans (Turned.setCells b hb1 hb2 [.int .i64 0, .int .i64 0, .int .i64 0] (off + (l.length - 1) * 3) W1)
  have hend : ∀ (i : Nat) u, (M.encDs (l.take k ++ l.drop (k + 1)))[i]? = some u → (M.over (M.over (M.encDs l) (k * 3) (M.encDs (l.drop (k + 1)))) ((l.length - 1) * 3) [.int .i64 0, .int .i64 0, .int .i64 0])[i]? = some u := by
    intro i u hu
    have hi : i < (l.length - 1) * 3 := by
      have := (List.getElem?_eq_some_iff.1 hu).1
      rw [M.encDs_len] at this
      simp at this
      omega
    rw [M.over_get _ _ _ _ (by rw [M.over_len, M.encDs_len]; simp; omega), if_pos hi, M.over_get _ _ _ _ (by rw [hdl, M.encDs_len]; omega)]
    rw [M.encDs_append, M.encDs_take] at hu
    by_cases hik : i < k * 3
    · rw [if_pos hik]
      rwa [List.getElem?_append_left (by rw [List.length_take, M.encDs_len]; omega), List.getElem?_take, if_pos hik] at hu
    · rw [if_neg hik, if_pos (by rw [hdl]; omega)]
      rw [List.getElem?_append_right (by rw [List.length_take, M.encDs_len]; omega)] at hu
      rw [show ((M.encDs l).take (k * 3)).length = k * 3 by rw [List.length_take, M.encDs_len]; omega] at hu
      exact hu
  have HEND := Lib.hid (hE2.less hend)
  have HT2 := Lib.hid hT2
  have hsp : Hid (∀ t, t < (M.encDs (l.drop (k + 1))).length → (w.drew.cell? ⟨b, off + k * 3 + t, none⟩).isSome = true ∧ w.drew.frozen? ⟨b, off + k * 3 + t, none⟩ = false) := Lib.hid (fun t ht => by
    rw [hdl] at ht
    exact ⟨by show (w.cell? _).isSome = true; rw [Nat.add_assoc]; exact HSO.out _ (by omega), HFR.out _⟩)
  clear hE hE2 hT1 hT2 hend hE3 hF3
  have hb0 : (0 : Int) ≤ (k : Int) + 1 := by omega
  have hb9 : (k : Int) + 1 ≤ (l.length : Int) := by omega
  have hlk : k + (l.length - (k + 1)) = l.length - 1 := by omega
  rcases Decidable.em (c = k + 1) with hck | hck
  all_goals
    have HCK := Lib.hid hck
    clear hck
    go_enter Try.func101, Try.ntmps101
    go_wp2_with fail
    go_region_law (first
      | (have hcg : ¬ c = k + 1 := HCK.out; clear hcg; refine step_append_room rfl (.tmp 22) (.tmp 25) 22 rfl 67 i0 3 Try.underlying22 hi0 hz1 b off k c (by simp [Act.eval, Act.put]) ⟨b, off + (k + 1) * 3, none⟩ (l.length - (k + 1)) (c - (k + 1)) (M.encDs (l.drop (k + 1))) (by simp [Act.eval, Act.put, HCK.out]) hdl (news_drop (fun j u hu => HCC.out j u hu) (k + 1)) (encDs_one _) (by omega) hsp.out ?_; rw [← HW.out])
      | (have hcg : c = k + 1 := HCK.out; clear hcg; refine step_append_room rfl (.tmp 22) (.tmp 25) 22 rfl 67 i0 3 Try.underlying22 hi0 hz1 b off k c (by simp [Act.eval, Act.put]) ⟨b, off, none⟩ (l.length - (k + 1)) (c - (k + 1)) (M.encDs (l.drop (k + 1))) (by simp [Act.eval, Act.put, HCK.out]) hdl (fun j u hu => absurd hu (by rw [List.drop_eq_nil_of_le (by have := HCK.out; omega)]; simp [M.encDs])) (encDs_one _) (by omega) hsp.out ?_; rw [← HW.out]))
  all_goals
    have hone : l.length - (l.length - 1) = 1 := by omega
    have hcne : ¬ c = l.length - 1 := by omega
    have hlow : ((l.length - 1 : Nat) : Int) ≤ (l.length : Int) := by omega
    have hlow2 : l.length - 1 ≤ l.length := by omega
    go_wp2_with fail
    go_ret
    exact ⟨rfl, HEND.out, HT2.out⟩
end C
end Go.Proofs.Ytpdkcpclpdljeaa
namespace Go.Proofs.Ytpdkcpclpdljeaa
open Go.RowKit
namespace C
theorem step_call {P : Program} {w : World} {ops : Array Oper} {o : Oper} {a : Act} {K : Act → World → Prop} {Q : Exit → Act → World → Prop} {E : Prop} (hgd : o.guard = none) (f : FuncId) (args : Array Value)
    (hr : (execOp a.eval o).run P w = .ok (.enter f args) w) {R : Ending → World → Prop} (hc : Calls P f args w R) (hR : ∀ e w', R e w' → ∃ v, e = .returned v ∧ K (a.put o.dst v) w') :
    if Region.wanted o (yielded ops a.tmps) = true then Oper.wp P o a w K Q else E := by
  have hw : Region.wanted o (yielded ops a.tmps) = true := by simp [Region.wanted, hgd]
  rw [if_pos hw]
  unfold Oper.wp
  rw [hr, Oper.upon_enter]
  refine hc.mono fun e w' h => ?_
  obtain ⟨v, rfl, hk⟩ := hR e w' h
  exact hk
theorem own_ne_own {w : World} {B B' : Nat} {e e' : TypeId} {size size' : Nat} {v v' : Value} {n n' : Nat} {xs xs' : List Value} (h : w.ownsRow B e size v n xs) (h' : w.ownsRow B' e' size' v' n' xs') (hne : e ≠ e') : v'.ownBlock = none ∨ v.ownBlock ≠ v'.ownBlock := by
  rcases h'.2 with ⟨rfl, _⟩ | ⟨g', cap', cur', rfl, _, hh', _⟩
  · exact .inl rfl
  · right
    rcases h.2 with ⟨rfl, _⟩ | ⟨g, cap, cur, rfl, _, hh, _⟩
    · simp [Value.ownBlock]
    · intro he
      have : g = g' := by simpa [Value.ownBlock] using he
      subst this
      rw [hh] at hh'
      injection hh' with hh'
      injection hh' with _ ht
      exact hne ht
theorem own_ne_own2 {w : World} {B B' : Nat} {e e' : TypeId} {size size' : Nat} {v v' : Value} {n n' : Nat} {xs xs' : List Value} (h : w.ownsRow B e size v n xs) (h' : w.ownsRow B' e' size' v' n' xs') (hne : e ≠ e') : v'.ownBlock = none ∨ v'.ownBlock ≠ v.ownBlock := (own_ne_own h h' hne).imp id Ne.symm
theorem own_setBox {w : World} {B g : Nat} {e T : TypeId} {size : Nat} {v x y z : Value} {n : Nat} {xs : List Value} (h : w.ownsRow B e size v n xs) (hb : Box3 w g T x y z) (hne : e ≠ T) (i : Nat) (u : Value) : (w.setCell ⟨g, i, none⟩ u).ownsRow B e size v n xs := by
  have hn := own_ne_box h hb hne
  rcases h with ⟨hl, h | ⟨g', cap, cur, hv, hB, hh, hr⟩⟩
  · exact ⟨hl, .inl h⟩
  · refine ⟨hl, .inr ⟨g', cap, cur, hv, hB, ?_, hr⟩⟩
    rw [Below.heap_setCell w ⟨g, i, none⟩ u g' (by rintro rfl; exact hn (by rw [hv]; rfl))]
    exact hh
theorem Box3.set1 {X : World} {g : Nat} {T : TypeId} {x y z : Value} (h : Box3 X g T x y z) (u : Value) : Box3 (X.setCell ⟨g, 1, none⟩ u) g T x u z := by
  unfold Box3 at h ⊢
  simp [World.setCell, Array.getElem?_modify, h]
theorem Box3.other {X : World} {g g' : Nat} {T : TypeId} {x y z : Value} (h : Box3 X g T x y z) (hne : g ≠ g') (i : Nat) (u : Value) : Box3 (X.setCell ⟨g', i, none⟩ u) g T x y z := (Below.heap_setCell X ⟨g', i, none⟩ u g hne).trans h
theorem OwnAt.boxed {lo hi : Nat} {w : World} {T S : TypeId} {a : Option Addr} {xs : List Value} {g : Nat} {x y z : Value} (h : OwnAt lo hi w T a xs) (hb : Box3 w g S x y z) (hne : T ≠ S) (i : Nat) (u : Value) : OwnAt lo hi (w.setCell ⟨g, i, none⟩ u) T a xs := by
  rcases h with h | ⟨b, off, cur, ha, h1, h2, hh, hc⟩
  · exact .inl h
  · refine .inr ⟨b, off, cur, ha, h1, h2, ?_, hc⟩
    rw [Below.heap_setCell w ⟨g, i, none⟩ u b (by
      rintro rfl
      have hb' : w.heap[b]? = some (.cells #[x, y, z] S (0, 0)) := hb
      rw [hh] at hb'
      injection hb' with e
      injection e with _ e2
      exact hne e2)]
    exact hh
end C
end Go.Proofs.Ytpdkcpclpdljeaa
