/-
  CONTRACTS of spec.l1Put and spec.l1Has: a number put to its place, in memory of the call's own, or where they were; what lay in memory stays. Condition: the numbers lie in memory of the caller's own, at most 1000 of them, and one at least.
-/
import Derived.Test.YtmccpjdgnenmeaaPutW
import Derived.Deep.RegionHeld3
import Derived.Deep.RegionLaw
namespace Go.Proofs.Ytmccpjdgnenmeaa
open Go.RowKit
namespace M
def memB (l : List Int) (n : Int) : Bool := l.contains n
theorem memB_true {l : List Int} {n : Int} (h : memB l n = true) : n ∈ l := by unfold memB at h; exact List.contains_iff_mem.1 h
theorem memB_false {l : List Int} {n : Int} (h : memB l n = false) : n ∉ l := fun hm => by
  have : memB l n = true := by unfold memB; exact List.contains_iff_mem.2 hm
  rw [h] at this; cases this
end M
namespace C
set_option maxHeartbeats 32000000
set_option maxRecDepth 20000
theorem encIs_one (l : List Int) : ∀ x ∈ M.encIs l, x.oneCell' = true := fun x hx => by unfold M.encIs at hx; obtain ⟨z, _, rfl⟩ := List.mem_map.1 hx; rfl
def Box1 (w : World) (g : Nat) (T : TypeId) (u : Value) : Prop := w.heap[g]? = some (.cells #[u] T (0, 0))
theorem Box1.new {w : World} {g : Nat} (T : TypeId) (u : Value) (hg : g = w.heap.size) : Box1 (w.alloc (.cells #[u] T)) g T u := by subst hg; exact heap_alloc_new w _
theorem Box1.lt {w : World} {g : Nat} {T : TypeId} {u : Value} (h : Box1 w g T u) : g < w.heap.size := heap_lt h
theorem Box1.alloc {w : World} {g : Nat} {T : TypeId} {u : Value} (h : Box1 w g T u) (o : Obj) : Box1 (w.alloc o) g T u := (Below.heap_alloc w o g h.lt).trans h
theorem Box1.grown {w w' : World} {g : Nat} {T : TypeId} {u : Value} {row : Option Nat} (h : Box1 w g T u) (hg : w.grownBy w' row) (hne : row ≠ some g) : Box1 w' g T u := (hg.block g h.lt (fun e => hne e.symm)).trans h
theorem newsI1 {w : World} {g : Nat} {n : Int} (h : Box1 w g 3 (.int .i64 n)) : ∀ j u, (M.encIs [n])[j]? = some u → w.cell? ((⟨g, 0, none⟩ : Addr).add j) = some u := World.news_of_block h
theorem newsI_take {W : World} {b off : Nat} {l : List Int} (h : ∀ j u, (M.encIs l)[j]? = some u → W.cell? ⟨b, off + j, none⟩ = some u) (k : Nat) : ∀ j u, (M.encIs (l.take k))[j]? = some u → W.cell? ((⟨b, off, none⟩ : Addr).add j) = some u := by
  intro j u hu
  have e : M.encIs (l.take k) = (M.encIs l).take k := by unfold M.encIs; rw [List.map_take]
  rw [e, List.getElem?_take] at hu
  split at hu
  · rw [add_off]; exact h j u hu
  · cases hu
theorem newsI_drop {W : World} {b off : Nat} {l : List Int} (h : ∀ j u, (M.encIs l)[j]? = some u → W.cell? ⟨b, off + j, none⟩ = some u) (k : Nat) : ∀ j u, (M.encIs (l.drop k))[j]? = some u → W.cell? ((⟨b, off + k, none⟩ : Addr).add j) = some u := by
  intro j u hu
  have e : M.encIs (l.drop k) = (M.encIs l).drop k := by unfold M.encIs; rw [List.map_drop]
  rw [e, List.getElem?_drop] at hu
  rw [add_off, Nat.add_assoc]
  exact h _ u hu
/-- numbers in memory from B on, the rest as it was -/
def PutIPost (B : Nat) (w : World) (l : List Int) (e : Ending) (w' : World) : Prop :=
  ∃ a c, e = .returned (.slice a l.length c) ∧ OwnAt B w'.heap.size w' 3 a (M.encIs l) ∧ l.length ≤ c ∧ c ≤ 9223372036854775807 ∧ Below w.heap.size w w'
theorem putI_end {B n : Nat} {w w' W : World} {l xs : List Int} {v : Value} (hW : Below w.heap.size w W) (hB : B ≤ w.heap.size) (h : w'.ownsRow W.heap.size 3 1 v n (M.encIs xs)) (hx : xs = l) (hn : n = l.length) (hb : Below W.heap.size W w') : PutIPost B w l (.returned v) w' := by
  subst hx; subst hn
  obtain ⟨a, c, rfl, h1, h2, h3⟩ := own_slice h
  have := hW.size
  exact ⟨a, c, rfl, h3.mono (by omega) (Nat.le_refl _), h1, h2, hW.trans (hb.mono this)⟩
theorem l1Has_any (w : World) (lo hi : Nat) (a : Option Addr) (c : Nat) (l : List Int) (n : Int) (h : RowIn lo hi w a (M.encIs l)) (hl : l.length ≤ 1048576) :
    Calls Try.prog 97 #[.slice a l.length c, .int .i64 n] w fun e w' => e = .returned (.bool (M.memB l n)) ∧ w = w' := by
  have H := Lib.hid h
  clear h
  go_enter Try.func97, Try.ntmps97
  go_wp2_with fail
  go_loop [5] (fun i => ∃ (k : Nat), k ≤ l.length ∧ i = .int .i64 k ∧ (∀ j (hj : j < l.length), j < k → l[j] ≠ n)) (fun i => l.length - (intOf i).toNat)
  case atStart => exact ⟨0, Nat.zero_le _, rfl, fun j _ h => by omega⟩
  case round =>
    obtain ⟨k, hk, rfl, hall⟩ := hrel
    have HA := Lib.hid hall
    clear hall
    by_cases hlt : k < l.length
    · obtain ⟨b, off, rfl, _, _, hc0⟩ := H.out.at_ (k := k) (by rw [M.encIs_len]; exact hlt)
      have p0 := hc0 _ _ (M.encIs_at hlt)
      clear hc0
      rcases Decidable.em (l[k] = n) with hlk | hlk
      · have HF : Hid (M.memB l n = true) := Lib.hid (by unfold M.memB; rw [List.contains_iff_mem, ← hlk]; exact List.getElem_mem hlt)
        have hb : (l[k] == n) = true := by simpa using hlk
        clear hlk
        go_wp2_with fail
        go_ret
        exact ⟨by rw [HF.out]; rfl, rfl⟩
      · have HK := Lib.hid hlk
        have hb : (l[k] == n) = false := by simpa using hlk
        clear hlk
        go_wp2_with fail
        go_round
        case rel => exact ⟨k + 1, by omega, by go_num, fun j hj hjk => by
          rcases Nat.lt_or_ge j k with h | h
          · exact HA.out j hj h
          · obtain rfl : j = k := by omega
            exact HK.out⟩
        case measure => simp [intOf]; omega
    · have HF : Hid (M.memB l n = false) := Lib.hid (by
        unfold M.memB
        rw [Bool.eq_false_iff, ne_eq, List.contains_iff_mem]
        intro hm
        obtain ⟨j, hj, he⟩ := List.mem_iff_getElem.1 hm
        exact HA.out j hj (by omega) he)
      go_wp2_with fail
      go_ret
      exact ⟨by rw [HF.out]; rfl, rfl⟩
end C
end Go.Proofs.Ytmccpjdgnenmeaa
