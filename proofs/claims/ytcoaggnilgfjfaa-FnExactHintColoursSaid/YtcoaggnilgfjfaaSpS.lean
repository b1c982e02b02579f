/-
  CONTRACTS of the model's l4Id, l4Step, l4Told, l1Most, l2Many; what lay in memory stays. Condition: for l4Step, the maze reads so and has its keys.
-/
import Derived.Test.YtcoaggnilgfjfaaWayH
namespace Go.Proofs.Ytcoaggnilgfjfaa
open Go.RowKit
namespace M
/-- the number of a state -/
def idN (t : St) : Nat := (t.1 * 64 + t.2).toNat
def unid (i : Nat) : St := (((i / 64 : Nat) : Int), ((i % 64 : Nat) : Int))
theorem idN_unid (i : Nat) : idN (unid i) = i := by unfold idN unid; simp only; omega
theorem unid_idN {m : Mz} {t : St} (h : StOk m t) : unid (idN t) = t := by
  obtain ⟨a, b⟩ := t
  obtain ⟨h1, h2, h3, h4⟩ := h
  unfold unid idN
  simp only at *
  have e1 : (((a * 64 + b).toNat / 64 : Nat) : Int) = a := by omega
  have e2 : (((a * 64 + b).toNat % 64 : Nat) : Int) = b := by omega
  rw [e1, e2]
theorem idN_int {m : Mz} {t : St} (h : StOk m t) : ((idN t : Nat) : Int) = t.1 * 64 + t.2 := by
  obtain ⟨h1, h2, h3, h4⟩ := h
  unfold idN
  omega
theorem idN_lt {m : Mz} {t : St} (h : StOk m t) : idN t < m.size.toNat * 64 := by
  obtain ⟨h1, h2, h3, h4⟩ := h
  unfold idN
  omega
def ids (l : List St) : List Int := l.map fun t => ((idN t : Nat) : Int)
theorem ids_len (l : List St) : (ids l).length = l.length := by unfold ids; rw [List.length_map]
theorem ids_append (a b : List St) : ids (a ++ b) = ids a ++ ids b := by unfold ids; rw [List.map_append]
theorem ids_at {l : List St} {k : Nat} (h : k < l.length) : (encIs (ids l))[k]? = some (.int .i64 ((idN l[k] : Nat) : Int)) := by
  unfold encIs ids
  rw [List.getElem?_map, List.getElem?_map, List.getElem?_eq_getElem h]
  rfl
/-- the colours counted, the first k of them -/
def manyTo (n : Nat) : Nat → Int
  | 0 => 0
  | k + 1 => manyTo n k + ((n / 2 ^ k % 2 : Nat) : Int)
theorem manyTo_fin : ∀ (n : Fin 64) (k : Fin 7), n.val / 2 ^ k.val = 0 → manyTo n.val k.val = many (n.val : Int) := by decide +kernel
theorem manyTo_end {n k : Nat} (hn : n < 64) (hk : k < 7) (h : n / 2 ^ k = 0) : manyTo n k = many (n : Int) := manyTo_fin ⟨n, hn⟩ ⟨k, hk⟩ h
theorem manyTo_le (n k : Nat) : 0 ≤ manyTo n k ∧ manyTo n k ≤ k := by
  induction k with
  | zero => exact ⟨Int.le_refl _, Int.le_refl _⟩
  | succ k ih =>
    unfold manyTo
    have : n / 2 ^ k % 2 < 2 := Nat.mod_lt _ (by decide)
    omega
theorem and1_fin : ∀ q : Fin 64, bits .and .i64 (q.val : Int) 1 = ((q.val % 2 : Nat) : Int) := by decide +kernel
theorem half6 {n : Nat} (h : n < 64) : n / 2 ^ 6 = 0 := by
  rw [show (2 : Nat) ^ 6 = 64 from rfl]
  omega
end M
namespace C
set_option maxHeartbeats 3200000
set_option maxRecDepth 20000
theorem l4Id_any (x y : Int) (w : World) (h0 : 0 ≤ x) (h1 : x < 100) (h2 : 0 ≤ y) (h3 : y < 100) : Calls Try.prog 108 #[.int .i64 x, .int .i64 y] w fun e w' => e = .returned (.int .i64 ((M.idN (x, y) : Nat) : Int)) ∧ w = w' := by
  have HE : Hid (((M.idN (x, y) : Nat) : Int) = x * 64 + y) := Lib.hid (by unfold M.idN; simp only; omega)
  go_enter Try.func108, Try.ntmps108
  go_wp2_with fail
  go_ret
  exact ⟨by rw [HE.out]; rfl, rfl⟩
theorem l2Many_any (n : Nat) (w : World) (h : n < 64) : Calls Try.prog 119 #[.int .i64 (n : Int)] w fun e w' => e = .returned (.int .i64 (M.many (n : Int))) ∧ w = w' := by
  go_enter Try.func119, Try.ntmps119
  go_wp2_with fail
  go_loop [0, 3] (fun v0 v3 => ∃ (k : Nat), k < 7 ∧ v0 = .int .i64 ((n / 2 ^ k : Nat) : Int) ∧ v3 = .int .i64 (M.manyTo n k)) (fun v0 _ => (intOf v0).toNat)
  case atStart => exact ⟨0, by omega, by simp, rfl⟩
  case round =>
    obtain ⟨k, hk, rfl, rfl⟩ := hrel
    obtain ⟨q1, q2⟩ := M.manyTo_le n k
    have HQ := Lib.hid (show n / 2 ^ (k + 1) = n / 2 ^ k / 2 by rw [Nat.pow_succ, Nat.div_div_eq_div_mul])
    have HS := Lib.hid (show M.manyTo n (k + 1) = M.manyTo n k + ((n / 2 ^ k % 2 : Nat) : Int) from rfl)
    have HE := Lib.hid (fun h0 : n / 2 ^ k = 0 => M.manyTo_end h hk h0)
    have H6 : Hid (0 < n / 2 ^ k → k < 6) := Lib.hid fun hp => by
      rcases Nat.lt_or_ge k 6 with h6 | h6
      · exact h6
      · obtain rfl : k = 6 := by omega
        rw [M.half6 h] at hp
        omega
    have hle : n / 2 ^ k < 64 := Nat.lt_of_le_of_lt (Nat.div_le_self _ _) h
    have HA := Lib.hid (M.and1_fin ⟨n / 2 ^ k, hle⟩)
    simp only at HA
    generalize n / 2 ^ k = q at *
    generalize M.manyTo n k = c at *
    by_cases hq : 0 < q
    · have hand := HA.out
      have hqi : (0 : Int) < (q : Int) := by omega
      go_wp2_with fail
      go_round
      case rel => exact ⟨k + 1, by have := H6.out hq; omega, by rw [HQ.out]; congr 1, by rw [HS.out]; congr 1⟩
      case measure => simp [intOf]; omega
    · have hz : q = 0 := by omega
      have HC := Lib.hid (HE.out hz)
      clear HE HA H6 HQ HS
      subst hz
      go_wp2_with fail
      go_ret
      exact ⟨by rw [← HC.out]; rfl, rfl⟩
end C
end Go.Proofs.Ytcoaggnilgfjfaa
