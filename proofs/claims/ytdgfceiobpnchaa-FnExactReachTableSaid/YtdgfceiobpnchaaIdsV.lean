/-
  CONTRACTS of the model's l4Id, l1Most, l4Told; tables of numbers for visits. No condition.
-/
import Derived.Test.YtdgfceiobpnchaaWkA
import Derived.Test.YtdgfceiobpnchaaWayMath
import Derived.Test.YtdgfceiobpnchaaSets
namespace Go.Proofs.Ytdgfceiobpnchaa
open Go.RowKit
namespace M
/-- the number of a state -/
def idN (t : Vs) : Nat := (t.1 * 64 + t.2).toNat
def unid (i : Nat) : Vs := (((i / 64 : Nat) : Int), ((i % 64 : Nat) : Int))
theorem idN_unid (i : Nat) : idN (unid i) = i := by unfold idN unid; simp only; omega
theorem unid_idN {m : Wk} {t : Vs} (h : VsOk m t) : unid (idN t) = t := by
  obtain ⟨a, b⟩ := t
  obtain ⟨h1, h2, h3, h4⟩ := h
  unfold unid idN
  simp only at *
  have e1 : (((a * 64 + b).toNat / 64 : Nat) : Int) = a := by omega
  have e2 : (((a * 64 + b).toNat % 64 : Nat) : Int) = b := by omega
  rw [e1, e2]
theorem idN_int {m : Wk} {t : Vs} (h : VsOk m t) : ((idN t : Nat) : Int) = t.1 * 64 + t.2 := by
  obtain ⟨h1, h2, h3, h4⟩ := h
  unfold idN
  omega
theorem idN_lt {m : Wk} {t : Vs} (h : VsOk m t) : idN t < m.size.toNat * 64 := by
  obtain ⟨h1, h2, h3, h4⟩ := h
  unfold idN
  omega
def ids (l : List Vs) : List Int := l.map fun t => ((idN t : Nat) : Int)
theorem ids_len (l : List Vs) : (ids l).length = l.length := by unfold ids; rw [List.length_map]
theorem ids_append (a b : List Vs) : ids (a ++ b) = ids a ++ ids b := by unfold ids; rw [List.map_append]
theorem ids_at {l : List Vs} {k : Nat} (h : k < l.length) : (encIs (ids l))[k]? = some (.int .i64 ((idN l[k] : Nat) : Int)) := by
  unfold encIs ids
  rw [List.getElem?_map, List.getElem?_map, List.getElem?_eq_getElem h]
  rfl
def tblL (n : Nat) (f : Vs → Option Nat) : List Int := (List.range n).map fun i => optI (f (unid i))
theorem tblL_len (n : Nat) (f : Vs → Option Nat) : (tblL n f).length = n := by unfold tblL; simp
theorem tblL_at {n : Nat} {f : Vs → Option Nat} {i : Nat} (h : i < n) : (encIs (tblL n f))[i]? = some (.int .i64 (optI (f (unid i)))) := by
  unfold encIs tblL
  rw [List.getElem?_map, List.getElem?_map, List.getElem?_range h]
  rfl
theorem tblL_none (n : Nat) : encIs (tblL n fun _ => none) = List.replicate n (.int .i64 (-1)) := by
  refine List.ext_getElem? fun i => ?_
  rcases Nat.lt_or_ge i n with h | h
  · rw [tblL_at h, List.getElem?_replicate, if_pos h]; rfl
  · rw [List.getElem?_eq_none (by rw [encIs_len, tblL_len]; exact h), List.getElem?_eq_none (by rw [List.length_replicate]; exact h)]
theorem tblL_set {m : Wk} {n : Nat} (f : Vs → Option Nat) {t : Vs} (ht : VsOk m t) (k : Nat) : (encIs (tblL n f)).set (idN t) (.int .i64 (k : Int)) = encIs (tblL n (upd f t k)) := by
  refine List.ext_getElem? fun i => ?_
  rw [List.getElem?_set]
  rcases Nat.lt_or_ge i n with h | h
  · rw [tblL_at h]
    by_cases e : idN t = i
    · subst e
      rw [if_pos rfl, if_pos (by rw [encIs_len, tblL_len]; exact h), tblL_at h, unid_idN ht, upd_same]
      rfl
    · rw [if_neg e, tblL_at h, upd_other]
      intro e2
      apply e
      rw [← e2, idN_unid]
  · rw [List.getElem?_eq_none (l := encIs (tblL n (upd f t k))) (by rw [encIs_len, tblL_len]; exact h)]
    split
    · rw [if_neg (by rw [encIs_len, tblL_len]; omega)]
    · exact List.getElem?_eq_none (by rw [encIs_len, tblL_len]; exact h)
def size64 (m : Wk) : Nat := m.size.toNat * 64
end M
namespace C
set_option maxHeartbeats 3200000
set_option maxRecDepth 20000
theorem l4Id_any (x y : Int) (w : World) (h0 : 0 ≤ x) (h1 : x < 100) (h2 : 0 ≤ y) (h3 : y < 100) : Calls Try.prog 90 #[.int .i64 x, .int .i64 y] w fun e w' => e = .returned (.int .i64 ((M.idN (x, y) : Nat) : Int)) ∧ w = w' := by
  have HE : Hid (((M.idN (x, y) : Nat) : Int) = x * 64 + y) := Lib.hid (by unfold M.idN; simp only; omega)
  go_enter Try.func90, Try.ntmps90
  go_wp2_with fail
  go_ret
  exact ⟨by rw [HE.out]; rfl, rfl⟩
theorem l1Most_any (x : Int) (w : World) : Calls Try.prog 116 #[.int .i64 x, .int .i64 0] w fun e w' => e = .returned (.int .i64 (max x 0)) ∧ w = w' := by
  by_cases h : 0 < x
  · have HE : Hid (max x 0 = x) := Lib.hid (by omega)
    go_enter Try.func116, Try.ntmps116
    go_wp2_with fail
    go_ret
    exact ⟨by rw [HE.out]; rfl, rfl⟩
  · have HE : Hid (max x 0 = 0) := Lib.hid (by omega)
    go_enter Try.func116, Try.ntmps116
    go_wp2_with fail
    go_ret
    exact ⟨by rw [HE.out]; rfl, rfl⟩
theorem l4Told_any (r : Option Nat) (w : World) : Calls Try.prog 80 #[.int .i64 (M.optI r)] w fun e w' => e = .returned (.tuple #[.int .i64 ((r.getD 0 : Nat) : Int), .bool r.isSome]) ∧ w = w' := by
  cases r with
  | none =>
    show Calls Try.prog 80 #[.int .i64 (-1)] w _
    go_enter Try.func80, Try.ntmps80
    go_wp2_with fail
    refine (l1Most_any (-1) w).mono ?_
    rintro e w1 ⟨rfl, rfl⟩
    go_wp2_with fail
    go_ret2
    exact ⟨rfl, rfl⟩
  | some n =>
    show Calls Try.prog 80 #[.int .i64 (n : Int)] w _
    have HE : Hid (max (n : Int) 0 = (n : Int)) := Lib.hid (by omega)
    go_enter Try.func80, Try.ntmps80
    go_wp2_with fail
    refine (l1Most_any (n : Int) w).mono ?_
    rintro e w1 ⟨rfl, rfl⟩
    rw [HE.out]
    go_wp2_with fail
    go_ret2
    exact ⟨rfl, rfl⟩
theorem grown_setCell (w : World) (g i : Nat) (u : Value) : w.grownBy (w.setCell ⟨g, i, none⟩ u) (some g) :=
  ⟨rfl, rfl, rfl, by simp [World.setCell], fun k _ hne => Below.heap_setCell w ⟨g, i, none⟩ u k fun e => hne (by rw [e])⟩
theorem own_weak {w : World} {B B' : Nat} {e : TypeId} {size n : Nat} {v : Value} {xs : List Value} (h : w.ownsRow B e size v n xs) (hB : B' ≤ B) : w.ownsRow B' e size v n xs := by
  refine ⟨h.1, ?_⟩
  rcases h.2 with h' | ⟨g, cap, cur, hv, hb, r⟩
  · exact .inl h'
  · exact .inr ⟨g, cap, cur, hv, by omega, r⟩
end C
end Go.Proofs.Ytdgfceiobpnchaa
