/-
  CONTRACTS of impl.SetOf and spec.SetOf: both hand back the set of a list of colours, or fail at another number; the world is as it was. Condition: a list of at most 1048576 numbers.
-/
import Derived.Test.YtpdkcpclpdljeaaSets
namespace Go.Proofs.Ytpdkcpclpdljeaa
open Go.RowKit
namespace M
/-- the number of one colour, as the model reckons 1 << c -/
def bitI (c : Int) : Int := wrap64 (2 ^ c.toNat)
/-- the set of a list of colours -/
def setI (l : List Int) : Int := l.foldl (fun s c => bits .or .i64 s (bitI c)) 0
def colB (c : Int) : Bool := decide (0 ≤ c ∧ c < 6)
def colsB (l : List Int) : Bool := l.all colB
theorem setI_snoc {l : List Int} {k : Nat} (h : k < l.length) : setI (l.take (k + 1)) = bits .or .i64 (setI (l.take k)) (bitI l[k]) := by
  unfold setI; rw [List.take_succ_eq_append_getElem h, List.foldl_append]; rfl
theorem all_take_no {α : Type} {f : α → Bool} {l : List α} {k : Nat} (h : k < l.length) (hf : f l[k] = false) : l.all f = false := by
  rw [Bool.eq_false_iff]
  intro h'
  have := List.all_eq_true.1 h' _ (List.getElem_mem h)
  rw [hf] at this
  cases this
theorem all_of_take {α : Type} {f : α → Bool} {l : List α} (h : ∀ k (h : k < l.length), f l[k] = true) : l.all f = true := by
  rw [List.all_eq_true]
  intro x hx
  obtain ⟨k, hk, rfl⟩ := List.mem_iff_getElem.1 hx
  exact h k hk
end M
namespace C
/-- a set handed back, or 0 and false -/
def SetPost (w : World) (l : List Int) (e : Ending) (w' : World) : Prop := e = .returned (.tuple #[.int .i64 (if M.colsB l then M.setI l else 0), .bool (M.colsB l)]) ∧ w = w'
set_option maxHeartbeats 800000
set_option maxRecDepth 20000
theorem implSetOf_any (w : World) (lo hi : Nat) (a : Option Addr) (c : Nat) (l : List Int) (h : RowIn lo hi w a (M.encIs l)) (hl : l.length ≤ 1048576) :
    Calls Try.prog 72 #[.slice a l.length c] w (SetPost w l) := by
  have h' := Lib.hid h
  clear h
  go_enter Try.func72, Try.ntmps72
  go_wp2_with fail
  go_loop [4, 6, 9] (fun s _ i => ∃ (k : Nat), k ≤ l.length ∧ i = .int .i64 k ∧ s = .int .i64 (M.setI (l.take k)) ∧ ∀ j (hj : j < l.length), j < k → M.colB l[j] = true) (fun _ _ i => l.length - (intOf i).toNat)
  case atStart => exact ⟨0, Nat.zero_le _, rfl, rfl, fun j _ h => by omega⟩
  case round =>
    obtain ⟨k, hk, rfl, rfl, hall⟩ := hrel
    have HA := Lib.hid hall
    clear hall
    by_cases hlt : k < l.length
    · obtain ⟨b, off, rfl, _, _, hc0⟩ := h'.out.at_ (k := k) (by rw [M.encIs_len]; exact hlt)
      have hc := hc0 k _ (M.encIs_at hlt)
      have HS := Lib.hid (M.setI_snoc hlt)
      clear hc0
      by_cases h0 : 0 ≤ l[k]
      · by_cases h1 : l[k] < 6
        · go_wp2_with fail
          go_round
          case rel => exact ⟨k + 1, by omega, by go_num, by rw [HS.out]; rfl, fun j hj hjk => by
            rcases Nat.lt_or_ge j k with h | h
            · exact HA.out j hj h
            · obtain rfl : j = k := by omega
              exact decide_eq_true ⟨h0, h1⟩⟩
          case measure => simp [intOf]; omega
        · have HF : Hid (M.colsB l = false) := Lib.hid (M.all_take_no hlt (decide_eq_false fun h => h1 h.2))
          go_wp2_with fail
          go_ret2
          exact ⟨by rw [HF.out]; rfl, rfl⟩
      · have HF : Hid (M.colsB l = false) := Lib.hid (M.all_take_no hlt (decide_eq_false fun h => h0 h.1))
        have h0' : l[k] < 0 := by omega
        go_wp2_with fail
        go_ret2
        exact ⟨by rw [HF.out]; rfl, rfl⟩
    · obtain rfl : k = l.length := by omega
      have HF : Hid (M.colsB l = true) := Lib.hid (M.all_of_take fun j hj => HA.out j hj hj)
      go_wp2_with fail
      go_ret2
      exact ⟨by rw [HF.out]; rfl, rfl⟩
end C
end Go.Proofs.Ytpdkcpclpdljeaa
