/-
  CONTRACT of the program's IdleColours; what lay in memory stays. No condition but that the maze reads so.
-/
import Derived.Test.YtcoaggnilgfjfaaSClu
import Derived.Test.YtcoaggnilgfjfaaIcM
namespace Go.Proofs.Ytcoaggnilgfjfaa
open Go.RowKit
namespace C
set_option maxHeartbeats 3200000
set_option maxRecDepth 20000
theorem implIc_lw (w : World) (lo hi : Nat) (m : M.Mz) (a b : Option Addr) (c d : Nat) (h : MzIn lo hi w m a c b d) (hz : hi ≤ w.heap.size) (_h1 : m.doors.length ≤ 1048576) (_h2 : m.keys.length ≤ 1048576) :
    Calls Try.prog 39 #[.agg #[.int .i64 m.size, .slice a m.doors.length c, .slice b m.keys.length d]] w (fun e w' => e = .returned (.tuple #[.int .i64 (M.idleV m), .bool (M.mazeB m)]) ∧ Below w.heap.size w w') := by
  have H := Lib.hid h
  clear h
  have HLE := Lib.hid (M.leastF_len (M.wF m))
  have HAT := Lib.hid (fun (k : Nat) (hk : k < (M.leastF (M.wF m)).length) => M.subAll_take hk 63)
  have HNO := Lib.hid (fun h => M.lwV_no (F := M.wF) (m := m) h)
  have HYE := Lib.hid (fun h => M.lwV_yes (F := M.wF) (m := m) h)
  have HID : Hid (M.mazeB m = true → M.idleV m = M.subAll (M.leastF (M.wF m)) 63) := Lib.hid (fun h => by unfold M.idleV; rw [if_pos h])
  have HI0 : Hid (M.mazeB m = false → M.idleV m = 0) := Lib.hid (fun h => by unfold M.idleV; rw [h]; rfl)
  go_enter Try.func39, Try.ntmps39
  go_wp2_with fail
  refine named ?_
  intro W hW
  have hb : Below w.heap.size w W := by rw [hW]; exact below_alloc _ _
  clear hW
  have hzw := hb.size
  have HB := Lib.hid hb
  refine (implLw_lw W lo hi m a b c d (H.out.below hb hz) (by omega) _h1 _h2).mono ?_
  rintro e w2 ⟨ra, rc, rfl, ho, ho1, ho2, hb2⟩
  have HB2 := Lib.hid (HB.out.trans (hb2.mono hzw))
  clear hb hb2
  cases qm : M.mazeB m with
  | false =>
    have HM := Lib.hid qm
    have HZ := Lib.hid (HI0.out qm)
    clear qm ho
    go_wp2_with fail
    go_ret2
    rw [HZ.out, HM.out]
    exact ⟨rfl, HB2.out⟩
  | true =>
    have HZ := Lib.hid (HID.out qm)
    have HM := Lib.hid qm
    rw [HYE.out qm] at ho ho1 ⊢
    rw [M.intsF_len] at ho1 ⊢
    have HO := Lib.hid ho
    have hll := HLE.out
    clear qm ho HNO HYE HID HI0
    generalize M.leastF (M.wF m) = L at *
    go_wp2_with fail
    go_loop [6, 18] (fun v4 v14 => ∃ (k : Nat), k ≤ L.length ∧ v14 = .int .i64 k ∧ v4 = .int .i64 (M.subAll (L.take k) 63)) (fun _ v14 => L.length - (intOf v14).toNat)
    case atStart => exact ⟨0, Nat.zero_le _, rfl, rfl⟩
    case round =>
      obtain ⟨k, hk, rfl, rfl⟩ := hrel
      by_cases hkl : k < L.length
      · obtain ⟨rb, off, hra, hr3, hr4, hc0⟩ := HO.out.row.at_ (k := k) (by rw [M.encIs_len, M.intsF_len]; exact hkl)
        have c0 : w2.cell? ⟨rb, off + k, none⟩ = some (.int .i64 ((L[k]).val : Int)) := hc0 _ _ (by rw [M.encIs_at (by rw [M.intsF_len]; exact hkl), M.intsF_at hkl])
        have HT := Lib.hid (HAT.out k hkl)
        clear hc0
        subst hra
        generalize L[k] = s at *
        go_wp2_with fail
        go_round
        case rel => exact ⟨k + 1, by omega, by go_num, by rw [HT.out]⟩
        case measure => simp [intOf]; omega
      · obtain rfl : k = L.length := by omega
        rw [List.take_of_length_le (Nat.le_refl _)]
        go_wp2_with fail
        go_ret2
        rw [HZ.out, HM.out]
        exact ⟨rfl, HB2.out⟩
end C
end Go.Proofs.Ytcoaggnilgfjfaa
