/-
  CONTRACT of the program's NeededColours; what lay in memory stays. No condition but that the maze reads so.
-/
import Derived.Test.YtcoaggnilgfjfaaSWin
import Derived.Test.YtcoaggnilgfjfaaSClu
namespace Go.Proofs.Ytcoaggnilgfjfaa
open Go.RowKit
namespace M
noncomputable def needV (m : Mz) : Int := if mazeB m then andAll (selF (wF m)) 63 else 0
end M
namespace C
set_option maxHeartbeats 3200000
set_option maxRecDepth 20000
theorem implNc_lw (w : World) (lo hi : Nat) (m : M.Mz) (a b : Option Addr) (c d : Nat) (h : MzIn lo hi w m a c b d) (hz : hi ≤ w.heap.size) (_h1 : m.doors.length ≤ 1048576) (_h2 : m.keys.length ≤ 1048576) :
    Calls Try.prog 37 #[.agg #[.int .i64 m.size, .slice a m.doors.length c, .slice b m.keys.length d]] w (fun e w' => e = .returned (.tuple #[.int .i64 (M.needV m), .bool (M.mazeB m)]) ∧ Below w.heap.size w w') := by
  obtain ⟨ii0, hi0, hz0, hzz1, hz2⟩ := info_parts infoI
  have H := Lib.hid h
  clear h
  go_enter Try.func37, Try.ntmps37
  go_wp2_with fail
  refine named ?_
  intro W hW
  have hb : Below w.heap.size w W := by rw [hW]; exact below_alloc _ _
  have x1 : Box3 W w.heap.size 29 (.int .i64 m.size) (.slice a m.doors.length c) (.slice b m.keys.length d) := by rw [hW]; exact Box3.new _ _ _ _ rfl
  clear hW
  have hzw := hb.size
  refine (isMaze_any W lo hi m a b c d (H.out.below hb hz) (by omega)).mono ?_
  rintro e w1 ⟨rfl, hb1⟩
  have X1 := Lib.hid (x1.below hb1)
  have HB1 := Lib.hid (hb.trans (hb1.mono hzw))
  have hz1 := hb1.size
  have hxl1 := X1.out.lt
  clear hb hb1 x1
  obtain ⟨c0, c1, c2⟩ := X1.out.cells
  cases q0 : M.mazeB m with
  | false =>
    have HM := Lib.hid q0
    clear q0
    go_wp2_with fail
    go_ret2
    rw [HM.out]
    have e : M.needV m = 0 := by unfold M.needV; rw [HM.out]; rfl
    rw [e]
    exact ⟨rfl, HB1.out⟩
  | true =>
    have HM := Lib.hid q0
    have HV := Lib.hid (M.valid_of q0)
    clear q0
    have hl64 := M.selTo_len (M.wF m) 64
    have HSE := Lib.hid (setsWith_any 61 #[.agg #[.int .i64 m.size, .slice a m.doors.length c, .slice b m.keys.length d]] #[] (M.wF m) (enters_of Try.func61 (by kernel_rfl) rfl) w1 (fun W' s hq => wins6_any W' lo hi m a b c d (H.out.below (HB1.out.trans (hq.mono (by omega))) hz) (by have := hq.size; omega) HV.out s))
    have HCV : Hid (M.needV m = M.andAll (M.selF (M.wF m)) 63) := Lib.hid (by unfold M.needV; rw [if_pos HM.out])
    have hll : (M.selF (M.wF m)).length ≤ 64 := hl64
    have HAT := Lib.hid (fun (k : Nat) (hk : k < (M.selF (M.wF m)).length) => M.andAll_take hk 63)
    clear hl64
    generalize M.selF (M.wF m) = L at *
    go_wp2_with fail
    refine HSE.out.mono ?_
    rintro e w2 ⟨ra, rc, rfl, ho, ho1, ho2, hb2⟩
    rw [M.intsF_len] at ho1 ⊢
    have HO := Lib.hid ho
    have HB2 := Lib.hid (HB1.out.trans (hb2.mono (by omega)))
    clear ho hb2
    go_wp2_with fail
    go_loop [4, 14] (fun v4 v14 => ∃ (k : Nat), k ≤ L.length ∧ v14 = .int .i64 k ∧ v4 = .int .i64 (M.andAll (L.take k) 63)) (fun _ v14 => L.length - (intOf v14).toNat)
    case atStart => exact ⟨0, Nat.zero_le _, rfl, rfl⟩
    case round =>
      obtain ⟨k, hk, rfl, rfl⟩ := hrel
      by_cases hkl : k < L.length
      · obtain ⟨rb, off, hra, hr3, hr4, hc0⟩ := HO.out.row.at_ (k := k) (by rw [M.encIs_len, M.intsF_len]; exact hkl)
        have c0 : w2.cell? ⟨rb, off + k, none⟩ = some (.int .i64 ((L[k]).val : Int)) := hc0 _ _ (by rw [M.encIs_at (by rw [M.intsF_len]; exact hkl), M.intsF_at hkl])
        have HT := Lib.hid (HAT.out k hkl)
        clear hc0
        subst hra
        generalize L[k] = s at *
        go_wp2_with fail
        go_round
        case rel => exact ⟨k + 1, by omega, by go_num, by rw [HT.out]⟩
        case measure => simp [intOf]; omega
      · obtain rfl : k = L.length := by omega
        rw [List.take_of_length_le (Nat.le_refl _)]
        go_wp2_with fail
        go_ret2
        rw [HM.out, HCV.out]
        exact ⟨rfl, HB2.out⟩
end C
end Go.Proofs.Ytcoaggnilgfjfaa
