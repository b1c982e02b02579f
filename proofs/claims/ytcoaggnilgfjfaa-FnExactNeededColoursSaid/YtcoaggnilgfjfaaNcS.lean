/-
  CONTRACT of the model's NeededColours; what lay in memory stays. No condition but that the maze reads so.
-/
import Derived.Test.YtcoaggnilgfjfaaSWin
import Derived.Test.YtcoaggnilgfjfaaNcI
namespace Go.Proofs.Ytcoaggnilgfjfaa
open Go.RowKit
namespace C
set_option maxHeartbeats 3200000
set_option maxRecDepth 20000
theorem specNc_lw (w : World) (lo hi : Nat) (m : M.Mz) (a b : Option Addr) (c d : Nat) (h : MzIn lo hi w m a c b d) (hz : hi ≤ w.heap.size) (_h1 : m.doors.length ≤ 1048576) (_h2 : m.keys.length ≤ 1048576) :
    Calls Try.prog 36 #[.agg #[.int .i64 m.size, .slice a m.doors.length c, .slice b m.keys.length d]] w (fun e w' => e = .returned (.tuple #[.int .i64 (M.needV m), .bool (M.mazeB m)]) ∧ Below w.heap.size w w') := by
  obtain ⟨ii0, hi0, hz0, hzz1, hz2⟩ := info_parts infoI
  have H := Lib.hid h
  clear h
  go_enter Try.func36, Try.ntmps36
  go_wp2_with fail
  refine named ?_
  intro W hW
  have hb : Below w.heap.size w W := by rw [hW]; exact below_alloc _ _
  have x1 : Box3 W w.heap.size 29 (.int .i64 m.size) (.slice a m.doors.length c) (.slice b m.keys.length d) := by rw [hW]; exact Box3.new _ _ _ _ rfl
  clear hW
  have hzw := hb.size
  refine (specMaze_any W lo hi m a b c d (H.out.below hb hz) (by omega)).mono ?_
  rintro e w1 ⟨rfl, hb1⟩
  have X1 := Lib.hid (x1.below hb1)
  have HB1 := Lib.hid (hb.trans (hb1.mono hzw))
  have hz1 := hb1.size
  have hxl1 := X1.out.lt
  clear hb hb1 x1
  obtain ⟨c0, c1, c2⟩ := X1.out.cells
  cases q0 : M.mazeB m with
  | false =>
    have HM := Lib.hid q0
    clear q0
    go_wp2_with fail
    go_ret2
    rw [HM.out]
    have e : M.needV m = 0 := by unfold M.needV; rw [HM.out]; rfl
    rw [e]
    exact ⟨rfl, HB1.out⟩
  | true =>
    have HM := Lib.hid q0
    have HV := Lib.hid (M.valid_of q0)
    clear q0
    have h64 := M.boolsF_len (M.wF m)
    go_wp2_with fail
    refine (l6Wins_any w1 lo hi m a b c d (H.out.below HB1.out hz) (by omega) HV.out).mono ?_
    rintro e w2 ⟨ra, rc, rfl, ho, ho1, ho2, hb2⟩
    rw [h64] at ho1 ⊢
    have HO := Lib.hid ho
    have HB2 := Lib.hid (HB1.out.trans (hb2.mono (by omega)))
    have hz2' := hb2.size
    have HBA := Lib.hid (fun s : M.St6 => M.boolsF_at (M.wF m) s)
    have HBL : Hid ((M.encBs (M.boolsF (M.wF m))).length = 64) := Lib.hid (by rw [M.encBs_len, h64])
    clear ho hb2
    obtain ⟨bb, boff, hra, hr3, hr4, hbc⟩ := HO.out.row.at_ (k := 0) (by rw [HBL.out]; decide)
    have HCE := Lib.hid (fun s : M.St6 => hbc _ _ (HBA.out s))
    clear hbc
    subst hra
    have HCV : Hid (M.needV m = M.andAll (M.selTo (M.wF m) 64) 63) := Lib.hid (by unfold M.needV; rw [if_pos HM.out]; rfl)
    go_wp2_with fail
    go_loop [4, 6] (fun v4 v6 => ∃ (k : Nat), k ≤ 64 ∧ v6 = .int .i64 k ∧ v4 = .int .i64 (M.andAll (M.selTo (M.wF m) k) 63)) (fun _ v6 => 64 - (intOf v6).toNat)
    case atStart => exact ⟨0, Nat.zero_le _, rfl, by rw [M.selTo_zero]; rfl⟩
    case round =>
      obtain ⟨k, hk, rfl, rfl⟩ := hrel
      by_cases hkl : k < 64
      · have d0 := HCE.out ⟨k, hkl⟩
        have HY := Lib.hid (fun h => M.selTo_yes (P := M.wF m) hkl h)
        have HN := Lib.hid (fun h => M.selTo_no (P := M.wF m) hkl h)
        cases hq : M.wF m ⟨k, hkl⟩ with
        | false =>
          rw [hq] at d0
          have HNO := Lib.hid (HN.out hq)
          clear hq
          go_wp2_with fail
          go_round
          case rel => exact ⟨k + 1, by omega, by go_num, by rw [HNO.out]⟩
          case measure => simp [intOf]; omega
        | true =>
          rw [hq] at d0
          have HYE : Hid (M.andAll (M.selTo (M.wF m) (k + 1)) 63 = bits .and .i64 (M.andAll (M.selTo (M.wF m) k) 63) (k : Int)) := Lib.hid (by rw [HY.out hq, M.andAll_snoc])
          clear hq
          go_wp2_with fail
          go_round
          case rel => exact ⟨k + 1, by omega, by go_num, by rw [HYE.out]⟩
          case measure => simp [intOf]; omega
      · obtain rfl : k = 64 := by omega
        go_wp2_with fail
        go_ret2
        rw [HM.out, HCV.out]
        exact ⟨rfl, HB2.out⟩
end C
end Go.Proofs.Ytcoaggnilgfjfaa
