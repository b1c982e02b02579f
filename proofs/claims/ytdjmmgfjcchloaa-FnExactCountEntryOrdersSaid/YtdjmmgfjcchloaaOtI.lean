/-
  CONTRACT of impl.Maze.ordersTable: the table of orders, in memory of the call's own; what lay in memory stays. Condition: a valid maze.
-/
import Derived.Test.YtdjmmgfjcchloaaNextI
import Derived.Test.YtdjmmgfjcchloaaTabN
import Derived.Deep.RegionWith
import Derived.Deep.DeepCutAuto
import Derived.OwnWalk
namespace Go.Proofs.Ytdjmmgfjcchloaa
open Go.RowKit
namespace C
set_option maxHeartbeats 3200000
set_option maxRecDepth 20000
theorem ordersTable_any (w : World) (lo hi : Nat) (m : M.Mz) (a b : Option Addr) (c d : Nat) (h : MzIn lo hi w m a c b d) (hz : hi ≤ w.heap.size) (V : M.Valid m) :
    Calls Try.prog 68 #[.agg #[.int .i64 m.size, .slice a m.doors.length c, .slice b m.keys.length d]] w (IntsPost w (M.ordT m)) := by
  obtain ⟨ii0, hi0, hz0, hzz1, hzz2⟩ := info_parts infoI
  have H := Lib.hid h
  have HV := Lib.hid V
  have v12 := V.size12
  have v1 := V.size1
  have hwp := M.wrap_two V
  obtain ⟨hN2, hN4⟩ := M.two_size V
  have HOT : Hid (M.tabT m (2 ^ m.size.toNat) (2 ^ m.size.toNat) = M.ordT m) := Lib.hid rfl
  have HNX := Lib.hid (fun (c k : Nat) (hc : c < 2 ^ m.size.toNat) (hk : k < (M.nxs m c).length) => M.nxs_at V hc hk)
  have HDG := Lib.hid (fun (c : Nat) (hc : c < 2 ^ m.size.toNat) (p : Nat) (hp : M.digB c p = true) => show (p : Int) < m.size from by have := M.digB_two hc hp; omega)
  have hm0 : ¬ m.size < 0 := by omega
  clear h V
  generalize hNN : 2 ^ m.size.toNat = N at *
  clear hNN
  obtain ⟨zs, hzs1, hzs2, hmr⟩ := make_runT hi0 hz0 hzz1 hzz2 hN4
  go_enter Try.func68, Try.ntmps68
  go_upto_region 2 with fail
  refine wp_named ?_
  intro W hW
  have hb : Below w.heap.size w W := by rw [hW]; exact (below_alloc _ _).alloc (by simp) _
  have x1 : Box3 W w.heap.size 29 (.int .i64 m.size) (.slice a m.doors.length c) (.slice b m.keys.length d) := by rw [hW]; exact (Box3.new _ _ _ _ rfl).alloc _
  have t1 : OwnAt (w.heap.size + 1) (w.heap.size + 2) W 3 (some ⟨w.heap.size + 1, 0, none⟩) (M.encIs (List.replicate N 0)) := by
    rw [hW]
    have := madeT (w := w.alloc (.cells #[.int .i64 m.size, .slice a m.doors.length c, .slice b m.keys.length d] 29)) hzs2
    simp only [World.size_alloc] at this
    exact this
  have hzw : w.heap.size + 2 ≤ W.heap.size := by rw [hW]; simp
  have hst := t1.set0 1 (.int .i64 1)
  obtain ⟨u1, _, c1, f1⟩ := t1.cell0 (k := 1) (by rw [M.encIs_len, List.length_replicate]; omega)
  clear hW hmr
  have hN1 : (1 : Int) < (N : Int) := by omega
  go_wp2_with fail
  refine wp_named ?_
  intro W1 hW1
  have tn : Turned (w.heap.size + 1) (w.heap.size + 2) W W1 := by rw [hW1]; exact Turned.setCell _ _ _ _ (Nat.le_refl _) (by omega)
  have HB1 := Lib.hid (show Below w.heap.size w W1 from Below.thenTurned hb tn (by omega) (by omega))
  have X1 := Lib.hid (x1.turned tn (.inl (by omega)))
  have T1 := Lib.hid (show OwnAt (w.heap.size + 1) (w.heap.size + 2) W1 3 (some ⟨w.heap.size + 1, 0, none⟩) (M.encIs (M.tabT m N 0)) from by rw [hW1]; rw [M.encIs_set] at hst; exact hst)
  have hz1 := tn.size
  clear hW1 tn hst t1 x1 hb c1 f1
  go_loopw [4, 6, 15] (fun _ _ i wr => ∃ (k : Nat), k ≤ N ∧ i = .int .i64 k ∧ OwnAt (w.heap.size + 1) (w.heap.size + 2) wr 3 (some ⟨w.heap.size + 1, 0, none⟩) (M.encIs (M.tabT m N k)) ∧ Turned (w.heap.size + 1) (w.heap.size + 2) W1 wr) (fun _ _ i _ => N - (intOf i).toNat)
  case atStart => exact ⟨0, Nat.zero_le _, rfl, T1.out, Turned.refl _ _ _⟩
  case round =>
    obtain ⟨k, hk, rfl, htab, htn⟩ := hrel
    have HT := Lib.hid htab
    have HTN := Lib.hid htn
    have hzr := htn.size
    have XR := Lib.hid (X1.out.turned htn (.inl (by omega)))
    have HBR := Lib.hid (show Below w.heap.size w wr from Below.thenTurned HB1.out htn (by omega) (by omega))
    have hxl := XR.out.lt
    obtain ⟨c0, c1, c2⟩ := XR.out.cells
    clear htab htn
    by_cases hkN : k < N
    · have hki : (k : Int) < (N : Int) := by omega
      have hk4 : k < 4096 := by omega
      have hnx4 := M.nextN_lt m k
      go_wp2_with fail
      refine (nextTo_any wr lo hi m a b c d (H.out.below HBR.out hz) (by omega) HV.out k hk4 (HDG.out k hkN)).mono ?_
      rintro e w3 ⟨rfl, hb3⟩
      have HT3 := Lib.hid (HT.out.below hb3 (by omega))
      have HTN3 := Lib.hid (HTN.out.trans (Turned.of_below hb3 _ _))
      have hz3 := hb3.size
      clear hb3
      go_wp2_with fail
      refine (digits_any _ hnx4 w3).mono ?_
      rintro e w4 ⟨ra, rc, rfl, ho, hq1, hq2, hb4⟩
      have HT4 := Lib.hid (HT3.out.below hb4 (by omega))
      have HTN4 := Lib.hid (HTN3.out.trans (Turned.of_below hb4 _ _))
      have hz4 := hb4.size
      have HEN : Hid (M.inT m k (M.tabT m N k) (M.nxs m k).length = M.tabT m N (k + 1)) := Lib.hid rfl
      have HEQ : Hid (M.digsTo (M.nextN m k) 12 = M.nxs m k) := Lib.hid rfl
      have hll : (M.nxs m k).length ≤ 12 := M.digsTo_len _ _
      have HTL : Hid ((M.tabT m N k).length = N) := Lib.hid (M.tabT_len m N k)
      have HIS := Lib.hid (fun j (hj : j < (M.nxs m k).length) => M.inT_succ (M.tabT m N k) hj)
      have HIL := Lib.hid (fun j => M.inT_len m k (M.tabT m N k) j)
      rw [HEQ.out] at ho hq1 ⊢
      have HO := Lib.hid ho
      have HNK := Lib.hid (HNX.out k)
      clear ho hb4 c0 c1 c2
      generalize hLL : M.nxs m k = L at *
      generalize hTT : M.tabT m N k = T at *
      clear hLL hTT
      go_wp2_with fail
      go_loopw [6, 23] (fun _ i wx => ∃ (j : Nat), j ≤ L.length ∧ i = .int .i64 j ∧ OwnAt (w.heap.size + 1) (w.heap.size + 2) wx 3 (some ⟨w.heap.size + 1, 0, none⟩) (M.encIs (M.inT m k T j)) ∧ Turned (w.heap.size + 1) (w.heap.size + 2) w4 wx) (fun _ i _ => L.length - (intOf i).toNat)
      case atStart => exact ⟨0, Nat.zero_le _, rfl, HT4.out, Turned.refl _ _ _⟩
      case round =>
        obtain ⟨j, hj, rfl, htab, htn⟩ := hrel
        have HT5 := Lib.hid htab
        have HTN5 := Lib.hid htn
        have hzx := htn.size
        clear htab htn
        by_cases hjl : j < L.length
        · obtain ⟨p, hp, hps, hpt, hpc⟩ := HNK.out j hkN hjl
          have hrow := HO.out.row.turned HTN5.out (Nat.le_refl _) (.inr (by omega))
          obtain ⟨lb, off, rfl, hlb1, hlb2, hc0⟩ := hrow.at_ (k := j) (by rw [M.encIs_len]; exact hjl)
          have a0 := hc0 _ _ (M.encIs_at hjl)
          rw [hp] at a0
          have HST := Lib.hid (HIS.out j hjl)
          rw [hp] at HST
          have htl : (M.inT m k T j).length = N := by rw [HIL.out, HTL.out]
          have hlw : lb < wr.heap.size := by omega
          obtain ⟨hpw, hpw2⟩ := M.wrapsP (p := p) (by omega)
          have hor : bits .or .i64 (k : Int) (2 ^ p) = ((k ||| 2 ^ p : Nat) : Int) := M.orP hk4 (by omega)
          obtain ⟨tc, tf⟩ := HT5.out.at0 (encIs_getD (k := k ||| 2 ^ p) (by omega))
          obtain ⟨kc, kf⟩ := HT5.out.at0 (encIs_getD (k := k) (by omega))
          have hp0 : ¬ (p : Int) < 0 := by omega
          have HAD : Hid (M.encIs (M.addT k (M.inT m k T j) (p : Int)) = (M.encIs (M.inT m k T j)).set (k ||| 2 ^ p) (.int .i64 (wrap64 ((M.inT m k T j).getD (k ||| 2 ^ p) 0 + (M.inT m k T j).getD k 0)))) := Lib.hid (by rw [M.encIs_set]; rfl)
          clear hc0 hrow hp
          generalize M.inT m k T j = TJ at *
          generalize TJ.getD (k ||| 2 ^ p) 0 = vt at *
          generalize TJ.getD k 0 = vk at *
          generalize hqq : k ||| 2 ^ p = q at *
          have hqi : (q : Int) < (N : Int) := by omega
          have hki2 : (k : Int) < (N : Int) := by omega
          go_wp2_with fail
          go_region_with (fail)
          all_goals
            go_wp2_with fail
            go_roundw
            case rel => exact ⟨j + 1, by omega, by go_num, by rw [HST.out, HAD.out]; exact (HT5.out.below (below_drawn _ _) (by omega)).set0 _ _, (HTN5.out.trans (Turned.of_below (below_drawn _ _) _ _)).trans (Turned.setCell _ _ _ _ (Nat.le_refl _) (by omega))⟩
            case measure => simp [intOf]; omega
        · obtain rfl : j = L.length := by omega
          go_wp2_with fail
          go_roundw
          case rel => exact ⟨k + 1, by omega, by go_num, by rw [← HEN.out]; exact HT5.out, HTN4.out.trans HTN5.out⟩
          case measure => simp [intOf]; omega
    · obtain rfl : k = N := by omega
      go_wp2_with fail
      go_ret
      have hfin := HT.out
      rw [HOT.out] at hfin
      have hlen : (M.ordT m).length = k := by rw [← HOT.out, M.tabT_len]
      refine ⟨some ⟨w.heap.size + 1, 0, none⟩, k, ?_, hfin.mono (by omega) (by omega), by omega, by omega, HBR.out⟩
      rw [hlen]
      rfl
end C
end Go.Proofs.Ytdjmmgfjcchloaa
