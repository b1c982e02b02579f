/-
  CONTRACT of impl's allStates: all states with the keys of their nodes, in a new list; what lay in memory stays. Condition: a valid maze.
  CONTRACT of impl's remaining: a map of the least numbers of steps in which one can win, for each state; what lay in memory stays. Condition: a valid maze.
  CONTRACT of impl's RemainTable; what lay in memory stays. No condition but that the maze reads so.
-/
import Derived.Test.YtbpinhfjfjfbdaaQMath
import Derived.Test.YtbpinhfjfjfbdaaOpenTo
import Derived.Test.YtbpinhfjfjfbdaaQMapQ
import Derived.IntWalk
import Derived.Carry
import Derived.Test.YtbpinhfjfjfbdaaQTab
import Derived.Test.YtbpinhfjfjfbdaaWayI
import Derived.Test.YtbpinhfjfjfbdaaNodeB
namespace Go.Proofs.Ytbpinhfjfjfbdaa
open Go.RowKit
namespace C
set_option maxHeartbeats 3200000
set_option maxRecDepth 20000
theorem allStates_any (w : World) (lo hi : Nat) (m : M.Mz) (a b : Option Addr) (c d : Nat) (h : MzIn lo hi w m a c b d) (hz : hi ≤ w.heap.size) (V : M.Valid m) :
    Calls Try.prog 102 #[.agg #[.int .i64 m.size, .slice a m.doors.length c, .slice b m.keys.length d]] w (StsPost w (M.allSt m)) := by
  obtain ⟨i0, hi0, hz0, hz1, hz2⟩ := info_parts infoS
  have H := Lib.hid h
  have v12 := V.size12
  have v1 := V.size1
  have vk := V.keysLen
  obtain ⟨n, hn⟩ : ∃ n : Nat, n = m.keys.length := ⟨_, rfl⟩
  have HN : Hid (M.allSt m = M.allTo m (n * 64)) := Lib.hid (by unfold M.allSt M.size64; rw [hn]; congr 2; omega)
  have HNK := Lib.hid hn
  have hn12 : n ≤ 12 := by omega
  have hnd : n ≤ d := by have := h.d1; omega
  clear h V v1 v12 vk
  rw [← hn]
  clear hn
  go_enter Try.func102, Try.ntmps102
  go_upto_region 2 with fail
  refine wp_named ?_
  intro W hW
  have hb : Below w.heap.size w W := by rw [hW]; exact (below_alloc _ _).alloc (by simp) _
  have x1 : Box3 W w.heap.size 29 (.int .i64 m.size) (.slice a m.doors.length c) (.slice b n d) := by rw [hW]; exact (Box3.new _ _ _ _ rfl).alloc _
  have o1 : W.ownsRow (w.heap.size + 1) 60 2 (.slice (some ⟨w.heap.size + 1, 0, none⟩) 0 0) 0 (M.encSs (M.allTo m 0)) := by
    rw [hW]
    have := ownsRow_empty (w.alloc (.cells #[.int .i64 m.size, .slice a m.doors.length c, .slice b n d] 29)) (w.heap.size + 1) 60 2 (by simp)
    rw [World.size_alloc] at this
    exact this
  clear hW
  obtain ⟨c0, c1, c2⟩ := x1.cells
  have O1 := Lib.hid o1
  have HB := Lib.hid hb
  clear x1 o1 hb
  go_wp2_with fail
  go_loopw [3, 4, 5, 6, 11, 16] (fun v3 _ _ _ v11 _ wr => ∃ (k : Nat), k ≤ n ∧ v11 = .int .i64 (k : Int) ∧ wr.ownsRow (w.heap.size + 1) 60 2 v3 (M.allTo m (k * 64)).length (M.encSs (M.allTo m (k * 64))) ∧ Below w.heap.size w wr) (fun _ _ _ _ v11 _ _ => n - (intOf v11).toNat)
  case atStart => exact ⟨0, Nat.zero_le _, rfl, O1.out, HB.out⟩
  case round =>
    obtain ⟨k, hk, rfl, hso, hlow⟩ := hrel
    have SO := Lib.hid hso
    have LO := Lib.hid hlow
    have hzr := hlow.size
    clear hso hlow
    by_cases hkl : k < n
    · have hkk : k < m.keys.length := by have := HNK.out; omega
      obtain ⟨kb, koff, hkb, _, hkbl, hkc⟩ := (H.out.below LO.out hz).keys.at_ (k := k) (by rw [M.encIs_len]; omega)
      subst hkb
      have kx := hkc _ _ (M.encIs_at hkk)
      rw [← M.keyAt_eq hkk] at kx
      have HKY : Hid (∀ j : Nat, j < 64 → M.unid (k * 64 + j) = ((k : Int), (j : Int))) := Lib.hid fun j hj => M.unid_at k j hj
      have HYES := Lib.hid (fun (j : Nat) (hj : j < 64) (hh : M.hasB (j : Int) (M.keyAt m (k : Int)) = true) => show M.allTo m (k * 64 + (j + 1)) = M.allTo m (k * 64 + j) ++ [((k : Int), (j : Int))] by
        rw [← HKY.out j hj]
        exact M.allTo_yes (k := k * 64 + j) (by rw [HKY.out j hj]; exact hh))
      have HNO := Lib.hid (fun (j : Nat) (hj : j < 64) (hh : M.hasB (j : Int) (M.keyAt m (k : Int)) = false) => show M.allTo m (k * 64 + (j + 1)) = M.allTo m (k * 64 + j) from M.allTo_no (k := k * 64 + j) (by rw [HKY.out j hj]; exact hh))
      clear hkc HKY
      generalize M.keyAt m (k : Int) = ky at *
      go_wp2_with fail
      go_loopw [3, 6, 16] (fun v3 _ v16 wr => ∃ (j : Nat), j ≤ 64 ∧ v16 = .int .i64 (j : Int) ∧ wr.ownsRow (w.heap.size + 1) 60 2 v3 (M.allTo m (k * 64 + j)).length (M.encSs (M.allTo m (k * 64 + j))) ∧ Below w.heap.size w wr) (fun _ _ v16 _ => 64 - (intOf v16).toNat)
      case atStart => exact ⟨0, Nat.zero_le _, rfl, SO.out, LO.out⟩
      case round =>
        obtain ⟨j, hj, rfl, hso, hlow⟩ := hrel
        obtain ⟨la, lc, hv, hl1, hl2, _⟩ := own_slice hso
        subst hv
        have SO := Lib.hid hso
        have LO := Lib.hid hlow
        have hzr := hlow.size
        have hll := M.allTo_len m (k * 64 + j)
        clear hso hlow
        by_cases hjl : j < 64
        · cases hh : M.hasB (j : Int) ky with
          | false =>
            have HE := Lib.hid (HNO.out j hjl hh)
            have HH := Lib.hid hh
            clear hh
            go_wp2_with fail
            refine (hasAll_any _ _ _).mono ?_
            rintro e w2 ⟨rfl, rfl⟩
            rw [HH.out]
            go_wp2_with fail
            go_roundw
            case rel => exact ⟨j + 1, by omega, by go_num, by rw [HE.out]; exact SO.out, LO.out⟩
            case measure => simp [intOf]; omega
          | true =>
            have HE := Lib.hid (HYES.out j hjl hh)
            have HH := Lib.hid hh
            clear hh
            go_wp2_with fail
            refine (hasAll_any _ _ _).mono ?_
            rintro e w2 ⟨rfl, rfl⟩
            rw [HH.out]
            go_wp2_with (at_builtin; refine wpList_append_own _ rfl _ _ 86 rfl (w.heap.size + 1) 60 i0 (.agg #[.int .i64 0, .int .i64 0]) 2 16 Try.underlying86 hi0 hz0 hz1 hz2 rfl (by decide) _ _ _ rfl (SO.out.alloc _) ⟨wr.heap.size, 0, none⟩ 1 1 [.int .i64 (k : Int), .int .i64 (j : Int)] rfl rfl (newsS (Box2.new _ _ _ rfl)) (fun x hx => by simp at hx; rcases hx with rfl | rfl <;> rfl) (by unfold maxLen; omega) (by omega) (by simp; omega) ?_; intro v' w7 hown' hgrow7 hnil7)
            go_roundw
            case rel =>
              refine ⟨j + 1, by omega, by go_num, ?_, (LO.out.alloc (by omega) _).grown hgrow7 (by simp; omega) (fun j hj => by have := own_base SO.out j hj; omega)⟩
              rw [HE.out, M.encSs_append, List.length_append]
              exact hown'
            case measure => simp [intOf]; omega
        · obtain rfl : j = 64 := by omega
          have HE : Hid ((k + 1) * 64 = k * 64 + 64) := Lib.hid (by omega)
          go_wp2_with fail
          go_roundw
          case rel => exact ⟨k + 1, by omega, by go_num, by rw [HE.out]; exact SO.out, LO.out⟩
          case measure => simp [intOf]; omega
    · obtain rfl : k = n := by omega
      go_wp2_with fail
      go_ret
      rw [HN.out]
      exact sts_end SO.out (by omega) rfl LO.out
end C
end Go.Proofs.Ytbpinhfjfjfbdaa
namespace Go.Proofs.Ytbpinhfjfjfbdaa
open Go.RowKit
namespace M
theorem st_few {m : Mz} {L : List St} (h : L.Nodup) (hS : ∀ s ∈ L, StOk m s) : L.length ≤ size64 m := by
  have := nodup_len (n := size64 m) (l := L.map fun s => ((idN s : Nat) : Int)) (by
    rw [List.nodup_iff_pairwise_ne, List.pairwise_map]
    refine List.Pairwise.imp_of_mem (fun {a b} ha hb hab e => hab ?_) h
    have e' : idN a = idN b := by omega
    rw [← unid_idN (hS a ha), ← unid_idN (hS b hb), e']) (fun z hz => by
    obtain ⟨s, hs, rfl⟩ := List.mem_map.1 hz
    have := idN_lt (hS s hs)
    unfold size64
    constructor <;> omega)
  rwa [List.length_map] at this
end M
namespace C
set_option maxHeartbeats 3200000
set_option maxRecDepth 20000
theorem MapC.nodup {w : World} {b : Nat} {L : List M.St} {f : M.St → Option Cut} (h : MapC w b L f) : L.Nodup := by
  obtain ⟨D, _, _, h2, _⟩ := h
  exact h2
theorem addK_ok {P : M.St → Prop} {L : List M.St} (h : ∀ s ∈ L, P s) {t : M.St} (ht : P t) : ∀ s ∈ addK L t, P s := by
  intro s hs
  unfold addK at hs
  split at hs
  · exact h s hs
  · rw [List.mem_append, List.mem_singleton] at hs
    rcases hs with hs | rfl
    · exact h s hs
    · exact ht
/-- the function value that tells from where one comes -/
theorem remBack_any (w : World) (B b p4 : Nat) (L : List M.St) (f : M.St → Option Cut) (bef : M.St → List M.St) (hm : MapC w b L f) (hr : RowsC w B f bef) (hp : w.cell? ⟨p4, 0, none⟩ = some (.map (some b))) (hpl : p4 < w.heap.size) (m : M.Mz) (V : M.Valid m) :
    NextOk 103 #[] #[.pointer (some ⟨p4, 0, none⟩)] bef (M.StOk m) w := by
  intro W s hb hs
  show Calls Try.prog 103 #[.agg #[.int .i64 s.1, .int .i64 s.2], .pointer (some ⟨p4, 0, none⟩)] W _
  have H64 := Lib.hid (st64 V hs)
  have hm1 := hm.below hb hm.lt
  have hp1 : W.cell? ⟨p4, 0, none⟩ = some (.map (some b)) := (hb.cell (p := ⟨p4, 0, none⟩) hpl).trans hp
  have hbl := hb.size
  have HM := Lib.hid hm1
  have HP : Hid (∃ a c, cutO (f s) = .slice a (bef s).length c ∧ RowIn B w.heap.size w a (M.encSs (bef s))) := Lib.hid (by
    have := hr.at_ s
    cases e : f s with
    | none =>
      rw [hr.no s e]
      exact ⟨none, 0, rfl, .inl rfl⟩
    | some u =>
      rw [e] at this
      have hl := (hr.row s u e).1
      refine ⟨some ⟨u.1, 0, none⟩, u.2.2, by rw [← hl]; rfl, ?_⟩
      refine OwnQ.row (OwnQ.of_own this) (c := u.2.2) ?_
      rw [← hl]
      rfl)
  have HB := Lib.hid hb
  clear hm hr hp hm1 hb
  obtain ⟨ra, rc, hcut, hrow⟩ := HP.out
  have HR := Lib.hid hrow
  clear HP hrow
  go_enter Try.func103, Try.ntmps103
  go_upto_region 1 with fail
  refine wp_named ?_
  intro W1 hW1
  have hb1 : Below W.heap.size W W1 := by rw [hW1]; exact below_alloc _ _
  have z1 : Box2 W1 W.heap.size 60 (.int .i64 s.1) (.int .i64 s.2) := by rw [hW1]; exact Box2.new _ _ _ rfl
  clear hW1
  obtain ⟨k0, k1⟩ := z1.cells
  have hp2 : W1.cell? ⟨p4, 0, none⟩ = some (.map (some b)) := (hb1.cell (p := ⟨p4, 0, none⟩) (show p4 < W.heap.size by omega)).trans hp1
  have q1 : (Instr.lookup 90 (.map (some b)) (.agg #[.int .i64 s.1, .int .i64 s.2]) false).run Try.prog W1 = .ok (.slice ra (bef s).length rc) W1 := by
    rw [← hcut]
    exact (HM.out.below hb1 HM.out.lt).look H64.out
  have HB1 := Lib.hid hb1
  clear z1 hp1 hb1
  go_wp2_with fail
  go_ret
  exact ⟨ra, rc, B, w.heap.size, rfl, (HR.out.turned (Turned.of_below (HB.out.trans (HB1.out.mono hbl)) 0 0) (Nat.le_refl _) (.inr (Nat.zero_le _))), by have := HB1.out.size; omega, .inl (Nat.le_refl _), HB1.out⟩
theorem remaining_any (w : World) (lo hi : Nat) (m : M.Mz) (a b : Option Addr) (c d : Nat) (h : MzIn lo hi w m a c b d) (hz : hi ≤ w.heap.size) (V : M.Valid m) :
    Calls Try.prog 69 #[.agg #[.int .i64 m.size, .slice a m.doors.length c, .slice b m.keys.length d]] w (MapPost w (M.remF m)) := by
  obtain ⟨i0, hi0, hz0, hz1, hz2⟩ := info_parts infoS
  have H := Lib.hid h
  have HVA := Lib.hid V
  have v12 := V.size12
  have v1 := V.size1
  have hmm := @run_makeMap Try.prog
  have HAL := Lib.hid (M.allSt_len m)
  have hs64 : M.size64 m ≤ 768 := by unfold M.size64; omega
  clear h V
  go_enter Try.func69, Try.ntmps69
  go_upto_region 3 with fail
  refine wp_named ?_
  intro W hW
  have hb : Below w.heap.size w W := by rw [hW]; exact (((below_alloc _ _).alloc (by simp) _).alloc (by simp; omega) _).alloc (by simp; omega) _
  have x1 : Box3 W w.heap.size 29 (.int .i64 m.size) (.slice a m.doors.length c) (.slice b m.keys.length d) := by rw [hW]; exact (((Box3.new _ _ _ _ rfl).alloc _).alloc _).alloc _
  have o1 : W.ownsRow (w.heap.size + 1) 60 2 (.slice (some ⟨w.heap.size + 1, 0, none⟩) 0 0) 0 [] := by
    rw [hW]
    have := ownsRow_empty (w.alloc (.cells #[.int .i64 m.size, .slice a m.doors.length c, .slice b m.keys.length d] 29)) (w.heap.size + 1) 60 2 (by simp)
    rw [World.size_alloc] at this
    exact (this.alloc _).alloc _
  have m1 : MapC W (w.heap.size + 1 + 1) [] (fun _ => none) := by
    rw [hW]
    have := MapC.made ((w.alloc (.cells #[.int .i64 m.size, .slice a m.doors.length c, .slice b m.keys.length d] 29)).alloc (.cells #[] 60))
    rw [World.size_alloc, World.size_alloc] at this
    exact this.below (below_alloc _ _) (by simp)
  have p1 : W.cell? ⟨w.heap.size + 1 + 1 + 1, 0, none⟩ = some (.map (some (w.heap.size + 1 + 1))) := by
    rw [hW]
    refine cell_of_row _ _ 0 #[.map (some (w.heap.size + 1 + 1))] 90 (0, 0) ?_
    have := heap_alloc_new (((w.alloc (.cells #[.int .i64 m.size, .slice a m.doors.length c, .slice b m.keys.length d] 29)).alloc (.cells #[] 60)).alloc (.map #[] 0)) (.cells #[.map (some (w.heap.size + 1 + 1))] 90)
    simp only [World.size_alloc] at this
    exact this
  have hws : W.heap.size = w.heap.size + 1 + 1 + 1 + 1 := by rw [hW]; simp
  clear hW hmm
  obtain ⟨c0, c1, c2⟩ := x1.cells
  have X1 := Lib.hid x1
  have O1 := Lib.hid o1
  have M1 := Lib.hid m1
  have P1 := Lib.hid p1
  have HB := Lib.hid hb
  have AS := Lib.hid (allStates_any W lo hi m a b c d (H.out.below hb hz) (by omega) HVA.out)
  clear x1 o1 m1 p1 hb
  go_wp2_with fail
  refine (AS.out).mono ?_
  rintro e w4 ⟨a4, c4, rfl, ho4, hc4, hc4m, hb4⟩
  have A4 : Hid (RowIn W.heap.size w4.heap.size w4 a4 (M.encSs (M.allSt m))) := Lib.hid ho4.row
  have X4 := Lib.hid (X1.out.below hb4)
  have O4 := Lib.hid (own_below O1.out hb4)
  have M4 := Lib.hid (M1.out.below hb4 M1.out.lt)
  have P4 : Hid (w4.cell? ⟨w.heap.size + 1 + 1 + 1, 0, none⟩ = some (.map (some (w.heap.size + 1 + 1)))) := Lib.hid ((hb4.cell (p := ⟨w.heap.size + 1 + 1 + 1, 0, none⟩) (show w.heap.size + 1 + 1 + 1 < W.heap.size by omega)).trans P1.out)
  have L4 := Lib.hid (HB.out.trans (hb4.mono (by omega)))
  have hz4 := hb4.size
  clear ho4 hb4 c0 c1 c2 AS O1 M1 P1 X1
  generalize hA : M.allSt m = A at *
  have HA := Lib.hid hA
  have HMA := Lib.hid (fun (s : M.St) (hs : s ∈ A) => show M.Met m s from (M.mem_allSt HVA.out).1 (by rw [hA]; exact hs))
  have HWL : Hid (M.wonL m = A.filter (M.wonB m)) := Lib.hid (by rw [← hA]; rfl)
  have HBK : Hid (M.befK m A.length = M.preds m) := Lib.hid (by rw [← hA]; exact M.befK_all m)
  have HBE := Lib.hid (fun k (hk : k < A.length) => show M.befM m k A[k] (M.nexts m A[k]).length = M.befK m (k + 1) by subst hA; exact M.befM_end hk)
  clear hA
  go_wp2_with fail
  go_loopw [3, 6, 8, 14, 29] (fun v3 _ _ v14 _ wr => ∃ (k : Nat) (L : List M.St) (f : M.St → Option Cut), k ≤ A.length ∧ v14 = .int .i64 (k : Int) ∧ wr.ownsRow (w.heap.size + 1) 60 2 v3 ((A.take k).filter (M.wonB m)).length (M.encSs ((A.take k).filter (M.wonB m))) ∧ (∀ z, v3.ownBlock = some z → z = w.heap.size + 1 ∨ w4.heap.size ≤ z) ∧
    MapC wr (w.heap.size + 1 + 1) L f ∧ (∀ s ∈ L, M.StOk m s) ∧ RowsC wr w4.heap.size f (M.befK m k) ∧ (∀ t u, f t = some u → v3.ownBlock ≠ some u.1) ∧ Rest w4.heap.size (w.heap.size + 1) (w.heap.size + 1 + 1) w4 wr) (fun _ _ _ v14 _ _ => A.length - (intOf v14).toNat)
  case atStart => exact ⟨0, [], _, Nat.zero_le _, rfl, O4.out, fun z hz => .inl (by injection hz with hz; exact hz.symm), M4.out, fun _ h => (by cases h), by rw [M.befK_zero]; exact RowsC.start _ _, fun _ _ h => (by cases h), Rest.refl _ _ _ _⟩
  case round =>
    obtain ⟨k, L, f, hk, rfl, ho3, hz3, hm3, hL3, hr3, hd3, hrest⟩ := hrel
    obtain ⟨la, lc, hv3, hl1, hl2, _⟩ := own_slice ho3
    subst hv3
    have O3 := Lib.hid ho3
    have Z3 := Lib.hid hz3
    have M3 := Lib.hid hm3
    have L3 := Lib.hid hL3
    have R3 := Lib.hid hr3
    have D3 := Lib.hid hd3
    have RE := Lib.hid hrest
    have hsr := hrest.size
    have hcl : ((A.take k).filter (M.wonB m)).length ≤ 768 := by
      refine Nat.le_trans (List.length_filter_le _ _) ?_
      rw [List.length_take]
      have := HAL.out
      omega
    clear ho3 hz3 hm3 hL3 hr3 hd3 hrest
    by_cases hkl : k < A.length
    · obtain ⟨db, off, hda, hdb1, hdb2, hc0⟩ := (RE.out.row A4.out (Nat.le_refl _) (by omega) (by omega)).at_ (k := k * 2) (by rw [M.encSs_len]; omega)
      subst hda
      have a0 : wr.cell? ⟨db, off + k * 2, none⟩ = some (.int .i64 A[k].1) := hc0 _ _ (M.encSs_at0 hkl)
      have a1 : wr.cell? ⟨db, off + k * 2 + 1, none⟩ = some (.int .i64 A[k].2) := hc0 _ _ (M.encSs_at1 hkl)
      have HTK : Hid (A.take (k + 1) = A.take k ++ [A[k]]) := Lib.hid (List.take_succ_eq_append_getElem hkl)
      have HMx := Lib.hid (HMA.out _ (List.getElem_mem hkl))
      have HBX := Lib.hid (HBE.out k hkl)
      have hdw : db < wr.heap.size := by omega
      clear hc0
      generalize A[k] = x at *
      go_upto_region 6 with fail
      refine wp_named ?_
      intro W5 hW5
      have hb5 : Below wr.heap.size wr W5 := by rw [hW5]; exact below_alloc _ _
      have b5 : Box2 W5 wr.heap.size 60 (.int .i64 x.1) (.int .i64 x.2) := by rw [hW5]; exact Box2.new _ _ _ rfl
      have hs5 : W5.heap.size = wr.heap.size + 1 := by rw [hW5]; simp
      clear hW5 a0 a1
      have O5 := Lib.hid (own_below O3.out hb5)
      have M5 := Lib.hid (M3.out.below hb5 M3.out.lt)
      have R5 := Lib.hid (R3.out.below hb5)
      have RE5 := Lib.hid (RE.out.below hb5 (by omega))
      have B5 := Lib.hid b5
      have HUL := Lib.hid (fun t u (hu : f t = some u) => (R3.out.base hu).2)
      have HVL : Hid (∀ z, (Value.slice la ((A.take k).filter (M.wonB m)).length lc).ownBlock = some z → z < wr.heap.size) := Lib.hid (fun z hz => (O3.out.lt z hz).2)
      have X5 : Hid (Box3 W5 w.heap.size 29 (.int .i64 m.size) (.slice a m.doors.length c) (.slice b m.keys.length d)) := Lib.hid ((RE5.out.block _ (by omega) (by omega) (by omega)).trans X4.out)
      clear hb5 b5 O3 M3 R3 RE
      generalize wr.heap.size = g6 at *
      obtain ⟨c0, c1, c2⟩ := X5.out.cells
      obtain ⟨k0, k1⟩ := B5.out.cells
      have IW := Lib.hid (isWon_any W5 m a b c d v1 v12 x)
      have HXL := X5.out.lt
      have HBL := B5.out.lt
      have HWX : Hid (M.wonB m x = (x.1 == m.size - 1)) := Lib.hid rfl
      cases hw : M.wonB m x
      case' false =>
        have HFE : Hid ((A.take (k + 1)).filter (M.wonB m) = (A.take k).filter (M.wonB m)) := Lib.hid (by rw [HTK.out, List.filter_append, List.filter_cons_of_neg (by rw [hw]; decide)]; simp)
        rw [← HWX.out, hw] at IW
        clear hw
        go_wp2_with fail
        refine (IW.out).mono ?_
        rintro e w6 ⟨rfl, hb6⟩
        have hs6 := hb6.size
        have O6 : Hid (w6.ownsRow (w.heap.size + 1) 60 2 (.slice la ((A.take k).filter (M.wonB m)).length lc) ((A.take (k + 1)).filter (M.wonB m)).length (M.encSs ((A.take (k + 1)).filter (M.wonB m)))) := Lib.hid (by rw [HFE.out]; exact own_below O5.out hb6)
        have Z6 := Lib.hid Z3.out
        have D6 := Lib.hid D3.out
        have HV6 : Hid (∀ z, (Value.slice la ((A.take k).filter (M.wonB m)).length lc).ownBlock = some z → z < w6.heap.size) := Lib.hid (fun z hz => by have := HVL.out z hz; omega)
        have M6 := Lib.hid (M5.out.below hb6 M5.out.lt)
        have R6 := Lib.hid (R5.out.below hb6)
        have RE6 := Lib.hid (RE5.out.below hb6 (by omega))
        have B6 := Lib.hid (B5.out.below hb6)
        have X6 := Lib.hid (X5.out.below hb6)
        clear hb6 O5 M5 R5 RE5 B5 X5 IW Z3 D3 HVL HFE c0 c1 c2 k0 k1
        generalize Value.slice la ((A.take k).filter (M.wonB m)).length lc = v3 at *
        obtain ⟨c0, c1, c2⟩ := X6.out.cells
        obtain ⟨k0, k1⟩ := B6.out.cells
        go_wp2_with fail
      case' true =>
        have HFE : Hid ((A.take (k + 1)).filter (M.wonB m) = (A.take k).filter (M.wonB m) ++ [x]) := Lib.hid (by rw [HTK.out, List.filter_append, List.filter_cons_of_pos hw]; rfl)
        rw [← HWX.out, hw] at IW
        clear hw
        go_wp2_with fail
        refine (IW.out).mono ?_
        rintro e w7 ⟨rfl, hb7⟩
        have hs7 := hb7.size
        have O7 := Lib.hid (own_below O5.out hb7)
        have M7 := Lib.hid (M5.out.below hb7 M5.out.lt)
        have R7 := Lib.hid (R5.out.below hb7)
        have RE7 := Lib.hid (RE5.out.below hb7 (by omega))
        have B7 := Lib.hid (B5.out.below hb7)
        have X7 := Lib.hid (X5.out.below hb7)
        clear hb7 c0 c1 c2 k0 k1
        obtain ⟨k0, k1⟩ := B7.out.cells
        go_wp2_with (
          at_builtin
          refine wpList_append_lies _ rfl _ _ 86 rfl (w.heap.size + 1) 60 i0 (.agg #[.int .i64 0, .int .i64 0]) 2 16 Try.underlying86 hi0 hz0 hz1 hz2 rfl (by decide) (.slice la ((A.take k).filter (M.wonB m)).length lc) _ _ rfl (O7.out.alloc _) ⟨w7.heap.size, 0, none⟩ 1 1 [.int .i64 x.1, .int .i64 x.2] rfl rfl (newsS (Box2.new _ _ _ rfl)) (fun x hx => by simp at hx; rcases hx with rfl | rfl <;> rfl) (by decide) (by unfold maxLen; omega) (by omega) (by simp; omega) _ rfl ?_
          intro g8 c8 w6 hown8 hgrow8 hat8 hlt8
          have hs6 := hgrow8.size
          rw [World.size_alloc] at hs6 hat8
          have hzz := Z3.out
          have hvv := HVL.out
          have hdd := D3.out
          have O6 : Hid (w6.ownsRow (w.heap.size + 1) 60 2 (.slice (some ⟨g8, 0, none⟩) (((A.take k).filter (M.wonB m)).length + 1) c8) ((A.take (k + 1)).filter (M.wonB m)).length (M.encSs ((A.take (k + 1)).filter (M.wonB m)))) := Lib.hid (by rw [HFE.out, M.encSs_append, List.length_append]; exact hown8)
          have Z6 : Hid (∀ z, (Value.slice (some ⟨g8, 0, none⟩) (((A.take k).filter (M.wonB m)).length + 1) c8).ownBlock = some z → z = w.heap.size + 1 ∨ w4.heap.size ≤ z) := Lib.hid (fun z hz => by
            injection hz with hz
            subst hz
            rcases hat8 with h | h
            · exact hzz _ h
            · exact .inr (by show w4.heap.size ≤ g8; omega))
          have D6 : Hid (∀ t u, f t = some u → (Value.slice (some ⟨g8, 0, none⟩) (((A.take k).filter (M.wonB m)).length + 1) c8).ownBlock ≠ some u.1) := Lib.hid (fun t u hu e => by
            injection e with e
            have := HUL.out t u hu
            rcases hat8 with h | h
            · exact hdd t u hu (by rw [h]; exact congrArg some e)
            · have e' : g8 = u.1 := e
              omega)
          have HV6 : Hid (∀ z, (Value.slice (some ⟨g8, 0, none⟩) (((A.take k).filter (M.wonB m)).length + 1) c8).ownBlock = some z → z < w6.heap.size) := Lib.hid (fun z hz => by injection hz with hz; have hz' : g8 = z := hz; omega)
          have M6 := Lib.hid ((M7.out.below (below_alloc _ _) M7.out.lt).grown hgrow8 (fun e => by have := hzz _ e.symm; omega))
          have R6 := Lib.hid ((R7.out.alloc _).grown hgrow8 (fun t u hu => hdd t u hu))
          have RE6 := Lib.hid ((RE7.out.alloc _ (by omega)).grown hgrow8 (by simp; omega) hzz)
          have B6 := Lib.hid ((B7.out.alloc _).grown hgrow8 (fun e => by have := hvv _ e; omega))
          have X6 := Lib.hid ((X7.out.alloc _).grown hgrow8 (fun e => by have := hzz _ e; omega))
          clear hown8 hgrow8 hat8 hzz hvv hdd O5 M5 R5 RE5 B5 X5 IW Z3 D3 HVL HFE k0 k1 O7 M7 R7 RE7 B7 X7
          generalize Value.slice (some ⟨g8, 0, none⟩) (((A.take k).filter (M.wonB m)).length + 1) c8 = v3 at *
          obtain ⟨c0, c1, c2⟩ := X6.out.cells
          obtain ⟨k0, k1⟩ := B6.out.cells)
      all_goals
        have L6 := Lib.hid (L4.out.trans (RE6.out.toBelow (D := w.heap.size) (by omega) (by omega) (by omega)))
        have NS := Lib.hid (nextStates_any w6 lo hi m a b c d (H.out.below L6.out hz) (by have := L6.out.size; omega) HVA.out x HMx.out.1)
        refine (NS.out).mono ?_
        rintro e w9 ⟨a9, c9, rfl, ho9, hc9, hc9m, hb9⟩
        have hs9 := hb9.size
        have hg6 := B6.out.lt
        have T9 : Hid (RowIn g6 w9.heap.size w9 a9 (M.encSs (M.nexts m x))) := Lib.hid (ho9.row.mono (by omega) (Nat.le_refl _))
        have O9 := Lib.hid (own_below O6.out hb9)
        have M9 := Lib.hid (M6.out.below hb9 M6.out.lt)
        have R9 := Lib.hid (R6.out.below hb9)
        have RE9 := Lib.hid (RE6.out.below hb9 (by omega))
        have B9 := Lib.hid (B6.out.below hb9)
        have D9 : Hid (∀ t u, f t = some u → u.1 < g6 ∨ w9.heap.size ≤ u.1) := Lib.hid (fun t u hu => .inl (HUL.out t u hu))
        have hTl := M.nextsTo_len m x m.size.toNat
        have hTl' : (M.nexts m x).length ≤ 12 := by show (M.nextsTo m x m.size.toNat).length ≤ 12; omega
        have HIN := Lib.hid (fun t (ht : t ∈ M.nexts m x) => M.nexts_ok HVA.out HMx.out.1 ht)
        have HSU := Lib.hid (fun j (hj : j < (M.nexts m x).length) => M.befM_succ (m := m) (k := k) (x := x) hj)
        have HML := Lib.hid (M.befM_len m k x)
        clear hTl ho9 hb9 c0 c1 c2 k0 k1 O6 M6 R6 RE6 B6 X6 L6 NS
        go_wp2_with fail
        go_loopw [8, 29] (fun _ v29 ws => ∃ (j : Nat) (L' : List M.St) (f' : M.St → Option Cut), j ≤ (M.nexts m x).length ∧ v29 = .int .i64 (j : Int) ∧ MapC ws (w.heap.size + 1 + 1) L' f' ∧ (∀ s ∈ L', M.StOk m s) ∧ RowsC ws w4.heap.size f' (M.befM m k x j) ∧ (∀ t u, f' t = some u → u.1 < g6 ∨ w9.heap.size ≤ u.1) ∧ (∀ t u, f' t = some u → v3.ownBlock ≠ some u.1) ∧
          ws.ownsRow (w.heap.size + 1) 60 2 v3 ((A.take (k + 1)).filter (M.wonB m)).length (M.encSs ((A.take (k + 1)).filter (M.wonB m))) ∧ Box2 ws g6 60 (.int .i64 x.1) (.int .i64 x.2) ∧ RowIn g6 w9.heap.size ws a9 (M.encSs (M.nexts m x)) ∧ Rest w4.heap.size (w.heap.size + 1) (w.heap.size + 1 + 1) w4 ws ∧ w9.heap.size ≤ ws.heap.size) (fun _ v29 _ => (M.nexts m x).length - (intOf v29).toNat)
        case atStart => exact ⟨0, L, f, Nat.zero_le _, rfl, M9.out, L3.out, by rw [M.befM_zero]; exact R9.out, D9.out, D6.out, O9.out, B9.out, T9.out, RE9.out, Nat.le_refl _⟩
        case round =>
          obtain ⟨j, L', f', hj, rfl, hmj, hLj, hrj, hdj, hvj, hoj, hbj, htj, hej, hsj⟩ := hrel
          have MJ := Lib.hid hmj
          have LJ := Lib.hid hLj
          have RJ := Lib.hid hrj
          have DJ := Lib.hid hdj
          have VJ := Lib.hid hvj
          have OJ := Lib.hid hoj
          have BJ := Lib.hid hbj
          have TJ := Lib.hid htj
          have EJ := Lib.hid hej
          have hbl := hbj.lt
          have hml := hmj.lt
          clear hmj hLj hrj hdj hvj hoj hbj htj hej
          by_cases hjl : j < (M.nexts m x).length
          · obtain ⟨rb, roff, hra, hrb1, hrb2, hrc⟩ := TJ.out.at_ (k := j * 2) (by rw [M.encSs_len]; omega)
            subst hra
            have y0 := hrc _ _ (M.encSs_at0 hjl)
            have y1 : wr.cell? ⟨rb, roff + j * 2 + 1, none⟩ = _ := hrc _ _ (M.encSs_at1 hjl)
            have HSt := Lib.hid (HIN.out _ (List.getElem_mem hjl))
            have HT64 := Lib.hid (st64 HVA.out HSt.out)
            have HSJ := Lib.hid (HSU.out j hjl)
            have hrbl : rb < wr.heap.size := by omega
            clear hrc
            generalize (M.nexts m x)[j] = t at *
            go_upto_region 11 with fail
            refine wp_named ?_
            intro W1 hW1
            have hb1 : Below wr.heap.size wr W1 := by rw [hW1]; exact below_alloc _ _
            have b11 : Box2 W1 wr.heap.size 60 (.int .i64 t.1) (.int .i64 t.2) := by rw [hW1]; exact Box2.new _ _ _ rfl
            clear hW1 y0 y1
            have hs1 := hb1.size
            have hl1 := b11.lt
            have MK := Lib.hid (MJ.out.below hb1 hml)
            have RK := Lib.hid (RJ.out.below hb1)
            have OK := Lib.hid (own_below OJ.out hb1)
            have BK := Lib.hid (BJ.out.below hb1)
            have TK := Lib.hid (TJ.out.turned (Turned.of_below hb1 0 0) hsj (.inr (Nat.zero_le _)))
            have EK := Lib.hid (EJ.out.below hb1 (by omega))
            have pc : W1.cell? ⟨w.heap.size + 1 + 1 + 1, 0, none⟩ = some (.map (some (w.heap.size + 1 + 1))) := (EK.out.cell (p := ⟨w.heap.size + 1 + 1 + 1, 0, none⟩) (show w.heap.size + 1 + 1 + 1 < w4.heap.size by omega) (show w.heap.size + 1 + 1 + 1 ≠ w.heap.size + 1 by omega) (show w.heap.size + 1 + 1 + 1 ≠ w.heap.size + 1 + 1 by omega)).trans P4.out
            obtain ⟨t0, t1⟩ := b11.cells
            obtain ⟨k0, k1⟩ := BK.out.cells
            have hLfew := M.st_few MK.out.nodup LJ.out
            have hbf := HML.out j t
            clear hb1 b11 MJ RJ OJ BJ TJ EJ
            obtain ⟨r, hr⟩ : ∃ r, cutO (f' t) = r := ⟨_, rfl⟩
            have HR := Lib.hid hr
            have HRB : Hid (∀ z, r.ownBlock = some z → w4.heap.size ≤ z ∧ z < W1.heap.size) := Lib.hid (fun z hz => by
              obtain ⟨u, hu, rfl⟩ := cut_block hr hz
              exact RK.out.base hu)
            have hsw : w4.heap.size + 1 ≤ W1.heap.size := by have := EK.out.size; omega
            clear hr
            go_wp2_with (first
              | (refine wpList_entryC rfl _ _ rfl (w.heap.size + 1 + 1) _ _ rfl (MK.out.below (below_alloc _ _) MK.out.lt) t HT64.out (by unfold maxLen; omega) rfl r HR.out ?_
                 intro st w2 tb2 hs2 HST2
                 rw [World.size_alloc] at hs2
                 have R2 := Lib.hid ((RK.out.alloc (.cells #[.int .i64 x.1, .int .i64 x.2] 60)).turned tb2 (by omega))
                 have HRO : Hid (w2.ownsRow w4.heap.size 60 2 r (M.befM m k x j t).length (M.encSs (M.befM m k x j t))) := Lib.hid (by rw [← HR.out]; exact R2.out.at_ t)
                 have HST := Lib.hid HST2
                 have HTB := Lib.hid tb2
                 clear HST2 tb2)
              | (at_builtin
                 refine wpList_append_lies _ rfl _ _ 86 rfl w4.heap.size 60 i0 (.agg #[.int .i64 0, .int .i64 0]) 2 16 Try.underlying86 hi0 hz0 hz1 hz2 rfl (by decide) r _ _ rfl HRO.out ⟨W1.heap.size, 0, none⟩ 1 1 [.int .i64 x.1, .int .i64 x.2] rfl rfl (newsS ((Box2.new _ _ _ rfl).turned HTB.out (.inr (by omega)))) (fun x hx => by simp at hx; rcases hx with rfl | rfl <;> rfl) (by decide) (by unfold maxLen; omega) (by omega) (by omega) _ rfl ?_
                 intro g7 c7 w7 hown7 hgrow7 hat7 hlt7
                 obtain ⟨w8, hrun8, m8, tb8, hs8⟩ := HST.out w7 (g7, (M.befM m k x j t).length + 1, c7) (hgrow7.block _ (by omega) (fun e => by have := HRB.out _ e.symm; omega))
                 have M8 := Lib.hid m8
                 have TB8 := Lib.hid tb8
                 have OW7 := Lib.hid hown7
                 have GR7 := Lib.hid hgrow7
                 have AT7 := Lib.hid hat7
                 have hsz7 := hgrow7.size
                 clear m8 tb8 hown7 hgrow7 hat7)
              | (refine wpList_entryPut rfl _ _ _ rfl (w.heap.size + 1 + 1) st _ w8 rfl rfl rfl hrun8 ?_))
            go_roundw
            case rel =>
              have CH := Chg.of (below_alloc W1 (.cells #[.int .i64 x.1, .int .i64 x.2] 60)) HTB.out GR7.out TB8.out
              have hrz : ∀ z, r.ownBlock = some z → (z < g6 ∨ w9.heap.size ≤ z) ∧ v3.ownBlock ≠ some z := fun z hz => by
                obtain ⟨u, hu, rfl⟩ := cut_block HR.out hz
                exact ⟨DJ.out t u hu, VJ.out t u hu⟩
              have hl : (M.befM m k x j t ++ [x]).length = (M.befM m k x j t).length + 1 := by rw [List.length_append]; rfl
              have hat : ∀ s u, updC f' t (g7, (M.befM m k x j t).length + 1, c7) s = some u → f' s = some u ∨ (u.1 = g7 ∧ (r.ownBlock = some g7 ∨ g7 = w2.heap.size)) := fun s u hu => by
                by_cases e : s = t
                · subst e
                  rw [updC_same] at hu
                  injection hu with hu
                  subst hu
                  exact .inr ⟨rfl, AT7.out⟩
                · rw [updC_other _ _ e] at hu
                  exact .inl hu
              refine ⟨j + 1, addK L' t, updC f' t (g7, (M.befM m k x j t).length + 1, c7), by omega, by go_num, M8.out, addK_ok LJ.out HSt.out, ?_, fun s u hu => ?_, fun s u hu => ?_, CH.own OK.out (fun e => by have := Z6.out _ e; omega) (fun z hz => (hrz z hz).2), CH.box2 BK.out (by omega) (fun e => by have := (hrz _ e).1; omega), CH.rowIn TK.out (by omega) (by omega) (fun z hz => (hrz z hz).1), CH.rest EK.out (by omega) (fun z hz => .inr (HRB.out z hz).1), by omega⟩
              · rw [HSJ.out]
                refine RowsC.turned (RowsC.put R2.out (by rw [HR.out]; exact GR7.out) hl.symm ?_ (by rw [HR.out]; rcases AT7.out with e | e; exact .inl e; exact .inr (by show w2.heap.size ≤ g7; omega))) TB8.out (by omega)
                rw [M.encSs_append, hl]
                exact OW7.out
              · rcases hat s u hu with h | ⟨h, h2⟩
                · exact DJ.out s u h
                · rw [h]
                  rcases h2 with h2 | h2
                  · exact (hrz _ h2).1
                  · right; omega
              · rcases hat s u hu with h | ⟨h, h2⟩
                · exact VJ.out s u h
                · rw [h]
                  rcases h2 with h2 | h2
                  · exact (hrz _ h2).2
                  · intro e
                    have := HV6.out _ e
                    omega
            case measure => simp [intOf]; omega
          · obtain rfl : j = (M.nexts m x).length := by omega
            have hrj := RJ.out
            rw [HBX.out] at hrj
            have RX := Lib.hid hrj
            clear hrj
            go_wp2_with fail
            go_roundw
            case rel => exact ⟨k + 1, L', f', by omega, by go_num, OJ.out, Z6.out, MJ.out, LJ.out, RX.out, VJ.out, EJ.out⟩
            case measure => simp [intOf]; omega
    · obtain rfl : k = A.length := by omega
      have hr3 := R3.out
      rw [HBK.out] at hr3
      have o3 := O3.out
      rw [List.take_length, ← HWL.out] at o3
      rw [List.take_length, ← HWL.out]
      have L6 := Lib.hid (L4.out.trans (RE.out.toBelow (D := w.heap.size) (by omega) (by omega) (by omega)))
      have pc : wr.cell? ⟨w.heap.size + 1 + 1 + 1, 0, none⟩ = some (.map (some (w.heap.size + 1 + 1))) := (RE.out.cell (p := ⟨w.heap.size + 1 + 1 + 1, 0, none⟩) (show w.heap.size + 1 + 1 + 1 < w4.heap.size by omega) (show w.heap.size + 1 + 1 + 1 ≠ w.heap.size + 1 by omega) (show w.heap.size + 1 + 1 + 1 ≠ w.heap.size + 1 + 1 by omega)).trans P4.out
      have NB := remBack_any wr w4.heap.size (w.heap.size + 1 + 1) (w.heap.size + 1 + 1 + 1) L f (M.preds m) M3.out hr3 pc (by omega) m HVA.out
      have hrow : RowIn (w.heap.size + 1) wr.heap.size wr la (M.encSs (M.wonL m)) := by
        have := OwnQ.row (OwnQ.of_own o3) (a := la) (c := lc) rfl
        exact this
      have HL := leastSteps_any 103 #[] #[.pointer (some ⟨w.heap.size + 1 + 1 + 1, 0, none⟩)] (enters_of Try.func103 (by kernel_rfl) rfl) (M.preds m) (M.StOk m) wr _ _ la lc (M.wonL m) hrow (Nat.le_refl _) (M.preds_steps HVA.out) NB
      have HL1 := Lib.hid HL
      clear hr3 o3 pc NB hrow HL
      go_wp2_with fail
      refine (HL1.out).mono ?_
      rintro e w7 ⟨b2, L2, rfl, hb2, hm2, hL2, hbw⟩
      have H2 := Lib.hid hm2
      have HB2 := Lib.hid (L6.out.trans (hbw.mono L6.out.size))
      have hl6 := L6.out.size
      clear hm2 hbw
      go_wp2_with fail
      go_ret
      exact ⟨b2, L2, rfl, by omega, H2.out, hL2, HB2.out⟩
end C
end Go.Proofs.Ytbpinhfjfjfbdaa
namespace Go.Proofs.Ytbpinhfjfjfbdaa
open Go.RowKit
namespace C
set_option maxHeartbeats 3200000
set_option maxRecDepth 20000
theorem some_le {B g : Nat} (h : B + 1 ≤ g) : ∀ z, some g = some z → B ≤ z := fun z hz => by injection hz with hz; omega
theorem implRemT_lw (w : World) (lo hi : Nat) (m : M.Mz) (a b : Option Addr) (c d : Nat) (h : MzIn lo hi w m a c b d) (hz : hi ≤ w.heap.size) (_h1 : m.doors.length ≤ 1048576) (_h2 : m.keys.length ≤ 1048576) :
    Calls Try.prog 33 #[.agg #[.int .i64 m.size, .slice a m.doors.length c, .slice b m.keys.length d]] w (IntssOkPost w (M.remTV m) (M.mazeB m)) := by
  obtain ⟨ii0, hi0, hz0, hzz1, hz2⟩ := info_parts infoI
  obtain ⟨tt0, ti0, tz0, tzz1, tz2⟩ := info_parts infoII
  have H := Lib.hid h
  clear h
  go_enter Try.func33, Try.ntmps33
  go_upto_region 1 with fail
  refine wp_named ?_
  intro W hW
  have hb : Below w.heap.size w W := by rw [hW]; exact below_alloc _ _
  have x1 : Box3 W w.heap.size 29 (.int .i64 m.size) (.slice a m.doors.length c) (.slice b m.keys.length d) := by rw [hW]; exact Box3.new _ _ _ _ rfl
  clear hW
  have hzw := hb.size
  have hxl := x1.lt
  obtain ⟨c0, c1, c2⟩ := x1.cells
  have HIM := Lib.hid (isMaze_any W lo hi m a b c d (H.out.below hb hz) (by omega))
  go_wp2_with fail
  refine (HIM.out).mono ?_
  rintro e w1 ⟨rfl, hb1⟩
  have X1 := Lib.hid (x1.below hb1)
  have HB1 := Lib.hid (hb.trans (hb1.mono hzw))
  have hz1 := hb1.size
  clear hb hb1 x1 c0 c1 c2
  cases q0 : M.mazeB m with
  | false =>
    have HF : Hid (M.remTV m = []) := Lib.hid (by unfold M.remTV; rw [q0]; rfl)
    have HM := Lib.hid q0
    clear q0
    have hl1 := HB1.out.size
    go_wp2_with fail
    go_ret2
    rw [HF.out, HM.out]
    exact intssOk_end (ll := []) (V := []) (RowsT.nil _ _) (ownsRow_empty w1 w.heap.size 23 1 hl1) (fun _ h => (by cases h)) (HB1.out.alloc hl1 _)
  | true =>
    have HVA := Lib.hid (M.valid_of q0)
    have v1 := HVA.out.size1
    have v12 := HVA.out.size12
    obtain ⟨n, hn'⟩ : ∃ n : Nat, (n : Int) = m.size := ⟨m.size.toNat, by omega⟩
    have hn12 : n ≤ 12 := by omega
    have HF : Hid (M.remTV m = M.remTo m n) := Lib.hid (by unfold M.remTV; rw [if_pos q0]; congr 1; omega)
    have HM := Lib.hid q0
    have HN := Lib.hid hn'
    clear q0 hn'
    have RM := Lib.hid (remaining_any w1 lo hi m a b c d (H.out.below HB1.out hz) (by have := HB1.out.size; omega) HVA.out)
    obtain ⟨c0, c1, c2⟩ := X1.out.cells
    go_wp2_with fail
    refine (RM.out).mono ?_
    rintro e w2 ⟨mb, L, rfl, hmb, hmp, hLl, hb2⟩
    have hs2 := hb2.size
    have hml := hmp.lt
    have X2 := Lib.hid (X1.out.below hb2)
    have B2 := Lib.hid (HB1.out.trans (hb2.mono (by omega)))
    have X3 := Lib.hid (X2.out.alloc (.cells #[] 23))
    have M3 := Lib.hid (hmp.below (below_alloc w2 (.cells #[] 23)) hml)
    have B3 := Lib.hid (B2.out.alloc (by omega) (.cells #[] 23))
    have O3 := Lib.hid (ownsRow_empty w2 (w.heap.size + 1) 23 1 (by omega))
    clear hmp hb2 c0 c1 c2 RM
    obtain ⟨c0, c1, c2⟩ := X3.out.cells
    rw [← HN.out] at c0
    go_wp2_with fail
    go_loopw [5, 6, 7, 8, 9, 10, 20, 24] (fun v5 _ _ _ _ _ v20 _ wr => ∃ (k g5 c5 : Nat) (V : List Sl), k ≤ n ∧ v20 = .int .i64 (k : Int) ∧ v5 = .slice (some ⟨g5, 0, none⟩) k c5 ∧ wr.ownsRow (w.heap.size + 1) 23 1 v5 k (V.map slV) ∧ RowsT (w.heap.size + 1) wr V (M.remTo m k) ∧ (∀ u ∈ V, g5 ≠ u.1) ∧
      MapP wr mb L (M.remF m) ∧ Box3 wr w.heap.size 29 (.int .i64 m.size) (.slice a m.doors.length c) (.slice b m.keys.length d) ∧ Below w.heap.size w wr) (fun _ _ _ _ _ _ v20 _ _ => n - (intOf v20).toNat)
    case atStart => exact ⟨0, w2.heap.size, 0, [], Nat.zero_le _, rfl, rfl, O3.out, RowsT.nil _ _, fun _ h => (by cases h), M3.out, X3.out, B3.out⟩
    case round =>
      obtain ⟨k, g5, c5, V, hk, rfl, rfl, ho, hr, hd, hm, hx, hlow⟩ := hrel
      have OO := Lib.hid ho
      have RR := Lib.hid hr
      have DD := Lib.hid hd
      have MM := Lib.hid hm
      have XX := Lib.hid hx
      have LL := Lib.hid hlow
      have hzr := hlow.size
      have hxl9 := hx.lt
      clear ho hr hd hm hx hlow
      by_cases hkl : k < n
      · have OI := Lib.hid (ownsRow_empty wr (w.heap.size + 1) 3 1 (by omega))
        have O4 := Lib.hid (OO.out.alloc (.cells #[] 3))
        have R4 := Lib.hid (RR.out.alloc (.cells #[] 3))
        have M4 := Lib.hid (MM.out.below (below_alloc wr (.cells #[] 3)) MM.out.lt)
        have X4 := Lib.hid (XX.out.alloc (.cells #[] 3))
        have L4 := Lib.hid (LL.out.alloc (by omega) (.cells #[] 3))
        have D4 : Hid (∀ u ∈ V, wr.heap.size ≠ u.1) := Lib.hid (fun u hu e => by have := (RR.out.baseM hu).2; omega)
        clear RR MM XX LL
        go_wp2_with fail
        go_loopw [7, 8, 9, 10, 24] (fun v7 _ _ _ v24 ws => ∃ (j g7 c7 : Nat), j ≤ 64 ∧ v24 = .int .i64 (j : Int) ∧ v7 = .slice (some ⟨g7, 0, none⟩) j c7 ∧ ws.ownsRow (w.heap.size + 1) 3 1 v7 j (M.encIs (M.rowTo m k j)) ∧ (∀ u ∈ V, g7 ≠ u.1) ∧ ws.ownsRow (w.heap.size + 1) 23 1 (.slice (some ⟨g5, 0, none⟩) k c5) k (V.map slV) ∧ RowsT (w.heap.size + 1) ws V (M.remTo m k) ∧
          MapP ws mb L (M.remF m) ∧ Box3 ws w.heap.size 29 (.int .i64 m.size) (.slice a m.doors.length c) (.slice b m.keys.length d) ∧ Below w.heap.size w ws) (fun _ _ _ _ v24 _ => 64 - (intOf v24).toNat)
        case atStart => exact ⟨0, wr.heap.size, 0, Nat.zero_le _, rfl, rfl, OI.out, D4.out, O4.out, R4.out, M4.out, X4.out, L4.out⟩
        case round =>
          obtain ⟨j, g7, c7, hj, rfl, rfl, ho7, hd7, ho5, hr, hm, hx, hlow⟩ := hrel
          have O7 := Lib.hid ho7
          have D7 := Lib.hid hd7
          have O5 := Lib.hid ho5
          have RR := Lib.hid hr
          have MM := Lib.hid hm
          have XX := Lib.hid hx
          have LL := Lib.hid hlow
          have hzs := hlow.size
          have hml9 := hm.lt
          clear ho7 hd7 ho5 hr hm hx hlow
          by_cases hjl : j < 64
          · obtain ⟨c0, c1, c2⟩ := XX.out.cells
            have hkm : (k : Int) < m.size := by have := HN.out; omega
            have SA := Lib.hid (stateAt_any wr lo hi m a b c d (H.out.below LL.out hz) (by omega) HVA.out (k : Int) (j : Int) (by omega) hkm)
            have HSO : Hid (M.StOk m ((k : Int), (j : Int))) := Lib.hid ⟨by show (0 : Int) ≤ (k : Int); omega, hkm, by show (0 : Int) ≤ (j : Int); omega, by show (j : Int) < 64; omega⟩
            have HMT := Lib.hid (M.met_at HVA.out HSO.out)
            have HRE : Hid (M.remF m (M.stAt m (k : Int) (j : Int)) = M.remO m ((k : Int), (j : Int))) := Lib.hid (M.remF_met HVA.out HMT.out)
            have H64 : Hid (St64 (M.stAt m (k : Int) (j : Int))) := Lib.hid (st64 HVA.out HMT.out.1)
            have HSU := Lib.hid (M.rowTo_succ m k j)
            have HLN := Lib.hid (M.rowTo_len m k j)
            generalize M.stAt m (k : Int) (j : Int) = t at *
            generalize M.remO m ((k : Int), (j : Int)) = r at *
            go_wp2_with fail
            refine (SA.out).mono ?_
            rintro e w5 ⟨rfl, hb5⟩
            have hs5 := hb5.size
            have O7b := Lib.hid (own_below O7.out hb5)
            have O5b := Lib.hid (own_below O5.out hb5)
            have R5 := Lib.hid (RR.out.below hb5)
            have M5 := Lib.hid (MM.out.below hb5 hml9)
            have X5 := Lib.hid (XX.out.below hb5)
            have L5 := Lib.hid (LL.out.trans (hb5.mono hzs))
            clear hb5 c0 c1 c2
            go_wp2_with (refine wpList_lookS rfl _ _ rfl mb _ _ rfl M5.out t H64.out r HRE.out rfl ?_)
            refine (stepsOrNone_any r _).mono ?_
            rintro e w6 ⟨rfl, rfl⟩
            have HNM : Hid ((Value.slice (some ⟨g7, 0, none⟩) j c7).ownBlock ≠ some mb) := Lib.hid (OwnQ.ne (OwnQ.of_own O7b.out) fun cur f => M5.out.block cur _ f)
            have HNX := Lib.hid (own_ne_box O7b.out X5.out (by decide))
            have HNO := Lib.hid (own_ne_own2 O7b.out O5b.out (by decide))
            go_wp2_with (at_builtin; refine wpList_append_lies _ rfl _ _ 23 rfl (w.heap.size + 1) 3 ii0 (.int .i64 0) 1 8 Try.underlying23 hi0 hz0 hzz1 hz2 rfl (by decide) (.slice (some ⟨g7, 0, none⟩) j c7) _ _ rfl (O7b.out.alloc _) ⟨w5.heap.size, 0, none⟩ 1 1 [.int .i64 (M.optI r)] rfl rfl (cell_one_new _ _ _) (fun x hx => by simp at hx; subst hx; rfl) (by decide) (by unfold maxLen; omega) (by omega) (by simp; omega) _ rfl ?_; intro g8 c8 w8 hown8 hgrow8 hat8 hlt8)
            go_roundw
            case rel =>
              have hs8 := hgrow8.size
              rw [World.size_alloc] at hs8 hat8
              have hd7 := D7.out
              have hob : (Value.slice (some ⟨g7, 0, none⟩) j c7).ownBlock = some g7 := rfl
              have hg7 : w.heap.size + 1 ≤ g7 := (O7b.out.lt _ rfl).1
              rw [hob] at hat8
              refine ⟨j + 1, g8, c8, by omega, by go_num, rfl, ?_, fun u hu => ?_, (O5b.out.alloc _).kept hgrow8 HNO.out, (R5.out.alloc _).grown hgrow8 (fun u hu e => hd7 u hu (by injection e)), (M5.out.below (below_alloc _ _) M5.out.lt).grown hgrow8 (fun e => HNM.out e.symm), (X5.out.alloc _).grown hgrow8 HNX.out, (L5.out.alloc (by omega) _).grown hgrow8 (by simp; omega) (some_le hg7)⟩
              · rw [HSU.out, M.encIs_append]
                exact hown8
              · rcases hat8 with e | e
                · have e' : g7 = g8 := by injection e
                  rw [← e']
                  exact hd7 u hu
                · have := (R5.out.baseM hu).2
                  omega
            case measure => simp [intOf]; omega
          · obtain rfl : j = 64 := by omega
            have HST := Lib.hid (M.remTo_succ m k)
            have HNO := Lib.hid (own_ne_own O7.out O5.out (by decide))
            have HNX := Lib.hid (own_ne_box O5.out XX.out (by decide))
            have HNM : Hid ((Value.slice (some ⟨g5, 0, none⟩) k c5).ownBlock ≠ some mb) := Lib.hid (OwnQ.ne (OwnQ.of_own O5.out) fun cur f => MM.out.block cur _ f)
            go_wp2_with (at_builtin; refine wpList_append_lies _ rfl _ _ 38 rfl (w.heap.size + 1) 23 tt0 (.slice none 0 0) 1 24 Try.underlying38 ti0 tz0 tzz1 tz2 rfl (by decide) (.slice (some ⟨g5, 0, none⟩) k c5) _ _ rfl (O5.out.alloc _) ⟨wr.heap.size, 0, none⟩ 1 1 [.slice (some ⟨g7, 0, none⟩) 64 c7] rfl rfl (cell_one_new _ _ _) (fun x hx => by simp at hx; subst hx; rfl) (by decide) (by unfold maxLen; omega) (by omega) (by simp; omega) _ rfl ?_; intro g8 c8 w8 hown8 hgrow8 hat8 hlt8)
            go_roundw
            case rel =>
              have hs8 := hgrow8.size
              rw [World.size_alloc] at hs8 hat8
              have hdd := DD.out
              have hd7 := D7.out
              have hob : (Value.slice (some ⟨g5, 0, none⟩) k c5).ownBlock = some g5 := rfl
              have hg5 : w.heap.size + 1 ≤ g5 := (O5.out.lt _ rfl).1
              have hg7 : w.heap.size + 1 ≤ g7 ∧ g7 < wr.heap.size := O7.out.lt _ rfl
              have h57 : g5 ≠ g7 := fun e => by
                rcases HNO.out with h | h
                · cases h
                · exact h (by show some g7 = some g5; rw [e])
              rw [hob] at hat8
              have hg8 : ∀ u ∈ V, g8 ≠ u.1 := fun u hu => by
                rcases hat8 with e | e
                · have e' : g5 = g8 := by injection e
                  rw [← e']
                  exact hdd u hu
                · have := (RR.out.baseM hu).2
                  omega
              have R8 := (RR.out.alloc (.cells #[.slice (some ⟨g7, 0, none⟩) 64 c7] 23)).grown hgrow8 (fun u hu e => hdd u hu (by injection e))
              have O8 := (O7.out.alloc (.cells #[.slice (some ⟨g7, 0, none⟩) 64 c7] 23)).kept hgrow8 (.inr (fun e => h57 (by injection e with e; exact e.symm)))
              refine ⟨k + 1, g8, c8, V ++ [(g7, 64, c7)], by omega, by go_num, rfl, ?_, ?_, fun u hu => ?_, (MM.out.below (below_alloc _ _) MM.out.lt).grown hgrow8 (fun e => HNM.out e.symm), (XX.out.alloc _).grown hgrow8 HNX.out, (LL.out.alloc (by omega) _).grown hgrow8 (by simp; omega) (some_le hg5)⟩
              · rw [List.map_append]
                exact hown8
              · rw [HST.out]
                refine R8.push (by rw [M.rowTo_len]) (by rw [M.rowTo_len]; exact O8) (fun v hv e => hd7 v hv e.symm)
              · rw [List.mem_append, List.mem_singleton] at hu
                rcases hu with hu | rfl
                · exact hg8 u hu
                · show g8 ≠ g7
                  rcases hat8 with e | e
                  · have e' : g5 = g8 := by injection e
                    omega
                  · omega
            case measure => simp [intOf]; omega
      · obtain rfl : k = n := by omega
        go_wp2_with fail
        go_ret2
        rw [HF.out, HM.out]
        refine intssOk_end (V := V) ?_ (by rw [M.remTo_len]; exact own_weak OO.out (by omega)) (fun u hu e => DD.out u hu (by injection e)) LL.out
        exact ⟨RR.out.len, fun i u l hu hl => ⟨(RR.out.row i u l hu hl).1, own_weak (RR.out.row i u l hu hl).2 (by omega)⟩, RR.out.apart⟩
end C
end Go.Proofs.Ytbpinhfjfjfbdaa
