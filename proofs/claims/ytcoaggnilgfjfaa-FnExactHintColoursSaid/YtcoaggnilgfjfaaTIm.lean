/-
  CONTRACT of impl's allStates: all states with the keys of their nodes, in a new list; what lay in memory stays. Condition: a valid maze.
  CONTRACT of impl's remaining: a map of the least numbers of steps in which one can win, for each state; what lay in memory stays. Condition: a valid maze.
  CONTRACTS of impl's nearer, firstWayFrom, FirstWay; what lay in memory stays. No condition but that the maze reads so (for the first two: a valid maze and a state as it is met).
-/
import Derived.Test.YtcoaggnilgfjfaaTMath
import Derived.Test.YtcoaggnilgfjfaaUReach
import Derived.Test.YtcoaggnilgfjfaaTMapQ
import Derived.IntWalk
import Derived.Carry
import Derived.Test.YtcoaggnilgfjfaaTDel
import Derived.Test.YtcoaggnilgfjfaaWayI
import Derived.Test.YtcoaggnilgfjfaaLate
import Derived.Test.YtcoaggnilgfjfaaStep
import Derived.Test.YtcoaggnilgfjfaaUValid
namespace Go.Proofs.Ytcoaggnilgfjfaa
open Go.RowKit
namespace C
set_option maxHeartbeats 3200000
set_option maxRecDepth 20000
theorem allStates_any (w : World) (lo hi : Nat) (m : M.Mz) (a b : Option Addr) (c d : Nat) (h : MzIn lo hi w m a c b d) (hz : hi ≤ w.heap.size) (V : M.Valid m) :
    Calls Try.prog 151 #[.agg #[.int .i64 m.size, .slice a m.doors.length c, .slice b m.keys.length d]] w (StsPost w (M.allSt m)) := by
  obtain ⟨i0, hi0, hz0, hz1, hz2⟩ := info_parts infoS
  have H := Lib.hid h
  have v12 := V.size12
  have v1 := V.size1
  have vk := V.keysLen
  obtain ⟨n, hn⟩ : ∃ n : Nat, n = m.keys.length := ⟨_, rfl⟩
  have HN : Hid (M.allSt m = M.allTo m (n * 64)) := Lib.hid (by unfold M.allSt M.size64; rw [hn]; congr 2; omega)
  have HNK := Lib.hid hn
  have hn12 : n ≤ 12 := by omega
  have hnd : n ≤ d := by have := h.d1; omega
  clear h V v1 v12 vk
  rw [← hn]
  clear hn
  go_enter Try.func151, Try.ntmps151
  go_upto_region 2 with fail
  refine wp_named ?_
  intro W hW
  have hb : Below w.heap.size w W := by rw [hW]; exact (below_alloc _ _).alloc (by simp) _
  have x1 : Box3 W w.heap.size 29 (.int .i64 m.size) (.slice a m.doors.length c) (.slice b n d) := by rw [hW]; exact (Box3.new _ _ _ _ rfl).alloc _
  have o1 : W.ownsRow (w.heap.size + 1) 65 2 (.slice (some ⟨w.heap.size + 1, 0, none⟩) 0 0) 0 (M.encSs (M.allTo m 0)) := by
    rw [hW]
    have := ownsRow_empty (w.alloc (.cells #[.int .i64 m.size, .slice a m.doors.length c, .slice b n d] 29)) (w.heap.size + 1) 65 2 (by simp)
    rw [World.size_alloc] at this
    exact this
  clear hW
  obtain ⟨c0, c1, c2⟩ := x1.cells
  have O1 := Lib.hid o1
  have HB := Lib.hid hb
  clear x1 o1 hb
  go_wp2_with fail
  go_loopw [3, 4, 5, 6, 11, 16] (fun v3 _ _ _ v11 _ wr => ∃ (k : Nat), k ≤ n ∧ v11 = .int .i64 (k : Int) ∧ wr.ownsRow (w.heap.size + 1) 65 2 v3 (M.allTo m (k * 64)).length (M.encSs (M.allTo m (k * 64))) ∧ Below w.heap.size w wr) (fun _ _ _ _ v11 _ _ => n - (intOf v11).toNat)
  case atStart => exact ⟨0, Nat.zero_le _, rfl, O1.out, HB.out⟩
  case round =>
    obtain ⟨k, hk, rfl, hso, hlow⟩ := hrel
    have SO := Lib.hid hso
    have LO := Lib.hid hlow
    have hzr := hlow.size
    clear hso hlow
    by_cases hkl : k < n
    · have hkk : k < m.keys.length := by have := HNK.out; omega
      obtain ⟨kb, koff, hkb, _, hkbl, hkc⟩ := (H.out.below LO.out hz).keys.at_ (k := k) (by rw [M.encIs_len]; omega)
      subst hkb
      have kx := hkc _ _ (M.encIs_at hkk)
      rw [← M.keyAt_eq hkk] at kx
      have HKY : Hid (∀ j : Nat, j < 64 → M.unid (k * 64 + j) = ((k : Int), (j : Int))) := Lib.hid fun j hj => M.unid_at k j hj
      have HYES := Lib.hid (fun (j : Nat) (hj : j < 64) (hh : M.hasB (j : Int) (M.keyAt m (k : Int)) = true) => show M.allTo m (k * 64 + (j + 1)) = M.allTo m (k * 64 + j) ++ [((k : Int), (j : Int))] by
        rw [← HKY.out j hj]
        exact M.allTo_yes (k := k * 64 + j) (by rw [HKY.out j hj]; exact hh))
      have HNO := Lib.hid (fun (j : Nat) (hj : j < 64) (hh : M.hasB (j : Int) (M.keyAt m (k : Int)) = false) => show M.allTo m (k * 64 + (j + 1)) = M.allTo m (k * 64 + j) from M.allTo_no (k := k * 64 + j) (by rw [HKY.out j hj]; exact hh))
      clear hkc HKY
      generalize M.keyAt m (k : Int) = ky at *
      go_wp2_with fail
      go_loopw [3, 6, 16] (fun v3 _ v16 wr => ∃ (j : Nat), j ≤ 64 ∧ v16 = .int .i64 (j : Int) ∧ wr.ownsRow (w.heap.size + 1) 65 2 v3 (M.allTo m (k * 64 + j)).length (M.encSs (M.allTo m (k * 64 + j))) ∧ Below w.heap.size w wr) (fun _ _ v16 _ => 64 - (intOf v16).toNat)
      case atStart => exact ⟨0, Nat.zero_le _, rfl, SO.out, LO.out⟩
      case round =>
        obtain ⟨j, hj, rfl, hso, hlow⟩ := hrel
        obtain ⟨la, lc, hv, hl1, hl2, _⟩ := own_slice hso
        subst hv
        have SO := Lib.hid hso
        have LO := Lib.hid hlow
        have hzr := hlow.size
        have hll := M.allTo_len m (k * 64 + j)
        clear hso hlow
        by_cases hjl : j < 64
        · cases hh : M.hasB (j : Int) ky with
          | false =>
            have HE := Lib.hid (HNO.out j hjl hh)
            have HH := Lib.hid hh
            clear hh
            go_wp2_with fail
            refine (hasAll_any _ _ _).mono ?_
            rintro e w2 ⟨rfl, rfl⟩
            rw [HH.out]
            go_wp2_with fail
            go_roundw
            case rel => exact ⟨j + 1, by omega, by go_num, by rw [HE.out]; exact SO.out, LO.out⟩
            case measure => simp [intOf]; omega
          | true =>
            have HE := Lib.hid (HYES.out j hjl hh)
            have HH := Lib.hid hh
            clear hh
            go_wp2_with fail
            refine (hasAll_any _ _ _).mono ?_
            rintro e w2 ⟨rfl, rfl⟩
            rw [HH.out]
            go_wp2_with (at_builtin; refine wpList_append_own _ rfl _ _ 110 rfl (w.heap.size + 1) 65 i0 (.agg #[.int .i64 0, .int .i64 0]) 2 16 Try.underlying110 hi0 hz0 hz1 hz2 rfl (by decide) _ _ _ rfl (SO.out.alloc _) ⟨wr.heap.size, 0, none⟩ 1 1 [.int .i64 (k : Int), .int .i64 (j : Int)] rfl rfl (newsS (Box2.new _ _ _ rfl)) (fun x hx => by simp at hx; rcases hx with rfl | rfl <;> rfl) (by unfold maxLen; omega) (by omega) (by simp; omega) ?_; intro v' w7 hown' hgrow7 hnil7)
            go_roundw
            case rel =>
              refine ⟨j + 1, by omega, by go_num, ?_, (LO.out.alloc (by omega) _).grown hgrow7 (by simp; omega) (fun j hj => by have := own_base SO.out j hj; omega)⟩
              rw [HE.out, M.encSs_append, List.length_append]
              exact hown'
            case measure => simp [intOf]; omega
        · obtain rfl : j = 64 := by omega
          have HE : Hid ((k + 1) * 64 = k * 64 + 64) := Lib.hid (by omega)
          go_wp2_with fail
          go_roundw
          case rel => exact ⟨k + 1, by omega, by go_num, by rw [HE.out]; exact SO.out, LO.out⟩
          case measure => simp [intOf]; omega
    · obtain rfl : k = n := by omega
      go_wp2_with fail
      go_ret
      rw [HN.out]
      exact sts_end SO.out (by omega) rfl LO.out
end C
end Go.Proofs.Ytcoaggnilgfjfaa
namespace Go.Proofs.Ytcoaggnilgfjfaa
open Go.RowKit
namespace M
theorem st_few {m : Mz} {L : List St} (h : L.Nodup) (hS : ∀ s ∈ L, StOk m s) : L.length ≤ size64 m := by
  have := nodup_len (n := size64 m) (l := L.map fun s => ((idN s : Nat) : Int)) (by
    rw [List.nodup_iff_pairwise_ne, List.pairwise_map]
    refine List.Pairwise.imp_of_mem (fun {a b} ha hb hab e => hab ?_) h
    have e' : idN a = idN b := by omega
    rw [← unid_idN (hS a ha), ← unid_idN (hS b hb), e']) (fun z hz => by
    obtain ⟨s, hs, rfl⟩ := List.mem_map.1 hz
    have := idN_lt (hS s hs)
    unfold size64
    constructor <;> omega)
  rwa [List.length_map] at this
end M
namespace C
set_option maxHeartbeats 3200000
set_option maxRecDepth 20000
theorem MapC.nodup {w : World} {b : Nat} {L : List M.St} {f : M.St → Option Cut} (h : MapC w b L f) : L.Nodup := by
  obtain ⟨D, _, _, h2, _⟩ := h
  exact h2
theorem addK_ok {P : M.St → Prop} {L : List M.St} (h : ∀ s ∈ L, P s) {t : M.St} (ht : P t) : ∀ s ∈ addK L t, P s := by
  intro s hs
  unfold addK at hs
  split at hs
  · exact h s hs
  · rw [List.mem_append, List.mem_singleton] at hs
    rcases hs with hs | rfl
    · exact h s hs
    · exact ht
/-- the function value that tells from where one comes -/
theorem remBack_any (w : World) (B b p4 : Nat) (L : List M.St) (f : M.St → Option Cut) (bef : M.St → List M.St) (hm : MapC w b L f) (hr : RowsC w B f bef) (hp : w.cell? ⟨p4, 0, none⟩ = some (.map (some b))) (hpl : p4 < w.heap.size) (m : M.Mz) (V : M.Valid m) :
    NextOk 154 #[] #[.pointer (some ⟨p4, 0, none⟩)] bef (M.StOk m) w := by
  intro W s hb hs
  show Calls Try.prog 154 #[.agg #[.int .i64 s.1, .int .i64 s.2], .pointer (some ⟨p4, 0, none⟩)] W _
  have H64 := Lib.hid (st64 V hs)
  have hm1 := hm.below hb hm.lt
  have hp1 : W.cell? ⟨p4, 0, none⟩ = some (.map (some b)) := (hb.cell (p := ⟨p4, 0, none⟩) hpl).trans hp
  have hbl := hb.size
  have HM := Lib.hid hm1
  have HP : Hid (∃ a c, cutO (f s) = .slice a (bef s).length c ∧ RowIn B w.heap.size w a (M.encSs (bef s))) := Lib.hid (by
    have := hr.at_ s
    cases e : f s with
    | none =>
      rw [hr.no s e]
      exact ⟨none, 0, rfl, .inl rfl⟩
    | some u =>
      rw [e] at this
      have hl := (hr.row s u e).1
      refine ⟨some ⟨u.1, 0, none⟩, u.2.2, by rw [← hl]; rfl, ?_⟩
      refine OwnQ.row (OwnQ.of_own this) (c := u.2.2) ?_
      rw [← hl]
      rfl)
  have HB := Lib.hid hb
  clear hm hr hp hm1 hb
  obtain ⟨ra, rc, hcut, hrow⟩ := HP.out
  have HR := Lib.hid hrow
  clear HP hrow
  go_enter Try.func154, Try.ntmps154
  go_upto_region 1 with fail
  refine wp_named ?_
  intro W1 hW1
  have hb1 : Below W.heap.size W W1 := by rw [hW1]; exact below_alloc _ _
  have z1 : Box2 W1 W.heap.size 65 (.int .i64 s.1) (.int .i64 s.2) := by rw [hW1]; exact Box2.new _ _ _ rfl
  clear hW1
  obtain ⟨k0, k1⟩ := z1.cells
  have hp2 : W1.cell? ⟨p4, 0, none⟩ = some (.map (some b)) := (hb1.cell (p := ⟨p4, 0, none⟩) (show p4 < W.heap.size by omega)).trans hp1
  have q1 : (Instr.lookup 125 (.map (some b)) (.agg #[.int .i64 s.1, .int .i64 s.2]) false).run Try.prog W1 = .ok (.slice ra (bef s).length rc) W1 := by
    rw [← hcut]
    exact (HM.out.below hb1 HM.out.lt).look H64.out
  have HB1 := Lib.hid hb1
  clear z1 hp1 hb1
  go_wp2_with fail
  go_ret
  exact ⟨ra, rc, B, w.heap.size, rfl, (HR.out.turned (Turned.of_below (HB.out.trans (HB1.out.mono hbl)) 0 0) (Nat.le_refl _) (.inr (Nat.zero_le _))), by have := HB1.out.size; omega, .inl (Nat.le_refl _), HB1.out⟩
theorem remaining_any (w : World) (lo hi : Nat) (m : M.Mz) (a b : Option Addr) (c d : Nat) (h : MzIn lo hi w m a c b d) (hz : hi ≤ w.heap.size) (V : M.Valid m) :
    Calls Try.prog 135 #[.agg #[.int .i64 m.size, .slice a m.doors.length c, .slice b m.keys.length d]] w (MapPost w (M.remF m)) := by
  obtain ⟨i0, hi0, hz0, hz1, hz2⟩ := info_parts infoS
  have H := Lib.hid h
  have HVA := Lib.hid V
  have v12 := V.size12
  have v1 := V.size1
  have hmm := @run_makeMap Try.prog
  have HAL := Lib.hid (M.allSt_len m)
  have hs64 : M.size64 m ≤ 768 := by unfold M.size64; omega
  clear h V
  go_enter Try.func135, Try.ntmps135
  go_upto_region 3 with fail
  refine wp_named ?_
  intro W hW
  have hb : Below w.heap.size w W := by rw [hW]; exact (((below_alloc _ _).alloc (by simp) _).alloc (by simp; omega) _).alloc (by simp; omega) _
  have x1 : Box3 W w.heap.size 29 (.int .i64 m.size) (.slice a m.doors.length c) (.slice b m.keys.length d) := by rw [hW]; exact (((Box3.new _ _ _ _ rfl).alloc _).alloc _).alloc _
  have o1 : W.ownsRow (w.heap.size + 1) 65 2 (.slice (some ⟨w.heap.size + 1, 0, none⟩) 0 0) 0 [] := by
    rw [hW]
    have := ownsRow_empty (w.alloc (.cells #[.int .i64 m.size, .slice a m.doors.length c, .slice b m.keys.length d] 29)) (w.heap.size + 1) 65 2 (by simp)
    rw [World.size_alloc] at this
    exact (this.alloc _).alloc _
  have m1 : MapC W (w.heap.size + 1 + 1) [] (fun _ => none) := by
    rw [hW]
    have := MapC.made ((w.alloc (.cells #[.int .i64 m.size, .slice a m.doors.length c, .slice b m.keys.length d] 29)).alloc (.cells #[] 65))
    rw [World.size_alloc, World.size_alloc] at this
    exact this.below (below_alloc _ _) (by simp)
  have p1 : W.cell? ⟨w.heap.size + 1 + 1 + 1, 0, none⟩ = some (.map (some (w.heap.size + 1 + 1))) := by
    rw [hW]
    refine cell_of_row _ _ 0 #[.map (some (w.heap.size + 1 + 1))] 125 (0, 0) ?_
    have := heap_alloc_new (((w.alloc (.cells #[.int .i64 m.size, .slice a m.doors.length c, .slice b m.keys.length d] 29)).alloc (.cells #[] 65)).alloc (.map #[] 0)) (.cells #[.map (some (w.heap.size + 1 + 1))] 125)
    simp only [World.size_alloc] at this
    exact this
  have hws : W.heap.size = w.heap.size + 1 + 1 + 1 + 1 := by rw [hW]; simp
  clear hW hmm
  obtain ⟨c0, c1, c2⟩ := x1.cells
  have X1 := Lib.hid x1
  have O1 := Lib.hid o1
  have M1 := Lib.hid m1
  have P1 := Lib.hid p1
  have HB := Lib.hid hb
  have AS := Lib.hid (allStates_any W lo hi m a b c d (H.out.below hb hz) (by omega) HVA.out)
  clear x1 o1 m1 p1 hb
  go_wp2_with fail
  refine (AS.out).mono ?_
  rintro e w4 ⟨a4, c4, rfl, ho4, hc4, hc4m, hb4⟩
  have A4 : Hid (RowIn W.heap.size w4.heap.size w4 a4 (M.encSs (M.allSt m))) := Lib.hid ho4.row
  have X4 := Lib.hid (X1.out.below hb4)
  have O4 := Lib.hid (own_below O1.out hb4)
  have M4 := Lib.hid (M1.out.below hb4 M1.out.lt)
  have P4 : Hid (w4.cell? ⟨w.heap.size + 1 + 1 + 1, 0, none⟩ = some (.map (some (w.heap.size + 1 + 1)))) := Lib.hid ((hb4.cell (p := ⟨w.heap.size + 1 + 1 + 1, 0, none⟩) (show w.heap.size + 1 + 1 + 1 < W.heap.size by omega)).trans P1.out)
  have L4 := Lib.hid (HB.out.trans (hb4.mono (by omega)))
  have hz4 := hb4.size
  clear ho4 hb4 c0 c1 c2 AS O1 M1 P1 X1
  generalize hA : M.allSt m = A at *
  have HA := Lib.hid hA
  have HMA := Lib.hid (fun (s : M.St) (hs : s ∈ A) => show M.Met m s from (M.mem_allSt HVA.out).1 (by rw [hA]; exact hs))
  have HWL : Hid (M.wonL m = A.filter (M.wonB m)) := Lib.hid (by rw [← hA]; rfl)
  have HBK : Hid (M.befK m A.length = M.preds m) := Lib.hid (by rw [← hA]; exact M.befK_all m)
  have HBE := Lib.hid (fun k (hk : k < A.length) => show M.befM m k A[k] (M.nexts m A[k]).length = M.befK m (k + 1) by subst hA; exact M.befM_end hk)
  clear hA
  go_wp2_with fail
  go_loopw [3, 6, 8, 14, 29] (fun v3 _ _ v14 _ wr => ∃ (k : Nat) (L : List M.St) (f : M.St → Option Cut), k ≤ A.length ∧ v14 = .int .i64 (k : Int) ∧ wr.ownsRow (w.heap.size + 1) 65 2 v3 ((A.take k).filter (M.wonB m)).length (M.encSs ((A.take k).filter (M.wonB m))) ∧ (∀ z, v3.ownBlock = some z → z = w.heap.size + 1 ∨ w4.heap.size ≤ z) ∧
    MapC wr (w.heap.size + 1 + 1) L f ∧ (∀ s ∈ L, M.StOk m s) ∧ RowsC wr w4.heap.size f (M.befK m k) ∧ (∀ t u, f t = some u → v3.ownBlock ≠ some u.1) ∧ Rest w4.heap.size (w.heap.size + 1) (w.heap.size + 1 + 1) w4 wr) (fun _ _ _ v14 _ _ => A.length - (intOf v14).toNat)
  case atStart => exact ⟨0, [], _, Nat.zero_le _, rfl, O4.out, fun z hz => .inl (by injection hz with hz; exact hz.symm), M4.out, fun _ h => (by cases h), by rw [M.befK_zero]; exact RowsC.start _ _, fun _ _ h => (by cases h), Rest.refl _ _ _ _⟩
  case round =>
    obtain ⟨k, L, f, hk, rfl, ho3, hz3, hm3, hL3, hr3, hd3, hrest⟩ := hrel
    obtain ⟨la, lc, hv3, hl1, hl2, _⟩ := own_slice ho3
    subst hv3
    have O3 := Lib.hid ho3
    have Z3 := Lib.hid hz3
    have M3 := Lib.hid hm3
    have L3 := Lib.hid hL3
    have R3 := Lib.hid hr3
    have D3 := Lib.hid hd3
    have RE := Lib.hid hrest
    have hsr := hrest.size
    have hcl : ((A.take k).filter (M.wonB m)).length ≤ 768 := by
      refine Nat.le_trans (List.length_filter_le _ _) ?_
      rw [List.length_take]
      have := HAL.out
      omega
    clear ho3 hz3 hm3 hL3 hr3 hd3 hrest
    by_cases hkl : k < A.length
    · obtain ⟨db, off, hda, hdb1, hdb2, hc0⟩ := (RE.out.row A4.out (Nat.le_refl _) (by omega) (by omega)).at_ (k := k * 2) (by rw [M.encSs_len]; omega)
      subst hda
      have a0 : wr.cell? ⟨db, off + k * 2, none⟩ = some (.int .i64 A[k].1) := hc0 _ _ (M.encSs_at0 hkl)
      have a1 : wr.cell? ⟨db, off + k * 2 + 1, none⟩ = some (.int .i64 A[k].2) := hc0 _ _ (M.encSs_at1 hkl)
      have HTK : Hid (A.take (k + 1) = A.take k ++ [A[k]]) := Lib.hid (List.take_succ_eq_append_getElem hkl)
      have HMx := Lib.hid (HMA.out _ (List.getElem_mem hkl))
      have HBX := Lib.hid (HBE.out k hkl)
      have hdw : db < wr.heap.size := by omega
      clear hc0
      generalize A[k] = x at *
      go_upto_region 6 with fail
      refine wp_named ?_
      intro W5 hW5
      have hb5 : Below wr.heap.size wr W5 := by rw [hW5]; exact below_alloc _ _
      have b5 : Box2 W5 wr.heap.size 65 (.int .i64 x.1) (.int .i64 x.2) := by rw [hW5]; exact Box2.new _ _ _ rfl
      have hs5 : W5.heap.size = wr.heap.size + 1 := by rw [hW5]; simp
      clear hW5 a0 a1
      have O5 := Lib.hid (own_below O3.out hb5)
      have M5 := Lib.hid (M3.out.below hb5 M3.out.lt)
      have R5 := Lib.hid (R3.out.below hb5)
      have RE5 := Lib.hid (RE.out.below hb5 (by omega))
      have B5 := Lib.hid b5
      have HUL := Lib.hid (fun t u (hu : f t = some u) => (R3.out.base hu).2)
      have HVL : Hid (∀ z, (Value.slice la ((A.take k).filter (M.wonB m)).length lc).ownBlock = some z → z < wr.heap.size) := Lib.hid (fun z hz => (O3.out.lt z hz).2)
      have X5 : Hid (Box3 W5 w.heap.size 29 (.int .i64 m.size) (.slice a m.doors.length c) (.slice b m.keys.length d)) := Lib.hid ((RE5.out.block _ (by omega) (by omega) (by omega)).trans X4.out)
      clear hb5 b5 O3 M3 R3 RE
      generalize wr.heap.size = g6 at *
      obtain ⟨c0, c1, c2⟩ := X5.out.cells
      obtain ⟨k0, k1⟩ := B5.out.cells
      have IW := Lib.hid (isWon_any W5 m a b c d v1 v12 x)
      have HXL := X5.out.lt
      have HBL := B5.out.lt
      have HWX : Hid (M.wonB m x = (x.1 == m.size - 1)) := Lib.hid rfl
      cases hw : M.wonB m x
      case' false =>
        have HFE : Hid ((A.take (k + 1)).filter (M.wonB m) = (A.take k).filter (M.wonB m)) := Lib.hid (by rw [HTK.out, List.filter_append, List.filter_cons_of_neg (by rw [hw]; decide)]; simp)
        rw [← HWX.out, hw] at IW
        clear hw
        go_wp2_with fail
        refine (IW.out).mono ?_
        rintro e w6 ⟨rfl, hb6⟩
        have hs6 := hb6.size
        have O6 : Hid (w6.ownsRow (w.heap.size + 1) 65 2 (.slice la ((A.take k).filter (M.wonB m)).length lc) ((A.take (k + 1)).filter (M.wonB m)).length (M.encSs ((A.take (k + 1)).filter (M.wonB m)))) := Lib.hid (by rw [HFE.out]; exact own_below O5.out hb6)
        have Z6 := Lib.hid Z3.out
        have D6 := Lib.hid D3.out
        have HV6 : Hid (∀ z, (Value.slice la ((A.take k).filter (M.wonB m)).length lc).ownBlock = some z → z < w6.heap.size) := Lib.hid (fun z hz => by have := HVL.out z hz; omega)
        have M6 := Lib.hid (M5.out.below hb6 M5.out.lt)
        have R6 := Lib.hid (R5.out.below hb6)
        have RE6 := Lib.hid (RE5.out.below hb6 (by omega))
        have B6 := Lib.hid (B5.out.below hb6)
        have X6 := Lib.hid (X5.out.below hb6)
        clear hb6 O5 M5 R5 RE5 B5 X5 IW Z3 D3 HVL HFE c0 c1 c2 k0 k1
        generalize Value.slice la ((A.take k).filter (M.wonB m)).length lc = v3 at *
        obtain ⟨c0, c1, c2⟩ := X6.out.cells
        obtain ⟨k0, k1⟩ := B6.out.cells
        go_wp2_with fail
      case' true =>
        have HFE : Hid ((A.take (k + 1)).filter (M.wonB m) = (A.take k).filter (M.wonB m) ++ [x]) := Lib.hid (by rw [HTK.out, List.filter_append, List.filter_cons_of_pos hw]; rfl)
        rw [← HWX.out, hw] at IW
        clear hw
        go_wp2_with fail
        refine (IW.out).mono ?_
        rintro e w7 ⟨rfl, hb7⟩
        have hs7 := hb7.size
        have O7 := Lib.hid (own_below O5.out hb7)
        have M7 := Lib.hid (M5.out.below hb7 M5.out.lt)
        have R7 := Lib.hid (R5.out.below hb7)
        have RE7 := Lib.hid (RE5.out.below hb7 (by omega))
        have B7 := Lib.hid (B5.out.below hb7)
        have X7 := Lib.hid (X5.out.below hb7)
        clear hb7 c0 c1 c2 k0 k1
        obtain ⟨k0, k1⟩ := B7.out.cells
        go_wp2_with (
          at_builtin
          refine wpList_append_lies _ rfl _ _ 110 rfl (w.heap.size + 1) 65 i0 (.agg #[.int .i64 0, .int .i64 0]) 2 16 Try.underlying110 hi0 hz0 hz1 hz2 rfl (by decide) (.slice la ((A.take k).filter (M.wonB m)).length lc) _ _ rfl (O7.out.alloc _) ⟨w7.heap.size, 0, none⟩ 1 1 [.int .i64 x.1, .int .i64 x.2] rfl rfl (newsS (Box2.new _ _ _ rfl)) (fun x hx => by simp at hx; rcases hx with rfl | rfl <;> rfl) (by decide) (by unfold maxLen; omega) (by omega) (by simp; omega) _ rfl ?_
          intro g8 c8 w6 hown8 hgrow8 hat8 hlt8
          have hs6 := hgrow8.size
          rw [World.size_alloc] at hs6 hat8
          have hzz := Z3.out
          have hvv := HVL.out
          have hdd := D3.out
          have O6 : Hid (w6.ownsRow (w.heap.size + 1) 65 2 (.slice (some ⟨g8, 0, none⟩) (((A.take k).filter (M.wonB m)).length + 1) c8) ((A.take (k + 1)).filter (M.wonB m)).length (M.encSs ((A.take (k + 1)).filter (M.wonB m)))) := Lib.hid (by rw [HFE.out, M.encSs_append, List.length_append]; exact hown8)
          have Z6 : Hid (∀ z, (Value.slice (some ⟨g8, 0, none⟩) (((A.take k).filter (M.wonB m)).length + 1) c8).ownBlock = some z → z = w.heap.size + 1 ∨ w4.heap.size ≤ z) := Lib.hid (fun z hz => by
            injection hz with hz
            subst hz
            rcases hat8 with h | h
            · exact hzz _ h
            · exact .inr (by show w4.heap.size ≤ g8; omega))
          have D6 : Hid (∀ t u, f t = some u → (Value.slice (some ⟨g8, 0, none⟩) (((A.take k).filter (M.wonB m)).length + 1) c8).ownBlock ≠ some u.1) := Lib.hid (fun t u hu e => by
            injection e with e
            have := HUL.out t u hu
            rcases hat8 with h | h
            · exact hdd t u hu (by rw [h]; exact congrArg some e)
            · have e' : g8 = u.1 := e
              omega)
          have HV6 : Hid (∀ z, (Value.slice (some ⟨g8, 0, none⟩) (((A.take k).filter (M.wonB m)).length + 1) c8).ownBlock = some z → z < w6.heap.size) := Lib.hid (fun z hz => by injection hz with hz; have hz' : g8 = z := hz; omega)
          have M6 := Lib.hid ((M7.out.below (below_alloc _ _) M7.out.lt).grown hgrow8 (fun e => by have := hzz _ e.symm; omega))
          have R6 := Lib.hid ((R7.out.alloc _).grown hgrow8 (fun t u hu => hdd t u hu))
          have RE6 := Lib.hid ((RE7.out.alloc _ (by omega)).grown hgrow8 (by simp; omega) hzz)
          have B6 := Lib.hid ((B7.out.alloc _).grown hgrow8 (fun e => by have := hvv _ e; omega))
          have X6 := Lib.hid ((X7.out.alloc _).grown hgrow8 (fun e => by have := hzz _ e; omega))
          clear hown8 hgrow8 hat8 hzz hvv hdd O5 M5 R5 RE5 B5 X5 IW Z3 D3 HVL HFE k0 k1 O7 M7 R7 RE7 B7 X7
          generalize Value.slice (some ⟨g8, 0, none⟩) (((A.take k).filter (M.wonB m)).length + 1) c8 = v3 at *
          obtain ⟨c0, c1, c2⟩ := X6.out.cells
          obtain ⟨k0, k1⟩ := B6.out.cells)
      all_goals
        have L6 := Lib.hid (L4.out.trans (RE6.out.toBelow (D := w.heap.size) (by omega) (by omega) (by omega)))
        have NS := Lib.hid (nextStates_any w6 lo hi m a b c d (H.out.below L6.out hz) (by have := L6.out.size; omega) HVA.out x HMx.out.1)
        refine (NS.out).mono ?_
        rintro e w9 ⟨a9, c9, rfl, ho9, hc9, hc9m, hb9⟩
        have hs9 := hb9.size
        have hg6 := B6.out.lt
        have T9 : Hid (RowIn g6 w9.heap.size w9 a9 (M.encSs (M.nexts m x))) := Lib.hid (ho9.row.mono (by omega) (Nat.le_refl _))
        have O9 := Lib.hid (own_below O6.out hb9)
        have M9 := Lib.hid (M6.out.below hb9 M6.out.lt)
        have R9 := Lib.hid (R6.out.below hb9)
        have RE9 := Lib.hid (RE6.out.below hb9 (by omega))
        have B9 := Lib.hid (B6.out.below hb9)
        have D9 : Hid (∀ t u, f t = some u → u.1 < g6 ∨ w9.heap.size ≤ u.1) := Lib.hid (fun t u hu => .inl (HUL.out t u hu))
        have hTl := M.nextsTo_len m x m.size.toNat
        have hTl' : (M.nexts m x).length ≤ 12 := by show (M.nextsTo m x m.size.toNat).length ≤ 12; omega
        have HIN := Lib.hid (fun t (ht : t ∈ M.nexts m x) => M.nexts_ok HVA.out HMx.out.1 ht)
        have HSU := Lib.hid (fun j (hj : j < (M.nexts m x).length) => M.befM_succ (m := m) (k := k) (x := x) hj)
        have HML := Lib.hid (M.befM_len m k x)
        clear hTl ho9 hb9 c0 c1 c2 k0 k1 O6 M6 R6 RE6 B6 X6 L6 NS
        go_wp2_with fail
        go_loopw [8, 29] (fun _ v29 ws => ∃ (j : Nat) (L' : List M.St) (f' : M.St → Option Cut), j ≤ (M.nexts m x).length ∧ v29 = .int .i64 (j : Int) ∧ MapC ws (w.heap.size + 1 + 1) L' f' ∧ (∀ s ∈ L', M.StOk m s) ∧ RowsC ws w4.heap.size f' (M.befM m k x j) ∧ (∀ t u, f' t = some u → u.1 < g6 ∨ w9.heap.size ≤ u.1) ∧ (∀ t u, f' t = some u → v3.ownBlock ≠ some u.1) ∧
          ws.ownsRow (w.heap.size + 1) 65 2 v3 ((A.take (k + 1)).filter (M.wonB m)).length (M.encSs ((A.take (k + 1)).filter (M.wonB m))) ∧ Box2 ws g6 65 (.int .i64 x.1) (.int .i64 x.2) ∧ RowIn g6 w9.heap.size ws a9 (M.encSs (M.nexts m x)) ∧ Rest w4.heap.size (w.heap.size + 1) (w.heap.size + 1 + 1) w4 ws ∧ w9.heap.size ≤ ws.heap.size) (fun _ v29 _ => (M.nexts m x).length - (intOf v29).toNat)
        case atStart => exact ⟨0, L, f, Nat.zero_le _, rfl, M9.out, L3.out, by rw [M.befM_zero]; exact R9.out, D9.out, D6.out, O9.out, B9.out, T9.out, RE9.out, Nat.le_refl _⟩
        case round =>
          obtain ⟨j, L', f', hj, rfl, hmj, hLj, hrj, hdj, hvj, hoj, hbj, htj, hej, hsj⟩ := hrel
          have MJ := Lib.hid hmj
          have LJ := Lib.hid hLj
          have RJ := Lib.hid hrj
          have DJ := Lib.hid hdj
          have VJ := Lib.hid hvj
          have OJ := Lib.hid hoj
          have BJ := Lib.hid hbj
          have TJ := Lib.hid htj
          have EJ := Lib.hid hej
          have hbl := hbj.lt
          have hml := hmj.lt
          clear hmj hLj hrj hdj hvj hoj hbj htj hej
          by_cases hjl : j < (M.nexts m x).length
          · obtain ⟨rb, roff, hra, hrb1, hrb2, hrc⟩ := TJ.out.at_ (k := j * 2) (by rw [M.encSs_len]; omega)
            subst hra
            have y0 := hrc _ _ (M.encSs_at0 hjl)
            have y1 : wr.cell? ⟨rb, roff + j * 2 + 1, none⟩ = _ := hrc _ _ (M.encSs_at1 hjl)
            have HSt := Lib.hid (HIN.out _ (List.getElem_mem hjl))
            have HT64 := Lib.hid (st64 HVA.out HSt.out)
            have HSJ := Lib.hid (HSU.out j hjl)
            have hrbl : rb < wr.heap.size := by omega
            clear hrc
            generalize (M.nexts m x)[j] = t at *
            go_upto_region 11 with fail
            refine wp_named ?_
            intro W1 hW1
            have hb1 : Below wr.heap.size wr W1 := by rw [hW1]; exact below_alloc _ _
            have b11 : Box2 W1 wr.heap.size 65 (.int .i64 t.1) (.int .i64 t.2) := by rw [hW1]; exact Box2.new _ _ _ rfl
            clear hW1 y0 y1
            have hs1 := hb1.size
            have hl1 := b11.lt
            have MK := Lib.hid (MJ.out.below hb1 hml)
            have RK := Lib.hid (RJ.out.below hb1)
            have OK := Lib.hid (own_below OJ.out hb1)
            have BK := Lib.hid (BJ.out.below hb1)
            have TK := Lib.hid (TJ.out.turned (Turned.of_below hb1 0 0) hsj (.inr (Nat.zero_le _)))
            have EK := Lib.hid (EJ.out.below hb1 (by omega))
            have pc : W1.cell? ⟨w.heap.size + 1 + 1 + 1, 0, none⟩ = some (.map (some (w.heap.size + 1 + 1))) := (EK.out.cell (p := ⟨w.heap.size + 1 + 1 + 1, 0, none⟩) (show w.heap.size + 1 + 1 + 1 < w4.heap.size by omega) (show w.heap.size + 1 + 1 + 1 ≠ w.heap.size + 1 by omega) (show w.heap.size + 1 + 1 + 1 ≠ w.heap.size + 1 + 1 by omega)).trans P4.out
            obtain ⟨t0, t1⟩ := b11.cells
            obtain ⟨k0, k1⟩ := BK.out.cells
            have hLfew := M.st_few MK.out.nodup LJ.out
            have hbf := HML.out j t
            clear hb1 b11 MJ RJ OJ BJ TJ EJ
            obtain ⟨r, hr⟩ : ∃ r, cutO (f' t) = r := ⟨_, rfl⟩
            have HR := Lib.hid hr
            have HRB : Hid (∀ z, r.ownBlock = some z → w4.heap.size ≤ z ∧ z < W1.heap.size) := Lib.hid (fun z hz => by
              obtain ⟨u, hu, rfl⟩ := cut_block hr hz
              exact RK.out.base hu)
            have hsw : w4.heap.size + 1 ≤ W1.heap.size := by have := EK.out.size; omega
            clear hr
            go_wp2_with (first
              | (refine wpList_entryC rfl _ _ rfl (w.heap.size + 1 + 1) _ _ rfl (MK.out.below (below_alloc _ _) MK.out.lt) t HT64.out (by unfold maxLen; omega) rfl r HR.out ?_
                 intro st w2 tb2 hs2 HST2
                 rw [World.size_alloc] at hs2
                 have R2 := Lib.hid ((RK.out.alloc (.cells #[.int .i64 x.1, .int .i64 x.2] 65)).turned tb2 (by omega))
                 have HRO : Hid (w2.ownsRow w4.heap.size 65 2 r (M.befM m k x j t).length (M.encSs (M.befM m k x j t))) := Lib.hid (by rw [← HR.out]; exact R2.out.at_ t)
                 have HST := Lib.hid HST2
                 have HTB := Lib.hid tb2
                 clear HST2 tb2)
              | (at_builtin
                 refine wpList_append_lies _ rfl _ _ 110 rfl w4.heap.size 65 i0 (.agg #[.int .i64 0, .int .i64 0]) 2 16 Try.underlying110 hi0 hz0 hz1 hz2 rfl (by decide) r _ _ rfl HRO.out ⟨W1.heap.size, 0, none⟩ 1 1 [.int .i64 x.1, .int .i64 x.2] rfl rfl (newsS ((Box2.new _ _ _ rfl).turned HTB.out (.inr (by omega)))) (fun x hx => by simp at hx; rcases hx with rfl | rfl <;> rfl) (by decide) (by unfold maxLen; omega) (by omega) (by omega) _ rfl ?_
                 intro g7 c7 w7 hown7 hgrow7 hat7 hlt7
                 obtain ⟨w8, hrun8, m8, tb8, hs8⟩ := HST.out w7 (g7, (M.befM m k x j t).length + 1, c7) (hgrow7.block _ (by omega) (fun e => by have := HRB.out _ e.symm; omega))
                 have M8 := Lib.hid m8
                 have TB8 := Lib.hid tb8
                 have OW7 := Lib.hid hown7
                 have GR7 := Lib.hid hgrow7
                 have AT7 := Lib.hid hat7
                 have hsz7 := hgrow7.size
                 clear m8 tb8 hown7 hgrow7 hat7)
              | (refine wpList_entryPut rfl _ _ _ rfl (w.heap.size + 1 + 1) st _ w8 rfl rfl rfl hrun8 ?_))
            go_roundw
            case rel =>
              have CH := Chg.of (below_alloc W1 (.cells #[.int .i64 x.1, .int .i64 x.2] 65)) HTB.out GR7.out TB8.out
              have hrz : ∀ z, r.ownBlock = some z → (z < g6 ∨ w9.heap.size ≤ z) ∧ v3.ownBlock ≠ some z := fun z hz => by
                obtain ⟨u, hu, rfl⟩ := cut_block HR.out hz
                exact ⟨DJ.out t u hu, VJ.out t u hu⟩
              have hl : (M.befM m k x j t ++ [x]).length = (M.befM m k x j t).length + 1 := by rw [List.length_append]; rfl
              have hat : ∀ s u, updC f' t (g7, (M.befM m k x j t).length + 1, c7) s = some u → f' s = some u ∨ (u.1 = g7 ∧ (r.ownBlock = some g7 ∨ g7 = w2.heap.size)) := fun s u hu => by
                by_cases e : s = t
                · subst e
                  rw [updC_same] at hu
                  injection hu with hu
                  subst hu
                  exact .inr ⟨rfl, AT7.out⟩
                · rw [updC_other _ _ e] at hu
                  exact .inl hu
              refine ⟨j + 1, addK L' t, updC f' t (g7, (M.befM m k x j t).length + 1, c7), by omega, by go_num, M8.out, addK_ok LJ.out HSt.out, ?_, fun s u hu => ?_, fun s u hu => ?_, CH.own OK.out (fun e => by have := Z6.out _ e; omega) (fun z hz => (hrz z hz).2), CH.box2 BK.out (by omega) (fun e => by have := (hrz _ e).1; omega), CH.rowIn TK.out (by omega) (by omega) (fun z hz => (hrz z hz).1), CH.rest EK.out (by omega) (fun z hz => .inr (HRB.out z hz).1), by omega⟩
              · rw [HSJ.out]
                refine RowsC.turned (RowsC.put R2.out (by rw [HR.out]; exact GR7.out) hl.symm ?_ (by rw [HR.out]; rcases AT7.out with e | e; exact .inl e; exact .inr (by show w2.heap.size ≤ g7; omega))) TB8.out (by omega)
                rw [M.encSs_append, hl]
                exact OW7.out
              · rcases hat s u hu with h | ⟨h, h2⟩
                · exact DJ.out s u h
                · rw [h]
                  rcases h2 with h2 | h2
                  · exact (hrz _ h2).1
                  · right; omega
              · rcases hat s u hu with h | ⟨h, h2⟩
                · exact VJ.out s u h
                · rw [h]
                  rcases h2 with h2 | h2
                  · exact (hrz _ h2).2
                  · intro e
                    have := HV6.out _ e
                    omega
            case measure => simp [intOf]; omega
          · obtain rfl : j = (M.nexts m x).length := by omega
            have hrj := RJ.out
            rw [HBX.out] at hrj
            have RX := Lib.hid hrj
            clear hrj
            go_wp2_with fail
            go_roundw
            case rel => exact ⟨k + 1, L', f', by omega, by go_num, OJ.out, Z6.out, MJ.out, LJ.out, RX.out, VJ.out, EJ.out⟩
            case measure => simp [intOf]; omega
    · obtain rfl : k = A.length := by omega
      have hr3 := R3.out
      rw [HBK.out] at hr3
      have o3 := O3.out
      rw [List.take_length, ← HWL.out] at o3
      rw [List.take_length, ← HWL.out]
      have L6 := Lib.hid (L4.out.trans (RE.out.toBelow (D := w.heap.size) (by omega) (by omega) (by omega)))
      have pc : wr.cell? ⟨w.heap.size + 1 + 1 + 1, 0, none⟩ = some (.map (some (w.heap.size + 1 + 1))) := (RE.out.cell (p := ⟨w.heap.size + 1 + 1 + 1, 0, none⟩) (show w.heap.size + 1 + 1 + 1 < w4.heap.size by omega) (show w.heap.size + 1 + 1 + 1 ≠ w.heap.size + 1 by omega) (show w.heap.size + 1 + 1 + 1 ≠ w.heap.size + 1 + 1 by omega)).trans P4.out
      have NB := remBack_any wr w4.heap.size (w.heap.size + 1 + 1) (w.heap.size + 1 + 1 + 1) L f (M.preds m) M3.out hr3 pc (by omega) m HVA.out
      have hrow : RowIn (w.heap.size + 1) wr.heap.size wr la (M.encSs (M.wonL m)) := by
        have := OwnQ.row (OwnQ.of_own o3) (a := la) (c := lc) rfl
        exact this
      have HL := leastSteps_any 154 #[] #[.pointer (some ⟨w.heap.size + 1 + 1 + 1, 0, none⟩)] (enters_of Try.func154 (by kernel_rfl) rfl) (M.preds m) (M.StOk m) wr _ _ la lc (M.wonL m) hrow (Nat.le_refl _) (M.preds_steps HVA.out) NB
      have HL1 := Lib.hid HL
      clear hr3 o3 pc NB hrow HL
      go_wp2_with fail
      refine (HL1.out).mono ?_
      rintro e w7 ⟨b2, L2, rfl, hb2, hm2, hL2, hbw⟩
      have H2 := Lib.hid hm2
      have HB2 := Lib.hid (L6.out.trans (hbw.mono L6.out.size))
      have hl6 := L6.out.size
      clear hm2 hbw
      go_wp2_with fail
      go_ret
      exact ⟨b2, L2, rfl, by omega, H2.out, hL2, HB2.out⟩
end C
end Go.Proofs.Ytcoaggnilgfjfaa
namespace Go.Proofs.Ytcoaggnilgfjfaa
open Go.RowKit
namespace C
set_option maxHeartbeats 3200000
set_option maxRecDepth 20000
theorem own_turnedB {w w' : World} {lo hi B size n : Nat} {e : TypeId} {v : Value} {xs : List Value} (h : w.ownsRow B e size v n xs) (t : Turned lo hi w w') (hd : hi ≤ B) : w'.ownsRow B e size v n xs := by
  refine ⟨h.1, ?_⟩
  rcases h.2 with h' | ⟨g, cap, cur, hv, hb, hh, hr⟩
  · exact .inl h'
  · exact .inr ⟨g, cap, cur, hv, hb, (t.block g (heap_lt hh) (.inr (by omega))).trans hh, hr⟩
/-- whether a state is not nearer -/
theorem near1_any (w : World) (b g1 g2 : Nat) (L : List M.St) (f : M.St → Option Nat) (hm : MapP w b L f) (s x : M.St) (hs : St64 s) (hx : St64 x) (p1 : w.cell? ⟨g1, 0, none⟩ = some (.map (some b))) (p2 : w.cell? ⟨g2, 0, none⟩ = some (.int .i64 s.1)) (p3 : w.cell? ⟨g2, 1, none⟩ = some (.int .i64 s.2)) (hg1 : g1 < w.heap.size) (hg2 : g2 < w.heap.size) :
    Calls Try.prog 155 (#[.agg #[.int .i64 x.1, .int .i64 x.2]] ++ #[.pointer (some ⟨g1, 0, none⟩), .pointer (some ⟨g2, 0, none⟩)]) w (BoolW w (decide ((f s).getD 0 ≤ (f x).getD 0))) := by
  show Calls Try.prog 155 #[.agg #[.int .i64 x.1, .int .i64 x.2], .pointer (some ⟨g1, 0, none⟩), .pointer (some ⟨g2, 0, none⟩)] w _
  have HM := Lib.hid hm
  have HS := Lib.hid hs
  have HX := Lib.hid hx
  clear hm hs hx
  go_enter Try.func155, Try.ntmps155
  go_upto_region 1 with fail
  refine wp_named ?_
  intro W hW
  have hb : Below w.heap.size w W := by rw [hW]; exact below_alloc _ _
  have z1 : Box2 W w.heap.size 65 (.int .i64 x.1) (.int .i64 x.2) := by rw [hW]; exact Box2.new _ _ _ rfl
  clear hW
  obtain ⟨k0, k1⟩ := z1.cells
  have q1 : W.cell? ⟨g1, 0, none⟩ = _ := (hb.cell (p := ⟨g1, 0, none⟩) hg1).trans p1
  have q2 : W.cell? ⟨g2, 0, none⟩ = _ := (hb.cell (p := ⟨g2, 0, none⟩) hg2).trans p2
  have q3 : W.cell? ⟨g2, 1, none⟩ = _ := (hb.cell (p := ⟨g2, 1, none⟩) hg2).trans p3
  have hm1 : MapP W b L f := HM.out.below hb HM.out.lt
  have r1 : ∀ W', MapP W' b L f → (Instr.lookup 107 (.map (some b)) (.agg #[.int .i64 x.1, .int .i64 x.2]) false).run Try.prog W' = .ok (.int .i64 (((f x).getD 0 : Nat) : Int)) W' := fun W' h => h.look1 HX.out
  have r2 : ∀ W', MapP W' b L f → (Instr.lookup 107 (.map (some b)) (.agg #[.int .i64 s.1, .int .i64 s.2]) false).run Try.prog W' = .ok (.int .i64 (((f s).getD 0 : Nat) : Int)) W' := fun W' h => h.look1 HS.out
  have HB := Lib.hid hb
  have HD : Hid (decide (((f s).getD 0 : Nat) ≤ (f x).getD 0) = decide ((((f x).getD 0 : Nat) : Int) ≥ (((f s).getD 0 : Nat) : Int))) := Lib.hid (by
    rw [decide_eq_decide]
    omega)
  rw [HD.out]
  clear hb z1 p1 p2 p3
  generalize (f x).getD 0 = vx at *
  generalize (f s).getD 0 = vs at *
  refine wp_region_late2 (fun (wq : World) => wq.cell? ⟨g1, 0, none⟩ = some (.map (some b)) ∧ wq.cell? ⟨g2, 0, none⟩ = some (.int .i64 s.1) ∧ wq.cell? ⟨g2, 1, none⟩ = some (.int .i64 s.2) ∧ wq.cell? ⟨w.heap.size, 0, none⟩ = some (.int .i64 x.1) ∧ wq.cell? ⟨w.heap.size, 1, none⟩ = some (.int .i64 x.2) ∧ (Instr.lookup 107 (.map (some b)) (.agg #[.int .i64 x.1, .int .i64 x.2]) false).run Try.prog wq = .ok (.int .i64 ((vx : Nat) : Int)) wq ∧ (Instr.lookup 107 (.map (some b)) (.agg #[.int .i64 s.1, .int .i64 s.2]) false).run Try.prog wq = .ok (.int .i64 ((vs : Nat) : Int)) wq) [] 8 #[false, false, false, false, false, false, false, false] rfl rfl (by kernel_rfl) ?_
  have hS : (fun (wq : World) => wq.cell? ⟨g1, 0, none⟩ = some (.map (some b)) ∧ wq.cell? ⟨g2, 0, none⟩ = some (.int .i64 s.1) ∧ wq.cell? ⟨g2, 1, none⟩ = some (.int .i64 s.2) ∧ wq.cell? ⟨w.heap.size, 0, none⟩ = some (.int .i64 x.1) ∧ wq.cell? ⟨w.heap.size, 1, none⟩ = some (.int .i64 x.2) ∧ (Instr.lookup 107 (.map (some b)) (.agg #[.int .i64 x.1, .int .i64 x.2]) false).run Try.prog wq = .ok (.int .i64 ((vx : Nat) : Int)) wq ∧ (Instr.lookup 107 (.map (some b)) (.agg #[.int .i64 s.1, .int .i64 s.2]) false).run Try.prog wq = .ok (.int .i64 ((vs : Nat) : Int)) wq) W.drew := ⟨q1, q2, q3, k0, k1, r1 W.drew hm1, r2 W.drew hm1⟩
  refine wpAnyL_take (i := 0) (oi := { dst := some 5, op := Go.Op.load 107 (Go.Operand.tmp 1), type := 107, pos := "l4_ways.go:133", after := #[], guard := none }) (v := ?nv0) rfl (by kernel_rfl) (by kernel_rfl) (by kernel_rfl) (by kernel_rfl) (fun _ _ _ h => h) (Or.inl ⟨by rfl, ?nh0⟩) hS ?nr0
  case nh0 => (intro wS hSw; (try dsimp only at hSw); go_split_ands; go_simp; try with_reducible rfl)
  try simp only [Act.put, List.setIfInBounds_toArray, List.set_cons_zero, List.set_cons_succ]
  refine wpAnyL_take (i := 1) (oi := { dst := some 6, op := Go.Op.load 65 (Go.Operand.tmp 3), type := 65, pos := "l4_ways.go:133", after := #[], guard := none }) (v := ?nv1) rfl (by kernel_rfl) (by kernel_rfl) (by kernel_rfl) (by kernel_rfl) (fun _ _ _ h => h) (Or.inl ⟨by rfl, ?nh1⟩) hS ?nr1
  case nh1 => (intro wS hSw; (try dsimp only at hSw); go_split_ands; go_simp; try with_reducible rfl)
  try simp only [Act.put, List.setIfInBounds_toArray, List.set_cons_zero, List.set_cons_succ]
  refine wpAnyL_take (i := 2) (oi := { dst := some 7, op := Go.Op.lookup 107 (Go.Operand.tmp 5) (Go.Operand.tmp 6) false, type := 3, pos := "l4_ways.go:133", after := #[{ on := 0, ground := Go.Ground.data }, { on := 1, ground := Go.Ground.data }], guard := none }) (v := ?nv2) rfl (by kernel_rfl) (by kernel_rfl) (by kernel_rfl) (by kernel_rfl) (fun _ _ _ h => h) (Or.inl ⟨by rfl, ?nh2⟩) hS ?nr2
  case nh2 => (intro wS hSw; (try dsimp only at hSw); go_split_ands; go_simp; try with_reducible rfl)
  try simp only [Act.put, List.setIfInBounds_toArray, List.set_cons_zero, List.set_cons_succ]
  refine wpAnyL_take (i := 3) (oi := { dst := some 8, op := Go.Op.load 107 (Go.Operand.tmp 1), type := 107, pos := "l4_ways.go:133", after := #[], guard := none }) (v := ?nv3) rfl (by kernel_rfl) (by kernel_rfl) (by kernel_rfl) (by kernel_rfl) (fun _ _ _ h => h) (Or.inl ⟨by rfl, ?nh3⟩) hS ?nr3
  case nh3 => (intro wS hSw; (try dsimp only at hSw); go_split_ands; go_simp; try with_reducible rfl)
  try simp only [Act.put, List.setIfInBounds_toArray, List.set_cons_zero, List.set_cons_succ]
  refine wpAnyL_take (i := 4) (oi := { dst := some 9, op := Go.Op.load 65 (Go.Operand.tmp 2), type := 65, pos := "l4_ways.go:133", after := #[], guard := none }) (v := ?nv4) rfl (by kernel_rfl) (by kernel_rfl) (by kernel_rfl) (by kernel_rfl) (fun _ _ _ h => h) (Or.inl ⟨by rfl, ?nh4⟩) hS ?nr4
  case nh4 => (intro wS hSw; (try dsimp only at hSw); go_split_ands; go_simp; try with_reducible rfl)
  try simp only [Act.put, List.setIfInBounds_toArray, List.set_cons_zero, List.set_cons_succ]
  refine wpAnyL_take (i := 5) (oi := { dst := some 10, op := Go.Op.lookup 107 (Go.Operand.tmp 8) (Go.Operand.tmp 9) false, type := 3, pos := "l4_ways.go:133", after := #[{ on := 3, ground := Go.Ground.data }, { on := 4, ground := Go.Ground.data }], guard := none }) (v := ?nv5) rfl (by kernel_rfl) (by kernel_rfl) (by kernel_rfl) (by kernel_rfl) (fun _ _ _ h => h) (Or.inl ⟨by rfl, ?nh5⟩) hS ?nr5
  case nh5 => (intro wS hSw; (try dsimp only at hSw); go_split_ands; go_simp; try with_reducible rfl)
  try simp only [Act.put, List.setIfInBounds_toArray, List.set_cons_zero, List.set_cons_succ]
  refine wpAnyL_take (i := 6) (oi := { dst := some 11, op := Go.Op.binOp Go.BinOp.geq 3 (Go.Operand.tmp 7) (Go.Operand.tmp 10) 3, type := 4, pos := "l4_ways.go:133", after := #[{ on := 2, ground := Go.Ground.data }, { on := 5, ground := Go.Ground.data }], guard := none }) (v := ?nv6) rfl (by kernel_rfl) (by kernel_rfl) (by kernel_rfl) (by kernel_rfl) (fun _ _ _ h => h) (Or.inl ⟨by rfl, ?nh6⟩) hS ?nr6
  case nh6 => (intro wS hSw; (try dsimp only at hSw); go_split_ands; go_simp; try with_reducible rfl)
  try simp only [Act.put, List.setIfInBounds_toArray, List.set_cons_zero, List.set_cons_succ]
  refine wpAnyL_take (i := 7) (oi := { dst := some 4, op := Go.Op.assign (Go.Operand.tmp 11), type := 4, pos := "l4_ways.go:133", after := #[{ on := 6, ground := Go.Ground.data }, { on := 0, ground := Go.Ground.phase }, { on := 1, ground := Go.Ground.phase }, { on := 2, ground := Go.Ground.phase }, { on := 3, ground := Go.Ground.phase }, { on := 4, ground := Go.Ground.phase }, { on := 5, ground := Go.Ground.phase }, { on := 6, ground := Go.Ground.phase }], guard := none }) (v := ?nv7) rfl (by kernel_rfl) (by kernel_rfl) (by kernel_rfl) (by kernel_rfl) (fun _ _ _ h => h) (Or.inl ⟨by rfl, ?nh7⟩) hS ?nr7
  case nh7 => (intro wS hSw; (try dsimp only at hSw); go_split_ands; go_simp; try with_reducible rfl)
  try simp only [Act.put, List.setIfInBounds_toArray, List.set_cons_zero, List.set_cons_succ]
  refine wpAnyL_done (by kernel_rfl) ?_ _
  go_wp2_with fail
  go_ret
  exact ⟨rfl, Below.drawnN HB.out 1⟩
theorem nearer_any (w : World) (lo hi : Nat) (m : M.Mz) (a b : Option Addr) (c d : Nat) (h : MzIn lo hi w m a c b d) (hz : hi ≤ w.heap.size) (V : M.Valid m) (s : M.St) (hs : M.StOk m s) (mb : Nat) (L : List M.St) (hm : MapP w mb L (M.remF m)) :
    Calls Try.prog 137 #[.agg #[.int .i64 m.size, .slice a m.doors.length c, .slice b m.keys.length d], .agg #[.int .i64 s.1, .int .i64 s.2], .map (some mb)] w (StsPost w (M.nearL m s)) := by
  have H := Lib.hid h
  have HVA := Lib.hid V
  have HSO := Lib.hid hs
  have HM := Lib.hid hm
  have v12 := V.size12
  have hml := hm.lt
  clear h V hs hm
  go_enter Try.func137, Try.ntmps137
  go_upto_region 2 with fail
  refine wp_named ?_
  intro W hW
  have hb : Below w.heap.size w W := by rw [hW]; exact ((below_alloc _ _).alloc (by simp) _).alloc (by simp; omega) _
  have x1 : Box3 W w.heap.size 29 (.int .i64 m.size) (.slice a m.doors.length c) (.slice b m.keys.length d) := by rw [hW]; exact ((Box3.new _ _ _ _ rfl).alloc _).alloc _
  have z1 : Box2 W (w.heap.size + 1) 65 (.int .i64 s.1) (.int .i64 s.2) := by rw [hW]; exact (Box2.new _ _ _ (by simp)).alloc _
  have p1 : W.cell? ⟨w.heap.size + 1 + 1, 0, none⟩ = some (.map (some mb)) := by
    rw [hW]
    refine cell_of_row _ _ 0 #[.map (some mb)] 107 (0, 0) ?_
    have := heap_alloc_new ((w.alloc (.cells #[.int .i64 m.size, .slice a m.doors.length c, .slice b m.keys.length d] 29)).alloc (.cells #[.int .i64 s.1, .int .i64 s.2] 65)) (.cells #[.map (some mb)] 107)
    simp only [World.size_alloc] at this
    exact this
  have hws : W.heap.size = w.heap.size + 1 + 1 + 1 := by rw [hW]; simp
  clear hW
  obtain ⟨c0, c1, c2⟩ := x1.cells
  obtain ⟨k0, k1⟩ := z1.cells
  have HB := Lib.hid hb
  have Z1 := Lib.hid z1
  have P1 := Lib.hid p1
  have HM1 := Lib.hid (HM.out.below hb hml)
  have NS := Lib.hid (nextStates_any W lo hi m a b c d (H.out.below hb hz) (by omega) HVA.out s HSO.out)
  clear hb x1 z1 p1
  go_wp2_with fail
  refine (NS.out).mono ?_
  rintro e w5 ⟨a5, c5, rfl, ho5, hc5, hc5m, hb5⟩
  have hs5 := hb5.size
  have hTl := M.nextsTo_len m s m.size.toNat
  have hTl' : (M.nexts m s).length ≤ 12 := by show (M.nextsTo m s m.size.toNat).length ≤ 12; omega
  have HP : PredSTurn 155 #[.pointer (some ⟨w.heap.size + 1 + 1, 0, none⟩), .pointer (some ⟨w.heap.size + 1, 0, none⟩)] (M.farB m s) (M.StOk m) W.heap.size w5.heap.size w5 := by
    intro W' x hx ht
    have hz' := ht.size
    have hm5 := (HM1.out.below hb5 HM1.out.lt).turned ht (.inl HM1.out.lt)
    have hz5 := (Z1.out.below hb5).turned ht (.inl Z1.out.lt)
    have hp5 : W'.cell? ⟨w.heap.size + 1 + 1, 0, none⟩ = some (.map (some mb)) := (World.cell?_of_block (w := w5) (a := ⟨w.heap.size + 1 + 1, 0, none⟩) (ht.block (w.heap.size + 1 + 1) (by omega) (.inl (by omega)))).trans ((hb5.cell (p := ⟨w.heap.size + 1 + 1, 0, none⟩) (show w.heap.size + 1 + 1 < W.heap.size by omega)).trans P1.out)
    exact near1_any W' mb _ _ L (M.remF m) hm5 s x (st64 HVA.out HSO.out) (st64 HVA.out hx) hp5 hz5.cells.1 hz5.cells.2 (by omega) (by omega)
  have CD := Lib.hid (deleteFS_any 155 #[.pointer (some ⟨w.heap.size + 1 + 1, 0, none⟩), .pointer (some ⟨w.heap.size + 1, 0, none⟩)] (M.farB m s) (M.StOk m) (enters_of Try.func155 (by kernel_rfl) rfl) w5 W.heap.size w5.heap.size a5 c5 (M.nexts m s) HP (fun x hx => M.nexts_ok HVA.out HSO.out hx) ho5 (Nat.le_refl _) (by omega) hc5 hc5m)
  have HB5 := Lib.hid (HB.out.trans (hb5.mono (by omega)))
  have hkl : (M.kept (M.farB m s) (M.nexts m s)).length ≤ c5 := Nat.le_trans (List.length_filter_le _ _) hc5
  clear HP ho5 hb5 hTl c0 c1 c2 k0 k1
  go_wp2_with fail
  refine (CD.out).mono ?_
  rintro e w6 ⟨rfl, ho6, ht6⟩
  have O6 := Lib.hid ho6
  have T6 := Lib.hid ht6
  have hs6 := ht6.size
  clear ho6 ht6
  go_wp2_with fail
  go_ret
  exact ⟨a5, c5, rfl, O6.out.mono (by omega) hs6, hkl, hc5m, Below.thenTurned HB5.out T6.out (by omega) (by omega)⟩
noncomputable def wayV (m : M.Mz) (s : M.St) : List Int := match M.wayO m s (M.wonB m) with | some n => M.wayL m n s | none => []
theorem firstWayFrom_any (w : World) (lo hi : Nat) (m : M.Mz) (a b : Option Addr) (c d : Nat) (h : MzIn lo hi w m a c b d) (hz : hi ≤ w.heap.size) (V : M.Valid m) (s : M.St) (hs : M.Met m s) :
    Calls Try.prog 111 #[.agg #[.int .i64 m.size, .slice a m.doors.length c, .slice b m.keys.length d], .agg #[.int .i64 s.1, .int .i64 s.2]] w (IntsOkPost w (wayV m s) (M.wayO m s (M.wonB m)).isSome) := by
  obtain ⟨ii0, hi0, hz0, hzz1, hz2⟩ := info_parts infoI
  have H := Lib.hid h
  have HVA := Lib.hid V
  have HSM := Lib.hid hs
  have v12 := V.size12
  have v1 := V.size1
  clear h V hs
  go_enter Try.func111, Try.ntmps111
  go_upto_region 1 with fail
  refine wp_named ?_
  intro W hW
  have hb : Below w.heap.size w W := by rw [hW]; exact (below_alloc _ _).alloc (by simp) _
  have x1 : Box3 W w.heap.size 29 (.int .i64 m.size) (.slice a m.doors.length c) (.slice b m.keys.length d) := by rw [hW]; exact (Box3.new _ _ _ _ rfl).alloc _
  have z1 : Box2 W (w.heap.size + 1) 65 (.int .i64 s.1) (.int .i64 s.2) := by rw [hW]; exact Box2.new _ _ _ (by simp)
  have hws : W.heap.size = w.heap.size + 1 + 1 := by rw [hW]; simp
  clear hW
  obtain ⟨c0, c1, c2⟩ := x1.cells
  have HB := Lib.hid hb
  have X1 := Lib.hid x1
  have Z1 := Lib.hid z1
  have RM := Lib.hid (remaining_any W lo hi m a b c d (H.out.below hb hz) (by omega) HVA.out)
  clear hb x1 z1
  go_wp2_with fail
  refine (RM.out).mono ?_
  rintro e w2 ⟨mb, L, rfl, hmb, hmp, hLl, hb2⟩
  have M2 := Lib.hid hmp
  have X2 := Lib.hid (X1.out.below hb2)
  have Z2 := Lib.hid (Z1.out.below hb2)
  have HB2 := Lib.hid (HB.out.trans (hb2.mono (by omega)))
  have hs2 := hb2.size
  have hml := hmp.lt
  have HRF := Lib.hid (M.remF_met HVA.out HSM.out)
  have HBD := Lib.hid (fun k (hk : M.wayO m s (M.wonB m) = some k) => M.rem_small HVA.out HSM.out hk)
  have hs64 : M.size64 m ≤ 768 := by unfold M.size64; omega
  clear hmp hb2 c0 c1 c2 RM
  obtain ⟨k0, k1⟩ := Z2.out.cells
  cases hr : M.wayO m s (M.wonB m) with
  | none =>
    have HE : Hid (M.remF m s = none) := Lib.hid (by rw [HRF.out]; exact hr)
    have HW : Hid (wayV m s = []) := Lib.hid (by unfold wayV; rw [hr])
    have HR := Lib.hid hr
    clear hr
    go_wp2_with (refine wpList_lookS rfl _ _ rfl mb _ _ rfl M2.out s (st64 HVA.out HSM.out.1) _ HE.out rfl ?_)
    go_ret2
    have hok : (M.wayO m s (M.wonB m)).isSome = false := by rw [HR.out]; rfl
    rw [HW.out, hok]
    have ho := ownsRow_empty w2 w.heap.size 3 1 (by have := HB2.out.size; omega)
    exact intsOk_end (l := []) (ok := false) ho (HB2.out.alloc (by have := HB2.out.size; omega) _)
  | some n =>
    have HE : Hid (M.remF m s = some n) := Lib.hid (by rw [HRF.out]; exact hr)
    have HW : Hid (wayV m s = M.wayL m n s) := Lib.hid (by unfold wayV; rw [hr])
    have hn := HBD.out n hr
    have HR := Lib.hid hr
    have HTL := Lib.hid (M.wayL_len m n s)
    clear hr
    go_wp2_with (refine wpList_lookS rfl _ _ rfl mb _ _ rfl M2.out s (st64 HVA.out HSM.out.1) _ HE.out rfl ?_)
    have hl1 := HB2.out.size
    have hzl := Z2.out.lt
    have o3 : (w2.alloc (.cells #[.int .i64 s.1] 3)).ownsRow (w.heap.size + 1 + 1) 3 1 (.slice (some ⟨w2.heap.size, 0, none⟩) 1 1) ([] : List Int).length.succ (M.encIs ([] ++ [s.1])) :=
      ⟨by simp [M.encIs], .inr ⟨w2.heap.size, 1, _, rfl, by omega, heap_alloc_new w2 _, Nat.le_refl _, by unfold maxLen; omega, by simp, by simp [M.encIs]⟩⟩
    have O3 := Lib.hid o3
    have X3 := Lib.hid (X2.out.alloc (.cells #[.int .i64 s.1] 3))
    have Z3 := Lib.hid (Z2.out.alloc (.cells #[.int .i64 s.1] 3))
    have M3 := Lib.hid (M2.out.below (below_alloc w2 (.cells #[.int .i64 s.1] 3)) hml)
    have B3 := Lib.hid (HB2.out.alloc (by omega) (.cells #[.int .i64 s.1] 3))
    clear o3 k0 k1
    go_loopw [9] (fun v9 wr => ∃ (k : Nat) (u1 u2 : Int) (P : List Int), M.wayO m (u1, u2) (M.wonB m) = some k ∧ M.Met m (u1, u2) ∧ P ++ M.wayL m k (u1, u2) = M.wayL m n s ∧ wr.ownsRow (w.heap.size + 1 + 1) 3 1 v9 P.length.succ (M.encIs (P ++ [u1])) ∧ Box3 wr w.heap.size 29 (.int .i64 m.size) (.slice a m.doors.length c) (.slice b m.keys.length d) ∧
      Box2 wr (w.heap.size + 1) 65 (.int .i64 u1) (.int .i64 u2) ∧ MapP wr mb L (M.remF m) ∧ Below w.heap.size w wr) (fun v9 _ => n + 1 - sliceN v9)
    case atStart => exact ⟨n, s.1, s.2, [], HR.out, HSM.out, rfl, O3.out, X3.out, Z3.out, M3.out, B3.out⟩
    case round =>
      obtain ⟨k, u1, u2, P, hk, hmet, htot, ho, hx, hz3, hm3, hlow⟩ := hrel
      obtain ⟨la, lc, hv, hl1', hl2', _⟩ := own_slice ho
      subst hv
      have HK := Lib.hid hk
      have ME := Lib.hid hmet
      have TO := Lib.hid htot
      have OO := Lib.hid ho
      have XX := Lib.hid hx
      have ZZ := Lib.hid hz3
      have MM := Lib.hid hm3
      have LL := Lib.hid hlow
      have hlen : P.length + k = n := by
        have := congrArg List.length htot
        rw [List.length_append, M.wayL_len, M.wayL_len] at this
        omega
      have hzr := hlow.size
      have hmml := hm3.lt
      have hzzl := hz3.lt
      have HWZ := Lib.hid (M.won_zero (m := m) (s := (u1, u2)))
      have HWX : Hid (M.wonB m (u1, u2) = (u1 == m.size - 1)) := Lib.hid rfl
      obtain ⟨c0, c1, c2⟩ := hx.cells
      obtain ⟨k0, k1⟩ := hz3.cells
      have IW := isWon_any wr m a b c d v1 v12 (u1, u2)
      clear hk hmet htot ho hx hz3 hm3 hlow
      cases k with
      | zero =>
        have hw : M.wonB m (u1, u2) = true := HWZ.out.2 HK.out
        rw [HWX.out] at hw
        simp only at IW
        rw [hw] at IW
        have IW1 := Lib.hid IW
        clear IW hw
        go_wp2_with fail
        refine (IW1.out).mono ?_
        rintro e w3 ⟨rfl, hb3⟩
        have O4 := Lib.hid (own_below OO.out hb3)
        have L4 := Lib.hid (LL.out.trans (hb3.mono hzr))
        clear hb3
        go_wp2_with fail
        go_ret2
        have hok : (M.wayO m s (M.wonB m)).isSome = true := by rw [HR.out]; rfl
        rw [HW.out, hok, ← TO.out]
        have ht : P ++ M.wayL m 0 (u1, u2) = P ++ [u1] := rfl
        rw [ht]
        exact intsOk_end (ok := true) (by rw [List.length_append]; exact own_weak O4.out (by omega)) L4.out
      | succ j =>
        have hw : M.wonB m (u1, u2) = false := by
          cases e : M.wonB m (u1, u2) with
          | false => rfl
          | true => have := HWZ.out.1 e; rw [HK.out] at this; cases this
        rw [HWX.out] at hw
        simp only at IW
        rw [hw] at IW
        have IW1 := Lib.hid IW
        clear IW hw
        obtain ⟨t1, t2, hnx⟩ : ∃ t1 t2, M.nxS m (u1, u2) j = (t1, t2) := ⟨_, _, rfl⟩
        have HNX := Lib.hid hnx
        have HOK := M.nxS_ok HK.out
        have HNF := M.near_first HVA.out ME.out HK.out
        rw [hnx] at HOK HNF
        have HO1 := Lib.hid HOK.1
        have HO2 := Lib.hid HOK.2
        have HN0 := Lib.hid HNF
        clear HOK HNF hnx
        go_wp2_with fail
        refine (IW1.out).mono ?_
        rintro e w3 ⟨rfl, hb3⟩
        have O4 := Lib.hid (own_below OO.out hb3)
        have L4 := Lib.hid (LL.out.trans (hb3.mono hzr))
        have X4 := Lib.hid (XX.out.below hb3)
        have Z4 := Lib.hid (ZZ.out.below hb3)
        have M4 := Lib.hid (MM.out.below hb3 hmml)
        have hs3 := hb3.size
        clear hb3 c0 c1 c2 k0 k1
        obtain ⟨c0, c1, c2⟩ := X4.out.cells
        obtain ⟨k0, k1⟩ := Z4.out.cells
        have NR := Lib.hid (nearer_any w3 lo hi m a b c d (H.out.below L4.out hz) (by have := L4.out.size; omega) HVA.out (u1, u2) ME.out.1 mb L M4.out)
        go_wp2_with fail
        refine (NR.out).mono ?_
        rintro e w5 ⟨a5, c5, rfl, ho5, hc5, hc5m, hb5⟩
        have hn0 : 0 < (M.nearL m (u1, u2)).length := (List.getElem?_eq_some_iff.1 HN0.out).1
        have hn1 : (M.nearL m (u1, u2))[0] = (t1, t2) := (List.getElem?_eq_some_iff.1 HN0.out).2
        obtain ⟨rb, roff, hra, hrb1, hrb2, hrc⟩ := ho5.row.at_ (k := 0) (by rw [M.encSs_len]; omega)
        subst hra
        have y0 := hrc _ _ (M.encSs_at0 hn0)
        have y1 : w5.cell? ⟨rb, roff + 0 * 2 + 1, none⟩ = _ := hrc _ _ (M.encSs_at1 hn0)
        rw [hn1] at y0 y1
        rw [Nat.zero_mul, Nat.add_zero] at y0 y1
        have O5 := Lib.hid (own_below O4.out hb5)
        have L5 := Lib.hid (L4.out.trans (hb5.mono (by omega)))
        have X5 := Lib.hid (X4.out.below hb5)
        have Z5 := Lib.hid (Z4.out.below hb5)
        have M5 := Lib.hid (M4.out.below hb5 M4.out.lt)
        have hs5 := hb5.size
        have hnl5 : (0 : Int) < ((M.nearL m (u1, u2)).length : Int) := by omega
        clear hrc ho5 hb5 c0 c1 c2 k0 k1 hn1
        obtain ⟨k0, k1⟩ := Z5.out.cells
        obtain ⟨f0, f1⟩ := Z5.out.free
        have hzl5 := Z5.out.lt
        go_upto_region 8 with fail
        refine wp_named ?_
        intro W8 hW8
        have Z8 : Hid (Box2 W8 (w.heap.size + 1) 65 (.int .i64 t1) (.int .i64 t2)) := Lib.hid (by rw [hW8]; exact Z5.out.setAll _ _)
        have TU := Turned.set2 (w := w5) (w.heap.size + 1) (.int .i64 t1) (.int .i64 t2)
        rw [← hW8] at TU
        have O8 := Lib.hid (own_turnedB O5.out TU (Nat.le_refl _))
        have X8 := Lib.hid (X5.out.turned TU (.inl (Nat.lt_succ_self _)))
        have M8 := Lib.hid (M5.out.turned TU (by omega))
        have L8 := Lib.hid (Below.thenTurned L5.out TU (by omega) (by omega))
        have HNB : Hid ((Value.slice la P.length.succ lc).ownBlock ≠ some mb) := Lib.hid (OwnQ.ne (OwnQ.of_own O8.out) fun cur f => M8.out.block cur _ f)
        have HNX3 := Lib.hid (own_ne_box O8.out X8.out (by decide))
        have HNX2 := Lib.hid (own_ne_box2 O8.out Z8.out (by decide))
        have hs8 : w5.heap.size ≤ W8.heap.size := TU.size
        have hl8 := L8.out.size
        clear hW8 TU y0 y1 k0 k1 f0 f1
        obtain ⟨k0, k1⟩ := Z8.out.cells
        go_wp2_with (at_builtin; refine wpList_append_own _ rfl _ _ 23 rfl (w.heap.size + 1 + 1) 3 ii0 (.int .i64 0) 1 8 Try.underlying23 hi0 hz0 hzz1 hz2 rfl (by decide) _ _ _ rfl (O8.out.alloc _) ⟨W8.heap.size, 0, none⟩ 1 1 [.int .i64 t1] rfl rfl (cell_one_new _ _ _) (fun x hx => by simp at hx; subst hx; rfl) (by unfold maxLen; omega) (by omega) (by simp; omega) ?_; intro v' w7 hown' hgrow7 hnil7)
        go_roundw
        case rel =>
          have hg7 := hgrow7.size
          refine ⟨j, t1, t2, P ++ [u1], HO2.out, M.met_next HVA.out ME.out HO1.out, ?_, ?_, (X8.out.alloc _).grown hgrow7 HNX3.out, (Z8.out.alloc _).grown hgrow7 HNX2.out, (M8.out.below (below_alloc _ _) M8.out.lt).grown hgrow7 (fun e => HNB.out e.symm), (L8.out.alloc (by omega) _).grown hgrow7 (by simp; omega) (fun z hz => by have := own_base O8.out z hz; omega)⟩
          · rw [List.append_assoc, ← TO.out]
            congr 1
            show [u1] ++ M.wayL m j (t1, t2) = u1 :: M.wayL m j (M.nxS m (u1, u2) j)
            rw [HNX.out]
            rfl
          · have hl9 : (P ++ [u1]).length.succ = P.length.succ + 1 := by rw [List.length_append]; rfl
            rw [hl9, M.encIs_append]
            exact hown'
        case measure =>
          have hsl := hown'.1
          obtain ⟨_, _, hv9, _⟩ := own_slice hown'
          rw [hv9]
          simp [sliceN]
          omega
end C
end Go.Proofs.Ytcoaggnilgfjfaa
