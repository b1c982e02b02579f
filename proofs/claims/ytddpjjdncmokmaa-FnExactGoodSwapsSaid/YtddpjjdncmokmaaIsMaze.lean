/-
  CONTRACT of impl.IsMaze: it tells whether a maze is valid; what lay in memory stays. No condition but that the maze reads so.
-/
import Derived.Test.YtddpjjdncmokmaaNode
import Derived.Sort.Grow
import Derived.IntWalk
import Derived.Shelf.SlSortCmp.QuietGrown
namespace Go.Proofs.Ytddpjjdncmokmaa
open Go.RowKit
namespace C
set_option maxHeartbeats 800000
set_option maxRecDepth 20000
theorem notSet_any (x : Int) (w : World) : Calls Try.prog 124 #[.int .i64 x] w fun e w' => e = .returned (.bool (!M.setB x)) ∧ w = w' := by
  go_enter Try.func124, Try.ntmps124
  go_wp2_with fail
  refine (isSet_any _ _).mono ?_
  rintro e w' ⟨rfl, rfl⟩
  go_wp2_with fail
  go_ret
  exact ⟨rfl, rfl⟩
theorem keysB_any (l : List Int) : M.keysB l = !(l.any fun x => !M.setB x) := by
  unfold M.keysB
  rw [List.all_eq_not_any_not]
def keysLenB (m : M.Mz) : Bool := decide ((m.keys.length : Int) = m.size)
theorem validKeys_any (w : World) (lo hi : Nat) (m : M.Mz) (a b : Option Addr) (c d : Nat) (h : MzIn lo hi w m a c b d) (hz : hi ≤ w.heap.size) (hs : m.size ≤ 12) :
    Calls Try.prog 101 #[.agg #[.int .i64 m.size, .slice a m.doors.length c, .slice b m.keys.length d]] w fun e w' => e = .returned (.bool (keysLenB m && M.keysB m.keys)) ∧ Below w.heap.size w w' := by
  have H := Lib.hid h
  have hd1 := h.d1
  have hd2 := h.d2
  clear h
  by_cases hl : (m.keys.length : Int) = m.size
  · have HL : Hid (keysLenB m = true) := Lib.hid (decide_eq_true hl)
    have hbl : (((m.keys.length : Nat) : Int) == m.size) = true := by simpa using hl
    have hle : m.keys.length ≤ 12 := by omega
    have HK := Lib.hid (keysB_any m.keys)
    rw [HL.out, Bool.true_and]
    clear hl
    go_enter Try.func101, Try.ntmps101
    go_wp2_with fail
    refine named ?_
    intro W hW
    have hb : Below w.heap.size w W := by rw [hW]; exact (Below.refl _ _).alloc (Nat.le_refl _) _
    clear hW
    have HB := Lib.hid hb
    have hzw := hb.size
    refine (containsFunc_any 124 #[] (fun x => !M.setB x) (enters_of Try.func124 (by kernel_rfl) rfl) W lo hi b d m.keys (fun W' x _ => (notSet_any x W').mono fun _ _ ⟨he, hw⟩ => ⟨he, by rw [← hw]; exact Below.refl _ _⟩) (H.out.below hb hz).keys (by omega) (by omega)).mono ?_
    rintro e w1 ⟨rfl, hb1⟩
    have HB1 := Lib.hid (hb.trans (hb1.mono hzw))
    clear hb1 hb
    go_wp2_with fail
    go_ret
    exact ⟨by rw [HK.out]; rfl, HB1.out⟩
  · have HL : Hid (keysLenB m = false) := Lib.hid (decide_eq_false hl)
    have hbl : (((m.keys.length : Nat) : Int) == m.size) = false := by simpa using hl
    rw [HL.out, Bool.false_and]
    clear hl
    go_enter Try.func101, Try.ntmps101
    go_wp2_with fail
    go_ret
    exact ⟨rfl, below_alloc _ _⟩
theorem cmpD_lt {d e : M.Dr} : M.cmpD d e < 0 ↔ M.ltD d e = true := by
  unfold M.cmpD
  split
  · rename_i h; simp [h]
  · rename_i h; split <;> simp_all

theorem stepB_no1 {n : Int} {l : List M.Dr} {k : Nat} (h : k < l.length) (hd : M.doorB n l[k] = false) : M.doorsB n l = false := by
  refine M.all_range_no h ?_
  rw [Bool.eq_false_iff]
  intro hs
  have := ((M.stepB_iff h).1 hs).1
  rw [hd] at this
  cases this
theorem stepB_no2 {n : Int} {l : List M.Dr} {k : Nat} (h : k < l.length) (h0 : 0 < k) (hd : M.ltD (l.getD (k - 1) default) l[k] = false) : M.doorsB n l = false := by
  refine M.all_range_no h ?_
  rw [Bool.eq_false_iff]
  intro hs
  have := ((M.stepB_iff h).1 hs).2 h0
  rw [hd] at this
  cases this
def fewB (m : M.Mz) : Bool := decide (m.doors.length ≤ 30)
def DoorsPost (w : World) (m : M.Mz) (e : Ending) (w' : World) : Prop := e = .returned (.bool (fewB m && M.doorsB m.size m.doors)) ∧ Below w.heap.size w w'
theorem validDoors_any (w : World) (lo hi : Nat) (m : M.Mz) (a b : Option Addr) (c d : Nat) (h : MzIn lo hi w m a c b d) (hz : hi ≤ w.heap.size) :
    Calls Try.prog 102 #[.agg #[.int .i64 m.size, .slice a m.doors.length c, .slice b m.keys.length d]] w (DoorsPost w m) := by
  have H := Lib.hid h
  have hc1 := h.c1
  have hc2 := h.c2
  clear h
  by_cases hl : m.doors.length ≤ 30
  · have HL : Hid (fewB m = true) := Lib.hid (decide_eq_true hl)
    go_enter Try.func102, Try.ntmps102
    go_wp2_with fail
    go_loopw [3, 4, 12] (fun _ _ i wr => ∃ (k : Nat), k ≤ m.doors.length ∧ i = .int .i64 k ∧ (∀ j, j < k → M.stepB m.size m.doors j = true) ∧ Box3 wr w.heap.size 27 (.int .i64 m.size) (.slice a m.doors.length c) (.slice b m.keys.length d) ∧ Below w.heap.size w wr) (fun _ _ i _ => m.doors.length - (intOf i).toNat)
    case atStart => exact ⟨0, Nat.zero_le _, rfl, fun j h => by omega, Box3.new _ _ _ _ rfl, below_alloc _ _⟩
    case round =>
      obtain ⟨k, hk, rfl, hall, hbox, hnx⟩ := hrel
      have HA := Lib.hid hall
      have HN := Lib.hid hnx
      have HBX := Lib.hid hbox
      have hzr := hnx.size
      have hbl := hbox.lt
      obtain ⟨x0, x1, x2⟩ := hbox.cells
      clear hall hnx hbox
      by_cases hlt : k < m.doors.length
      · obtain ⟨db, off, rfl, _, hb, hc0⟩ := (H.out.doors.below HN.out hz).at_ (k := k * 3) (by rw [M.encDs_len]; omega)
        have a0 := hc0 _ _ (M.encDs_at0 hlt)
        have a1 : wr.cell? ⟨db, off + k * 3 + 1, none⟩ = some (.int .i64 m.doors[k].2.1) := hc0 _ _ (M.encDs_at1 hlt)
        have a2 : wr.cell? ⟨db, off + k * 3 + 2, none⟩ = some (.int .i64 m.doors[k].2.2) := hc0 _ _ (M.encDs_at2 hlt)
        have HC := Lib.hid hc0
        clear hc0
        generalize hdk : m.doors[k] = dk at a0 a1 a2
        have HDK := Lib.hid hdk
        clear hdk
        obtain ⟨dx, dy, dz⟩ := dk
        have hD : M.doorB m.size m.doors[k] = (M.nodeB m.size dx && M.nodeB m.size dy && decide (dx < dy) && M.setB dz) := by
          rw [HDK.out]
          unfold M.doorB M.nodeB M.setB
          rw [Bool.eq_iff_iff]
          simp only [Bool.and_eq_true, decide_eq_true_eq]
          omega
        have HD := Lib.hid hD
        clear hD
        simp only at a0 a1 a2
        cases q0 : M.nodeB m.size dx with
        | false =>
          have HF : Hid (M.doorsB m.size m.doors = false) := Lib.hid (stepB_no1 hlt (by rw [HD.out, q0]; rfl))
          have Q0 := Lib.hid q0
          clear q0
          go_wp2_with fail
          refine (hasNode_any m _ _ _ _ _ _).mono ?_
          rintro e w1 ⟨rfl, rfl⟩
          rw [Q0.out]
          go_wp2_with fail
          go_ret
          exact ⟨by rw [HL.out, HF.out]; rfl, by (repeat (first | exact HN.out | (refine Below.alloc ?_ (by first | omega | (simp; omega)) _) | (refine Below.drawnN ?_ _)))⟩
        | true =>
          have Q0 := Lib.hid q0
          clear q0
          cases q1 : M.nodeB m.size dy with
          | false =>
            have HF : Hid (M.doorsB m.size m.doors = false) := Lib.hid (stepB_no1 hlt (by rw [HD.out, q1, Q0.out]; rfl))
            have Q1 := Lib.hid q1
            clear q1
            go_wp2_with fail
            refine (hasNode_any m _ _ _ _ _ _).mono ?_
            rintro e w1 ⟨rfl, rfl⟩
            rw [Q0.out]
            go_wp2_with fail
            refine (hasNode_any m _ _ _ _ _ _).mono ?_
            rintro e w1 ⟨rfl, rfl⟩
            rw [Q1.out]
            go_wp2_with fail
            go_ret
            exact ⟨by rw [HL.out, HF.out]; rfl, by (repeat (first | exact HN.out | (refine Below.alloc ?_ (by first | omega | (simp; omega)) _) | (refine Below.drawnN ?_ _)))⟩
          | true =>
            have Q1 := Lib.hid q1
            clear q1
            by_cases q2 : dx < dy
            · cases q3 : M.setB dz with
              | false =>
                have HF : Hid (M.doorsB m.size m.doors = false) := Lib.hid (stepB_no1 hlt (by rw [HD.out, q3, Q0.out, Q1.out]; simp))
                have Q3 := Lib.hid q3
                clear q3
                go_wp2_with fail
                refine (hasNode_any m _ _ _ _ _ _).mono ?_
                rintro e w1 ⟨rfl, rfl⟩
                rw [Q0.out]
                go_wp2_with fail
                refine (hasNode_any m _ _ _ _ _ _).mono ?_
                rintro e w1 ⟨rfl, rfl⟩
                rw [Q1.out]
                go_wp2_with fail
                refine (isSet_any _ _).mono ?_
                rintro e w1 ⟨rfl, rfl⟩
                rw [Q3.out]
                go_wp2_with fail
                go_ret
                exact ⟨by rw [HL.out, HF.out]; rfl, by (repeat (first | exact HN.out | (refine Below.alloc ?_ (by first | omega | (simp; omega)) _) | (refine Below.drawnN ?_ _)))⟩
              | true =>
                have Q3 := Lib.hid q3
                clear q3
                have HY : Hid (M.doorB m.size m.doors[k] = true) := Lib.hid (by rw [HD.out, Q0.out, Q1.out, Q3.out, decide_eq_true q2]; rfl)
                rcases Nat.eq_zero_or_pos k with hk0 | hk0
                · have hk1 : ¬ 0 < k := by omega
                  have hg : decide ((0 : Int) < (k : Int)) = false := decide_eq_false (by omega)
                  have HS : Hid (M.stepB m.size m.doors k = true) := Lib.hid ((M.stepB_iff hlt).2 ⟨HY.out, fun h => absurd h hk1⟩)
                  have HK0 := Lib.hid hk0
                  clear hk0
                  go_wp2_with fail
                  refine (hasNode_any m _ _ _ _ _ _).mono ?_
                  rintro e w1 ⟨rfl, rfl⟩
                  rw [Q0.out]
                  go_wp2_with fail
                  refine (hasNode_any m _ _ _ _ _ _).mono ?_
                  rintro e w1 ⟨rfl, rfl⟩
                  rw [Q1.out]
                  go_wp2_with fail
                  refine (isSet_any _ _).mono ?_
                  rintro e w1 ⟨rfl, rfl⟩
                  rw [Q3.out]
                  go_wp2_with fail
                  go_quiet (fail)
                  go_wp2_with fail
                  go_roundw
                  case rel => exact ⟨k + 1, by omega, by go_num, fun j hj => by
                    rcases Nat.lt_or_ge j k with h | h
                    · exact HA.out j h
                    · obtain rfl : j = k := by omega
                      exact HS.out, ((HBX.out.alloc _).alloc _).alloc _, by (repeat (first | exact HN.out | (refine Below.alloc ?_ (by first | omega | (simp; omega)) _) | (refine Below.drawnN ?_ _)))⟩
                  case measure => simp [intOf]; omega
                · obtain ⟨j, rfl⟩ : ∃ j, k = j + 1 := ⟨k - 1, by omega⟩
                  obtain ⟨r, hr⟩ : ∃ r, r = M.cmpD (m.doors[j]'(by omega)) (dx, dy, dz) := ⟨_, rfl⟩
                  have CP := Lib.hid (fun W => compareDoors_any (m.doors[j]'(by omega)) (dx, dy, dz) W)
                  rw [← hr] at CP
                  have hgd : M.ltD (m.doors.getD (j + 1 - 1) default) m.doors[j + 1] = M.ltD (m.doors[j]'(by omega)) (dx, dy, dz) := by
                    rw [HDK.out, Nat.add_sub_cancel, List.getD_eq_getElem?_getD, List.getElem?_eq_getElem (by omega)]
                    rfl
                  have HR : Hid (r < 0 ↔ M.ltD (m.doors.getD (j + 1 - 1) default) m.doors[j + 1] = true) := Lib.hid (by rw [hgd, hr]; exact cmpD_lt)
                  clear hr hgd
                  have p0 : wr.cell? ⟨db, off + j * 3, none⟩ = some (.int .i64 (m.doors[j]'(by omega)).1) := HC.out _ _ (M.encDs_at0 (by omega))
                  have p1 : wr.cell? ⟨db, off + j * 3 + 1, none⟩ = some (.int .i64 (m.doors[j]'(by omega)).2.1) := HC.out _ _ (M.encDs_at1 (by omega))
                  have p2 : wr.cell? ⟨db, off + j * 3 + 2, none⟩ = some (.int .i64 (m.doors[j]'(by omega)).2.2) := HC.out _ _ (M.encDs_at2 (by omega))
                  go_wp2_with fail
                  refine (hasNode_any m _ _ _ _ _ _).mono ?_
                  rintro e w1 ⟨rfl, rfl⟩
                  rw [Q0.out]
                  go_wp2_with fail
                  refine (hasNode_any m _ _ _ _ _ _).mono ?_
                  rintro e w1 ⟨rfl, rfl⟩
                  rw [Q1.out]
                  go_wp2_with fail
                  refine (isSet_any _ _).mono ?_
                  rintro e w1 ⟨rfl, rfl⟩
                  rw [Q3.out]
                  go_wp2_with fail
                  refine wp_named ?_
                  intro W hW
                  have hbW : Below wr.heap.size wr W := by rw [hW]; exact (((Below.refl _ _).alloc (by omega) _).alloc (by simp) _).alloc (by simp; omega) _
                  have hdb : Box3 W wr.heap.size 97 (.int .i64 dx) (.int .i64 dy) (.int .i64 dz) := by rw [hW]; exact ((Box3.new _ _ _ _ rfl).alloc _).alloc _
                  clear hW
                  have hmb := HBX.out.below hbW
                  obtain ⟨m0, m1, m2⟩ := hmb.cells
                  obtain ⟨e0, e1, e2⟩ := hdb.cells
                  have hdw : db < wr.heap.size := by omega
                  have hw1 : IntKind.i64.wrap ((j : Int) + 1 - 1) = (j : Int) := by rw [IntWalk.i64_in _ (by omega)]; omega
                  have hw2 : IntKind.i64.wrap (j : Int) = (j : Int) := IntWalk.i64_in _ (by omega)
                  have hjl : j < m.doors.length := by omega
                  have hjl2 : (j : Int) < (m.doors.length : Int) := by omega
                  have r0 := (hbW.cell (p := ⟨db, off + j * 3, none⟩) hdw).trans p0
                  have r1 := (hbW.cell (p := ⟨db, off + j * 3 + 1, none⟩) hdw).trans p1
                  have r2 := (hbW.cell (p := ⟨db, off + j * 3 + 2, none⟩) hdw).trans p2
                  have hdl := hdb.lt
                  have hml := hmb.lt
                  have M1 := cell_grown hml m1
                  have E0 := cell_grown hdl e0
                  have E1 := cell_grown hdl e1
                  have E2 := cell_grown hdl e2
                  have hdW : db < W.heap.size := by have := hbW.size; omega
                  have R0 := cell_grown (a := ⟨db, off + j * 3, none⟩) hdW r0
                  have R1 := cell_grown (a := ⟨db, off + j * 3 + 1, none⟩) hdW r1
                  have R2 := cell_grown (a := ⟨db, off + j * 3 + 2, none⟩) hdW r2
                  have mixed : Try.prog.follows .mixedOrders = true := by kernel_rfl
                  have HMB := Lib.hid hmb
                  have hzW := hbW.size
                  have HBW := Lib.hid (HN.out.trans (hbW.mono hzr))
                  clear hmb hdb p0 p1 p2 x0 x1 x2 a0 a1 a2 hbW m0 m1 m2 e0 e1 e2 r0 r1 r2
                  have hg : decide ((0 : Int) < (j : Int) + 1) = true := decide_eq_true (by omega)
                  by_cases hr0 : r < 0
                  · have HS : Hid (M.stepB m.size m.doors (j + 1) = true) := Lib.hid ((M.stepB_iff hlt).2 ⟨HY.out, fun _ => HR.out.1 hr0⟩)
                    go_quiet_grown (first | (go_at_call 125; refine Calls.grown_of (CP.out _)))
                    go_wp2_with fail
                    go_roundw
                    case rel => exact ⟨j + 1 + 1, by omega, by go_num, fun i hi => by
                      rcases Nat.lt_or_ge i (j + 1) with h | h
                      · exact HA.out i h
                      · obtain rfl : i = j + 1 := by omega
                        exact HS.out, HMB.out.below (below_grown W _ _), HBW.out.trans ((below_grown W _ _).mono (by omega))⟩
                    case measure => simp [intOf]; omega
                  · have HF : Hid (M.doorsB m.size m.doors = false) := Lib.hid (stepB_no2 hlt (by omega) (by
                      rw [Bool.eq_false_iff]
                      exact fun h => hr0 (HR.out.2 h)))
                    go_quiet_grown (first | (go_at_call 125; refine Calls.grown_of (CP.out _)))
                    go_wp2_with fail
                    go_ret
                    exact ⟨by rw [HL.out, HF.out]; rfl, HBW.out.trans ((below_grown W _ _).mono (by omega))⟩
            · have HF : Hid (M.doorsB m.size m.doors = false) := Lib.hid (stepB_no1 hlt (by rw [HD.out, decide_eq_false q2]; simp))
              go_wp2_with fail
              refine (hasNode_any m _ _ _ _ _ _).mono ?_
              rintro e w1 ⟨rfl, rfl⟩
              rw [Q0.out]
              go_wp2_with fail
              refine (hasNode_any m _ _ _ _ _ _).mono ?_
              rintro e w1 ⟨rfl, rfl⟩
              rw [Q1.out]
              go_wp2_with fail
              go_ret
              exact ⟨by rw [HL.out, HF.out]; rfl, by (repeat (first | exact HN.out | (refine Below.alloc ?_ (by first | omega | (simp; omega)) _) | (refine Below.drawnN ?_ _)))⟩
      · obtain rfl : k = m.doors.length := by omega
        have HF : Hid (M.doorsB m.size m.doors = true) := Lib.hid (M.all_range_take.2 HA.out)
        go_wp2_with fail
        go_ret
        exact ⟨by rw [HL.out, HF.out]; rfl, HN.out⟩
  · have HL : Hid (fewB m = false) := Lib.hid (decide_eq_false hl)
    have hl' : 30 < m.doors.length := by omega
    go_enter Try.func102, Try.ntmps102
    go_wp2_with fail
    go_ret
    exact ⟨by rw [HL.out]; rfl, below_alloc _ _⟩
end C
end Go.Proofs.Ytddpjjdncmokmaa
