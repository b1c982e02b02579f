/-
  CONTRACTS of visits: whether one is valid (the model's l8Visit, the program's isVisit), what is behind an act (l8Do, behind); what lay in memory stays. Condition for what is behind: valid works, a valid visit, an act that may be possible.
-/
import Derived.Test.YtdgfceiobpnchaaWkSpec
import Derived.Test.YtdgfceiobpnchaaWkImp
import Derived.Test.YtdgfceiobpnchaaWkA
import Derived.Test.YtdgfceiobpnchaaBox2
import Derived.Deep.DeepCutAuto
namespace Go.Proofs.Ytdgfceiobpnchaa
open Go.RowKit
namespace C
set_option maxHeartbeats 3200000
set_option maxRecDepth 20000
theorem visitB_off {m : M.Wk} (h : M.worksB m = false) (x lev : Int) : M.visitB m x lev = false := by unfold M.visitB; rw [h]; rfl
theorem visitB_on {m : M.Wk} (h : M.worksB m = true) (x lev : Int) : M.visitB m x lev = (M.nodeB m.size x && M.setB lev) := by unfold M.visitB; rw [h]; rfl
theorem visitB_iff {m : M.Wk} {x lev : Int} (h : M.visitB m x lev = true) : M.WV m ∧ M.VsOk m (x, lev) := by
  unfold M.visitB M.nodeB M.setB at h
  rw [Bool.and_eq_true, Bool.and_eq_true, decide_eq_true_eq, decide_eq_true_eq] at h
  exact ⟨M.wv_of h.1, h.2.1.1, h.2.1.2, h.2.2.1, h.2.2.2⟩
theorem l8Visit_any (w : World) (lo hi : Nat) (m : M.Wk) (a b : Option Addr) (c d : Nat) (h : WkIn lo hi w m a c b d) (hz : hi ≤ w.heap.size) (x lev : Int) :
    Calls Try.prog 70 #[.agg #[.int .i64 m.size, .slice a m.gates.length c, .slice b m.pulls.length d], .int .i64 x, .int .i64 lev] w (BoolPost w (M.visitB m x lev)) := by
  have H := Lib.hid h
  clear h
  go_enter Try.func70, Try.ntmps70
  go_wp2_with fail
  refine named ?_
  intro W hW
  have hb : Below w.heap.size w W := by rw [hW]; exact below_alloc _ _
  have x1 : Box3 W w.heap.size 28 (.int .i64 m.size) (.slice a m.gates.length c) (.slice b m.pulls.length d) := by rw [hW]; exact Box3.new _ _ _ _ rfl
  clear hW
  have hzw := hb.size
  refine (specWorks_any W lo hi m a b c d (H.out.below hb hz) (by omega)).mono ?_
  rintro e w1 ⟨rfl, hb1⟩
  have X1 := Lib.hid (x1.below hb1)
  have HB1 := Lib.hid (hb.trans (hb1.mono hzw))
  clear x1 hb hb1
  obtain ⟨c10, c11, c12⟩ := X1.out.cells
  cases q0 : M.worksB m with
  | false =>
    have HF := Lib.hid (visitB_off q0 x lev)
    clear q0
    go_wp2_with fail
    go_ret
    exact ⟨by rw [HF.out]; rfl, HB1.out⟩
  | true =>
    have HF := Lib.hid (visitB_on q0 x lev)
    have v1 := (M.wv_of q0).size1
    have v12 := (M.wv_of q0).size12
    clear q0
    have hin : M.inB x 0 (m.size - 1) = M.nodeB m.size x := by unfold M.inB M.nodeB; congr 1; apply propext; omega
    have HIN := Lib.hid hin
    clear hin
    have hw1 : IntKind.i64.wrap (m.size - 1) = m.size - 1 := IntWalk.i64_in _ (by omega)
    cases q1 : M.nodeB m.size x with
    | false =>
      have HF2 : Hid (M.visitB m x lev = false) := Lib.hid (by rw [HF.out, q1]; rfl)
      have Q := Lib.hid (HIN.out.trans q1)
      clear q1
      go_wp2_with fail
      refine (l1In_any _ _ _ _).mono ?_
      rintro e w2 ⟨rfl, rfl⟩
      rw [Q.out]
      go_wp2_with fail
      go_ret
      exact ⟨by rw [HF2.out]; rfl, HB1.out⟩
    | true =>
      have HF2 : Hid (M.visitB m x lev = M.setB lev) := Lib.hid (by rw [HF.out, q1]; rfl)
      have Q := Lib.hid (HIN.out.trans q1)
      clear q1
      go_wp2_with fail
      refine (l1In_any _ _ _ _).mono ?_
      rintro e w2 ⟨rfl, rfl⟩
      rw [Q.out]
      go_wp2_with fail
      refine (l2Set_any _ _).mono ?_
      rintro e w2 ⟨rfl, rfl⟩
      go_wp2_with fail
      go_ret
      exact ⟨by rw [HF2.out]; rfl, HB1.out⟩
theorem isVisit_any (w : World) (m : M.Wk) (a b : Option Addr) (c d : Nat) (s : M.Vs) :
    Calls Try.prog 72 #[.agg #[.int .i64 m.size, .slice a m.gates.length c, .slice b m.pulls.length d], .agg #[.int .i64 s.1, .int .i64 s.2]] w (BoolPost w (M.nodeB m.size s.1 && M.setB s.2)) := by
  obtain ⟨x, lev⟩ := s
  show Calls _ _ #[_, .agg #[.int .i64 x, .int .i64 lev]] _ (BoolPost w (M.nodeB m.size x && M.setB lev))
  have hnb : M.nodeB m.size x = (decide (0 ≤ x) && decide (x < m.size)) := by unfold M.nodeB; simp
  have END : ∀ w', w' = (w.alloc (.cells #[.int .i64 m.size, .slice a m.gates.length c, .slice b m.pulls.length d] 28)).alloc (.cells #[.int .i64 x, .int .i64 lev] 71) → Below w.heap.size w w' := by
    rintro w' rfl
    exact (below_alloc _ _).alloc (by simp) _
  have HE := Lib.hid END
  clear END
  by_cases h0 : 0 ≤ x
  · by_cases h1 : x < m.size
    · have HF : Hid ((M.nodeB m.size x && M.setB lev) = M.setB lev) := Lib.hid (by rw [hnb]; simp [h0, h1])
      clear hnb
      go_enter Try.func72, Try.ntmps72
      go_wp2_with fail
      refine (areLevers_any _ _).mono ?_
      rintro e w' ⟨rfl, rfl⟩
      go_wp2_with fail
      go_ret
      exact ⟨by rw [HF.out]; rfl, HE.out _ rfl⟩
    · have HF : Hid ((M.nodeB m.size x && M.setB lev) = false) := Lib.hid (by rw [hnb]; simp [h1])
      clear hnb
      go_enter Try.func72, Try.ntmps72
      go_wp2_with fail
      go_ret
      exact ⟨by rw [HF.out]; rfl, HE.out _ rfl⟩
  · have HF : Hid ((M.nodeB m.size x && M.setB lev) = false) := Lib.hid (by rw [hnb]; simp [h0])
    clear hnb
    go_enter Try.func72, Try.ntmps72
    go_wp2_with fail
    go_ret
    exact ⟨by rw [HF.out]; rfl, HE.out _ rfl⟩
theorem pull_cell {w : World} {lo hi : Nat} {m : M.Wk} {b : Option Addr} (V : M.WV m) (h : RowIn lo hi w b (M.encIs m.pulls)) {k : Nat} (h1 : (k : Int) < m.size) :
    ∃ pb po, b = some ⟨pb, po, none⟩ ∧ pb < hi ∧ k < m.pulls.length ∧ w.cell? ⟨pb, po + k, none⟩ = some (.int .i64 (M.pullA m k)) := by
  have hl := V.pullsLen
  have hk : k < m.pulls.length := by omega
  obtain ⟨pb, po, e, _, h2, hc⟩ := h.at_ (k := k) (by rw [M.encIs_len]; exact hk)
  refine ⟨pb, po, e, h2, hk, ?_⟩
  have := hc _ _ (M.encIs_at hk)
  rwa [← M.pullA_eq hk] at this
theorem l8Do_any (w : World) (lo hi : Nat) (m : M.Wk) (a b : Option Addr) (c d : Nat) (h : WkIn lo hi w m a c b d) (hz : hi ≤ w.heap.size) (V : M.WV m) (s : M.Vs) (hs : M.VsOk m s) (act : Int) (_ha : -1 ≤ act) (_ha2 : act < 9223372036854775807) :
    Calls Try.prog 76 #[.agg #[.int .i64 m.size, .slice a m.gates.length c, .slice b m.pulls.length d], .int .i64 s.1, .int .i64 s.2, .int .i64 act] w fun e w' => e = .returned (.tuple #[.int .i64 (M.doA m s act).1, .int .i64 (M.doA m s act).2]) ∧ Below w.heap.size w w' := by
  obtain ⟨x, lev⟩ := s
  obtain ⟨h1, h2, h3, h4⟩ := hs
  simp only at h1 h2 h3 h4
  have v12 := V.size12
  have hd1 := h.d1
  have hd2 := h.d2
  obtain ⟨k, rfl⟩ : ∃ k : Nat, x = (k : Int) := ⟨x.toNat, by omega⟩
  have hk12 : k < 12 := by omega
  by_cases hneg : act < 0
  · obtain ⟨pb, po, rfl, hpb, hpl, hpc⟩ := pull_cell V h.pulls h2
    have HF : Hid (M.doA m ((k : Int), lev) act = ((k : Int), bits .xor .i64 lev (M.pullA m (k : Int)))) := Lib.hid (if_pos hneg)
    rw [HF.out]
    have hpc2 := (World.cell?_alloc_lt w (.cells #[.int .i64 m.size, .slice a m.gates.length c, .slice (some ⟨pb, po, none⟩) m.pulls.length d] 28) ⟨pb, po + k, none⟩ (show pb < _ by omega)).trans hpc
    clear h hpc HF
    generalize M.pullA m (k : Int) = pu at *
    go_enter Try.func76, Try.ntmps76
    go_wp2_with fail
    go_quiet (fail)
    go_wp2_with fail
    go_ret2
    exact ⟨rfl, Below.drawnN (below_alloc _ _) _⟩
  · have HF : Hid (M.doA m ((k : Int), lev) act = (act, lev)) := Lib.hid (if_neg hneg)
    rw [HF.out]
    clear h HF
    go_enter Try.func76, Try.ntmps76
    go_wp2_with fail
    go_ret2
    exact ⟨rfl, below_alloc _ _⟩
def VsPost (w : World) (s : M.Vs) (e : Ending) (w' : World) : Prop := e = .returned (.agg #[.int .i64 s.1, .int .i64 s.2]) ∧ Below w.heap.size w w'
theorem behind_any (w : World) (lo hi : Nat) (m : M.Wk) (a b : Option Addr) (c d : Nat) (h : WkIn lo hi w m a c b d) (hz : hi ≤ w.heap.size) (V : M.WV m) (s : M.Vs) (hs : M.VsOk m s) (act : Int) (ha : -1 ≤ act) :
    Calls Try.prog 88 #[.agg #[.int .i64 m.size, .slice a m.gates.length c, .slice b m.pulls.length d], .agg #[.int .i64 s.1, .int .i64 s.2], .int .i64 act] w (VsPost w (M.doA m s act)) := by
  obtain ⟨x, lev⟩ := s
  obtain ⟨h1, h2, h3, h4⟩ := hs
  simp only at h1 h2 h3 h4
  have v12 := V.size12
  have hd1 := h.d1
  have hd2 := h.d2
  obtain ⟨k, rfl⟩ : ∃ k : Nat, x = (k : Int) := ⟨x.toNat, by omega⟩
  have hk12 : k < 12 := by omega
  obtain ⟨pb, po, rfl, hpb, hpl, hpc⟩ := pull_cell V h.pulls h2
  by_cases hneg : act = -1
  · have HF : Hid (M.doA m ((k : Int), lev) act = ((k : Int), bits .xor .i64 lev (M.pullA m (k : Int)))) := Lib.hid (if_pos (by omega))
    have hq : (act == -1) = true := by simp [hneg]
    clear h hneg
    generalize M.pullA m (k : Int) = pu at *
    generalize M.doA m ((k : Int), lev) act = r at *
    go_enter Try.func88, Try.ntmps88
    go_upto_region 1 with fail
    refine wp_named ?_
    intro W hW
    have hb : Below w.heap.size w W := by rw [hW]; exact ((below_alloc _ _).alloc (by simp) _).alloc (by simp; omega) _
    have x1 : Box3 W w.heap.size 28 (.int .i64 m.size) (.slice a m.gates.length c) (.slice (some ⟨pb, po, none⟩) m.pulls.length d) := by rw [hW]; exact ((Box3.new _ _ _ _ rfl).alloc _).alloc _
    have y1 : Box2 W (w.heap.size + 1) 71 (.int .i64 (k : Int)) (.int .i64 lev) := by rw [hW]; exact (Box2.new _ _ _ (by simp)).alloc _
    have z1 : Box2 W (w.heap.size + 1 + 1) 71 (.int .i64 0) (.int .i64 0) := by rw [hW]; exact Box2.new _ _ _ (by simp)
    have gk : W.cell? ⟨pb, po + k, none⟩ = some (.int .i64 pu) := (hb.cell (p := ⟨pb, po + k, none⟩) (show pb < _ by omega)).trans hpc
    clear hW hpc
    obtain ⟨c0, c1, c2⟩ := x1.cells
    obtain ⟨k0, k1⟩ := y1.cells
    obtain ⟨j0, j1⟩ := z1.cells
    obtain ⟨f0, f1⟩ := z1.free
    have hzl := z1.lt
    obtain ⟨r0, r1⟩ := (z1.setAll (.int .i64 (k : Int)) (.int .i64 (bits .xor .i64 lev pu))).cells
    have HB := Lib.hid hb
    have hzw := hb.size
    clear hb x1 y1
    go_wp2_with fail
    go_region
    go_wp2_with fail
    refine bodyPost_ret (v := .agg #[.int .i64 (k : Int), .int .i64 (bits .xor .i64 lev pu)]) (by simp [results, Try.results88, go_sem, r0, r1]) rfl ?_
    exact ⟨by rw [HF.out], by first | exact Below.thenTurned HB.out (Turned.set2 _ _ _) (by omega) (by omega) | exact Below.drawnN (Below.thenTurned HB.out (Turned.set2 _ _ _) (by omega) (by omega)) 1⟩
  · have HF : Hid (M.doA m ((k : Int), lev) act = (act, lev)) := Lib.hid (if_neg (by omega))
    have hq : (act == -1) = false := by simp [hneg]
    clear h hneg hpc
    generalize M.doA m ((k : Int), lev) act = r at *
    go_enter Try.func88, Try.ntmps88
    go_upto_region 1 with fail
    refine wp_named ?_
    intro W hW
    have hb : Below w.heap.size w W := by rw [hW]; exact ((below_alloc _ _).alloc (by simp) _).alloc (by simp; omega) _
    have x1 : Box3 W w.heap.size 28 (.int .i64 m.size) (.slice a m.gates.length c) (.slice (some ⟨pb, po, none⟩) m.pulls.length d) := by rw [hW]; exact ((Box3.new _ _ _ _ rfl).alloc _).alloc _
    have y1 : Box2 W (w.heap.size + 1) 71 (.int .i64 (k : Int)) (.int .i64 lev) := by rw [hW]; exact (Box2.new _ _ _ (by simp)).alloc _
    have z1 : Box2 W (w.heap.size + 1 + 1) 71 (.int .i64 0) (.int .i64 0) := by rw [hW]; exact Box2.new _ _ _ (by simp)
    clear hW
    obtain ⟨k0, k1⟩ := y1.cells
    obtain ⟨j0, j1⟩ := z1.cells
    obtain ⟨f0, f1⟩ := z1.free
    have hzl := z1.lt
    obtain ⟨r0, r1⟩ := (z1.setAll (.int .i64 act) (.int .i64 lev)).cells
    have HB := Lib.hid hb
    have hzw := hb.size
    clear hb x1 y1
    go_wp2_with fail
    refine bodyPost_ret (v := .agg #[.int .i64 act, .int .i64 lev]) (by simp [results, Try.results88, go_sem, r0, r1]) rfl ?_
    exact ⟨by rw [HF.out], by first | exact Below.thenTurned HB.out (Turned.set2 _ _ _) (by omega) (by omega) | exact Below.drawnN (Below.thenTurned HB.out (Turned.set2 _ _ _) (by omega) (by omega)) 1⟩
end C
end Go.Proofs.Ytdgfceiobpnchaa
