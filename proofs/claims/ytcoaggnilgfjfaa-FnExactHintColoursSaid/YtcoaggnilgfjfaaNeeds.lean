/-
  CONTRACT of impl.needsBetween: the needs of the doors between two nodes, in a new list; what lay in memory stays. Condition: the maze reads so, at most 1048576 doors.
-/
import Derived.Test.YtcoaggnilgfjfaaBox2
import Derived.Test.YtcoaggnilgfjfaaUReach
import Derived.Test.YtcoaggnilgfjfaaArr2
import Derived.Laws.StructEq
namespace Go.Proofs.Ytcoaggnilgfjfaa
open Go.RowKit
namespace C
set_option maxHeartbeats 1600000
set_option maxRecDepth 20000
theorem own_ne_box2 {w : World} {B g : Nat} {e T : TypeId} {size : Nat} {v x y : Value} {n : Nat} {xs : List Value} (h : w.ownsRow B e size v n xs) (hb : Box2 w g T x y) (hne : e ≠ T) : v.ownBlock ≠ some g := by
  rcases h.2 with ⟨rfl, _⟩ | ⟨g', cap, cur, rfl, _, hh, _⟩
  · simp [Value.ownBlock]
  · intro he
    have : g' = g := by simpa [Value.ownBlock] using he
    subst this
    unfold Box2 at hb
    rw [hh] at hb
    injection hb with hb
    injection hb with _ ht
    exact hne ht
theorem own_drewN {w : World} {B : Nat} {e : TypeId} {size : Nat} {v : Value} {n : Nat} {xs : List Value} (h : w.ownsRow B e size v n xs) (k : Nat) : (w.drewN k).ownsRow B e size v n xs := h
theorem needs_any (w : World) (lo hi : Nat) (m : M.Mz) (a b : Option Addr) (c d : Nat) (x y : Int) (h : MzIn lo hi w m a c b d) (hz : hi ≤ w.heap.size) (h1 : m.doors.length ≤ 1048576) :
    Calls Try.prog 167 #[.agg #[.int .i64 m.size, .slice a m.doors.length c, .slice b m.keys.length d], .int .i64 x, .int .i64 y] w (IntsPost w (M.needs m.doors (min x y) (max x y))) := by
  obtain ⟨i0, hi0, hz0, hz1, hz2⟩ := info_parts infoI
  have H := Lib.hid h
  clear h
  rcases Int.lt_trichotomy x y with hxy | rfl | hxy
  · have HMM : Hid (min x y = x ∧ max x y = y) := Lib.hid (by omega)
    rw [HMM.out.1, HMM.out.2]
    go_enter Try.func167, Try.ntmps167
    go_wp2_with fail
    go_loopw [8, 10, 22] (fun v _ i wr => ∃ (k : Nat), k ≤ m.doors.length ∧ i = .int .i64 k ∧ wr.ownsRow w.heap.size 3 1 v (M.needs (m.doors.take k) x y).length (M.encIs (M.needs (m.doors.take k) x y)) ∧ Box2 wr (w.heap.size + 1) 64 (.int .i64 x) (.int .i64 y) ∧ Below w.heap.size w wr) (fun _ _ i _ => m.doors.length - (intOf i).toNat)
    case atStart =>
      have this := ownsRow_empty ((w.alloc (.cells #[.int .i64 m.size, .slice a m.doors.length c, .slice b m.keys.length d] 29)).alloc (.cells #[.int .i64 x, .int .i64 y] 64)) w.heap.size 3 1 (by simp; omega)
      have this0 : (((w.alloc (.cells #[.int .i64 m.size, .slice a m.doors.length c, .slice b m.keys.length d] 29)).alloc (.cells #[.int .i64 x, .int .i64 y] 64)).alloc (.cells #[] 3)).ownsRow w.heap.size 3 1 (.slice (some ⟨w.heap.size + 1 + 1, 0, none⟩) 0 0) 0 [] := by simpa using this
      exact ⟨0, Nat.zero_le _, rfl, this0, (Box2.new _ _ _ (by simp)).alloc _, ((below_alloc _ _).alloc (by simp) _).alloc (by simp; omega) _⟩
    case round =>
      obtain ⟨k, hk, rfl, hown, hbox, hnx⟩ := hrel
      have HN := Lib.hid hnx
      have HO := Lib.hid hown
      have HBX := Lib.hid hbox
      have HNE := Lib.hid (own_ne_box2 hown hbox (by decide))
      have hzr := hnx.size
      have hlen := Nat.le_trans (M.needs_len (m.doors.take k) x y) (List.length_take_le k m.doors)
      clear hnx hbox hown
      by_cases hlt : k < m.doors.length
      · obtain ⟨db, off, rfl, _, hdb, hc0⟩ := (H.out.doors.below HN.out hz).at_ (k := k * 3) (by rw [M.encDs_len]; omega)
        have a0 := hc0 _ _ (M.encDs_at0 hlt)
        have a1 : wr.cell? ⟨db, off + k * 3 + 1, none⟩ = some (.int .i64 m.doors[k].2.1) := hc0 _ _ (M.encDs_at1 hlt)
        have a2 : wr.cell? ⟨db, off + k * 3 + 2, none⟩ = some (.int .i64 m.doors[k].2.2) := hc0 _ _ (M.encDs_at2 hlt)
        clear hc0
        go_wp2_with fail
        refine wp_named ?_
        intro W hW
        have hbW : Below wr.heap.size wr W := by rw [hW]; exact below_alloc _ _
        have hdb3 : Box3 W wr.heap.size 69 (.int .i64 m.doors[k].1) (.int .i64 m.doors[k].2.1) (.int .i64 m.doors[k].2.2) := by rw [hW]; exact Box3.new _ _ _ _ rfl
        have hb2 : Box2 W (w.heap.size + 1) 64 (.int .i64 x) (.int .i64 y) := by rw [hW]; exact HBX.out.alloc _
        clear hW a0 a1 a2
        obtain ⟨d0, d1, d2⟩ := hdb3.cells
        obtain ⟨e0, e1⟩ := hb2.cells
        have HQ := Lib.hid (fun (n : Nat) => own_drewN (own_below HO.out hbW) n)
        have HB2 := Lib.hid hb2
        have HBW := Lib.hid (HN.out.trans (hbW.mono hzr))
        have hzW := hbW.size
        clear hbW hb2 hdb3
        have s23 := fun w => sl23 wr.heap.size w
        have r2 := fun w => ar2 wr.heap.size w
        have q2 := fun a b c d w => eqA2 a b c d w
        have t2 := eqT2
        by_cases t1 : m.doors[k].1 = x
        · by_cases t3 : m.doors[k].2.1 = y
          · have HD := Lib.hid (M.needs_yes hlt (decide_eq_true ⟨t1, t3⟩ : M.betwB m.doors[k] x y = true))
            have g1 : (m.doors[k].1 == x) = true := by simpa using t1
            have g2 : (m.doors[k].2.1 == y) = true := by simpa using t3
            clear t1 t3
            go_quiet (fail)
            go_wp2_with (at_builtin; refine wpList_append_own _ rfl _ _ 23 rfl w.heap.size 3 i0 (.int .i64 0) 1 8 Try.underlying23 hi0 hz0 hz1 hz2 rfl (by decide) _ _ _ rfl ((HQ.out nq).alloc _) ⟨W.heap.size, 0, none⟩ 1 1 [.int .i64 m.doors[k].2.2] rfl rfl (cell_one_new (W.drewN nq) _ _) (fun x hx => by simp at hx; subst hx; rfl) (by unfold maxLen; omega) (by omega) (by simp; omega) ?_; intro v' w3 hown' hgrow3 hnil3)
            go_roundw
            case rel =>
              refine ⟨k + 1, by omega, by go_num, ?_, (show Box2 ((W.drewN nq).alloc _) (w.heap.size + 1) 64 (.int .i64 x) (.int .i64 y) from HB2.out.alloc _).grown hgrow3 HNE.out, ((Below.drawnN HBW.out nq).alloc (by simp; omega) _).grown hgrow3 (by simp; omega) (own_base (HQ.out nq))⟩
              rw [HD.out]
              simpa [M.encIs] using hown'
            case measure => simp [intOf]; omega
          · have HD := Lib.hid (M.needs_no hlt (decide_eq_false (fun h => t3 h.2) : M.betwB m.doors[k] x y = false))
            have g2 : (m.doors[k].2.1 == y) = false := by simpa using t3
            clear t1 t3
            go_quiet (fail)
            go_wp2_with fail
            go_roundw
            case rel => exact ⟨k + 1, by omega, by go_num, by rw [HD.out]; exact HQ.out _, HB2.out, Below.drawnN HBW.out _⟩
            case measure => simp [intOf]; omega
        · have HD := Lib.hid (M.needs_no hlt (decide_eq_false (fun h => t1 h.1) : M.betwB m.doors[k] x y = false))
          have g1 : (m.doors[k].1 == x) = false := by simpa using t1
          clear t1
          go_quiet (fail)
          go_wp2_with fail
          go_roundw
          case rel => exact ⟨k + 1, by omega, by go_num, by rw [HD.out]; exact HQ.out _, HB2.out, Below.drawnN HBW.out _⟩
          case measure => simp [intOf]; omega
      · obtain rfl : k = m.doors.length := by omega
        go_wp2_with fail
        go_ret
        refine ints_end ?_ HN.out
        have := HO.out
        rwa [List.take_length] at this
  · have HMM : Hid (min x x = x ∧ max x x = x) := Lib.hid (by omega)
    rw [HMM.out.1, HMM.out.2]
    go_enter Try.func167, Try.ntmps167
    go_wp2_with fail
    go_loopw [8, 10, 22] (fun v _ i wr => ∃ (k : Nat), k ≤ m.doors.length ∧ i = .int .i64 k ∧ wr.ownsRow w.heap.size 3 1 v (M.needs (m.doors.take k) x x).length (M.encIs (M.needs (m.doors.take k) x x)) ∧ Box2 wr (w.heap.size + 1) 64 (.int .i64 x) (.int .i64 x) ∧ Below w.heap.size w wr) (fun _ _ i _ => m.doors.length - (intOf i).toNat)
    case atStart =>
      have this := ownsRow_empty ((w.alloc (.cells #[.int .i64 m.size, .slice a m.doors.length c, .slice b m.keys.length d] 29)).alloc (.cells #[.int .i64 x, .int .i64 x] 64)) w.heap.size 3 1 (by simp; omega)
      have this0 : (((w.alloc (.cells #[.int .i64 m.size, .slice a m.doors.length c, .slice b m.keys.length d] 29)).alloc (.cells #[.int .i64 x, .int .i64 x] 64)).alloc (.cells #[] 3)).ownsRow w.heap.size 3 1 (.slice (some ⟨w.heap.size + 1 + 1, 0, none⟩) 0 0) 0 [] := by simpa using this
      exact ⟨0, Nat.zero_le _, rfl, this0, (Box2.new _ _ _ (by simp)).alloc _, ((below_alloc _ _).alloc (by simp) _).alloc (by simp; omega) _⟩
    case round =>
      obtain ⟨k, hk, rfl, hown, hbox, hnx⟩ := hrel
      have HN := Lib.hid hnx
      have HO := Lib.hid hown
      have HBX := Lib.hid hbox
      have HNE := Lib.hid (own_ne_box2 hown hbox (by decide))
      have hzr := hnx.size
      have hlen := Nat.le_trans (M.needs_len (m.doors.take k) x x) (List.length_take_le k m.doors)
      clear hnx hbox hown
      by_cases hlt : k < m.doors.length
      · obtain ⟨db, off, rfl, _, hdb, hc0⟩ := (H.out.doors.below HN.out hz).at_ (k := k * 3) (by rw [M.encDs_len]; omega)
        have a0 := hc0 _ _ (M.encDs_at0 hlt)
        have a1 : wr.cell? ⟨db, off + k * 3 + 1, none⟩ = some (.int .i64 m.doors[k].2.1) := hc0 _ _ (M.encDs_at1 hlt)
        have a2 : wr.cell? ⟨db, off + k * 3 + 2, none⟩ = some (.int .i64 m.doors[k].2.2) := hc0 _ _ (M.encDs_at2 hlt)
        clear hc0
        go_wp2_with fail
        refine wp_named ?_
        intro W hW
        have hbW : Below wr.heap.size wr W := by rw [hW]; exact below_alloc _ _
        have hdb3 : Box3 W wr.heap.size 69 (.int .i64 m.doors[k].1) (.int .i64 m.doors[k].2.1) (.int .i64 m.doors[k].2.2) := by rw [hW]; exact Box3.new _ _ _ _ rfl
        have hb2 : Box2 W (w.heap.size + 1) 64 (.int .i64 x) (.int .i64 x) := by rw [hW]; exact HBX.out.alloc _
        clear hW a0 a1 a2
        obtain ⟨d0, d1, d2⟩ := hdb3.cells
        obtain ⟨e0, e1⟩ := hb2.cells
        have HQ := Lib.hid (fun (n : Nat) => own_drewN (own_below HO.out hbW) n)
        have HB2 := Lib.hid hb2
        have HBW := Lib.hid (HN.out.trans (hbW.mono hzr))
        have hzW := hbW.size
        clear hbW hb2 hdb3
        have s23 := fun w => sl23 wr.heap.size w
        have r2 := fun w => ar2 wr.heap.size w
        have q2 := fun a b c d w => eqA2 a b c d w
        have t2 := eqT2
        by_cases t1 : m.doors[k].1 = x
        · by_cases t3 : m.doors[k].2.1 = x
          · have HD := Lib.hid (M.needs_yes hlt (decide_eq_true ⟨t1, t3⟩ : M.betwB m.doors[k] x x = true))
            have g1 : (m.doors[k].1 == x) = true := by simpa using t1
            have g2 : (m.doors[k].2.1 == x) = true := by simpa using t3
            clear t1 t3
            go_quiet (fail)
            go_wp2_with (at_builtin; refine wpList_append_own _ rfl _ _ 23 rfl w.heap.size 3 i0 (.int .i64 0) 1 8 Try.underlying23 hi0 hz0 hz1 hz2 rfl (by decide) _ _ _ rfl ((HQ.out nq).alloc _) ⟨W.heap.size, 0, none⟩ 1 1 [.int .i64 m.doors[k].2.2] rfl rfl (cell_one_new (W.drewN nq) _ _) (fun x hx => by simp at hx; subst hx; rfl) (by unfold maxLen; omega) (by omega) (by simp; omega) ?_; intro v' w3 hown' hgrow3 hnil3)
            go_roundw
            case rel =>
              refine ⟨k + 1, by omega, by go_num, ?_, (show Box2 ((W.drewN nq).alloc _) (w.heap.size + 1) 64 (.int .i64 x) (.int .i64 x) from HB2.out.alloc _).grown hgrow3 HNE.out, ((Below.drawnN HBW.out nq).alloc (by simp; omega) _).grown hgrow3 (by simp; omega) (own_base (HQ.out nq))⟩
              rw [HD.out]
              simpa [M.encIs] using hown'
            case measure => simp [intOf]; omega
          · have HD := Lib.hid (M.needs_no hlt (decide_eq_false (fun h => t3 h.2) : M.betwB m.doors[k] x x = false))
            have g2 : (m.doors[k].2.1 == x) = false := by simpa using t3
            clear t1 t3
            go_quiet (fail)
            go_wp2_with fail
            go_roundw
            case rel => exact ⟨k + 1, by omega, by go_num, by rw [HD.out]; exact HQ.out _, HB2.out, Below.drawnN HBW.out _⟩
            case measure => simp [intOf]; omega
        · have HD := Lib.hid (M.needs_no hlt (decide_eq_false (fun h => t1 h.1) : M.betwB m.doors[k] x x = false))
          have g1 : (m.doors[k].1 == x) = false := by simpa using t1
          clear t1
          go_quiet (fail)
          go_wp2_with fail
          go_roundw
          case rel => exact ⟨k + 1, by omega, by go_num, by rw [HD.out]; exact HQ.out _, HB2.out, Below.drawnN HBW.out _⟩
          case measure => simp [intOf]; omega
      · obtain rfl : k = m.doors.length := by omega
        go_wp2_with fail
        go_ret
        refine ints_end ?_ HN.out
        have := HO.out
        rwa [List.take_length] at this
  · have HMM : Hid (min x y = y ∧ max x y = x) := Lib.hid (by omega)
    rw [HMM.out.1, HMM.out.2]
    go_enter Try.func167, Try.ntmps167
    go_wp2_with fail
    go_loopw [8, 10, 22] (fun v _ i wr => ∃ (k : Nat), k ≤ m.doors.length ∧ i = .int .i64 k ∧ wr.ownsRow w.heap.size 3 1 v (M.needs (m.doors.take k) y x).length (M.encIs (M.needs (m.doors.take k) y x)) ∧ Box2 wr (w.heap.size + 1) 64 (.int .i64 y) (.int .i64 x) ∧ Below w.heap.size w wr) (fun _ _ i _ => m.doors.length - (intOf i).toNat)
    case atStart =>
      have this := ownsRow_empty ((w.alloc (.cells #[.int .i64 m.size, .slice a m.doors.length c, .slice b m.keys.length d] 29)).alloc (.cells #[.int .i64 y, .int .i64 x] 64)) w.heap.size 3 1 (by simp; omega)
      have this0 : (((w.alloc (.cells #[.int .i64 m.size, .slice a m.doors.length c, .slice b m.keys.length d] 29)).alloc (.cells #[.int .i64 y, .int .i64 x] 64)).alloc (.cells #[] 3)).ownsRow w.heap.size 3 1 (.slice (some ⟨w.heap.size + 1 + 1, 0, none⟩) 0 0) 0 [] := by simpa using this
      exact ⟨0, Nat.zero_le _, rfl, this0, (Box2.new _ _ _ (by simp)).alloc _, ((below_alloc _ _).alloc (by simp) _).alloc (by simp; omega) _⟩
    case round =>
      obtain ⟨k, hk, rfl, hown, hbox, hnx⟩ := hrel
      have HN := Lib.hid hnx
      have HO := Lib.hid hown
      have HBX := Lib.hid hbox
      have HNE := Lib.hid (own_ne_box2 hown hbox (by decide))
      have hzr := hnx.size
      have hlen := Nat.le_trans (M.needs_len (m.doors.take k) y x) (List.length_take_le k m.doors)
      clear hnx hbox hown
      by_cases hlt : k < m.doors.length
      · obtain ⟨db, off, rfl, _, hdb, hc0⟩ := (H.out.doors.below HN.out hz).at_ (k := k * 3) (by rw [M.encDs_len]; omega)
        have a0 := hc0 _ _ (M.encDs_at0 hlt)
        have a1 : wr.cell? ⟨db, off + k * 3 + 1, none⟩ = some (.int .i64 m.doors[k].2.1) := hc0 _ _ (M.encDs_at1 hlt)
        have a2 : wr.cell? ⟨db, off + k * 3 + 2, none⟩ = some (.int .i64 m.doors[k].2.2) := hc0 _ _ (M.encDs_at2 hlt)
        clear hc0
        go_wp2_with fail
        refine wp_named ?_
        intro W hW
        have hbW : Below wr.heap.size wr W := by rw [hW]; exact below_alloc _ _
        have hdb3 : Box3 W wr.heap.size 69 (.int .i64 m.doors[k].1) (.int .i64 m.doors[k].2.1) (.int .i64 m.doors[k].2.2) := by rw [hW]; exact Box3.new _ _ _ _ rfl
        have hb2 : Box2 W (w.heap.size + 1) 64 (.int .i64 y) (.int .i64 x) := by rw [hW]; exact HBX.out.alloc _
        clear hW a0 a1 a2
        obtain ⟨d0, d1, d2⟩ := hdb3.cells
        obtain ⟨e0, e1⟩ := hb2.cells
        have HQ := Lib.hid (fun (n : Nat) => own_drewN (own_below HO.out hbW) n)
        have HB2 := Lib.hid hb2
        have HBW := Lib.hid (HN.out.trans (hbW.mono hzr))
        have hzW := hbW.size
        clear hbW hb2 hdb3
        have s23 := fun w => sl23 wr.heap.size w
        have r2 := fun w => ar2 wr.heap.size w
        have q2 := fun a b c d w => eqA2 a b c d w
        have t2 := eqT2
        by_cases t1 : m.doors[k].1 = y
        · by_cases t3 : m.doors[k].2.1 = x
          · have HD := Lib.hid (M.needs_yes hlt (decide_eq_true ⟨t1, t3⟩ : M.betwB m.doors[k] y x = true))
            have g1 : (m.doors[k].1 == y) = true := by simpa using t1
            have g2 : (m.doors[k].2.1 == x) = true := by simpa using t3
            clear t1 t3
            go_quiet (fail)
            go_wp2_with (at_builtin; refine wpList_append_own _ rfl _ _ 23 rfl w.heap.size 3 i0 (.int .i64 0) 1 8 Try.underlying23 hi0 hz0 hz1 hz2 rfl (by decide) _ _ _ rfl ((HQ.out nq).alloc _) ⟨W.heap.size, 0, none⟩ 1 1 [.int .i64 m.doors[k].2.2] rfl rfl (cell_one_new (W.drewN nq) _ _) (fun x hx => by simp at hx; subst hx; rfl) (by unfold maxLen; omega) (by omega) (by simp; omega) ?_; intro v' w3 hown' hgrow3 hnil3)
            go_roundw
            case rel =>
              refine ⟨k + 1, by omega, by go_num, ?_, (show Box2 ((W.drewN nq).alloc _) (w.heap.size + 1) 64 (.int .i64 y) (.int .i64 x) from HB2.out.alloc _).grown hgrow3 HNE.out, ((Below.drawnN HBW.out nq).alloc (by simp; omega) _).grown hgrow3 (by simp; omega) (own_base (HQ.out nq))⟩
              rw [HD.out]
              simpa [M.encIs] using hown'
            case measure => simp [intOf]; omega
          · have HD := Lib.hid (M.needs_no hlt (decide_eq_false (fun h => t3 h.2) : M.betwB m.doors[k] y x = false))
            have g2 : (m.doors[k].2.1 == x) = false := by simpa using t3
            clear t1 t3
            go_quiet (fail)
            go_wp2_with fail
            go_roundw
            case rel => exact ⟨k + 1, by omega, by go_num, by rw [HD.out]; exact HQ.out _, HB2.out, Below.drawnN HBW.out _⟩
            case measure => simp [intOf]; omega
        · have HD := Lib.hid (M.needs_no hlt (decide_eq_false (fun h => t1 h.1) : M.betwB m.doors[k] y x = false))
          have g1 : (m.doors[k].1 == y) = false := by simpa using t1
          clear t1
          go_quiet (fail)
          go_wp2_with fail
          go_roundw
          case rel => exact ⟨k + 1, by omega, by go_num, by rw [HD.out]; exact HQ.out _, HB2.out, Below.drawnN HBW.out _⟩
          case measure => simp [intOf]; omega
      · obtain rfl : k = m.doors.length := by omega
        go_wp2_with fail
        go_ret
        refine ints_end ?_ HN.out
        have := HO.out
        rwa [List.take_length] at this
end C
end Go.Proofs.Ytcoaggnilgfjfaa
