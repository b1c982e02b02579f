/-
  CONTRACT of spec.l2Open once more: the blocks that it lays are all that it makes of memory. Condition: the maze reads so.
-/
import Derived.Test.YtcoaggnilgfjfaaUReach
import Derived.Sort.Grow
namespace Go.Proofs.Ytcoaggnilgfjfaa
open Go.RowKit
namespace C
set_option maxHeartbeats 1600000
set_option maxRecDepth 20000
/-- w' is w with blocks behind it -/
def Gr (w w' : World) : Prop := ∃ os, w' = Sort.grow w os
theorem Gr.refl (w : World) : Gr w w := ⟨#[], (Sort.grow_empty w).symm⟩
theorem Gr.alloc {w w' : World} (h : Gr w w') (o : Obj) : Gr w (w'.alloc o) := by
  obtain ⟨os, rfl⟩ := h
  exact ⟨_, by rw [Sort.alloc_eq_grow, Sort.grow_grow]⟩
theorem Gr.ex {w w' : World} (h : Gr w w') : ∃ q os, w' = Sort.grow (w.drewN q) os := by
  obtain ⟨os, rfl⟩ := h
  exact ⟨0, os, rfl⟩
theorem l2Open_grown (w : World) (lo hi : Nat) (m : M.Mz) (a b : Option Addr) (c d : Nat) (x y set : Int) (h : MzIn lo hi w m a c b d) (hz : hi ≤ w.heap.size) (h1 : m.doors.length ≤ 1048576) :
    Calls Try.prog 133 #[.agg #[.int .i64 m.size, .slice a m.doors.length c, .slice b m.keys.length d], .int .i64 x, .int .i64 y, .int .i64 set] w fun e w' => e = .returned (.bool (M.openB m.doors x y set)) ∧ ∃ q os, w' = Sort.grow (w.drewN q) os := by
  have H := Lib.hid h
  clear h
  go_enter Try.func133, Try.ntmps133
  go_wp2_with fail
  go_loopw [9] (fun i wr => ∃ (k : Nat), k ≤ m.doors.length ∧ i = .int .i64 k ∧ (∀ j (hj : j < m.doors.length), j < k → (M.joinsB m.doors[j] x y && M.has2B set m.doors[j].2.2) = false) ∧ Box3 wr w.heap.size 29 (.int .i64 m.size) (.slice a m.doors.length c) (.slice b m.keys.length d) ∧ Below w.heap.size w wr ∧ Gr w wr) (fun i _ => m.doors.length - (intOf i).toNat)
  case atStart => exact ⟨0, Nat.zero_le _, rfl, fun j _ h => by omega, Box3.new _ _ _ _ rfl, below_alloc _ _, Gr.alloc (Gr.refl w) _⟩
  case round =>
    obtain ⟨k, hk, rfl, hall, hbox, hnx, hgr⟩ := hrel
    have HA := Lib.hid hall
    have HN := Lib.hid hnx
    have HG := Lib.hid hgr
    have HBX := Lib.hid hbox
    have hzr := hnx.size
    have hbl := hbox.lt
    obtain ⟨x0, x1, x2⟩ := hbox.cells
    clear hall hnx hbox hgr
    by_cases hlt : k < m.doors.length
    · obtain ⟨db, off, rfl, _, hb, hc0⟩ := (H.out.doors.below HN.out hz).at_ (k := k * 3) (by rw [M.encDs_len]; omega)
      have a0 := hc0 _ _ (M.encDs_at0 hlt)
      have a1 : wr.cell? ⟨db, off + k * 3 + 1, none⟩ = some (.int .i64 m.doors[k].2.1) := hc0 _ _ (M.encDs_at1 hlt)
      have a2 : wr.cell? ⟨db, off + k * 3 + 2, none⟩ = some (.int .i64 m.doors[k].2.2) := hc0 _ _ (M.encDs_at2 hlt)
      have hdw : db < wr.heap.size := by omega
      clear hc0
      cases e1 : M.joinsB m.doors[k] x y with
      | false =>
        have E1 := Lib.hid e1
        clear e1
        go_wp2_with fail
        refine (joins_any _ _ _ _).mono ?_
        rintro e w1 ⟨rfl, rfl⟩
        rw [E1.out]
        go_wp2_with fail
        go_roundw
        case rel => exact ⟨k + 1, by omega, by go_num, fun j hj hjk => by
          rcases Nat.lt_or_ge j k with h | h
          · exact HA.out j hj h
          · obtain rfl : j = k := by omega
            rw [E1.out]; rfl, HBX.out.alloc _, HN.out.alloc hzr _, HG.out.alloc _⟩
        case measure => simp [intOf]; omega
      | true =>
        have E1 := Lib.hid e1
        clear e1
        cases e2 : M.has2B set m.doors[k].2.2 with
        | false =>
          have E2 := Lib.hid e2
          clear e2
          go_wp2_with fail
          refine (joins_any _ _ _ _).mono ?_
          rintro e w1 ⟨rfl, rfl⟩
          rw [E1.out]
          go_wp2_with fail
          refine (l2Has_any _ _ _).mono ?_
          rintro e w1 ⟨rfl, rfl⟩
          rw [E2.out]
          go_wp2_with fail
          go_roundw
          case rel => exact ⟨k + 1, by omega, by go_num, fun j hj hjk => by
            rcases Nat.lt_or_ge j k with h | h
            · exact HA.out j hj h
            · obtain rfl : j = k := by omega
              rw [E2.out, Bool.and_false], HBX.out.alloc _, HN.out.alloc hzr _, HG.out.alloc _⟩
          case measure => simp [intOf]; omega
        | true =>
          have HF : Hid (M.openB m.doors x y set = true) := Lib.hid (List.any_eq_true.2 ⟨_, List.getElem_mem hlt, by rw [E1.out, e2]; rfl⟩)
          have E2 := Lib.hid e2
          clear e2
          go_wp2_with fail
          refine (joins_any _ _ _ _).mono ?_
          rintro e w1 ⟨rfl, rfl⟩
          rw [E1.out]
          go_wp2_with fail
          refine (l2Has_any _ _ _).mono ?_
          rintro e w1 ⟨rfl, rfl⟩
          rw [E2.out]
          go_wp2_with fail
          go_ret
          exact ⟨by rw [HF.out]; rfl, (HG.out.alloc _).ex⟩
    · obtain rfl : k = m.doors.length := by omega
      have HF : Hid (M.openB m.doors x y set = false) := Lib.hid (by
        unfold M.openB
        rw [List.any_eq_false]
        intro z hz
        obtain ⟨j, hj, rfl⟩ := List.mem_iff_getElem.1 hz
        rw [HA.out j hj hj]
        decide)
      go_wp2_with fail
      go_ret
      exact ⟨by rw [HF.out]; rfl, HG.out.ex⟩
end C
end Go.Proofs.Ytcoaggnilgfjfaa
