/-
  CONTRACT of impl.Maze.spread: a number whose digits tell nodes, closed under the doors that are open; what lay in memory stays. Condition: a valid maze, a set of colours, a number below 4096.
-/
import Derived.Test.YtoiapfdlbkncaaaNextI
namespace Go.Proofs.Ytoiapfdlbkncaaa
open Go.RowKit
namespace M
/-- a step from n onto what holds n is nothing or a look at a door -/
theorem far_step (op : Dr → Bool) {n acc : Nat} (h : ∀ p, digB n p = true → digB acc p = true) (d : Dr) : farN op n acc d = acc ∨ farN op n acc d = stepN op acc d := by
  unfold farN stepN
  split
  · rename_i hc
    refine .inr ?_
    rw [if_pos]
    refine ⟨hc.1, fun h0 => hc.2 ?_⟩
    obtain ⟨h1, h2⟩ := (and_ends acc d).1 h0
    refine (and_ends n d).2 ⟨?_, ?_⟩
    · cases e : digB n d.1.toNat with
      | false => rfl
      | true => rw [h _ e] at h1; cases h1
    · cases e : digB n d.2.1.toNat with
      | false => rfl
      | true => rw [h _ e] at h2; cases h2
  · exact .inl rfl
theorem far_holds {op : Dr → Bool} {n acc : Nat} (h : ∀ p, digB n p = true → digB acc p = true) (d : Dr) : ∀ p, digB n p = true → digB (farN op n acc d) p = true := fun p hp => by
  unfold farN
  split
  · rw [digB_or, h p hp]; rfl
  · exact h p hp
theorem foldF_keep {op : Dr → Bool} {n : Nat} {P : Nat → Prop} {ds : List Dr} (hP : ∀ n d, d ∈ ds → P n → P (stepN op n d)) : ∀ (l : List Dr), (∀ d ∈ l, d ∈ ds) → ∀ acc, P acc → (∀ p, digB n p = true → digB acc p = true) → P (l.foldl (farN op n) acc)
  | [], _, _, h, _ => h
  | d :: l, hl, acc, h, hs => by
    rw [List.foldl_cons]
    refine foldF_keep hP l (fun e he => hl e (List.mem_cons_of_mem _ he)) _ ?_ (far_holds hs d)
    rcases far_step op hs d with e | e
    · rw [e]; exact h
    · rw [e]; exact hP _ _ (hl d (List.mem_cons_self ..)) h
theorem stepF_keep {op : Dr → Bool} {n : Nat} {P : Nat → Prop} {ds : List Dr} (hP : ∀ n d, d ∈ ds → P n → P (stepN op n d)) (h : P n) : P (stepF op n ds) := foldF_keep hP ds (fun _ h => h) n h (fun _ h => h)
theorem foldF_le (op : Dr → Bool) (n : Nat) : ∀ (l : List Dr) (acc : Nat), acc ≤ l.foldl (farN op n) acc
  | [], _ => Nat.le_refl _
  | d :: l, acc => Nat.le_trans (far_le op n acc d) (foldF_le op n l _)
theorem stepF_le (op : Dr → Bool) (n : Nat) (ds : List Dr) : n ≤ stepF op n ds := foldF_le op n ds n
/-- where a step finds nothing more, a pass does not either -/
theorem stepF_pass {op : Dr → Bool} {n : Nat} : ∀ {ds : List Dr}, stepF op n ds = n → passN op n ds = n
  | [], _ => rfl
  | d :: ds, h => by
    have h1 := far_le op n n d
    have h2 : ds.foldl (farN op n) (farN op n n d) = n := h
    have h3 := foldF_le op n ds (farN op n n d)
    have e : farN op n n d = n := by omega
    have e2 : stepN op n d = n := by
      have : farN op n n d = stepN op n d := rfl
      rw [← this, e]
    rw [e] at h2
    show passN op (stepN op n d) ds = n
    rw [e2]
    exact stepF_pass h2
end M
namespace C
set_option maxHeartbeats 3200000
set_option maxRecDepth 20000
theorem spread_any (w : World) (lo hi : Nat) (m : M.Mz) (a b : Option Addr) (c d : Nat) (h : MzIn lo hi w m a c b d) (hz : hi ≤ w.heap.size) (V : M.Valid m) (n0 : Nat) (set : Int) (P : Nat → Prop) (h0 : P n0) (hP : ∀ n d, d ∈ m.doors → P n → P (M.stepN (fun e => M.hasB set e.2.2) n d)) (hlt : ∀ n, P n → n < 4096) :
    Calls Try.prog 68 #[.agg #[.int .i64 m.size, .slice a m.doors.length c, .slice b m.keys.length d], .int .i64 (n0 : Int), .int .i64 set] w fun e w' => ∃ n : Nat, e = .returned (.int .i64 (n : Int)) ∧ P n ∧ M.passN (fun e => M.hasB set e.2.2) n m.doors = n ∧ Below w.heap.size w w' := by
  have H := Lib.hid h
  have HP := Lib.hid (fun n (hn : P n) => M.stepF_keep (op := M.openTo set) (ds := m.doors) hP hn)
  have HLT := Lib.hid hlt
  have H0 := Lib.hid h0
  have HV := Lib.hid V
  clear h hP hlt h0 V
  go_enter Try.func68, Try.ntmps68
  go_wp2_with fail
  go_loopw [1, 7] (fun v _ wr => ∃ (n : Nat), v = .int .i64 (n : Int) ∧ P n ∧ Box3 wr w.heap.size 29 (.int .i64 m.size) (.slice a m.doors.length c) (.slice b m.keys.length d) ∧ Below w.heap.size w wr) (fun v _ _ => 4096 - (intOf v).toNat)
  case atStart => exact ⟨n0, rfl, H0.out, Box3.new _ _ _ _ rfl, below_alloc _ _⟩
  case round =>
    obtain ⟨n, rfl, hpn, hbox, hnx⟩ := hrel
    have HN := Lib.hid hnx
    have HBX := Lib.hid hbox
    have HPN := Lib.hid hpn
    have hzr := hnx.size
    have hbl := hbox.lt
    have hn4 := HLT.out _ hpn
    have HPS := Lib.hid (HP.out n hpn)
    have hps4 := HLT.out _ (HP.out n hpn)
    have hle := M.stepF_le (M.openTo set) n m.doors
    have HPA := Lib.hid (fun h => M.stepF_pass (op := M.openTo set) (n := n) (ds := m.doors) h)
    obtain ⟨x0, x1, x2⟩ := hbox.cells
    clear hpn hbox hnx
    go_wp2_with fail
    refine (stepFrom_any wr lo hi m a b c d (H.out.below HN.out hz) (by omega) HV.out n hn4 set).mono ?_
    rintro e w4 ⟨rfl, hb4⟩
    have HN4 := Lib.hid (HN.out.trans (hb4.mono hzr))
    have HB4 := Lib.hid (HBX.out.below hb4)
    clear hb4 x0 x1 x2
    rcases Decidable.em (M.stepF (M.openTo set) n m.doors = n) with he | he
    · have HF := Lib.hid (HPA.out he)
      rw [he]
      clear he
      go_wp2_with fail
      go_ret
      exact ⟨n, rfl, HPN.out, HF.out, HN4.out⟩
    · generalize M.stepF (M.openTo set) n m.doors = t at *
      have hb : ((t : Int) == (n : Int)) = false := by rw [beq_eq_false_iff_ne]; omega
      have hne : ¬ (t : Int) = (n : Int) := by omega
      go_wp2_with fail
      go_roundw
      case rel => exact ⟨t, rfl, HPS.out, HB4.out, HN4.out⟩
      case measure => simp [intOf]; omega
end C
end Go.Proofs.Ytoiapfdlbkncaaa
