/-
  CONTRACTS of impl.Maze.stepFrom, keysAt, nextTo: the nodes one step further, the colours at some nodes, the nodes that can be entered next; what lay in memory stays. Condition: a valid maze, a number below 4096.
  CONTRACT of impl.Maze.spread: a number whose digits tell nodes, closed under the doors that are open; what lay in memory stays. Condition: a valid maze, a set of colours, a number below 4096.
-/
import Derived.Test.YtoiapfdlbkncaaaReachI
import Derived.Test.YtoiapfdlbkncaaaOrdMath
import Derived.Deep.RegionWith
import Derived.Deep.DeepCutAuto
namespace Go.Proofs.Ytoiapfdlbkncaaa
open Go.RowKit
namespace M
theorem stepF_take {op : Dr → Bool} {n : Nat} {ds : List Dr} {k : Nat} (h : k < ds.length) : stepF op n (ds.take (k + 1)) = farN op n (stepF op n (ds.take k)) ds[k] := by rw [List.take_succ_eq_append_getElem h, stepF_snoc]
end M
namespace C
set_option maxHeartbeats 3200000
set_option maxRecDepth 20000
theorem stepFrom_any (w : World) (lo hi : Nat) (m : M.Mz) (a b : Option Addr) (c d : Nat) (h : MzIn lo hi w m a c b d) (hz : hi ≤ w.heap.size) (V : M.Valid m) (n : Nat) (hn4 : n < 4096) (set : Int) :
    Calls Try.prog 110 #[.agg #[.int .i64 m.size, .slice a m.doors.length c, .slice b m.keys.length d], .int .i64 (n : Int), .int .i64 set] w fun e w' => e = .returned (.int .i64 ((M.stepF (M.openTo set) n m.doors : Nat) : Int)) ∧ Below w.heap.size w w' := by
  have H := Lib.hid h
  have v30 := V.few
  have HV := Lib.hid V
  clear h V
  go_enter Try.func110, Try.ntmps110
  go_wp2_with fail
  refine wp_named ?_
  intro W1 hW1
  have HB1 := Lib.hid (show Below w.heap.size w W1 by rw [hW1]; exact below_alloc _ _)
  clear hW1
  have hz1 := HB1.out.size
  go_loopw [7, 9, 10, 15] (fun v _ _ i wr => ∃ (k : Nat), k ≤ m.doors.length ∧ i = .int .i64 k ∧ v = .int .i64 ((M.stepF (M.openTo set) n (m.doors.take k) : Nat) : Int) ∧ M.stepF (M.openTo set) n (m.doors.take k) < 4096 ∧ Below W1.heap.size W1 wr) (fun _ _ _ i _ => m.doors.length - (intOf i).toNat)
  case atStart => exact ⟨0, Nat.zero_le _, rfl, rfl, hn4, Below.refl _ _⟩
  case round =>
    obtain ⟨k, hk, rfl, rfl, hk4, hni⟩ := hrel
    have HI := Lib.hid hni
    have hzi := hni.size
    clear hni
    generalize hpe : M.stepF (M.openTo set) n (m.doors.take k) = p at *
    have HPE := Lib.hid hpe
    clear hpe
    by_cases hkl : k < m.doors.length
    · have hrow := H.out.doors.below (HB1.out.trans (HI.out.mono (by omega))) hz
      obtain ⟨db, off, rfl, _, hdb, hc0⟩ := hrow.at_ (k := k * 3) (by rw [M.encDs_len]; omega)
      have a0 := hc0 _ _ (M.encDs_at0 hkl)
      have a1 : wr.cell? ⟨db, off + k * 3 + 1, none⟩ = some (.int .i64 m.doors[k].2.1) := hc0 _ _ (M.encDs_at1 hkl)
      have a2 : wr.cell? ⟨db, off + k * 3 + 2, none⟩ = some (.int .i64 m.doors[k].2.2) := hc0 _ _ (M.encDs_at2 hkl)
      obtain ⟨d1, d2, d3, d4, d5, d6, d7⟩ := HV.out.door k hkl
      have hs12 := HV.out.size12
      clear hc0 hrow
      go_wp2_with fail
      refine wp_named ?_
      intro W2 hW2
      have hb2 : Below wr.heap.size wr W2 := by rw [hW2]; exact below_alloc _ _
      have hdb3 : Box3 W2 wr.heap.size 81 (.int .i64 m.doors[k].1) (.int .i64 m.doors[k].2.1) (.int .i64 m.doors[k].2.2) := by rw [hW2]; exact Box3.new _ _ _ _ rfl
      clear hW2 a0 a1 a2
      have HI2 := Lib.hid (HI.out.trans (hb2.mono hzi))
      have hdl := hdb3.lt
      have hz2 := hb2.size
      have HD3 := Lib.hid hdb3
      obtain ⟨e0, e1, e2⟩ := hdb3.cells
      have E0 := cell_grown hdl e0
      have E1 := cell_grown hdl e1
      have E2 := cell_grown hdl e2
      have mixed : Try.prog.follows .mixedOrders = true := by kernel_rfl
      have g1 : ¬ m.doors[k].1 < 0 := by omega
      have g2 : ¬ m.doors[k].2.1 < 0 := by omega
      have hends := M.endsN_lt (d := m.doors[k]) (by omega) (by omega)
      have hE := M.endsI m.doors[k] (by omega) (by omega)
      have hA := M.and4 n (M.endsN m.doors[k]) hn4 hends
      have hO := M.or4 p (M.endsN m.doors[k]) hk4 hends
      have HSU : Hid (M.stepF (M.openTo set) n (m.doors.take (k + 1)) = M.farN (M.openTo set) n p m.doors[k]) := Lib.hid (by rw [M.stepF_take hkl, HPE.out])
      have HLT : Hid (M.farN (M.openTo set) n p m.doors[k] < 4096) := Lib.hid (M.far_lt hk4 (by omega) (by omega))
      clear hb2 hdb3 e0 e1 e2 hends
      refine wp_region_quiet_grown (by assumption) (by kernel_rfl) ?_
      repeat (first | go_big_quiet_step (fail) | quiet_step (fail))
      refine wpQuiet_nil ?_
      intro _ hw'
      obtain ⟨⟨nq, osq⟩, hw''⟩ := hw'
      subst hw''
      go_wp2_with fail
      refine (hasAll_any _ _ _).mono ?_
      rintro e w5 ⟨rfl, rfl⟩
      have HB5 := Lib.hid (HI2.out.trans ((below_grown W2 nq osq).mono (by omega)))
      cases hop : M.hasB set m.doors[k].2.2 with
      | false =>
        have hst : M.farN (M.openTo set) n p m.doors[k] = p := by unfold M.farN; exact if_neg (fun h => by have h1 := h.1; unfold M.openTo at h1; simp only [hop] at h1; cases h1)
        have HST := Lib.hid hst
        clear hst hop
        go_wp2_with fail
        go_roundw
        case rel => exact ⟨k + 1, by omega, by go_num, by rw [HSU.out, HST.out], by rw [HSU.out]; exact HLT.out, HB5.out⟩
        case measure => simp [intOf]; omega
      | true =>
        rcases Decidable.em (n &&& M.endsN m.doors[k] = 0) with hz0 | hz0
        · have hst : M.farN (M.openTo set) n p m.doors[k] = p := by unfold M.farN; rw [if_neg (fun h => h.2 hz0)]
          have HST := Lib.hid hst
          rw [hz0] at hA
          clear hst hop hz0
          go_wp2_with fail
          go_roundw
          case rel => exact ⟨k + 1, by omega, by go_num, by rw [HSU.out, HST.out], by rw [HSU.out]; exact HLT.out, HB5.out⟩
          case measure => simp [intOf]; omega
        · have hst : M.farN (M.openTo set) n p m.doors[k] = p ||| M.endsN m.doors[k] := by unfold M.farN; rw [if_pos ⟨hop, hz0⟩]
          have HST := Lib.hid hst
          have hzi0 : ¬ ((n &&& M.endsN m.doors[k] : Nat) : Int) = 0 := by omega
          have hzb : (((n &&& M.endsN m.doors[k] : Nat) : Int) != 0) = true := by simpa using hz0
          clear hst hop
          go_wp2_with fail
          go_roundw
          case rel => exact ⟨k + 1, by omega, by go_num, by rw [HSU.out, HST.out], by rw [HSU.out]; exact HLT.out, HB5.out⟩
          case measure => simp [intOf]; omega
    · obtain rfl : k = m.doors.length := by omega
      have hpe := HPE.out
      rw [List.take_of_length_le (Nat.le_refl _)] at hpe
      have HF := Lib.hid hpe
      clear hpe
      go_wp2_with fail
      go_ret
      exact ⟨by rw [HF.out]; rfl, HB1.out.trans (HI.out.mono (by omega))⟩
theorem keysAt_any (w : World) (lo hi : Nat) (m : M.Mz) (a b : Option Addr) (c d : Nat) (h : MzIn lo hi w m a c b d) (hz : hi ≤ w.heap.size) (V : M.Valid m) (n : Nat) (hn4 : n < 4096) (hnk : ∀ p, M.digB n p = true → (p : Int) < m.size) :
    Calls Try.prog 131 #[.agg #[.int .i64 m.size, .slice a m.doors.length c, .slice b m.keys.length d], .int .i64 (n : Int)] w fun e w' => e = .returned (.int .i64 (M.keysN m n)) ∧ Below w.heap.size w w' := by
  have H := Lib.hid h
  have HV := Lib.hid V
  have hkl := V.keysLen
  have v12 := V.size12
  have HNK := Lib.hid hnk
  clear h V hnk
  go_enter Try.func131, Try.ntmps131
  go_wp2_with fail
  refine named ?_
  intro W hW
  have hb : Below w.heap.size w W := by rw [hW]; exact below_alloc _ _
  have x1 : Box3 W w.heap.size 29 (.int .i64 m.size) (.slice a m.doors.length c) (.slice b m.keys.length d) := by rw [hW]; exact Box3.new _ _ _ _ rfl
  clear hW
  refine (digits_any n hn4 W).mono ?_
  rintro e w6 ⟨ra, rc, rfl, ho, ho1, ho2, hb6⟩
  have hdl := M.digsTo_len n 12
  have hzw := hb.size
  have ST := Lib.hid (show Box3 w6 w.heap.size 29 (.int .i64 m.size) (.slice a m.doors.length c) (.slice b m.keys.length d) ∧ Below w.heap.size w w6 from ⟨x1.below hb6, hb.trans (hb6.mono hb.size)⟩)
  have hw6 := hb6.size
  have HO := Lib.hid ho
  have HEN : Hid (M.gath m (M.digsTo n 12) 0 = M.keysN m n) := Lib.hid rfl
  have HIN := Lib.hid (show ∀ (k : Nat) (hk : k < (M.digsTo n 12).length), ∃ j : Nat, (M.digsTo n 12)[k] = (j : Int) ∧ j < m.keys.length from fun k hk => by
    obtain ⟨p, h1, _, h3⟩ := M.mem_digsTo.1 (List.getElem_mem hk)
    have := HNK.out p h3
    exact ⟨p, h1, by omega⟩)
  clear hb x1 hb6 ho
  generalize hLL : M.digsTo n 12 = L at *
  clear hLL
  go_wp2_with fail
  go_loopw [5, 7, 11] (fun v _ i wr => ∃ (k : Nat), k ≤ L.length ∧ i = .int .i64 k ∧ v = .int .i64 (M.gath m (L.take k) 0) ∧ Below w6.heap.size w6 wr) (fun _ _ i _ => L.length - (intOf i).toNat)
  case atStart => exact ⟨0, Nat.zero_le _, rfl, rfl, Below.refl _ _⟩
  case round =>
    obtain ⟨k, hk, rfl, rfl, hlow⟩ := hrel
    have B7 := Lib.hid hlow
    have X7 := Lib.hid (ST.out.1.below hlow)
    have L7 := Lib.hid (HO.out.below hlow (Nat.le_refl _))
    have hsz7 := hlow.size
    clear hlow
    by_cases hkl' : k < L.length
    · obtain ⟨lb, loff, hla, hlb1, hlb2, hlc⟩ := L7.out.row.at_ (k := k) (by rw [M.encIs_len]; exact hkl')
      have lx := hlc _ _ (M.encIs_at hkl')
      obtain ⟨j, hj, hjl⟩ := HIN.out k hkl'
      obtain ⟨ib, ioff, hib, _, hib2, hic⟩ := H.out.keys.at_ (k := j) (by rw [M.encIs_len]; exact hjl)
      subst hib
      have kx : wr.cell? ⟨ib, ioff + j, none⟩ = some (.int .i64 m.keys[j]) := ((ST.out.2.trans (B7.out.mono (by have := ST.out.2.size; omega))).cell (p := ⟨ib, ioff + j, none⟩) (show ib < w.heap.size by omega)).trans (hic _ _ (M.encIs_at hjl))
      have hgt : Hid (M.gath m (L.take (k + 1)) 0 = bits .or .i64 (M.gath m (L.take k) 0) m.keys[j]) := Lib.hid (by rw [M.gath_take hkl', hj, Int.toNat_natCast, List.getD_eq_getElem?_getD, List.getElem?_eq_getElem hjl]; rfl)
      rw [hj] at lx
      subst hla
      have hjd : j < d := by have := H.out.d1; omega
      obtain ⟨c0, c1, c2⟩ := X7.out.cells
      clear hlc hic hj
      generalize M.gath m (L.take k) 0 = sk at *
      go_wp2_with fail
      go_roundw
      case rel => exact ⟨k + 1, by omega, by go_num, by rw [hgt.out], B7.out⟩
      case measure => simp [intOf]; omega
    · obtain rfl : k = L.length := by omega
      have hend := HEN.out
      rw [List.take_of_length_le (Nat.le_refl _), hend]
      go_wp2_with fail
      go_ret
      exact ⟨rfl, ST.out.2.trans (B7.out.mono (by have := ST.out.2.size; omega))⟩
end C
end Go.Proofs.Ytoiapfdlbkncaaa
namespace Go.Proofs.Ytoiapfdlbkncaaa
open Go.RowKit
namespace M
/-- a step from n onto what holds n is nothing or a look at a door -/
theorem far_step (op : Dr → Bool) {n acc : Nat} (h : ∀ p, digB n p = true → digB acc p = true) (d : Dr) : farN op n acc d = acc ∨ farN op n acc d = stepN op acc d := by
  unfold farN stepN
  split
  · rename_i hc
    refine .inr ?_
    rw [if_pos]
    refine ⟨hc.1, fun h0 => hc.2 ?_⟩
    obtain ⟨h1, h2⟩ := (and_ends acc d).1 h0
    refine (and_ends n d).2 ⟨?_, ?_⟩
    · cases e : digB n d.1.toNat with
      | false => rfl
      | true => rw [h _ e] at h1; cases h1
    · cases e : digB n d.2.1.toNat with
      | false => rfl
      | true => rw [h _ e] at h2; cases h2
  · exact .inl rfl
theorem far_holds {op : Dr → Bool} {n acc : Nat} (h : ∀ p, digB n p = true → digB acc p = true) (d : Dr) : ∀ p, digB n p = true → digB (farN op n acc d) p = true := fun p hp => by
  unfold farN
  split
  · rw [digB_or, h p hp]; rfl
  · exact h p hp
theorem foldF_keep {op : Dr → Bool} {n : Nat} {P : Nat → Prop} {ds : List Dr} (hP : ∀ n d, d ∈ ds → P n → P (stepN op n d)) : ∀ (l : List Dr), (∀ d ∈ l, d ∈ ds) → ∀ acc, P acc → (∀ p, digB n p = true → digB acc p = true) → P (l.foldl (farN op n) acc)
  | [], _, _, h, _ => h
  | d :: l, hl, acc, h, hs => by
    rw [List.foldl_cons]
    refine foldF_keep hP l (fun e he => hl e (List.mem_cons_of_mem _ he)) _ ?_ (far_holds hs d)
    rcases far_step op hs d with e | e
    · rw [e]; exact h
    · rw [e]; exact hP _ _ (hl d (List.mem_cons_self ..)) h
theorem stepF_keep {op : Dr → Bool} {n : Nat} {P : Nat → Prop} {ds : List Dr} (hP : ∀ n d, d ∈ ds → P n → P (stepN op n d)) (h : P n) : P (stepF op n ds) := foldF_keep hP ds (fun _ h => h) n h (fun _ h => h)
theorem foldF_le (op : Dr → Bool) (n : Nat) : ∀ (l : List Dr) (acc : Nat), acc ≤ l.foldl (farN op n) acc
  | [], _ => Nat.le_refl _
  | d :: l, acc => Nat.le_trans (far_le op n acc d) (foldF_le op n l _)
theorem stepF_le (op : Dr → Bool) (n : Nat) (ds : List Dr) : n ≤ stepF op n ds := foldF_le op n ds n
/-- where a step finds nothing more, a pass does not either -/
theorem stepF_pass {op : Dr → Bool} {n : Nat} : ∀ {ds : List Dr}, stepF op n ds = n → passN op n ds = n
  | [], _ => rfl
  | d :: ds, h => by
    have h1 := far_le op n n d
    have h2 : ds.foldl (farN op n) (farN op n n d) = n := h
    have h3 := foldF_le op n ds (farN op n n d)
    have e : farN op n n d = n := by omega
    have e2 : stepN op n d = n := by
      have : farN op n n d = stepN op n d := rfl
      rw [← this, e]
    rw [e] at h2
    show passN op (stepN op n d) ds = n
    rw [e2]
    exact stepF_pass h2
end M
namespace C
set_option maxHeartbeats 3200000
set_option maxRecDepth 20000
theorem spread_any (w : World) (lo hi : Nat) (m : M.Mz) (a b : Option Addr) (c d : Nat) (h : MzIn lo hi w m a c b d) (hz : hi ≤ w.heap.size) (V : M.Valid m) (n0 : Nat) (set : Int) (P : Nat → Prop) (h0 : P n0) (hP : ∀ n d, d ∈ m.doors → P n → P (M.stepN (fun e => M.hasB set e.2.2) n d)) (hlt : ∀ n, P n → n < 4096) :
    Calls Try.prog 68 #[.agg #[.int .i64 m.size, .slice a m.doors.length c, .slice b m.keys.length d], .int .i64 (n0 : Int), .int .i64 set] w fun e w' => ∃ n : Nat, e = .returned (.int .i64 (n : Int)) ∧ P n ∧ M.passN (fun e => M.hasB set e.2.2) n m.doors = n ∧ Below w.heap.size w w' := by
  have H := Lib.hid h
  have HP := Lib.hid (fun n (hn : P n) => M.stepF_keep (op := M.openTo set) (ds := m.doors) hP hn)
  have HLT := Lib.hid hlt
  have H0 := Lib.hid h0
  have HV := Lib.hid V
  clear h hP hlt h0 V
  go_enter Try.func68, Try.ntmps68
  go_wp2_with fail
  go_loopw [1, 7] (fun v _ wr => ∃ (n : Nat), v = .int .i64 (n : Int) ∧ P n ∧ Box3 wr w.heap.size 29 (.int .i64 m.size) (.slice a m.doors.length c) (.slice b m.keys.length d) ∧ Below w.heap.size w wr) (fun v _ _ => 4096 - (intOf v).toNat)
  case atStart => exact ⟨n0, rfl, H0.out, Box3.new _ _ _ _ rfl, below_alloc _ _⟩
  case round =>
    obtain ⟨n, rfl, hpn, hbox, hnx⟩ := hrel
    have HN := Lib.hid hnx
    have HBX := Lib.hid hbox
    have HPN := Lib.hid hpn
    have hzr := hnx.size
    have hbl := hbox.lt
    have hn4 := HLT.out _ hpn
    have HPS := Lib.hid (HP.out n hpn)
    have hps4 := HLT.out _ (HP.out n hpn)
    have hle := M.stepF_le (M.openTo set) n m.doors
    have HPA := Lib.hid (fun h => M.stepF_pass (op := M.openTo set) (n := n) (ds := m.doors) h)
    obtain ⟨x0, x1, x2⟩ := hbox.cells
    clear hpn hbox hnx
    go_wp2_with fail
    refine (stepFrom_any wr lo hi m a b c d (H.out.below HN.out hz) (by omega) HV.out n hn4 set).mono ?_
    rintro e w4 ⟨rfl, hb4⟩
    have HN4 := Lib.hid (HN.out.trans (hb4.mono hzr))
    have HB4 := Lib.hid (HBX.out.below hb4)
    clear hb4 x0 x1 x2
    rcases Decidable.em (M.stepF (M.openTo set) n m.doors = n) with he | he
    · have HF := Lib.hid (HPA.out he)
      rw [he]
      clear he
      go_wp2_with fail
      go_ret
      exact ⟨n, rfl, HPN.out, HF.out, HN4.out⟩
    · generalize M.stepF (M.openTo set) n m.doors = t at *
      have hb : ((t : Int) == (n : Int)) = false := by rw [beq_eq_false_iff_ne]; omega
      have hne : ¬ (t : Int) = (n : Int) := by omega
      go_wp2_with fail
      go_roundw
      case rel => exact ⟨t, rfl, HPS.out, HB4.out, HN4.out⟩
      case measure => simp [intOf]; omega
end C
end Go.Proofs.Ytoiapfdlbkncaaa
