/-
  CONTRACTS of the laws' own helpers over worlds: markWorlds writes rising numbers, heldWorlds finds them. Condition: each maze and each list of owners lies in a range of its own; at most 1048576 mazes, doors, keys and owners in all.
-/
import Derived.Test.YtbcobheiofajeaaWlK
namespace Go.Proofs.Ytbcobheiofajeaa
open Go.RowKit
namespace C
set_option linter.unusedVariables false
set_option maxHeartbeats 1600000
set_option maxRecDepth 20000
def MkMPost (w : World) (lo hi : Nat) (a b : Option Addr) (L : List Rm) (O : List Ro) (Q : Nat → List Value) (RM RO : Nat → Nat × Nat) (k0 n : Nat) (e : Ending) (w' : World) : Prop :=
  ∃ L' D' K', e = .returned (.int .i64 ((k0 + M.sumN mkR L : Nat) : Int)) ∧ L'.map shR = L.map shR ∧ MkM k0 n L' D' K' ∧ WsRaw lo hi w' a b L' O D' K' Q RM RO ∧ Turned lo hi w w'
theorem markMazeS_any (w : World) (lo hi : Nat) (a b : Option Addr) (c : Nat) (L : List Rm) (O : List Ro) (D K Q : Nat → List Value) (RM RO : Nat → Nat × Nat) (h : WsRaw lo hi w a b L O D K Q RM RO) (hz : hi ≤ w.heap.size) (hL : L.length ≤ 1048576) (hs : M.sumN mkR L ≤ 4194304) (k0 : Nat) (hk0 : k0 ≤ 16777216) (n : Nat) (hn : L.length = n) :
    Calls Try.prog 67 #[.slice a n c, .int .i64 (k0 : Int)] w (MkMPost w lo hi a b L O Q RM RO k0 n) := by
  have H := Lib.hid h
  have HN := Lib.hid hn
  have HTT := Lib.hid (fun k => M.sumN_le (f := mkR) L k)
  have HSU := Lib.hid (fun k (hk : k < L.length) => M.sumN_succ (f := mkR) hk)
  have hn9 : n ≤ 1048576 := by omega
  clear h hn hL
  go_enter Try.func67, Try.ntmps67
  go_wp2_with fail
  go_loopw [1, 5] (fun v1 v5 wr => ∃ (k : Nat) (L' : List Rm) (D' K' : Nat → List Value), k ≤ n ∧ v5 = .int .i64 (k : Int) ∧ v1 = .int .i64 ((k0 + M.sumN mkR (L.take k) : Nat) : Int) ∧ L'.map shR = L.map shR ∧ MkM k0 k L' D' K' ∧ WsRaw lo hi wr a b L' O D' K' Q RM RO ∧ Turned lo hi w wr) (fun _ v5 _ => n - (intOf v5).toNat)
  case atStart => exact ⟨0, L, D, K, Nat.zero_le _, rfl, rfl, rfl, fun i p h => absurd h (Nat.not_lt_zero _), H.out, Turned.refl _ _ _⟩
  case round =>
    obtain ⟨k, L', D', K', hk, rfl, rfl, hsh, hmk, hraw, htu⟩ := hrel
    have SH := Lib.hid hsh
    have MK := Lib.hid hmk
    have RW := Lib.hid hraw
    have TU := Lib.hid htu
    have hzr := htu.size
    have htk := HTT.out k
    have hLL : L'.length = n := by have := congrArg List.length hsh; rw [List.length_map, List.length_map, HN.out] at this; exact this
    have HLL := Lib.hid hLL
    clear hsh hmk hraw htu hLL
    by_cases hkn : k < n
    · have hkl : k < L.length := by rw [HN.out]; exact hkn
      have hkl' : k < L'.length := by rw [HLL.out]; exact hkn
      obtain ⟨g, off, e, hg1, hg2, hc0⟩ := RW.out.outA.row.at_ (k := k * 3) (by rw [encMs_len]; omega)
      have c0 : wr.cell? ⟨g, off + k * 3, none⟩ = some (.int .i64 L'[k].1.size) := hc0 _ _ (encMs_at0 hkl')
      have f0 : wr.frozen? ⟨g, off + k * 3, none⟩ = false := RW.out.outA.free e (k := k * 3) (by rw [encMs_len]; omega) _
      have HQ := Lib.hid (show ∀ z : Int, shR ({ L'[k].1 with size := z }, L'[k].2) = shR L'[k] from fun z => rfl)
      have hst := RW.out.setS hkl' e (HQ.out ((k0 + M.sumN mkR (L.take k) : Nat) : Int)) (off + k * 3) rfl
      have hszk : mkR L[k] = 1 + L'[k].1.doors.length * 3 + L'[k].1.keys.length := by
        have := map_at SH.out.symm hkl hkl'
        have e1 : L'[k].1.doors = L[k].1.doors := congrArg (·.1) this
        have e2 : L'[k].1.keys = L[k].1.keys := congrArg (·.2.1) this
        rw [e1, e2]; rfl
      have hsu := HSU.out k hkl
      have htk1 := HTT.out (k + 1)
      rw [hszk] at hsu
      have hp2 : (L'.set k ({ L'[k].1 with size := ((k0 + M.sumN mkR (L.take k) : Nat) : Int) }, L'[k].2))[k]? = some ({ L'[k].1 with size := ((k0 + M.sumN mkR (L.take k) : Nat) : Int) }, L'[k].2) := List.getElem?_set_self hkl'
      have HSH2 := Lib.hid ((sh_set hkl' (HQ.out ((k0 + M.sumN mkR (L.take k) : Nat) : Int))).trans SH.out)
      have HOLD := Lib.hid (show ∀ (i : Nat) (p : Rm), i < k → (L'.set k ({ L'[k].1 with size := ((k0 + M.sumN mkR (L.take k) : Nat) : Int) }, L'[k].2))[i]? = some p → L'[i]? = some p from fun i p hi hp => by rwa [List.getElem?_set_ne (by omega)] at hp)
      dsimp only at hst hp2 HSH2 HOLD
      have HST := Lib.hid hst
      have HP2 := Lib.hid hp2
      have HSU2 := Lib.hid hsu
      clear hst hp2 hc0 hszk
      subst e
      generalize hLs : L'.set k ({ L'[k].1 with size := ((k0 + M.sumN mkR (L.take k) : Nat) : Int) }, L'[k].2) = Ls at *
      generalize hmk9 : L'[k].1 = mk at *
      generalize L'[k].2 = sl at *
      have hLs9 := Lib.hid hLs
      clear hLs hmk9
      generalize hsk : M.sumN mkR (L.take k) = sk at *
      have HSK := Lib.hid hsk
      clear hsk
      have hb1 : mk.doors.length * 3 + mk.keys.length + sk ≤ 4194304 := by omega
      clear hsu htk1
      have hb2 : k0 + sk + mk.doors.length * 3 + mk.keys.length ≤ 20971520 := by omega
      clear hb1 htk
      generalize hz9 : k0 + sk = z at *
      have HZ9 := Lib.hid hz9
      clear hz9
      obtain ⟨r1, r2, r3, r4⟩ := sl
      have HRR := Lib.hid (HST.out.1.outA.row)
      obtain ⟨z1, z2, z3, z4, z5, z6⟩ := HST.out.1.mz k _ HP2.out
      obtain ⟨g1, n1, t1, q1, v1⟩ := z1.narrow
      have CD := Lib.hid (show Calls Try.prog 89 #[.slice r1 mk.doors.length r2, .int .i64 ((z : Int) + 1)] _ _ from markDoors_any (wr.setCell ⟨g, off + k * 3, none⟩ (.int .i64 ((z : Nat) : Int))) g1 (g1 + 1) r1 r2 mk.doors.length (z + 1) (D' k) z2 (by omega) (by omega) n1)
      have hcs := fun j hj => (HST.out.1.outA.row.at_ (k := k * 3 + j) hj)
      have hkl2 : k < Ls.length := (List.getElem?_eq_some_iff.1 HP2.out).1
      have hLk : Ls[k] = ({ mk with size := ((z : Nat) : Int) }, r1, r2, r3, r4) := by
        have := HP2.out
        rw [List.getElem?_eq_getElem hkl2] at this
        exact Option.some.inj this
      have p1 : (wr.setCell ⟨g, off + k * 3, none⟩ (.int .i64 ((z : Nat) : Int))).cell? ⟨g, off + k * 3 + 1, none⟩ = some (.slice r1 mk.doors.length r2) := by
        obtain ⟨b9, o9, e9, _, _, hc9⟩ := HST.out.1.outA.row.at_ (k := k * 3 + 1) (by rw [encMs_len]; omega)
        injection e9 with e9
        injection e9 with e91 e92 _
        subst e91; subst e92
        have := hc9 _ _ (encMs_at1 hkl2)
        rw [hLk] at this
        exact this
      clear hcs
      have CD1 := Lib.hid t1
      have CD2 := Lib.hid q1
      have CD3 := Lib.hid v1
      clear z1 z2 z3 z4 n1 t1 q1 v1
      go_wp2_with fail
      refine (CD.out).mono ?_
      rintro e w2 ⟨rfl, ho2, ht2⟩
      have hD := HST.out.1.setD HP2.out (Y := M.marks (z + 1) (mk.doors.length * 3)) (by rw [M.marks_len]) ht2 (CD1.out _ ht2) (CD2.out _ _ (by rw [M.marks_len]; have := (HST.out.1.mz k _ HP2.out).2.1; exact this.symm) ho2) CD3.out
      have HD := Lib.hid hD
      clear hD ho2 ht2 p1
      obtain ⟨z1, z2, z3, z4, z5, z6⟩ := HD.out.1.mz k _ HP2.out
      obtain ⟨g2, n2, t2, q2, v2⟩ := z3.narrow
      have CK := Lib.hid (markInts_any w2 g2 (g2 + 1) r3 r4 mk.keys.length (z + 1 + mk.doors.length * 3) (K' k) z4 (by omega) (by omega) n2)
      have p2 : w2.cell? ⟨g, off + k * 3 + 2, none⟩ = some (.slice r3 mk.keys.length r4) := by
        obtain ⟨b9, o9, e9, _, _, hc9⟩ := HD.out.1.outA.row.at_ (k := k * 3 + 2) (by rw [encMs_len]; omega)
        injection e9 with e9
        injection e9 with e91 e92 _
        subst e91; subst e92
        have := hc9 _ _ (encMs_at2 hkl2)
        rw [hLk] at this
        exact this
      have CK1 := Lib.hid t2
      have CK2 := Lib.hid q2
      have CK3 := Lib.hid v2
      clear z1 z2 z3 z4 n2 t2 q2 v2
      go_wp2_with fail
      refine (CK.out).mono ?_
      rintro e w3 ⟨rfl, ho3, ht3⟩
      have HK := Lib.hid (HD.out.1.setK HP2.out (Y := M.marks (z + 1 + mk.doors.length * 3) mk.keys.length) (by rw [M.marks_len]) ht3 (CK1.out _ ht3) (CK2.out _ _ (by rw [M.marks_len]; have := (HD.out.1.mz k _ HP2.out).2.2.2.1; exact this.symm) ho3) CK3.out)
      clear ho3 ht3 p2
      go_wp2_with fail
      go_roundw
      case rel =>
        refine ⟨k + 1, Ls, _, _, by omega, by go_num, by have e9 := HSU2.out; have e8 := HZ9.out; rw [e9]; congr 1; omega, HSH2.out, fun i p hi hp => ?_, HK.out.1, TU.out.trans (HST.out.2.trans (HD.out.2.trans HK.out.2))⟩
        rw [sum_mk HSH2.out]
        rcases Nat.eq_or_lt_of_le (Nat.le_of_lt_succ hi) with e | e
        · subst e
          rw [HP2.out] at hp
          injection hp with hp
          subst hp
          rw [HSK.out, HZ9.out, if_pos rfl, if_pos rfl]
          exact ⟨rfl, rfl, rfl⟩
        · rw [if_neg (by omega), if_neg (by omega)]
          have := MK.out i p e (HOLD.out i p e hp)
          rw [sum_mk SH.out] at this
          exact this
      case measure => simp [intOf]; omega
    · obtain rfl : k = n := by omega
      have HTA : Hid (M.sumN mkR (L.take k) = M.sumN mkR L) := Lib.hid (by rw [← HN.out, List.take_length])
      rw [HTA.out]
      go_wp2_with fail
      go_ret
      exact ⟨L', D', K', rfl, SH.out, MK.out, RW.out, TU.out⟩
end C
end Go.Proofs.Ytbcobheiofajeaa
