/-
  CONTRACTS of the laws' own helpers over worlds: markWorlds writes rising numbers, heldWorlds finds them. Condition: each maze and each list of owners lies in a range of its own; at most 1048576 mazes, doors, keys and owners in all.
-/
import Derived.Test.YtbcobheiofajeaaWlH
namespace Go.Proofs.Ytbcobheiofajeaa
open Go.RowKit
namespace C
set_option linter.unusedVariables false
set_option maxHeartbeats 1600000
set_option maxRecDepth 20000
def MkOPost (w : World) (lo hi : Nat) (a b : Option Addr) (L : List Rm) (O : List Ro) (D K : Nat → List Value) (RM RO : Nat → Nat × Nat) (k0 n : Nat) (e : Ending) (w' : World) : Prop :=
  ∃ Q', e = .returned (.int .i64 ((k0 + M.sumN (fun o : Ro => o.1.length) O : Nat) : Int)) ∧ MkO k0 n O Q' ∧ WsRaw lo hi w' a b L O D K Q' RM RO ∧ Turned lo hi w w'
theorem markOs_any (w : World) (lo hi : Nat) (a b : Option Addr) (c : Nat) (L : List Rm) (O : List Ro) (D K Q : Nat → List Value) (RM RO : Nat → Nat × Nat) (h : WsRaw lo hi w a b L O D K Q RM RO) (hz : hi ≤ w.heap.size) (hL : O.length ≤ 1048576) (hs : M.sumN (fun o : Ro => o.1.length) O ≤ 4194304) (k0 : Nat) (hk0 : k0 ≤ 33554432) (n : Nat) (hn : O.length = n) :
    Calls Try.prog 24 #[.slice b n c, .int .i64 (k0 : Int)] w (MkOPost w lo hi a b L O D K RM RO k0 n) := by
  have H := Lib.hid h
  have HN := Lib.hid hn
  have HTT := Lib.hid (fun k => M.sumN_le (f := fun o : Ro => o.1.length) O k)
  have HSU := Lib.hid (fun k (hk : k < O.length) => M.sumN_succ (f := fun o : Ro => o.1.length) hk)
  have hn9 : n ≤ 1048576 := by omega
  clear h hn hL
  go_enter Try.func24, Try.ntmps24
  go_wp2_with fail
  go_loopw [1, 5] (fun v1 v5 wr => ∃ (k : Nat) (Q' : Nat → List Value), k ≤ n ∧ v5 = .int .i64 (k : Int) ∧ v1 = .int .i64 ((k0 + M.sumN (fun o : Ro => o.1.length) (O.take k) : Nat) : Int) ∧ MkO k0 k O Q' ∧ WsRaw lo hi wr a b L O D K Q' RM RO ∧ Turned lo hi w wr) (fun _ v5 _ => n - (intOf v5).toNat)
  case atStart => exact ⟨0, Q, Nat.zero_le _, rfl, rfl, fun i p h => absurd h (Nat.not_lt_zero _), H.out, Turned.refl _ _ _⟩
  case round =>
    obtain ⟨k, Q', hk, rfl, rfl, hmk, hraw, htu⟩ := hrel
    have MK := Lib.hid hmk
    have RW := Lib.hid hraw
    have TU := Lib.hid htu
    have hzr := htu.size
    have htk := HTT.out k
    clear hmk hraw htu
    by_cases hkn : k < n
    · have hkl : k < O.length := by rw [HN.out]; exact hkn
      obtain ⟨g, off, e, hg1, hg2, hc0⟩ := RW.out.outB.row.at_ (k := k) (by rw [encOs_len]; omega)
      have c0 := hc0 _ _ (encOs_at hkl)
      have hsu := HSU.out k hkl
      have htk1 := HTT.out (k + 1)
      have HP := Lib.hid (show O[k]? = some O[k] from List.getElem?_eq_getElem hkl)
      have HSU2 := Lib.hid hsu
      clear hc0
      subst e
      generalize O[k] = ok at *
      obtain ⟨q0, q1, q2⟩ := ok
      generalize hsk : M.sumN (fun o : Ro => o.1.length) (O.take k) = sk at *
      have HSK := Lib.hid hsk
      clear hsk
      dsimp only at hsu c0
      have hb2 : k0 + sk + q0.length ≤ 41943040 := by omega
      clear hsu htk1 htk
      generalize hz9 : k0 + sk = z at *
      have HZ9 := Lib.hid hz9
      clear hz9
      obtain ⟨z1, z2, z3, z4⟩ := RW.out.ow k _ HP.out
      obtain ⟨g2, n2, t2, qq2, v2⟩ := z1.narrow
      have CK := Lib.hid (markInts_any wr g2 (g2 + 1) q1 q2 q0.length z (Q' k) z2 (by omega) (by omega) n2)
      have CK1 := Lib.hid t2
      have CK2 := Lib.hid qq2
      have CK3 := Lib.hid v2
      clear z1 z2 z3 z4 n2 t2 qq2 v2
      go_wp2_with fail
      refine (CK.out).mono ?_
      rintro e w3 ⟨rfl, ho3, ht3⟩
      have HK := Lib.hid (RW.out.setQ HP.out (Y := M.marks z q0.length) (by rw [M.marks_len]) ht3 (CK1.out _ ht3) (CK2.out _ _ (by rw [M.marks_len]; have := (RW.out.ow k _ HP.out).2.1; exact this.symm) ho3) CK3.out)
      clear ho3 ht3
      go_wp2_with fail
      go_roundw
      case rel =>
        refine ⟨k + 1, _, by omega, by go_num, by have e9 := HSU2.out; have e8 := HZ9.out; rw [e9]; congr 1; omega, fun i p hi hp => ?_, HK.out.1, TU.out.trans HK.out.2⟩
        rcases Nat.eq_or_lt_of_le (Nat.le_of_lt_succ hi) with e | e
        · subst e
          rw [HP.out] at hp
          injection hp with hp
          subst hp
          rw [if_pos rfl, HSK.out, HZ9.out]
        · rw [if_neg (by omega)]
          exact MK.out i p e hp
      case measure => simp [intOf]; omega
    · obtain rfl : k = n := by omega
      have HTA : Hid (M.sumN (fun o : Ro => o.1.length) (O.take k) = M.sumN (fun o : Ro => o.1.length) O) := Lib.hid (by rw [← HN.out, List.take_length])
      rw [HTA.out]
      go_wp2_with fail
      go_ret
      exact ⟨Q', rfl, MK.out, RW.out, TU.out⟩
/-- worlds over which rising numbers were written -/
def WlMarked (lo hi : Nat) (w : World) (k0 : Nat) (m : M.Wl) (a b : Option Addr) : Prop :=
  ∃ L O D K Q RM RO, L.map mkR = m.mazes.map M.mkM1 ∧ O.map (·.1) = m.owners ∧ MkM k0 m.mazes.length L D K ∧ MkO (k0 + M.sumN M.mkM1 m.mazes) m.owners.length O Q ∧ WsRaw lo hi w a b L O D K Q RM RO
theorem WlMarked.turned {lo hi lo' hi' k0 : Nat} {w w' : World} {m : M.Wl} {a b : Option Addr} (h : WlMarked lo hi w k0 m a b) (t : Turned lo' hi' w w') (hz : hi ≤ w.heap.size) (hd : hi ≤ lo' ∨ hi' ≤ lo) : WlMarked lo hi w' k0 m a b := by
  obtain ⟨L, O, D, K, Q, RM, RO, h1, h2, h3, h4, h5⟩ := h
  exact ⟨L, O, D, K, Q, RM, RO, h1, h2, h3, h4, h5.turned t hz hd⟩
def MkWPost (w : World) (lo hi k0 : Nat) (m : M.Wl) (a b : Option Addr) (e : Ending) (w' : World) : Prop :=
  e = .returned (.int .i64 ((k0 + M.mkW m : Nat) : Int)) ∧ WlMarked lo hi w' k0 m a b ∧ Turned lo hi w w'
theorem markWorlds_any (w : World) (lo hi : Nat) (m : M.Wl) (a b : Option Addr) (c d k0 : Nat) (h : WlOwn lo hi w m a c b d) (hz : hi ≤ w.heap.size) (h1 : M.szW m ≤ 1048576) (hk0 : k0 ≤ 16777216) :
    Calls Try.prog 23 #[.agg #[.slice a m.mazes.length c, .slice b m.owners.length d], .int .i64 (k0 : Int)] w (fun e w' => e = .returned (.int .i64 ((k0 + M.mkW m : Nat) : Int)) ∧ WlMarked lo hi w' k0 m a b ∧ Turned lo hi w w') := by
  show Calls _ _ _ _ (MkWPost w lo hi k0 m a b)
  obtain ⟨⟨L, O, RM, RO, r⟩, q1, q2, q3, q4⟩ := h
  have hl1 := r.row.lenM
  have hl2 := r.row.lenO
  have hmk := M.mk_le m.mazes
  have es1 : M.sumN mkR L = M.sumN M.mkM1 m.mazes := by rw [r.ms, M.sumN_map]; rfl
  have es2 : M.sumN (fun o : Ro => o.1.length) O = M.sumN List.length m.owners := by rw [r.os, M.sumN_map]
  have ES0 := Lib.hid (show L.map mkR = m.mazes.map M.mkM1 from by rw [r.ms, List.map_map]; rfl)
  have ES3 := Lib.hid (show O.map (·.1) = m.owners from r.os.symm)
  have ES2 := Lib.hid es2
  have ES1 := Lib.hid es1
  unfold M.szW at h1
  have hb9 : M.sumN M.mkM1 m.mazes ≤ 4194304 ∧ M.sumN List.length m.owners ≤ 4194304 ∧ m.mazes.length ≤ 1048576 ∧ m.owners.length ≤ 1048576 := by omega
  obtain ⟨hb1, hb2, hb3, hb4⟩ := hb9
  have RW := Lib.hid (fun W (hB : Below w.heap.size w W) => (WsRaw.of r.mazes r.owners r.ws).turned (Turned.of_below hB hi hi) hz (.inl (Nat.le_refl _)))
  have HMW : Hid (M.mkW m = M.sumN M.mkM1 m.mazes + M.sumN List.length m.owners) := Lib.hid rfl
  have HL1 := Lib.hid hl1
  have HL2 := Lib.hid hl2
  clear r h1 hmk hl1 hl2
  generalize hnm : m.mazes.length = nm at *
  generalize hno : m.owners.length = no at *
  generalize hsm : M.sumN M.mkM1 m.mazes = sm at *
  generalize hso : M.sumN List.length m.owners = so at *
  have HNM := Lib.hid hnm
  have HNO := Lib.hid hno
  have HSM := Lib.hid hsm
  clear hnm hno hsm hso es1 es2
  go_enter Try.func23, Try.ntmps23
  go_wp2_with fail
  refine named ?_
  intro W hW
  have hb : Below w.heap.size w W := by rw [hW]; exact below_alloc _ _
  have x1 : Box2 W w.heap.size 30 (.slice a nm c) (.slice b no d) := by rw [hW]; exact Box2.new _ _ _ rfl
  clear hW
  have hzw := hb.size
  have hxl := x1.lt
  refine (markMazeS_any W lo hi a b c L O _ _ _ RM RO (RW.out W hb) (by omega) (by rw [HL1.out]; omega) (by rw [ES1.out]; omega) k0 hk0 nm HL1.out).mono ?_
  rintro e w1 ⟨L', D', K', he, hsh, hmk, hraw, htu⟩
  rw [ES1.out] at he
  subst he
  obtain ⟨c0, c1⟩ := (x1.turned htu (.inr (by omega))).cells
  have R1 := Lib.hid hraw
  have SH := Lib.hid hsh
  have MK := Lib.hid hmk
  have TU := Lib.hid ((Turned.of_below hb lo hi).trans htu)
  have hz2 := htu.size
  clear x1 hb hraw hsh hmk htu
  go_wp2_with fail
  refine (markOs_any w1 lo hi a b d L' O D' K' _ RM RO R1.out (by omega) (by rw [HL2.out]; omega) (by rw [ES2.out]; omega) (k0 + sm) (by omega) no HL2.out).mono ?_
  rintro e w2 ⟨Q', he, hmo, hraw, htu⟩
  rw [ES2.out] at he
  subst he
  have R2 := Lib.hid hraw
  have MO := Lib.hid hmo
  have TU2 := Lib.hid (TU.out.trans htu)
  clear hraw hmo htu
  go_wp2_with fail
  go_ret
  refine ⟨by show Ending.returned (.int .i64 ((k0 : Int) + sm + so)) = _; rw [HMW.out, show ((k0 + (sm + so) : Nat) : Int) = (k0 : Int) + sm + so by omega], ⟨L', O, D', K', Q', RM, RO, (sh_mk SH.out).trans ES0.out, ES3.out, by rw [HNM.out]; exact MK.out, by rw [HNO.out, HSM.out]; exact MO.out, R2.out⟩, TU2.out⟩
theorem heldMazeS_any (w : World) (lo hi : Nat) (a b : Option Addr) (c : Nat) (L : List Rm) (O : List Ro) (D K Q : Nat → List Value) (RM RO : Nat → Nat × Nat) (h : WsRaw lo hi w a b L O D K Q RM RO) (hL : L.length ≤ 1048576) (hs : M.sumN mkR L ≤ 4194304) (k0 : Nat) (hk0 : k0 ≤ 16777216) (n : Nat) (hn : L.length = n) (hmk : MkM k0 n L D K) :
    Calls Try.prog 90 #[.slice a n c, .int .i64 (k0 : Int)] w (fun e w' => e = .returned (.int .i64 ((k0 + M.sumN mkR L : Nat) : Int)) ∧ w = w') := by
  have H := Lib.hid h
  have HN := Lib.hid hn
  have MK := Lib.hid hmk
  have HTT := Lib.hid (fun k => M.sumN_le (f := mkR) L k)
  have HSU := Lib.hid (fun k (hk : k < L.length) => M.sumN_succ (f := mkR) hk)
  have hn9 : n ≤ 1048576 := by omega
  clear h hn hL hmk
  go_enter Try.func90, Try.ntmps90
  go_wp2_with fail
  go_loop [1, 5] (fun v1 v5 => ∃ (k : Nat), k ≤ n ∧ v5 = .int .i64 (k : Int) ∧ v1 = .int .i64 ((k0 + M.sumN mkR (L.take k) : Nat) : Int)) (fun _ v5 => n - (intOf v5).toNat)
  case atStart => exact ⟨0, Nat.zero_le _, rfl, rfl⟩
  case round =>
    obtain ⟨k, hk, rfl, rfl⟩ := hrel
    have htk := HTT.out k
    by_cases hkn : k < n
    · have hkl : k < L.length := by rw [HN.out]; exact hkn
      obtain ⟨g, off, e, hg1, hg2, hc0⟩ := H.out.outA.row.at_ (k := k * 3) (by rw [encMs_len]; omega)
      have c0 : w.cell? ⟨g, off + k * 3, none⟩ = some (.int .i64 L[k].1.size) := hc0 _ _ (encMs_at0 hkl)
      have c1 : w.cell? ⟨g, off + k * 3 + 1, none⟩ = some (.slice L[k].2.1 L[k].1.doors.length L[k].2.2.1) := hc0 _ _ (encMs_at1 hkl)
      have c2 : w.cell? ⟨g, off + k * 3 + 2, none⟩ = some (.slice L[k].2.2.2.1 L[k].1.keys.length L[k].2.2.2.2) := hc0 _ _ (encMs_at2 hkl)
      obtain ⟨m1, m2, m3⟩ := MK.out k _ hkn (List.getElem?_eq_getElem hkl)
      obtain ⟨z1, z2, z3, z4, z5, z6⟩ := H.out.mz k _ (List.getElem?_eq_getElem hkl)
      rw [m2] at z1
      rw [m3] at z3
      rw [m1] at c0
      have hsu : M.sumN mkR (L.take (k + 1)) = M.sumN mkR (L.take k) + (1 + L[k].1.doors.length * 3 + L[k].1.keys.length) := HSU.out k hkl
      have htk1 := HTT.out (k + 1)
      have HSU2 := Lib.hid hsu
      clear hc0 m1 m2 m3 z2 z4 z5 z6
      subst e
      generalize L[k].1.doors.length = nd at *
      generalize L[k].1.keys.length = nk at *
      generalize L[k].2.1 = r1 at *
      generalize L[k].2.2.1 = r2 at *
      generalize L[k].2.2.2.1 = r3 at *
      generalize L[k].2.2.2.2 = r4 at *
      generalize hsk : M.sumN mkR (L.take k) = sk at *
      clear hsk
      have hb2 : k0 + sk + nd * 3 + nk ≤ 20971520 := by omega
      clear hsu htk1 htk
      generalize hz9 : k0 + sk = z at *
      have HZ9 := Lib.hid hz9
      clear hz9
      have CD := Lib.hid (show Calls Try.prog 121 #[.slice r1 nd r2, .int .i64 ((z : Int) + 1)] _ _ from heldDoors_any w _ _ r1 r2 nd (z + 1) (by omega) (by omega) z1.row)
      have CK := Lib.hid (heldInts_any w _ _ r3 r4 nk (z + 1 + nd * 3) (by omega) (by omega) z3.row)
      clear z1 z3
      go_wp2_with fail
      refine (CD.out).mono ?_
      rintro e w2 ⟨rfl, rfl⟩
      go_wp2_with fail
      refine (CK.out).mono ?_
      rintro e w2 ⟨rfl, rfl⟩
      go_wp2_with fail
      go_round
      case rel => exact ⟨k + 1, by omega, by go_num, by have e9 := HSU2.out; have e8 := HZ9.out; rw [e9]; congr 1; omega⟩
      case measure => simp [intOf]; omega
    · obtain rfl : k = n := by omega
      have HTA : Hid (M.sumN mkR (L.take k) = M.sumN mkR L) := Lib.hid (by rw [← HN.out, List.take_length])
      rw [HTA.out]
      go_wp2_with fail
      go_ret
      exact ⟨rfl, rfl⟩
theorem heldOs_any (w : World) (lo hi : Nat) (a b : Option Addr) (c : Nat) (L : List Rm) (O : List Ro) (D K Q : Nat → List Value) (RM RO : Nat → Nat × Nat) (h : WsRaw lo hi w a b L O D K Q RM RO) (hL : O.length ≤ 1048576) (hs : M.sumN (fun o : Ro => o.1.length) O ≤ 4194304) (k0 : Nat) (hk0 : k0 ≤ 33554432) (n : Nat) (hn : O.length = n) (hmk : MkO k0 n O Q) :
    Calls Try.prog 25 #[.slice b n c, .int .i64 (k0 : Int)] w (fun e w' => e = .returned (.int .i64 ((k0 + M.sumN (fun o : Ro => o.1.length) O : Nat) : Int)) ∧ w = w') := by
  have H := Lib.hid h
  have HN := Lib.hid hn
  have MK := Lib.hid hmk
  have HTT := Lib.hid (fun k => M.sumN_le (f := fun o : Ro => o.1.length) O k)
  have HSU := Lib.hid (fun k (hk : k < O.length) => M.sumN_succ (f := fun o : Ro => o.1.length) hk)
  have hn9 : n ≤ 1048576 := by omega
  clear h hn hL hmk
  go_enter Try.func25, Try.ntmps25
  go_wp2_with fail
  go_loop [1, 5] (fun v1 v5 => ∃ (k : Nat), k ≤ n ∧ v5 = .int .i64 (k : Int) ∧ v1 = .int .i64 ((k0 + M.sumN (fun o : Ro => o.1.length) (O.take k) : Nat) : Int)) (fun _ v5 => n - (intOf v5).toNat)
  case atStart => exact ⟨0, Nat.zero_le _, rfl, rfl⟩
  case round =>
    obtain ⟨k, hk, rfl, rfl⟩ := hrel
    have htk := HTT.out k
    by_cases hkn : k < n
    · have hkl : k < O.length := by rw [HN.out]; exact hkn
      obtain ⟨g, off, e, hg1, hg2, hc0⟩ := H.out.outB.row.at_ (k := k) (by rw [encOs_len]; omega)
      have c0 := hc0 _ _ (encOs_at hkl)
      have m1 := MK.out k _ hkn (List.getElem?_eq_getElem hkl)
      obtain ⟨z1, z2, z3, z4⟩ := H.out.ow k _ (List.getElem?_eq_getElem hkl)
      rw [m1] at z1
      have hsu : M.sumN (fun o : Ro => o.1.length) (O.take (k + 1)) = M.sumN (fun o : Ro => o.1.length) (O.take k) + O[k].1.length := HSU.out k hkl
      have htk1 := HTT.out (k + 1)
      have HSU2 := Lib.hid hsu
      clear hc0 m1 z2 z3 z4
      subst e
      generalize O[k].1.length = nk at *
      generalize O[k].2.1 = r1 at *
      generalize O[k].2.2 = r2 at *
      generalize hsk : M.sumN (fun o : Ro => o.1.length) (O.take k) = sk at *
      clear hsk
      have hb2 : k0 + sk + nk ≤ 41943040 := by omega
      clear hsu htk1 htk
      generalize hz9 : k0 + sk = z at *
      have HZ9 := Lib.hid hz9
      clear hz9
      have hpos : ¬ ((z + nk : Nat) : Int) < 0 := by omega
      have hpos2 : ¬ (z : Int) + (nk : Int) < 0 := by omega
      have CK := Lib.hid (heldInts_any w _ _ r1 r2 nk z (by omega) (by omega) z1.row)
      clear z1
      go_wp2_with fail
      refine (CK.out).mono ?_
      rintro e w2 ⟨rfl, rfl⟩
      go_wp2_with fail
      go_round
      case rel => exact ⟨k + 1, by omega, by go_num, by have e9 := HSU2.out; have e8 := HZ9.out; rw [e9]; congr 1; omega⟩
      case measure => simp [intOf]; omega
    · obtain rfl : k = n := by omega
      have HTA : Hid (M.sumN (fun o : Ro => o.1.length) (O.take k) = M.sumN (fun o : Ro => o.1.length) O) := Lib.hid (by rw [← HN.out, List.take_length])
      rw [HTA.out]
      go_wp2_with fail
      go_ret
      exact ⟨rfl, rfl⟩
theorem heldWorlds_any (w : World) (lo hi : Nat) (m : M.Wl) (a b : Option Addr) (c d k0 : Nat) (h : WlMarked lo hi w k0 m a b) (hz : hi ≤ w.heap.size) (h1 : M.szW m ≤ 1048576) (hk0 : k0 ≤ 16777216) :
    Calls Try.prog 49 #[.agg #[.slice a m.mazes.length c, .slice b m.owners.length d], .int .i64 (k0 : Int)] w (fun e w' => e = .returned (.int .i64 ((k0 + M.mkW m : Nat) : Int)) ∧ Below w.heap.size w w') := by
  obtain ⟨L, O, D, K, Q, RM, RO, e1, e2, e3, e4, r⟩ := h
  have hmk := M.mk_le m.mazes
  have es1 : M.sumN mkR L = M.sumN M.mkM1 m.mazes := by unfold M.sumN; rw [e1]
  have es2 : M.sumN (fun o : Ro => o.1.length) O = M.sumN List.length m.owners := by rw [← e2, M.sumN_map]
  have hl1 : L.length = m.mazes.length := by have := congrArg List.length e1; simpa using this
  have hl2 : O.length = m.owners.length := by rw [← e2, List.length_map]
  unfold M.szW at h1
  have hb9 : M.sumN M.mkM1 m.mazes ≤ 4194304 ∧ M.sumN List.length m.owners ≤ 4194304 ∧ m.mazes.length ≤ 1048576 ∧ m.owners.length ≤ 1048576 := by omega
  obtain ⟨hb1, hb2, hb3, hb4⟩ := hb9
  have HM := Lib.hid (fun W (hB : Below w.heap.size w W) => heldMazeS_any W lo hi a b c L O D K Q RM RO (r.turned (Turned.of_below hB hi hi) hz (.inl (Nat.le_refl _))) (by omega) (by omega) k0 hk0 m.mazes.length hl1 e3)
  have HO := Lib.hid (fun W (hB : Below w.heap.size w W) => heldOs_any W lo hi a b d L O D K Q RM RO (r.turned (Turned.of_below hB hi hi) hz (.inl (Nat.le_refl _))) (by omega) (by omega) (k0 + M.sumN M.mkM1 m.mazes) (by omega) m.owners.length hl2 e4)
  rw [es1] at HM
  rw [es2] at HO
  have HMW : Hid (M.mkW m = M.sumN M.mkM1 m.mazes + M.sumN List.length m.owners) := Lib.hid rfl
  clear r h1 hmk hl1 hl2 e1 e2 e3 e4 es1 es2
  generalize m.mazes.length = nm at *
  generalize m.owners.length = no at *
  generalize M.sumN M.mkM1 m.mazes = sm at *
  generalize M.sumN List.length m.owners = so at *
  have hpos : ¬ ((k0 + sm : Nat) : Int) < 0 := by omega
  have hpos2 : ¬ ((k0 + sm + so : Nat) : Int) < 0 := by omega
  go_enter Try.func49, Try.ntmps49
  go_wp2_with fail
  refine named ?_
  intro W hW
  have hb : Below w.heap.size w W := by rw [hW]; exact below_alloc _ _
  have x1 : Box2 W w.heap.size 30 (.slice a nm c) (.slice b no d) := by rw [hW]; exact Box2.new _ _ _ rfl
  clear hW
  have HB := Lib.hid hb
  obtain ⟨c0, c1⟩ := x1.cells
  clear x1 hb
  refine (HM.out W HB.out).mono ?_
  rintro e w1 ⟨rfl, rfl⟩
  go_wp2_with fail
  refine (HO.out W HB.out).mono ?_
  rintro e w1 ⟨rfl, rfl⟩
  go_wp2_with fail
  go_ret
  exact ⟨by show Ending.returned (.int .i64 ((k0 : Int) + sm + so)) = _; rw [HMW.out, show ((k0 + (sm + so) : Nat) : Int) = (k0 : Int) + sm + so by omega], HB.out⟩
end C
end Go.Proofs.Ytbcobheiofajeaa
