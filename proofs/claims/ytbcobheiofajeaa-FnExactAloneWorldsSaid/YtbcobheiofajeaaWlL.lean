/-
  CONTRACTS of the laws' own helpers over worlds: szWorlds counts, toWorlds gives a copy of its own, eqWorlds says yes of two that read alike. Condition: at most 1048576 mazes, doors, keys and owners in all.
-/
import Derived.Test.YtbcobheiofajeaaWlO
import Derived.Test.YtbcobheiofajeaaWAMem
namespace Go.Proofs.Ytbcobheiofajeaa
open Go.RowKit
namespace M
def sumN {α : Type} (f : α → Nat) (l : List α) : Nat := (l.map f).sum
section
variable {α β : Type} {f : α → Nat}
theorem sumN_cons (x : α) (l : List α) : sumN f (x :: l) = f x + sumN f l := by unfold sumN; rw [List.map_cons, List.sum_cons]
theorem sumN_append (X Y : List α) : sumN f (X ++ Y) = sumN f X + sumN f Y := by unfold sumN; rw [List.map_append, List.sum_append]
theorem sumN_nil : sumN f [] = 0 := rfl
theorem sumN_succ {X : List α} {k : Nat} (h : k < X.length) : sumN f (X.take (k + 1)) = sumN f (X.take k) + f X[k] := by
  rw [List.take_succ_eq_append_getElem h, sumN_append, sumN_cons, sumN_nil]
  omega
theorem sumN_le (X : List α) (k : Nat) : sumN f (X.take k) ≤ sumN f X := by
  have := sumN_append (f := f) (X.take k) (X.drop k)
  rw [List.take_append_drop] at this
  omega
theorem le_sumN {X : List α} {k : Nat} (h : k < X.length) : f X[k] ≤ sumN f X := by
  have h1 := sumN_succ (f := f) h
  have h2 := sumN_le (f := f) X (k + 1)
  omega
theorem sumN_map (g : β → α) (l : List β) : sumN f (l.map g) = sumN (fun x => f (g x)) l := by
  unfold sumN; rw [List.map_map]; rfl
end
def szM1 (m : Mz) : Nat := m.doors.length + m.keys.length
def mkM1 (m : Mz) : Nat := 1 + m.doors.length * 3 + m.keys.length
def szW (w : Wl) : Nat := w.mazes.length + sumN szM1 w.mazes + w.owners.length + sumN List.length w.owners
def mkW (w : Wl) : Nat := sumN mkM1 w.mazes + sumN List.length w.owners
theorem mk_le (l : List Mz) : sumN mkM1 l ≤ l.length + 3 * sumN szM1 l := by
  induction l with
  | nil => exact Nat.le_refl _
  | cons m l ih =>
    rw [sumN_cons, sumN_cons, List.length_cons]
    unfold mkM1 szM1
    unfold mkM1 szM1 at ih
    omega
theorem mkW_le (w : Wl) : mkW w ≤ 3 * szW w := by
  have := mk_le w.mazes
  unfold mkW szW
  omega
end M
namespace C
theorem infoMz : (Try.prog.info? 55).map (fun i => (i.zero, i.size, i.bytes)) = some (some (.agg #[.int .i64 0, .slice none 0 0, .slice none 0 0]), 3, 56) := by kernel_rfl
theorem infoII9 : (Try.prog.info? 39).map (fun i => (i.zero, i.size, i.bytes)) = some (some (.slice none 0 0), 1, 24) := by kernel_rfl
set_option linter.unusedVariables false
set_option maxHeartbeats 1600000
set_option maxRecDepth 20000
theorem szMazeS_any (w : World) (lo hi : Nat) (a : Option Addr) (c : Nat) (L : List Rm) (h : RowIn lo hi w a (encMs L)) (hz : hi ≤ w.heap.size) (hb : ∀ p ∈ L, MzR lo hi w p) (hL : L.length ≤ 9223372036854775807) (left : Int) (h0 : 0 ≤ left) (h1 : left ≤ 1048576) :
    Calls Try.prog 55 #[.slice a L.length c, .int .i64 left] w (fun e w' => e = .returned (.int .i64 (if left < L.length + M.sumN (fun p : Rm => M.szM1 p.1) L then -1 else left - L.length - M.sumN (fun p : Rm => M.szM1 p.1) L)) ∧ Below w.heap.size w w') := by
  have H := Lib.hid h
  have HB := Lib.hid (fun k (hk : k < L.length) => show L[k].1.doors.length ≤ 9223372036854775807 ∧ L[k].1.keys.length ≤ 9223372036854775807 from by
    have := hb _ (List.getElem_mem hk)
    exact ⟨Nat.le_trans this.c1 this.c2, Nat.le_trans this.d1 this.d2⟩)
  have HTT := Lib.hid (fun k => M.sumN_le (f := fun p : Rm => M.szM1 p.1) L k)
  have HSU := Lib.hid (fun k (hk : k < L.length) => M.sumN_succ (f := fun p : Rm => M.szM1 p.1) hk)
  clear h hb
  by_cases hlt : left < (L.length : Int)
  · rw [if_pos (by omega)]
    go_enter Try.func55, Try.ntmps55
    go_wp2_with fail
    go_ret
    exact ⟨rfl, Below.refl _ _⟩
  · generalize hR : (if left < L.length + M.sumN (fun p : Rm => M.szM1 p.1) L then (-1 : Int) else left - L.length - M.sumN (fun p : Rm => M.szM1 p.1) L) = R
    have HR := Lib.hid hR
    clear hR
    go_enter Try.func55, Try.ntmps55
    go_wp2_with fail
    go_loopw [1, 5] (fun v1 v5 wr => ∃ (k : Nat), k ≤ L.length ∧ v5 = .int .i64 (k : Int) ∧ v1 = .int .i64 (left - L.length - M.sumN (fun p : Rm => M.szM1 p.1) (L.take k)) ∧ 0 ≤ left - L.length - M.sumN (fun p : Rm => M.szM1 p.1) (L.take k) ∧ Below w.heap.size w wr) (fun _ v5 _ => L.length - (intOf v5).toNat)
    case atStart => exact ⟨0, Nat.zero_le _, rfl, by rw [List.take_zero, M.sumN_nil]; simp, by rw [List.take_zero, M.sumN_nil]; omega, Below.refl _ _⟩
    case round =>
      obtain ⟨k, hk, rfl, rfl, hpos, hlow⟩ := hrel
      have LO := Lib.hid hlow
      have hzr := hlow.size
      have htk := HTT.out k
      by_cases hkl : k < L.length
      · obtain ⟨b, off, rfl, _, hbb, hc0⟩ := (H.out.turned (Turned.of_below hlow 0 0) hz (.inr (Nat.zero_le _))).at_ (k := k * 3) (by rw [encMs_len]; omega)
        have c0 := hc0 _ _ (encMs_at0 hkl)
        have c1 : wr.cell? ⟨b, off + k * 3 + 1, none⟩ = some (.slice L[k].2.1 L[k].1.doors.length L[k].2.2.1) := hc0 _ _ (encMs_at1 hkl)
        have c2 : wr.cell? ⟨b, off + k * 3 + 2, none⟩ = some (.slice L[k].2.2.2.1 L[k].1.keys.length L[k].2.2.2.2) := hc0 _ _ (encMs_at2 hkl)
        have hbk := HB.out k hkl
        have hsu : M.sumN (fun p : Rm => M.szM1 p.1) (L.take (k + 1)) = M.sumN (fun p : Rm => M.szM1 p.1) (L.take k) + (L[k].1.doors.length + L[k].1.keys.length) := HSU.out k hkl
        have htk1 := HTT.out (k + 1)
        have CS := Lib.hid (szMaze_any wr L[k].1 L[k].2.1 L[k].2.2.2.1 L[k].2.2.1 L[k].2.2.2.2 (left - L.length - M.sumN (fun p : Rm => M.szM1 p.1) (L.take k)) hpos (by omega) hbk.1 hbk.2)
        clear hc0 hlow
        generalize hS : M.sumN (fun p : Rm => M.szM1 p.1) (L.take k) = tk at *
        generalize hm : L[k].1 = mk at *
        generalize L[k].2.1 = x1 at *
        generalize L[k].2.2.1 = x2 at *
        generalize L[k].2.2.2.1 = x3 at *
        generalize L[k].2.2.2.2 = x4 at *
        have HSK := Lib.hid hS
        clear hS hm
        go_wp2_with fail
        refine (CS.out).mono ?_
        rintro e w2 ⟨rfl, hb2⟩
        have LO2 := Lib.hid (LO.out.trans (hb2.mono hzr))
        clear hb2
        by_cases hs : left - L.length - tk < mk.doors.length + mk.keys.length
        · rw [if_pos hs]
          have HF : Hid (R = -1) := Lib.hid (by
            rw [← HR.out]
            refine if_pos ?_
            omega)
          clear hsu htk1 htk hs
          go_wp2_with fail
          go_ret
          exact ⟨by rw [HF.out]; rfl, LO2.out⟩
        · rw [if_neg hs]
          have hpos2 : 0 ≤ left - L.length - tk - mk.doors.length - mk.keys.length := by omega
          have HSU2 := Lib.hid hsu
          clear hsu htk1 htk hs
          go_wp2_with fail
          go_roundw
          case rel => exact ⟨k + 1, by omega, by go_num, by have := HSU2.out; rw [this]; congr 1; omega, by have := HSU2.out; rw [this]; omega, LO2.out⟩
          case measure => simp [intOf]; omega
      · obtain rfl : k = L.length := by omega
        have HF : Hid (R = left - L.length - M.sumN (fun p : Rm => M.szM1 p.1) (L.take L.length)) := Lib.hid (by
          rw [← HR.out]
          rw [List.take_length] at hpos ⊢
          exact if_neg (by omega))
        clear hlow
        go_wp2_with fail
        go_ret
        exact ⟨by rw [HF.out]; rfl, LO.out⟩
theorem szIntSS_any (w : World) (lo hi : Nat) (a : Option Addr) (c : Nat) (O : List Ro) (h : RowIn lo hi w a (encOs O)) (hz : hi ≤ w.heap.size) (hb : ∀ o ∈ O, OwR lo hi w o) (hL : O.length ≤ 9223372036854775807) (left : Int) (h0 : 0 ≤ left) (h1 : left ≤ 1048576) :
    Calls Try.prog 56 #[.slice a O.length c, .int .i64 left] w (fun e w' => e = .returned (.int .i64 (if left < O.length + M.sumN (fun o : Ro => o.1.length) O then -1 else left - O.length - M.sumN (fun o : Ro => o.1.length) O)) ∧ w = w') := by
  have H := Lib.hid h
  have HB := Lib.hid (fun k (hk : k < O.length) => show O[k].1.length ≤ 9223372036854775807 from by
    have := hb _ (List.getElem_mem hk)
    exact Nat.le_trans this.c1 this.c2)
  have HTT := Lib.hid (fun k => M.sumN_le (f := fun o : Ro => o.1.length) O k)
  have HSU := Lib.hid (fun k (hk : k < O.length) => M.sumN_succ (f := fun o : Ro => o.1.length) hk)
  clear h hb
  by_cases hlt : left < (O.length : Int)
  · rw [if_pos (by omega)]
    go_enter Try.func56, Try.ntmps56
    go_wp2_with fail
    go_ret
    exact ⟨rfl, rfl⟩
  · generalize hR : (if left < O.length + M.sumN (fun o : Ro => o.1.length) O then (-1 : Int) else left - O.length - M.sumN (fun o : Ro => o.1.length) O) = R
    have HR := Lib.hid hR
    clear hR
    go_enter Try.func56, Try.ntmps56
    go_wp2_with fail
    go_loop [1, 5] (fun v1 v5 => ∃ (k : Nat), k ≤ O.length ∧ v5 = .int .i64 (k : Int) ∧ v1 = .int .i64 (left - O.length - M.sumN (fun o : Ro => o.1.length) (O.take k)) ∧ 0 ≤ left - O.length - M.sumN (fun o : Ro => o.1.length) (O.take k)) (fun _ v5 => O.length - (intOf v5).toNat)
    case atStart => exact ⟨0, Nat.zero_le _, rfl, by rw [List.take_zero, M.sumN_nil]; simp, by rw [List.take_zero, M.sumN_nil]; omega⟩
    case round =>
      obtain ⟨k, hk, rfl, rfl, hpos⟩ := hrel
      have htk := HTT.out k
      by_cases hkl : k < O.length
      · obtain ⟨b, off, rfl, _, hbb, hc0⟩ := H.out.at_ (k := k) (by rw [encOs_len]; omega)
        have c0 := hc0 _ _ (encOs_at hkl)
        have hbk := HB.out k hkl
        have hsu := HSU.out k hkl
        have htk1 := HTT.out (k + 1)
        have CS := Lib.hid (szInts_any w O[k].2.1 O[k].1.length O[k].2.2 (left - O.length - M.sumN (fun o : Ro => o.1.length) (O.take k)) hpos (by omega) hbk)
        clear hc0
        generalize hS : M.sumN (fun o : Ro => o.1.length) (O.take k) = tk at *
        generalize hm : O[k].1.length = mk at *
        generalize O[k].2.1 = x1 at *
        generalize O[k].2.2 = x2 at *
        have HSK := Lib.hid hS
        clear hS hm
        go_wp2_with fail
        refine (CS.out).mono ?_
        rintro e w2 ⟨rfl, rfl⟩
        by_cases hs : left - O.length - tk < mk
        · rw [if_pos hs]
          have HF : Hid (R = -1) := Lib.hid (by
            rw [← HR.out]
            refine if_pos ?_
            omega)
          clear hsu htk1 htk hs
          go_wp2_with fail
          go_ret
          exact ⟨by rw [HF.out]; rfl, rfl⟩
        · rw [if_neg hs]
          have hpos2 : 0 ≤ left - O.length - tk - mk := by omega
          have HSU2 := Lib.hid hsu
          clear hsu htk1 htk hs
          go_wp2_with fail
          go_round
          case rel => exact ⟨k + 1, by omega, by go_num, by have := HSU2.out; rw [this]; congr 1; omega, by have := HSU2.out; rw [this]; omega⟩
          case measure => simp [intOf]; omega
      · obtain rfl : k = O.length := by omega
        have HF : Hid (R = left - O.length - M.sumN (fun o : Ro => o.1.length) O) := Lib.hid (by
          rw [← HR.out]
          rw [List.take_length] at hpos
          exact if_neg (by omega))
        go_wp2_with fail
        go_ret
        exact ⟨by rw [HF.out]; rfl, rfl⟩
theorem szWorlds_any (w : World) (lo hi : Nat) (m : M.Wl) (a b : Option Addr) (c d : Nat) (h : WlIn lo hi w m a c b d) (hz : hi ≤ w.heap.size) (left : Int) (h0 : 0 ≤ left) (h1 : left ≤ 1048576) :
    Calls Try.prog 15 #[.agg #[.slice a m.mazes.length c, .slice b m.owners.length d], .int .i64 left] w
      fun e w' => e = .returned (.int .i64 (if left < M.szW m then -1 else left - M.szW m)) ∧ Below w.heap.size w w' := by
  obtain ⟨⟨L, O, r⟩, q1, q2, q3, q4⟩ := h
  have hl1 := r.lenM
  have hl2 := r.lenO
  have HM : Hid (∀ W, Below w.heap.size w W → _) := Lib.hid (fun W (hB : Below w.heap.size w W) => szMazeS_any W lo hi a c L (r.mazes.below hB hz) (Nat.le_trans hz hB.size) (fun p hp => (r.maze p hp).below hB hz) (by omega) left h0 h1)
  have HO : Hid (∀ W, Below w.heap.size w W → ∀ l : Int, 0 ≤ l → l ≤ 1048576 → _) := Lib.hid (fun W (hB : Below w.heap.size w W) (l : Int) g0 g1 => szIntSS_any W lo hi b d O (r.owners.below hB hz) (Nat.le_trans hz hB.size) (fun p hp => (r.owner p hp).turned (Turned.of_below hB 0 0) hz (.inr (Nat.zero_le _))) (by omega) l g0 g1)
  have e1 : M.sumN (fun p : Rm => M.szM1 p.1) L = M.sumN M.szM1 m.mazes := by rw [r.ms, M.sumN_map]
  have e2 : M.sumN (fun o : Ro => o.1.length) O = M.sumN List.length m.owners := by rw [r.os, M.sumN_map]
  rw [hl1, e1] at HM
  rw [hl2, e2] at HO
  clear e1 e2 hl1 hl2 r
  unfold M.szW
  generalize m.mazes.length = nm at *
  generalize m.owners.length = no at *
  generalize M.sumN M.szM1 m.mazes = sm at *
  generalize M.sumN List.length m.owners = so at *
  by_cases hlt : left < nm + sm
  · rw [if_pos (by omega)]
    go_enter Try.func15, Try.ntmps15
    go_wp2_with fail
    refine (HM.out _ (below_alloc _ _)).mono ?_
    rintro e w1 ⟨rfl, hb1⟩
    rw [if_pos (by omega)]
    go_wp2_with fail
    go_ret
    exact ⟨rfl, C.Below.more (below_alloc _ _) hb1⟩
  · have hs2 : 0 ≤ left - nm - sm ∧ left - nm - sm ≤ 1048576 := by omega
    by_cases hlt2 : left - nm - sm < no + so
    all_goals
      first
      | rw [if_pos (by omega)]
      | rw [if_neg (by omega)]
      go_enter Try.func15, Try.ntmps15
      go_wp2_with fail
      refine named ?_
      intro W hW
      have hb : Below w.heap.size w W := by rw [hW]; exact below_alloc _ _
      have x1 : Box2 W w.heap.size 25 (.slice a nm c) (.slice b no d) := by rw [hW]; exact Box2.new _ _ _ rfl
      clear hW
      refine (HM.out _ hb).mono ?_
      rintro e w1 ⟨rfl, hb1⟩
      obtain ⟨c0, c1⟩ := (x1.below hb1).cells
      have hb2 := C.Below.more hb hb1
      have hzz := hb2.size
      clear x1 hb hb1
      rw [if_neg (by omega)]
      have HB2 := Lib.hid hb2
      clear hb2
      go_wp2_with fail
      refine (HO.out _ HB2.out (left - nm - sm) hs2.1 hs2.2).mono ?_
      rintro e w2 ⟨rfl, rfl⟩
      first
      | rw [if_pos (by omega)]
      | rw [if_neg (by omega)]
      go_wp2_with fail
      go_ret
      exact ⟨by first | rfl | (show Ending.returned (.int .i64 (left - nm - sm - no - so)) = Ending.returned (.int .i64 (left - ((nm + sm + no + so : Nat) : Int))); rw [show left - nm - sm - no - so = left - ((nm + sm + no + so : Nat) : Int) by omega]), HB2.out⟩
end C
end Go.Proofs.Ytbcobheiofajeaa
