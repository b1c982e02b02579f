/-
  CONTRACTS of the program's remaining, slices.IndexFunc (where the first is), FirstPlan's closure; what lay in memory stays. Conditions: valid works, a visit and one of its acts.
-/
import Derived.Test.YtdgfceiobpnchaaPlanM
import Derived.Test.YtdgfceiobpnchaaLate
import Derived.Test.YtdgfceiobpnchaaStep
import Derived.Deep.RegionHeld3
namespace Go.Proofs.Ytdgfceiobpnchaa
open Go.RowKit
namespace C
set_option maxHeartbeats 3200000
set_option maxRecDepth 20000
theorem remaining_any (w : World) (lo hi : Nat) (m : M.Wk) (a b : Option Addr) (c d : Nat) (h : WkIn lo hi w m a c b d) (hz : hi ≤ w.heap.size) (V : M.WV m) :
    Calls Try.prog 86 #[.agg #[.int .i64 m.size, .slice a m.gates.length c, .slice b m.pulls.length d]] w (MapPost w (M.remV m)) := by
  obtain ⟨i0, hi0, hz0, hz1, hz2⟩ := info_parts infoS
  have H := Lib.hid h
  have HV := Lib.hid V
  have v1 := V.size1
  have v12 := V.size12
  have HSO := Lib.hid (M.steps_rem V)
  have hws : IntKind.i64.wrap (m.size - 1) = m.size - 1 := IntWalk.i64_in _ (by omega)
  clear h V
  show Calls _ _ _ w (MapPost w (M.dst (M.nextW m) (M.wonsTo m 64)))
  go_enter Try.func86, Try.ntmps86
  go_upto_region 2 with fail
  refine wp_named ?_
  intro W hW
  have hb : Below w.heap.size w W := by rw [hW]; exact (below_alloc _ _).alloc (by simp) _
  have x1 : Box3 W w.heap.size 28 (.int .i64 m.size) (.slice a m.gates.length c) (.slice b m.pulls.length d) := by rw [hW]; exact (Box3.new _ _ _ _ rfl).alloc _
  have o1 : W.ownsRow (w.heap.size + 1) 71 2 (.slice (some ⟨w.heap.size + 1, 0, none⟩) 0 0) 0 (M.encSs (M.wonsTo m 0)) := by
    rw [hW]
    have := ownsRow_empty (w.alloc (.cells #[.int .i64 m.size, .slice a m.gates.length c, .slice b m.pulls.length d] 28)) (w.heap.size + 1) 71 2 (by rw [World.size_alloc]; omega)
    rw [World.size_alloc] at this
    exact this
  clear hW
  have X1 := Lib.hid x1
  have O1 := Lib.hid o1
  have HB := Lib.hid hb
  have hzw := hb.size
  have HSU := Lib.hid (M.wonsTo_succ m)
  have HWL := Lib.hid (M.wonsTo_len m)
  clear hb x1 o1
  go_wp2_with fail
  go_loopw [3, 4, 6] (fun v3 _ v6 wr => ∃ (k : Nat), k ≤ 64 ∧ v6 = .int .i64 (k : Int) ∧ wr.ownsRow (w.heap.size + 1) 71 2 v3 k (M.encSs (M.wonsTo m k)) ∧ Box3 wr w.heap.size 28 (.int .i64 m.size) (.slice a m.gates.length c) (.slice b m.pulls.length d) ∧ Below w.heap.size w wr) (fun _ _ v6 _ => 64 - (intOf v6).toNat)
  case atStart => exact ⟨0, Nat.zero_le _, rfl, O1.out, X1.out, HB.out⟩
  case round =>
    obtain ⟨k, hk, rfl, hso, hx, hlow⟩ := hrel
    obtain ⟨la, lc, hv, hl1, hl2, _⟩ := own_slice hso
    subst hv
    have SO := Lib.hid hso
    have X7 := Lib.hid hx
    have LO := Lib.hid hlow
    have hzr := hlow.size
    have hxl := hx.lt
    clear hso hx hlow
    obtain ⟨c0, c1, c2⟩ := X7.out.cells
    by_cases hkl : k < 64
    · have HNX := Lib.hid (own_ne_box SO.out X7.out (by decide))
      have HS := Lib.hid (HSU.out k)
      have hki : (k : Int) < 64 := by omega
      go_wp2_with (at_builtin; refine wpList_append_lies _ rfl _ _ 92 rfl (w.heap.size + 1) 71 i0 (.agg #[.int .i64 0, .int .i64 0]) 2 16 Try.underlying92 hi0 hz0 hz1 hz2 rfl (by decide) (.slice la k lc) _ _ rfl (SO.out.alloc _) ⟨wr.heap.size, 0, none⟩ 1 1 [.int .i64 (m.size - 1), .int .i64 (k : Int)] rfl rfl (newsS (Box2.new _ _ _ rfl)) (fun x hx => by simp at hx; rcases hx with rfl | rfl <;> rfl) (by decide) (by unfold maxLen; omega) (by omega) (by rw [World.size_alloc]; omega) _ rfl ?_; intro g7 c7 w7 hown' hgrow7 hat7 hlt7)
      go_roundw
      case rel =>
        have hbase : ∀ z, (Value.slice la k lc).ownBlock = some z → w.heap.size + 1 ≤ z := own_base SO.out
        refine ⟨k + 1, by omega, by go_num, ?_, (X7.out.alloc _).grown hgrow7 HNX.out, (LO.out.alloc (by omega) _).grown hgrow7 (by simp; omega) (fun z hz => by have := hbase z hz; omega)⟩
        rw [HS.out, M.encSs_append]
        exact hown'
      case measure => simp [intOf]; omega
    · obtain rfl : k = 64 := by omega
      have hN : NextOk 118 #[.agg #[.int .i64 m.size, .slice a m.gates.length c, .slice b m.pulls.length d]] #[] (M.nextW m) (M.VsOk m) wr := fun W' t hb' ht => by
        have hb2 : Below w.heap.size w W' := LO.out.trans (hb'.mono (by omega))
        refine (nextVisits_any W' lo hi m a b c d (H.out.below hb2 hz) (by have := hb2.size; omega) HV.out t ht).mono ?_
        rintro e w3 ⟨a3, c3', rfl, ho, _, _, hb3⟩
        exact ⟨a3, c3', _, _, rfl, ho.row, Nat.le_refl _, .inr (Nat.le_refl _), hb3⟩
      have HL := Lib.hid (leastSteps_any 118 #[.agg #[.int .i64 m.size, .slice a m.gates.length c, .slice b m.pulls.length d]] #[] (enters_of Try.func118 (by kernel_rfl) rfl) (M.nextW m) (M.VsOk m) _ _ _ la lc (M.wonsTo m 64) (OwnAt.of_own SO.out).row (Nat.le_refl _) HSO.out hN)
      rw [HWL.out] at HL
      clear hN
      go_wp2_with fail
      refine (HL.out).mono ?_
      rintro e w2 ⟨b2, L, rfl, hb2, hm, hL, hbw⟩
      have H2 := Lib.hid hm
      have HB2 := Lib.hid (LO.out.trans (hbw.mono (by omega)))
      clear hm hbw c0 c1 c2
      go_wp2_with fail
      go_ret
      exact ⟨b2, L, rfl, by omega, H2.out, hL, HB2.out⟩
/-- where the first of the list is that the predicate holds of -/
def PredOn (g : Nat) (lb : Array Value) (p : Int → Bool) (l : List Int) (w : World) : Prop :=
  ∀ W x, Below w.heap.size w W → x ∈ l → Calls Try.prog g (#[.int .i64 x] ++ lb) W fun e w' => e = .returned (.bool (p x)) ∧ Below W.heap.size W w'
theorem findI_any (g : Nat) (lb : Array Value) (p : Int → Bool) (eg : ∀ args w, (callFunc g args).run Try.prog w = .ok (.enter g args) w) (w : World) (lo hi : Nat) (a : Option Addr) (c : Nat) (l : List Int)
    (hp : PredOn g lb p l w) (h : RowIn lo hi w a (M.encIs l)) (hz : hi ≤ w.heap.size) (hl : l.length ≤ 1048576) (hex : l.findIdx p < l.length) :
    Calls Try.prog 89 #[.slice a l.length c, .func (.func g) #[] lb] w fun e w' => e = .returned (.int .i64 ((l.findIdx p : Nat) : Int)) ∧ Below w.heap.size w w' := by
  have h' := Lib.hid h
  have HP := Lib.hid hp
  have HEX := Lib.hid hex
  have HTR := Lib.hid (fun (j : Nat) (hj : j < l.length) (e : j = l.findIdx p) => (show p l[j] = true by subst e; exact List.findIdx_getElem (p := p) (w := hex)))
  have HNO := Lib.hid (fun (j : Nat) (hj : j < l.length) (hn : j < l.findIdx p) => (show p l[j] = false from List.not_of_lt_findIdx (p := p) hn))
  clear h hp
  generalize l.findIdx p = r at *
  clear hex
  go_enter Try.func89, Try.ntmps89
  go_wp2_with fail
  go_loopw [5, 8] (fun _ i wr => ∃ (k : Nat), k ≤ r ∧ i = .int .i64 k ∧ Below w.heap.size w wr) (fun _ i _ => l.length - (intOf i).toNat)
  case atStart => exact ⟨0, Nat.zero_le _, rfl, Below.refl _ _⟩
  case round =>
    obtain ⟨k, hk, rfl, hnx⟩ := hrel
    have HN := Lib.hid hnx
    have hzr := hnx.size
    clear hnx
    have hrl := HEX.out
    have hlt : k < l.length := by omega
    obtain ⟨b, off, rfl, _, hb, hc0⟩ := h'.out.at_ (k := k) (by rw [M.encIs_len]; exact hlt)
    have hc : wr.cell? ⟨b, off + k, none⟩ = some (.int .i64 l[k]) := (HN.out.cell (p := ⟨b, off + k, none⟩) (Nat.lt_of_lt_of_le hb hz)).trans (hc0 k _ (M.encIs_at hlt))
    clear hc0
    have CP := Lib.hid (HP.out wr l[k] HN.out (List.getElem_mem hlt))
    rcases Classical.em (k = r) with hkr | hkr
    · have hq : p l[k] = true := HTR.out k hlt hkr
      rw [hq] at CP
      have HKR := Lib.hid hkr
      clear hq hkr hrl
      go_wp2_with (go_at_fn g; refine (CP.out).mono ?_; rintro e w' ⟨rfl, hb2⟩)
      go_ret
      exact ⟨by rw [← HKR.out]; rfl, HN.out.trans (hb2.mono hzr)⟩
    · have hq : p l[k] = false := HNO.out k hlt (by omega)
      rw [hq] at CP
      have hkl : k + 1 ≤ r := by omega
      clear hq hkr
      go_wp2_with (go_at_fn g; refine (CP.out).mono ?_; rintro e w' ⟨rfl, hb2⟩)
      go_roundw
      case rel => exact ⟨k + 1, by omega, by go_num, HN.out.trans (hb2.mono hzr)⟩
      case measure => simp [intOf]; omega
theorem plan1_any (w : World) (lo hi : Nat) (m : M.Wk) (a b : Option Addr) (c d : Nat) (h : WkIn lo hi w m a c b d) (hz : hi ≤ w.heap.size) (V : M.WV m) (s : M.Vs) (hs : M.VsOk m s) (mb : Nat) (L : List M.Vs) (f : M.Vs → Option Nat) (hm : MapP w mb L f) (g1 g2 g3 : Nat)
    (p1 : w.cell? ⟨g1, 0, none⟩ = some (.map (some mb))) (hg1 : g1 < w.heap.size) (p2 : Box3 w g2 28 (.int .i64 m.size) (.slice a m.gates.length c) (.slice b m.pulls.length d)) (p3 : Box2 w g3 71 (.int .i64 s.1) (.int .i64 s.2)) (act : Int) (ha : act ∈ M.actsL m s) :
    Calls Try.prog 87 #[.int .i64 act, .pointer (some ⟨g1, 0, none⟩), .pointer (some ⟨g2, 0, none⟩), .pointer (some ⟨g3, 0, none⟩)] w (BoolW w (decide ((f (M.doA m s act)).getD 0 < (f s).getD 0))) := by
  have hmb := hm.lt
  have hrg := M.actsL_rng V ha
  have v12 := V.size12
  have HBE := Lib.hid (show Calls _ _ _ _ (VsPost w.drew (M.doA m s act)) from behind_any w.drew lo hi m a b c d (h.below (Below.refl w.heap.size w).drew hz) (by show hi ≤ w.heap.size; omega) V s hs act hrg.1)
  have h6 := M.st64V V hs
  have h7 := M.st64V V (M.doA_ok V hs ha)
  generalize M.doA m s act = t at *
  have HSB : Hid (∀ wq : World, Below w.heap.size w wq → (fun (wq : World) => wq.cell? ⟨g1, 0, none⟩ = some (.map (some mb)) ∧ wq.cell? ⟨g2, 0, none⟩ = some (.int .i64 m.size) ∧ wq.cell? ⟨g2, 1, none⟩ = some (.slice a m.gates.length c) ∧ wq.cell? ⟨g2, 2, none⟩ = some (.slice b m.pulls.length d) ∧ wq.cell? ⟨g3, 0, none⟩ = some (.int .i64 s.1) ∧ wq.cell? ⟨g3, 1, none⟩ = some (.int .i64 s.2) ∧ (Instr.lookup 84 (.map (some mb)) (.agg #[.int .i64 t.1, .int .i64 t.2]) false).run Try.prog wq = .ok (.int .i64 ((((f t).getD 0 : Nat)) : Int)) wq ∧ (Instr.lookup 84 (.map (some mb)) (.agg #[.int .i64 s.1, .int .i64 s.2]) false).run Try.prog wq = .ok (.int .i64 ((((f s).getD 0 : Nat)) : Int)) wq) wq) := Lib.hid fun wq hq => by
    have m1 := hm.below hq hmb
    obtain ⟨x0, x1, x2⟩ := (p2.below hq).cells
    obtain ⟨y0, y1⟩ := (p3.below hq).cells
    exact ⟨(hq.cell (p := ⟨g1, 0, none⟩) hg1).trans p1, x0, x1, x2, y0, y1, m1.look1 h7, m1.look1 h6⟩
  have HD : Hid (decide ((f t).getD 0 < (f s).getD 0) = decide ((((f t).getD 0 : Nat) : Int) < (((f s).getD 0 : Nat) : Int))) := Lib.hid (by
    rw [decide_eq_decide]
    omega)
  rw [HD.out]
  clear h V hs hm p1 p2 p3 ha h6 h7 HD
  generalize (f t).getD 0 = vt at *
  generalize (f s).getD 0 = vs at *
  go_enter Try.func87, Try.ntmps87
  go_upto_region 1 with fail
  refine wp_region_late2 (fun (wq : World) => wq.cell? ⟨g1, 0, none⟩ = some (.map (some mb)) ∧ wq.cell? ⟨g2, 0, none⟩ = some (.int .i64 m.size) ∧ wq.cell? ⟨g2, 1, none⟩ = some (.slice a m.gates.length c) ∧ wq.cell? ⟨g2, 2, none⟩ = some (.slice b m.pulls.length d) ∧ wq.cell? ⟨g3, 0, none⟩ = some (.int .i64 s.1) ∧ wq.cell? ⟨g3, 1, none⟩ = some (.int .i64 s.2) ∧ (Instr.lookup 84 (.map (some mb)) (.agg #[.int .i64 t.1, .int .i64 t.2]) false).run Try.prog wq = .ok (.int .i64 ((vt : Nat) : Int)) wq ∧ (Instr.lookup 84 (.map (some mb)) (.agg #[.int .i64 s.1, .int .i64 s.2]) false).run Try.prog wq = .ok (.int .i64 ((vs : Nat) : Int)) wq) [] 11 #[false, false, false, false, false, false, false, false, false, false, false] rfl rfl (by kernel_rfl) ?_
  have hS : (fun (wq : World) => wq.cell? ⟨g1, 0, none⟩ = some (.map (some mb)) ∧ wq.cell? ⟨g2, 0, none⟩ = some (.int .i64 m.size) ∧ wq.cell? ⟨g2, 1, none⟩ = some (.slice a m.gates.length c) ∧ wq.cell? ⟨g2, 2, none⟩ = some (.slice b m.pulls.length d) ∧ wq.cell? ⟨g3, 0, none⟩ = some (.int .i64 s.1) ∧ wq.cell? ⟨g3, 1, none⟩ = some (.int .i64 s.2) ∧ (Instr.lookup 84 (.map (some mb)) (.agg #[.int .i64 t.1, .int .i64 t.2]) false).run Try.prog wq = .ok (.int .i64 ((vt : Nat) : Int)) wq ∧ (Instr.lookup 84 (.map (some mb)) (.agg #[.int .i64 s.1, .int .i64 s.2]) false).run Try.prog wq = .ok (.int .i64 ((vs : Nat) : Int)) wq) w.drew := HSB.out w.drew (Below.refl w.heap.size w).drew
  refine wpAnyL_take (i := 0) (oi := { dst := some 6, op := Go.Op.load 84 (Go.Operand.tmp 1), type := 84, pos := "l8_levers.go:217", after := #[], guard := none }) (v := ?pv0) rfl (by kernel_rfl) (by kernel_rfl) (by kernel_rfl) (by kernel_rfl) (fun _ _ _ h => h) (Or.inl ⟨by rfl, ?ph0⟩) hS ?pr0
  case ph0 => (intro wS hSw; (try dsimp only at hSw); go_split_ands; go_simp; try with_reducible rfl)
  try simp only [Act.put, List.setIfInBounds_toArray, List.set_cons_zero, List.set_cons_succ]
  refine wpAnyL_take (i := 1) (oi := { dst := some 7, op := Go.Op.load 28 (Go.Operand.tmp 2), type := 28, pos := "l8_levers.go:217", after := #[], guard := none }) (v := ?pv1) rfl (by kernel_rfl) (by kernel_rfl) (by kernel_rfl) (by kernel_rfl) (fun _ _ _ h => h) (Or.inl ⟨by rfl, ?ph1⟩) hS ?pr1
  case ph1 => (intro wS hSw; (try dsimp only at hSw); go_split_ands; go_simp; try with_reducible rfl)
  try simp only [Act.put, List.setIfInBounds_toArray, List.set_cons_zero, List.set_cons_succ]
  refine wpAnyL_take (i := 2) (oi := { dst := some 8, op := Go.Op.load 71 (Go.Operand.tmp 3), type := 71, pos := "l8_levers.go:217", after := #[], guard := none }) (v := ?pv2) rfl (by kernel_rfl) (by kernel_rfl) (by kernel_rfl) (by kernel_rfl) (fun _ _ _ h => h) (Or.inl ⟨by rfl, ?ph2⟩) hS ?pr2
  case ph2 => (intro wS hSw; (try dsimp only at hSw); go_split_ands; go_simp; try with_reducible rfl)
  try simp only [Act.put, List.setIfInBounds_toArray, List.set_cons_zero, List.set_cons_succ]
  refine wpAnyL_take (i := 3) (oi := { dst := some 9, op := Go.Op.move (Go.Operand.tmp 0), type := 3, pos := "l8_levers.go:217", after := #[], guard := none }) (v := ?pv3) rfl (by kernel_rfl) (by kernel_rfl) (by kernel_rfl) (by kernel_rfl) (fun _ _ _ h => h) (Or.inl ⟨by rfl, ?ph3⟩) hS ?pr3
  case ph3 => (intro wS hSw; (try dsimp only at hSw); go_split_ands; go_simp; try with_reducible rfl)
  try simp only [Act.put, List.setIfInBounds_toArray, List.set_cons_zero, List.set_cons_succ]
  refine wpAnyL_take (i := 6) (oi := { dst := some 12, op := Go.Op.load 84 (Go.Operand.tmp 1), type := 84, pos := "l8_levers.go:217", after := #[], guard := none }) (v := ?pv6) rfl (by kernel_rfl) (by kernel_rfl) (by kernel_rfl) (by kernel_rfl) (fun _ _ _ h => h) (Or.inl ⟨by rfl, ?ph6⟩) hS ?pr6
  case ph6 => (intro wS hSw; (try dsimp only at hSw); go_split_ands; go_simp; try with_reducible rfl)
  try simp only [Act.put, List.setIfInBounds_toArray, List.set_cons_zero, List.set_cons_succ]
  refine wpAnyL_take (i := 7) (oi := { dst := some 13, op := Go.Op.load 71 (Go.Operand.tmp 3), type := 71, pos := "l8_levers.go:217", after := #[], guard := none }) (v := ?pv7) rfl (by kernel_rfl) (by kernel_rfl) (by kernel_rfl) (by kernel_rfl) (fun _ _ _ h => h) (Or.inl ⟨by rfl, ?ph7⟩) hS ?pr7
  case ph7 => (intro wS hSw; (try dsimp only at hSw); go_split_ands; go_simp; try with_reducible rfl)
  try simp only [Act.put, List.setIfInBounds_toArray, List.set_cons_zero, List.set_cons_succ]
  refine wpAnyL_take (i := 8) (oi := { dst := some 14, op := Go.Op.lookup 84 (Go.Operand.tmp 12) (Go.Operand.tmp 13) false, type := 3, pos := "l8_levers.go:217", after := #[{ on := 6, ground := Go.Ground.data }, { on := 7, ground := Go.Ground.data }], guard := none }) (v := ?pv8) rfl (by kernel_rfl) (by kernel_rfl) (by kernel_rfl) (by kernel_rfl) (fun _ _ _ h => h) (Or.inl ⟨by rfl, ?ph8⟩) hS ?pr8
  case ph8 => (intro wS hSw; (try dsimp only at hSw); go_split_ands; go_simp; try with_reducible rfl)
  try simp only [Act.put, List.setIfInBounds_toArray, List.set_cons_zero, List.set_cons_succ]
  refine wpAnyL_one (i := 4) (oi := { dst := some 10, op := Go.Op.call { callee := Go.Callee.value (Go.Operand.func 88), args := #[Go.Operand.tmp 7, Go.Operand.tmp 8, Go.Operand.tmp 9], argTypes := #[28, 71, 3] }, type := 71, pos := "l8_levers.go:217", after := #[{ on := 1, ground := Go.Ground.data }, { on := 2, ground := Go.Ground.data }, { on := 3, ground := Go.Ground.data }], guard := none }) (by kernel_rfl) rfl (fun Kp4 hKp4 => ?_)
  refine step_call (by rfl) 88 #[.agg #[.int .i64 m.size, .slice a m.gates.length c, .slice b m.pulls.length d], .agg #[.int .i64 s.1, .int .i64 s.2], .int .i64 act] (by go_simp; try rfl) (HBE.out) ?_
  rintro e w2 ⟨rfl, hb2⟩
  refine ⟨_, rfl, ?_⟩
  have hb2x : Below w.heap.size w w2 := (Below.refl w.heap.size w).drew.trans hb2
  have hS2 : (fun (wq : World) => wq.cell? ⟨g1, 0, none⟩ = some (.map (some mb)) ∧ wq.cell? ⟨g2, 0, none⟩ = some (.int .i64 m.size) ∧ wq.cell? ⟨g2, 1, none⟩ = some (.slice a m.gates.length c) ∧ wq.cell? ⟨g2, 2, none⟩ = some (.slice b m.pulls.length d) ∧ wq.cell? ⟨g3, 0, none⟩ = some (.int .i64 s.1) ∧ wq.cell? ⟨g3, 1, none⟩ = some (.int .i64 s.2) ∧ (Instr.lookup 84 (.map (some mb)) (.agg #[.int .i64 t.1, .int .i64 t.2]) false).run Try.prog wq = .ok (.int .i64 ((vt : Nat) : Int)) wq ∧ (Instr.lookup 84 (.map (some mb)) (.agg #[.int .i64 s.1, .int .i64 s.2]) false).run Try.prog wq = .ok (.int .i64 ((vs : Nat) : Int)) wq) w2 := HSB.out w2 hb2x
  refine hKp4 _ _ (fun _ => hS2) ?_
  clear hS
  have hS := hS2
  try simp only [Act.put, List.setIfInBounds_toArray, List.set_cons_zero, List.set_cons_succ]
  refine wpAnyL_take (i := 5) (oi := { dst := some 11, op := Go.Op.lookup 84 (Go.Operand.tmp 6) (Go.Operand.tmp 10) false, type := 3, pos := "l8_levers.go:217", after := #[{ on := 0, ground := Go.Ground.data }, { on := 4, ground := Go.Ground.data }], guard := none }) (v := ?pv5) rfl (by kernel_rfl) (by kernel_rfl) (by kernel_rfl) (by kernel_rfl) (fun _ _ _ h => h) (Or.inl ⟨by rfl, ?ph5⟩) hS ?pr5
  case ph5 => (intro wS hSw; (try dsimp only at hSw); go_split_ands; go_simp; try with_reducible rfl)
  try simp only [Act.put, List.setIfInBounds_toArray, List.set_cons_zero, List.set_cons_succ]
  refine wpAnyL_take (i := 9) (oi := { dst := some 15, op := Go.Op.binOp Go.BinOp.lss 3 (Go.Operand.tmp 11) (Go.Operand.tmp 14) 3, type := 4, pos := "l8_levers.go:217", after := #[{ on := 5, ground := Go.Ground.data }, { on := 8, ground := Go.Ground.data }], guard := none }) (v := ?pv9) rfl (by kernel_rfl) (by kernel_rfl) (by kernel_rfl) (by kernel_rfl) (fun _ _ _ h => h) (Or.inl ⟨by rfl, ?ph9⟩) hS ?pr9
  case ph9 => (intro wS hSw; (try dsimp only at hSw); go_split_ands; go_simp; try with_reducible rfl)
  try simp only [Act.put, List.setIfInBounds_toArray, List.set_cons_zero, List.set_cons_succ]
  refine wpAnyL_take (i := 10) (oi := { dst := some 5, op := Go.Op.assign (Go.Operand.tmp 15), type := 4, pos := "l8_levers.go:217", after := #[{ on := 9, ground := Go.Ground.data }, { on := 4, ground := Go.Ground.chain }, { on := 0, ground := Go.Ground.phase }, { on := 1, ground := Go.Ground.phase }, { on := 2, ground := Go.Ground.phase }, { on := 3, ground := Go.Ground.phase }, { on := 4, ground := Go.Ground.phase }, { on := 5, ground := Go.Ground.phase }, { on := 6, ground := Go.Ground.phase }, { on := 7, ground := Go.Ground.phase }, { on := 8, ground := Go.Ground.phase }, { on := 9, ground := Go.Ground.phase }], guard := none }) (v := ?pv10) rfl (by kernel_rfl) (by kernel_rfl) (by kernel_rfl) (by kernel_rfl) (fun _ _ _ h => h) (Or.inl ⟨by rfl, ?ph10⟩) hS ?pr10
  case ph10 => (intro wS hSw; (try dsimp only at hSw); go_split_ands; go_simp; try with_reducible rfl)
  try simp only [Act.put, List.setIfInBounds_toArray, List.set_cons_zero, List.set_cons_succ]
  refine wpAnyL_done (by kernel_rfl) ?_ _
  have HB2 := Lib.hid hb2x
  clear hS hS2 hb2 hb2x
  go_wp2_with fail
  go_ret
  exact ⟨rfl, HB2.out⟩
end C
end Go.Proofs.Ytdgfceiobpnchaa
