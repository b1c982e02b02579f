/-
  MATHEMATICS of reaching, own to these proofs: the list of all nodes to which one comes, and what tells it. No condition.
  CONTRACT of impl.digitsOf: the places of the binary digits 1, in a new list, ascending; what lay in memory stays. Condition: a number below 4096 (64 for colours).
  CONTRACTS of doors between nodes: spec.l2Joins, l2Has, l2Open; impl.hasAll, needsBetween, isOpen; what lay in memory stays. Condition: the maze reads so; for impl.isOpen it is valid.
  CONTRACT of impl.Maze.spread: a number whose digits tell nodes, closed under the doors that are open; what lay in memory stays. Condition: a valid maze, a set of colours, a number below 4096.
  CONTRACT of spec.l2Reach: all nodes to which one comes, in memory of its own; what lay in memory stays. Condition: a valid maze, one of its nodes, a set of colours.
-/
import Derived.Test.YtpdkcpclpdljeaaZBase
import Derived.Test.YtpdkcpclpdljeaaZValid
import Derived.Laws.StructEq
import Derived.Test.YtpdkcpclpdljeaaZPut
import Derived.Maps.AppendAt
namespace Go.Proofs.Ytpdkcpclpdljeaa
open Go.RowKit
namespace M
noncomputable def rchL (ds : List Dr) (op : Dr → Bool) (x : Int) : List Int := ((List.range 12).filter fun p : Nat => @decide (Rch ds op x (p : Int)) (Classical.propDecidable _)).map fun p : Nat => (p : Int)
theorem rchL_len (ds : List Dr) (op : Dr → Bool) (x : Int) : (rchL ds op x).length ≤ 12 := by
  unfold rchL
  rw [List.length_map]
  refine Nat.le_trans (List.length_filter_le _ _) ?_
  simp
theorem mem_rchL {ds : List Dr} {op : Dr → Bool} {x : Int} (hb : ∀ y, Rch ds op x y → 0 ≤ y ∧ y < 12) (y : Int) : y ∈ rchL ds op x ↔ Rch ds op x y := by
  unfold rchL
  rw [List.mem_map]
  constructor
  · rintro ⟨p, hp, rfl⟩
    rw [List.mem_filter] at hp
    exact @of_decide_eq_true _ (Classical.propDecidable _) hp.2
  · intro h
    obtain ⟨h0, h1⟩ := hb y h
    have e : ((y.toNat : Nat) : Int) = y := by omega
    refine ⟨y.toNat, ?_, e⟩
    rw [List.mem_filter, List.mem_range]
    refine ⟨by omega, @decide_eq_true _ (Classical.propDecidable _) ?_⟩
    rw [e]; exact h
theorem rchL_asc (ds : List Dr) (op : Dr → Bool) (x : Int) : Asc ltI (rchL ds op x) := by
  unfold rchL Asc
  rw [List.pairwise_map]
  refine (List.Pairwise.filter _ List.pairwise_lt_range).imp ?_
  intro a b hab
  unfold ltI
  rw [decide_eq_true_iff]
  omega
/-- whatever list ascends and has just the nodes to which one comes is that one -/
theorem rchL_eq {ds : List Dr} {op : Dr → Bool} {x : Int} (hb : ∀ y, Rch ds op x y → 0 ≤ y ∧ y < 12) {l : List Int} (h1 : Asc ltI l) (h2 : ∀ y, y ∈ l ↔ Rch ds op x y) : rchL ds op x = l :=
  (rchL_asc ds op x).ext ordI h1 fun y => by rw [mem_rchL hb, h2]
theorem rch_node {m : Mz} (V : Valid m) {op : Dr → Bool} {x : Int} (hx : 0 ≤ x ∧ x < m.size) {y : Int} (h : Rch m.doors op x y) : 0 ≤ y ∧ y < m.size := by
  induction h with
  | refl => exact hx
  | fwd hd _ _ _ =>
    obtain ⟨k, hk, rfl⟩ := List.mem_iff_getElem.1 hd
    obtain ⟨a, b, c, d, _⟩ := V.door k hk
    exact ⟨c, d⟩
  | bwd hd _ _ _ =>
    obtain ⟨k, hk, rfl⟩ := List.mem_iff_getElem.1 hd
    obtain ⟨a, b, c, d, _⟩ := V.door k hk
    exact ⟨a, b⟩
def openTo (set : Int) (d : Dr) : Bool := hasB set d.2.2
def openTo2 (set : Int) (d : Dr) : Bool := has2B set d.2.2
theorem open_both {m : Mz} (V : Valid m) {set : Int} (h0 : 0 ≤ set) (h1 : set < 64) : ∀ d ∈ m.doors, openTo set d = openTo2 set d := by
  intro d hd
  obtain ⟨k, hk, rfl⟩ := List.mem_iff_getElem.1 hd
  obtain ⟨_, _, _, _, _, b, c⟩ := V.door k hk
  exact has_same h0 h1 b c
theorem rch_both {m : Mz} (V : Valid m) {set : Int} (h0 : 0 ≤ set) (h1 : set < 64) {x y : Int} : Rch m.doors (openTo set) x y ↔ Rch m.doors (openTo2 set) x y :=
  ⟨Rch.mono fun d hd ho => by rw [← open_both V h0 h1 d hd]; exact ho, Rch.mono fun d hd ho => by rw [open_both V h0 h1 d hd]; exact ho⟩
/-- all nodes to which one comes -/
noncomputable def reachOf (m : Mz) (x set : Int) : List Int := rchL m.doors (openTo set) x
def reachB (m : Mz) (x set : Int) : Bool := mzNodeB m x && setB set
noncomputable def reachV (m : Mz) (x set : Int) : List Int := if reachB m x set then reachOf m x set else []
theorem reachV_yes {m : Mz} {x set : Int} (h : reachB m x set = true) : reachV m x set = reachOf m x set := by unfold reachV; rw [if_pos h]
theorem reachV_no {m : Mz} {x set : Int} (h : reachB m x set = false) : reachV m x set = [] := by unfold reachV; rw [h]; rfl
theorem reachV_len (m : Mz) (x set : Int) : (reachV m x set).length ≤ 1048576 := by
  unfold reachV
  split
  · have := rchL_len m.doors (openTo set) x
    unfold reachOf
    omega
  · simp
/-- the program's number tells it -/
theorem reach_mask {m : Mz} (V : Valid m) {x : Nat} {set : Int} (hx : (x : Int) < m.size) {n : Nat} (h : MaskOk m.doors (openTo set) x n) (hp : passN (openTo set) n m.doors = n) : digsTo n 12 = reachOf m x set := by
  have hv : ∀ d ∈ m.doors, 0 ≤ d.1 ∧ d.1 < 12 ∧ 0 ≤ d.2.1 ∧ d.2.1 < 12 := by
    intro d hd
    obtain ⟨k, hk, rfl⟩ := List.mem_iff_getElem.1 hd
    obtain ⟨a, b, c, e, _⟩ := V.door k hk
    have := V.size12
    omega
  exact (rchL_eq (fun y hy => by have := rch_node V ⟨by omega, hx⟩ hy; have := V.size12; omega) (digsTo_asc n 12) (mask_end h hp hv)).symm
/-- the model's list is it -/
theorem reach_list {m : Mz} (V : Valid m) {x set : Int} (h0 : 0 ≤ set) (h1 : set < 64) (hx : 0 ≤ x ∧ x < m.size) {out list : List Int} (h : ListOk m.doors (openTo2 set) x out list) (hc : ∀ z ∈ list, ∀ d ∈ m.doors, openTo2 set d = true → (d.1 = z → d.2.1 ∈ list) ∧ (d.2.1 = z → d.1 ∈ list)) : out = reachOf m x set :=
  (rchL_eq (fun y hy => by have := rch_node V hx hy; have := V.size12; omega) h.asc fun y => by rw [list_end h hc, rch_both V h0 h1]).symm
end M
end Go.Proofs.Ytpdkcpclpdljeaa
namespace Go.Proofs.Ytpdkcpclpdljeaa
open Go.RowKit
namespace M
theorem wraps_i64 (n : Int) (h0 : 0 ≤ n) (h1 : n < 2 ^ 62) : IntKind.i64.wrap n = n := by rw [IntKind.wrap_i64]; omega
theorem and1 (n : Nat) (h : n < 4096) : bits .and .i64 (n : Int) 1 = ((n % 2 : Nat) : Int) := by
  have := (bits_nat .i64 62 (by decide) wraps_i64 n 1 (by omega) (by decide)).1
  rw [Nat.and_one_is_mod] at this
  exact this
theorem shr_nat (n p : Nat) : (n : Int) / 2 ^ p = ((n / 2 ^ p : Nat) : Int) := by simp
theorem bit_test {n p : Nat} (h : n < 4096) : (bits .and .i64 ((n : Int) / 2 ^ p) 1 == 1) = digB n p := by
  rw [shr_nat, and1 _ (Nat.lt_of_le_of_lt (Nat.div_le_self _ _) h)]
  unfold digB
  rw [Bool.eq_iff_iff]
  simp only [beq_iff_eq, decide_eq_true_eq]
  exact ⟨fun h => by exact_mod_cast h, fun h => by exact_mod_cast h⟩
def colours (s : Int) : List Int := if setB s then digsTo s.toNat 6 else []
end M
namespace C
set_option maxHeartbeats 800000
set_option maxRecDepth 20000
theorem digits_any (n : Nat) (hn : n < 4096) (w : World) : Calls Try.prog 63 #[.int .i64 (n : Int)] w (IntsPost w (M.digsTo n 12)) := by
  obtain ⟨i0, hi0, hz0, hz1, hz2⟩ := info_parts infoI
  have h12 : Hid (n / 2 ^ 12 = 0) := Lib.hid (Nat.div_eq_of_lt hn)
  go_enter Try.func63, Try.ntmps63
  go_wp2_with fail
  go_loopw [3, 4] (fun v i wr => ∃ (k : Nat), k ≤ 12 ∧ i = .int .i64 k ∧ wr.ownsRow w.heap.size 3 1 v (M.digsTo n k).length (M.encIs (M.digsTo n k)) ∧ Below w.heap.size w wr) (fun _ i _ => 12 - (intOf i).toNat)
  case atStart => exact ⟨0, Nat.zero_le _, rfl, ownsRow_empty _ _ _ _ (Nat.le_refl _), below_alloc _ _⟩
  case round =>
    obtain ⟨k, hk, rfl, hown, hnx⟩ := hrel
    have HN := Lib.hid hnx
    have HO := Lib.hid hown
    have hzr := hnx.size
    have hlen := M.digsTo_len n k
    clear hnx
    have hsh := M.shr_nat n k
    by_cases hp : 0 < n / 2 ^ k
    · have hk12 : k < 12 := by
        rcases Nat.lt_or_ge k 12 with h | h
        · exact h
        · have : k = 12 := by omega
          subst this
          rw [h12.out] at hp
          omega
      have hpt : 0 < (n : Int) / 2 ^ k := by rw [hsh]; exact_mod_cast hp
      have hbt := M.bit_test (p := k) hn
      clear hsh hp
      cases hd : M.digB n k with
      | true =>
        rw [hd] at hbt
        have HD := Lib.hid (M.digsTo_yes hd)
        clear hd
        go_wp2_with (at_builtin; refine wpList_append_own _ rfl _ _ 23 rfl w.heap.size 3 i0 (.int .i64 0) 1 8 Try.underlying23 hi0 hz0 hz1 hz2 rfl (by decide) _ _ _ rfl (hown.alloc _) ⟨wr.heap.size, 0, none⟩ 1 1 [.int .i64 (k : Int)] rfl rfl (cell_one_new _ _ _) (fun x hx => by simp at hx; subst hx; rfl) (by unfold maxLen; omega) (by omega) (by simp; omega) ?_; intro v' w3 hown' hgrow3 hnil3)
        go_roundw
        case rel =>
          refine ⟨k + 1, by omega, by go_num, ?_, (HN.out.alloc hzr _).grown hgrow3 (by simp; omega) (own_base hown)⟩
          rw [HD.out]
          simpa [M.encIs] using hown'
        case measure => simp [intOf]; omega
      | false =>
        rw [hd] at hbt
        have HD := Lib.hid (M.digsTo_no hd)
        clear hd hown
        go_wp2_with fail
        go_roundw
        case rel => exact ⟨k + 1, by omega, by go_num, by rw [HD.out]; exact HO.out, HN.out⟩
        case measure => simp [intOf]; omega
    · have hz : n / 2 ^ k = 0 := Nat.eq_zero_of_not_pos hp
      have hpt : ¬ 0 < (n : Int) / 2 ^ k := by rw [hsh, hz]; simp
      have HE : Hid (M.digsTo n 12 = M.digsTo n k) := Lib.hid (M.digsTo_eq hz hk)
      clear hsh hz hp hown
      go_wp2_with fail
      go_ret
      exact ints_end (by rw [HE.out]; exact HO.out) HN.out
end C
end Go.Proofs.Ytpdkcpclpdljeaa
namespace Go.Proofs.Ytpdkcpclpdljeaa
open Go.RowKit
namespace C
set_option maxHeartbeats 1600000
set_option maxRecDepth 20000
theorem l2Has_any (s t : Int) (w : World) : Calls Try.prog 106 #[.int .i64 s, .int .i64 t] w fun e w' => e = .returned (.bool (M.has2B s t)) ∧ w = w' := by
  go_enter Try.func106, Try.ntmps106
  go_wp2_with fail
  go_ret
  exact ⟨rfl, rfl⟩
theorem hasAll_any (s t : Int) (w : World) : Calls Try.prog 114 #[.int .i64 s, .int .i64 t] w fun e w' => e = .returned (.bool (M.hasB s t)) ∧ w = w' := by
  go_enter Try.func114, Try.ntmps114
  go_wp2_with fail
  go_ret
  exact ⟨rfl, rfl⟩
end C
end Go.Proofs.Ytpdkcpclpdljeaa
namespace Go.Proofs.Ytpdkcpclpdljeaa
open Go.RowKit
namespace M
theorem and4 (a b : Nat) (ha : a < 4096) (hb : b < 4096) : bits .and .i64 (a : Int) (b : Int) = ((a &&& b : Nat) : Int) := (bits_nat .i64 62 (by decide) wraps_i64 a b (by omega) (by omega)).1
theorem or4 (a b : Nat) (ha : a < 4096) (hb : b < 4096) : bits .or .i64 (a : Int) (b : Int) = ((a ||| b : Nat) : Int) := (bits_nat .i64 62 (by decide) wraps_i64 a b (by omega) (by omega)).2
theorem pow12 {k : Nat} (h : k < 12) : 2 ^ k < 4096 := by
  have h12 : (2 : Nat) ^ 12 = 4096 := rfl
  rw [← h12]
  exact Nat.pow_lt_pow_of_lt (by decide) h
theorem wrap_pow {k : Nat} (h : k < 12) : wrap64 (2 ^ k) = ((2 ^ k : Nat) : Int) := by
  have := pow12 h
  have e : ((2 : Int) ^ k) = ((2 ^ k : Nat) : Int) := by simp
  rw [e]
  generalize 2 ^ k = n at this
  unfold wrap64
  omega
theorem endsI (d : Dr) (h1 : d.1 < 12) (h2 : d.2.1 < 12) : bits .or .i64 (wrap64 (2 ^ d.1.toNat)) (wrap64 (2 ^ d.2.1.toNat)) = ((endsN d : Nat) : Int) := by
  rw [wrap_pow (by omega), wrap_pow (by omega), or4 _ _ (pow12 (by omega)) (pow12 (by omega))]
  rfl
end M
namespace C
set_option maxHeartbeats 3200000
set_option maxRecDepth 20000
theorem spread_any (w : World) (lo hi : Nat) (m : M.Mz) (a b : Option Addr) (c d : Nat) (h : MzIn lo hi w m a c b d) (hz : hi ≤ w.heap.size) (V : M.Valid m) (n0 : Nat) (set : Int) (P : Nat → Prop) (h0 : P n0) (hP : ∀ n d, d ∈ m.doors → P n → P (M.stepN (fun e => M.hasB set e.2.2) n d)) (hlt : ∀ n, P n → n < 4096) :
    Calls Try.prog 111 #[.agg #[.int .i64 m.size, .slice a m.doors.length c, .slice b m.keys.length d], .int .i64 (n0 : Int), .int .i64 set] w fun e w' => ∃ n : Nat, e = .returned (.int .i64 (n : Int)) ∧ P n ∧ M.passN (fun e => M.hasB set e.2.2) n m.doors = n ∧ Below w.heap.size w w' := by
  have H := Lib.hid h
  have HP := Lib.hid hP
  have HLT := Lib.hid hlt
  have H0 := Lib.hid h0
  clear h hP hlt h0
  have v30 := V.few
  have HV := Lib.hid V
  clear V
  go_enter Try.func111, Try.ntmps111
  go_wp2_with fail
  go_loopw [1, 7, 9, 10] (fun v _ _ _ wr => ∃ (n : Nat), v = .int .i64 (n : Int) ∧ P n ∧ Box3 wr w.heap.size 29 (.int .i64 m.size) (.slice a m.doors.length c) (.slice b m.keys.length d) ∧ Below w.heap.size w wr) (fun v _ _ _ _ => 4096 - (intOf v).toNat)
  case atStart => exact ⟨n0, rfl, H0.out, Box3.new _ _ _ _ rfl, below_alloc _ _⟩
  case round =>
    obtain ⟨n, rfl, hpn, hbox, hnx⟩ := hrel
    have HN := Lib.hid hnx
    have HBX := Lib.hid hbox
    have HPN := Lib.hid hpn
    have hzr := hnx.size
    have hbl := hbox.lt
    obtain ⟨x0, x1, x2⟩ := hbox.cells
    clear hpn hbox hnx
    go_wp2_with fail
    refine wp_named ?_
    intro W1 hW1
    have hb1 : Below wr.heap.size wr W1 := by rw [hW1]; exact Below.refl _ _
    clear hW1
    have HB1 := Lib.hid (HN.out.trans (hb1.mono hzr))
    have X1 := Lib.hid (HBX.out.below hb1)
    have hz1 := hb1.size
    clear hb1 x0 x1 x2
    go_loopw [1, 9, 10, 15] (fun v _ _ i wr => ∃ (k : Nat), k ≤ m.doors.length ∧ i = .int .i64 k ∧ v = .int .i64 ((M.passN (fun e => M.hasB set e.2.2) n (m.doors.take k) : Nat) : Int) ∧ P (M.passN (fun e => M.hasB set e.2.2) n (m.doors.take k)) ∧ Below W1.heap.size W1 wr) (fun _ _ _ i _ => m.doors.length - (intOf i).toNat)
    case atStart => exact ⟨0, Nat.zero_le _, rfl, rfl, HPN.out, Below.refl _ _⟩
    case round =>
      obtain ⟨k, hk, rfl, rfl, hpk, hni⟩ := hrel
      have HI := Lib.hid hni
      have HPK := Lib.hid hpk
      have hzi := hni.size
      have hk4 := HLT.out _ hpk
      clear hni hpk
      generalize hpe : M.passN (fun e => M.hasB set e.2.2) n (m.doors.take k) = p at *
      have HPE := Lib.hid hpe
      clear hpe
      by_cases hkl : k < m.doors.length
      · have hrow := H.out.doors.below (HB1.out.trans (HI.out.mono (by omega))) hz
        obtain ⟨db, off, rfl, _, hdb, hc0⟩ := hrow.at_ (k := k * 3) (by rw [M.encDs_len]; omega)
        have a0 := hc0 _ _ (M.encDs_at0 hkl)
        have a1 : wr.cell? ⟨db, off + k * 3 + 1, none⟩ = some (.int .i64 m.doors[k].2.1) := hc0 _ _ (M.encDs_at1 hkl)
        have a2 : wr.cell? ⟨db, off + k * 3 + 2, none⟩ = some (.int .i64 m.doors[k].2.2) := hc0 _ _ (M.encDs_at2 hkl)
        obtain ⟨d1, d2, d3, d4, d5, d6, d7⟩ := HV.out.door k hkl
        have hs12 := HV.out.size12
        clear hc0 hrow
        go_wp2_with fail
        refine wp_named ?_
        intro W2 hW2
        have hb2 : Below wr.heap.size wr W2 := by rw [hW2]; exact below_alloc _ _
        have hdb3 : Box3 W2 wr.heap.size 67 (.int .i64 m.doors[k].1) (.int .i64 m.doors[k].2.1) (.int .i64 m.doors[k].2.2) := by rw [hW2]; exact Box3.new _ _ _ _ rfl
        clear hW2 a0 a1 a2
        have HI2 := Lib.hid (HI.out.trans (hb2.mono hzi))
        have hdl := hdb3.lt
        have hz2 := hb2.size
        have HD3 := Lib.hid hdb3
        obtain ⟨e0, e1, e2⟩ := hdb3.cells
        have E0 := cell_grown hdl e0
        have E1 := cell_grown hdl e1
        have E2 := cell_grown hdl e2
        have mixed : Try.prog.follows .mixedOrders = true := by kernel_rfl
        have g1 : ¬ m.doors[k].1 < 0 := by omega
        have g2 : ¬ m.doors[k].2.1 < 0 := by omega
        have hends := M.endsN_lt (d := m.doors[k]) (by omega) (by omega)
        have hE := M.endsI m.doors[k] (by omega) (by omega)
        have hA := M.and4 p (M.endsN m.doors[k]) hk4 hends
        have hO := M.or4 p (M.endsN m.doors[k]) hk4 hends
        have hmem : m.doors[k] ∈ m.doors := List.getElem_mem hkl
        have hsucc : M.passN (fun e => M.hasB set e.2.2) n (m.doors.take (k + 1)) = M.stepN (fun e => M.hasB set e.2.2) p m.doors[k] := by rw [List.take_succ_eq_append_getElem hkl, M.passN_snoc, HPE.out]
        have HSU := Lib.hid hsucc
        have HPS := Lib.hid (HP.out p m.doors[k] hmem HPK.out)
        clear hb2 hdb3 e0 e1 e2 hends hmem hsucc
        refine wp_region_quiet_grown (by assumption) (by kernel_rfl) ?_
        repeat (first | go_big_quiet_step (fail) | quiet_step (fail))
        refine wpQuiet_nil ?_
        intro _ hw'
        obtain ⟨⟨nq, osq⟩, hw''⟩ := hw'
        subst hw''
        go_wp2_with fail
        refine (hasAll_any _ _ _).mono ?_
        rintro e w5 ⟨rfl, rfl⟩
        have HB5 := Lib.hid (HI2.out.trans ((below_grown W2 nq osq).mono (by omega)))
        cases hop : M.hasB set m.doors[k].2.2 with
        | false =>
          have hst : M.stepN (fun e => M.hasB set e.2.2) p m.doors[k] = p := by unfold M.stepN; exact if_neg (fun h => by have h1 := h.1; simp only [hop] at h1; cases h1)
          have HST := Lib.hid hst
          clear hst hop
          go_wp2_with fail
          go_roundw
          case rel => exact ⟨k + 1, by omega, by go_num, by rw [HSU.out, HST.out], by rw [HSU.out]; exact HPS.out, HB5.out⟩
          case measure => simp [intOf]; omega
        | true =>
          rcases Decidable.em (p &&& M.endsN m.doors[k] = 0) with hz0 | hz0
          · have hst : M.stepN (fun e => M.hasB set e.2.2) p m.doors[k] = p := by unfold M.stepN; rw [if_neg (fun h => h.2 hz0)]
            have HST := Lib.hid hst
            rw [hz0] at hA
            clear hst hop hz0
            go_wp2_with fail
            go_roundw
            case rel => exact ⟨k + 1, by omega, by go_num, by rw [HSU.out, HST.out], by rw [HSU.out]; exact HPS.out, HB5.out⟩
            case measure => simp [intOf]; omega
          · have hst : M.stepN (fun e => M.hasB set e.2.2) p m.doors[k] = p ||| M.endsN m.doors[k] := by unfold M.stepN; rw [if_pos ⟨hop, hz0⟩]
            have HST := Lib.hid hst
            have hzi0 : ¬ ((p &&& M.endsN m.doors[k] : Nat) : Int) = 0 := by omega
            have hzb : (((p &&& M.endsN m.doors[k] : Nat) : Int) != 0) = true := by simpa using hz0
            clear hst hop
            go_wp2_with fail
            go_roundw
            case rel => exact ⟨k + 1, by omega, by go_num, by rw [HSU.out, HST.out], by rw [HSU.out]; exact HPS.out, HB5.out⟩
            case measure => simp [intOf]; omega
      · obtain rfl : k = m.doors.length := by omega
        have hpe := HPE.out
        rw [List.take_of_length_le (Nat.le_refl _)] at hpe
        have hle := M.passN_le (fun e => M.hasB set e.2.2) n m.doors
        rw [hpe] at hle
        have HF := Lib.hid hpe
        clear hpe
        rcases Decidable.em (p = n) with hpn | hpn
        · subst hpn
          go_wp2_with fail
          go_ret
          exact ⟨p, rfl, HPK.out, HF.out, HB1.out.trans (HI.out.mono (by omega))⟩
        · have hb : ((p : Int) == (n : Int)) = false := by rw [beq_eq_false_iff_ne]; omega
          have hne : ¬ (p : Int) = (n : Int) := by omega
          go_wp2_with fail
          go_roundw
          case rel => exact ⟨p, rfl, HPK.out, X1.out.below HI.out, HB1.out.trans (HI.out.mono (by omega))⟩
          case measure => simp [intOf]; omega
end C
end Go.Proofs.Ytpdkcpclpdljeaa
namespace Go.Proofs.Ytpdkcpclpdljeaa
open Go.RowKit
namespace M
def Closed (ds : List Dr) (op : Dr → Bool) (list : List Int) (n : Nat) : Prop := ∀ j, j < n → ∀ z, list[j]? = some z → ∀ d ∈ ds, op d = true → (d.1 = z → d.2.1 ∈ list) ∧ (d.2.1 = z → d.1 ∈ list)
def Part (ds : List Dr) (op : Dr → Bool) (list : List Int) (z : Int) (i : Nat) : Prop := ∀ d ∈ ds.take i, op d = true → (d.1 = z → d.2.1 ∈ list) ∧ (d.2.1 = z → d.1 ∈ list)
theorem Closed.grow {ds : List Dr} {op : Dr → Bool} {list : List Int} {n : Nat} (h : Closed ds op list n) (hn : n ≤ list.length) (y : Int) : Closed ds op (list ++ [y]) n := by
  intro j hj z hz d hd ho
  rw [List.getElem?_append_left (by omega)] at hz
  obtain ⟨h1, h2⟩ := h j hj z hz d hd ho
  exact ⟨fun e => List.mem_append_left _ (h1 e), fun e => List.mem_append_left _ (h2 e)⟩
theorem Part.grow {ds : List Dr} {op : Dr → Bool} {list : List Int} {z : Int} {i : Nat} (h : Part ds op list z i) (y : Int) : Part ds op (list ++ [y]) z i := by
  intro d hd ho
  obtain ⟨h1, h2⟩ := h d hd ho
  exact ⟨fun e => List.mem_append_left _ (h1 e), fun e => List.mem_append_left _ (h2 e)⟩
theorem Part.zero (ds : List Dr) (op : Dr → Bool) (list : List Int) (z : Int) : Part ds op list z 0 := fun d hd => by simp at hd
theorem Part.step {ds : List Dr} {op : Dr → Bool} {list : List Int} {z : Int} {i : Nat} (h : Part ds op list z i) (hi : i < ds.length) (hd : op ds[i] = true → (ds[i].1 = z → ds[i].2.1 ∈ list) ∧ (ds[i].2.1 = z → ds[i].1 ∈ list)) : Part ds op list z (i + 1) := by
  intro d hm ho
  rw [List.take_succ_eq_append_getElem hi, List.mem_append, List.mem_singleton] at hm
  rcases hm with hm | rfl
  · exact h d hm ho
  · exact hd ho
theorem Closed.step {ds : List Dr} {op : Dr → Bool} {list : List Int} {z : Int} {n : Nat} (h : Closed ds op list n) (hz : list[n]? = some z) (hp : Part ds op list z ds.length) : Closed ds op list (n + 1) := by
  intro j hj u hu d hd ho
  rcases Nat.lt_or_ge j n with h' | h'
  · exact h j h' u hu d hd ho
  · obtain rfl : j = n := by omega
    rw [hz] at hu
    injection hu with hu
    subst hu
    exact hp d (by rw [List.take_of_length_le (Nat.le_refl _)]; exact hd) ho
theorem Closed.all {ds : List Dr} {op : Dr → Bool} {list : List Int} (h : Closed ds op list list.length) : ∀ z ∈ list, ∀ d ∈ ds, op d = true → (d.1 = z → d.2.1 ∈ list) ∧ (d.2.1 = z → d.1 ∈ list) := by
  intro z hz d hd ho
  obtain ⟨j, hj, rfl⟩ := List.mem_iff_getElem.1 hz
  exact h j hj _ (List.getElem?_eq_getElem hj) d hd ho
end M
namespace C
set_option maxHeartbeats 16000000
set_option maxRecDepth 20000
theorem ownsRow_one (w : World) (B : Nat) (e : TypeId) (u : Value) (hB : B ≤ w.heap.size) : (w.alloc (.cells #[u] e)).ownsRow B e 1 (.slice (some ⟨w.heap.size, 0, none⟩) 1 1) 1 [u] :=
  ⟨by simp, .inr ⟨w.heap.size, 1, #[u], rfl, hB, heap_alloc_new w _, Nat.le_refl _, by unfold maxLen; omega, by simp, by simp⟩⟩
/-- the state of the search -/
structure RSt (w : World) (m : M.Mz) (a b : Option Addr) (c d : Nat) (x set : Int) (wr : World) (v7 v8 : Value) (out list : List Int) : Prop where
  ok : M.ListOk m.doors (M.openTo2 set) x out list
  outm : ∃ g off co, v7 = .slice (some ⟨g, off, none⟩) out.length co ∧ OwnAt w.heap.size wr.heap.size wr 3 (some ⟨g, off, none⟩) (M.encIs out) ∧ out.length ≤ co ∧ co ≤ 9223372036854775807 ∧ v8.ownBlock ≠ some g
  listm : wr.ownsRow w.heap.size 3 1 v8 list.length (M.encIs list)
  box : Box3 wr w.heap.size 29 (.int .i64 m.size) (.slice a m.doors.length c) (.slice b m.keys.length d)
  below : Below w.heap.size w wr
theorem RSt.later {w wr wr' : World} {m : M.Mz} {a b : Option Addr} {c d : Nat} {x set : Int} {v7 v8 : Value} {out list : List Int} (h : RSt w m a b c d x set wr v7 v8 out list) (hb : Below wr.heap.size wr wr') : RSt w m a b c d x set wr' v7 v8 out list := by
  obtain ⟨g, off, co, h1, h2, h3, h4, h5⟩ := h.outm
  exact ⟨h.ok, ⟨g, off, co, h1, (h2.below hb (Nat.le_refl _)).mono (Nat.le_refl _) hb.size, h3, h4, h5⟩, own_below h.listm hb, h.box.below hb, h.below.trans (hb.mono h.below.size)⟩
theorem reach_any (w : World) (lo hi : Nat) (m : M.Mz) (a b : Option Addr) (c d : Nat) (h : MzIn lo hi w m a c b d) (hz : hi ≤ w.heap.size) (V : M.Valid m) (x set : Int) (hx0 : 0 ≤ x) (hx1 : x < m.size) (h0 : 0 ≤ set) (h1 : set < 64) :
    Calls Try.prog 89 #[.agg #[.int .i64 m.size, .slice a m.doors.length c, .slice b m.keys.length d], .int .i64 x, .int .i64 set] w (IntsPost w (M.reachOf m x set)) := by
  obtain ⟨i0, hi0, hz0, hz1, hz2⟩ := info_parts infoI
  have H := Lib.hid h
  have HV := Lib.hid V
  have v30 := V.few
  have v12 := V.size12
  have hlen : ∀ out list, M.ListOk m.doors (M.openTo2 set) x out list → list.length ≤ 12 ∧ out.length ≤ 12 := fun out list ho => ho.len (n := 12) (fun z hz => by have := M.rch_node V ⟨hx0, hx1⟩ hz; omega)
  have HL := Lib.hid hlen
  clear h V hlen
  go_enter Try.func89, Try.ntmps89
  go_wp2_with fail
  refine wp_named ?_
  intro W hW
  have hb : Below w.heap.size w W := by rw [hW]; exact ((below_alloc _ _).alloc (by simp) _).alloc (by simp; omega) _
  have st0 : RSt w m a b c d x set W (.slice (some ⟨w.heap.size + 1, 0, none⟩) 1 1) (.slice (some ⟨w.heap.size + 1 + 1, 0, none⟩) 1 1) [x] [x] := by
    refine ⟨M.ListOk.start _ _ _, ⟨w.heap.size + 1, 0, 1, rfl, ?_, Nat.le_refl _, by omega, by simp [Value.ownBlock]⟩, ?_, ?_, hb⟩
    · have o1 := ownsRow_one (w.alloc (.cells #[.int .i64 m.size, .slice a m.doors.length c, .slice b m.keys.length d] 29)) w.heap.size 3 (.int .i64 x) (by simp)
      have o2 := OwnAt.of_own (o1.alloc (.cells #[.int .i64 x] 3))
      rw [hW]
      simpa [M.encIs] using o2
    · have o1 := ownsRow_one ((w.alloc (.cells #[.int .i64 m.size, .slice a m.doors.length c, .slice b m.keys.length d] 29)).alloc (.cells #[.int .i64 x] 3)) w.heap.size 3 (.int .i64 x) (by simp; omega)
      rw [hW]
      simpa [M.encIs] using o1
    · rw [hW]; exact ((Box3.new _ _ _ _ rfl).alloc _).alloc _
  clear hW
  have ST0 := Lib.hid st0
  have hzw := hb.size
  clear st0 hb
  go_loopw [7, 8, 9, 10, 11, 12] (fun v7 v8 v9 _ _ _ wr => ∃ (n : Nat) (out list : List Int), v9 = .int .i64 n ∧ n ≤ list.length ∧ RSt w m a b c d x set wr v7 v8 out list ∧ M.Closed m.doors (M.openTo2 set) list n) (fun _ _ v9 _ _ _ _ => 12 - (intOf v9).toNat)
  case atStart => exact ⟨0, [x], [x], rfl, by simp, ST0.out, fun j hj => by omega⟩
  case round =>
    obtain ⟨n, out, list, rfl, hn, hst, hcl⟩ := hrel
    have hl12 := (HL.out _ _ hst.ok).1
    have ST := Lib.hid hst
    have CL := Lib.hid hcl
    obtain ⟨la, lc, hv8, hl1, hl2, hlm⟩ := own_slice hst.listm
    subst hv8
    clear hst hcl
    by_cases hnl : n < list.length
    · go_wp2_with fail
      refine wp_named ?_
      intro W1 hW1
      have hb1 : W1 = wr := by rw [hW1]
      clear hW1
      have ST1 : Hid (RSt w m a b c d x set W1 u7 (.slice la list.length lc) out list) := by rw [hb1]; exact ST
      clear hb1 ST
      obtain ⟨z, hzz⟩ : ∃ z, list[n]? = some z := ⟨_, List.getElem?_eq_getElem hnl⟩
      have HZZ := Lib.hid hzz
      clear hzz
      go_loopw [7, 8, 10, 11, 12] (fun v7 v8 v10 _ _ wr => ∃ (i : Nat) (out list' : List Int), v10 = .int .i64 i ∧ i ≤ m.doors.length ∧ n < list'.length ∧ list'[n]? = some z ∧ RSt w m a b c d x set wr v7 v8 out list' ∧ M.Closed m.doors (M.openTo2 set) list' n ∧ M.Part m.doors (M.openTo2 set) list' z i) (fun _ _ v10 _ _ _ => m.doors.length - (intOf v10).toNat)
      case atStart => exact ⟨0, out, list, rfl, Nat.zero_le _, hnl, HZZ.out, ST1.out, CL.out, M.Part.zero _ _ _ _⟩
      case round =>
        obtain ⟨i, out, list, rfl, hi, hnl', hzn, hst, hcl, hpt⟩ := hrel
        have hl12 := (HL.out _ _ hst.ok).1
        have ho12 := (HL.out _ _ hst.ok).2
        have CL2 := Lib.hid hcl
        have PT := Lib.hid hpt
        have ZN := Lib.hid hzn
        have STI := Lib.hid hst
        obtain ⟨g, goff, co, hv7, ho, ho1, ho2, hdis⟩ := hst.outm
        subst hv7
        have HOUT := Lib.hid ho
        have HDIS := Lib.hid hdis
        obtain ⟨la, lc, hv8, hl1, hl2, hlm⟩ := own_slice hst.listm
        subst hv8
        have hbx := hst.box
        have hbl := hbx.lt
        obtain ⟨x0, x1, x2⟩ := hbx.cells
        have hzr := hst.below.size
        have hrow := H.out.doors.below hst.below hz
        have hzval : 0 ≤ z ∧ z < m.size := M.rch_node HV.out ⟨hx0, hx1⟩ (hst.ok.reach z (List.mem_of_getElem? hzn))
        obtain ⟨hzv0, hzv1⟩ := hzval
        obtain ⟨lb, loff, hla, hlb1, hlb2, hlc⟩ := hlm.row.at_ (k := n) (by rw [M.encIs_len]; omega)
        subst hla
        have hne8 : list[n] = z := by
          have := List.getElem?_eq_getElem hnl'
          rw [this] at hzn
          injection hzn
        have pz : wr.cell? ⟨lb, loff + n, none⟩ = some (.int .i64 z) := by
          have := hlc n _ (M.encIs_at hnl')
          rwa [hne8] at this
        have PZ := Lib.hid pz
        clear hcl hpt hst hbx ho hdis hlm hlc hzn hne8
        by_cases hil : i < m.doors.length
        · obtain ⟨db, off, hda, _, hdb, hc0⟩ := hrow.at_ (k := i * 3) (by rw [M.encDs_len]; omega)
          subst hda
          have a0 := hc0 _ _ (M.encDs_at0 hil)
          have a1 : wr.cell? ⟨db, off + i * 3 + 1, none⟩ = some (.int .i64 m.doors[i].2.1) := hc0 _ _ (M.encDs_at1 hil)
          have a2 : wr.cell? ⟨db, off + i * 3 + 2, none⟩ = some (.int .i64 m.doors[i].2.2) := hc0 _ _ (M.encDs_at2 hil)
          obtain ⟨d1, d2, d3, d4, d5, d6, d7⟩ := HV.out.door i hil
          clear hc0 hrow pz
          go_wp2_with fail
          refine wp_named ?_
          intro W2 hW2
          have hb2 : Below wr.heap.size wr W2 := by rw [hW2]; exact below_alloc _ _
          have hdb3 : Box3 W2 wr.heap.size 67 (.int .i64 m.doors[i].1) (.int .i64 m.doors[i].2.1) (.int .i64 m.doors[i].2.2) := by rw [hW2]; exact Box3.new _ _ _ _ rfl
          clear hW2 a0 a1 a2 x0 x1 x2
          have HB2 := Lib.hid hb2
          have hzw2 := hb2.size
          have hdl := hdb3.lt
          have HD3 := Lib.hid hdb3
          obtain ⟨e0, e1, e2⟩ := hdb3.cells
          have E0 := cell_grown hdl e0
          have E1 := cell_grown hdl e1
          have E2 := cell_grown hdl e2
          have hlbw : lb < W2.heap.size := by omega
          have P0 := cell_grown (a := ⟨lb, loff + n, none⟩) hlbw ((hb2.cell (p := ⟨lb, loff + n, none⟩) hlb2).trans PZ.out)
          have mixed : Try.prog.follows .mixedOrders = true := by kernel_rfl
          have hnli : (n : Int) < (list.length : Int) := by omega
          clear hb2 hdb3 e0 e1 e2
          cases q1 : M.has2B set m.doors[i].2.2 with
          | false =>
            have OP : Hid (M.openTo2 set m.doors[i] = false) := Lib.hid q1
            refine wp_region_quiet_grown (by assumption) (by kernel_rfl) ?_
            repeat (first | go_big_quiet_step ((go_at_call 106; refine Calls.grown_of (same_grown (l2Has_any _ _ _)))) | quiet_step ((go_at_call 106; refine Calls.grown_of (same_grown (l2Has_any _ _ _)))))
            refine wpQuiet_nil ?_
            intro _ hw'
            obtain ⟨⟨nq, osq⟩, hw''⟩ := hw'
            subst hw''
            clear q1
            go_wp2_with fail
            go_roundw
            case rel => exact ⟨i + 1, out, list, by go_num, by omega, hnl', ZN.out, STI.out.later ((HB2.out).trans ((below_grown W2 nq osq).mono HB2.out.size)), CL2.out, PT.out.step hil (fun h => by rw [OP.out] at h; cases h)⟩
            case measure => simp [intOf]; omega
          | true =>
            have OP : Hid (M.openTo2 set m.doors[i] = true) := Lib.hid q1
            rcases Decidable.em (m.doors[i].1 = z) with t1 | t1
            · have g1 : (m.doors[i].1 != z) = false := by simpa using t1
              have ZD := Lib.hid t1
              clear t1
              refine wp_region_quiet_grown (by assumption) (by kernel_rfl) ?_
              repeat (first | go_big_quiet_step ((go_at_call 106; refine Calls.grown_of (same_grown (l2Has_any _ _ _)))) | quiet_step ((go_at_call 106; refine Calls.grown_of (same_grown (l2Has_any _ _ _)))))
              refine wpQuiet_nil ?_
              intro _ hw'
              obtain ⟨⟨nq, osq⟩, hw''⟩ := hw'
              subst hw''
              go_wp2_with fail
              refine wp_named ?_
              intro W3 hW3
              have hb3 : Below W2.heap.size W2 W3 := by rw [hW3]; exact below_grown W2 _ _
              clear hW3 E0 E1 E2 P0
              have HB3 := Lib.hid (HB2.out.trans (hb3.mono HB2.out.size))
              have hz3 := hb3.size
              have hdb := HD3.out.below hb3
              obtain ⟨e0, e1', e2⟩ := hdb.cells
              have hdl3 := hdb.lt
              have hlb3 : lb < W3.heap.size := by omega
              have E0 := cell_grown hdl3 e0
              have E1 := cell_grown hdl3 e1'
              have E2 := cell_grown hdl3 e2
              have P0 := cell_grown (a := ⟨lb, loff + n, none⟩) hlb3 ((HB3.out.cell (p := ⟨lb, loff + n, none⟩) (by show lb < _; omega)).trans PZ.out)
              have hw1 : IntKind.i64.wrap (m.doors[i].1 + m.doors[i].2.1) = m.doors[i].1 + m.doors[i].2.1 := IntWalk.i64_in _ (by omega)
              have hw2 : IntKind.i64.wrap (m.doors[i].1 + m.doors[i].2.1 - z) = m.doors[i].2.1 := by rw [IntWalk.i64_in _ (by omega)]; have := ZD.out; omega
              clear hb3 hdb e0 e1' e2
              refine wp_region_quiet_grown (by assumption) (by kernel_rfl) ?_
              repeat (first | go_big_quiet_step (fail) | quiet_step (fail))
              refine wpQuiet_nil ?_
              intro _ hw'
              obtain ⟨⟨nq3, osq3⟩, hw''⟩ := hw'
              subst hw''
              go_wp2_with fail
              refine named ?_
              intro W4 hW4
              have hb4 : Below W3.heap.size W3 W4 := by rw [hW4]; exact below_grown W3 _ _
              clear hW4 E0 E1 E2 P0 hw1 hw2
              have HB4 := Lib.hid (HB3.out.trans (hb4.mono HB3.out.size))
              have hz4 := hb4.size
              clear hb4
              refine (l1Has_any W4 _ _ _ co out m.doors[i].2.1 ((HOUT.out.row).below HB4.out (Nat.le_refl _)) (by omega)).mono ?_
              rintro e w5 ⟨rfl, rfl⟩
              cases hm : M.memB out m.doors[i].2.1 with
              | true =>
                have HM := Lib.hid (M.memB_true hm)
                clear hm
                go_wp2_with fail
                go_roundw
                case rel => exact ⟨i + 1, out, list, by go_num, by omega, hnl', ZN.out, STI.out.later HB4.out, CL2.out, PT.out.step hil (fun _ => ⟨fun _ => (STI.out.ok.same _).1 HM.out, fun e => absurd e (by have := ZD.out; omega)⟩)⟩
                case measure => simp [intOf]; omega
              | false =>
                have HM := Lib.hid (M.memB_false hm)
                clear hm
                go_wp2_with fail
                have hone : out ≠ [] := fun e => by
                  have hx := (STI.out.ok.same x).2 STI.out.ok.first
                  rw [e] at hx
                  cases hx
                refine (l1Put_any W4 _ _ g goff co out m.doors[i].2.1 ((HOUT.out.row).below HB4.out (Nat.le_refl _)) hone HM.out (by omega) (by omega) ho1 ho2).mono ?_
                rintro e w6 ⟨pa, pc, rfl, hp, hp1, hp2, hb6⟩
                have HB6 := Lib.hid (HB4.out.trans (hb6.mono HB4.out.size))
                have hz6 := hb6.size
                have hown6 := own_below STI.out.listm HB6.out
                have HX6 := STI.out.box.below HB6.out
                have hok := STI.out.ok.step HM.out (M.Rch.fwd (List.getElem_mem hil) OP.out (by rw [ZD.out]; exact STI.out.ok.reach z (List.mem_of_getElem? ZN.out)))
                have hpl : 0 < (M.put M.ltI out m.doors[i].2.1).length := List.length_pos_iff.2 (fun e => by have := (M.mem_put (lt := M.ltI) (l := out) (d := m.doors[i].2.1) (x := m.doors[i].2.1)).2 (.inr rfl); rw [e] at this; cases this)
                obtain ⟨pg, poff, hpa, hpg1, hpg2, _⟩ := hp.row.at_ (k := 0) (by rw [M.encIs_len]; exact hpl)
                subst hpa
                have hlt8 : ∀ k, (Value.slice (some ⟨lb, loff, none⟩) list.length lc).ownBlock = some k → k < W4.heap.size := fun k hk => Nat.lt_of_lt_of_le (STI.out.listm.lt k hk).2 HB4.out.size
                have HLT := Lib.hid hlt8
                have HNE := Lib.hid (own_ne_box hown6 HX6 (by decide))
                have HOK := Lib.hid hok
                have HPP := Lib.hid hp
                have HXX := Lib.hid HX6
                clear hone hb6 HX6 hok hlt8 hp
                go_wp2_with (at_builtin; refine wpList_append_own_at _ rfl _ _ 23 rfl w.heap.size 3 i0 (.int .i64 0) 1 8 Try.underlying23 hi0 hz0 hz1 hz2 rfl (by decide) _ _ _ rfl (hown6.alloc _) ⟨w6.heap.size, 0, none⟩ 1 1 [.int .i64 m.doors[i].2.1] rfl rfl (cell_one_new _ _ _) (fun x hx => by simp at hx; subst hx; rfl) (by unfold maxLen; omega) (by omega) (by simp; omega) ?_; intro v' w7 hown' hgrow7 hnil7 hat7)
                go_roundw
                case rel =>
                  have hngr : (Value.slice (some ⟨lb, loff, none⟩) list.length lc).ownBlock ≠ some pg := fun e => by have := HLT.out pg e; omega
                  have hb67 : ∀ k, k < w6.heap.size → (Value.slice (some ⟨lb, loff, none⟩) list.length lc).ownBlock ≠ some k → w7.heap[k]? = w6.heap[k]? := fun k hk hne => (hgrow7.block k (by simp; omega) (fun e => hne e.symm)).trans (Below.heap_alloc w6 _ k hk)
                  have hs7 := hgrow7.size
                  rw [World.size_alloc] at hs7
                  refine ⟨i + 1, M.put M.ltI out m.doors[i].2.1, list ++ [m.doors[i].2.1], by go_num, by omega, by rw [List.length_append]; omega, by rw [List.getElem?_append_left (by omega)]; exact ZN.out, ⟨HOK.out, ⟨pg, poff, pc, rfl, ?_, hp1, hp2, ?_⟩, ?_, ?_, ?_⟩, CL2.out.grow (by omega) _, (PT.out.grow _).step hil (fun _ => ⟨fun _ => List.mem_append_right _ (List.mem_singleton.2 rfl), fun e => absurd e (by have := ZD.out; omega)⟩)⟩
                  · rcases HPP.out with e | ⟨g9, o9, cur, e9, q1, q2, hh, hc⟩
                    · exact .inl e
                    · injection e9 with e9
                      injection e9 with e91 e92 _
                      subst e91; subst e92
                      exact .inr ⟨pg, poff, cur, rfl, by omega, by omega, (hb67 pg hpg2 hngr).trans hh, hc⟩
                  · rcases hat7 with h | h
                    · rw [h]; exact hngr
                    · rw [h]; intro e; injection e with e; rw [World.size_alloc] at e; omega
                  · have := hown'
                    rw [List.length_append, M.encIs_append]
                    exact this
                  · exact (HXX.out.alloc _).grown hgrow7 HNE.out
                  · exact ((STI.out.below.trans (HB6.out.mono STI.out.below.size)).alloc (by have := STI.out.below.size; omega) _).grown hgrow7 (by have := STI.out.below.size; simp; omega) (own_base hown6)
                case measure => simp [intOf]; omega
            · rcases Decidable.em (m.doors[i].2.1 = z) with t2 | t2
              · have g1 : (m.doors[i].1 != z) = true := by simpa using t1
                have g2 : (m.doors[i].2.1 != z) = false := by simpa using t2
                have ZD := Lib.hid t2
                clear t2
                refine wp_region_quiet_grown (by assumption) (by kernel_rfl) ?_
                repeat (first | go_big_quiet_step ((go_at_call 106; refine Calls.grown_of (same_grown (l2Has_any _ _ _)))) | quiet_step ((go_at_call 106; refine Calls.grown_of (same_grown (l2Has_any _ _ _)))))
                refine wpQuiet_nil ?_
                intro _ hw'
                obtain ⟨⟨nq, osq⟩, hw''⟩ := hw'
                subst hw''
                go_wp2_with fail
                refine wp_named ?_
                intro W3 hW3
                have hb3 : Below W2.heap.size W2 W3 := by rw [hW3]; exact below_grown W2 _ _
                clear hW3 E0 E1 E2 P0
                have HB3 := Lib.hid (HB2.out.trans (hb3.mono HB2.out.size))
                have hz3 := hb3.size
                have hdb := HD3.out.below hb3
                obtain ⟨e0, e1', e2⟩ := hdb.cells
                have hdl3 := hdb.lt
                have hlb3 : lb < W3.heap.size := by omega
                have E0 := cell_grown hdl3 e0
                have E1 := cell_grown hdl3 e1'
                have E2 := cell_grown hdl3 e2
                have P0 := cell_grown (a := ⟨lb, loff + n, none⟩) hlb3 ((HB3.out.cell (p := ⟨lb, loff + n, none⟩) (by show lb < _; omega)).trans PZ.out)
                have hw1 : IntKind.i64.wrap (m.doors[i].1 + m.doors[i].2.1) = m.doors[i].1 + m.doors[i].2.1 := IntWalk.i64_in _ (by omega)
                have hw2 : IntKind.i64.wrap (m.doors[i].1 + m.doors[i].2.1 - z) = m.doors[i].1 := by rw [IntWalk.i64_in _ (by omega)]; have := ZD.out; omega
                clear hb3 hdb e0 e1' e2
                refine wp_region_quiet_grown (by assumption) (by kernel_rfl) ?_
                repeat (first | go_big_quiet_step (fail) | quiet_step (fail))
                refine wpQuiet_nil ?_
                intro _ hw'
                obtain ⟨⟨nq3, osq3⟩, hw''⟩ := hw'
                subst hw''
                go_wp2_with fail
                refine named ?_
                intro W4 hW4
                have hb4 : Below W3.heap.size W3 W4 := by rw [hW4]; exact below_grown W3 _ _
                clear hW4 E0 E1 E2 P0 hw1 hw2
                have HB4 := Lib.hid (HB3.out.trans (hb4.mono HB3.out.size))
                have hz4 := hb4.size
                clear hb4
                refine (l1Has_any W4 _ _ _ co out m.doors[i].1 ((HOUT.out.row).below HB4.out (Nat.le_refl _)) (by omega)).mono ?_
                rintro e w5 ⟨rfl, rfl⟩
                cases hm : M.memB out m.doors[i].1 with
                | true =>
                  have HM := Lib.hid (M.memB_true hm)
                  clear hm
                  go_wp2_with fail
                  go_roundw
                  case rel => exact ⟨i + 1, out, list, by go_num, by omega, hnl', ZN.out, STI.out.later HB4.out, CL2.out, PT.out.step hil (fun _ => ⟨fun e => absurd e (by have := ZD.out; omega), fun _ => (STI.out.ok.same _).1 HM.out⟩)⟩
                  case measure => simp [intOf]; omega
                | false =>
                  have HM := Lib.hid (M.memB_false hm)
                  clear hm
                  go_wp2_with fail
                  have hone : out ≠ [] := fun e => by
                    have hx := (STI.out.ok.same x).2 STI.out.ok.first
                    rw [e] at hx
                    cases hx
                  refine (l1Put_any W4 _ _ g goff co out m.doors[i].1 ((HOUT.out.row).below HB4.out (Nat.le_refl _)) hone HM.out (by omega) (by omega) ho1 ho2).mono ?_
                  rintro e w6 ⟨pa, pc, rfl, hp, hp1, hp2, hb6⟩
                  have HB6 := Lib.hid (HB4.out.trans (hb6.mono HB4.out.size))
                  have hz6 := hb6.size
                  have hown6 := own_below STI.out.listm HB6.out
                  have HX6 := STI.out.box.below HB6.out
                  have hok := STI.out.ok.step HM.out (M.Rch.bwd (List.getElem_mem hil) OP.out (by rw [ZD.out]; exact STI.out.ok.reach z (List.mem_of_getElem? ZN.out)))
                  have hpl : 0 < (M.put M.ltI out m.doors[i].1).length := List.length_pos_iff.2 (fun e => by have := (M.mem_put (lt := M.ltI) (l := out) (d := m.doors[i].1) (x := m.doors[i].1)).2 (.inr rfl); rw [e] at this; cases this)
                  obtain ⟨pg, poff, hpa, hpg1, hpg2, _⟩ := hp.row.at_ (k := 0) (by rw [M.encIs_len]; exact hpl)
                  subst hpa
                  have hlt8 : ∀ k, (Value.slice (some ⟨lb, loff, none⟩) list.length lc).ownBlock = some k → k < W4.heap.size := fun k hk => Nat.lt_of_lt_of_le (STI.out.listm.lt k hk).2 HB4.out.size
                  have HLT := Lib.hid hlt8
                  have HNE := Lib.hid (own_ne_box hown6 HX6 (by decide))
                  have HOK := Lib.hid hok
                  have HPP := Lib.hid hp
                  have HXX := Lib.hid HX6
                  clear hone hb6 HX6 hok hlt8 hp
                  go_wp2_with (at_builtin; refine wpList_append_own_at _ rfl _ _ 23 rfl w.heap.size 3 i0 (.int .i64 0) 1 8 Try.underlying23 hi0 hz0 hz1 hz2 rfl (by decide) _ _ _ rfl (hown6.alloc _) ⟨w6.heap.size, 0, none⟩ 1 1 [.int .i64 m.doors[i].1] rfl rfl (cell_one_new _ _ _) (fun x hx => by simp at hx; subst hx; rfl) (by unfold maxLen; omega) (by omega) (by simp; omega) ?_; intro v' w7 hown' hgrow7 hnil7 hat7)
                  go_roundw
                  case rel =>
                    have hngr : (Value.slice (some ⟨lb, loff, none⟩) list.length lc).ownBlock ≠ some pg := fun e => by have := HLT.out pg e; omega
                    have hb67 : ∀ k, k < w6.heap.size → (Value.slice (some ⟨lb, loff, none⟩) list.length lc).ownBlock ≠ some k → w7.heap[k]? = w6.heap[k]? := fun k hk hne => (hgrow7.block k (by simp; omega) (fun e => hne e.symm)).trans (Below.heap_alloc w6 _ k hk)
                    have hs7 := hgrow7.size
                    rw [World.size_alloc] at hs7
                    refine ⟨i + 1, M.put M.ltI out m.doors[i].1, list ++ [m.doors[i].1], by go_num, by omega, by rw [List.length_append]; omega, by rw [List.getElem?_append_left (by omega)]; exact ZN.out, ⟨HOK.out, ⟨pg, poff, pc, rfl, ?_, hp1, hp2, ?_⟩, ?_, ?_, ?_⟩, CL2.out.grow (by omega) _, (PT.out.grow _).step hil (fun _ => ⟨fun e => absurd e (by have := ZD.out; omega), fun _ => List.mem_append_right _ (List.mem_singleton.2 rfl)⟩)⟩
                    · rcases HPP.out with e | ⟨g9, o9, cur, e9, q1, q2, hh, hc⟩
                      · exact .inl e
                      · injection e9 with e9
                        injection e9 with e91 e92 _
                        subst e91; subst e92
                        exact .inr ⟨pg, poff, cur, rfl, by omega, by omega, (hb67 pg hpg2 hngr).trans hh, hc⟩
                    · rcases hat7 with h | h
                      · rw [h]; exact hngr
                      · rw [h]; intro e; injection e with e; rw [World.size_alloc] at e; omega
                    · have := hown'
                      rw [List.length_append, M.encIs_append]
                      exact this
                    · exact (HXX.out.alloc _).grown hgrow7 HNE.out
                    · exact ((STI.out.below.trans (HB6.out.mono STI.out.below.size)).alloc (by have := STI.out.below.size; omega) _).grown hgrow7 (by have := STI.out.below.size; simp; omega) (own_base hown6)
                  case measure => simp [intOf]; omega
              · have g1 : (m.doors[i].1 != z) = true := by simpa using t1
                have g2 : (m.doors[i].2.1 != z) = true := by simpa using t2
                refine wp_region_quiet_grown (by assumption) (by kernel_rfl) ?_
                repeat (first | go_big_quiet_step ((go_at_call 106; refine Calls.grown_of (same_grown (l2Has_any _ _ _)))) | quiet_step ((go_at_call 106; refine Calls.grown_of (same_grown (l2Has_any _ _ _)))))
                refine wpQuiet_nil ?_
                intro _ hw'
                obtain ⟨⟨nq, osq⟩, hw''⟩ := hw'
                subst hw''
                go_wp2_with fail
                go_roundw
                case rel => exact ⟨i + 1, out, list, by go_num, by omega, hnl', ZN.out, STI.out.later ((HB2.out).trans ((below_grown W2 nq osq).mono HB2.out.size)), CL2.out, PT.out.step hil (fun _ => ⟨fun e => absurd e t1, fun e => absurd e t2⟩)⟩
                case measure => simp [intOf]; omega
        · obtain rfl : i = m.doors.length := by omega
          go_wp2_with fail
          go_roundw
          case rel => exact ⟨n + 1, out, list, by go_num, by omega, STI.out, CL2.out.step ZN.out PT.out⟩
          case measure => simp [intOf]; omega
    · obtain rfl : n = list.length := by omega
      have HR : Hid (out = M.reachOf m x set) := Lib.hid (M.reach_list HV.out h0 h1 ⟨hx0, hx1⟩ ST.out.ok (M.Closed.all CL.out))
      obtain ⟨g, off, co, hv7, ho, ho1, ho2, _⟩ := ST.out.outm
      subst hv7
      have HO := Lib.hid ho
      clear ho
      go_wp2_with fail
      go_ret
      rw [← HR.out]
      exact ⟨_, _, rfl, HO.out, ho1, ho2, ST.out.below⟩
end C
end Go.Proofs.Ytpdkcpclpdljeaa
