/-
  MATHEMATICS of reaching, own to these proofs: the list of all nodes to which one comes, and what tells it. No condition.
  CONTRACT of impl.digitsOf: the places of the binary digits 1, in a new list, ascending; what lay in memory stays. Condition: a number below 4096 (64 for colours).
  CONTRACTS of doors between nodes: spec.l2Joins, l2Has, l2Open; impl.hasAll, needsBetween, isOpen; what lay in memory stays. Condition: the maze reads so; for impl.isOpen it is valid.
-/
import Derived.Test.YtcoaggnilgfjfaaUBase
import Derived.Test.YtcoaggnilgfjfaaUValid
import Derived.Laws.StructEq
namespace Go.Proofs.Ytcoaggnilgfjfaa
open Go.RowKit
namespace M
noncomputable def rchL (ds : List Dr) (op : Dr → Bool) (x : Int) : List Int := ((List.range 12).filter fun p : Nat => @decide (Rch ds op x (p : Int)) (Classical.propDecidable _)).map fun p : Nat => (p : Int)
theorem rchL_len (ds : List Dr) (op : Dr → Bool) (x : Int) : (rchL ds op x).length ≤ 12 := by
  unfold rchL
  rw [List.length_map]
  refine Nat.le_trans (List.length_filter_le _ _) ?_
  simp
theorem mem_rchL {ds : List Dr} {op : Dr → Bool} {x : Int} (hb : ∀ y, Rch ds op x y → 0 ≤ y ∧ y < 12) (y : Int) : y ∈ rchL ds op x ↔ Rch ds op x y := by
  unfold rchL
  rw [List.mem_map]
  constructor
  · rintro ⟨p, hp, rfl⟩
    rw [List.mem_filter] at hp
    exact @of_decide_eq_true _ (Classical.propDecidable _) hp.2
  · intro h
    obtain ⟨h0, h1⟩ := hb y h
    have e : ((y.toNat : Nat) : Int) = y := by omega
    refine ⟨y.toNat, ?_, e⟩
    rw [List.mem_filter, List.mem_range]
    refine ⟨by omega, @decide_eq_true _ (Classical.propDecidable _) ?_⟩
    rw [e]; exact h
theorem rchL_asc (ds : List Dr) (op : Dr → Bool) (x : Int) : Asc ltI (rchL ds op x) := by
  unfold rchL Asc
  rw [List.pairwise_map]
  refine (List.Pairwise.filter _ List.pairwise_lt_range).imp ?_
  intro a b hab
  unfold ltI
  rw [decide_eq_true_iff]
  omega
/-- whatever list ascends and has just the nodes to which one comes is that one -/
theorem rchL_eq {ds : List Dr} {op : Dr → Bool} {x : Int} (hb : ∀ y, Rch ds op x y → 0 ≤ y ∧ y < 12) {l : List Int} (h1 : Asc ltI l) (h2 : ∀ y, y ∈ l ↔ Rch ds op x y) : rchL ds op x = l :=
  (rchL_asc ds op x).ext ordI h1 fun y => by rw [mem_rchL hb, h2]
theorem rch_node {m : Mz} (V : Valid m) {op : Dr → Bool} {x : Int} (hx : 0 ≤ x ∧ x < m.size) {y : Int} (h : Rch m.doors op x y) : 0 ≤ y ∧ y < m.size := by
  induction h with
  | refl => exact hx
  | fwd hd _ _ _ =>
    obtain ⟨k, hk, rfl⟩ := List.mem_iff_getElem.1 hd
    obtain ⟨a, b, c, d, _⟩ := V.door k hk
    exact ⟨c, d⟩
  | bwd hd _ _ _ =>
    obtain ⟨k, hk, rfl⟩ := List.mem_iff_getElem.1 hd
    obtain ⟨a, b, c, d, _⟩ := V.door k hk
    exact ⟨a, b⟩
def openTo (set : Int) (d : Dr) : Bool := hasB set d.2.2
def openTo2 (set : Int) (d : Dr) : Bool := has2B set d.2.2
theorem open_both {m : Mz} (V : Valid m) {set : Int} (h0 : 0 ≤ set) (h1 : set < 64) : ∀ d ∈ m.doors, openTo set d = openTo2 set d := by
  intro d hd
  obtain ⟨k, hk, rfl⟩ := List.mem_iff_getElem.1 hd
  obtain ⟨_, _, _, _, _, b, c⟩ := V.door k hk
  exact has_same h0 h1 b c
theorem rch_both {m : Mz} (V : Valid m) {set : Int} (h0 : 0 ≤ set) (h1 : set < 64) {x y : Int} : Rch m.doors (openTo set) x y ↔ Rch m.doors (openTo2 set) x y :=
  ⟨Rch.mono fun d hd ho => by rw [← open_both V h0 h1 d hd]; exact ho, Rch.mono fun d hd ho => by rw [open_both V h0 h1 d hd]; exact ho⟩
/-- all nodes to which one comes -/
noncomputable def reachOf (m : Mz) (x set : Int) : List Int := rchL m.doors (openTo set) x
def reachB (m : Mz) (x set : Int) : Bool := mzNodeB m x && setB set
noncomputable def reachV (m : Mz) (x set : Int) : List Int := if reachB m x set then reachOf m x set else []
theorem reachV_yes {m : Mz} {x set : Int} (h : reachB m x set = true) : reachV m x set = reachOf m x set := by unfold reachV; rw [if_pos h]
theorem reachV_no {m : Mz} {x set : Int} (h : reachB m x set = false) : reachV m x set = [] := by unfold reachV; rw [h]; rfl
theorem reachV_len (m : Mz) (x set : Int) : (reachV m x set).length ≤ 1048576 := by
  unfold reachV
  split
  · have := rchL_len m.doors (openTo set) x
    unfold reachOf
    omega
  · simp
/-- the program's number tells it -/
theorem reach_mask {m : Mz} (V : Valid m) {x : Nat} {set : Int} (hx : (x : Int) < m.size) {n : Nat} (h : MaskOk m.doors (openTo set) x n) (hp : passN (openTo set) n m.doors = n) : digsTo n 12 = reachOf m x set := by
  have hv : ∀ d ∈ m.doors, 0 ≤ d.1 ∧ d.1 < 12 ∧ 0 ≤ d.2.1 ∧ d.2.1 < 12 := by
    intro d hd
    obtain ⟨k, hk, rfl⟩ := List.mem_iff_getElem.1 hd
    obtain ⟨a, b, c, e, _⟩ := V.door k hk
    have := V.size12
    omega
  exact (rchL_eq (fun y hy => by have := rch_node V ⟨by omega, hx⟩ hy; have := V.size12; omega) (digsTo_asc n 12) (mask_end h hp hv)).symm
/-- the model's list is it -/
theorem reach_list {m : Mz} (V : Valid m) {x set : Int} (h0 : 0 ≤ set) (h1 : set < 64) (hx : 0 ≤ x ∧ x < m.size) {out list : List Int} (h : ListOk m.doors (openTo2 set) x out list) (hc : ∀ z ∈ list, ∀ d ∈ m.doors, openTo2 set d = true → (d.1 = z → d.2.1 ∈ list) ∧ (d.2.1 = z → d.1 ∈ list)) : out = reachOf m x set :=
  (rchL_eq (fun y hy => by have := rch_node V hx hy; have := V.size12; omega) h.asc fun y => by rw [list_end h hc, rch_both V h0 h1]).symm
end M
end Go.Proofs.Ytcoaggnilgfjfaa
namespace Go.Proofs.Ytcoaggnilgfjfaa
open Go.RowKit
namespace M
theorem wraps_i64 (n : Int) (h0 : 0 ≤ n) (h1 : n < 2 ^ 62) : IntKind.i64.wrap n = n := by rw [IntKind.wrap_i64]; omega
theorem and1 (n : Nat) (h : n < 4096) : bits .and .i64 (n : Int) 1 = ((n % 2 : Nat) : Int) := by
  have := (bits_nat .i64 62 (by decide) wraps_i64 n 1 (by omega) (by decide)).1
  rw [Nat.and_one_is_mod] at this
  exact this
theorem shr_nat (n p : Nat) : (n : Int) / 2 ^ p = ((n / 2 ^ p : Nat) : Int) := by simp
theorem bit_test {n p : Nat} (h : n < 4096) : (bits .and .i64 ((n : Int) / 2 ^ p) 1 == 1) = digB n p := by
  rw [shr_nat, and1 _ (Nat.lt_of_le_of_lt (Nat.div_le_self _ _) h)]
  unfold digB
  rw [Bool.eq_iff_iff]
  simp only [beq_iff_eq, decide_eq_true_eq]
  exact ⟨fun h => by exact_mod_cast h, fun h => by exact_mod_cast h⟩
def colours (s : Int) : List Int := if setB s then digsTo s.toNat 6 else []
end M
namespace C
set_option maxHeartbeats 800000
set_option maxRecDepth 20000
theorem digits_any (n : Nat) (hn : n < 4096) (w : World) : Calls Try.prog 68 #[.int .i64 (n : Int)] w (IntsPost w (M.digsTo n 12)) := by
  obtain ⟨i0, hi0, hz0, hz1, hz2⟩ := info_parts infoI
  have h12 : Hid (n / 2 ^ 12 = 0) := Lib.hid (Nat.div_eq_of_lt hn)
  go_enter Try.func68, Try.ntmps68
  go_wp2_with fail
  go_loopw [3, 4] (fun v i wr => ∃ (k : Nat), k ≤ 12 ∧ i = .int .i64 k ∧ wr.ownsRow w.heap.size 3 1 v (M.digsTo n k).length (M.encIs (M.digsTo n k)) ∧ Below w.heap.size w wr) (fun _ i _ => 12 - (intOf i).toNat)
  case atStart => exact ⟨0, Nat.zero_le _, rfl, ownsRow_empty _ _ _ _ (Nat.le_refl _), below_alloc _ _⟩
  case round =>
    obtain ⟨k, hk, rfl, hown, hnx⟩ := hrel
    have HN := Lib.hid hnx
    have HO := Lib.hid hown
    have hzr := hnx.size
    have hlen := M.digsTo_len n k
    clear hnx
    have hsh := M.shr_nat n k
    by_cases hp : 0 < n / 2 ^ k
    · have hk12 : k < 12 := by
        rcases Nat.lt_or_ge k 12 with h | h
        · exact h
        · have : k = 12 := by omega
          subst this
          rw [h12.out] at hp
          omega
      have hpt : 0 < (n : Int) / 2 ^ k := by rw [hsh]; exact_mod_cast hp
      have hbt := M.bit_test (p := k) hn
      clear hsh hp
      cases hd : M.digB n k with
      | true =>
        rw [hd] at hbt
        have HD := Lib.hid (M.digsTo_yes hd)
        clear hd
        go_wp2_with (at_builtin; refine wpList_append_own _ rfl _ _ 23 rfl w.heap.size 3 i0 (.int .i64 0) 1 8 Try.underlying23 hi0 hz0 hz1 hz2 rfl (by decide) _ _ _ rfl (hown.alloc _) ⟨wr.heap.size, 0, none⟩ 1 1 [.int .i64 (k : Int)] rfl rfl (cell_one_new _ _ _) (fun x hx => by simp at hx; subst hx; rfl) (by unfold maxLen; omega) (by omega) (by simp; omega) ?_; intro v' w3 hown' hgrow3 hnil3)
        go_roundw
        case rel =>
          refine ⟨k + 1, by omega, by go_num, ?_, (HN.out.alloc hzr _).grown hgrow3 (by simp; omega) (own_base hown)⟩
          rw [HD.out]
          simpa [M.encIs] using hown'
        case measure => simp [intOf]; omega
      | false =>
        rw [hd] at hbt
        have HD := Lib.hid (M.digsTo_no hd)
        clear hd hown
        go_wp2_with fail
        go_roundw
        case rel => exact ⟨k + 1, by omega, by go_num, by rw [HD.out]; exact HO.out, HN.out⟩
        case measure => simp [intOf]; omega
    · have hz : n / 2 ^ k = 0 := Nat.eq_zero_of_not_pos hp
      have hpt : ¬ 0 < (n : Int) / 2 ^ k := by rw [hsh, hz]; simp
      have HE : Hid (M.digsTo n 12 = M.digsTo n k) := Lib.hid (M.digsTo_eq hz hk)
      clear hsh hz hp hown
      go_wp2_with fail
      go_ret
      exact ints_end (by rw [HE.out]; exact HO.out) HN.out
end C
end Go.Proofs.Ytcoaggnilgfjfaa
namespace Go.Proofs.Ytcoaggnilgfjfaa
open Go.RowKit
namespace C
set_option maxHeartbeats 1600000
set_option maxRecDepth 20000
theorem joins_any (d : M.Dr) (x y : Int) (w : World) : Calls Try.prog 149 #[.agg #[.int .i64 d.1, .int .i64 d.2.1, .int .i64 d.2.2], .int .i64 x, .int .i64 y] w fun e w' => e = .returned (.bool (M.joinsB d x y)) ∧ w.alloc (.cells #[.int .i64 d.1, .int .i64 d.2.1, .int .i64 d.2.2] 69) = w' := by
  obtain ⟨d1, d2, d3⟩ := d
  cases e1 : (d1 == x) <;> cases e2 : (d2 == y) <;> cases e3 : (d1 == y) <;> cases e4 : (d2 == x)
  all_goals
    have HJ := Lib.hid (show M.joinsB (d1, d2, d3) x y = _ by unfold M.joinsB; simp only [e1, e2, e3, e4]; rfl)
    go_enter Try.func149, Try.ntmps149
    go_wp2_with fail
    go_ret
    exact ⟨by rw [HJ.out]; rfl, rfl⟩
theorem l2Has_any (s t : Int) (w : World) : Calls Try.prog 72 #[.int .i64 s, .int .i64 t] w fun e w' => e = .returned (.bool (M.has2B s t)) ∧ w = w' := by
  go_enter Try.func72, Try.ntmps72
  go_wp2_with fail
  go_ret
  exact ⟨rfl, rfl⟩
theorem hasAll_any (s t : Int) (w : World) : Calls Try.prog 78 #[.int .i64 s, .int .i64 t] w fun e w' => e = .returned (.bool (M.hasB s t)) ∧ w = w' := by
  go_enter Try.func78, Try.ntmps78
  go_wp2_with fail
  go_ret
  exact ⟨rfl, rfl⟩
theorem l2Open_any (w : World) (lo hi : Nat) (m : M.Mz) (a b : Option Addr) (c d : Nat) (x y set : Int) (h : MzIn lo hi w m a c b d) (hz : hi ≤ w.heap.size) (h1 : m.doors.length ≤ 1048576) :
    Calls Try.prog 133 #[.agg #[.int .i64 m.size, .slice a m.doors.length c, .slice b m.keys.length d], .int .i64 x, .int .i64 y, .int .i64 set] w (BoolPost w (M.openB m.doors x y set)) := by
  have H := Lib.hid h
  clear h
  go_enter Try.func133, Try.ntmps133
  go_wp2_with fail
  go_loopw [9] (fun i wr => ∃ (k : Nat), k ≤ m.doors.length ∧ i = .int .i64 k ∧ (∀ j (hj : j < m.doors.length), j < k → (M.joinsB m.doors[j] x y && M.has2B set m.doors[j].2.2) = false) ∧ Box3 wr w.heap.size 29 (.int .i64 m.size) (.slice a m.doors.length c) (.slice b m.keys.length d) ∧ Below w.heap.size w wr) (fun i _ => m.doors.length - (intOf i).toNat)
  case atStart => exact ⟨0, Nat.zero_le _, rfl, fun j _ h => by omega, Box3.new _ _ _ _ rfl, below_alloc _ _⟩
  case round =>
    obtain ⟨k, hk, rfl, hall, hbox, hnx⟩ := hrel
    have HA := Lib.hid hall
    have HN := Lib.hid hnx
    have HBX := Lib.hid hbox
    have hzr := hnx.size
    have hbl := hbox.lt
    obtain ⟨x0, x1, x2⟩ := hbox.cells
    clear hall hnx hbox
    by_cases hlt : k < m.doors.length
    · obtain ⟨db, off, rfl, _, hb, hc0⟩ := (H.out.doors.below HN.out hz).at_ (k := k * 3) (by rw [M.encDs_len]; omega)
      have a0 := hc0 _ _ (M.encDs_at0 hlt)
      have a1 : wr.cell? ⟨db, off + k * 3 + 1, none⟩ = some (.int .i64 m.doors[k].2.1) := hc0 _ _ (M.encDs_at1 hlt)
      have a2 : wr.cell? ⟨db, off + k * 3 + 2, none⟩ = some (.int .i64 m.doors[k].2.2) := hc0 _ _ (M.encDs_at2 hlt)
      have hdw : db < wr.heap.size := by omega
      clear hc0
      cases e1 : M.joinsB m.doors[k] x y with
      | false =>
        have E1 := Lib.hid e1
        clear e1
        go_wp2_with fail
        refine (joins_any _ _ _ _).mono ?_
        rintro e w1 ⟨rfl, rfl⟩
        rw [E1.out]
        go_wp2_with fail
        go_roundw
        case rel => exact ⟨k + 1, by omega, by go_num, fun j hj hjk => by
          rcases Nat.lt_or_ge j k with h | h
          · exact HA.out j hj h
          · obtain rfl : j = k := by omega
            rw [E1.out]; rfl, HBX.out.alloc _, HN.out.alloc hzr _⟩
        case measure => simp [intOf]; omega
      | true =>
        have E1 := Lib.hid e1
        clear e1
        cases e2 : M.has2B set m.doors[k].2.2 with
        | false =>
          have E2 := Lib.hid e2
          clear e2
          go_wp2_with fail
          refine (joins_any _ _ _ _).mono ?_
          rintro e w1 ⟨rfl, rfl⟩
          rw [E1.out]
          go_wp2_with fail
          refine (l2Has_any _ _ _).mono ?_
          rintro e w1 ⟨rfl, rfl⟩
          rw [E2.out]
          go_wp2_with fail
          go_roundw
          case rel => exact ⟨k + 1, by omega, by go_num, fun j hj hjk => by
            rcases Nat.lt_or_ge j k with h | h
            · exact HA.out j hj h
            · obtain rfl : j = k := by omega
              rw [E2.out, Bool.and_false], HBX.out.alloc _, HN.out.alloc hzr _⟩
          case measure => simp [intOf]; omega
        | true =>
          have HF : Hid (M.openB m.doors x y set = true) := Lib.hid (List.any_eq_true.2 ⟨_, List.getElem_mem hlt, by rw [E1.out, e2]; rfl⟩)
          have E2 := Lib.hid e2
          clear e2
          go_wp2_with fail
          refine (joins_any _ _ _ _).mono ?_
          rintro e w1 ⟨rfl, rfl⟩
          rw [E1.out]
          go_wp2_with fail
          refine (l2Has_any _ _ _).mono ?_
          rintro e w1 ⟨rfl, rfl⟩
          rw [E2.out]
          go_wp2_with fail
          go_ret
          exact ⟨by rw [HF.out]; rfl, HN.out.alloc hzr _⟩
    · obtain rfl : k = m.doors.length := by omega
      have HF : Hid (M.openB m.doors x y set = false) := Lib.hid (by
        unfold M.openB
        rw [List.any_eq_false]
        intro z hz
        obtain ⟨j, hj, rfl⟩ := List.mem_iff_getElem.1 hz
        rw [HA.out j hj hj]
        decide)
      go_wp2_with fail
      go_ret
      exact ⟨by rw [HF.out]; rfl, HN.out⟩
end C
end Go.Proofs.Ytcoaggnilgfjfaa
