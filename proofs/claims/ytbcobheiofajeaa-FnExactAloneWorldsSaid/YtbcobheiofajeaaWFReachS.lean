/-
  CONTRACT of spec.l2Reach: all nodes to which one comes, in memory of its own; what lay in memory stays. Condition: a valid maze, one of its nodes, a set of colours.
  CONTRACT of spec.l2Close: the colours that one has at last, and the nodes that are entered with them, in a new list; what lay in memory stays. Condition: a valid maze, a set of colours.
  CONTRACT of spec.l3Rounds: the sets that one has at first and behind each round that brings a colour, in a new list; what lay in memory stays. Condition: a valid maze, a set of colours.
  CONTRACT of spec.l3Entered: for each node the round in which it is entered, or 0, in a new list; what lay in memory stays. Condition: a valid maze, a set of colours.
  CONTRACTS of the model's RoundsOf, GainAtLast, l3Wins, CanWin, NodeRounds, WinRound; what lay in memory stays. No condition but that the maze reads so.
  MATHEMATICS of the keys at some nodes, own to these proofs: the set is the least that has the keys of each. No condition.
  MATHEMATICS of a maze with fewer doors or keys, own to these proofs: one has no more of it at last; a colour that no node has is not had. No condition.
-/
import Derived.Test.YtbcobheiofajeaaWEDoorsAt
import Derived.Maps.AppendAt
import Derived.Test.YtbcobheiofajeaaWCOwnMaz2
import Derived.Deep.RegionHeld3
import Derived.Deep.RegionWith
import Derived.Deep.DeepCutAuto
import Derived.OwnWalk
import Derived.IntWalk
namespace Go.Proofs.Ytbcobheiofajeaa
open Go.RowKit
namespace M
def Closed (ds : List Dr) (op : Dr → Bool) (list : List Int) (n : Nat) : Prop := ∀ j, j < n → ∀ z, list[j]? = some z → ∀ d ∈ ds, op d = true → (d.1 = z → d.2.1 ∈ list) ∧ (d.2.1 = z → d.1 ∈ list)
def Part (ds : List Dr) (op : Dr → Bool) (list : List Int) (z : Int) (i : Nat) : Prop := ∀ d ∈ ds.take i, op d = true → (d.1 = z → d.2.1 ∈ list) ∧ (d.2.1 = z → d.1 ∈ list)
theorem Closed.grow {ds : List Dr} {op : Dr → Bool} {list : List Int} {n : Nat} (h : Closed ds op list n) (hn : n ≤ list.length) (y : Int) : Closed ds op (list ++ [y]) n := by
  intro j hj z hz d hd ho
  rw [List.getElem?_append_left (by omega)] at hz
  obtain ⟨h1, h2⟩ := h j hj z hz d hd ho
  exact ⟨fun e => List.mem_append_left _ (h1 e), fun e => List.mem_append_left _ (h2 e)⟩
theorem Part.grow {ds : List Dr} {op : Dr → Bool} {list : List Int} {z : Int} {i : Nat} (h : Part ds op list z i) (y : Int) : Part ds op (list ++ [y]) z i := by
  intro d hd ho
  obtain ⟨h1, h2⟩ := h d hd ho
  exact ⟨fun e => List.mem_append_left _ (h1 e), fun e => List.mem_append_left _ (h2 e)⟩
theorem Part.zero (ds : List Dr) (op : Dr → Bool) (list : List Int) (z : Int) : Part ds op list z 0 := fun d hd => by simp at hd
theorem Part.step {ds : List Dr} {op : Dr → Bool} {list : List Int} {z : Int} {i : Nat} (h : Part ds op list z i) (hi : i < ds.length) (hd : op ds[i] = true → (ds[i].1 = z → ds[i].2.1 ∈ list) ∧ (ds[i].2.1 = z → ds[i].1 ∈ list)) : Part ds op list z (i + 1) := by
  intro d hm ho
  rw [List.take_succ_eq_append_getElem hi, List.mem_append, List.mem_singleton] at hm
  rcases hm with hm | rfl
  · exact h d hm ho
  · exact hd ho
theorem Closed.step {ds : List Dr} {op : Dr → Bool} {list : List Int} {z : Int} {n : Nat} (h : Closed ds op list n) (hz : list[n]? = some z) (hp : Part ds op list z ds.length) : Closed ds op list (n + 1) := by
  intro j hj u hu d hd ho
  rcases Nat.lt_or_ge j n with h' | h'
  · exact h j h' u hu d hd ho
  · obtain rfl : j = n := by omega
    rw [hz] at hu
    injection hu with hu
    subst hu
    exact hp d (by rw [List.take_of_length_le (Nat.le_refl _)]; exact hd) ho
theorem Closed.all {ds : List Dr} {op : Dr → Bool} {list : List Int} (h : Closed ds op list list.length) : ∀ z ∈ list, ∀ d ∈ ds, op d = true → (d.1 = z → d.2.1 ∈ list) ∧ (d.2.1 = z → d.1 ∈ list) := by
  intro z hz d hd ho
  obtain ⟨j, hj, rfl⟩ := List.mem_iff_getElem.1 hz
  exact h j hj _ (List.getElem?_eq_getElem hj) d hd ho
end M
namespace C
set_option maxHeartbeats 16000000
set_option maxRecDepth 20000
theorem ownsRow_one (w : World) (B : Nat) (e : TypeId) (u : Value) (hB : B ≤ w.heap.size) : (w.alloc (.cells #[u] e)).ownsRow B e 1 (.slice (some ⟨w.heap.size, 0, none⟩) 1 1) 1 [u] :=
  ⟨by simp, .inr ⟨w.heap.size, 1, #[u], rfl, hB, heap_alloc_new w _, Nat.le_refl _, by unfold maxLen; omega, by simp, by simp⟩⟩
/-- the state of the search -/
structure RSt (w : World) (m : M.Mz) (a b : Option Addr) (c d : Nat) (x set : Int) (wr : World) (v7 v8 : Value) (out list : List Int) : Prop where
  ok : M.ListOk m.doors (M.openTo2 set) x out list
  outm : ∃ g off co, v7 = .slice (some ⟨g, off, none⟩) out.length co ∧ OwnAt w.heap.size wr.heap.size wr 3 (some ⟨g, off, none⟩) (M.encIs out) ∧ out.length ≤ co ∧ co ≤ 9223372036854775807 ∧ v8.ownBlock ≠ some g
  listm : wr.ownsRow w.heap.size 3 1 v8 list.length (M.encIs list)
  box : Box3 wr w.heap.size 55 (.int .i64 m.size) (.slice a m.doors.length c) (.slice b m.keys.length d)
  below : Below w.heap.size w wr
theorem RSt.later {w wr wr' : World} {m : M.Mz} {a b : Option Addr} {c d : Nat} {x set : Int} {v7 v8 : Value} {out list : List Int} (h : RSt w m a b c d x set wr v7 v8 out list) (hb : Below wr.heap.size wr wr') : RSt w m a b c d x set wr' v7 v8 out list := by
  obtain ⟨g, off, co, h1, h2, h3, h4, h5⟩ := h.outm
  exact ⟨h.ok, ⟨g, off, co, h1, (h2.below hb (Nat.le_refl _)).mono (Nat.le_refl _) hb.size, h3, h4, h5⟩, own_below h.listm hb, h.box.below hb, h.below.trans (hb.mono h.below.size)⟩
theorem reach_any (w : World) (lo hi : Nat) (m : M.Mz) (a b : Option Addr) (c d : Nat) (h : MzIn lo hi w m a c b d) (hz : hi ≤ w.heap.size) (V : M.Valid m) (x set : Int) (hx0 : 0 ≤ x) (hx1 : x < m.size) (h0 : 0 ≤ set) (h1 : set < 64) :
    Calls Try.prog 75 #[.agg #[.int .i64 m.size, .slice a m.doors.length c, .slice b m.keys.length d], .int .i64 x, .int .i64 set] w (IntsPost w (M.reachOf m x set)) := by
  obtain ⟨i0, hi0, hz0, hz1, hz2⟩ := info_parts infoI
  have H := Lib.hid h
  have HV := Lib.hid V
  have v30 := V.few
  have v12 := V.size12
  have hlen : ∀ out list, M.ListOk m.doors (M.openTo2 set) x out list → list.length ≤ 12 ∧ out.length ≤ 12 := fun out list ho => ho.len (n := 12) (fun z hz => by have := M.rch_node V ⟨hx0, hx1⟩ hz; omega)
  have HL := Lib.hid hlen
  clear h V hlen
  go_enter Try.func75, Try.ntmps75
  go_wp2_with fail
  refine wp_named ?_
  intro W hW
  have hb : Below w.heap.size w W := by rw [hW]; exact ((below_alloc _ _).alloc (by simp) _).alloc (by simp; omega) _
  have st0 : RSt w m a b c d x set W (.slice (some ⟨w.heap.size + 1, 0, none⟩) 1 1) (.slice (some ⟨w.heap.size + 1 + 1, 0, none⟩) 1 1) [x] [x] := by
    refine ⟨M.ListOk.start _ _ _, ⟨w.heap.size + 1, 0, 1, rfl, ?_, Nat.le_refl _, by omega, by simp [Value.ownBlock]⟩, ?_, ?_, hb⟩
    · have o1 := ownsRow_one (w.alloc (.cells #[.int .i64 m.size, .slice a m.doors.length c, .slice b m.keys.length d] 55)) w.heap.size 3 (.int .i64 x) (by simp)
      have o2 := OwnAt.of_own (o1.alloc (.cells #[.int .i64 x] 3))
      rw [hW]
      simpa [M.encIs] using o2
    · have o1 := ownsRow_one ((w.alloc (.cells #[.int .i64 m.size, .slice a m.doors.length c, .slice b m.keys.length d] 55)).alloc (.cells #[.int .i64 x] 3)) w.heap.size 3 (.int .i64 x) (by simp; omega)
      rw [hW]
      simpa [M.encIs] using o1
    · rw [hW]; exact ((Box3.new _ _ _ _ rfl).alloc _).alloc _
  clear hW
  have ST0 := Lib.hid st0
  have hzw := hb.size
  clear st0 hb
  go_loopw [7, 8, 9, 10, 11, 12] (fun v7 v8 v9 _ _ _ wr => ∃ (n : Nat) (out list : List Int), v9 = .int .i64 n ∧ n ≤ list.length ∧ RSt w m a b c d x set wr v7 v8 out list ∧ M.Closed m.doors (M.openTo2 set) list n) (fun _ _ v9 _ _ _ _ => 12 - (intOf v9).toNat)
  case atStart => exact ⟨0, [x], [x], rfl, by simp, ST0.out, fun j hj => by omega⟩
  case round =>
    obtain ⟨n, out, list, rfl, hn, hst, hcl⟩ := hrel
    have hl12 := (HL.out _ _ hst.ok).1
    have ST := Lib.hid hst
    have CL := Lib.hid hcl
    obtain ⟨la, lc, hv8, hl1, hl2, hlm⟩ := own_slice hst.listm
    subst hv8
    clear hst hcl
    by_cases hnl : n < list.length
    · go_wp2_with fail
      refine wp_named ?_
      intro W1 hW1
      have hb1 : W1 = wr := by rw [hW1]
      clear hW1
      have ST1 : Hid (RSt w m a b c d x set W1 u7 (.slice la list.length lc) out list) := by rw [hb1]; exact ST
      clear hb1 ST
      obtain ⟨z, hzz⟩ : ∃ z, list[n]? = some z := ⟨_, List.getElem?_eq_getElem hnl⟩
      have HZZ := Lib.hid hzz
      clear hzz
      go_loopw [7, 8, 10, 11, 12] (fun v7 v8 v10 _ _ wr => ∃ (i : Nat) (out list' : List Int), v10 = .int .i64 i ∧ i ≤ m.doors.length ∧ n < list'.length ∧ list'[n]? = some z ∧ RSt w m a b c d x set wr v7 v8 out list' ∧ M.Closed m.doors (M.openTo2 set) list' n ∧ M.Part m.doors (M.openTo2 set) list' z i) (fun _ _ v10 _ _ _ => m.doors.length - (intOf v10).toNat)
      case atStart => exact ⟨0, out, list, rfl, Nat.zero_le _, hnl, HZZ.out, ST1.out, CL.out, M.Part.zero _ _ _ _⟩
      case round =>
        obtain ⟨i, out, list, rfl, hi, hnl', hzn, hst, hcl, hpt⟩ := hrel
        have hl12 := (HL.out _ _ hst.ok).1
        have ho12 := (HL.out _ _ hst.ok).2
        have CL2 := Lib.hid hcl
        have PT := Lib.hid hpt
        have ZN := Lib.hid hzn
        have STI := Lib.hid hst
        obtain ⟨g, goff, co, hv7, ho, ho1, ho2, hdis⟩ := hst.outm
        subst hv7
        have HOUT := Lib.hid ho
        have HDIS := Lib.hid hdis
        obtain ⟨la, lc, hv8, hl1, hl2, hlm⟩ := own_slice hst.listm
        subst hv8
        have hbx := hst.box
        have hbl := hbx.lt
        obtain ⟨x0, x1, x2⟩ := hbx.cells
        have hzr := hst.below.size
        have hrow := H.out.doors.below hst.below hz
        have hzval : 0 ≤ z ∧ z < m.size := M.rch_node HV.out ⟨hx0, hx1⟩ (hst.ok.reach z (List.mem_of_getElem? hzn))
        obtain ⟨hzv0, hzv1⟩ := hzval
        obtain ⟨lb, loff, hla, hlb1, hlb2, hlc⟩ := hlm.row.at_ (k := n) (by rw [M.encIs_len]; omega)
        subst hla
        have hne8 : list[n] = z := by
          have := List.getElem?_eq_getElem hnl'
          rw [this] at hzn
          injection hzn
        have pz : wr.cell? ⟨lb, loff + n, none⟩ = some (.int .i64 z) := by
          have := hlc n _ (M.encIs_at hnl')
          rwa [hne8] at this
        have PZ := Lib.hid pz
        clear hcl hpt hst hbx ho hdis hlm hlc hzn hne8
        by_cases hil : i < m.doors.length
        · obtain ⟨db, off, hda, _, hdb, hc0⟩ := hrow.at_ (k := i * 3) (by rw [M.encDs_len]; omega)
          subst hda
          have a0 := hc0 _ _ (M.encDs_at0 hil)
          have a1 : wr.cell? ⟨db, off + i * 3 + 1, none⟩ = some (.int .i64 m.doors[i].2.1) := hc0 _ _ (M.encDs_at1 hil)
          have a2 : wr.cell? ⟨db, off + i * 3 + 2, none⟩ = some (.int .i64 m.doors[i].2.2) := hc0 _ _ (M.encDs_at2 hil)
          obtain ⟨d1, d2, d3, d4, d5, d6, d7⟩ := HV.out.door i hil
          clear hc0 hrow pz
          go_wp2_with fail
          refine wp_named ?_
          intro W2 hW2
          have hb2 : Below wr.heap.size wr W2 := by rw [hW2]; exact below_alloc _ _
          have hdb3 : Box3 W2 wr.heap.size 103 (.int .i64 m.doors[i].1) (.int .i64 m.doors[i].2.1) (.int .i64 m.doors[i].2.2) := by rw [hW2]; exact Box3.new _ _ _ _ rfl
          clear hW2 a0 a1 a2 x0 x1 x2
          have HB2 := Lib.hid hb2
          have hzw2 := hb2.size
          have hdl := hdb3.lt
          have HD3 := Lib.hid hdb3
          obtain ⟨e0, e1, e2⟩ := hdb3.cells
          have E0 := cell_grown hdl e0
          have E1 := cell_grown hdl e1
          have E2 := cell_grown hdl e2
          have hlbw : lb < W2.heap.size := by omega
          have P0 := cell_grown (a := ⟨lb, loff + n, none⟩) hlbw ((hb2.cell (p := ⟨lb, loff + n, none⟩) hlb2).trans PZ.out)
          have mixed : Try.prog.follows .mixedOrders = true := by kernel_rfl
          have hnli : (n : Int) < (list.length : Int) := by omega
          clear hb2 hdb3 e0 e1 e2
          cases q1 : M.has2B set m.doors[i].2.2 with
          | false =>
            have OP : Hid (M.openTo2 set m.doors[i] = false) := Lib.hid q1
            refine wp_region_quiet_grown (by assumption) (by kernel_rfl) ?_
            repeat (first | go_big_quiet_step ((go_at_call 106; refine Calls.grown_of (same_grown (l2Has_any _ _ _)))) | quiet_step ((go_at_call 106; refine Calls.grown_of (same_grown (l2Has_any _ _ _)))))
            refine wpQuiet_nil ?_
            intro _ hw'
            obtain ⟨⟨nq, osq⟩, hw''⟩ := hw'
            subst hw''
            clear q1
            go_wp2_with fail
            go_roundw
            case rel => exact ⟨i + 1, out, list, by go_num, by omega, hnl', ZN.out, STI.out.later ((HB2.out).trans ((below_grown W2 nq osq).mono HB2.out.size)), CL2.out, PT.out.step hil (fun h => by rw [OP.out] at h; cases h)⟩
            case measure => simp [intOf]; omega
          | true =>
            have OP : Hid (M.openTo2 set m.doors[i] = true) := Lib.hid q1
            rcases Decidable.em (m.doors[i].1 = z) with t1 | t1
            · have g1 : (m.doors[i].1 != z) = false := by simpa using t1
              have ZD := Lib.hid t1
              clear t1
              refine wp_region_quiet_grown (by assumption) (by kernel_rfl) ?_
              repeat (first | go_big_quiet_step ((go_at_call 106; refine Calls.grown_of (same_grown (l2Has_any _ _ _)))) | quiet_step ((go_at_call 106; refine Calls.grown_of (same_grown (l2Has_any _ _ _)))))
              refine wpQuiet_nil ?_
              intro _ hw'
              obtain ⟨⟨nq, osq⟩, hw''⟩ := hw'
              subst hw''
              go_wp2_with fail
              refine wp_named ?_
              intro W3 hW3
              have hb3 : Below W2.heap.size W2 W3 := by rw [hW3]; exact below_grown W2 _ _
              clear hW3 E0 E1 E2 P0
              have HB3 := Lib.hid (HB2.out.trans (hb3.mono HB2.out.size))
              have hz3 := hb3.size
              have hdb := HD3.out.below hb3
              obtain ⟨e0, e1', e2⟩ := hdb.cells
              have hdl3 := hdb.lt
              have hlb3 : lb < W3.heap.size := by omega
              have E0 := cell_grown hdl3 e0
              have E1 := cell_grown hdl3 e1'
              have E2 := cell_grown hdl3 e2
              have P0 := cell_grown (a := ⟨lb, loff + n, none⟩) hlb3 ((HB3.out.cell (p := ⟨lb, loff + n, none⟩) (by show lb < _; omega)).trans PZ.out)
              have hw1 : IntKind.i64.wrap (m.doors[i].1 + m.doors[i].2.1) = m.doors[i].1 + m.doors[i].2.1 := IntWalk.i64_in _ (by omega)
              have hw2 : IntKind.i64.wrap (m.doors[i].1 + m.doors[i].2.1 - z) = m.doors[i].2.1 := by rw [IntWalk.i64_in _ (by omega)]; have := ZD.out; omega
              clear hb3 hdb e0 e1' e2
              refine wp_region_quiet_grown (by assumption) (by kernel_rfl) ?_
              repeat (first | go_big_quiet_step (fail) | quiet_step (fail))
              refine wpQuiet_nil ?_
              intro _ hw'
              obtain ⟨⟨nq3, osq3⟩, hw''⟩ := hw'
              subst hw''
              go_wp2_with fail
              refine named ?_
              intro W4 hW4
              have hb4 : Below W3.heap.size W3 W4 := by rw [hW4]; exact below_grown W3 _ _
              clear hW4 E0 E1 E2 P0 hw1 hw2
              have HB4 := Lib.hid (HB3.out.trans (hb4.mono HB3.out.size))
              have hz4 := hb4.size
              clear hb4
              refine (l1Has_any W4 _ _ _ co out m.doors[i].2.1 ((HOUT.out.row).below HB4.out (Nat.le_refl _)) (by omega)).mono ?_
              rintro e w5 ⟨rfl, rfl⟩
              cases hm : M.memB out m.doors[i].2.1 with
              | true =>
                have HM := Lib.hid (M.memB_true hm)
                clear hm
                go_wp2_with fail
                go_roundw
                case rel => exact ⟨i + 1, out, list, by go_num, by omega, hnl', ZN.out, STI.out.later HB4.out, CL2.out, PT.out.step hil (fun _ => ⟨fun _ => (STI.out.ok.same _).1 HM.out, fun e => absurd e (by have := ZD.out; omega)⟩)⟩
                case measure => simp [intOf]; omega
              | false =>
                have HM := Lib.hid (M.memB_false hm)
                clear hm
                go_wp2_with fail
                have hone : out ≠ [] := fun e => by
                  have hx := (STI.out.ok.same x).2 STI.out.ok.first
                  rw [e] at hx
                  cases hx
                refine (l1Put_any W4 _ _ g goff co out m.doors[i].2.1 ((HOUT.out.row).below HB4.out (Nat.le_refl _)) hone HM.out (by omega) (by omega) ho1 ho2).mono ?_
                rintro e w6 ⟨pa, pc, rfl, hp, hp1, hp2, hb6⟩
                have HB6 := Lib.hid (HB4.out.trans (hb6.mono HB4.out.size))
                have hz6 := hb6.size
                have hown6 := own_below STI.out.listm HB6.out
                have HX6 := STI.out.box.below HB6.out
                have hok := STI.out.ok.step HM.out (M.Rch.fwd (List.getElem_mem hil) OP.out (by rw [ZD.out]; exact STI.out.ok.reach z (List.mem_of_getElem? ZN.out)))
                have hpl : 0 < (M.put M.ltI out m.doors[i].2.1).length := List.length_pos_iff.2 (fun e => by have := (M.mem_put (lt := M.ltI) (l := out) (d := m.doors[i].2.1) (x := m.doors[i].2.1)).2 (.inr rfl); rw [e] at this; cases this)
                obtain ⟨pg, poff, hpa, hpg1, hpg2, _⟩ := hp.row.at_ (k := 0) (by rw [M.encIs_len]; exact hpl)
                subst hpa
                have hlt8 : ∀ k, (Value.slice (some ⟨lb, loff, none⟩) list.length lc).ownBlock = some k → k < W4.heap.size := fun k hk => Nat.lt_of_lt_of_le (STI.out.listm.lt k hk).2 HB4.out.size
                have HLT := Lib.hid hlt8
                have HNE := Lib.hid (own_ne_box hown6 HX6 (by decide))
                have HOK := Lib.hid hok
                have HPP := Lib.hid hp
                have HXX := Lib.hid HX6
                clear hone hb6 HX6 hok hlt8 hp
                go_wp2_with (at_builtin; refine wpList_append_own_at _ rfl _ _ 39 rfl w.heap.size 3 i0 (.int .i64 0) 1 8 Try.underlying39 hi0 hz0 hz1 hz2 rfl (by decide) _ _ _ rfl (hown6.alloc _) ⟨w6.heap.size, 0, none⟩ 1 1 [.int .i64 m.doors[i].2.1] rfl rfl (cell_one_new _ _ _) (fun x hx => by simp at hx; subst hx; rfl) (by unfold maxLen; omega) (by omega) (by simp; omega) ?_; intro v' w7 hown' hgrow7 hnil7 hat7)
                go_roundw
                case rel =>
                  have hngr : (Value.slice (some ⟨lb, loff, none⟩) list.length lc).ownBlock ≠ some pg := fun e => by have := HLT.out pg e; omega
                  have hb67 : ∀ k, k < w6.heap.size → (Value.slice (some ⟨lb, loff, none⟩) list.length lc).ownBlock ≠ some k → w7.heap[k]? = w6.heap[k]? := fun k hk hne => (hgrow7.block k (by simp; omega) (fun e => hne e.symm)).trans (Below.heap_alloc w6 _ k hk)
                  have hs7 := hgrow7.size
                  rw [World.size_alloc] at hs7
                  refine ⟨i + 1, M.put M.ltI out m.doors[i].2.1, list ++ [m.doors[i].2.1], by go_num, by omega, by rw [List.length_append]; omega, by rw [List.getElem?_append_left (by omega)]; exact ZN.out, ⟨HOK.out, ⟨pg, poff, pc, rfl, ?_, hp1, hp2, ?_⟩, ?_, ?_, ?_⟩, CL2.out.grow (by omega) _, (PT.out.grow _).step hil (fun _ => ⟨fun _ => List.mem_append_right _ (List.mem_singleton.2 rfl), fun e => absurd e (by have := ZD.out; omega)⟩)⟩
                  · rcases HPP.out with e | ⟨g9, o9, cur, e9, q1, q2, hh, hc⟩
                    · exact .inl e
                    · injection e9 with e9
                      injection e9 with e91 e92 _
                      subst e91; subst e92
                      exact .inr ⟨pg, poff, cur, rfl, by omega, by omega, (hb67 pg hpg2 hngr).trans hh, hc⟩
                  · rcases hat7 with h | h
                    · rw [h]; exact hngr
                    · rw [h]; intro e; injection e with e; rw [World.size_alloc] at e; omega
                  · have := hown'
                    rw [List.length_append, M.encIs_append]
                    exact this
                  · exact (HXX.out.alloc _).grown hgrow7 HNE.out
                  · exact ((STI.out.below.trans (HB6.out.mono STI.out.below.size)).alloc (by have := STI.out.below.size; omega) _).grown hgrow7 (by have := STI.out.below.size; simp; omega) (own_base hown6)
                case measure => simp [intOf]; omega
            · rcases Decidable.em (m.doors[i].2.1 = z) with t2 | t2
              · have g1 : (m.doors[i].1 != z) = true := by simpa using t1
                have g2 : (m.doors[i].2.1 != z) = false := by simpa using t2
                have ZD := Lib.hid t2
                clear t2
                refine wp_region_quiet_grown (by assumption) (by kernel_rfl) ?_
                repeat (first | go_big_quiet_step ((go_at_call 106; refine Calls.grown_of (same_grown (l2Has_any _ _ _)))) | quiet_step ((go_at_call 106; refine Calls.grown_of (same_grown (l2Has_any _ _ _)))))
                refine wpQuiet_nil ?_
                intro _ hw'
                obtain ⟨⟨nq, osq⟩, hw''⟩ := hw'
                subst hw''
                go_wp2_with fail
                refine wp_named ?_
                intro W3 hW3
                have hb3 : Below W2.heap.size W2 W3 := by rw [hW3]; exact below_grown W2 _ _
                clear hW3 E0 E1 E2 P0
                have HB3 := Lib.hid (HB2.out.trans (hb3.mono HB2.out.size))
                have hz3 := hb3.size
                have hdb := HD3.out.below hb3
                obtain ⟨e0, e1', e2⟩ := hdb.cells
                have hdl3 := hdb.lt
                have hlb3 : lb < W3.heap.size := by omega
                have E0 := cell_grown hdl3 e0
                have E1 := cell_grown hdl3 e1'
                have E2 := cell_grown hdl3 e2
                have P0 := cell_grown (a := ⟨lb, loff + n, none⟩) hlb3 ((HB3.out.cell (p := ⟨lb, loff + n, none⟩) (by show lb < _; omega)).trans PZ.out)
                have hw1 : IntKind.i64.wrap (m.doors[i].1 + m.doors[i].2.1) = m.doors[i].1 + m.doors[i].2.1 := IntWalk.i64_in _ (by omega)
                have hw2 : IntKind.i64.wrap (m.doors[i].1 + m.doors[i].2.1 - z) = m.doors[i].1 := by rw [IntWalk.i64_in _ (by omega)]; have := ZD.out; omega
                clear hb3 hdb e0 e1' e2
                refine wp_region_quiet_grown (by assumption) (by kernel_rfl) ?_
                repeat (first | go_big_quiet_step (fail) | quiet_step (fail))
                refine wpQuiet_nil ?_
                intro _ hw'
                obtain ⟨⟨nq3, osq3⟩, hw''⟩ := hw'
                subst hw''
                go_wp2_with fail
                refine named ?_
                intro W4 hW4
                have hb4 : Below W3.heap.size W3 W4 := by rw [hW4]; exact below_grown W3 _ _
                clear hW4 E0 E1 E2 P0 hw1 hw2
                have HB4 := Lib.hid (HB3.out.trans (hb4.mono HB3.out.size))
                have hz4 := hb4.size
                clear hb4
                refine (l1Has_any W4 _ _ _ co out m.doors[i].1 ((HOUT.out.row).below HB4.out (Nat.le_refl _)) (by omega)).mono ?_
                rintro e w5 ⟨rfl, rfl⟩
                cases hm : M.memB out m.doors[i].1 with
                | true =>
                  have HM := Lib.hid (M.memB_true hm)
                  clear hm
                  go_wp2_with fail
                  go_roundw
                  case rel => exact ⟨i + 1, out, list, by go_num, by omega, hnl', ZN.out, STI.out.later HB4.out, CL2.out, PT.out.step hil (fun _ => ⟨fun e => absurd e (by have := ZD.out; omega), fun _ => (STI.out.ok.same _).1 HM.out⟩)⟩
                  case measure => simp [intOf]; omega
                | false =>
                  have HM := Lib.hid (M.memB_false hm)
                  clear hm
                  go_wp2_with fail
                  have hone : out ≠ [] := fun e => by
                    have hx := (STI.out.ok.same x).2 STI.out.ok.first
                    rw [e] at hx
                    cases hx
                  refine (l1Put_any W4 _ _ g goff co out m.doors[i].1 ((HOUT.out.row).below HB4.out (Nat.le_refl _)) hone HM.out (by omega) (by omega) ho1 ho2).mono ?_
                  rintro e w6 ⟨pa, pc, rfl, hp, hp1, hp2, hb6⟩
                  have HB6 := Lib.hid (HB4.out.trans (hb6.mono HB4.out.size))
                  have hz6 := hb6.size
                  have hown6 := own_below STI.out.listm HB6.out
                  have HX6 := STI.out.box.below HB6.out
                  have hok := STI.out.ok.step HM.out (M.Rch.bwd (List.getElem_mem hil) OP.out (by rw [ZD.out]; exact STI.out.ok.reach z (List.mem_of_getElem? ZN.out)))
                  have hpl : 0 < (M.put M.ltI out m.doors[i].1).length := List.length_pos_iff.2 (fun e => by have := (M.mem_put (lt := M.ltI) (l := out) (d := m.doors[i].1) (x := m.doors[i].1)).2 (.inr rfl); rw [e] at this; cases this)
                  obtain ⟨pg, poff, hpa, hpg1, hpg2, _⟩ := hp.row.at_ (k := 0) (by rw [M.encIs_len]; exact hpl)
                  subst hpa
                  have hlt8 : ∀ k, (Value.slice (some ⟨lb, loff, none⟩) list.length lc).ownBlock = some k → k < W4.heap.size := fun k hk => Nat.lt_of_lt_of_le (STI.out.listm.lt k hk).2 HB4.out.size
                  have HLT := Lib.hid hlt8
                  have HNE := Lib.hid (own_ne_box hown6 HX6 (by decide))
                  have HOK := Lib.hid hok
                  have HPP := Lib.hid hp
                  have HXX := Lib.hid HX6
                  clear hone hb6 HX6 hok hlt8 hp
                  go_wp2_with (at_builtin; refine wpList_append_own_at _ rfl _ _ 39 rfl w.heap.size 3 i0 (.int .i64 0) 1 8 Try.underlying39 hi0 hz0 hz1 hz2 rfl (by decide) _ _ _ rfl (hown6.alloc _) ⟨w6.heap.size, 0, none⟩ 1 1 [.int .i64 m.doors[i].1] rfl rfl (cell_one_new _ _ _) (fun x hx => by simp at hx; subst hx; rfl) (by unfold maxLen; omega) (by omega) (by simp; omega) ?_; intro v' w7 hown' hgrow7 hnil7 hat7)
                  go_roundw
                  case rel =>
                    have hngr : (Value.slice (some ⟨lb, loff, none⟩) list.length lc).ownBlock ≠ some pg := fun e => by have := HLT.out pg e; omega
                    have hb67 : ∀ k, k < w6.heap.size → (Value.slice (some ⟨lb, loff, none⟩) list.length lc).ownBlock ≠ some k → w7.heap[k]? = w6.heap[k]? := fun k hk hne => (hgrow7.block k (by simp; omega) (fun e => hne e.symm)).trans (Below.heap_alloc w6 _ k hk)
                    have hs7 := hgrow7.size
                    rw [World.size_alloc] at hs7
                    refine ⟨i + 1, M.put M.ltI out m.doors[i].1, list ++ [m.doors[i].1], by go_num, by omega, by rw [List.length_append]; omega, by rw [List.getElem?_append_left (by omega)]; exact ZN.out, ⟨HOK.out, ⟨pg, poff, pc, rfl, ?_, hp1, hp2, ?_⟩, ?_, ?_, ?_⟩, CL2.out.grow (by omega) _, (PT.out.grow _).step hil (fun _ => ⟨fun e => absurd e (by have := ZD.out; omega), fun _ => List.mem_append_right _ (List.mem_singleton.2 rfl)⟩)⟩
                    · rcases HPP.out with e | ⟨g9, o9, cur, e9, q1, q2, hh, hc⟩
                      · exact .inl e
                      · injection e9 with e9
                        injection e9 with e91 e92 _
                        subst e91; subst e92
                        exact .inr ⟨pg, poff, cur, rfl, by omega, by omega, (hb67 pg hpg2 hngr).trans hh, hc⟩
                    · rcases hat7 with h | h
                      · rw [h]; exact hngr
                      · rw [h]; intro e; injection e with e; rw [World.size_alloc] at e; omega
                    · have := hown'
                      rw [List.length_append, M.encIs_append]
                      exact this
                    · exact (HXX.out.alloc _).grown hgrow7 HNE.out
                    · exact ((STI.out.below.trans (HB6.out.mono STI.out.below.size)).alloc (by have := STI.out.below.size; omega) _).grown hgrow7 (by have := STI.out.below.size; simp; omega) (own_base hown6)
                  case measure => simp [intOf]; omega
              · have g1 : (m.doors[i].1 != z) = true := by simpa using t1
                have g2 : (m.doors[i].2.1 != z) = true := by simpa using t2
                refine wp_region_quiet_grown (by assumption) (by kernel_rfl) ?_
                repeat (first | go_big_quiet_step ((go_at_call 106; refine Calls.grown_of (same_grown (l2Has_any _ _ _)))) | quiet_step ((go_at_call 106; refine Calls.grown_of (same_grown (l2Has_any _ _ _)))))
                refine wpQuiet_nil ?_
                intro _ hw'
                obtain ⟨⟨nq, osq⟩, hw''⟩ := hw'
                subst hw''
                go_wp2_with fail
                go_roundw
                case rel => exact ⟨i + 1, out, list, by go_num, by omega, hnl', ZN.out, STI.out.later ((HB2.out).trans ((below_grown W2 nq osq).mono HB2.out.size)), CL2.out, PT.out.step hil (fun _ => ⟨fun e => absurd e t1, fun e => absurd e t2⟩)⟩
                case measure => simp [intOf]; omega
        · obtain rfl : i = m.doors.length := by omega
          go_wp2_with fail
          go_roundw
          case rel => exact ⟨n + 1, out, list, by go_num, by omega, STI.out, CL2.out.step ZN.out PT.out⟩
          case measure => simp [intOf]; omega
    · obtain rfl : n = list.length := by omega
      have HR : Hid (out = M.reachOf m x set) := Lib.hid (M.reach_list HV.out h0 h1 ⟨hx0, hx1⟩ ST.out.ok (M.Closed.all CL.out))
      obtain ⟨g, off, co, hv7, ho, ho1, ho2, _⟩ := ST.out.outm
      subst hv7
      have HO := Lib.hid ho
      clear ho
      go_wp2_with fail
      go_ret
      rw [← HR.out]
      exact ⟨_, _, rfl, HO.out, ho1, ho2, ST.out.below⟩
end C
end Go.Proofs.Ytbcobheiofajeaa
namespace Go.Proofs.Ytbcobheiofajeaa
open Go.RowKit
namespace C
set_option maxHeartbeats 3200000
set_option maxRecDepth 20000
def ClosePost (w : World) (s : Int) (l : List Int) (e : Ending) (w' : World) : Prop :=
  ∃ a c, e = .returned (.tuple #[.int .i64 s, .slice a l.length c]) ∧ OwnAt w.heap.size w'.heap.size w' 3 a (M.encIs l) ∧ l.length ≤ c ∧ c ≤ 9223372036854775807 ∧ Below w.heap.size w w'
end C
end Go.Proofs.Ytbcobheiofajeaa
namespace Go.Proofs.Ytbcobheiofajeaa
open Go.RowKit
namespace C
def sliceL : Value → Nat
  | .slice _ n _ => n
  | _ => 0
set_option maxHeartbeats 3200000
set_option maxRecDepth 20000
end C
end Go.Proofs.Ytbcobheiofajeaa
namespace Go.Proofs.Ytbcobheiofajeaa
open Go.RowKit
namespace C
set_option maxHeartbeats 3200000
set_option maxRecDepth 20000
theorem made_zero (n : Nat) : (madeCells (Value.int .i64 0).cells (n * 1)).toList = M.encIs (List.replicate n 0) := by
  refine List.ext_getElem? fun k => ?_
  unfold madeCells M.encIs
  rcases Nat.lt_or_ge k n with h | h
  · simp [h, Value.cells, Nat.mod_one]
  · simp [h]
theorem make_run {i : TypeInfo} (hi : Try.prog.info? 3 = some i) (hz : i.zero = some (.int .i64 0)) (hs : i.size = 1) (hb : i.bytes = 8) {x : Int} {n : Nat} (hx : x = (n : Int)) (hn : n ≤ 1000) : ∃ zs : Array Value, zs.size = n ∧ zs.toList = M.encIs (List.replicate n 0) ∧ ∀ w : World,
    (Instr.makeSlice 39 (.int .i64 x) (.int .i64 x)).run Try.prog w = .ok (.slice (some ⟨w.heap.size, 0, none⟩) n n) (w.alloc (.cells zs 3)) := by
  subst hx
  refine ⟨madeCells (Value.int .i64 0).cells (n * 1), by rw [size_madeCells]; omega, made_zero n, fun w => ?_⟩
  have := run_make (P := Try.prog) w 39 3 i (.int .i64 0) Try.underlying39 hi hz .i64 .i64 n n (by omega) (Int.le_refl _) (by rw [hb]; omega) (by omega)
  rw [Int.toNat_natCast, hs] at this
  exact this
theorem own_made {w : World} {B n : Nat} {zs : Array Value} (hs : zs.size = n) (hn : n ≤ 1000) (hB : B ≤ w.heap.size) : (w.alloc (.cells zs 3)).ownsRow B 3 1 (.slice (some ⟨w.heap.size, 0, none⟩) n n) n zs.toList :=
  ⟨by simp [hs], .inr ⟨w.heap.size, n, zs, rfl, hB, heap_alloc_new w _, Nat.le_refl _, by unfold maxLen; omega, by simp [hs], by rw [List.take_of_length_le (by simp [hs])]⟩⟩
/-- a row at its block's head lies in that block -/
theorem OwnAt.of_own0 {w : World} {base size n c g : Nat} {T : TypeId} {xs : List Value} (h : w.ownsRow base T size (.slice (some ⟨g, 0, none⟩) n c) n xs) : OwnAt g (g + 1) w T (some ⟨g, 0, none⟩) xs := by
  rcases OwnAt.of_own h with h | ⟨b, off, cur, ha, _, _, hh, hc⟩
  · exact .inl h
  · injection ha with ha
    injection ha with e1 e2 _
    subst e1; subst e2
    exact .inr ⟨g, 0, cur, rfl, Nat.le_refl _, Nat.lt_succ_self _, hh, hc⟩
end C
end Go.Proofs.Ytbcobheiofajeaa
namespace Go.Proofs.Ytbcobheiofajeaa
open Go.RowKit
namespace C
set_option maxHeartbeats 1600000
set_option maxRecDepth 20000
def BoolsPost (w : World) (r ok : Bool) (e : Ending) (w' : World) : Prop := e = .returned (.tuple #[.bool r, .bool ok]) ∧ Below w.heap.size w w'
def GainPost (w : World) (s : Int) (l : List Int) (ok : Bool) (e : Ending) (w' : World) : Prop :=
  ∃ a c, e = .returned (.tuple #[.int .i64 s, .slice a l.length c, .bool ok]) ∧ OwnAt w.heap.size w'.heap.size w' 3 a (M.encIs l) ∧ l.length ≤ c ∧ c ≤ 9223372036854775807 ∧ Below w.heap.size w w'
end C
end Go.Proofs.Ytbcobheiofajeaa
namespace Go.Proofs.Ytbcobheiofajeaa
open Go.RowKit
namespace M
theorem SubS.orL {s t u : Int} (hs : 0 ≤ s ∧ s < 64) (ht : 0 ≤ t ∧ t < 64) (hu : 0 ≤ u ∧ u < 64) (h1 : SubS s u) (h2 : SubS t u) : SubS (bits .or .i64 s t) u := by
  obtain ⟨a, rfl⟩ : ∃ a : Nat, s = a := ⟨s.toNat, by omega⟩
  obtain ⟨b, rfl⟩ : ∃ b : Nat, t = b := ⟨t.toNat, by omega⟩
  obtain ⟨c, rfl⟩ : ∃ c : Nat, u = c := ⟨u.toNat, by omega⟩
  rw [sub_nat (by omega) (by omega)] at h1 h2
  have ho := or_set hs.1 hs.2 ht.1 ht.2
  rw [or_nat (by omega) (by omega)] at ho ⊢
  rw [sub_nat (by omega) (by omega), Nat.and_or_distrib_left, h1, h2]
theorem gath_least {m : Mz} (V : Valid m) {u : Int} (hu : 0 ≤ u ∧ u < 64) : ∀ (l : List Int) (s : Int), 0 ≤ s ∧ s < 64 → SubS s u → (∀ x ∈ l, SubS (m.keys.getD x.toNat 0) u) → SubS (gath m l s) u
  | [], _, _, h, _ => h
  | x :: l, s, hs, h, hl => by
    have hk := key_set V x.toNat
    exact gath_least V hu l _ (or_set hs.1 hs.2 hk.1 hk.2) (SubS.orL hs hk hu h (hl x (by simp))) fun y hy => hl y (List.mem_cons_of_mem _ hy)
theorem SubS.orR {s t : Int} (hs : 0 ≤ s ∧ s < 64) (ht : 0 ≤ t ∧ t < 64) : SubS t (bits .or .i64 s t) := by
  obtain ⟨a, rfl⟩ : ∃ a : Nat, s = a := ⟨s.toNat, by omega⟩
  obtain ⟨b, rfl⟩ : ∃ b : Nat, t = b := ⟨t.toNat, by omega⟩
  have ho := or_set hs.1 hs.2 ht.1 ht.2
  rw [or_nat (by omega) (by omega)] at ho ⊢
  rw [sub_nat (by omega) (by omega)]
  refine Nat.eq_of_testBit_eq fun i => ?_
  rw [Nat.testBit_and, Nat.testBit_or]
  cases a.testBit i <;> cases b.testBit i <;> rfl
theorem gath_key {m : Mz} (V : Valid m) : ∀ (l : List Int) (s : Int), 0 ≤ s ∧ s < 64 → ∀ x ∈ l, SubS (m.keys.getD x.toNat 0) (gath m l s)
  | y :: l, s, hs, x, hx => by
    have hk := key_set V y.toNat
    have ho := or_set hs.1 hs.2 hk.1 hk.2
    rcases List.mem_cons.1 hx with rfl | hx
    · exact (SubS.orR hs hk).trans hk ho (gath_set V l _ ho).1 (gath_set V l _ ho).2
    · exact gath_key V l _ ho x hx
end M
end Go.Proofs.Ytbcobheiofajeaa
namespace Go.Proofs.Ytbcobheiofajeaa
open Go.RowKit
namespace M
/-- m' has no more than m -/
structure LessM (m' m : Mz) : Prop where
  size : m'.size = m.size
  doors : ∀ d ∈ m'.doors, d ∈ m.doors
  keys : ∀ k : Nat, SubS (m'.keys.getD k 0) (m.keys.getD k 0)
theorem Rch.more {ds ds' : List Dr} {op : Dr → Bool} {x y : Int} (hd : ∀ d ∈ ds, d ∈ ds') (h : Rch ds op x y) : Rch ds' op x y := by
  induction h with
  | refl => exact .refl
  | fwd h1 h2 _ ih => exact .fwd (hd _ h1) h2 ih
  | bwd h1 h2 _ ih => exact .bwd (hd _ h1) h2 ih
theorem less_reach {m' m : Mz} (V' : Valid m') (V : Valid m) (L : LessM m' m) {s t : Int} (hs : 0 ≤ s ∧ s < 64) (ht : 0 ≤ t ∧ t < 64) (h : SubS s t) {y : Int} (hy : y ∈ reachOf m' 0 s) : y ∈ reachOf m 0 t :=
  (mem_reach V t y).2 (Rch.mono (open_more V hs ht h) (Rch.more L.doors ((mem_reach V' s y).1 hy)))
theorem finC_set {m : Mz} (V : Valid m) {s : Int} (h : 0 ≤ s ∧ s < 64) : 0 ≤ finC m s ∧ finC m s < 64 := it_set V h _
theorem finC_fix {m : Mz} (V : Valid m) {s : Int} (h : 0 ≤ s ∧ s < 64) : nextC m (finC m s) = finC m s := (lastK_stop V h).1
theorem finC_from {m : Mz} (V : Valid m) {s : Int} (h : 0 ≤ s ∧ s < 64) : SubS s (finC m s) := by
  have := it_more V h 0 (lastK m s)
  rw [Nat.zero_add] at this
  exact this
theorem it_less {m' m : Mz} (V' : Valid m') (V : Valid m) (L : LessM m' m) {s : Int} (h : 0 ≤ s ∧ s < 64) : ∀ k, SubS (it m' s k) (finC m s)
  | 0 => finC_from V h
  | k + 1 => by
    have hf := finC_set V h
    have hk := it_set V' h k
    refine gath_least V' hf _ _ hk (it_less V' V L h k) fun x hx => ?_
    have hx' := less_reach V' V L hk hf (it_less V' V L h k) hx
    have h1 := gath_key V (reachOf m 0 (finC m s)) (finC m s) hf x hx'
    have h2 : gath m (reachOf m 0 (finC m s)) (finC m s) = finC m s := finC_fix V h
    rw [h2] at h1
    exact (L.keys x.toNat).trans (key_set V' _) (key_set V _) hf h1
theorem finC_less {m' m : Mz} (V' : Valid m') (V : Valid m) (L : LessM m' m) {s : Int} (h : 0 ≤ s ∧ s < 64) : SubS (finC m' s) (finC m s) := it_less V' V L h _
theorem nodes_less {m' m : Mz} (V' : Valid m') (V : Valid m) (L : LessM m' m) {s : Int} (h : 0 ≤ s ∧ s < 64) {y : Int} (hy : y ∈ reachOf m' 0 (finC m' s)) : y ∈ reachOf m 0 (finC m s) :=
  less_reach V' V L (finC_set V' h) (finC_set V h) (finC_less V' V L h) hy
theorem noNode_less (m : Mz) (V : Valid m) (x : Int) : LessM (noNode m x) m := ⟨rfl, fun _ hd => (List.mem_filter.1 hd).1, fun k => SubS.refl (key_set V k)⟩
theorem less_sub_fin : ∀ s t : Fin 64, has2B (s.val : Int) (lessS (s.val : Int) (t.val : Int)) = true := by decide +kernel
theorem less_sub {s t : Int} (hs : 0 ≤ s ∧ s < 64) (ht : 0 ≤ t ∧ t < 64) : SubS (lessS s t) s := by
  have := less_sub_fin ⟨s.toNat, by omega⟩ ⟨t.toNat, by omega⟩
  simp only [Int.toNat_of_nonneg hs.1, Int.toNat_of_nonneg ht.1] at this
  exact this
theorem noSet_key (m : Mz) (t : Int) (k : Nat) (h0 : lessS 0 t = 0) : (noSet m t).keys.getD k 0 = lessS (m.keys.getD k 0) t := by
  unfold noSet
  simp only [List.getD_eq_getElem?_getD, List.getElem?_map]
  cases m.keys[k]? with
  | none => simp [h0]
  | some v => rfl
theorem less0_fin : ∀ t : Fin 64, lessS 0 (t.val : Int) = 0 := by decide +kernel
theorem less0 {t : Int} (ht : 0 ≤ t ∧ t < 64) : lessS 0 t = 0 := by
  have := less0_fin ⟨t.toNat, by omega⟩
  simp only [Int.toNat_of_nonneg ht.1] at this
  exact this
theorem noSet_less {m : Mz} (V : Valid m) {t : Int} (ht : 0 ≤ t ∧ t < 64) : LessM (noSet m t) m := ⟨rfl, fun _ hd => hd, fun k => by rw [noSet_key m t k (less0 ht)]; exact less_sub (key_set V k) ht⟩
theorem noKeys_key (m : Mz) (x k : Nat) : (noKeys m x).keys.getD k 0 = if k = x then 0 else m.keys.getD k 0 := by
  unfold noKeys
  simp only [List.getD_eq_getElem?_getD, List.getElem?_set]
  by_cases e : x = k
  · subst e
    rw [if_pos rfl, if_pos rfl]
    split <;> rfl
  · rw [if_neg e, if_neg (fun e2 => e e2.symm)]
theorem sub0_fin : ∀ s : Fin 64, has2B (s.val : Int) 0 = true := by decide +kernel
theorem noKeys_less {m : Mz} (V : Valid m) (x : Nat) : LessM (noKeys m x) m := ⟨rfl, fun _ hd => hd, fun k => by
  rw [noKeys_key]
  split
  · have hk := key_set V k
    have := sub0_fin ⟨(m.keys.getD k 0).toNat, by omega⟩
    simp only [Int.toNat_of_nonneg hk.1] at this
    exact this
  · exact SubS.refl (key_set V k)⟩
/-- a colour that is nowhere is not had -/
def NoBit (c : Int) (s : Int) : Prop := bits .and .i64 s c = 0
theorem or_and_fin : ∀ s t : Fin 64, ∀ c : Fin 6, bits .and .i64 (s.val : Int) ((2 ^ c.val : Nat) : Int) = 0 → bits .and .i64 (t.val : Int) ((2 ^ c.val : Nat) : Int) = 0 → bits .and .i64 (bits .or .i64 (s.val : Int) (t.val : Int)) ((2 ^ c.val : Nat) : Int) = 0 := by
  intro s t c h1 h2
  have hp : 2 ^ c.val < 64 := by
    have : c.val < 6 := c.isLt
    rcases c with ⟨c, hc⟩
    simp only
    match c, hc with
    | 0, _ => decide
    | 1, _ => decide
    | 2, _ => decide
    | 3, _ => decide
    | 4, _ => decide
    | 5, _ => decide
  have ho := or_set (s := (s.val : Int)) (t := (t.val : Int)) (by omega) (by omega) (by omega) (by omega)
  rw [and_nat s.isLt hp] at h1
  rw [and_nat t.isLt hp] at h2
  rw [or_nat s.isLt t.isLt] at ho ⊢
  rw [and_nat (by omega) hp, Nat.and_or_distrib_right]
  have e1 : s.val &&& 2 ^ c.val = 0 := by omega
  have e2 : t.val &&& 2 ^ c.val = 0 := by omega
  rw [e1, e2]
  rfl
theorem NoBit.or {c : Nat} (hc : c < 6) {s t : Int} (hs : 0 ≤ s ∧ s < 64) (ht : 0 ≤ t ∧ t < 64) (h1 : NoBit ((2 ^ c : Nat) : Int) s) (h2 : NoBit ((2 ^ c : Nat) : Int) t) : NoBit ((2 ^ c : Nat) : Int) (bits .or .i64 s t) := by
  unfold NoBit at *
  have := or_and_fin ⟨s.toNat, by omega⟩ ⟨t.toNat, by omega⟩ ⟨c, hc⟩
  simp only [Int.toNat_of_nonneg hs.1, Int.toNat_of_nonneg ht.1] at this
  exact this h1 h2
theorem gath_no {m : Mz} (V : Valid m) {c : Nat} (hc : c < 6) (hk : ∀ k : Nat, NoBit ((2 ^ c : Nat) : Int) (m.keys.getD k 0)) : ∀ (l : List Int) (s : Int), 0 ≤ s ∧ s < 64 → NoBit ((2 ^ c : Nat) : Int) s → NoBit ((2 ^ c : Nat) : Int) (gath m l s)
  | [], _, _, h => h
  | _ :: l, _, hs, h => gath_no V hc hk l _ (or_set hs.1 hs.2 (key_set V _).1 (key_set V _).2) (NoBit.or hc hs (key_set V _) h (hk _))
theorem finC_no {m : Mz} (V : Valid m) {c : Nat} (hc : c < 6) (hk : ∀ k : Nat, NoBit ((2 ^ c : Nat) : Int) (m.keys.getD k 0)) : NoBit ((2 ^ c : Nat) : Int) (finC m 0) := by
  have h0 : (0 : Int) ≤ 0 ∧ (0 : Int) < 64 := by decide
  have : ∀ k, NoBit ((2 ^ c : Nat) : Int) (it m 0 k) := fun k => by
    induction k with
    | zero =>
      show bits .and .i64 0 ((2 ^ c : Nat) : Int) = 0
      match c, hc with
      | 0, _ => decide
      | 1, _ => decide
      | 2, _ => decide
      | 3, _ => decide
      | 4, _ => decide
      | 5, _ => decide
    | succ k ih => exact gath_no V hc hk _ _ (it_set V h0 k) ih
  exact this _
end M
end Go.Proofs.Ytbcobheiofajeaa
