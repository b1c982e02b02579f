/-
  CONTRACTS of the laws' own helpers over works: toWorks gives a copy of its own, eqWorks says yes of two that read alike. Condition: at most 1048576 gates and pulls.
-/
import Derived.Test.YtdgfceiobpnchaaWkO
import Derived.Test.YtdgfceiobpnchaaInts
import Derived.Deep.RegionWith
namespace Go.Proofs.Ytdgfceiobpnchaa
open Go.RowKit
namespace C
theorem infoG : (Try.prog.info? 67).map (fun i => (i.zero, i.size, i.bytes)) = some (some (.agg #[.int .i64 0, .int .i64 0, .int .i64 0, .int .i64 0]), 4, 32) := by kernel_rfl

set_option maxHeartbeats 800000
set_option maxRecDepth 20000
/-- an array of three is copied -/
theorem toGate_any (w : World) (d : M.Gt) : Calls Try.prog 107 #[.agg #[.int .i64 d.1, .int .i64 d.2.1, .int .i64 d.2.2.1, .int .i64 d.2.2.2]] w fun e w' => e = .returned (.agg #[.int .i64 d.1, .int .i64 d.2.1, .int .i64 d.2.2.1, .int .i64 d.2.2.2]) ∧ Below w.heap.size w w' := by
  go_enter Try.func107, Try.ntmps107
  go_wp2_with fail
  refine wp_loop_rounds 5 ?_
  rw [rounds_succ]
  go_wp2_with fail
  rw [rounds_succ]
  go_wp2_with fail
  rw [rounds_succ]
  go_wp2_with fail
  rw [rounds_succ]
  go_wp2_with fail
  rw [rounds_succ]
  go_wp2_with fail
  refine bodyPost_ret (v := .agg #[.int .i64 d.1, .int .i64 d.2.1, .int .i64 d.2.2.1, .int .i64 d.2.2.2]) (by simp [results, Try.results107, go_sem]) rfl ⟨rfl, (((Below.refl _ _).alloc (Nat.le_refl _) _).alloc (by simp) _).alloc (by simp; omega) _⟩
theorem eqGate_any (w : World) (d : M.Gt) : Calls Try.prog 113 #[.agg #[.int .i64 d.1, .int .i64 d.2.1, .int .i64 d.2.2.1, .int .i64 d.2.2.2], .agg #[.int .i64 d.1, .int .i64 d.2.1, .int .i64 d.2.2.1, .int .i64 d.2.2.2]] w fun e w' => e = .returned (.bool true) ∧ Below w.heap.size w w' := by
  go_enter Try.func113, Try.ntmps113
  go_wp2_with fail
  refine wp_loop_rounds 5 ?_
  rw [rounds_succ]
  go_wp2_with fail
  go_quiet (fail)
  go_wp2_with fail
  rw [rounds_succ]
  go_wp2_with fail
  go_quiet (fail)
  go_wp2_with fail
  rw [rounds_succ]
  go_wp2_with fail
  go_quiet (fail)
  go_wp2_with fail
  rw [rounds_succ]
  go_wp2_with fail
  go_quiet (fail)
  go_wp2_with fail
  rw [rounds_succ]
  go_wp2_with fail
  go_ret
  exact ⟨rfl, Below.drawnN (((Below.refl _ _).alloc (Nat.le_refl _) _).alloc (by simp) _) _⟩
theorem szGates_any (w : World) (a : Option Addr) (n c : Nat) (left : Int) (h0 : 0 ≤ left) (h1 : left ≤ 1048576) (hn : n ≤ 9223372036854775807) :
    Calls Try.prog 57 #[.slice a n c, .int .i64 left] w fun e w' => (e = .returned (.int .i64 (if left < n then -1 else left - n))) ∧ w = w' := by
  by_cases hlt : left < (n : Int)
  · rw [if_pos hlt]
    go_enter Try.func57, Try.ntmps57
    go_wp2_with fail
    go_ret
    exact ⟨rfl, rfl⟩
  · rw [if_neg hlt]
    go_enter Try.func57, Try.ntmps57
    go_wp2_with fail
    go_ret
    exact ⟨rfl, rfl⟩

theorem szWorks_any (w : World) (m : M.Wk) (a b : Option Addr) (c d : Nat) (left : Int) (h0 : 0 ≤ left) (h1 : left ≤ 1048576) (hn : m.gates.length ≤ 9223372036854775807) (hk : m.pulls.length ≤ 9223372036854775807) :
    Calls Try.prog 17 #[.agg #[.int .i64 m.size, .slice a m.gates.length c, .slice b m.pulls.length d], .int .i64 left] w
      fun e w' => e = .returned (.int .i64 (if left < m.gates.length + m.pulls.length then -1 else left - m.gates.length - m.pulls.length)) ∧ Below w.heap.size w w' := by
  by_cases hlt : left < m.gates.length
  · rw [if_pos (by omega)]
    go_enter Try.func17, Try.ntmps17
    go_wp2_with fail
    refine (szGates_any _ a _ _ left h0 h1 hn).mono ?_
    rintro e w1 ⟨rfl, rfl⟩
    rw [if_pos (by omega)]
    go_wp2_with fail
    go_ret
    exact ⟨rfl, below_alloc _ _⟩
  · by_cases hlt2 : left - m.gates.length < m.pulls.length
    · rw [if_pos (by omega)]
      go_enter Try.func17, Try.ntmps17
      go_wp2_with fail
      refine (szGates_any _ a _ _ left h0 h1 hn).mono ?_
      rintro e w1 ⟨rfl, rfl⟩
      rw [if_neg (by omega)]
      go_wp2_with fail
      refine (szInts_any _ b _ _ (left - m.gates.length) (by omega) (by omega) hk).mono ?_
      rintro e w1 ⟨rfl, rfl⟩
      rw [if_pos (by omega)]
      go_wp2_with fail
      go_ret
      exact ⟨rfl, below_alloc _ _⟩
    · rw [if_neg (by omega)]
      go_enter Try.func17, Try.ntmps17
      go_wp2_with fail
      refine (szGates_any _ a _ _ left h0 h1 hn).mono ?_
      rintro e w1 ⟨rfl, rfl⟩
      rw [if_neg (by omega)]
      go_wp2_with fail
      refine (szInts_any _ b _ _ (left - m.gates.length) (by omega) (by omega) hk).mono ?_
      rintro e w1 ⟨rfl, rfl⟩
      rw [if_neg (by omega)]
      go_wp2_with fail
      go_ret
      exact ⟨rfl, below_alloc _ _⟩
/-- works handed back in memory of the call's own -/
def WkPost (w : World) (m : M.Wk) (e : Ending) (w' : World) : Prop :=
  ∃ a c b d, e = .returned (.agg #[.int .i64 m.size, .slice a m.gates.length c, .slice b m.pulls.length d]) ∧ WkOwn w.heap.size w'.heap.size w' m a c b d ∧ Below w.heap.size w w'
/-- the same, and whether it could be done -/
def WkOkPost (w : World) (m : M.Wk) (ok : Bool) (e : Ending) (w' : World) : Prop :=
  ∃ a c b d, e = .returned (.tuple #[.agg #[.int .i64 m.size, .slice a m.gates.length c, .slice b m.pulls.length d], .bool ok]) ∧ WkOwn w.heap.size w'.heap.size w' m a c b d ∧ Below w.heap.size w w'

theorem takeG_snoc {l : List M.Gt} {k : Nat} (h : k < l.length) : M.encGs (l.take (k + 1)) = M.encGs (l.take k) ++ M.encG l[k] := by
  rw [List.take_succ_eq_append_getElem h, M.encGs_append]; simp [M.encGs]
theorem set4 {α : Type} (xs : List α) (k : Nat) (u v z y : α) (h : k * 4 + 4 ≤ xs.length) : ((((xs.set (k * 4) u).set (k * 4 + 1) v).set (k * 4 + 2) z).set (k * 4 + 3) y).take ((k + 1) * 4) = xs.take (k * 4) ++ [u, v, z, y] := by
  have e : xs = xs.take (k * 4) ++ xs.drop (k * 4) := (List.take_append_drop _ _).symm
  have hA : (xs.take (k * 4)).length = k * 4 := by rw [List.length_take]; omega
  have hB : 4 ≤ (xs.drop (k * 4)).length := by rw [List.length_drop]; omega
  generalize xs.take (k * 4) = A at e hA ⊢
  generalize xs.drop (k * 4) = B at e hB
  subst e
  match B, hB with
  | p :: q :: r :: s :: B, _ =>
    rw [List.set_append, if_neg (by omega), List.set_append, if_neg (by omega), List.set_append, if_neg (by omega), List.set_append, if_neg (by omega), hA, Nat.sub_self]
    have e1 : k * 4 + 1 - k * 4 = 1 := by omega
    have e2 : k * 4 + 2 - k * 4 = 2 := by omega
    have e3 : k * 4 + 3 - k * 4 = 3 := by omega
    rw [e1, e2, e3, show (k + 1) * 4 = A.length + 4 by omega, List.take_append]
    simp [List.take_of_length_le]
theorem toGates_any (w : World) (lo hi : Nat) (a : Option Addr) (c : Nat) (l : List M.Gt) (h : RowIn lo hi w a (M.encGs l)) (hz : hi ≤ w.heap.size) (hl : l.length ≤ 1048576) :
    Calls Try.prog 60 #[.slice a l.length c] w fun e w' => e = .returned (.slice (some ⟨w.heap.size, 0, none⟩) l.length l.length) ∧ OwnAt w.heap.size w'.heap.size w' 67 (some ⟨w.heap.size, 0, none⟩) (M.encGs l) ∧ Below w.heap.size w w' := by
  obtain ⟨i0, hi0, hz0, hz1, hz2⟩ := info_parts infoG
  have h' := Lib.hid h
  clear h
  go_enter Try.func60, Try.ntmps60
  go_wp2_with (at_make; refine wpList_make_full _ rfl _ _ 22 rfl w.heap.size 67 i0 (.agg #[.int .i64 0, .int .i64 0, .int .i64 0, .int .i64 0]) 4 Try.underlying22 hi0 hz0 hz1 .i64 .i64 _ _ l.length rfl rfl rfl rfl (by rw [hz2]; omega) (by unfold maxLen; omega) (Nat.le_refl _) ?_; intro w1 hown1 hgrow1)
  have hb1 : Below w.heap.size w w1 := (Below.refl _ _).grown hgrow1 (Nat.le_refl _) (fun k e => by cases e)
  have hx1 : ∃ xs : List Value, xs.length = l.length * 4 ∧ OwnAt w.heap.size w1.heap.size w1 67 (some ⟨w.heap.size, 0, none⟩) xs := ⟨_, hown1.1, OwnAt.of_own hown1⟩
  have HB1 := Lib.hid hb1
  have HX1 := Lib.hid hx1
  clear hown1 hgrow1 hb1 hx1
  go_wp2_with fail
  go_loopw [4] (fun i wr => ∃ (k : Nat) (xs : List Value), k ≤ l.length ∧ i = .int .i64 k ∧ xs.length = l.length * 4 ∧ xs.take (k * 4) = M.encGs (l.take k) ∧
      OwnAt w.heap.size wr.heap.size wr 67 (some ⟨w.heap.size, 0, none⟩) xs ∧ Below w.heap.size w wr) (fun i _ => l.length - (intOf i).toNat)
  case atStart =>
    obtain ⟨xs, hx, ho⟩ := HX1.out
    exact ⟨0, xs, Nat.zero_le _, rfl, hx, by simp [M.encGs], ho, HB1.out⟩
  case round =>
    obtain ⟨k, xs, hk, rfl, hxl, ht, hown, hnx⟩ := hrel
    have HT := Lib.hid ht
    have HN := Lib.hid hnx
    have HX := Lib.hid hxl
    clear ht hnx hxl
    by_cases hlt : k < l.length
    · obtain ⟨b, off, rfl, _, hb, hcell0⟩ := h'.out.at_ (k := k * 4) (by rw [M.encGs_len]; omega)
      have c0 : wr.cell? ⟨b, off + k * 4, none⟩ = some (.int .i64 l[k].1) := (HN.out.cell (p := ⟨b, off + k * 4, none⟩) (Nat.lt_of_lt_of_le hb hz)).trans (hcell0 _ _ (M.encGs_at0 hlt))
      have c1 : wr.cell? ⟨b, off + k * 4 + 1, none⟩ = some (.int .i64 l[k].2.1) := (HN.out.cell (p := ⟨b, off + k * 4 + 1, none⟩) (Nat.lt_of_lt_of_le hb hz)).trans (hcell0 _ _ (M.encGs_at1 hlt))
      have c2 : wr.cell? ⟨b, off + k * 4 + 2, none⟩ = some (.int .i64 l[k].2.2.1) := (HN.out.cell (p := ⟨b, off + k * 4 + 2, none⟩) (Nat.lt_of_lt_of_le hb hz)).trans (hcell0 _ _ (M.encGs_at2 hlt))
      have c3 : wr.cell? ⟨b, off + k * 4 + 3, none⟩ = some (.int .i64 l[k].2.2.2) := (HN.out.cell (p := ⟨b, off + k * 4 + 3, none⟩) (Nat.lt_of_lt_of_le hb hz)).trans (hcell0 _ _ (M.encGs_at3 hlt))
      have HO := Lib.hid hown
      clear hcell0 hown
      go_wp2_with fail
      refine (toGate_any _ _).mono ?_
      rintro e w2 ⟨rfl, hb2⟩
      have own2 := HO.out.below hb2 (Nat.le_refl _)
      have hz2 := hb2.size
      obtain ⟨u0, _, d0, f0⟩ := own2.cell0 (k := k * 4) (by have := HX.out; omega)
      obtain ⟨u1, _, d1, f1⟩ := own2.cell0 (k := k * 4 + 1) (by have := HX.out; omega)
      obtain ⟨u2, _, d2, f2⟩ := own2.cell0 (k := k * 4 + 2) (by have := HX.out; omega)
      obtain ⟨u3, _, d3, f3⟩ := own2.cell0 (k := k * 4 + 3) (by have := HX.out; omega)
      have HS := Lib.hid ((((own2.set0 (k * 4) (.int .i64 l[k].1)).set0 (k * 4 + 1) (.int .i64 l[k].2.1)).set0 (k * 4 + 2) (.int .i64 l[k].2.2.1)).set0 (k * 4 + 3) (.int .i64 l[k].2.2.2))
      have HN2 := Lib.hid (((((HN.out.trans (hb2.mono HN.out.size)).setCell (p := ⟨w.heap.size, k * 4, none⟩) (Nat.le_refl _) (.int .i64 l[k].1)).setCell (p := ⟨w.heap.size, k * 4 + 1, none⟩) (Nat.le_refl _) (.int .i64 l[k].2.1)).setCell (p := ⟨w.heap.size, k * 4 + 2, none⟩) (Nat.le_refl _) (.int .i64 l[k].2.2.1)).setCell (p := ⟨w.heap.size, k * 4 + 3, none⟩) (Nat.le_refl _) (.int .i64 l[k].2.2.2))
      have H3 := Lib.hid (set4 xs k (.int .i64 l[k].1) (.int .i64 l[k].2.1) (.int .i64 l[k].2.2.1) (.int .i64 l[k].2.2.2) (by have := HX.out; omega))
      clear own2 hb2
      go_wp2_with fail
      go_roundw
      case rel =>
        refine ⟨k + 1, _, by omega, by go_num, ?_, ?_, HS.out.mono (Nat.le_refl _) (by simpa [World.setCell] using hz2), HN2.out⟩
        · simp only [List.length_set]; exact HX.out
        · rw [H3.out, HT.out, takeG_snoc hlt]; rfl
      case measure => simp [intOf]; omega
    · have HA : Hid (xs = M.encGs l) := Lib.hid (by
        have := HT.out
        rwa [List.take_of_length_le (by have := HX.out; omega), List.take_of_length_le (by omega)] at this)
      have HO := Lib.hid hown
      clear hown
      go_wp2_with fail
      go_ret
      exact ⟨rfl, by have := HO.out; rwa [HA.out] at this, HN.out⟩
theorem eqGates_any (w : World) (lo hi lo' hi' : Nat) (a b : Option Addr) (c1 c2 : Nat) (l : List M.Gt) (hl : l.length ≤ 9223372036854775806) (h1 : RowIn lo hi w a (M.encGs l)) (h2 : RowIn lo' hi' w b (M.encGs l)) (hz1 : hi ≤ w.heap.size) (hz2 : hi' ≤ w.heap.size) :
    Calls Try.prog 64 #[.slice a l.length c1, .slice b l.length c2] w fun e w' => e = .returned (.bool true) ∧ Below w.heap.size w w' := by
  have h1' := Lib.hid h1
  have h2' := Lib.hid h2
  clear h1 h2
  go_enter Try.func64, Try.ntmps64
  go_wp2_with fail
  go_loopw [5] (fun i wr => ∃ (k : Nat), k ≤ l.length ∧ i = .int .i64 k ∧ Below w.heap.size w wr) (fun i _ => l.length - (intOf i).toNat)
  case atStart => exact ⟨0, Nat.zero_le _, rfl, Below.refl _ _⟩
  case round =>
    obtain ⟨k, hk, rfl, hnx⟩ := hrel
    have HN := Lib.hid hnx
    have hzr := hnx.size
    clear hnx
    by_cases hlt : k < l.length
    · obtain ⟨ab, ao, rfl, _, hab, hca0⟩ := (h1'.out.below HN.out hz1).at_ (k := k * 4) (by rw [M.encGs_len]; omega)
      obtain ⟨bb, bo, rfl, _, hbb, hcb0⟩ := (h2'.out.below HN.out hz2).at_ (k := k * 4) (by rw [M.encGs_len]; omega)
      have a0 := hca0 _ _ (M.encGs_at0 hlt)
      have a1 : wr.cell? ⟨ab, ao + k * 4 + 1, none⟩ = some (.int .i64 l[k].2.1) := hca0 _ _ (M.encGs_at1 hlt)
      have a2 : wr.cell? ⟨ab, ao + k * 4 + 2, none⟩ = some (.int .i64 l[k].2.2.1) := hca0 _ _ (M.encGs_at2 hlt)
      have a3 : wr.cell? ⟨ab, ao + k * 4 + 3, none⟩ = some (.int .i64 l[k].2.2.2) := hca0 _ _ (M.encGs_at3 hlt)
      have b0 := hcb0 _ _ (M.encGs_at0 hlt)
      have b1 : wr.cell? ⟨bb, bo + k * 4 + 1, none⟩ = some (.int .i64 l[k].2.1) := hcb0 _ _ (M.encGs_at1 hlt)
      have b2 : wr.cell? ⟨bb, bo + k * 4 + 2, none⟩ = some (.int .i64 l[k].2.2.1) := hcb0 _ _ (M.encGs_at2 hlt)
      have b3 : wr.cell? ⟨bb, bo + k * 4 + 3, none⟩ = some (.int .i64 l[k].2.2.2) := hcb0 _ _ (M.encGs_at3 hlt)
      clear hca0 hcb0
      go_wp2_with fail
      go_region_with (go_at_call 113; refine (eqGate_any _ _).mono ?_; rintro e w2 ⟨rfl, hb2⟩)
      all_goals
        have HN2 := Lib.hid (HN.out.drew.trans (hb2.mono hzr))
        clear hb2
        go_wp2_with fail
        go_roundw
        case rel => exact ⟨k + 1, by omega, by go_num, HN2.out⟩
        case measure => simp [intOf]; omega
    · go_wp2_with fail
      go_ret
      exact ⟨rfl, HN.out⟩
end C
end Go.Proofs.Ytdgfceiobpnchaa
