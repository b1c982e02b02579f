/-
  CONTRACTS of the laws' own helpers over mazes: toMaze gives a copy of its own, eqMaze says yes of two that read alike. Condition: at most 1048576 doors and keys.
-/
import Derived.Test.YtddpjjdncmokmaaWAMem
import Derived.Deep.RegionWith
namespace Go.Proofs.Ytddpjjdncmokmaa
open Go.RowKit
namespace C
theorem infoD : (Try.prog.info? 97).map (fun i => (i.zero, i.size, i.bytes)) = some (some (.agg #[.int .i64 0, .int .i64 0, .int .i64 0]), 3, 24) := by kernel_rfl

set_option maxHeartbeats 800000
set_option maxRecDepth 20000
/-- an array of three is copied -/
theorem toDoor_any (w : World) (d : M.Dr) : Calls Try.prog 93 #[.agg #[.int .i64 d.1, .int .i64 d.2.1, .int .i64 d.2.2]] w fun e w' => e = .returned (.agg #[.int .i64 d.1, .int .i64 d.2.1, .int .i64 d.2.2]) ∧ Below w.heap.size w w' := by
  go_enter Try.func93, Try.ntmps93
  go_wp2_with fail
  refine wp_loop_rounds 4 ?_
  rw [rounds_succ]
  go_wp2_with fail
  rw [rounds_succ]
  go_wp2_with fail
  rw [rounds_succ]
  go_wp2_with fail
  rw [rounds_succ]
  go_wp2_with fail
  refine bodyPost_ret (v := .agg #[.int .i64 d.1, .int .i64 d.2.1, .int .i64 d.2.2]) (by simp [results, Try.results93, go_sem]) rfl ⟨rfl, (((Below.refl _ _).alloc (Nat.le_refl _) _).alloc (by simp) _).alloc (by simp; omega) _⟩
theorem eqDoor_any (w : World) (d : M.Dr) : Calls Try.prog 95 #[.agg #[.int .i64 d.1, .int .i64 d.2.1, .int .i64 d.2.2], .agg #[.int .i64 d.1, .int .i64 d.2.1, .int .i64 d.2.2]] w fun e w' => e = .returned (.bool true) ∧ Below w.heap.size w w' := by
  go_enter Try.func95, Try.ntmps95
  go_wp2_with fail
  refine wp_loop_rounds 4 ?_
  rw [rounds_succ]
  go_wp2_with fail
  go_quiet (fail)
  go_wp2_with fail
  rw [rounds_succ]
  go_wp2_with fail
  go_quiet (fail)
  go_wp2_with fail
  rw [rounds_succ]
  go_wp2_with fail
  go_quiet (fail)
  go_wp2_with fail
  rw [rounds_succ]
  go_wp2_with fail
  go_ret
  exact ⟨rfl, Below.drawnN (((Below.refl _ _).alloc (Nat.le_refl _) _).alloc (by simp) _) _⟩
theorem szMaze_any (w : World) (m : M.Mz) (a b : Option Addr) (c d : Nat) (left : Int) (h0 : 0 ≤ left) (h1 : left ≤ 1048576) (hn : m.doors.length ≤ 9223372036854775807) (hk : m.keys.length ≤ 9223372036854775807) :
    Calls Try.prog 15 #[.agg #[.int .i64 m.size, .slice a m.doors.length c, .slice b m.keys.length d], .int .i64 left] w
      fun e w' => e = .returned (.int .i64 (if left < m.doors.length + m.keys.length then -1 else left - m.doors.length - m.keys.length)) ∧ Below w.heap.size w w' := by
  by_cases hlt : left < m.doors.length
  · rw [if_pos (by omega)]
    go_enter Try.func15, Try.ntmps15
    go_wp2_with fail
    refine (szDoors_any _ a _ _ left h0 h1 hn).mono ?_
    rintro e w1 ⟨rfl, rfl⟩
    rw [if_pos (by omega)]
    go_wp2_with fail
    go_ret
    exact ⟨rfl, below_alloc _ _⟩
  · by_cases hlt2 : left - m.doors.length < m.keys.length
    · rw [if_pos (by omega)]
      go_enter Try.func15, Try.ntmps15
      go_wp2_with fail
      refine (szDoors_any _ a _ _ left h0 h1 hn).mono ?_
      rintro e w1 ⟨rfl, rfl⟩
      rw [if_neg (by omega)]
      go_wp2_with fail
      refine (szInts_any _ b _ _ (left - m.doors.length) (by omega) (by omega) hk).mono ?_
      rintro e w1 ⟨rfl, rfl⟩
      rw [if_pos (by omega)]
      go_wp2_with fail
      go_ret
      exact ⟨rfl, below_alloc _ _⟩
    · rw [if_neg (by omega)]
      go_enter Try.func15, Try.ntmps15
      go_wp2_with fail
      refine (szDoors_any _ a _ _ left h0 h1 hn).mono ?_
      rintro e w1 ⟨rfl, rfl⟩
      rw [if_neg (by omega)]
      go_wp2_with fail
      refine (szInts_any _ b _ _ (left - m.doors.length) (by omega) (by omega) hk).mono ?_
      rintro e w1 ⟨rfl, rfl⟩
      rw [if_neg (by omega)]
      go_wp2_with fail
      go_ret
      exact ⟨rfl, below_alloc _ _⟩
/-- a maze handed back in memory of the call's own -/
def MzPost (w : World) (m : M.Mz) (e : Ending) (w' : World) : Prop :=
  ∃ a c b d, e = .returned (.agg #[.int .i64 m.size, .slice a m.doors.length c, .slice b m.keys.length d]) ∧ MzOwn w.heap.size w'.heap.size w' m a c b d ∧ Below w.heap.size w w'
/-- the same, and whether it could be done -/
def MzOkPost (w : World) (m : M.Mz) (ok : Bool) (e : Ending) (w' : World) : Prop :=
  ∃ a c b d, e = .returned (.tuple #[.agg #[.int .i64 m.size, .slice a m.doors.length c, .slice b m.keys.length d], .bool ok]) ∧ MzOwn w.heap.size w'.heap.size w' m a c b d ∧ Below w.heap.size w w'

theorem takeD_snoc {l : List M.Dr} {k : Nat} (h : k < l.length) : M.encDs (l.take (k + 1)) = M.encDs (l.take k) ++ M.encD l[k] := by
  rw [List.take_succ_eq_append_getElem h, M.encDs_append]; simp [M.encDs]
theorem set3 {α : Type} (xs : List α) (k : Nat) (u v z : α) (h : k * 3 + 3 ≤ xs.length) : (((xs.set (k * 3) u).set (k * 3 + 1) v).set (k * 3 + 2) z).take ((k + 1) * 3) = xs.take (k * 3) ++ [u, v, z] := by
  have e : xs = xs.take (k * 3) ++ xs.drop (k * 3) := (List.take_append_drop _ _).symm
  have hA : (xs.take (k * 3)).length = k * 3 := by rw [List.length_take]; omega
  have hB : 3 ≤ (xs.drop (k * 3)).length := by rw [List.length_drop]; omega
  generalize xs.take (k * 3) = A at e hA ⊢
  generalize xs.drop (k * 3) = B at e hB
  subst e
  match B, hB with
  | p :: q :: r :: B, _ =>
    rw [List.set_append, if_neg (by omega), List.set_append, if_neg (by omega), List.set_append, if_neg (by omega), hA, Nat.sub_self]
    have e1 : k * 3 + 1 - k * 3 = 1 := by omega
    have e2 : k * 3 + 2 - k * 3 = 2 := by omega
    rw [e1, e2, show (k + 1) * 3 = A.length + 3 by omega, List.take_append]
    simp [List.take_of_length_le]
theorem toDoors_any (w : World) (lo hi : Nat) (a : Option Addr) (c : Nat) (l : List M.Dr) (h : RowIn lo hi w a (M.encDs l)) (hz : hi ≤ w.heap.size) (hl : l.length ≤ 1048576) :
    Calls Try.prog 56 #[.slice a l.length c] w fun e w' => e = .returned (.slice (some ⟨w.heap.size, 0, none⟩) l.length l.length) ∧ OwnAt w.heap.size w'.heap.size w' 97 (some ⟨w.heap.size, 0, none⟩) (M.encDs l) ∧ Below w.heap.size w w' := by
  obtain ⟨i0, hi0, hz0, hz1, hz2⟩ := info_parts infoD
  have h' := Lib.hid h
  clear h
  go_enter Try.func56, Try.ntmps56
  go_wp2_with (at_make; refine wpList_make_full _ rfl _ _ 22 rfl w.heap.size 97 i0 (.agg #[.int .i64 0, .int .i64 0, .int .i64 0]) 3 Try.underlying22 hi0 hz0 hz1 .i64 .i64 _ _ l.length rfl rfl rfl rfl (by rw [hz2]; omega) (by unfold maxLen; omega) (Nat.le_refl _) ?_; intro w1 hown1 hgrow1)
  have hb1 : Below w.heap.size w w1 := (Below.refl _ _).grown hgrow1 (Nat.le_refl _) (fun k e => by cases e)
  have hx1 : ∃ xs : List Value, xs.length = l.length * 3 ∧ OwnAt w.heap.size w1.heap.size w1 97 (some ⟨w.heap.size, 0, none⟩) xs := ⟨_, hown1.1, OwnAt.of_own hown1⟩
  have HB1 := Lib.hid hb1
  have HX1 := Lib.hid hx1
  clear hown1 hgrow1 hb1 hx1
  go_wp2_with fail
  go_loopw [4] (fun i wr => ∃ (k : Nat) (xs : List Value), k ≤ l.length ∧ i = .int .i64 k ∧ xs.length = l.length * 3 ∧ xs.take (k * 3) = M.encDs (l.take k) ∧
      OwnAt w.heap.size wr.heap.size wr 97 (some ⟨w.heap.size, 0, none⟩) xs ∧ Below w.heap.size w wr) (fun i _ => l.length - (intOf i).toNat)
  case atStart =>
    obtain ⟨xs, hx, ho⟩ := HX1.out
    exact ⟨0, xs, Nat.zero_le _, rfl, hx, by simp [M.encDs], ho, HB1.out⟩
  case round =>
    obtain ⟨k, xs, hk, rfl, hxl, ht, hown, hnx⟩ := hrel
    have HT := Lib.hid ht
    have HN := Lib.hid hnx
    have HX := Lib.hid hxl
    clear ht hnx hxl
    by_cases hlt : k < l.length
    · obtain ⟨b, off, rfl, _, hb, hcell0⟩ := h'.out.at_ (k := k * 3) (by rw [M.encDs_len]; omega)
      have c0 : wr.cell? ⟨b, off + k * 3, none⟩ = some (.int .i64 l[k].1) := (HN.out.cell (p := ⟨b, off + k * 3, none⟩) (Nat.lt_of_lt_of_le hb hz)).trans (hcell0 _ _ (M.encDs_at0 hlt))
      have c1 : wr.cell? ⟨b, off + k * 3 + 1, none⟩ = some (.int .i64 l[k].2.1) := (HN.out.cell (p := ⟨b, off + k * 3 + 1, none⟩) (Nat.lt_of_lt_of_le hb hz)).trans (hcell0 _ _ (M.encDs_at1 hlt))
      have c2 : wr.cell? ⟨b, off + k * 3 + 2, none⟩ = some (.int .i64 l[k].2.2) := (HN.out.cell (p := ⟨b, off + k * 3 + 2, none⟩) (Nat.lt_of_lt_of_le hb hz)).trans (hcell0 _ _ (M.encDs_at2 hlt))
      have HO := Lib.hid hown
      clear hcell0 hown
      go_wp2_with fail
      refine (toDoor_any _ _).mono ?_
      rintro e w2 ⟨rfl, hb2⟩
      have own2 := HO.out.below hb2 (Nat.le_refl _)
      have hz2 := hb2.size
      obtain ⟨u0, _, d0, f0⟩ := own2.cell0 (k := k * 3) (by have := HX.out; omega)
      obtain ⟨u1, _, d1, f1⟩ := own2.cell0 (k := k * 3 + 1) (by have := HX.out; omega)
      obtain ⟨u2, _, d2, f2⟩ := own2.cell0 (k := k * 3 + 2) (by have := HX.out; omega)
      have HS := Lib.hid (((own2.set0 (k * 3) (.int .i64 l[k].1)).set0 (k * 3 + 1) (.int .i64 l[k].2.1)).set0 (k * 3 + 2) (.int .i64 l[k].2.2))
      have HN2 := Lib.hid ((((HN.out.trans (hb2.mono HN.out.size)).setCell (p := ⟨w.heap.size, k * 3, none⟩) (Nat.le_refl _) (.int .i64 l[k].1)).setCell (p := ⟨w.heap.size, k * 3 + 1, none⟩) (Nat.le_refl _) (.int .i64 l[k].2.1)).setCell (p := ⟨w.heap.size, k * 3 + 2, none⟩) (Nat.le_refl _) (.int .i64 l[k].2.2))
      have H3 := Lib.hid (set3 xs k (.int .i64 l[k].1) (.int .i64 l[k].2.1) (.int .i64 l[k].2.2) (by have := HX.out; omega))
      clear own2 hb2
      go_wp2_with fail
      go_roundw
      case rel =>
        refine ⟨k + 1, _, by omega, by go_num, ?_, ?_, HS.out.mono (Nat.le_refl _) (by simpa [World.setCell] using hz2), HN2.out⟩
        · simp only [List.length_set]; exact HX.out
        · rw [H3.out, HT.out, takeD_snoc hlt]; rfl
      case measure => simp [intOf]; omega
    · have HA : Hid (xs = M.encDs l) := Lib.hid (by
        have := HT.out
        rwa [List.take_of_length_le (by have := HX.out; omega), List.take_of_length_le (by omega)] at this)
      have HO := Lib.hid hown
      clear hown
      go_wp2_with fail
      go_ret
      exact ⟨rfl, by have := HO.out; rwa [HA.out] at this, HN.out⟩
theorem eqDoors_any (w : World) (lo hi lo' hi' : Nat) (a b : Option Addr) (c1 c2 : Nat) (l : List M.Dr) (hl : l.length ≤ 9223372036854775806) (h1 : RowIn lo hi w a (M.encDs l)) (h2 : RowIn lo' hi' w b (M.encDs l)) (hz1 : hi ≤ w.heap.size) (hz2 : hi' ≤ w.heap.size) :
    Calls Try.prog 59 #[.slice a l.length c1, .slice b l.length c2] w fun e w' => e = .returned (.bool true) ∧ Below w.heap.size w w' := by
  have h1' := Lib.hid h1
  have h2' := Lib.hid h2
  clear h1 h2
  go_enter Try.func59, Try.ntmps59
  go_wp2_with fail
  go_loopw [5] (fun i wr => ∃ (k : Nat), k ≤ l.length ∧ i = .int .i64 k ∧ Below w.heap.size w wr) (fun i _ => l.length - (intOf i).toNat)
  case atStart => exact ⟨0, Nat.zero_le _, rfl, Below.refl _ _⟩
  case round =>
    obtain ⟨k, hk, rfl, hnx⟩ := hrel
    have HN := Lib.hid hnx
    have hzr := hnx.size
    clear hnx
    by_cases hlt : k < l.length
    · obtain ⟨ab, ao, rfl, _, hab, hca0⟩ := (h1'.out.below HN.out hz1).at_ (k := k * 3) (by rw [M.encDs_len]; omega)
      obtain ⟨bb, bo, rfl, _, hbb, hcb0⟩ := (h2'.out.below HN.out hz2).at_ (k := k * 3) (by rw [M.encDs_len]; omega)
      have a0 := hca0 _ _ (M.encDs_at0 hlt)
      have a1 : wr.cell? ⟨ab, ao + k * 3 + 1, none⟩ = some (.int .i64 l[k].2.1) := hca0 _ _ (M.encDs_at1 hlt)
      have a2 : wr.cell? ⟨ab, ao + k * 3 + 2, none⟩ = some (.int .i64 l[k].2.2) := hca0 _ _ (M.encDs_at2 hlt)
      have b0 := hcb0 _ _ (M.encDs_at0 hlt)
      have b1 : wr.cell? ⟨bb, bo + k * 3 + 1, none⟩ = some (.int .i64 l[k].2.1) := hcb0 _ _ (M.encDs_at1 hlt)
      have b2 : wr.cell? ⟨bb, bo + k * 3 + 2, none⟩ = some (.int .i64 l[k].2.2) := hcb0 _ _ (M.encDs_at2 hlt)
      clear hca0 hcb0
      go_wp2_with fail
      go_region_with (go_at_call 95; refine (eqDoor_any _ _).mono ?_; rintro e w2 ⟨rfl, hb2⟩)
      all_goals
        have HN2 := Lib.hid (HN.out.drew.trans (hb2.mono hzr))
        clear hb2
        go_wp2_with fail
        go_roundw
        case rel => exact ⟨k + 1, by omega, by go_num, HN2.out⟩
        case measure => simp [intOf]; omega
    · go_wp2_with fail
      go_ret
      exact ⟨rfl, HN.out⟩
end C
end Go.Proofs.Ytddpjjdncmokmaa
