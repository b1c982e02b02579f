/-
  CONTRACTS of the laws' own helpers over worlds: toWorlds gives a copy of its own. Condition: at most 1048576 mazes, doors, keys and owners in all.
-/
import Derived.Test.YtbcobheiofajeaaWlL
import Derived.Deep.RegionWith
namespace Go.Proofs.Ytbcobheiofajeaa
open Go.RowKit
namespace C
set_option linter.unusedVariables false
set_option maxHeartbeats 1600000
set_option maxRecDepth 20000
theorem szMs_door {l : List M.Mz} {m : M.Mz} (h : m ∈ l) : m.doors.length + m.keys.length ≤ M.sumN M.szM1 l := by
  obtain ⟨i, hi, rfl⟩ := List.mem_iff_getElem.1 h
  exact M.le_sumN (f := M.szM1) hi
theorem szOs_len {l : List (List Int)} {o : List Int} (h : o ∈ l) : o.length ≤ M.sumN List.length l := by
  obtain ⟨i, hi, rfl⟩ := List.mem_iff_getElem.1 h
  exact M.le_sumN (f := List.length) hi
/-- mazes, lists of owners handed back in memory of the call's own -/
def MsPost (w : World) (L : List Rm) (e : Ending) (w' : World) : Prop :=
  ∃ (L' : List Rm) (RM RO : Nat → Nat × Nat), e = .returned (.slice (some ⟨w.heap.size, 0, none⟩) L.length L.length) ∧ L'.map (·.1) = L.map (·.1) ∧ OwnAt w.heap.size (w.heap.size + 1) w' 55 (some ⟨w.heap.size, 0, none⟩) (encMs L') ∧ w.heap.size + 1 ≤ w'.heap.size ∧ WsW (w.heap.size + 1) w'.heap.size w' L' [] RM RO ∧ Below w.heap.size w w'
def OsPost (w : World) (O : List Ro) (e : Ending) (w' : World) : Prop :=
  ∃ (O' : List Ro) (RM RO : Nat → Nat × Nat), e = .returned (.slice (some ⟨w.heap.size, 0, none⟩) O.length O.length) ∧ O'.map (·.1) = O.map (·.1) ∧ OwnAt w.heap.size (w.heap.size + 1) w' 39 (some ⟨w.heap.size, 0, none⟩) (encOs O') ∧ w.heap.size + 1 ≤ w'.heap.size ∧ WsW (w.heap.size + 1) w'.heap.size w' [] O' RM RO ∧ Below w.heap.size w w'
theorem made_at {w w1 : World} {T : TypeId} {size n : Nat} {xs : List Value} (h : w1.ownsRow w.heap.size T size (.slice (some ⟨w.heap.size, 0, none⟩) n n) n xs) : OwnAt w.heap.size (w.heap.size + 1) w1 T (some ⟨w.heap.size, 0, none⟩) xs := by
  rcases h.2 with ⟨hv, _⟩ | ⟨g, cap, cur, hv, hb, hh, hn, hm, hs, ht⟩
  · cases hv
  · injection hv with e _ _
    injection e with e
    injection e with e1 _ _
    subst e1
    refine .inr ⟨_, 0, cur, rfl, Nat.le_refl _, Nat.lt_succ_self _, hh, fun i u hu => ?_⟩
    rw [← ht, List.getElem?_take] at hu
    split at hu
    · rw [Nat.zero_add]; simpa using hu
    · cases hu
theorem made_lt {w w1 : World} {T : TypeId} {size n : Nat} {xs : List Value} (h : w1.ownsRow w.heap.size T size (.slice (some ⟨w.heap.size, 0, none⟩) n n) n xs) : w.heap.size + 1 ≤ w1.heap.size := by
  rcases h.2 with ⟨hv, _⟩ | ⟨g, cap, cur, hv, hb, hh, hn, hm, hs, ht⟩
  · cases hv
  · injection hv with e _ _
    injection e with e
    injection e with e1 _ _
    subst e1
    exact heap_lt hh
theorem toMazeS_any (w : World) (lo hi : Nat) (a : Option Addr) (c : Nat) (L : List Rm) (h : RowIn lo hi w a (encMs L)) (hz : hi ≤ w.heap.size) (hb : ∀ p ∈ L, MzR lo hi w p) (hL : L.length ≤ 1048576) (hs : ∀ p ∈ L, p.1.doors.length ≤ 1048576 ∧ p.1.keys.length ≤ 1048576) :
    Calls Try.prog 58 #[.slice a L.length c] w (MsPost w L) := by
  obtain ⟨i0, hi0, hz0, hz1, hz2⟩ := info_parts infoMz
  have H := Lib.hid h
  have HB := Lib.hid hb
  have HS := Lib.hid hs
  clear h hb hs
  go_enter Try.func58, Try.ntmps58
  go_wp2_with (at_make; refine wpList_make_full _ rfl _ _ 28 rfl w.heap.size 55 i0 (.agg #[.int .i64 0, .slice none 0 0, .slice none 0 0]) 3 Try.underlying28 hi0 hz0 hz1 .i64 .i64 _ _ L.length rfl rfl rfl rfl (by rw [hz2]; omega) (by unfold maxLen; omega) (Nat.le_refl _) ?_; intro w1 hown1 hgrow1)
  have hb1 : Below w.heap.size w w1 := (Below.refl _ _).grown hgrow1 (Nat.le_refl _) (fun k e => by cases e)
  have hx1 : ∃ xs : List Value, xs.length = L.length * 3 ∧ OwnAt w.heap.size (w.heap.size + 1) w1 55 (some ⟨w.heap.size, 0, none⟩) xs := ⟨_, hown1.1, made_at hown1⟩
  have hz1 : w.heap.size + 1 ≤ w1.heap.size := made_lt hown1
  have HB1 := Lib.hid hb1
  have HX1 := Lib.hid hx1
  clear hown1 hgrow1 hb1 hx1
  go_wp2_with fail
  go_loopw [4] (fun v4 wr => ∃ (k : Nat) (xs : List Value) (L' : List Rm) (RM RO : Nat → Nat × Nat), k ≤ L.length ∧ v4 = .int .i64 (k : Int) ∧ xs.length = L.length * 3 ∧ xs.take (k * 3) = encMs L' ∧ L'.length = k ∧ L'.map (·.1) = (L.take k).map (·.1) ∧
      OwnAt w.heap.size (w.heap.size + 1) wr 55 (some ⟨w.heap.size, 0, none⟩) xs ∧ w.heap.size + 1 ≤ wr.heap.size ∧ WsW (w.heap.size + 1) wr.heap.size wr L' [] RM RO ∧ Below w.heap.size w wr) (fun v4 _ => L.length - (intOf v4).toNat)
  case atStart =>
    obtain ⟨xs, hx, ho⟩ := HX1.out
    exact ⟨0, xs, [], fun _ => (0, 0), fun _ => (0, 0), Nat.zero_le _, rfl, hx, by rw [Nat.zero_mul, List.take_zero]; rfl, rfl, rfl, ho, hz1, WsW.nil _ _ _ _ _, HB1.out⟩
  case round =>
    obtain ⟨k, xs, L', RM, RO, hk, rfl, hxl, ht, hll, hmm, hown, hzw, hws, hnx⟩ := hrel
    have HT := Lib.hid ht
    have HN := Lib.hid hnx
    have HX := Lib.hid hxl
    have HLL := Lib.hid hll
    have HMM := Lib.hid hmm
    have HW := Lib.hid hws
    have HO := Lib.hid hown
    have hzr := hnx.size
    clear ht hnx hxl hll hmm hws hown
    by_cases hlt : k < L.length
    · obtain ⟨b, off, rfl, _, hb, hcell0⟩ := (H.out.turned (Turned.of_below HN.out 0 0) hz (.inr (Nat.zero_le _))).at_ (k := k * 3) (by rw [encMs_len]; omega)
      have c0 := hcell0 _ _ (encMs_at0 hlt)
      have c1 : wr.cell? ⟨b, off + k * 3 + 1, none⟩ = some (.slice L[k].2.1 L[k].1.doors.length L[k].2.2.1) := hcell0 _ _ (encMs_at1 hlt)
      have c2 : wr.cell? ⟨b, off + k * 3 + 2, none⟩ = some (.slice L[k].2.2.2.1 L[k].1.keys.length L[k].2.2.2.2) := hcell0 _ _ (encMs_at2 hlt)
      have hsk := HS.out _ (List.getElem_mem hlt)
      have CT := Lib.hid (toMaze_any wr lo hi L[k].1 L[k].2.1 L[k].2.2.2.1 L[k].2.2.1 L[k].2.2.2.2 ((HB.out _ (List.getElem_mem hlt)).below HN.out hz) (Nat.le_trans hz hzr) hsk.1 hsk.2)
      have HTK := Lib.hid (show (L.take (k + 1)).map (·.1) = (L.take k).map (·.1) ++ [L[k].1] from by rw [List.take_succ_eq_append_getElem hlt, List.map_append]; rfl)
      clear hcell0 hsk
      generalize L[k].1 = mk at *
      generalize L[k].2.1 = x1 at *
      generalize L[k].2.2.1 = x2 at *
      generalize L[k].2.2.2.1 = x3 at *
      generalize L[k].2.2.2.2 = x4 at *
      go_wp2_with fail
      refine (CT.out).mono ?_
      rintro e w2 ⟨pa, pc, pb, pd, rfl, hmo, hb2⟩
      have own2 := HO.out.below hb2 hzw
      have hz2 := hb2.size
      obtain ⟨u0, _, d0, f0⟩ := own2.cell0 (k := k * 3) (by have := HX.out; omega)
      obtain ⟨u1, _, d1, f1⟩ := own2.cell0 (k := k * 3 + 1) (by have := HX.out; omega)
      obtain ⟨u2, _, d2, f2⟩ := own2.cell0 (k := k * 3 + 2) (by have := HX.out; omega)
      have HSS := Lib.hid (((own2.set0 (k * 3) (.int .i64 mk.size)).set0 (k * 3 + 1) (.slice pa mk.doors.length pc)).set0 (k * 3 + 2) (.slice pb mk.keys.length pd))
      have HTU := Lib.hid (show Turned w.heap.size (w.heap.size + 1) w2 (((w2.setCell ⟨w.heap.size, k * 3, none⟩ (.int .i64 mk.size)).setCell ⟨w.heap.size, k * 3 + 1, none⟩ (.slice pa mk.doors.length pc)).setCell ⟨w.heap.size, k * 3 + 2, none⟩ (.slice pb mk.keys.length pd)) from ((Turned.setCell _ _ _ _ (Nat.le_refl _) (Nat.lt_succ_self _)).trans (Turned.setCell _ _ _ _ (Nat.le_refl _) (Nat.lt_succ_self _))).trans (Turned.setCell _ _ _ _ (Nat.le_refl _) (Nat.lt_succ_self _)))
      have HN2 := Lib.hid (Below.thenTurned (HN.out.trans (hb2.mono hzr)) HTU.out (Nat.le_refl _) (by omega))
      have H3 := Lib.hid (set3 xs k (.int .i64 mk.size) (.slice pa mk.doors.length pc) (.slice pb mk.keys.length pd) (by have := HX.out; omega))
      have HW2 := Lib.hid (((HW.out.below hb2 (Nat.le_refl _)).pushM (p := (mk, pa, pc, pb, pd)) hmo (Nat.le_refl _) (by omega) (Nat.le_refl _) hz2).turned HTU.out (Nat.le_refl _) (.inr (Nat.le_refl _)))
      clear own2 hb2 hmo
      go_wp2_with fail
      go_roundw
      case rel =>
        refine ⟨k + 1, _, L' ++ [(mk, pa, pc, pb, pd)], _, RO, by omega, by go_num, ?_, ?_, by rw [List.length_append, HLL.out]; rfl, by rw [HTK.out, List.map_append, HMM.out]; rfl, HSS.out, by have := HTU.out.size; omega, HW2.out.mono (Nat.le_refl _) HTU.out.size, HN2.out⟩
        · simp only [List.length_set]; exact HX.out
        · rw [H3.out, HT.out, encMs_append]; rfl
      case measure => simp [intOf]; omega
    · obtain rfl : k = L.length := by omega
      have HA : Hid (xs = encMs L') := Lib.hid (by
        have := HT.out
        rwa [List.take_of_length_le (by have := HX.out; omega)] at this)
      have HMM2 := Lib.hid (show L'.map (·.1) = L.map (·.1) from by have := HMM.out; rwa [List.take_length] at this)
      go_wp2_with fail
      go_ret
      exact ⟨L', RM, RO, rfl, HMM2.out, by rw [← HA.out]; exact HO.out, hzw, HW.out, HN.out⟩
theorem toIntSS_any (w : World) (lo hi : Nat) (a : Option Addr) (c : Nat) (O : List Ro) (h : RowIn lo hi w a (encOs O)) (hz : hi ≤ w.heap.size) (hb : ∀ o ∈ O, OwR lo hi w o) (hL : O.length ≤ 1048576) (hs : ∀ o ∈ O, o.1.length ≤ 1048576) :
    Calls Try.prog 59 #[.slice a O.length c] w (OsPost w O) := by
  obtain ⟨i0, hi0, hz0, hz1, hz2⟩ := info_parts infoII9
  have H := Lib.hid h
  have HB := Lib.hid hb
  have HS := Lib.hid hs
  clear h hb hs
  go_enter Try.func59, Try.ntmps59
  go_wp2_with (at_make; refine wpList_make_full _ rfl _ _ 23 rfl w.heap.size 39 i0 (.slice none 0 0) 1 Try.underlying23 hi0 hz0 hz1 .i64 .i64 _ _ O.length rfl rfl rfl rfl (by rw [hz2]; omega) (by unfold maxLen; omega) (Nat.le_refl _) ?_; intro w1 hown1 hgrow1)
  have hb1 : Below w.heap.size w w1 := (Below.refl _ _).grown hgrow1 (Nat.le_refl _) (fun k e => by cases e)
  have hx1 : ∃ xs : List Value, xs.length = O.length ∧ OwnAt w.heap.size (w.heap.size + 1) w1 39 (some ⟨w.heap.size, 0, none⟩) xs := ⟨_, by simpa using hown1.1, made_at hown1⟩
  have hz1 : w.heap.size + 1 ≤ w1.heap.size := made_lt hown1
  have HB1 := Lib.hid hb1
  have HX1 := Lib.hid hx1
  clear hown1 hgrow1 hb1 hx1
  go_wp2_with fail
  go_loopw [4] (fun v4 wr => ∃ (k : Nat) (xs : List Value) (O' : List Ro) (RM RO : Nat → Nat × Nat), k ≤ O.length ∧ v4 = .int .i64 (k : Int) ∧ xs.length = O.length ∧ xs.take k = encOs O' ∧ O'.length = k ∧ O'.map (·.1) = (O.take k).map (·.1) ∧
      OwnAt w.heap.size (w.heap.size + 1) wr 39 (some ⟨w.heap.size, 0, none⟩) xs ∧ w.heap.size + 1 ≤ wr.heap.size ∧ WsW (w.heap.size + 1) wr.heap.size wr [] O' RM RO ∧ Below w.heap.size w wr) (fun v4 _ => O.length - (intOf v4).toNat)
  case atStart =>
    obtain ⟨xs, hx, ho⟩ := HX1.out
    exact ⟨0, xs, [], fun _ => (0, 0), fun _ => (0, 0), Nat.zero_le _, rfl, hx, by rw [List.take_zero]; rfl, rfl, rfl, ho, hz1, WsW.nil _ _ _ _ _, HB1.out⟩
  case round =>
    obtain ⟨k, xs, O', RM, RO, hk, rfl, hxl, ht, hll, hmm, hown, hzw, hws, hnx⟩ := hrel
    have HT := Lib.hid ht
    have HN := Lib.hid hnx
    have HX := Lib.hid hxl
    have HLL := Lib.hid hll
    have HMM := Lib.hid hmm
    have HW := Lib.hid hws
    have HO := Lib.hid hown
    have hzr := hnx.size
    clear ht hnx hxl hll hmm hws hown
    by_cases hlt : k < O.length
    · obtain ⟨b, off, rfl, _, hb, hcell0⟩ := (H.out.turned (Turned.of_below HN.out 0 0) hz (.inr (Nat.zero_le _))).at_ (k := k) (by rw [encOs_len]; omega)
      have c0 := hcell0 _ _ (encOs_at hlt)
      have hsk := HS.out _ (List.getElem_mem hlt)
      have CT := Lib.hid (toInts_any wr lo hi O[k].2.1 O[k].2.2 O[k].1 ((HB.out _ (List.getElem_mem hlt)).turned (Turned.of_below HN.out 0 0) hz (.inr (Nat.zero_le _))).row (Nat.le_trans hz hzr) hsk)
      have HTK := Lib.hid (show (O.take (k + 1)).map (·.1) = (O.take k).map (·.1) ++ [O[k].1] from by rw [List.take_succ_eq_append_getElem hlt, List.map_append]; rfl)
      have hsk2 := hsk
      clear hcell0 hsk
      generalize O[k].1 = mk at *
      generalize O[k].2.1 = x1 at *
      generalize O[k].2.2 = x2 at *
      have HSK := Lib.hid hsk2
      clear hsk2
      go_wp2_with fail
      refine (CT.out).mono ?_
      rintro e w2 ⟨rfl, hmo, hb2⟩
      have own2 := HO.out.below hb2 hzw
      have hz2 := hb2.size
      obtain ⟨u0, _, d0, f0⟩ := own2.cell0 (k := k) (by have := HX.out; omega)
      have HSS := Lib.hid (own2.set0 k (.slice (some ⟨wr.heap.size, 0, none⟩) mk.length mk.length))
      have HTU := Lib.hid (show Turned w.heap.size (w.heap.size + 1) w2 (w2.setCell ⟨w.heap.size, k, none⟩ (.slice (some ⟨wr.heap.size, 0, none⟩) mk.length mk.length)) from Turned.setCell _ _ _ _ (Nat.le_refl _) (Nat.lt_succ_self _))
      have HN2 := Lib.hid (Below.thenTurned (HN.out.trans (hb2.mono hzr)) HTU.out (Nat.le_refl _) (by omega))
      have HW2 := Lib.hid (((HW.out.below hb2 (Nat.le_refl _)).pushO (p := (mk, some ⟨wr.heap.size, 0, none⟩, mk.length)) ⟨hmo, Nat.le_refl _, by have := HSK.out; show mk.length ≤ _; omega⟩ (Nat.le_refl _) (by omega) (Nat.le_refl _) hz2).turned HTU.out (Nat.le_refl _) (.inr (Nat.le_refl _)))
      clear own2 hb2 hmo
      go_wp2_with fail
      go_roundw
      case rel =>
        refine ⟨k + 1, _, O' ++ [(mk, some ⟨wr.heap.size, 0, none⟩, mk.length)], RM, _, by omega, by go_num, ?_, ?_, by rw [List.length_append, HLL.out]; rfl, by rw [HTK.out, List.map_append, HMM.out]; rfl, HSS.out, by have := HTU.out.size; omega, HW2.out.mono (Nat.le_refl _) HTU.out.size, HN2.out⟩
        · simp only [List.length_set]; exact HX.out
        · rw [List.take_succ_eq_append_getElem (by rw [List.length_set]; have := HX.out; omega), List.take_set_of_le (Nat.le_refl _), HT.out, List.getElem_set_self, encOs_append]; rfl
      case measure => simp [intOf]; omega
    · obtain rfl : k = O.length := by omega
      have HA : Hid (xs = encOs O') := Lib.hid (by
        have := HT.out
        rwa [List.take_of_length_le (by have := HX.out; omega)] at this)
      have HMM2 := Lib.hid (show O'.map (·.1) = O.map (·.1) from by have := HMM.out; rwa [List.take_length] at this)
      go_wp2_with fail
      go_ret
      exact ⟨O', RM, RO, rfl, HMM2.out, by rw [← HA.out]; exact HO.out, hzw, HW.out, HN.out⟩
/-- worlds handed back in memory of the call's own -/
def WlPost (w : World) (m : M.Wl) (e : Ending) (w' : World) : Prop :=
  ∃ a c b d, e = .returned (.agg #[.slice a m.mazes.length c, .slice b m.owners.length d]) ∧ WlOwn w.heap.size w'.heap.size w' m a c b d ∧ Below w.heap.size w w'
def WlOkPost (w : World) (m : M.Wl) (ok : Bool) (e : Ending) (w' : World) : Prop :=
  ∃ a c b d, e = .returned (.tuple #[.agg #[.slice a m.mazes.length c, .slice b m.owners.length d], .bool ok]) ∧ WlOwn w.heap.size w'.heap.size w' m a c b d ∧ Below w.heap.size w w'
theorem toWorlds_any (w : World) (lo hi : Nat) (m : M.Wl) (a b : Option Addr) (c d : Nat) (h : WlIn lo hi w m a c b d) (hz : hi ≤ w.heap.size) (h1 : M.szW m ≤ 1048576) :
    Calls Try.prog 17 #[.agg #[.slice a m.mazes.length c, .slice b m.owners.length d]] w (WlPost w m) := by
  obtain ⟨⟨L, O, r⟩, q1, q2, q3, q4⟩ := h
  have hl1 := r.lenM
  have hl2 := r.lenO
  unfold M.szW at h1
  have HM := Lib.hid (fun W (hB : Below w.heap.size w W) => toMazeS_any W lo hi a c L (r.mazes.below hB hz) (Nat.le_trans hz hB.size) (fun p hp => (r.maze p hp).below hB hz) (by omega) (fun p hp => by
    have := szMs_door (show p.1 ∈ m.mazes from by rw [r.ms]; exact List.mem_map_of_mem hp)
    omega))
  have HO := Lib.hid (fun W (hB : Below w.heap.size w W) => toIntSS_any W lo hi b d O (r.owners.below hB hz) (Nat.le_trans hz hB.size) (fun p hp => (r.owner p hp).turned (Turned.of_below hB 0 0) hz (.inr (Nat.zero_le _))) (by omega) (fun p hp => by
    have := szOs_len (show p.1 ∈ m.owners from by rw [r.os]; exact List.mem_map_of_mem hp)
    omega))
  have R := Lib.hid r
  rw [hl1] at HM
  rw [hl2] at HO
  have hm9 : m.mazes.length ≤ 1048576 := by omega
  have ho9 : m.owners.length ≤ 1048576 := by omega
  have HL1 := Lib.hid hl1
  have HL2 := Lib.hid hl2
  clear hl1 hl2 r h1
  generalize hnm : m.mazes.length = nm at *
  generalize hno : m.owners.length = no at *
  have HNM := Lib.hid hnm
  have HNO := Lib.hid hno
  clear hnm hno
  go_enter Try.func17, Try.ntmps17
  go_wp2_with fail
  refine named ?_
  intro W hW
  have hb : Below w.heap.size w W := by rw [hW]; exact (((Below.refl _ _).alloc (Nat.le_refl _) _).alloc (by simp) _).alloc (by simp; omega) _
  have x1 : Box2 W w.heap.size 25 (.slice a nm c) (.slice b no d) := by rw [hW]; exact ((Box2.new _ _ _ rfl).alloc _).alloc _
  have x2 : Box2 W (w.heap.size + 1) 30 (.slice none 0 0) (.slice none 0 0) := by rw [hW]; exact (Box2.new _ _ _ (by simp)).alloc _
  have x3 : Box2 W (w.heap.size + 1 + 1) 30 (.slice none 0 0) (.slice none 0 0) := by rw [hW]; exact Box2.new _ _ _ (by simp)
  clear hW
  have hz1 := x3.lt
  have hzw := hb.size
  refine (HM.out W hb).mono ?_
  rintro e w1 ⟨L', RM, RO, he, hms, ho1, hlt1, hws1, hb1⟩
  rw [HL1.out] at he
  subst he
  have y1 := x1.below hb1
  have y2 := Lib.hid (x2.below hb1)
  have y3 := x3.below hb1
  obtain ⟨c10, c11⟩ := y1.cells
  obtain ⟨c30, c31⟩ := y3.cells
  obtain ⟨f30, f31⟩ := y3.free
  have Y1 := Lib.hid y1
  have Y3 := Lib.hid y3
  have O1 := Lib.hid ho1
  have S1 := Lib.hid hws1
  have HMS := Lib.hid hms
  have B1 := Lib.hid (hb.trans (hb1.mono hzw))
  have hz2 := hb1.size
  clear y1 y3 ho1 hws1 hms hb1 x1 x2 x3 hb
  go_wp2_with fail
  refine named ?_
  intro W2 hW2
  clear c10 c11 c30 c31 f30 f31
  have hT : Turned (w.heap.size + 1 + 1) (w.heap.size + 1 + 1 + 1) w1 W2 := by rw [hW2]; exact Turned.setCell w1 _ 0 _ (by omega) (by omega)
  have x3 : Box2 W2 (w.heap.size + 1 + 1) 30 (.slice (some ⟨W.heap.size, 0, none⟩) nm nm) (.slice none 0 0) := by rw [hW2]; exact Y3.out.set0 _
  have hsz : W2.heap.size = w1.heap.size := by rw [hW2]; simp [World.setCell]
  clear hW2
  have x2 := y2.out.turned hT (by omega)
  have o1 := O1.out.turned hT (by omega) (by omega)
  have s1 := S1.out.turned hT (Nat.le_refl _) (by omega)
  have hb22 : Below w.heap.size w W2 := Below.thenTurned B1.out hT (by omega) (by omega)
  refine (HO.out W2 hb22).mono ?_
  rintro e w2 ⟨O', RM', RO', he, hos, ho2, hlt2, hws2, hb2⟩
  rw [HL2.out] at he
  subst he
  have hz3 := hb2.size
  have z2 := x2.below hb2
  have z3 := x3.below hb2
  have p1 := o1.below hb2 (by omega)
  have p2 := s1.below hb2 (by omega)
  obtain ⟨c20, c21⟩ := z2.cells
  obtain ⟨f20, f21⟩ := z2.free
  obtain ⟨c30, c31⟩ := z3.cells
  obtain ⟨f30, f31⟩ := z3.free
  have P1 := Lib.hid p1
  have P2 := Lib.hid p2
  have O2 := Lib.hid ho2
  have S2 := Lib.hid hws2
  have HOS := Lib.hid hos
  have Z2 := Lib.hid z2
  have Z3 := Lib.hid z3
  have HS := Lib.hid hsz
  have B2 := Lib.hid (hb22.trans (hb2.mono (by omega)))
  clear hT hsz x2 x3 z2 z3 p1 p2 ho2 hws2 hos o1 s1 hb2 hb22
  go_wp2_with fail
  refine bodyPost_ret (v := .agg #[.slice (some ⟨W.heap.size, 0, none⟩) nm nm, .slice (some ⟨W2.heap.size, 0, none⟩) no no]) (by simp [results, Try.results17, go_sem, c20, c21]) rfl ?_
  have hT : ∀ u0 u1 u2, Turned (w.heap.size + 1) (w.heap.size + 1 + 1 + 1) w2 (((w2.setCell ⟨w.heap.size + 1 + 1, 1, none⟩ u0).setCell ⟨w.heap.size + 1, 0, none⟩ u1).setCell ⟨w.heap.size + 1, 1, none⟩ u2) := fun u0 u1 u2 =>
    ((Turned.setCell _ _ _ _ (by omega) (by omega)).trans (Turned.setCell _ _ _ _ (by omega) (by omega))).trans (Turned.setCell _ _ _ _ (by omega) (by omega))
  have hsz := HS.out
  have hT1 := hT (.slice (some ⟨W2.heap.size, 0, none⟩) no no) (.slice (some ⟨W.heap.size, 0, none⟩) nm nm) (.slice (some ⟨W2.heap.size, 0, none⟩) no no)
  have hsT := hT1.size
  refine ⟨_, _, _, _, by rw [HNM.out, HNO.out], ⟨⟨L', O', RM, RO', by rw [HMS.out]; exact R.out.ms, by rw [HOS.out]; exact R.out.os, (P1.out.turned hT1 (by omega) (by omega)).mono (by omega) (by omega), (O2.out.turned hT1 (by omega) (by omega)).mono (by omega) (by omega), ?_⟩, by rw [HNM.out]; exact Nat.le_refl _, by omega, by rw [HNO.out]; exact Nat.le_refl _, by omega⟩, Below.thenTurned B2.out hT1 (by omega) (by omega)⟩
  exact (P2.out.turned hT1 (by omega) (by omega)).join (S2.out.turned hT1 (by omega) (by omega)) (by omega) (by omega) (by omega) (by omega) (by omega)
end C
end Go.Proofs.Ytbcobheiofajeaa
