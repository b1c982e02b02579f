/-
  CONTRACTS of the laws' own helpers over worlds: eqWorlds says yes of two that read alike. Condition: at most 1048576 mazes, doors, keys and owners in all.
-/
import Derived.Test.YtbcobheiofajeaaWlT
import Derived.Deep.RegionWith
namespace Go.Proofs.Ytbcobheiofajeaa
open Go.RowKit
namespace C
set_option linter.unusedVariables false
set_option maxHeartbeats 1600000
set_option maxRecDepth 20000
theorem map_at {α β : Type} {f : α → β} {X Y : List α} (h : X.map f = Y.map f) {k : Nat} (hk : k < X.length) (hk' : k < Y.length) : f Y[k] = f X[k] := by
  have := congrArg (fun l => l[k]?) h
  simp only [List.getElem?_map, List.getElem?_eq_getElem hk, List.getElem?_eq_getElem hk', Option.map_some, Option.some.injEq] at this
  exact this.symm
theorem eqMazeS_any (w : World) (lo hi lo' hi' : Nat) (a a' : Option Addr) (c c' : Nat) (L L' : List Rm) (h : RowIn lo hi w a (encMs L)) (h' : RowIn lo' hi' w a' (encMs L')) (hz : hi ≤ w.heap.size) (hz' : hi' ≤ w.heap.size) (hb : ∀ p ∈ L, MzR lo hi w p) (hb' : ∀ p ∈ L', MzR lo' hi' w p) (he : L.map (·.1) = L'.map (·.1)) (hL : L.length ≤ 1048576) (hs : ∀ p ∈ L, p.1.doors.length ≤ 1048576 ∧ p.1.keys.length ≤ 1048576) (n : Nat) (hn : L.length = n) (hn' : L'.length = n) :
    Calls Try.prog 64 #[.slice a n c, .slice a' n c'] w (fun e w' => e = .returned (.bool true) ∧ Below w.heap.size w w') := by
  have H := Lib.hid h
  have H' := Lib.hid h'
  have HB := Lib.hid hb
  have HB' := Lib.hid hb'
  have HS := Lib.hid hs
  have HE := Lib.hid he
  have HN := Lib.hid hn
  have HN' := Lib.hid hn'
  have hn9 : n ≤ 1048576 := by omega
  clear h h' hb hb' hs he hn hn' hL
  go_enter Try.func64, Try.ntmps64
  go_wp2_with fail
  go_loopw [5] (fun v5 wr => ∃ (k : Nat), k ≤ n ∧ v5 = .int .i64 (k : Int) ∧ Below w.heap.size w wr) (fun v5 _ => n - (intOf v5).toNat)
  case atStart => exact ⟨0, Nat.zero_le _, rfl, Below.refl _ _⟩
  case round =>
    obtain ⟨k, hk, rfl, hlow⟩ := hrel
    have LO := Lib.hid hlow
    have hzr := hlow.size
    clear hlow
    by_cases hkn : k < n
    · have hkl : k < L.length := by rw [HN.out]; exact hkn
      have hkl' : k < L'.length := by rw [HN'.out]; exact hkn
      obtain ⟨b, off, rfl, _, hbb, hc0⟩ := (H.out.turned (Turned.of_below LO.out 0 0) hz (.inr (Nat.zero_le _))).at_ (k := k * 3) (by rw [encMs_len]; omega)
      have c0 := hc0 _ _ (encMs_at0 hkl)
      have c1 : wr.cell? ⟨b, off + k * 3 + 1, none⟩ = some (.slice L[k].2.1 L[k].1.doors.length L[k].2.2.1) := hc0 _ _ (encMs_at1 hkl)
      have c2 : wr.cell? ⟨b, off + k * 3 + 2, none⟩ = some (.slice L[k].2.2.2.1 L[k].1.keys.length L[k].2.2.2.2) := hc0 _ _ (encMs_at2 hkl)
      obtain ⟨b', off', rfl, _, hbb', hc0'⟩ := (H'.out.turned (Turned.of_below LO.out 0 0) hz' (.inr (Nat.zero_le _))).at_ (k := k * 3) (by rw [encMs_len]; omega)
      have hek := map_at HE.out hkl hkl'
      have d0 : wr.cell? ⟨b', off' + k * 3, none⟩ = some (.int .i64 L'[k].1.size) := hc0' _ _ (encMs_at0 hkl')
      have d1 : wr.cell? ⟨b', off' + k * 3 + 1, none⟩ = some (.slice L'[k].2.1 L'[k].1.doors.length L'[k].2.2.1) := hc0' _ _ (encMs_at1 hkl')
      have d2 : wr.cell? ⟨b', off' + k * 3 + 2, none⟩ = some (.slice L'[k].2.2.2.1 L'[k].1.keys.length L'[k].2.2.2.2) := hc0' _ _ (encMs_at2 hkl')
      have hp := (HB.out _ (List.getElem_mem hkl)).turned (Turned.of_below LO.out.drew 0 0) hz (.inr (Nat.zero_le _))
      have hp' := (HB'.out _ (List.getElem_mem hkl')).turned (Turned.of_below LO.out.drew 0 0) hz' (.inr (Nat.zero_le _))
      have hsk := HS.out _ (List.getElem_mem hkl)
      unfold MzR at hp hp'
      rw [hek] at d0 d1 d2 hp'
      have CE := Lib.hid (eqMaze_any wr.drew lo hi lo' hi' L[k].1 L[k].2.1 L[k].2.2.2.1 L'[k].2.1 L'[k].2.2.2.1 L[k].2.2.1 L[k].2.2.2.2 L'[k].2.2.1 L'[k].2.2.2.2 hp hp' (show hi ≤ wr.heap.size by omega) (show hi' ≤ wr.heap.size by omega) hsk.1 hsk.2)
      clear hc0 hc0' hp hp' hek hsk
      generalize L[k].1 = mk at *
      generalize L[k].2.1 = x1 at *
      generalize L[k].2.2.1 = x2 at *
      generalize L[k].2.2.2.1 = x3 at *
      generalize L[k].2.2.2.2 = x4 at *
      generalize L'[k].2.1 = y1 at *
      generalize L'[k].2.2.1 = y2 at *
      generalize L'[k].2.2.2.1 = y3 at *
      generalize L'[k].2.2.2.2 = y4 at *
      go_wp2_with fail
      go_region_with (go_at_call 47; refine (CE.out).mono ?_; rintro e w2 ⟨rfl, hb2⟩)
      all_goals
        have HN2 := Lib.hid (LO.out.drew.trans (hb2.mono hzr))
        clear hb2
        go_wp2_with fail
        go_roundw
        case rel => exact ⟨k + 1, by omega, by go_num, HN2.out⟩
        case measure => simp [intOf]; omega
    · obtain rfl : k = n := by omega
      go_wp2_with fail
      go_ret
      exact ⟨rfl, LO.out⟩
theorem eqOs_any (w : World) (lo hi lo' hi' : Nat) (a a' : Option Addr) (c c' : Nat) (O O' : List Ro) (h : RowIn lo hi w a (encOs O)) (h' : RowIn lo' hi' w a' (encOs O')) (hz : hi ≤ w.heap.size) (hz' : hi' ≤ w.heap.size) (hb : ∀ p ∈ O, OwR lo hi w p) (hb' : ∀ p ∈ O', OwR lo' hi' w p) (he : O.map (·.1) = O'.map (·.1)) (hL : O.length ≤ 1048576) (hs : ∀ p ∈ O, p.1.length ≤ 1048576) (n : Nat) (hn : O.length = n) (hn' : O'.length = n) :
    Calls Try.prog 22 #[.slice a n c, .slice a' n c'] w (fun e w' => e = .returned (.bool true) ∧ Below w.heap.size w w') := by
  have H := Lib.hid h
  have H' := Lib.hid h'
  have HB := Lib.hid hb
  have HB' := Lib.hid hb'
  have HS := Lib.hid hs
  have HE := Lib.hid he
  have HN := Lib.hid hn
  have HN' := Lib.hid hn'
  have hn9 : n ≤ 1048576 := by omega
  clear h h' hb hb' hs he hn hn' hL
  go_enter Try.func22, Try.ntmps22
  go_wp2_with fail
  go_loopw [5] (fun v5 wr => ∃ (k : Nat), k ≤ n ∧ v5 = .int .i64 (k : Int) ∧ Below w.heap.size w wr) (fun v5 _ => n - (intOf v5).toNat)
  case atStart => exact ⟨0, Nat.zero_le _, rfl, Below.refl _ _⟩
  case round =>
    obtain ⟨k, hk, rfl, hlow⟩ := hrel
    have LO := Lib.hid hlow
    have hzr := hlow.size
    clear hlow
    by_cases hkn : k < n
    · have hkl : k < O.length := by rw [HN.out]; exact hkn
      have hkl' : k < O'.length := by rw [HN'.out]; exact hkn
      obtain ⟨b, off, rfl, _, hbb, hc0⟩ := (H.out.turned (Turned.of_below LO.out 0 0) hz (.inr (Nat.zero_le _))).at_ (k := k) (by rw [encOs_len]; omega)
      have c0 := hc0 _ _ (encOs_at hkl)
      obtain ⟨b', off', rfl, _, hbb', hc0'⟩ := (H'.out.turned (Turned.of_below LO.out 0 0) hz' (.inr (Nat.zero_le _))).at_ (k := k) (by rw [encOs_len]; omega)
      have hek := map_at HE.out hkl hkl'
      have d0 : wr.cell? ⟨b', off' + k, none⟩ = some (.slice O'[k].2.1 O'[k].1.length O'[k].2.2) := hc0' _ _ (encOs_at hkl')
      have hp := ((HB.out _ (List.getElem_mem hkl)).turned (Turned.of_below LO.out.drew 0 0) hz (.inr (Nat.zero_le _))).row
      have hp' := ((HB'.out _ (List.getElem_mem hkl')).turned (Turned.of_below LO.out.drew 0 0) hz' (.inr (Nat.zero_le _))).row
      have hsk := HS.out _ (List.getElem_mem hkl)
      rw [hek] at d0 hp'
      have CE := Lib.hid (eqInts_any wr.drew lo hi lo' hi' O[k].2.1 O'[k].2.1 O[k].2.2 O'[k].2.2 O[k].1 (by omega) hp hp')
      clear hc0 hc0' hp hp' hek hsk
      generalize O[k].1 = mk at *
      generalize O[k].2.1 = x1 at *
      generalize O[k].2.2 = x2 at *
      generalize O'[k].2.1 = y1 at *
      generalize O'[k].2.2 = y2 at *
      go_wp2_with fail
      go_region_with (go_at_call 28; refine (CE.out).mono ?_; rintro e w2 ⟨rfl, nd, hW2⟩; have hb2 : Below wr.drew.heap.size wr.drew w2 := (by rw [hW2]; exact below_drawn _ _); clear hW2)
      all_goals
        have HN2 := Lib.hid (LO.out.drew.trans (hb2.mono hzr))
        clear hb2
        go_wp2_with fail
        go_roundw
        case rel => exact ⟨k + 1, by omega, by go_num, HN2.out⟩
        case measure => simp [intOf]; omega
    · obtain rfl : k = n := by omega
      go_wp2_with fail
      go_ret
      exact ⟨rfl, LO.out⟩
theorem eqWorlds_any (w : World) (lo hi lo' hi' : Nat) (m : M.Wl) (a b a' b' : Option Addr) (c d c' d' : Nat) (h : WlIn lo hi w m a c b d) (h' : WlIn lo' hi' w m a' c' b' d') (hz : hi ≤ w.heap.size) (hz' : hi' ≤ w.heap.size) (h1 : M.szW m ≤ 1048576) :
    Calls Try.prog 19 #[.agg #[.slice a m.mazes.length c, .slice b m.owners.length d], .agg #[.slice a' m.mazes.length c', .slice b' m.owners.length d']] w fun e w' => e = .returned (.bool true) ∧ Below w.heap.size w w' := by
  obtain ⟨⟨L, O, r⟩, q1, q2, q3, q4⟩ := h
  obtain ⟨⟨L', O', r'⟩, q1', q2', q3', q4'⟩ := h'
  have hl1 := r.lenM
  have hl2 := r.lenO
  unfold M.szW at h1
  have HM := Lib.hid (fun W (hB : Below w.heap.size w W) => eqMazeS_any W lo hi lo' hi' a a' c c' L L' (r.mazes.below hB hz) (r'.mazes.below hB hz') (Nat.le_trans hz hB.size) (Nat.le_trans hz' hB.size) (fun p hp => (r.maze p hp).below hB hz) (fun p hp => (r'.maze p hp).below hB hz') (by rw [← r.ms, ← r'.ms]) (by omega) (fun p hp => by
    have := szMs_door (show p.1 ∈ m.mazes from by rw [r.ms]; exact List.mem_map_of_mem hp)
    omega) m.mazes.length r.lenM r'.lenM)
  have HO := Lib.hid (fun W (hB : Below w.heap.size w W) => eqOs_any W lo hi lo' hi' b b' d d' O O' (r.owners.below hB hz) (r'.owners.below hB hz') (Nat.le_trans hz hB.size) (Nat.le_trans hz' hB.size) (fun p hp => (r.owner p hp).turned (Turned.of_below hB 0 0) hz (.inr (Nat.zero_le _))) (fun p hp => (r'.owner p hp).turned (Turned.of_below hB 0 0) hz' (.inr (Nat.zero_le _))) (by rw [← r.os, ← r'.os]) (by omega) (fun p hp => by
    have := szOs_len (show p.1 ∈ m.owners from by rw [r.os]; exact List.mem_map_of_mem hp)
    omega) m.owners.length r.lenO r'.lenO)
  clear hl1 hl2 r r' h1
  generalize m.mazes.length = nm at *
  generalize m.owners.length = no at *
  go_enter Try.func19, Try.ntmps19
  go_wp2_with fail
  refine named ?_
  intro W hW
  have hb : Below w.heap.size w W := by rw [hW]; exact ((Below.refl _ _).alloc (Nat.le_refl _) _).alloc (by simp) _
  have x1 : Box2 W w.heap.size 30 (.slice a nm c) (.slice b no d) := by rw [hW]; exact (Box2.new _ _ _ rfl).alloc _
  have x2 : Box2 W (w.heap.size + 1) 30 (.slice a' nm c') (.slice b' no d') := by rw [hW]; exact Box2.new _ _ _ (by simp)
  clear hW
  refine (HM.out W hb).mono ?_
  rintro e w1 ⟨rfl, hb1⟩
  obtain ⟨c10, c11⟩ := (x1.below hb1).cells
  obtain ⟨c20, c21⟩ := (x2.below hb1).cells
  have B := Lib.hid (C.Below.more hb hb1)
  have hzz := (C.Below.more hb hb1).size
  clear x1 x2 hb hb1
  go_wp2_with fail
  refine (HO.out w1 B.out).mono ?_
  rintro e w2 ⟨rfl, hb2⟩
  go_wp2_with fail
  go_ret
  exact ⟨rfl, C.Below.more B.out hb2⟩
end C
end Go.Proofs.Ytbcobheiofajeaa
