/-
  CONTRACTS of the laws' own helpers over mazes: toMaze gives a copy of its own, eqMaze says yes of two that read alike, markMaze writes rising numbers, heldMaze finds them. Condition: at most 1048576 doors and keys.
-/
import Derived.Test.YtddpjjdncmokmaaMaz
namespace Go.Proofs.Ytddpjjdncmokmaa
open Go.RowKit
namespace C
set_option maxHeartbeats 800000
set_option maxRecDepth 20000
theorem toMaze_any (w : World) (lo hi : Nat) (m : M.Mz) (a b : Option Addr) (c d : Nat) (h : MzIn lo hi w m a c b d) (hz : hi ≤ w.heap.size) (h1 : m.doors.length ≤ 1048576) (h2 : m.keys.length ≤ 1048576) :
    Calls Try.prog 17 #[.agg #[.int .i64 m.size, .slice a m.doors.length c, .slice b m.keys.length d]] w (MzPost w m) := by
  have H := Lib.hid h
  clear h
  go_enter Try.func17, Try.ntmps17
  go_wp2_with fail
  refine named ?_
  intro W hW
  have hb : Below w.heap.size w W := by rw [hW]; exact (((Below.refl _ _).alloc (Nat.le_refl _) _).alloc (by simp) _).alloc (by simp; omega) _
  have x1 : Box3 W w.heap.size 25 (.int .i64 m.size) (.slice a m.doors.length c) (.slice b m.keys.length d) := by rw [hW]; exact ((Box3.new _ _ _ _ rfl).alloc _).alloc _
  have x2 : Box3 W (w.heap.size + 1) 27 (.int .i64 0) (.slice none 0 0) (.slice none 0 0) := by rw [hW]; exact (Box3.new _ _ _ _ (by simp)).alloc _
  have x3 : Box3 W (w.heap.size + 1 + 1) 27 (.int .i64 m.size) (.slice none 0 0) (.slice none 0 0) := by rw [hW]; exact Box3.new _ _ _ _ (by simp)
  clear hW
  have hz1 := x3.lt
  have H1 := Lib.hid (H.out.below hb hz)
  have hzw := hb.size
  refine (toDoors_any W lo hi a c m.doors H1.out.doors (by omega) h1).mono ?_
  rintro e w1 ⟨rfl, o1, hb1⟩
  have y1 := x1.below hb1
  have y2 := Lib.hid (x2.below hb1)
  have y3 := x3.below hb1
  obtain ⟨c10, c11, c12⟩ := y1.cells
  obtain ⟨c30, c31, c32⟩ := y3.cells
  obtain ⟨f30, f31, f32⟩ := y3.free
  have Y1 := Lib.hid y1
  have Y3 := Lib.hid y3
  have O1 := Lib.hid o1
  have B1 := Lib.hid (hb.trans (hb1.mono hzw))
  have H2 := Lib.hid (H1.out.below hb1 (by omega))
  have hz2 := hb1.size
  clear y1 y3 o1 hb1 x1 x2 x3 hb
  go_wp2_with fail
  refine named ?_
  intro W2 hW2
  clear c10 c11 c12 c30 c31 c32 f30 f31 f32
  have hT : Turned (w.heap.size + 1 + 1) (w.heap.size + 1 + 1 + 1) w1 W2 := by rw [hW2]; exact Turned.setCell w1 _ 1 _ (by omega) (by omega)
  have x3 : Box3 W2 (w.heap.size + 1 + 1) 27 (.int .i64 m.size) (.slice (some ⟨W.heap.size, 0, none⟩) m.doors.length m.doors.length) (.slice none 0 0) := by
    rw [hW2]
    have := Y3.out
    unfold Box3 at this ⊢
    simp [World.setCell, Array.getElem?_modify, this]
  have hzz : w1.heap.size ≤ W2.heap.size := hT.size
  have hsz : W2.heap.size = w1.heap.size := by rw [hW2]; simp [World.setCell]
  clear hW2
  have x2 := y2.out.turned hT (by omega)
  have o1 := O1.out.turned hT (Nat.le_refl _) (by omega)
  have H3 := H2.out.turned hT (by omega) (by omega)
  refine (toInts_any W2 lo hi b d m.keys H3.keys (by omega) h2).mono ?_
  rintro e w2 ⟨rfl, o2, hb2⟩
  have hz3 := hb2.size
  have z2 := x2.below hb2
  have z3 := x3.below hb2
  have p1 := o1.below hb2 (by omega)
  obtain ⟨c20, c21, c22⟩ := z2.cells
  obtain ⟨f20, f21, f22⟩ := z2.free
  obtain ⟨c30, c31, c32⟩ := z3.cells
  obtain ⟨f30, f31, f32⟩ := z3.free
  have P1 := Lib.hid p1
  have O2 := Lib.hid o2
  have Z2 := Lib.hid z2
  have Z3 := Lib.hid z3
  have HS := Lib.hid hsz
  have B2 := Lib.hid ((Below.thenTurned B1.out hT (by omega) (by omega)).trans (hb2.mono (by omega)))
  clear hT hsz x2 x3 z2 z3 p1 o2 o1 hb2 H3
  go_wp2_with fail
  refine bodyPost_ret (v := .agg #[.int .i64 m.size, .slice (some ⟨W.heap.size, 0, none⟩) m.doors.length m.doors.length, .slice (some ⟨W2.heap.size, 0, none⟩) m.keys.length m.keys.length]) (by simp [results, Try.results17, go_sem, c20, c21, c22]) rfl ?_
  have hT : ∀ u0 u1 u2 u3, Turned (w.heap.size + 1) (w.heap.size + 1 + 1 + 1) w2 ((((w2.setCell ⟨w.heap.size + 1 + 1, 2, none⟩ u0).setCell ⟨w.heap.size + 1, 0, none⟩ u1).setCell ⟨w.heap.size + 1, 1, none⟩ u2).setCell ⟨w.heap.size + 1, 2, none⟩ u3) := fun u0 u1 u2 u3 =>
    (((Turned.setCell _ _ _ _ (by omega) (by omega)).trans (Turned.setCell _ _ _ _ (by omega) (by omega))).trans (Turned.setCell _ _ _ _ (by omega) (by omega))).trans (Turned.setCell _ _ _ _ (by omega) (by omega))
  have hsz := HS.out
  refine ⟨_, _, _, _, rfl, ⟨(P1.out.turned (hT _ _ _ _) (by omega) (by omega)).mono (by omega) ?_, (O2.out.turned (hT _ _ _ _) (Nat.le_refl _) (by omega)).mono (by omega) ?_, Nat.le_refl _, by omega, Nat.le_refl _, by omega⟩, Below.thenTurned B2.out (hT _ _ _ _) (by omega) (by omega)⟩
  · have := (hT (.slice (some ⟨W2.heap.size, 0, none⟩) m.keys.length m.keys.length) (.int .i64 m.size) (.slice (some ⟨W.heap.size, 0, none⟩) m.doors.length m.doors.length) (.slice (some ⟨W2.heap.size, 0, none⟩) m.keys.length m.keys.length)).size
    omega
  · exact (hT _ _ _ _).size
theorem eqMaze_any (w : World) (lo hi lo' hi' : Nat) (m : M.Mz) (a b a' b' : Option Addr) (c d c' d' : Nat) (h : MzIn lo hi w m a c b d) (h' : MzIn lo' hi' w m a' c' b' d') (hz : hi ≤ w.heap.size) (hz' : hi' ≤ w.heap.size) (h1 : m.doors.length ≤ 1048576) (h2 : m.keys.length ≤ 1048576) :
    Calls Try.prog 20 #[.agg #[.int .i64 m.size, .slice a m.doors.length c, .slice b m.keys.length d], .agg #[.int .i64 m.size, .slice a' m.doors.length c', .slice b' m.keys.length d']] w fun e w' => e = .returned (.bool true) ∧ Below w.heap.size w w' := by
  have H := Lib.hid h
  have H' := Lib.hid h'
  clear h h'
  go_enter Try.func20, Try.ntmps20
  go_wp2_with fail
  refine named ?_
  intro W hW
  have hb : Below w.heap.size w W := by rw [hW]; exact ((Below.refl _ _).alloc (Nat.le_refl _) _).alloc (by simp) _
  have x1 : Box3 W w.heap.size 27 (.int .i64 m.size) (.slice a m.doors.length c) (.slice b m.keys.length d) := by rw [hW]; exact (Box3.new _ _ _ _ rfl).alloc _
  have x2 : Box3 W (w.heap.size + 1) 27 (.int .i64 m.size) (.slice a' m.doors.length c') (.slice b' m.keys.length d') := by rw [hW]; exact Box3.new _ _ _ _ (by simp)
  clear hW
  have hzw := hb.size
  have H1 := Lib.hid (H.out.below hb hz)
  have H1' := Lib.hid (H'.out.below hb hz')
  refine (eqDoors_any W lo hi lo' hi' a a' c c' m.doors (by omega) H1.out.doors H1'.out.doors (by omega) (by omega)).mono ?_
  rintro e w1 ⟨rfl, hb1⟩
  have y1 := x1.below hb1
  have y2 := x2.below hb1
  obtain ⟨c10, c11, c12⟩ := y1.cells
  obtain ⟨c20, c21, c22⟩ := y2.cells
  have hz1 := hb1.size
  have H2 := Lib.hid (H1.out.below hb1 (by omega))
  have H2' := Lib.hid (H1'.out.below hb1 (by omega))
  have B := Lib.hid (hb.trans (hb1.mono hzw))
  clear x1 x2 y1 y2 hb hb1
  go_wp2_with fail
  refine (eqInts_any w1 lo hi lo' hi' b b' d d' m.keys (by omega) H2.out.keys H2'.out.keys).mono ?_
  rintro e w2 ⟨rfl, n, rfl⟩
  go_wp2_with fail
  go_ret
  exact ⟨rfl, Below.drawnN B.out _⟩
theorem markDoors_any (w : World) (lo hi : Nat) (a : Option Addr) (c n k0 : Nat) (xs0 : List Value) (hn : xs0.length = n * 3) (hl : n ≤ 1073741824) (hk0 : k0 ≤ 4294967296) (h : OwnAt lo hi w 97 a xs0) :
    Calls Try.prog 60 #[.slice a n c, .int .i64 k0] w fun e w' => e = .returned (.int .i64 ((k0 + n * 3 : Nat) : Int)) ∧ OwnAt lo hi w' 97 a (M.marks k0 (n * 3)) ∧ Turned lo hi w w' := by
  have h' := Lib.hid h
  have HN0 := Lib.hid hn
  clear h hn
  go_enter Try.func60, Try.ntmps60
  go_wp2_with fail
  go_loopw [1, 5, 6] (fun m i _ wr => ∃ (k : Nat) (xs : List Value), k ≤ n ∧ i = .int .i64 k ∧ m = .int .i64 ((k0 + k * 3 : Nat) : Int) ∧ xs.length = n * 3 ∧ xs.take (k * 3) = M.marks k0 (k * 3) ∧
      OwnAt lo hi wr 97 a xs ∧ Turned lo hi w wr) (fun _ i _ _ => n - (intOf i).toNat)
  case atStart => exact ⟨0, xs0, Nat.zero_le _, rfl, by simp, HN0.out, by simp [M.marks], h'.out, Turned.refl _ _ _⟩
  case round =>
    obtain ⟨k, xs, hk, rfl, rfl, hxl, ht, hown, hnx⟩ := hrel
    have HT := Lib.hid ht
    have HX := Lib.hid hxl
    clear ht hxl
    by_cases hlt : k < n
    · have hkx : k * 3 + 2 < xs.length := by have := HX.out; omega
      obtain ⟨b, off, ha, h1, h2, hc⟩ := hown.row.at_ hkx
      subst ha
      obtain ⟨u0, hu0⟩ : ∃ u, xs[k * 3]? = some u := ⟨_, List.getElem?_eq_getElem (by omega)⟩
      obtain ⟨u1, hu1⟩ : ∃ u, xs[k * 3 + 1]? = some u := ⟨_, List.getElem?_eq_getElem (by omega)⟩
      obtain ⟨u2, hu2⟩ : ∃ u, xs[k * 3 + 2]? = some u := ⟨_, List.getElem?_eq_getElem (by omega)⟩
      have d0 : wr.cell? ⟨b, off + k * 3, none⟩ = some u0 := hc _ _ hu0
      have d1 : wr.cell? ⟨b, off + k * 3 + 1, none⟩ = some u1 := hc _ _ hu1
      have d2 : wr.cell? ⟨b, off + k * 3 + 2, none⟩ = some u2 := hc _ _ hu2
      have f0 : wr.frozen? ⟨b, off + k * 3, none⟩ = false := hown.free rfl hkx _
      have f1 : wr.frozen? ⟨b, off + k * 3 + 1, none⟩ = false := hown.free rfl hkx _
      have f2 : wr.frozen? ⟨b, off + k * 3 + 2, none⟩ = false := hown.free rfl hkx _
      have HS := Lib.hid (((hown.set_ rfl (k * 3) (.int .i64 ((k0 + k * 3 : Nat) : Int))).set_ rfl (k * 3 + 1) (.int .i64 ((k0 + (k * 3 + 1) : Nat) : Int))).set_ rfl (k * 3 + 2) (.int .i64 ((k0 + (k * 3 + 2) : Nat) : Int)))
      have HNX := Lib.hid hnx
      have HU := Lib.hid (fun u0 u1 u2 => ((Turned.setCell wr b (off + k * 3) u0 h1 h2).trans (Turned.setCell _ b (off + k * 3 + 1) u1 h1 h2)).trans (Turned.setCell _ b (off + k * 3 + 2) u2 h1 h2))
      have H3 := Lib.hid (set3 xs k (.int .i64 ((k0 + k * 3 : Nat) : Int)) (.int .i64 ((k0 + (k * 3 + 1) : Nat) : Int)) (.int .i64 ((k0 + (k * 3 + 2) : Nat) : Int)) (by omega))
      clear hu0 hu1 hu2 hc hown hnx
      go_wp2_with fail
      refine wp_loop_rounds 4 ?_
      rw [rounds_succ]
      go_wp2_with fail
      rw [rounds_succ]
      go_wp2_with fail
      rw [rounds_succ]
      go_wp2_with fail
      rw [rounds_succ]
      go_wp2_with fail
      go_roundw
      case rel =>
        refine ⟨k + 1, _, by omega, by go_num, by go_num, ?_, ?_, HS.out, HNX.out.trans (HU.out _ _ _)⟩
        · simp only [List.length_set]; exact HX.out
        · rw [H3.out, HT.out, show (k + 1) * 3 = k * 3 + 1 + 1 + 1 by omega, M.marks_succ, M.marks_succ, M.marks_succ]
          simp
      case measure => simp [intOf]; omega
    · obtain rfl : k = n := by omega
      have HO := Lib.hid hown
      have HN := Lib.hid hnx
      clear hown hnx
      go_wp2_with fail
      go_ret
      refine ⟨rfl, ?_, HN.out⟩
      have e : xs = M.marks k0 (k * 3) := by
        have := HT.out
        rwa [List.take_of_length_le (by have := HX.out; omega)] at this
      rw [← e]
      exact HO.out
theorem heldDoors_any (w : World) (lo hi : Nat) (a : Option Addr) (c n k0 : Nat) (hl : n ≤ 1073741824) (hk0 : k0 ≤ 4294967296) (h : RowIn lo hi w a (M.marks k0 (n * 3))) :
    Calls Try.prog 61 #[.slice a n c, .int .i64 k0] w fun e w' => e = .returned (.int .i64 ((k0 + n * 3 : Nat) : Int)) ∧ w = w' := by
  have h' := Lib.hid h
  clear h
  go_enter Try.func61, Try.ntmps61
  go_wp2_with fail
  go_loop [1, 5, 6] (fun m i _ => ∃ (k : Nat), k ≤ n ∧ i = .int .i64 k ∧ m = .int .i64 ((k0 + k * 3 : Nat) : Int)) (fun _ i _ => n - (intOf i).toNat)
  case atStart => exact ⟨0, Nat.zero_le _, rfl, by simp⟩
  case round =>
    obtain ⟨k, hk, rfl, rfl⟩ := hrel
    by_cases hlt : k < n
    · obtain ⟨b, off, rfl, _, _, hc⟩ := h'.out.at_ (k := k * 3) (by rw [M.marks_len]; omega)
      have d0 : w.cell? ⟨b, off + k * 3, none⟩ = some (.int .i64 ((k0 + k * 3 : Nat) : Int)) := hc (k * 3) _ (M.marks_at (by omega))
      have d1 : w.cell? ⟨b, off + k * 3 + 1, none⟩ = some (.int .i64 ((k0 + (k * 3 + 1) : Nat) : Int)) := hc (k * 3 + 1) _ (M.marks_at (by omega))
      have d2 : w.cell? ⟨b, off + k * 3 + 2, none⟩ = some (.int .i64 ((k0 + (k * 3 + 2) : Nat) : Int)) := hc (k * 3 + 2) _ (M.marks_at (by omega))
      have e1 : ((k0 + (k * 3 + 1) : Nat) : Int) = ((k0 + k * 3 : Nat) : Int) + 1 := by omega
      have e2 : ((k0 + (k * 3 + 2) : Nat) : Int) = ((k0 + k * 3 : Nat) : Int) + 1 + 1 := by omega
      rw [e1] at d1
      rw [e2] at d2
      clear hc e1 e2
      go_wp2_with fail
      refine wp_loop_rounds 4 ?_
      rw [rounds_succ]
      go_wp2_with fail
      rw [rounds_succ]
      go_wp2_with fail
      rw [rounds_succ]
      go_wp2_with fail
      rw [rounds_succ]
      go_wp2_with fail
      go_round
      case rel => exact ⟨k + 1, by omega, by go_num, by go_num⟩
      case measure => simp [intOf]; omega
    · obtain rfl : k = n := by omega
      go_wp2_with fail
      go_ret
      exact ⟨rfl, rfl⟩
/-- a maze whose numbers are rising ones from k on -/
def MzMarked (lo hi : Nat) (w : World) (k n1 n2 : Nat) (a b : Option Addr) : Prop := RowIn lo hi w a (M.marks k (n1 * 3)) ∧ RowIn lo hi w b (M.marks (k + n1 * 3) n2)
theorem MzMarked.turned {lo hi lo' hi' k n1 n2 : Nat} {w w' : World} {a b : Option Addr} (h : MzMarked lo hi w k n1 n2 a b) (t : Turned lo' hi' w w') (hz : hi ≤ w.heap.size) (hd : hi ≤ lo' ∨ hi' ≤ lo) : MzMarked lo hi w' k n1 n2 a b := ⟨h.1.turned t hz hd, h.2.turned t hz hd⟩
theorem tne : 97 ≠ 3 := by decide
theorem markMaze_any (w : World) (lo hi : Nat) (m : M.Mz) (a b : Option Addr) (c d k0 : Nat) (h : MzOwn lo hi w m a c b d) (hz : hi ≤ w.heap.size) (h1 : m.doors.length ≤ 1048576) (h2 : m.keys.length ≤ 1048576) (hk0 : k0 ≤ 1073741824) :
    Calls Try.prog 22 #[.agg #[.int .i64 m.size, .slice a m.doors.length c, .slice b m.keys.length d], .int .i64 k0] w fun e w' => e = .returned (.int .i64 ((k0 + m.doors.length * 3 + m.keys.length : Nat) : Int)) ∧ MzMarked lo hi w' k0 m.doors.length m.keys.length a b ∧ Turned lo hi w w' := by
  have H := Lib.hid h
  clear h
  go_enter Try.func22, Try.ntmps22
  go_wp2_with fail
  refine named ?_
  intro W hW
  have hb : Below w.heap.size w W := by rw [hW]; exact (Below.refl _ _).alloc (Nat.le_refl _) _
  have x1 : Box3 W w.heap.size 27 (.int .i64 m.size) (.slice a m.doors.length c) (.slice b m.keys.length d) := by rw [hW]; exact Box3.new _ _ _ _ rfl
  clear hW
  have hzw := hb.size
  have hlt := x1.lt
  have H1 := H.out.below hb hz
  obtain ⟨g1, n1, t1, q1, v1⟩ := H1.doors.narrow
  have T0 := Lib.hid (Turned.of_below hb lo hi)
  have O1 := Lib.hid H1.keys
  clear H1 hb
  refine (markDoors_any W g1 (g1 + 1) a c m.doors.length k0 _ (M.encDs_len _) (by omega) (by omega) n1).mono ?_
  rintro e w1 ⟨rfl, r1, tt1⟩
  have T1 := Lib.hid (t1 _ tt1)
  have o2 := O1.out.other tt1 fun cur V f hf => by rw [v1 _ _ _ hf]; exact tne
  have y1 := x1.turned T1.out (.inr (by omega))
  obtain ⟨c10, c11, c12⟩ := y1.cells
  obtain ⟨g2, n2, t2, q2, v2⟩ := o2.narrow
  have hz1 := T1.out.size
  have R1 := Lib.hid (q1 _ _ (by rw [M.marks_len, M.encDs_len]) r1)
  have Q2 := Lib.hid q2
  have T2' := Lib.hid t2
  have V2 := Lib.hid v2
  have hN := Lib.hid n2
  clear t1 x1 y1 n1 tt1 r1 q1 v1 q2 t2 v2 n2 o2
  go_wp2_with fail
  refine (markInts_any w1 g2 (g2 + 1) b d m.keys.length (k0 + m.doors.length * 3) _ (M.encIs_len _) (by omega) (by omega) hN.out).mono ?_
  rintro e w2 ⟨rfl, r2, tt2⟩
  have R1' := Lib.hid (R1.out.other tt2 fun cur V f hf => by rw [V2.out _ _ _ hf]; exact Ne.symm tne).row
  have R2 := Lib.hid (Q2.out _ _ (by rw [M.marks_len, M.encIs_len]) r2).row
  have F := Lib.hid (T0.out.trans (T1.out.trans (T2'.out _ tt2)))
  clear r2 tt2
  go_wp2_with fail
  go_ret
  exact ⟨rfl, ⟨R1'.out, R2.out⟩, F.out⟩
theorem heldMaze_any (w : World) (lo hi : Nat) (s : Int) (n1 n2 : Nat) (a b : Option Addr) (c d k0 : Nat) (h : MzMarked lo hi w k0 n1 n2 a b) (hz : hi ≤ w.heap.size) (h1 : n1 ≤ 1048576) (h2 : n2 ≤ 1048576) (hk0 : k0 ≤ 1073741824) :
    Calls Try.prog 24 #[.agg #[.int .i64 s, .slice a n1 c, .slice b n2 d], .int .i64 k0] w fun e w' => e = .returned (.int .i64 ((k0 + n1 * 3 + n2 : Nat) : Int)) ∧ Below w.heap.size w w' := by
  have H := Lib.hid h
  clear h
  go_enter Try.func24, Try.ntmps24
  go_wp2_with fail
  refine named ?_
  intro W hW
  have hb : Below w.heap.size w W := by rw [hW]; exact (Below.refl _ _).alloc (Nat.le_refl _) _
  have x1 : Box3 W w.heap.size 27 (.int .i64 s) (.slice a n1 c) (.slice b n2 d) := by rw [hW]; exact Box3.new _ _ _ _ rfl
  clear hW
  have H1 := Lib.hid (H.out.turned (Turned.of_below hb hi hi) hz (.inl (Nat.le_refl _)))
  have B := Lib.hid hb
  obtain ⟨c10, c11, c12⟩ := x1.cells
  clear hb x1
  refine (heldDoors_any W lo hi a c n1 k0 (by omega) (by omega) H1.out.1).mono ?_
  rintro e w1 ⟨rfl, rfl⟩
  go_wp2_with fail
  refine (heldInts_any W lo hi b d n2 (k0 + n1 * 3) (by omega) (by omega) H1.out.2).mono ?_
  rintro e w1 ⟨rfl, rfl⟩
  go_wp2_with fail
  go_ret
  exact ⟨rfl, B.out⟩
end C
end Go.Proofs.Ytddpjjdncmokmaa
