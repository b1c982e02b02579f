/-
  CONTRACT of impl.inOrder: the maze with its doors sorted in place, or the empty one and false; what lay elsewhere stays. Condition: the maze may be written, at most 1048576 doors and keys.
-/
import Derived.Test.YtmccpjdgnenmeaaSortW
import Derived.Test.YtmccpjdgnenmeaaMzEnd
import Derived.Test.YtmccpjdgnenmeaaIsMaze2
namespace Go.Proofs.Ytmccpjdgnenmeaa
open Go.RowKit
namespace M
def sorted (m : Mz) : Mz := ⟨m.size, srt m.doors, m.keys⟩
def sortedB (m : Mz) : Bool := mazeB (sorted m)
def sortedV (m : Mz) : Mz := if sortedB m then sorted m else C.mz0
theorem sortedV_yes {m : Mz} (h : sortedB m = true) : sortedV m = sorted m := by unfold sortedV; rw [if_pos h]
theorem sortedV_no {m : Mz} (h : sortedB m = false) : sortedV m = C.mz0 := by unfold sortedV; rw [h]; rfl
end M
namespace C
set_option maxHeartbeats 1600000
set_option maxRecDepth 20000
/-- a maze handed back in memory from B on, and whether it could be done; outside B..hi-1 nothing has turned -/
def OrdPost (B hi : Nat) (w : World) (m : M.Mz) (ok : Bool) (e : Ending) (w' : World) : Prop :=
  ∃ a c b d, e = .returned (.tuple #[.agg #[.int .i64 m.size, .slice a m.doors.length c, .slice b m.keys.length d], .bool ok]) ∧ MzOwn B w'.heap.size w' m a c b d ∧ Turned B hi w w'
theorem ordNo_end {B hi : Nat} {w w3 : World} {u0 u1 u2 : Value} (hB : Turned B hi w w3) :
    OrdPost B hi w mz0 false (.returned (.tuple #[.agg #[.int .i64 0, .slice none 0 0, .slice none 0 0], .bool false])) (((w3.setCell ⟨w.heap.size + 1, 0, none⟩ u0).setCell ⟨w.heap.size + 1, 1, none⟩ u1).setCell ⟨w.heap.size + 1, 2, none⟩ u2) := by
  have hb : ∀ k, k < w.heap.size → ((((w3.setCell ⟨w.heap.size + 1, 0, none⟩ u0).setCell ⟨w.heap.size + 1, 1, none⟩ u1).setCell ⟨w.heap.size + 1, 2, none⟩ u2)).heap[k]? = w3.heap[k]? := fun k hk => by
    rw [Below.heap_setCell _ ⟨w.heap.size + 1, 2, none⟩ u2 k (by show k ≠ w.heap.size + 1; omega), Below.heap_setCell _ ⟨w.heap.size + 1, 1, none⟩ u1 k (by show k ≠ w.heap.size + 1; omega), Below.heap_setCell _ ⟨w.heap.size + 1, 0, none⟩ u0 k (by show k ≠ w.heap.size + 1; omega)]
  exact ⟨_, _, _, _, rfl, MzOwn.zero _ _ _, ⟨hB.os, hB.tape, hB.output, by simpa [World.setCell] using hB.size, fun k hk ho => (hb k hk).trans (hB.block k hk ho)⟩⟩
theorem ordYes_end {B hi nd nk : Nat} {w w3 : World} {m : M.Mz} {a b : Option Addr} {c d : Nat} {u0 u1 u2 : Value} (hz : hi ≤ w.heap.size) (hB : Turned B hi w w3) (ho : MzOwn B hi w3 m a c b d) (hnd : m.doors.length = nd) (hnk : m.keys.length = nk) :
    OrdPost B hi w m true (.returned (.tuple #[.agg #[.int .i64 m.size, .slice a nd c, .slice b nk d], .bool true])) (((w3.setCell ⟨w.heap.size + 1, 0, none⟩ u0).setCell ⟨w.heap.size + 1, 1, none⟩ u1).setCell ⟨w.heap.size + 1, 2, none⟩ u2) := by
  subst hnd; subst hnk
  have hT : Turned (w.heap.size + 1) (w.heap.size + 1 + 1) w3 (((w3.setCell ⟨w.heap.size + 1, 0, none⟩ u0).setCell ⟨w.heap.size + 1, 1, none⟩ u1).setCell ⟨w.heap.size + 1, 2, none⟩ u2) :=
    ((Turned.setCell _ _ _ _ (by omega) (by omega)).trans (Turned.setCell _ _ _ _ (by omega) (by omega))).trans (Turned.setCell _ _ _ _ (by omega) (by omega))
  have hs := hB.size
  have hs2 := hT.size
  exact ⟨_, _, _, _, rfl, (ho.turned hT (by omega) (.inl (by omega))).mono (Nat.le_refl _) (by omega), ⟨hT.os.trans hB.os, hT.tape.trans hB.tape, hT.output.trans hB.output, by omega, fun k hk ho => (hT.block k (by omega) (.inl (by omega))).trans (hB.block k hk ho)⟩⟩
theorem inOrder_any (w : World) (B hi : Nat) (m : M.Mz) (a b : Option Addr) (c d : Nat) (h : MzOwn B hi w m a c b d) (hz : hi ≤ w.heap.size) (h1 : m.doors.length ≤ 1048576) (_h2 : m.keys.length ≤ 1048576) :
    Calls Try.prog 74 #[.agg #[.int .i64 m.size, .slice a m.doors.length c, .slice b m.keys.length d]] w (OrdPost B hi w (M.sortedV m) (M.sortedB m)) := by
  have H := Lib.hid h
  clear h
  go_enter Try.func74, Try.ntmps74
  go_wp2_with fail
  refine named ?_
  intro W hW
  have hb : Below w.heap.size w W := by rw [hW]; exact (below_alloc _ _).alloc (by simp) _
  have x1 : Box3 W w.heap.size 27 (.int .i64 m.size) (.slice a m.doors.length c) (.slice b m.keys.length d) := by rw [hW]; exact (Box3.new _ _ _ _ rfl).alloc _
  have y1 : Box3 W (w.heap.size + 1) 27 (.int .i64 0) (.slice none 0 0) (.slice none 0 0) := by rw [hW]; exact Box3.new _ _ _ _ (by simp)
  clear hW
  have hzw := hb.size
  have HW := H.out.below hb hz
  obtain ⟨g1, n1, t1, q1, v1⟩ := HW.doors.narrow
  have HK := Lib.hid HW.keys
  have hh1 := HW.c1
  have hh2 := HW.c2
  have hh3 := HW.d1
  have hh4 := HW.d2
  refine (sortDoors_any W g1 (g1 + 1) a c m.doors n1 h1).mono ?_
  rintro e w1 ⟨rfl, od, ht⟩
  have hT := t1 _ ht
  have ok' := HK.out.other ht (fun cur V f hf => by rw [v1 _ _ _ hf]; decide)
  have od' := q1 _ _ (by rw [M.encDs_len, M.encDs_len, M.srt_len]) od
  have HT := Lib.hid (show Turned B hi w w1 from ⟨hT.os.trans hb.os, hT.tape.trans hb.tape, hT.output.trans hb.output, Nat.le_trans hzw hT.size, fun k hk ho => (hT.block k (Nat.lt_of_lt_of_le hk hzw) ho).trans (hb.block k hk)⟩)
  have HM := Lib.hid (show MzOwn B hi w1 (M.sorted m) a c b d from ⟨od', ok', by show (M.srt m.doors).length ≤ c; rw [M.srt_len]; exact hh1, hh2, hh3, hh4⟩)
  have X1 := Lib.hid (x1.turned hT (.inr hz))
  have Y1 := Lib.hid (y1.turned hT (.inr (by omega)))
  have hz1 := hT.size
  clear hb x1 y1 HW n1 t1 q1 v1 od ht hT ok' od' hh1 hh2 hh3 hh4
  obtain ⟨c0, c1, c2⟩ := X1.out.cells
  obtain ⟨k0, k1, k2⟩ := Y1.out.cells
  obtain ⟨f0, f1, f2⟩ := Y1.out.free
  have hyl := Y1.out.lt
  have IM := isMaze_any w1 B hi (M.sorted m) a b c d HM.out.mz (by omega)
  have e1 : (M.sorted m).doors.length = m.doors.length := M.srt_len _
  have e2 : (M.sorted m).keys.length = m.keys.length := rfl
  have e3 : (M.sorted m).size = m.size := rfl
  rw [e1, e2, e3] at IM
  have E1 := Lib.hid e1
  clear e1 e2 e3
  go_wp2_with fail
  refine IM.mono ?_
  rintro e w2 ⟨rfl, hb2⟩
  have X2 := Lib.hid (X1.out.below hb2)
  have Y2 := Lib.hid (Y1.out.below hb2)
  have hz2 := hb2.size
  have HM2 := Lib.hid (HM.out.below hb2 (by omega))
  have HT2 := Lib.hid (show Turned B hi w w2 from ⟨hb2.os.trans HT.out.os, hb2.tape.trans HT.out.tape, hb2.output.trans HT.out.output, by omega, fun k hk ho => (hb2.block k (by omega)).trans (HT.out.block k hk ho)⟩)
  clear c0 c1 c2 k0 k1 k2 f0 f1 f2 hb2 IM
  obtain ⟨c0, c1, c2⟩ := X2.out.cells
  obtain ⟨k0, k1, k2⟩ := Y2.out.cells
  obtain ⟨f0, f1, f2⟩ := Y2.out.free
  have hyl2 := Y2.out.lt
  show _
  have hsb : M.mazeB (M.sorted m) = M.sortedB m := rfl
  rw [hsb]
  clear hsb
  cases hs : M.sortedB m with
  | false =>
    have HV := Lib.hid (M.sortedV_no hs)
    have HS := Lib.hid hs
    clear hs
    go_wp2_with fail
    refine bodyPost_ret (v := .tuple #[.agg #[.int .i64 0, .slice none 0 0, .slice none 0 0], .bool false]) (by simp [results, Try.results74, go_sem, k0, k1, k2]) rfl ?_
    rw [HV.out, HS.out]
    exact ordNo_end HT2.out
  | true =>
    have HV := Lib.hid (M.sortedV_yes hs)
    have HS := Lib.hid hs
    clear hs
    go_wp2_with fail
    refine bodyPost_ret (v := .tuple #[.agg #[.int .i64 m.size, .slice a m.doors.length c, .slice b m.keys.length d], .bool true]) (by simp [results, Try.results74, go_sem, k0, k1, k2]) rfl ?_
    rw [HV.out, HS.out]
    exact ordYes_end (m := M.sorted m) hz HT2.out HM2.out E1.out rfl
end C
end Go.Proofs.Ytmccpjdgnenmeaa
