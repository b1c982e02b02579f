/-
  CONTRACTS of IsOpenTo on both sides, and of impl's isOpen: whether there is a door that is open to a set; what lay in memory stays. Condition: for isOpen, a valid maze and a set of colours.
-/
import Derived.Test.YtcoaggnilgfjfaaNeeds
import Derived.Test.YtcoaggnilgfjfaaBoolOk
namespace Go.Proofs.Ytcoaggnilgfjfaa
open Go.RowKit
namespace M
def openVB (m : Mz) (x y set : Int) : Bool := mzNodeB m x && (nodeB m.size y && setB set)
def openV (m : Mz) (x y set : Int) : Bool := openVB m x y set && openB m.doors x y set
end M
namespace C
set_option maxHeartbeats 1600000
set_option maxRecDepth 20000
theorem isOpen1_any (B : Nat) (set x : Int) (w : World) (hc : w.cell? ⟨B, 0, none⟩ = some (.int .i64 set)) :
    Calls Try.prog 168 (#[.int .i64 x] ++ #[.pointer (some ⟨B, 0, none⟩)]) w fun e w' => e = .returned (.bool (M.hasB set x)) ∧ Below w.heap.size w w' := by
  show Calls Try.prog 168 #[.int .i64 x, .pointer (some ⟨B, 0, none⟩)] w _
  go_enter Try.func168, Try.ntmps168
  go_wp2_with fail
  refine (hasAll_any _ _ _).mono ?_
  rintro e w1 ⟨rfl, rfl⟩
  go_wp2_with fail
  go_ret
  exact ⟨rfl, Below.refl _ _⟩
theorem isOpen_any (w : World) (lo hi : Nat) (m : M.Mz) (a b : Option Addr) (c d : Nat) (x y set : Int) (h : MzIn lo hi w m a c b d) (hz : hi ≤ w.heap.size) (V : M.Valid m) (h0 : 0 ≤ set) (h1 : set < 64) :
    Calls Try.prog 161 #[.agg #[.int .i64 m.size, .slice a m.doors.length c, .slice b m.keys.length d], .int .i64 x, .int .i64 y, .int .i64 set] w (BoolPost w (M.openB m.doors x y set)) := by
  have H := Lib.hid h
  have v30 := V.few
  have HE := Lib.hid (M.open_same V (x := x) (y := y) h0 h1)
  clear h V
  go_enter Try.func161, Try.ntmps161
  go_wp2_with fail
  refine named ?_
  intro W hW
  have hb : Below w.heap.size w W := by rw [hW]; exact (below_alloc _ _).alloc (by simp) _
  have hc : W.cell? ⟨w.heap.size + 1, 0, none⟩ = some (.int .i64 set) := by
    rw [hW]
    have := cell_one_new (w.alloc (.cells #[.int .i64 m.size, .slice a m.doors.length c, .slice b m.keys.length d] 29)) (.int .i64 set) 3 0 _ rfl
    rw [World.size_alloc] at this
    exact this
  have hsz : W.heap.size = w.heap.size + 1 + 1 := by rw [hW]; simp
  have hlt : w.heap.size + 1 < W.heap.size := by omega
  clear hsz hW
  have hzw := hb.size
  have HC := Lib.hid hc
  have HB := Lib.hid hb
  clear hc
  refine (needs_any W lo hi m a b c d x y (H.out.below hb hz) (by omega) (by omega)).mono ?_
  rintro e w1 ⟨na, nc, rfl, ho, hq1, hq2, hb1⟩
  have HB1 := Lib.hid hb1
  have HO := Lib.hid ho
  have hz1 := hb1.size
  have hl := M.needs_len m.doors (min x y) (max x y)
  clear ho hb1 hb hq1 hq2
  go_wp2_with fail
  refine (containsFunc_any 168 #[.pointer (some ⟨w.heap.size + 1, 0, none⟩)] (fun n => M.hasB set n) (enters_of Try.func168 (by kernel_rfl) rfl) w1 _ _ na nc _ (fun W' z hb' => isOpen1_any _ set z W' (((hb'.cell (p := ⟨w.heap.size + 1, 0, none⟩) (show w.heap.size + 1 < _ by omega)).trans (HB1.out.cell (p := ⟨w.heap.size + 1, 0, none⟩) hlt)).trans HC.out)) HO.out.row (Nat.le_refl _) (by omega)).mono ?_
  rintro e w2 ⟨rfl, hb2⟩
  have HB2 := Lib.hid (HB.out.trans ((HB1.out.mono hzw).trans (hb2.mono (by omega))))
  clear hb2
  rw [HE.out]
  go_wp2_with fail
  go_ret
  exact ⟨rfl, HB2.out⟩
end C
end Go.Proofs.Ytcoaggnilgfjfaa
