/-
  CONTRACT of spec.DrawAppendChecksum: it gives a string of at most 3999 bytes; what lay in memory stays. Condition: the code reads as bytes and has at most 65536 of them.
-/
import Derived.Test.YtlbnofkjjjbfnaaDoorDraw
import Derived.Laws.IdiomStrings
import Derived.Laws.MakeOwn
import Derived.WalkKit
import Derived.WalkSpells
import Derived.WalkLawsBesides
import Derived.Lib.Hide
namespace Go.Proofs.YtlbnofkjjjbfnaaDoor
open Go.RowKit
namespace C
theorem infoByte : (Tryd.prog.info? 5).map (fun i => (i.zero, i.size, i.bytes)) = some (some (.int .u8 0), 1, 1) := by kernel_rfl

theorem made_zero (n j : Nat) (h : j < n) : (madeCells #[Value.int .u8 0] n)[j]? = some (.int .u8 0) := by
  have e : j % 1 = 0 := by omega
  simp [madeCells, h, e]

/-- string(make([]byte, 3990+k)) -/
theorem run_make_bytes (k : Nat) (hk : k < 10) (W : World) :
    (Instr.makeSlice 22 (.int .i64 (3990 + (k : Int))) (.int .i64 (3990 + (k : Int)))).run Tryd.prog W = .ok (.slice (some ⟨W.heap.size, 0, none⟩) (3990 + k) (3990 + k)) (W.alloc (.cells (madeCells #[Value.int .u8 0] (3990 + k)) 5)) := by
  obtain ⟨i0, hi, hz0, hz1, hz2⟩ := info_parts infoByte
  have h := run_make (P := Tryd.prog) W 22 5 i0 (.int .u8 0) Tryd.underlying22 hi hz0 .i64 .i64 (3990 + (k : Int)) (3990 + (k : Int)) (by omega) (by omega) (by rw [hz2]; omega) (by omega)
  rw [hz1] at h
  have e : (3990 + (k : Int)).toNat = 3990 + k := by omega
  rw [e, Nat.mul_one] at h
  exact h
theorem run_back_zeros (n : Nat) (W : World) :
    (convert 22 9 (.slice (some ⟨W.heap.size, 0, none⟩) n n)).run Tryd.prog (W.alloc (.cells (madeCells #[Value.int .u8 0] n) 5)) =
      .ok (.string ⟨(List.replicate n (0 : UInt8)).toArray⟩) (W.alloc (.cells (madeCells #[Value.int .u8 0] n) 5)) := by
  have h := run_convert_bytes_back (P := Tryd.prog) (W.alloc (.cells (madeCells #[Value.int .u8 0] n) 5)) 22 9 5 ⟨W.heap.size, 0, none⟩ n (List.replicate n (0 : UInt8)) Tryd.underlying22 Tryd.underlying5 Tryd.underlying9 (by
    intro j hj
    have hj' : j < n := by simpa using hj
    have e : (⟨W.heap.size, 0, none⟩ : Addr).add j = ⟨W.heap.size, j, none⟩ := by
      unfold Addr.add
      split
      · rename_i h0; subst h0; rfl
      · simp
    rw [e, World.cell?_alloc_new, made_zero n j hj']
    simp)
  simpa using h

set_option maxHeartbeats 800000 in
theorem drawApp_any (w : World) (a : Option Addr) (len cap : Nat) (hl : len ≤ 65536) (hc : CodeAt w.heap.size w a len) :
    Calls Tryd.prog 15 #[.slice a len cap] w (DrawnText 3999 w) := by
  have h0 := cur_new w a len cap hl hc
  have c1 := Lib.hid (one_any _ _ _ _ _ _ _ 20 h0 (by omega) (by omega) (by omega))
  clear hc h0
  go_enter Tryd.func15, Tryd.ntmps15
  go_wp2_with fail
  refine c1.out.mono ?_
  rintro e w1 ⟨b, rfl, hc1, hg1⟩
  have hg1' := Lib.hid hg1
  cases b
  · have c2 := Lib.hid (any1_any _ w1 _ _ _ _ _ hc1 (by omega))
    clear hc1 hg1
    go_wp2_with fail
    refine c2.out.mono ?_
    rintro e w2 ⟨s, rfl, hs, hc2, hg2⟩
    have hb := Lib.hid (nine_size s hs)
    have hg2' := Lib.hid hg2
    clear hs hc2 hg2
    go_wp2_with fail
    go_ret
    exact ⟨s, rfl, Nat.le_trans hb.out (by omega), grown_to_below (grown_trans hg1'.out hg2'.out)⟩
  · have c2 := Lib.hid (pick_any _ _ _ _ _ _ _ 10 hc1 (by omega) (by omega) (by omega))
    clear hc1 hg1
    go_wp2_with fail
    refine c2.out.mono ?_
    rintro e w2 ⟨r, rfl, hr0, hr1, hc2, hg2⟩
    obtain ⟨k, rfl⟩ : ∃ k : Nat, r = k := ⟨r.toNat, by omega⟩
    have hg2' := Lib.hid hg2
    have hmk := run_make_bytes k (by omega)
    have hbk := run_back_zeros (3990 + k)
    clear hc2 hg2
    go_wp2_with fail
    go_ret
    exact ⟨_, rfl, by simp [ByteArray.size]; omega, grown_to_below (grown_trans hg1'.out (grown_trans hg2'.out (grown_alloc _ _ _)))⟩
end C
end Go.Proofs.YtlbnofkjjjbfnaaDoor
