/-
  CONTRACT of impl.roundOf: the round in which a node is entered, told by the program's pairs, or 0; what lay in memory stays. Condition: the pairs of a valid maze, a node.
-/
import Derived.Test.YtoiapfdlbkncaaaIdxG
namespace Go.Proofs.Ytoiapfdlbkncaaa
open Go.RowKit
namespace M
def bitB (x : Nat) (q : Gn) : Bool := bits .and .i64 (q.1 / 2 ^ x) 1 == 1
theorem bit_pair {m : Mz} (V : Valid m) (s : Int) (i x : Nat) : bitB x (pairAt m s i) = digB (gn m s i) x := bit_test (gn_lt V s i)
theorem idx_ent {m : Mz} (V : Valid m) (s : Int) (G x : Nat) {i : Int} (h : IsIdx (bitB x) (gainsTo m s G) i) : (i = -1 ∧ entTo m s G x = 0) ∨ ∃ k : Nat, i = (k : Int) ∧ entTo m s G x = k ∧ k ≤ G := by
  have key : ∀ j, digB (gn m s (j + 1)) x = false → (x : Int) ∉ reachOf m 0 (it m s j) := fun j hf hm => by
    rw [(digB_gn V s j x).2 hm] at hf
    cases hf
  rcases h with ⟨k, hk, rfl, hp, hn⟩ | ⟨rfl, hn⟩
  · right
    rw [gainsTo_len] at hk
    refine ⟨k, rfl, ?_, by omega⟩
    rw [gainsTo_at, bit_pair V] at hp
    rcases k with _ | r
    · simp [gn, digB] at hp
    · rw [entTo_pos]
      refine ⟨by omega, (digB_gn V s r x).1 hp, fun j hj => key j ?_⟩
      have := hn (j + 1) (by rw [gainsTo_len]; omega) (by omega)
      rwa [gainsTo_at, bit_pair V] at this
  · left
    refine ⟨rfl, entTo_zero.2 fun j hj => key j ?_⟩
    have := hn (j + 1) (by rw [gainsTo_len]; omega)
    rwa [gainsTo_at, bit_pair V] at this
end M
namespace C
set_option maxHeartbeats 1600000
set_option maxRecDepth 20000
theorem roundOf1_any (B : Nat) (x : Nat) (q : M.Gn) (w : World) (hc : w.cell? ⟨B, 0, none⟩ = some (.int .i64 (x : Int))) (hB : B < w.heap.size) (hx : x < 64) :
    Calls Try.prog 114 (#[.agg #[.int .i64 q.1, .int .i64 q.2]] ++ #[.pointer (some ⟨B, 0, none⟩)]) w fun e w' => e = .returned (.bool (M.bitB x q)) ∧ Below w.heap.size w w' := by
  show Calls Try.prog 114 #[.agg #[.int .i64 q.1, .int .i64 q.2], .pointer (some ⟨B, 0, none⟩)] w _
  have hx0 : ¬ ((x : Nat) : Int) < 0 := by omega
  have hc2 : (w.alloc (.cells #[.int .i64 q.1, .int .i64 q.2] 65)).cell? ⟨B, 0, none⟩ = some (.int .i64 (x : Int)) := ((below_alloc w _).cell (p := ⟨B, 0, none⟩) hB).trans hc
  go_enter Try.func114, Try.ntmps114
  go_wp2_with fail
  go_ret
  exact ⟨by unfold M.bitB; simp, below_alloc _ _⟩
theorem roundOf_any (w : World) (lo hi : Nat) (m : M.Mz) (V : M.Valid m) (s : Int) (G x : Nat) (a : Option Addr) (c : Nat) (h : RowIn lo hi w a (M.encGs (M.gainsTo m s G))) (hz : hi ≤ w.heap.size) (hG : G ≤ 1000) (hx : x < 64) :
    Calls Try.prog 79 #[.slice a (G + 1) c, .int .i64 (x : Int)] w fun e w' => e = .returned (.int .i64 (M.entTo m s G x : Nat)) ∧ Below w.heap.size w w' := by
  have H := Lib.hid h
  have HIE := Lib.hid (fun i hi => M.idx_ent V s G x (i := i) hi)
  clear h V
  go_enter Try.func79, Try.ntmps79
  go_wp2_with fail
  refine named ?_
  intro W hW
  have hb : Below w.heap.size w W := by rw [hW]; exact below_alloc _ _
  have hc : W.cell? ⟨w.heap.size, 0, none⟩ = some (.int .i64 (x : Int)) := by rw [hW]; exact cell_one_new w (.int .i64 x) 3 0 _ rfl
  have hlt : w.heap.size < W.heap.size := by rw [hW]; simp
  clear hW
  have hzw := hb.size
  have HB := Lib.hid hb
  have hg := M.gainsTo_len m s G
  have CI := indexG_any 114 #[.pointer (some ⟨w.heap.size, 0, none⟩)] (M.bitB x) (enters_of Try.func114 (by kernel_rfl) rfl) W lo hi a c (M.gainsTo m s G) (fun W' q hb' => roundOf1_any w.heap.size x q W' ((hb'.cell (p := ⟨w.heap.size, 0, none⟩) hlt).trans hc) (Nat.lt_of_lt_of_le hlt hb'.size) hx) (H.out.below hb hz) (by omega) (by omega)
  rw [hg] at CI
  refine CI.mono ?_
  rintro e w2 ⟨⟨i, rfl, hi⟩, hb2⟩
  have HB2 := Lib.hid (HB.out.trans (hb2.mono hzw))
  clear hb2 hb CI
  rcases HIE.out i hi with ⟨rfl, he⟩ | ⟨k, rfl, he, hk⟩
  · have HE := Lib.hid he
    clear hi he
    go_wp2_with fail
    go_ret
    exact ⟨by rw [HE.out]; rfl, HB2.out⟩
  · have HE := Lib.hid he
    clear hi he
    go_wp2_with fail
    all_goals
      go_ret
      exact ⟨by rw [HE.out]; simp; try omega, HB2.out⟩
end C
end Go.Proofs.Ytoiapfdlbkncaaa
