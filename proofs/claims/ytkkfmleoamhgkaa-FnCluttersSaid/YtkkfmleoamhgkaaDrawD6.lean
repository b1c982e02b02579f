/-
  CONTRACTS of the draws of FnClutters (DrawIsClutter, DrawDualOf, DrawClutterOf, DrawMeetsAll) and of the laws' rInts of two lists that read alike. Condition: a code of at most 65536 bytes.
-/
import Derived.Test.YtkkfmleoamhgkaaDrawC6
namespace Go.Proofs.Ytkkfmleoamhgkaa
open Go.RowKit
namespace C
set_option maxHeartbeats 3200000
set_option maxRecDepth 20000
/-- some list of at most n numbers, in memory of its own -/
def DPost (w : World) (n : Nat) (e : Ending) (w' : World) : Prop :=
  ∃ (l : List Int) (la : Option Addr) (lc : Nat), e = .returned (.slice la l.length lc) ∧ OwnAt w.heap.size w'.heap.size w' 3 la (M.encIs l) ∧ l.length ≤ lc ∧ lc ≤ 9223372036854775807 ∧ l.length ≤ n ∧ (∀ z ∈ l, I64 z) ∧ Below w.heap.size w w'
/-- .. and some number -/
def DIPost (w : World) (n : Nat) (e : Ending) (w' : World) : Prop :=
  ∃ (l : List Int) (la : Option Addr) (lc : Nat) (x : Int), e = .returned (.tuple #[.slice la l.length lc, .int .i64 x]) ∧ OwnAt w.heap.size w'.heap.size w' 3 la (M.encIs l) ∧ l.length ≤ lc ∧ lc ≤ 9223372036854775807 ∧ l.length ≤ n ∧ (∀ z ∈ l, I64 z) ∧ I64 x ∧ Below w.heap.size w w'
theorem drawIsClu_any (w : World) (a : Option Addr) (len cap : Nat) (hl : len ≤ 65536) (hc : CodeAt w.heap.size w a len) :
    Calls Try.prog 16 #[.slice a len cap] w (DPost w 64) := by
  have CL := Lib.hid (clutter_any w.heap.size _ w.heap.size a len cap 0 (cur_new w a len cap hl hc) (by omega))
  clear hc
  go_enter Try.func16, Try.ntmps16
  go_wp2_with fail
  refine (CL.out).mono ?_
  rintro e w1 ⟨l, la, lc, rfl, ho, h1, h2, h3, h4, hc1, hg1⟩
  have F := Lib.hid (show DPost w 64 (.returned (.slice la l.length lc)) w1 from ⟨l, la, lc, rfl, ho.mono (by simp) (Nat.le_refl _), h1, h2, h3, h4, grown_to_below hg1⟩)
  clear ho h4 hc1 hg1 CL
  go_wp2_with fail
  go_ret
  exact F.out
theorem drawDual_any (w : World) (a : Option Addr) (len cap : Nat) (hl : len ≤ 65536) (hc : CodeAt w.heap.size w a len) :
    Calls Try.prog 5 #[.slice a len cap] w (DPost w 64) := by
  have CL := Lib.hid (drawIsClu_any w a len cap hl hc)
  clear hc
  go_enter Try.func5, Try.ntmps5
  go_wp2_with fail
  refine (CL.out).mono ?_
  rintro e w1 ⟨l, la, lc, rfl, h⟩
  have F := Lib.hid (show DPost w 64 (.returned (.slice la l.length lc)) w1 from ⟨l, la, lc, rfl, h⟩)
  clear h CL
  go_wp2_with fail
  go_ret
  exact F.out
theorem drawClu_any (w : World) (a : Option Addr) (len cap : Nat) (hl : len ≤ 65536) (hc : CodeAt w.heap.size w a len) :
    Calls Try.prog 10 #[.slice a len cap] w (DPost w 7) := by
  have CL := Lib.hid (sets_any w.heap.size _ w.heap.size a len cap 0 (cur_new w a len cap hl hc) (by omega))
  clear hc
  go_enter Try.func10, Try.ntmps10
  go_wp2_with fail
  refine (CL.out).mono ?_
  rintro e w1 ⟨l, la, lc, rfl, ho, h1, h2, h3, h4, hc1, hg1⟩
  have F := Lib.hid (show DPost w 7 (.returned (.slice la l.length lc)) w1 from ⟨l, la, lc, rfl, ho.mono (by simp) (Nat.le_refl _), h1, h2, h3, h4, grown_to_below hg1⟩)
  clear ho h4 hc1 hg1 CL
  go_wp2_with fail
  go_ret
  exact F.out
theorem drawMeets_any (w : World) (a : Option Addr) (len cap : Nat) (hl : len ≤ 65536) (hc : CodeAt w.heap.size w a len) :
    Calls Try.prog 13 #[.slice a len cap] w (DIPost w 64) := by
  have CL := Lib.hid (clutter_any w.heap.size _ w.heap.size a len cap 0 (cur_new w a len cap hl hc) (by omega))
  clear hc
  go_enter Try.func13, Try.ntmps13
  go_wp2_with fail
  refine (CL.out).mono ?_
  rintro e w1 ⟨l, la, lc, rfl, ho, h1, h2, h3, h4, hc1, hg1⟩
  have CO := Lib.hid (colours_any w.heap.size w1 w.heap.size a len cap _ hc1 (by omega))
  have O1 := Lib.hid ho
  have L1 := Lib.hid h4
  have G1 := Lib.hid hg1
  have hz1 := hg1.size
  rw [World.size_alloc] at hz1
  clear ho h4 hc1 hg1 CL
  go_wp2_with fail
  refine (CO.out).mono ?_
  rintro e w2 ⟨x, rfl, hx, hc2, hg2⟩
  have F := Lib.hid (show DIPost w 64 (.returned (.tuple #[.slice la l.length lc, .int .i64 x])) w2 from ⟨l, la, lc, x, rfl, (O1.out.grownRow hg2 (Nat.le_refl _) (fun z e => by injection e with e; simp; omega)).mono (by simp) hg2.size, h1, h2, h3, L1.out, hx, grown_to_below (grown_trans G1.out hg2)⟩)
  clear hx hc2 hg2 CO
  go_wp2_with fail
  go_ret2
  exact F.out
theorem rInts_same (w : World) (lo hi lo' hi' : Nat) (a b : Option Addr) (c1 c2 : Nat) (l : List Int) (hl : l.length ≤ 9223372036854775806) (h1 : RowIn lo hi w a (M.encIs l)) (h2 : RowIn lo' hi' w b (M.encIs l)) :
    Calls Try.prog 9 #[.slice a l.length c1, .slice b l.length c2] w fun e w' => e = .returned (.bool true) ∧ ∃ m, w' = w.drewN m := by
  have h1' := Lib.hid h1
  have h2' := Lib.hid h2
  clear h1 h2
  go_enter Try.func9, Try.ntmps9
  go_wp2_with fail
  go_loopw [5] (fun i wr => ∃ (k m : Nat), k ≤ l.length ∧ i = .int .i64 k ∧ wr = w.drewN m) (fun i _ => l.length - (intOf i).toNat)
  case atStart => exact ⟨0, 0, Nat.zero_le _, rfl, rfl⟩
  case round =>
    obtain ⟨k, m, hk, rfl, rfl⟩ := hrel
    by_cases hlt : k < l.length
    · obtain ⟨ab, ao, rfl, _, _, hca0⟩ := h1'.out.at_ (k := k) (by rw [M.encIs_len]; exact hlt)
      obtain ⟨bb, bo, rfl, _, _, hcb0⟩ := h2'.out.at_ (k := k) (by rw [M.encIs_len]; exact hlt)
      have hca := hca0 k _ (M.encIs_at hlt)
      have hcb := hcb0 k _ (M.encIs_at hlt)
      clear hca0 hcb0
      go_wp2_with fail
      go_quiet (fail)
      go_wp2_with fail
      go_roundw
      case rel => exact ⟨k + 1, _, by omega, by go_num, rfl⟩
      case measure => simp [intOf]; omega
    · go_wp2_with fail
      go_ret
      exact ⟨rfl, _, rfl⟩
theorem rBig_any (w : World) (a : Option Addr) (len cap : Nat) (hl : len ≤ 65536) :
    Calls Try.prog 4 #[.slice a len cap] w fun e w' => e = .returned (.bool false) ∧ w = w' := by
  go_enter Try.func4, Try.ntmps4
  have hd : decide ((65536 : Int) < (len : Int)) = false := decide_eq_false (by omega)
  go_wp2_with fail
  go_ret
  exact ⟨rfl, rfl⟩
end C
end Go.Proofs.Ytkkfmleoamhgkaa
