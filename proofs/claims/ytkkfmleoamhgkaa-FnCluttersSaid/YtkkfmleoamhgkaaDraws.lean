/-
  CONTRACTS of the cursor's draws of colours and nodes: few gives a number, nodeOf a number; each writes the cursor's own block alone, beside new blocks. Conditions: as for the cursor.
-/
import Derived.Test.YtkkfmleoamhgkaaCurM
import Derived.Test.YtkkfmleoamhgkaaOpenMath
namespace Go.Proofs.Ytkkfmleoamhgkaa
open Go.RowKit
namespace C
set_option maxHeartbeats 1600000
set_option maxRecDepth 20000
/-- the post of a draw of a number: the cursor at most k places on; its block alone has turned -/
def DrawPost (B : Nat) (w : World) (g : Nat) (a : Option Addr) (len cap p k : Nat) (Q : Int → Prop) (e : Ending) (w' : World) : Prop :=
  ∃ r : Int, e = .returned (.int .i64 r) ∧ Q r ∧ CurAt B w' g a len cap (p + k) ∧ w.grownBy w' (some g)
theorem shl_bd (r : Int) (h0 : 0 ≤ r) (h1 : r < 6) : 0 ≤ wrap64 (2 ^ r.toNat) ∧ wrap64 (2 ^ r.toNat) < 64 := by
  have : r = 0 ∨ r = 1 ∨ r = 2 ∨ r = 3 ∨ r = 4 ∨ r = 5 := by omega
  rcases this with rfl | rfl | rfl | rfl | rfl | rfl <;> decide +kernel
theorem few_any (B : Nat) (w : World) (g : Nat) (a : Option Addr) (len cap p : Nat) (n : Int) (h : CurAt B w g a len cap p) (hp : p ≤ 1073740000) (hn : 1 ≤ n) (hn2 : n ≤ 6) :
    Calls Try.prog 40 #[.pointer (some ⟨g, 0, none⟩), .int .i64 n] w (DrawPost B w g a len cap p 6 fun r => 0 ≤ r ∧ r < 64) := by
  have AM := Lib.hid (among_new B w g a len cap p [0, 1, 1, 1, 2] h (by omega) (by decide) (by decide) 3 5 rfl 5 (Nat.le_refl _) #[.int .i64 0, .int .i64 1, .int .i64 1, .int .i64 1, .int .i64 2] rfl)
  have hlt := h.lt
  clear h
  go_enter Try.func40, Try.ntmps40
  go_wp2_with fail
  refine (AM.out).mono ?_
  rintro e w1 ⟨s, rfl, hs, hc1, hg1⟩
  have hs2 : ∃ k : Nat, s = k ∧ k ≤ 2 := by
    simp at hs
    rcases hs with rfl | rfl | rfl
    · exact ⟨0, rfl, by omega⟩
    · exact ⟨1, rfl, by omega⟩
    · exact ⟨2, rfl, by omega⟩
  obtain ⟨k0, rfl, hk0⟩ := hs2
  have C1 := Lib.hid hc1
  have G1 := Lib.hid hg1
  clear hc1 hg1 hs AM
  go_wp2_with fail
  go_loopw [5, 6] (fun v5 v6 wr => ∃ (k : Nat) (r : Int), k ≤ k0 ∧ v6 = .int .i64 (k : Int) ∧ v5 = .int .i64 r ∧ 0 ≤ r ∧ r < 64 ∧ CurAt B wr g a len cap (p + 2 + 2 * (k0 - k)) ∧ w.grownBy wr (some g)) (fun _ v6 _ => (intOf v6).toNat)
  case atStart => exact ⟨k0, 0, Nat.le_refl _, rfl, rfl, by decide, by decide, C1.out.mono (by omega), G1.out⟩
  case round =>
    obtain ⟨k, r, hk, rfl, rfl, hr0, hr1, hc, hg⟩ := hrel
    have PK := Lib.hid (pick_any B wr g a len cap _ n hc (by omega) hn (by omega))
    have GG := Lib.hid hg
    have CC := Lib.hid hc
    clear hc hg
    by_cases hk0' : k = 0
    · subst hk0'
      go_wp2_with fail
      go_ret
      exact ⟨r, rfl, ⟨hr0, hr1⟩, CC.out.mono (by omega), GG.out⟩
    · obtain ⟨j, rfl⟩ : ∃ j, k = j + 1 := ⟨k - 1, by omega⟩
      have hkp : (0 : Int) < ((j + 1 : Nat) : Int) := by omega
      go_wp2_with fail
      refine (PK.out).mono ?_
      rintro e w2 ⟨x, rfl, hx0, hx1, hc2, hg2⟩
      have C2 := Lib.hid hc2
      have G2 := Lib.hid (grown_trans GG.out hg2)
      have hsh := shl_bd x hx0 (by omega)
      have hor := M.or_set hr0 hr1 hsh.1 hsh.2
      clear hc2 hg2 PK
      have hx64 : ¬ x < 0 := by omega
      go_wp2_with fail
      go_roundw
      case rel => exact ⟨j, _, by omega, by go_num, rfl, hor.1, hor.2, C2.out.mono (by omega), G2.out⟩
      case measure => simp [intOf]
end C
end Go.Proofs.Ytkkfmleoamhgkaa
