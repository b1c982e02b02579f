/-
  THE WALK of laws.FnSplitJoin: it returns true, and what lay in memory stays. Condition: the code reads as bytes, at most 65536 of them.
-/
import Derived.Test.YtlbnofkjjjbfnaaBack
import Derived.Test.YtlbnofkjjjbfnaaDrawSJ
import Derived.Deep.RegionHeld3
import Derived.WalkKit
import Derived.WalkSpells
import Derived.WalkLawsBesides
import Derived.Lib.Hide
namespace Go.Proofs.Ytlbnofkjjjbfnaa
open Go.RowKit
namespace M
theorem less_asymm : ∀ x y : List UInt8, Op.bytesLess x y = true → Op.bytesLess y x = false
  | [], [], h => by simp [Op.bytesLess] at h
  | [], _ :: _, _ => by simp [Op.bytesLess]
  | _ :: _, [], h => by simp [Op.bytesLess] at h
  | a :: x, b :: y, h => by
    simp only [Op.bytesLess, Bool.or_eq_true, decide_eq_true_eq, Bool.and_eq_true, beq_iff_eq] at h
    simp only [Op.bytesLess, Bool.or_eq_false_iff, decide_eq_false_iff_not, Bool.and_eq_false_iff, beq_eq_false_iff_ne]
    rcases h with h | ⟨rfl, h⟩
    · have h1 : ¬ b < a := fun k => absurd h (by rw [UInt8.lt_iff_toNat_lt] at *; omega)
      have h2 : b ≠ a := by rintro rfl; rw [UInt8.lt_iff_toNat_lt] at h; omega
      exact ⟨h1, .inl h2⟩
    · exact ⟨by rw [UInt8.lt_iff_toNat_lt]; omega, .inr (less_asymm x y h)⟩
end M
namespace C
theorem code_under {w w' : World} {a : Option Addr} {len : Nat} (h : CodeAt w.heap.size w a len) (hb : Below w.heap.size w w') : CodeAt w'.heap.size w' a len := by
  rcases h with h | ⟨b, off, ha, hlt, hc⟩
  · exact .inl h
  · refine .inr ⟨b, off, ha, Nat.lt_of_lt_of_le hlt hb.size, fun i hi => ?_⟩
    obtain ⟨z, hz, h0, h1⟩ := hc i hi
    exact ⟨z, (hb.cell (p := ⟨b, off + i, none⟩) hlt).trans hz, h0, h1⟩
theorem implLess_any (a b : ByteArray) (w : World) : Calls Try.prog 15 #[.string a, .string b] w fun e w' => e = .returned (.bool (Op.bytesLess a.toList b.toList)) ∧ w' = w := by
  go_enter Try.func15, Try.ntmps15
  go_wp2
  go_ret
  exact ⟨rfl, rfl⟩
theorem specLess_any (a b : ByteArray) (w : World) : Calls Try.prog 16 #[.string a, .string b] w fun e w' => e = .returned (.bool (Op.bytesLess a.toList b.toList)) ∧ w' = w := by
  go_enter Try.func16, Try.ntmps16
  go_wp2
  go_ret
  exact ⟨rfl, rfl⟩
theorem less_both (a b : ByteArray) : ∃ x y : Bool, (∀ w, Calls Try.prog 15 #[.string a, .string b] w fun e w' => e = .returned (.bool x) ∧ w' = w) ∧ (∀ w, Calls Try.prog 16 #[.string a, .string b] w fun e w' => e = .returned (.bool x) ∧ w' = w) ∧
    (∀ w, Calls Try.prog 15 #[.string b, .string a] w fun e w' => e = .returned (.bool y) ∧ w' = w) ∧ (x = true → y = false) :=
  ⟨_, _, implLess_any a b, specLess_any a b, implLess_any b a, M.less_asymm _ _⟩
theorem tot_le {ss : List ByteArray} {m : Nat} (h : ∀ s ∈ ss, s.size ≤ m) : M.tot ss ≤ ss.length * m := by
  induction ss with
  | nil => simp [M.tot]
  | cons x r ih =>
    have h1 := h x (by simp)
    have h2 := ih (fun s hs => h s (by simp [hs]))
    simp only [M.tot, List.map_cons, List.sum_cons, List.length_cons] at h2 ⊢
    rw [Nat.add_mul]
    omega

set_option maxRecDepth 100000 in
set_option maxHeartbeats 2000000 in
theorem sj_walk (w : World) (a : Option Addr) (len cap : Nat) (hl : len ≤ 65536) (hc : CodeAt w.heap.size w a len) :
    Calls Try.prog 3 #[.slice a len cap] w fun e w' => e = .returned (.bool true) ∧ Below w.heap.size w w' := by
  have HC0 := Lib.hid hc
  have hl' : ¬ 65536 < (len : Int) := by omega
  clear hc
  go_enter Try.func3, Try.ntmps3
  go_wp2_with (go_at_call 8; go_in)
  refine (drawSplit_any _ a len cap hl HC0.out).mono ?_
  rintro e w1 ⟨s, sep, rfl, hs, hsep, hb1⟩
  have B1 := Lib.hid hb1
  clear hb1
  obtain ⟨ss, sb, hsl, ci, _, hgood, hbad⟩ := split_both s sep (by omega) (by omega)
  have CI := Lib.hid ci
  have HG := Lib.hid hgood
  have HB := Lib.hid hbad
  clear ci hgood hbad
  go_wp2_with fail
  refine (CI.out _).mono ?_
  rintro e w2 ⟨g2, c2, rfl, hc2, ho2, hb2⟩
  have B2 := Lib.hid (Below.more B1.out hb2)
  have S2 := Lib.hid (strs_of_own ho2 (own_lt ho2))
  clear hb2 ho2
  go_wp2_with fail
  refine (drawJoin_any _ a len cap hl (code_under HC0.out B2.out)).mono ?_
  rintro e w3 ⟨g3, c3, ks, mk, rfl, hc3, hkl, hks, hmk, hst3, hb3⟩
  have B3 := Lib.hid (Below.more B2.out hb3)
  have S3 := Lib.hid hst3
  have S2b := Lib.hid ((S2.out.below hb3).more hb3.size)
  have htot : M.tot ks ≤ 1048576 := by
    have h1 := tot_le hks
    have h2 : ks.length * 4009 ≤ 4 * 4009 := Nat.mul_le_mul_right _ hkl
    omega
  obtain ⟨jv, jb, ji, js, _⟩ := join_both ks mk (by omega) htot (fun s hs => Nat.le_trans (hks s hs) (by omega))
  have JI := Lib.hid ji
  have JS := Lib.hid js
  clear hb3 hst3 ji js hks htot
  go_wp2_with fail
  refine (JI.out _ _ _ hc3 S3.out).mono ?_
  rintro e w4 ⟨rfl, hb4⟩
  have B4 := Lib.hid (Below.more B3.out hb4)
  have S4 := Lib.hid ((S3.out.below hb4).more hb4.size)
  have S2c := Lib.hid ((S2b.out.below hb4).more hb4.size)
  clear hb4
  go_wp2_with fail
  refine (JS.out _ _ _ S4.out).mono ?_
  rintro e w5 ⟨rfl, hb5⟩
  have B5 := Lib.hid (Below.more B4.out hb5)
  have S2d := Lib.hid ((S2c.out.below hb5).more hb5.size)
  clear hb5
  go_wp2_with fail
  refine (drawLess_any _ a len cap hl (code_under HC0.out B5.out)).mono ?_
  rintro e w6 ⟨la, lb, rfl, hla, hlb, hb6⟩
  have B6 := Lib.hid (Below.more B5.out hb6)
  have S2e := Lib.hid ((S2d.out.below hb6).more hb6.size)
  clear hb6
  obtain ⟨x, y, il, sl, ir, hxy⟩ := less_both la lb
  have IL := Lib.hid il
  have SL := Lib.hid sl
  have IR := Lib.hid ir
  clear il sl ir
  go_wp2_with fail
  refine (IL.out _).mono ?_
  rintro e w7 ⟨rfl, rfl⟩
  go_wp2_with fail
  refine (SL.out _).mono ?_
  rintro e w7 ⟨rfl, rfl⟩
  by_cases hp : sep.size = 1
  · obtain ⟨c, rfl⟩ := one_byte hp
    have hgd := HG.out c rfl (by omega)
    obtain ⟨hse, rfl⟩ := hgd
    have hok : JOk ss c := by rw [hse]; exact jok_split s c (by omega)
    have hbk : M.jB ss ⟨#[c]⟩ = s := by rw [hse]; exact M.back s c
    have htt : M.tot ss ≤ 1048576 := by have := tot_split s c (by omega); rw [hse]; omega
    obtain ⟨jv2, jb2, jl, _, hjv⟩ := join_both ss ⟨#[c]⟩ (by omega) htt (fun x hx => Nat.le_trans (tot_mem hx) htt)
    obtain ⟨hj1, rfl⟩ := hjv c rfl hok
    rw [hbk] at hj1
    subst hj1
    have JL := Lib.hid jl
    clear jl hse hok hbk htt hjv
    have hs1 : (((⟨#[c]⟩ : ByteArray).size : Int) != 1) = false := rfl
    cases x
    · clear hxy
      go_wp2_with fail
      refine (IL.out _).mono ?_
      rintro e w7 ⟨rfl, rfl⟩
      go_wp2_with fail
      refine (JL.out _ _ _ hc2 S2e.out).mono ?_
      rintro e w8 ⟨rfl, hb8⟩
      have B8 := Lib.hid (Below.more B6.out hb8)
      clear hb8
      go_wp2_with fail
      go_ret
      exact ⟨rfl, B8.out⟩
    · obtain rfl : y = false := hxy rfl
      clear hxy
      go_wp2_with fail
      refine (IL.out _).mono ?_
      rintro e w7 ⟨rfl, rfl⟩
      go_wp2_with fail
      refine (IR.out _).mono ?_
      rintro e w7 ⟨rfl, rfl⟩
      go_wp2_with fail
      refine (JL.out _ _ _ hc2 S2e.out).mono ?_
      rintro e w8 ⟨rfl, hb8⟩
      have B8 := Lib.hid (Below.more B6.out hb8)
      clear hb8
      go_wp2_with fail
      go_ret
      exact ⟨rfl, B8.out⟩
  · obtain ⟨rfl, rfl⟩ := HB.out hp
    have hs1 : ((sep.size : Int) != 1) = true := by simp; omega
    cases x
    · clear hxy
      go_wp2_with fail
      refine (IL.out _).mono ?_
      rintro e w7 ⟨rfl, rfl⟩
      go_wp2_with fail
      go_ret
      exact ⟨rfl, B6.out⟩
    · obtain rfl : y = false := hxy rfl
      clear hxy
      go_wp2_with fail
      refine (IL.out _).mono ?_
      rintro e w7 ⟨rfl, rfl⟩
      go_wp2_with fail
      refine (IR.out _).mono ?_
      rintro e w7 ⟨rfl, rfl⟩
      go_wp2_with fail
      go_ret
      exact ⟨rfl, B6.out⟩
end C
end Go.Proofs.Ytlbnofkjjjbfnaa
