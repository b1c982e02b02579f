/-
  CONTRACT of impl.JoinStrings at a separator of one byte, and both functions where the separator is not one byte or the list is empty: the answer is the model's; what lay in memory stays. Condition: the slice reads as a list of strings, small enough together.
-/
import Derived.Test.YtlbnofkjjjbfnaaJoin
namespace Go.Proofs.Ytlbnofkjjjbfnaa
open Go.RowKit
namespace C

theorem tot_full (ss : List ByteArray) (k : Nat) (h : k < ss.length) : M.tot (ss.take (k + 1)) = M.tot (ss.take k) + ss[k].size := size_take ss k h
theorem jok_not_sum {ss : List ByteArray} {c : UInt8} {k : Nat} (_h : k < ss.length) (hb : 4000 + 1 < M.tot (ss.take (k + 1)) + ss.length) : ¬ JOk ss c := fun e => by
  have h1 := jsize ss c e.1
  have h2 := M.tot_take_le ss (k + 1)
  have h3 := e.2.2
  omega

set_option maxHeartbeats 1600000 in
theorem implJoin_one (w : World) (a : Option Addr) (cap : Nat) (ss : List ByteArray) (c : UInt8) (hn : ss ≠ []) (hl : ss.length ≤ 1048576) (hcap : ss.length ≤ cap) (hs : ∀ s ∈ ss, s.size ≤ 1048576) (ht : M.tot ss ≤ 1048576) (h : StrsAt w.heap.size w a ss) :
    Calls Try.prog 12 #[.slice a ss.length cap, .string ⟨#[c]⟩] w fun e w' => JPost ss c e ∧ Below w.heap.size w w' := by
  have h' := Lib.hid h
  have hs' := Lib.hid hs
  have hpos : 0 < ss.length := List.length_pos_iff.2 hn
  have hne0 : ((ss.length : Int) == 0) = false := by simp; omega
  have HN := Lib.hid hn
  clear h hs hn
  go_enter Try.func12, Try.ntmps12
  go_wp2_with fail
  go_loop [6, 22] (fun z i => ∃ k : Nat, k ≤ ss.length ∧ i = .int .i64 k ∧ z = .int .i64 ((ss.length : Int) - 1 + (M.tot (ss.take k) : Int)) ∧ (k = 0 ∨ M.tot (ss.take k) + ss.length ≤ 4001) ∧ ∀ s ∈ ss.take k, M.has s.data.toList c = false) (fun _ i => ss.length - (intOf i).toNat)
  case atStart => exact ⟨0, Nat.zero_le _, rfl, by simp [M.tot], .inl rfl, by simp⟩
  case round =>
    obtain ⟨k, hk, rfl, rfl, hsum, hall⟩ := hrel
    have HALL := Lib.hid hall
    have HSUM := Lib.hid hsum
    have htk := M.tot_take_le ss k
    clear hall hsum
    by_cases hlt : k < ss.length
    · obtain ⟨b, off, rfl, hb, hcell⟩ := h'.out.at_ hlt
      have hsz := hs'.out ss[k] (List.getElem_mem hlt)
      have HT := Lib.hid (tot_full ss k hlt)
      have ST := Lib.hid (fun W => contains_one ss[k] c W)
      by_cases hbig : 4000 < (ss.length : Int) - 1 + (M.tot (ss.take k) : Int) + (ss[k].size : Int)
      · have HJ := Lib.hid (jok_not_sum (c := c) hlt (by rw [HT.out]; omega))
        go_wp2_with fail
        go_ret2
        exact ⟨.inr ⟨HJ.out, rfl⟩, Below.refl _ _⟩
      · cases hhas : M.has ss[k].data.toList c with
        | true =>
          have HJ := Lib.hid (jok_not_has hlt hhas)
          rw [hhas] at ST
          clear hhas
          go_wp2_with fail
          refine (ST.out _).mono ?_
          rintro e w' ⟨rfl, rfl⟩
          go_wp2_with fail
          go_ret2
          exact ⟨.inr ⟨HJ.out, rfl⟩, Below.refl _ _⟩
        | false =>
          have HH := Lib.hid (all_snoc' hlt HALL.out hhas)
          rw [hhas] at ST
          clear hhas
          go_wp2_with fail
          refine (ST.out _).mono ?_
          rintro e w' ⟨rfl, rfl⟩
          go_wp2_with fail
          go_round
          case rel => exact ⟨k + 1, by omega, by go_num, by rw [HT.out]; push_cast; rw [Int.add_assoc], .inr (by rw [HT.out]; omega), HH.out⟩
          case measure => simp [intOf]; omega
    · obtain rfl : k = ss.length := by omega
      have HTT : Hid (ss.take ss.length = ss) := Lib.hid (List.take_of_length_le (Nat.le_refl _))
      have HJ : Hid (JOk ss c) := Lib.hid ⟨HN.out, by have := HALL.out; rwa [HTT.out] at this, by
        have h1 := jsize ss c HN.out
        have h2 := HSUM.out
        rw [HTT.out] at h2
        omega⟩
      have hjb : (M.jB ss ⟨#[c]⟩).size ≤ 4000 := HJ.out.2.2
      rcases h'.out with h0 | ⟨b, off, rfl, hb, hc⟩
      · exact absurd h0 HN.out
      · have JN := Lib.hid (Try.strings_Join b off cap ss ⟨#[c]⟩ w (fun j x hx => hc j x hx) hb (by omega) hcap (by
          have : (M.jB ss ⟨#[c]⟩).size = (Lib.join (ss.map (·.data.toList)) [c]).length := rfl
          show (Lib.join (ss.map (·.data.toList)) [c]).length ≤ _
          omega))
        clear hc hjb
        go_wp2_with fail
        refine JN.out.mono ?_
        rintro e w' ⟨rfl, hb1⟩
        go_wp2_with fail
        go_ret2
        exact ⟨.inl ⟨HJ.out, rfl⟩, hb1⟩

/-! ### where there is nothing to join -/
theorem specJoin_bad (w : World) (a : Option Addr) (cap n : Nat) (sep : ByteArray) (hn : n ≤ 1048576) (h : sep.size ≠ 1 ∨ n = 0) :
    Calls Try.prog 13 #[.slice a n cap, .string sep] w fun e w' => e = .returned (.tuple #[.string ⟨#[]⟩, .bool false]) ∧ Below w.heap.size w w' := by
  by_cases h1 : sep.size = 1
  · have h0 : n = 0 := by omega
    subst h0
    have h2 : ((sep.size : Int) != 1) = false := by simp; omega
    clear h1 h
    go_enter Try.func13, Try.ntmps13
    go_wp2_with fail
    go_ret2
    exact ⟨rfl, Below.refl _ _⟩
  · have h2 : ((sep.size : Int) != 1) = true := by simp; omega
    clear h1 h
    go_enter Try.func13, Try.ntmps13
    go_wp2_with fail
    go_ret2
    exact ⟨rfl, Below.refl _ _⟩
theorem implJoin_bad (w : World) (a : Option Addr) (cap n : Nat) (sep : ByteArray) (hn : n ≤ 1048576) (h : sep.size ≠ 1 ∨ n = 0) :
    Calls Try.prog 12 #[.slice a n cap, .string sep] w fun e w' => e = .returned (.tuple #[.string ⟨#[]⟩, .bool false]) ∧ Below w.heap.size w w' := by
  by_cases h0 : n = 0
  · subst h0
    clear h
    go_enter Try.func12, Try.ntmps12
    go_wp2_with fail
    go_ret2
    exact ⟨rfl, Below.refl _ _⟩
  · have h2 : ((sep.size : Int) != 1) = true := by simp; omega
    have h3 : ((n : Int) == 0) = false := by simp; omega
    clear h0 h
    go_enter Try.func12, Try.ntmps12
    go_wp2_with fail
    go_ret2
    exact ⟨rfl, Below.refl _ _⟩
end C
end Go.Proofs.Ytlbnofkjjjbfnaa
