/-
  CONTRACTS of the laws' own helpers over slices of strings: szStringS tells whether all together is small, toStringS gives a copy of its own, eqStringS says yes of two slices that read alike; what lay in memory stays. Condition: the slices read as lists of strings.
-/
import Derived.Test.YtlbnofkjjjbfnaaSplit
import Derived.Test.YtlbnofkjjjbfnaaJoinMath
import Derived.BigQuiet
import Derived.Deep.QuietTactic
import Derived.Laws.MakeOwn
import Derived.Lib.SmallJoins
import Derived.WalkKit
import Derived.WalkSpells
import Derived.WalkLawsBesides
import Derived.Lib.Hide
namespace Go.Proofs.Ytlbnofkjjjbfnaa
open Go.RowKit
namespace C

/-- a slice that reads as the strings ss, in memory below block B -/
def StrsAt (B : Nat) (w : World) (a : Option Addr) (ss : List ByteArray) : Prop :=
  ss = [] ∨ ∃ b off, a = some ⟨b, off, none⟩ ∧ b < B ∧ ∀ i s, ss[i]? = some s → w.cell? ⟨b, off + i, none⟩ = some (.string s)
theorem StrsAt.below {B : Nat} {w w' : World} {a : Option Addr} {ss : List ByteArray} (h : StrsAt B w a ss) (hb : Below B w w') : StrsAt B w' a ss := by
  rcases h with h | ⟨b, off, ha, hlt, hc⟩
  · exact .inl h
  · exact .inr ⟨b, off, ha, hlt, fun i s hs => (hb.cell (p := ⟨b, off + i, none⟩) hlt).trans (hc i s hs)⟩
theorem StrsAt.more {B B' : Nat} {w : World} {a : Option Addr} {ss : List ByteArray} (h : StrsAt B w a ss) (hB : B ≤ B') : StrsAt B' w a ss := by
  rcases h with h | ⟨b, off, ha, hlt, hc⟩
  · exact .inl h
  · exact .inr ⟨b, off, ha, by omega, hc⟩
theorem StrsAt.at_ {B : Nat} {w : World} {a : Option Addr} {ss : List ByteArray} (h : StrsAt B w a ss) {k : Nat} (hk : k < ss.length) : ∃ b off, a = some ⟨b, off, none⟩ ∧ b < B ∧ w.cell? ⟨b, off + k, none⟩ = some (.string ss[k]) := by
  rcases h with h | ⟨b, off, ha, hlt, hc⟩
  · rw [h] at hk; simp at hk
  · exact ⟨b, off, ha, hlt, hc k _ (List.getElem?_eq_getElem hk)⟩

theorem size_take (ss : List ByteArray) (k : Nat) (h : k < ss.length) : M.tot (ss.take (k + 1)) = M.tot (ss.take k) + ss[k].size := by rw [M.takeB_snoc ss k h, M.tot_snoc]

/-- the post of szStringS: -1, or what is left -/
def SzPost (ss : List ByteArray) (left : Int) (e : Ending) : Prop := ∃ r : Int, e = .returned (.int .i64 r) ∧ -1 ≤ r ∧ r ≤ left ∧ (0 ≤ r → (ss.length : Int) + (M.tot ss : Int) ≤ left)

set_option maxHeartbeats 800000 in
theorem sz_any (w : World) (B : Nat) (a : Option Addr) (cap : Nat) (ss : List ByteArray) (left : Int) (h0 : 0 ≤ left) (h1 : left ≤ 1048576) (hl : ss.length ≤ maxLen) (hs : ∀ s ∈ ss, s.size ≤ maxLen) (h : StrsAt B w a ss) :
    Calls Try.prog 21 #[.slice a ss.length cap, .int .i64 left] w fun e w' => SzPost ss left e ∧ w = w' := by
  unfold maxLen at hl
  by_cases hbig : left < (ss.length : Int)
  · have h' := Lib.hid h
    clear h hs
    go_enter Try.func21, Try.ntmps21
    go_wp2
    go_ret
    exact ⟨⟨-1, rfl, by omega, by omega, by omega⟩, rfl⟩
  · have h' := Lib.hid h
    have hs' := Lib.hid hs
    clear h hs
    go_enter Try.func21, Try.ntmps21
    go_wp2_with fail
    go_loop [1, 5] (fun l i => ∃ k : Nat, k ≤ ss.length ∧ i = .int .i64 k ∧ ∃ r : Int, l = .int .i64 r ∧ 0 ≤ r ∧ r = left - ss.length - (M.tot (ss.take k) : Int)) (fun _ i => ss.length - (intOf i).toNat)
    case atStart => exact ⟨0, Nat.zero_le _, rfl, _, rfl, by omega, by simp [M.tot]⟩
    case round =>
      obtain ⟨k, hk, rfl, r, rfl, hr0, hr⟩ := hrel
      have HR := Lib.hid hr
      have hrl : r ≤ 1048576 := by omega
      clear hr
      by_cases hlt : k < ss.length
      · obtain ⟨b, off, rfl, hb, hcell⟩ := h'.out.at_ hlt
        have hsz := hs'.out ss[k] (List.getElem_mem hlt)
        have HT := Lib.hid (size_take ss k hlt)
        unfold maxLen at hsz
        by_cases hneg : r < (ss[k].size : Int)
        · go_wp2_with fail
          go_ret
          exact ⟨⟨-1, rfl, by omega, by omega, by omega⟩, rfl⟩
        · go_wp2_with fail
          go_round
          case rel => exact ⟨k + 1, by omega, by go_num, _, rfl, by omega, by rw [HT.out, HR.out]; omega⟩
          case measure => simp [intOf]; omega
      · have HT : Hid (ss.take k = ss) := Lib.hid (List.take_of_length_le (by omega))
        go_wp2_with fail
        go_ret
        exact ⟨⟨r, rfl, by omega, by have := HR.out; omega, fun _ => by have := HR.out; rw [HT.out] at this; omega⟩, rfl⟩
end C
end Go.Proofs.Ytlbnofkjjjbfnaa
