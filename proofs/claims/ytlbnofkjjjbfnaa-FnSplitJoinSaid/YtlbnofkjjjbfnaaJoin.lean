/-
  CONTRACTS of spec.JoinStrings and impl.JoinStrings: where the separator is one byte, the list is not empty, no string of it holds that byte, and the whole has at most 4000 bytes, both return the join and true, else the empty string and false; what lay in memory stays. Condition: the slice reads as a list of strings, small enough together.
-/
import Derived.Test.YtlbnofkjjjbfnaaStrs2
import Derived.Test.YtlbnofkjjjbfnaaStand
import Derived.Test.YtlbnofkjjjbfnaaShelf
namespace Go.Proofs.Ytlbnofkjjjbfnaa
open Go.RowKit
namespace C

/-- what is joined -/
def JOk (ss : List ByteArray) (c : UInt8) : Prop := ss ≠ [] ∧ (∀ s ∈ ss, M.has s.data.toList c = false) ∧ (M.jB ss ⟨#[c]⟩).size ≤ 4000

theorem jsize (ss : List ByteArray) (c : UInt8) (h : ss ≠ []) : (M.jB ss ⟨#[c]⟩).size + 1 = M.tot ss + ss.length := M.jB_size ss ⟨#[c]⟩ rfl h
theorem jb_snoc (ss : List ByteArray) (c : UInt8) (k : Nat) (h : k < ss.length) (h0 : 0 < k) : M.jB (ss.take (k + 1)) ⟨#[c]⟩ = M.jB (ss.take k) ⟨#[c]⟩ ++ ⟨#[c]⟩ ++ ss[k] := by
  rw [M.takeB_snoc ss k h, M.jB_snoc _ _ _ (M.take_ne h h0)]
theorem jb_first (ss : List ByteArray) (c : UInt8) (h : 0 < ss.length) : M.jB (ss.take 1) ⟨#[c]⟩ = ss[0] := by
  have := M.takeB_snoc ss 0 h
  rw [this, List.take_zero, List.nil_append, M.jB_one]
theorem jb_mono (ss : List ByteArray) (c : UInt8) (k : Nat) (h : k < ss.length) : (M.jB (ss.take (k + 1)) ⟨#[c]⟩).size ≤ (M.jB ss ⟨#[c]⟩).size := by
  have h1 : ss.take (k + 1) ≠ [] := by
    intro e
    have := congrArg List.length e
    rw [List.length_take, List.length_nil] at this
    omega
  have h2 : ss ≠ [] := by rintro rfl; simp at h
  have h3 := jsize (ss.take (k + 1)) c h1
  have h4 := jsize ss c h2
  have h5 := M.tot_take_le ss (k + 1)
  rw [List.length_take] at h3
  omega
theorem all_snoc' {ss : List ByteArray} {c : UInt8} {k : Nat} (h : k < ss.length) (ha : ∀ s ∈ ss.take k, M.has s.data.toList c = false) (hk : M.has ss[k].data.toList c = false) : ∀ s ∈ ss.take (k + 1), M.has s.data.toList c = false := by
  rw [M.takeB_snoc ss k h]
  intro s hs
  rw [List.mem_append, List.mem_singleton] at hs
  rcases hs with hs | hs
  · exact ha s hs
  · rw [hs]; exact hk

/-- the answer: the join, or nothing -/
def JPost (ss : List ByteArray) (c : UInt8) (e : Ending) : Prop :=
  (JOk ss c ∧ e = .returned (.tuple #[.string (M.jB ss ⟨#[c]⟩), .bool true])) ∨ (¬ JOk ss c ∧ e = .returned (.tuple #[.string ⟨#[]⟩, .bool false]))

/-- the state at the head of a round -/
def outAt (ss : List ByteArray) (c : UInt8) (k : Nat) : ByteArray := if k = 0 then ⟨#[]⟩ else M.jB (ss.take k) ⟨#[c]⟩
theorem outAt_step (ss : List ByteArray) (c : UInt8) (k : Nat) : outAt ss c (k + 1) = M.jB (ss.take (k + 1)) ⟨#[c]⟩ := by simp [outAt]
theorem empty_append (s : ByteArray) : (⟨#[]⟩ : ByteArray) ++ s = s := by
  apply ByteArray.ext
  simp
theorem out_first (ss : List ByteArray) (c : UInt8) (h : 0 < ss.length) : outAt ss c 1 = (⟨#[]⟩ : ByteArray) ++ ss[0] := by rw [empty_append, outAt_step, jb_first ss c h]
theorem out_next (ss : List ByteArray) (c : UInt8) (k : Nat) (h : k < ss.length) (h0 : 0 < k) : outAt ss c (k + 1) = outAt ss c k ++ ⟨#[c]⟩ ++ ss[k] := by
  rw [outAt_step, jb_snoc ss c k h h0]
  have : outAt ss c k = M.jB (ss.take k) ⟨#[c]⟩ := by unfold outAt; rw [if_neg (by omega)]
  rw [this]
theorem out_last (ss : List ByteArray) (c : UInt8) (h : 0 < ss.length) : outAt ss c ss.length = M.jB ss ⟨#[c]⟩ := by
  unfold outAt
  rw [if_neg (by omega), List.take_of_length_le (Nat.le_refl _)]
theorem jok_not_has {ss : List ByteArray} {c : UInt8} {k : Nat} (h : k < ss.length) (hh : M.has ss[k].data.toList c = true) : ¬ JOk ss c := fun e => by
  have := e.2.1 ss[k] (List.getElem_mem h)
  rw [this] at hh
  cases hh
theorem jok_not_big {ss : List ByteArray} {c : UInt8} {k : Nat} (h : k < ss.length) (hb : 4000 < (outAt ss c (k + 1)).size) : ¬ JOk ss c := fun e => by
  have h1 := jb_mono ss c k h
  have h2 := e.2.2
  rw [outAt_step] at hb
  omega

theorem quiet_add_left {P : Program} {f : FuncId} {args : Array Value} {w : World} {a n : Nat} {v : Value}
    (h : Calls P f args (w.drewN (a + n)) fun e w' => e = .returned v ∧ w.drewN (a + n) = w') :
    Calls P f args (w.drewN (a + n)) fun e w'' => e = .returned v ∧ ∃ m, w'' = w.drewN (a + m) :=
  h.mono fun _ _ ⟨he, hm⟩ => ⟨he, n, hm.symm⟩
theorem quiet_left {P : Program} {f : FuncId} {args : Array Value} {w : World} {n : Nat} {v : Value}
    (h : Calls P f args (w.drewN n) fun e w' => e = .returned v ∧ w.drewN n = w') : Calls P f args (w.drewN n) fun e w'' => e = .returned v ∧ ∃ m, w'' = w.drewN m :=
  h.mono fun _ _ ⟨he, hm⟩ => ⟨he, n, hm.symm⟩

set_option maxHeartbeats 1600000 in
theorem specJoin_one (w : World) (B : Nat) (a : Option Addr) (cap : Nat) (ss : List ByteArray) (c : UInt8) (hn : ss ≠ []) (hl : ss.length ≤ 1048576) (hs : ∀ s ∈ ss, s.size ≤ 1048576) (h : StrsAt B w a ss) :
    Calls Try.prog 13 #[.slice a ss.length cap, .string ⟨#[c]⟩] w fun e w' => JPost ss c e ∧ ∃ m, w' = w.drewN m := by
  have h' := Lib.hid h
  have hs' := Lib.hid hs
  have hpos : 0 < ss.length := List.length_pos_iff.2 hn
  have hne0 : ((ss.length : Int) == 0) = false := by simp; omega
  have HN := Lib.hid hn
  clear h hs hn
  go_enter Try.func13, Try.ntmps13
  go_wp2_with fail
  go_loopw [6, 7] (fun o i wr => ∃ k m : Nat, k ≤ ss.length ∧ i = .int .i64 k ∧ o = .string (outAt ss c k) ∧ (outAt ss c k).size ≤ 4000 ∧ (∀ s ∈ ss.take k, M.has s.data.toList c = false) ∧ wr = w.drewN m) (fun _ i _ => ss.length - (intOf i).toNat)
  case atStart => exact ⟨0, 0, Nat.zero_le _, rfl, rfl, Nat.le_trans (Nat.le_of_eq (show _ = 0 from rfl)) (Nat.zero_le _), by simp, rfl⟩
  case round =>
    obtain ⟨k, m, hk, rfl, rfl, hosz, hall, rfl⟩ := hrel
    have HALL := Lib.hid hall
    clear hall
    by_cases hlt : k < ss.length
    · obtain ⟨b, off, rfl, hb, hcell⟩ := h'.out.at_ hlt
      have hsz := hs'.out ss[k] (List.getElem_mem hlt)
      have ST := Lib.hid (fun W => stands_any ss[k] c W (by unfold maxLen; omega))
      cases hhas : M.has ss[k].data.toList c with
      | true =>
        have HJ := Lib.hid (jok_not_has hlt hhas)
        rw [hhas] at ST
        go_wp2_with fail
        go_quiet ((go_at_call 32; first | exact quiet_add_left (ST.out _) | exact quiet_left (ST.out _)))
        go_wp2_with fail
        go_ret2
        first | exact ⟨.inr ⟨HJ.out, rfl⟩, _, rfl⟩ | exact ⟨.inr ⟨HJ.out, rfl⟩, _, World.drewN_drewN _ _ _⟩
      | false =>
        have HH := Lib.hid (all_snoc' hlt HALL.out hhas)
        rw [hhas] at ST
        clear hhas
        by_cases h0 : k = 0
        · subst h0
          have HE := Lib.hid (out_first ss c hlt)
          have HZ : Hid ((outAt ss c 1).size = ss[0].size) := Lib.hid (by rw [HE.out, empty_append])
          have HO0 : Hid (outAt ss c 0 = ⟨#[]⟩) := Lib.hid rfl
          have hcell0 : w.cell? ⟨b, off, none⟩ = some (.string ss[0]) := hcell
          clear hcell
          by_cases hbig : 4000 < (ss[0].size : Int)
          · have HJ := Lib.hid (jok_not_big (c := c) hlt (by rw [HZ.out]; omega))
            rw [HO0.out]
            go_wp2_with fail
            go_quiet ((go_at_call 32; first | exact quiet_add_left (ST.out _) | exact quiet_left (ST.out _)))
            go_wp2_with fail
            go_ret2
            first | exact ⟨.inr ⟨HJ.out, rfl⟩, _, rfl⟩ | exact ⟨.inr ⟨HJ.out, rfl⟩, _, World.drewN_drewN _ _ _⟩
          · rw [HO0.out]
            go_wp2_with fail
            go_quiet ((go_at_call 32; first | exact quiet_add_left (ST.out _) | exact quiet_left (ST.out _)))
            go_wp2_with fail
            go_roundw
            case rel => exact ⟨1, _, by omega, by go_num, by rw [HE.out], by have := HZ.out; omega, HH.out, rfl⟩
            case measure => simp [intOf]; omega
        · have hk1 : 0 < k := by omega
          have hk2 : (0 : Int) < (k : Int) := by omega
          have HE := Lib.hid (out_next ss c k hlt hk1)
          have HZ : Hid ((outAt ss c (k + 1)).size = (outAt ss c k).size + 1 + ss[k].size) := Lib.hid (by
            rw [HE.out, ByteArray.size_append, ByteArray.size_append]
            rfl)
          by_cases hbig : 4000 < ((outAt ss c k).size : Int) + 1 + (ss[k].size : Int)
          · have HJ := Lib.hid (jok_not_big (c := c) hlt (by rw [HZ.out]; omega))
            go_wp2_with fail
            go_quiet ((go_at_call 32; first | exact quiet_add_left (ST.out _) | exact quiet_left (ST.out _)))
            go_wp2_with fail
            go_ret2
            first | exact ⟨.inr ⟨HJ.out, rfl⟩, _, rfl⟩ | exact ⟨.inr ⟨HJ.out, rfl⟩, _, World.drewN_drewN _ _ _⟩
          · go_wp2_with fail
            go_quiet ((go_at_call 32; first | exact quiet_add_left (ST.out _) | exact quiet_left (ST.out _)))
            go_wp2_with fail
            go_roundw
            case rel => exact ⟨k + 1, _, by omega, by go_num, by rw [HE.out], by have := HZ.out; omega, HH.out, rfl⟩
            case measure => simp [intOf]; omega
    · obtain rfl : k = ss.length := by omega
      have HE := Lib.hid (out_last ss c hpos)
      have HJ : Hid (JOk ss c) := Lib.hid ⟨HN.out, by have := HALL.out; rwa [List.take_of_length_le (Nat.le_refl _)] at this, by rw [← HE.out]; exact hosz⟩
      go_wp2_with fail
      go_ret2
      exact ⟨.inl ⟨HJ.out, by rw [← HE.out]; rfl⟩, _, rfl⟩
end C
end Go.Proofs.Ytlbnofkjjjbfnaa
