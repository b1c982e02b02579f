/-
  CONTRACT of spec.l1Read: for every string it returns the number of a numeral within -999999..999999 and true, and for every other string 0 and false; the world is as it was but for draws. No further condition.
-/
import Derived.Test.YtlbnofkjjjbfnaaDoorNum
import Derived.Test.YtlbnofkjjjbfnaaDoorMath
import Derived.Test.YtlbnofkjjjbfnaaDoorReadMath
import Derived.WalkKit
import Derived.WalkSpells
import Derived.WalkLawsBesides
import Derived.Lib.Hide
namespace Go.Proofs.YtlbnofkjjjbfnaaDoor
open Go.RowKit
namespace C

def RdPost (l : List UInt8) (e : Ending) : Prop :=
  (M.rdOk l ∧ e = .returned (.tuple #[.int .i64 (M.sg l), .bool true])) ∨ (¬ M.rdOk l ∧ e = .returned (.tuple #[.int .i64 0, .bool false]))

theorem l1In_yes (x a b : Int) (w : World) (h : a ≤ x) (h' : x ≤ b) :
    Calls Tryd.prog 24 #[.int .i64 x, .int .i64 a, .int .i64 b] w fun e w' => e = .returned (.bool true) ∧ w = w' := by
  go_enter Tryd.func24, Tryd.ntmps24
  go_wp2
  go_ret
  exact ⟨rfl, rfl⟩
theorem l1In_no (x a b : Int) (w : World) (h : x < a ∨ b < x) :
    Calls Tryd.prog 24 #[.int .i64 x, .int .i64 a, .int .i64 b] w fun e w' => e = .returned (.bool false) ∧ w = w' := by
  by_cases h1 : a ≤ x
  · have h2 : ¬ x ≤ b := by omega
    go_enter Tryd.func24, Tryd.ntmps24
    go_wp2
    go_ret
    exact ⟨rfl, rfl⟩
  · go_enter Tryd.func24, Tryd.ntmps24
    go_wp2
    go_ret
    exact ⟨rfl, rfl⟩

theorem rd_short (s : ByteArray) (w : World) (hs : s.size = 0) :
    Calls Tryd.prog 29 #[.string s] w fun e w' => RdPost s.data.toList e ∧ ∃ k, w' = w.drewN k := by
  have hn := Lib.hid (show ¬ M.rdOk s.data.toList by
    rintro ⟨h1, _⟩
    have : s.data.toList = [] := List.eq_nil_of_length_eq_zero (by simpa using hs)
    rw [this] at h1
    simp [M.tl] at h1)
  go_enter Tryd.func29, Tryd.ntmps29
  go_wp2_with (go_at_call 24; refine (l1In_no _ _ _ _ (by omega)).mono ?_; rintro e w' ⟨rfl, rfl⟩)
  go_ret2
  exact ⟨.inr ⟨hn.out, rfl⟩, 0, rfl⟩

theorem rd_ne {l : ByteArray} {x : Int} (hx : M.sg l.data.toList = x) (h : (!(decB x).toList == l.toList) = true) : ¬ M.rdOk l.data.toList := by
  intro hh
  have := hh.2.2.2
  rw [hx] at this
  rw [ByteArray.toList_eq, ByteArray.toList_eq] at h
  unfold decB at h
  simp [this] at h
theorem rd_eq {l : ByteArray} {x : Int} (hx : M.sg l.data.toList = x) (h1 : 1 ≤ (M.tl l.data.toList).length) (h6 : (M.tl l.data.toList).length ≤ 6) (hd : ∀ c ∈ M.tl l.data.toList, M.isD c = true)
    (h : (!(decB x).toList == l.toList) = false) : M.rdOk l.data.toList := by
  refine ⟨h1, h6, hd, ?_⟩
  rw [hx]
  rw [ByteArray.toList_eq, ByteArray.toList_eq] at h
  unfold decB at h
  simpa using h
theorem rd_long {l : List UInt8} (h : 6 < (M.tl l).length) : ¬ M.rdOk l := fun hh => by have := hh.2.1; omega

set_option maxHeartbeats 400000 in
theorem rd_one (s : ByteArray) (w : World) (h1 : s.size = 1) :
    Calls Tryd.prog 29 #[.string s] w fun e w' => RdPost s.data.toList e ∧ ∃ k, w' = w.drewN k := by
  have hl := Lib.hid (M.tl_one s h1)
  have h1a : s.size ≤ 1 := by omega
  have h1b : 1 ≤ s.size := by omega
  clear h1
  go_enter Tryd.func29, Tryd.ntmps29
  go_wp2_with (go_at_call 24; refine (l1In_yes _ _ _ _ (by omega) (by omega)).mono ?_; rintro e w' ⟨rfl, rfl⟩)
  go_loop [5, 6] (fun n i => ∃ k : Nat, k ≤ s.size ∧ i = .int .i64 k ∧ n = .int .i64 (M.val (s.data.toList.take k)) ∧ ∀ c ∈ s.data.toList.take k, M.isD c = true) (fun _ i => s.size - (intOf i).toNat)
  case atStart => exact ⟨0, Nat.zero_le _, rfl, rfl, by simp⟩
  case round =>
    obtain ⟨k, hk, rfl, rfl, hd⟩ := hrel
    have hv := M.val_bd6 _ hd (by simp; omega)
    by_cases hlt : k < s.size
    · have HT := Lib.hid (M.take_snoc s k hlt)
      by_cases hD : M.isD s[k] = true
      · have hb := M.isD_bd hD
        have HD := Lib.hid hD
        clear hD
        have HS := Lib.hid (M.val_snoc (s.data.toList.take k) s[k])
        go_wp2
        go_round
        case rel => exact ⟨k + 1, by omega, by go_num, by rw [HT.out, HS.out], by rw [HT.out]; exact M.all_snoc hd HD.out⟩
        case measure => simp [intOf]; omega
      · have hn := Lib.hid (M.not_rdOk_of (l := s.data.toList) (c := s[k]) (by rw [hl.out]; exact M.mem_get s k hlt) hD)
        rcases M.not_isD hD with hb | hb
        · go_wp2
          go_ret2
          exact ⟨.inr ⟨hn.out, rfl⟩, 0, rfl⟩
        · have hb0 : ¬ (s[k].toNat : Int) < 48 := by omega
          go_wp2
          go_ret2
          exact ⟨.inr ⟨hn.out, rfl⟩, 0, rfl⟩
    · obtain rfl : k = s.size := by omega
      have HA : Hid (M.sg s.data.toList =  (M.val (s.data.toList.take s.size))) := Lib.hid (by rw [List.take_of_length_le (by simp)]; exact by rw [M.sg, if_neg (by rw [hl.out]; omega), hl.out])
      have HL : Hid (M.tl s.data.toList = s.data.toList.take s.size) := Lib.hid (by rw [List.take_of_length_le (by simp)]; exact hl.out)
      clear hlt
      go_wp2_with fail
      refine (l1Num_any _ _ (by omega) (by omega)).mono ?_
      rintro e w' ⟨rfl, kk, rfl⟩
      go_wp2_with fail
      · have hne : (!(decB ( (M.val (s.data.toList.take s.size)))).toList == s.toList) = true := by assumption
        go_ret2
        exact ⟨.inr ⟨rd_ne HA.out hne, rfl⟩, _, rfl⟩
      · have hne : (!(decB ( (M.val (s.data.toList.take s.size)))).toList == s.toList) = false := by assumption
        go_ret2
        exact ⟨.inl ⟨rd_eq HA.out (by rw [HL.out]; simp; omega) (by rw [HL.out]; simp; omega) (by rw [HL.out]; exact hd) hne, by rw [HA.out]; rfl⟩, _, rfl⟩

set_option maxHeartbeats 400000 in
theorem rd_plain (s : ByteArray) (w : World) (hs : s.size ≤ 6) (h1 : 1 < s.size) (h45 : s[0] ≠ 45) :
    Calls Tryd.prog 29 #[.string s] w fun e w' => RdPost s.data.toList e ∧ ∃ k, w' = w.drewN k := by
  have h45' : ((s[0].toNat : Int) == 45) = false := by
    simp
    intro h
    exact h45 (UInt8.toNat.inj (by simpa using (by omega : s[0].toNat = 45)))
  have hl := Lib.hid (M.tl_plain s h45)
  go_enter Tryd.func29, Tryd.ntmps29
  go_wp2_with (go_at_call 24; refine (l1In_yes _ _ _ _ (by omega) (by omega)).mono ?_; rintro e w' ⟨rfl, rfl⟩)
  go_loop [5, 6] (fun n i => ∃ k : Nat, k ≤ s.size ∧ i = .int .i64 k ∧ n = .int .i64 (M.val (s.data.toList.take k)) ∧ ∀ c ∈ s.data.toList.take k, M.isD c = true) (fun _ i => s.size - (intOf i).toNat)
  case atStart => exact ⟨0, Nat.zero_le _, rfl, rfl, by simp⟩
  case round =>
    obtain ⟨k, hk, rfl, rfl, hd⟩ := hrel
    have hv := M.val_bd6 _ hd (by simp; omega)
    by_cases hlt : k < s.size
    · have HT := Lib.hid (M.take_snoc s k hlt)
      by_cases hD : M.isD s[k] = true
      · have hb := M.isD_bd hD
        have HD := Lib.hid hD
        clear hD
        have HS := Lib.hid (M.val_snoc (s.data.toList.take k) s[k])
        go_wp2
        go_round
        case rel => exact ⟨k + 1, by omega, by go_num, by rw [HT.out, HS.out], by rw [HT.out]; exact M.all_snoc hd HD.out⟩
        case measure => simp [intOf]; omega
      · have hn := Lib.hid (M.not_rdOk_of (l := s.data.toList) (c := s[k]) (by rw [hl.out]; exact M.mem_get s k hlt) hD)
        rcases M.not_isD hD with hb | hb
        · go_wp2
          go_ret2
          exact ⟨.inr ⟨hn.out, rfl⟩, 0, rfl⟩
        · have hb0 : ¬ (s[k].toNat : Int) < 48 := by omega
          go_wp2
          go_ret2
          exact ⟨.inr ⟨hn.out, rfl⟩, 0, rfl⟩
    · obtain rfl : k = s.size := by omega
      have HA : Hid (M.sg s.data.toList =  (M.val (s.data.toList.take s.size))) := Lib.hid (by rw [List.take_of_length_le (by simp)]; exact by rw [M.sg, if_neg (by rw [hl.out]; omega), hl.out])
      have HL : Hid (M.tl s.data.toList = s.data.toList.take s.size) := Lib.hid (by rw [List.take_of_length_le (by simp)]; exact hl.out)
      clear hlt
      go_wp2_with fail
      refine (l1Num_any _ _ (by omega) (by omega)).mono ?_
      rintro e w' ⟨rfl, kk, rfl⟩
      go_wp2_with fail
      · have hne : (!(decB ( (M.val (s.data.toList.take s.size)))).toList == s.toList) = true := by assumption
        go_ret2
        exact ⟨.inr ⟨rd_ne HA.out hne, rfl⟩, _, rfl⟩
      · have hne : (!(decB ( (M.val (s.data.toList.take s.size)))).toList == s.toList) = false := by assumption
        go_ret2
        exact ⟨.inl ⟨rd_eq HA.out (by rw [HL.out]; simp; omega) (by rw [HL.out]; simp; omega) (by rw [HL.out]; exact hd) hne, by rw [HA.out]; rfl⟩, _, rfl⟩

set_option maxHeartbeats 400000 in
theorem rd_plain_long (s : ByteArray) (w : World) (hw : s.size ≤ maxLen) (hs : 6 < s.size) (h45 : s[0] ≠ 45) :
    Calls Tryd.prog 29 #[.string s] w fun e w' => RdPost s.data.toList e ∧ ∃ k, w' = w.drewN k := by
  have h45' : ((s[0].toNat : Int) == 45) = false := by
    simp
    intro h
    exact h45 (UInt8.toNat.inj (by simpa using (by omega : s[0].toNat = 45)))
  unfold maxLen at hw
  have hn := Lib.hid (rd_long (l := s.data.toList) (by rw [M.tl_plain s h45]; simpa using hs))
  go_enter Tryd.func29, Tryd.ntmps29
  go_wp2_with (go_at_call 24; refine (l1In_no _ _ _ _ (by omega)).mono ?_; rintro e w' ⟨rfl, rfl⟩)
  go_ret2
  exact ⟨.inr ⟨hn.out, rfl⟩, 0, rfl⟩

set_option maxHeartbeats 400000 in
theorem rd_neg (s : ByteArray) (w : World) (hs : s.size ≤ 7) (h1 : 1 < s.size) (h45 : s[0] = 45) :
    Calls Tryd.prog 29 #[.string s] w fun e w' => RdPost s.data.toList e ∧ ∃ k, w' = w.drewN k := by
  have h45' : ((s[0].toNat : Int) == 45) = true := by rw [h45]; rfl
  have h45'' : s[0].toNat = 45 := by rw [h45]; rfl
  obtain ⟨t, ht⟩ : ∃ t, s.extract 1 s.size = t := ⟨_, rfl⟩
  have htz : t.size = s.size - 1 := by rw [← ht]; simp
  have hl := Lib.hid (M.tl_neg s h1 h45 ht)
  have ha : t.size ≤ 6 := by omega
  have hb1 : 1 ≤ t.size := by omega
  have hc : t.size < s.size := by omega
  clear h45 htz h45''
  go_enter Tryd.func29, Tryd.ntmps29
  go_wp2_with (go_at_call 24; refine (l1In_yes _ _ _ _ (by omega) (by omega)).mono ?_; rintro e w' ⟨rfl, rfl⟩)
  go_loop [5, 6] (fun n i => ∃ k : Nat, k ≤ t.size ∧ i = .int .i64 k ∧ n = .int .i64 (M.val (t.data.toList.take k)) ∧ ∀ c ∈ t.data.toList.take k, M.isD c = true) (fun _ i => t.size - (intOf i).toNat)
  case atStart => exact ⟨0, Nat.zero_le _, rfl, rfl, by simp⟩
  case round =>
    obtain ⟨k, hk, rfl, rfl, hd⟩ := hrel
    have hv := M.val_bd6 _ hd (by simp; omega)
    by_cases hlt : k < t.size
    · have HT := Lib.hid (M.take_snoc t k hlt)
      by_cases hD : M.isD t[k] = true
      · have hb := M.isD_bd hD
        have HD := Lib.hid hD
        clear hD
        have HS := Lib.hid (M.val_snoc (t.data.toList.take k) t[k])
        go_wp2
        go_round
        case rel => exact ⟨k + 1, by omega, by go_num, by rw [HT.out, HS.out], by rw [HT.out]; exact M.all_snoc hd HD.out⟩
        case measure => simp [intOf]; omega
      · have hn := Lib.hid (M.not_rdOk_of (l := s.data.toList) (c := t[k]) (by rw [hl.out]; exact M.mem_get t k hlt) hD)
        rcases M.not_isD hD with hb | hb
        · go_wp2
          go_ret2
          exact ⟨.inr ⟨hn.out, rfl⟩, 0, rfl⟩
        · have hb0 : ¬ (t[k].toNat : Int) < 48 := by omega
          go_wp2
          go_ret2
          exact ⟨.inr ⟨hn.out, rfl⟩, 0, rfl⟩
    · obtain rfl : k = t.size := by omega
      have HA : Hid (M.sg s.data.toList = - (M.val (t.data.toList.take t.size))) := Lib.hid (by rw [List.take_of_length_le (by simp)]; exact by rw [M.sg, if_pos (by rw [hl.out]; simpa using hc), hl.out])
      have HL : Hid (M.tl s.data.toList = t.data.toList.take t.size) := Lib.hid (by rw [List.take_of_length_le (by simp)]; exact hl.out)
      clear hlt
      go_wp2_with fail
      refine (l1Num_any _ _ (by omega) (by omega)).mono ?_
      rintro e w' ⟨rfl, kk, rfl⟩
      go_wp2_with fail
      · have hne : (!(decB (- (M.val (t.data.toList.take t.size)))).toList == s.toList) = true := by assumption
        go_ret2
        exact ⟨.inr ⟨rd_ne HA.out hne, rfl⟩, _, rfl⟩
      · have hne : (!(decB (- (M.val (t.data.toList.take t.size)))).toList == s.toList) = false := by assumption
        go_ret2
        exact ⟨.inl ⟨rd_eq HA.out (by rw [HL.out]; simp; omega) (by rw [HL.out]; simp; omega) (by rw [HL.out]; exact hd) hne, by rw [HA.out]; rfl⟩, _, rfl⟩

set_option maxHeartbeats 400000 in
theorem rd_neg_long (s : ByteArray) (w : World) (hw : s.size ≤ maxLen) (hs : 7 < s.size) (h45 : s[0] = 45) :
    Calls Tryd.prog 29 #[.string s] w fun e w' => RdPost s.data.toList e ∧ ∃ k, w' = w.drewN k := by
  have h45' : ((s[0].toNat : Int) == 45) = true := by rw [h45]; rfl
  obtain ⟨t, ht⟩ : ∃ t, s.extract 1 s.size = t := ⟨_, rfl⟩
  have htz : t.size = s.size - 1 := by rw [← ht]; simp
  unfold maxLen at hw
  have hn := Lib.hid (rd_long (l := s.data.toList) (by rw [M.tl_neg s (by omega) h45 ht]; simp; omega))
  have ha : 6 < t.size := by omega
  have hb1 : t.size ≤ 9223372036854775807 := by omega
  clear h45 htz
  go_enter Tryd.func29, Tryd.ntmps29
  go_wp2_with (go_at_call 24; refine (l1In_no _ _ _ _ (by omega)).mono ?_; rintro e w' ⟨rfl, rfl⟩)
  go_ret2
  exact ⟨.inr ⟨hn.out, rfl⟩, 0, rfl⟩

theorem l1Read_any (s : ByteArray) (w : World) (hs : s.size ≤ maxLen) :
    Calls Tryd.prog 29 #[.string s] w fun e w' => RdPost s.data.toList e ∧ ∃ k, w' = w.drewN k := by
  by_cases h0 : s.size = 0
  · exact rd_short s w h0
  · by_cases h1 : s.size = 1
    · exact rd_one s w h1
    · by_cases h45 : s[0] = 45
      · by_cases h7 : s.size ≤ 7
        · exact rd_neg s w h7 (by omega) h45
        · exact rd_neg_long s w hs (by omega) h45
      · by_cases h6 : s.size ≤ 6
        · exact rd_plain s w h6 (by omega) h45
        · exact rd_plain_long s w hs (by omega) h45

end C
end Go.Proofs.YtlbnofkjjjbfnaaDoor
