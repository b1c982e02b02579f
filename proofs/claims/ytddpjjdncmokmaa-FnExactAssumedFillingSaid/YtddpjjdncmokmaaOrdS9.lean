/-
  CONTRACTS of the model's l9Order, l9Choices, l9Makes. No condition but that the lists read so.
-/
import Derived.Test.YtddpjjdncmokmaaFilQ
import Derived.Test.YtddpjjdncmokmaaFilS
import Derived.Test.YtddpjjdncmokmaaWAMem
namespace Go.Proofs.Ytddpjjdncmokmaa
open Go.RowKit
namespace C
set_option linter.unusedVariables false
set_option maxHeartbeats 3200000
set_option maxRecDepth 20000
theorem order9_any (w : World) (s : Int) (hs : M.setB s = true) (ol oh : Nat) (oa : Option Addr) (oc : Nat) (o : List Int) (ho : RowIn ol oh w oa (M.encIs o)) (hzo : oh ≤ w.heap.size) (hlo : o.length ≤ 1048576) :
    Calls Try.prog 115 #[.int .i64 s, .slice oa o.length oc] w fun e w' => e = .returned (.bool (M.orderSB s o)) ∧ w = w' := by
  have h' := Lib.hid ho
  have HMC := Lib.hid (fun W => many_call s hs W)
  clear ho
  go_enter Try.func115, Try.ntmps115
  go_wp2_with fail
  go_loop [5, 6] (fun s' i => ∃ (k : Nat), k ≤ o.length ∧ i = .int .i64 k ∧ s' = .int .i64 (M.setI (o.take k)) ∧ ∀ j (hj : j < o.length), j < k → M.inB o[j] 0 5 = true) (fun _ i => o.length - (intOf i).toNat)
  case atStart => exact ⟨0, Nat.zero_le _, rfl, rfl, fun j _ h => by omega⟩
  case round =>
    obtain ⟨k, hk, rfl, rfl, hall⟩ := hrel
    have HA := Lib.hid hall
    clear hall
    by_cases hlt : k < o.length
    · obtain ⟨b, off, rfl, _, _, hc0⟩ := h'.out.at_ (k := k) (by rw [M.encIs_len]; exact hlt)
      have hc := hc0 k _ (M.encIs_at hlt)
      have HS := Lib.hid (M.setI_snoc hlt)
      clear hc0
      by_cases hcol : 0 ≤ o[k] ∧ o[k] < 6
      · obtain ⟨h0, h1⟩ := hcol
        go_wp2_with (go_at_call 98; refine (l1In_yes _ _ _ _ (by omega) (by omega)).mono ?_; rintro e w' ⟨rfl, rfl⟩)
        go_round
        case rel => exact ⟨k + 1, by omega, by go_num, by rw [HS.out]; rfl, fun j hj hjk => by
          rcases Nat.lt_or_ge j k with h | h
          · exact HA.out j hj h
          · obtain rfl : j = k := by omega
            exact (M.in5 _).2 ⟨h0, h1⟩⟩
        case measure => simp [intOf]; omega
      · have HF : Hid (M.orderSB s o = false) := Lib.hid (by unfold M.orderSB; rw [M.all_take_no (f := fun c => M.inB c 0 5) hlt (by rw [Bool.eq_false_iff]; exact fun h => hcol ((M.in5 _).1 h))]; rfl)
        have HC := Lib.hid hcol
        clear hcol
        go_wp2_with (go_at_call 98; refine (l1In_no _ _ _ _ (fun h => HC.out ⟨h.1, by omega⟩)).mono ?_; rintro e w' ⟨rfl, rfl⟩)
        go_ret
        exact ⟨by rw [HF.out]; rfl, rfl⟩
    · obtain rfl : k = o.length := by omega
      have HE : Hid (M.orderSB s o = (decide (o.length = M.manyC s) && M.setI o == s)) := Lib.hid (by unfold M.orderSB; rw [M.all_of_take fun j hj => HA.out j hj hj]; rfl)
      rw [List.take_length]
      have hm6 := M.many_le s
      generalize M.manyC s = mm at *
      generalize M.setI o = z at *
      by_cases hq : o.length = mm
      · have HQ := Lib.hid hq
        have hb1 : ((o.length : Int) == (mm : Int)) = true := by rw [beq_iff_eq]; omega
        clear hq
        go_wp2_with (go_at_call 99; refine (HMC.out _).mono ?_; rintro e w' ⟨rfl, rfl⟩)
        go_ret
        exact ⟨by rw [HE.out, decide_eq_true HQ.out]; rfl, rfl⟩
      · have HQ := Lib.hid hq
        have hb1 : ((o.length : Int) == (mm : Int)) = false := by rw [beq_eq_false_iff_ne]; omega
        clear hq
        go_wp2_with (go_at_call 99; refine (HMC.out _).mono ?_; rintro e w' ⟨rfl, rfl⟩)
        go_ret
        exact ⟨by rw [HE.out, decide_eq_false HQ.out]; rfl, rfl⟩
theorem choice9_any (w : World) (n : Nat) (hn : n ≤ 1048576) (cl ch' : Nat) (ca : Option Addr) (cc : Nat) (ch : List Int) (hc : RowIn cl ch' w ca (M.encIs ch)) (hzc : ch' ≤ w.heap.size) (hlc : ch.length ≤ 1048576) :
    Calls Try.prog 116 #[.slice ca ch.length cc, .int .i64 (n : Int)] w fun e w' => e = .returned (.bool (M.choiceB n ch)) ∧ w = w' := by
  have h' := Lib.hid hc
  clear hc
  go_enter Try.func116, Try.ntmps116
  go_wp2_with fail
  go_loop [5] (fun i => ∃ (k : Nat), k ≤ ch.length ∧ i = .int .i64 k ∧ ∀ j (hj : j < ch.length), j < k → decide (0 ≤ ch[j]) = true) (fun i => ch.length - (intOf i).toNat)
  case atStart => exact ⟨0, Nat.zero_le _, rfl, fun j _ h => by omega⟩
  case round =>
    obtain ⟨k, hk, rfl, hall⟩ := hrel
    have HA := Lib.hid hall
    clear hall
    by_cases hlt : k < ch.length
    · obtain ⟨b, off, rfl, _, _, hc0⟩ := h'.out.at_ (k := k) (by rw [M.encIs_len]; exact hlt)
      have hc := hc0 k _ (M.encIs_at hlt)
      clear hc0
      by_cases hcol : 0 ≤ ch[k]
      · have HN := Lib.hid (fun j (hj : j < ch.length) (hjk : j < k + 1) => show decide (0 ≤ ch[j]) = true from by
          rcases Nat.lt_or_ge j k with h | h
          · exact HA.out j hj h
          · obtain rfl : j = k := by omega
            exact decide_eq_true hcol)
        have hcol' : ¬ ch[k] < 0 := by omega
        go_wp2_with fail
        go_round
        case rel => exact ⟨k + 1, by omega, by go_num, HN.out⟩
        case measure => simp [intOf]; omega
      · have HF : Hid (M.choiceB n ch = false) := Lib.hid (by unfold M.choiceB; rw [M.all_take_no (f := fun c => decide (0 ≤ c)) hlt (decide_eq_false hcol)]; rfl)
        have hcol' : ch[k] < 0 := by omega
        clear hcol
        go_wp2_with fail
        go_ret
        exact ⟨by rw [HF.out]; rfl, rfl⟩
    · obtain rfl : k = ch.length := by omega
      have HE : Hid (M.choiceB n ch = decide (ch.length = n)) := Lib.hid (by unfold M.choiceB; rw [M.all_of_take fun j hj => HA.out j hj hj]; rfl)
      by_cases hq : ch.length = n
      · have HQ := Lib.hid hq
        have hb1 : ((ch.length : Int) == (n : Int)) = true := by rw [beq_iff_eq]; omega
        clear hq
        go_wp2_with fail
        go_ret
        exact ⟨by rw [HE.out, decide_eq_true HQ.out]; rfl, rfl⟩
      · have HQ := Lib.hid hq
        have hb1 : ((ch.length : Int) == (n : Int)) = false := by rw [beq_eq_false_iff_ne]; omega
        clear hq
        go_wp2_with fail
        go_ret
        exact ⟨by rw [HE.out, decide_eq_false HQ.out]; rfl, rfl⟩
theorem makes9_any (w : World) (lo hi : Nat) (m : M.Mz) (a b : Option Addr) (c d : Nat) (h : MzIn lo hi w m a c b d) (hz : hi ≤ w.heap.size) (s : Int) (ol oh : Nat) (oa : Option Addr) (oc : Nat) (o : List Int) (ho : RowIn ol oh w oa (M.encIs o)) (hzo : oh ≤ w.heap.size) (hlo : o.length ≤ 1048576) (cl ch' : Nat) (ca : Option Addr) (cc : Nat) (ch : List Int) (hc : RowIn cl ch' w ca (M.encIs ch)) (hzc : ch' ≤ w.heap.size) (hlc : ch.length ≤ 1048576) :
    Calls Try.prog 84 #[.agg #[.int .i64 m.size, .slice a m.doors.length c, .slice b m.keys.length d], .int .i64 s, .slice oa o.length oc, .slice ca ch.length cc] w (BoolPost w (M.makesB m s o ch)) := by
  have H := Lib.hid h
  have HO := Lib.hid ho
  have HC := Lib.hid hc
  clear h ho hc
  go_enter Try.func84, Try.ntmps84
  go_wp2_with fail
  refine named ?_
  intro W hW
  have hb : Below w.heap.size w W := by rw [hW]; exact below_alloc _ _
  have x1 : Box3 W w.heap.size 27 (.int .i64 m.size) (.slice a m.doors.length c) (.slice b m.keys.length d) := by rw [hW]; exact Box3.new _ _ _ _ rfl
  clear hW
  have hzw := hb.size
  refine (ask9_any W lo hi m a b c d s (H.out.below hb hz) (by omega)).mono ?_
  rintro e w1 ⟨rfl, hb1⟩
  have HB1 := Lib.hid (hb.trans (hb1.mono hzw))
  have hz1 := hb1.size
  clear hb hb1 x1
  cases qa : M.askB m s with
  | false =>
    have HN : Hid (M.makesB m s o ch = false) := Lib.hid (by unfold M.makesB; rw [qa]; rfl)
    clear qa
    go_wp2_with fail
    go_ret
    exact ⟨by rw [HN.out]; rfl, HB1.out⟩
  | true =>
    have HN : Hid (M.makesB m s o ch = (M.orderSB s o && M.choiceB o.length ch)) := Lib.hid (by unfold M.makesB; rw [qa]; rfl)
    have hset := M.setB_iff.2 (M.ask_yes qa).2
    have HOR := Lib.hid (order9_any w1 s hset ol oh oa oc o (HO.out.below HB1.out hzo) (by omega) hlo)
    have HCH := Lib.hid (choice9_any w1 o.length hlo cl ch' ca cc ch (HC.out.below HB1.out hzc) (by omega) hlc)
    clear qa
    go_wp2_with fail
    refine HOR.out.mono ?_
    rintro e w2 ⟨rfl, rfl⟩
    cases qo : M.orderSB s o with
    | false =>
      rw [qo] at HN
      clear qo HOR
      go_wp2_with fail
      go_ret
      exact ⟨by rw [HN.out]; rfl, HB1.out⟩
    | true =>
      rw [qo] at HN
      clear qo HOR
      go_wp2_with fail
      refine HCH.out.mono ?_
      rintro e w2 ⟨rfl, rfl⟩
      go_wp2_with fail
      go_ret
      exact ⟨by rw [HN.out]; rfl, HB1.out⟩
end C
end Go.Proofs.Ytddpjjdncmokmaa
