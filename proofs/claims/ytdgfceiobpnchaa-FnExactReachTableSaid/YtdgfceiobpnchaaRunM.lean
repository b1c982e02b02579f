/-
  MATHEMATICS of plans, own to these proofs: what is behind a list of acts; CONTRACTS of slices.Contains at numbers. No condition but that the list reads so.
-/
import Derived.Test.YtdgfceiobpnchaaWkA
import Derived.Test.YtdgfceiobpnchaaHas
namespace Go.Proofs.Ytdgfceiobpnchaa
open Go.RowKit
namespace M
def actB (m : Wk) (x lev act : Int) : Bool := visitB m x lev && memB (actsL m (x, lev)) act
def doV (m : Wk) (x lev act : Int) : Vs := if actB m x lev act then doA m (x, lev) act else (0, 0)
theorem actB_no {m : Wk} {x lev act : Int} (h : actB m x lev act = false) : doV m x lev act = (0, 0) := by unfold doV; rw [h]; rfl
theorem actB_yes {m : Wk} {x lev act : Int} (h : actB m x lev act = true) : doV m x lev act = doA m (x, lev) act := by unfold doV; rw [h]; rfl
theorem actB_off {m : Wk} {x lev : Int} (h : visitB m x lev = false) (act : Int) : actB m x lev act = false := by unfold actB; rw [h]; rfl
theorem actB_on {m : Wk} {x lev : Int} (h : visitB m x lev = true) (act : Int) : actB m x lev act = memB (actsL m (x, lev)) act := by unfold actB; rw [h]; rfl
/-- behind a list of acts, if each is possible -/
def runO (m : Wk) : Vs → List Int → Option Vs
  | s, [] => some s
  | s, a :: l => if memB (actsL m s) a then runO m (doA m s a) l else none
theorem runO_cons (m : Wk) (s : Vs) (a : Int) (l : List Int) : runO m s (a :: l) = if memB (actsL m s) a then runO m (doA m s a) l else none := rfl
theorem runO_append (m : Wk) : ∀ (s : Vs) (l l' : List Int), runO m s (l ++ l') = (runO m s l).bind fun t => runO m t l'
  | s, [], l' => rfl
  | s, a :: l, l' => by
    rw [List.cons_append, runO_cons, runO_cons]
    split
    · exact runO_append m _ l l'
    · rfl
theorem runO_one (m : Wk) (s : Vs) (a : Int) : runO m s [a] = if memB (actsL m s) a then some (doA m s a) else none := rfl
theorem runO_take {m : Wk} {s t : Vs} {l : List Int} {k : Nat} (h : k < l.length) (hs : runO m s (l.take k) = some t) : runO m s (l.take (k + 1)) = if memB (actsL m t) l[k] then some (doA m t l[k]) else none := by
  rw [List.take_succ_eq_append_getElem h, runO_append, hs]
  exact runO_one m t _
theorem runO_take_none {m : Wk} {s : Vs} {l : List Int} {k : Nat} (h : runO m s (l.take k) = none) : runO m s l = none := by
  have : l = l.take k ++ l.drop k := (List.take_append_drop _ _).symm
  rw [this, runO_append, h]
  rfl
theorem runO_ok {m : Wk} (V : WV m) : ∀ (s : Vs) (l : List Int) (t : Vs), VsOk m s → runO m s l = some t → VsOk m t
  | s, [], t, hs, h => by
    unfold runO at h
    injection h with h
    subst h
    exact hs
  | s, a :: l, t, hs, h => by
    unfold runO at h
    split at h
    · rename_i hm
      exact runO_ok V _ l t (doA_ok V hs (memB_true hm)) h
    · cases h
def endO (m : Wk) (plan : List Int) : Option Vs := if worksB m && decide (plan.length ≤ 60) then runO m (0, 0) plan else none
def endV (m : Wk) (plan : List Int) : Vs := (endO m plan).getD (0, 0)
def endB (m : Wk) (plan : List Int) : Bool := (endO m plan).isSome
theorem vs0_ok {m : Wk} (V : WV m) : VsOk m (0, 0) := ⟨Int.le_refl _, by have := V.size1; show (0 : Int) < m.size; omega, Int.le_refl _, by decide⟩
theorem endO_off {m : Wk} (h : worksB m = false) (plan : List Int) : endO m plan = none := by unfold endO; rw [h]; rfl
theorem endO_long {m : Wk} {plan : List Int} (h : 60 < plan.length) : endO m plan = none := by unfold endO; rw [decide_eq_false (by omega), Bool.and_false]; rfl
theorem endO_on {m : Wk} (h : worksB m = true) {plan : List Int} (hl : plan.length ≤ 60) : endO m plan = runO m (0, 0) plan := by unfold endO; rw [h, decide_eq_true hl]; rfl
theorem end_none {m : Wk} {plan : List Int} (h : endO m plan = none) : endV m plan = (0, 0) ∧ endB m plan = false := by unfold endV endB; rw [h]; exact ⟨rfl, rfl⟩
theorem end_some {m : Wk} {plan : List Int} {s : Vs} (h : endO m plan = some s) : endV m plan = s ∧ endB m plan = true := by unfold endV endB; rw [h]; exact ⟨rfl, rfl⟩
end M
namespace C
set_option maxHeartbeats 3200000
set_option maxRecDepth 20000
theorem indexI_any (w : World) (lo hi : Nat) (a : Option Addr) (c : Nat) (l : List Int) (n : Int) (h : RowIn lo hi w a (M.encIs l)) (hl : l.length ≤ 1048576) :
    Calls Try.prog 123 #[.slice a l.length c, .int .i64 n] w fun e w' => (∃ i : Int, e = .returned (.int .i64 i) ∧ decide (0 ≤ i) = M.memB l n) ∧ w = w' := by
  have H := Lib.hid h
  clear h
  go_enter Try.func123, Try.ntmps123
  go_wp2_with fail
  go_loop [5, 8] (fun _ i => ∃ (k : Nat), k ≤ l.length ∧ i = .int .i64 k ∧ (∀ j (hj : j < l.length), j < k → l[j] ≠ n)) (fun _ i => l.length - (intOf i).toNat)
  case atStart => exact ⟨0, Nat.zero_le _, rfl, fun j _ h => by omega⟩
  case round =>
    obtain ⟨k, hk, rfl, hall⟩ := hrel
    have HA := Lib.hid hall
    clear hall
    by_cases hlt : k < l.length
    · obtain ⟨b, off, rfl, _, _, hc0⟩ := H.out.at_ (k := k) (by rw [M.encIs_len]; exact hlt)
      have p0 := hc0 _ _ (M.encIs_at hlt)
      clear hc0
      rcases Decidable.em (l[k] = n) with hlk | hlk
      · have HF : Hid (M.memB l n = true) := Lib.hid (by unfold M.memB; rw [List.contains_iff_mem, ← hlk]; exact List.getElem_mem hlt)
        have hb : (n == l[k]) = true := by simpa using hlk.symm
        clear hlk
        go_wp2_with fail
        go_ret
        exact ⟨⟨k, rfl, by rw [HF.out]; simp⟩, rfl⟩
      · have HK := Lib.hid hlk
        have hb : (n == l[k]) = false := by simp; omega
        clear hlk
        go_wp2_with fail
        go_round
        case rel => exact ⟨k + 1, by omega, by go_num, fun j hj hjk => by
          rcases Nat.lt_or_ge j k with h | h
          · exact HA.out j hj h
          · obtain rfl : j = k := by omega
            exact HK.out⟩
        case measure => simp [intOf]; omega
    · have HF : Hid (M.memB l n = false) := Lib.hid (by
        unfold M.memB
        rw [Bool.eq_false_iff, ne_eq, List.contains_iff_mem]
        intro hm
        obtain ⟨j, hj, he⟩ := List.mem_iff_getElem.1 hm
        exact HA.out j hj (by omega) he)
      go_wp2_with fail
      go_ret
      exact ⟨⟨-1, rfl, by rw [HF.out]; rfl⟩, rfl⟩
theorem containsI_any (w : World) (lo hi : Nat) (a : Option Addr) (c : Nat) (l : List Int) (n : Int) (h : RowIn lo hi w a (M.encIs l)) (hl : l.length ≤ 1048576) :
    Calls Try.prog 95 #[.slice a l.length c, .int .i64 n] w fun e w' => e = .returned (.bool (M.memB l n)) ∧ w = w' := by
  have CI := Lib.hid (indexI_any w lo hi a c l n h hl)
  clear h
  go_enter Try.func95, Try.ntmps95
  go_wp2_with fail
  refine CI.out.mono ?_
  rintro e w1 ⟨⟨i, rfl, hi⟩, rfl⟩
  have HI := Lib.hid hi
  clear hi
  go_wp2_with fail
  go_ret
  exact ⟨by rw [← HI.out]; rfl, rfl⟩
end C
end Go.Proofs.Ytdgfceiobpnchaa
