/-
  CONTRACT of impl.IsWorks: it tells whether works are valid; what lay in memory stays. No condition but that the works read so.
-/
import Derived.Test.YtdgfceiobpnchaaCmpG
namespace Go.Proofs.Ytdgfceiobpnchaa
open Go.RowKit
namespace M
def pullsLenB (m : Wk) : Bool := decide ((m.pulls.length : Int) = m.size)
def fewG (m : Wk) : Bool := decide (m.gates.length ≤ 30)
theorem worksB_parts (m : Wk) : worksB m = (sizeW m && (pullsLenB m && keysB m.pulls) && (fewG m && gatesB m.size m.gates)) := by
  unfold worksB shapeW sizeW pullsLenB fewG
  rw [Bool.eq_iff_iff]
  simp only [Bool.and_eq_true, decide_eq_true_eq]
  constructor
  · rintro ⟨⟨⟨h1, h2, h3, h4⟩, h5⟩, h6⟩
    exact ⟨⟨⟨h1, h2⟩, ⟨h4, h6⟩⟩, h3, h5⟩
  · rintro ⟨⟨⟨h1, h2⟩, ⟨h4, h6⟩⟩, h3, h5⟩
    exact ⟨⟨⟨h1, h2, h3, h4⟩, h5⟩, h6⟩
theorem gatesB_all {n : Int} {l : List Gt} (h : l.any (fun g => !gateB n g) = true) : gatesB n l = false := by
  rw [List.any_eq_true] at h
  obtain ⟨g, hg, h⟩ := h
  obtain ⟨k, hk, rfl⟩ := List.mem_iff_getElem.1 hg
  exact stepG_no1 hk (by simpa using h)
theorem gate_of_any {n : Int} {l : List Gt} (h : l.any (fun g => !gateB n g) = false) {k : Nat} (hk : k < l.length) : gateB n l[k] = true := by
  rw [List.any_eq_false] at h
  have := h _ (List.getElem_mem hk)
  simpa using this
end M
namespace C
set_option maxHeartbeats 1600000
set_option maxRecDepth 20000
theorem areLevers_any (x : Int) (w : World) : Calls Try.prog 68 #[.int .i64 x] w fun e w' => e = .returned (.bool (M.setB x)) ∧ w = w' := by
  have hb : M.setB x = (decide (0 ≤ x) && decide (x ≤ 63)) := by unfold M.setB; rw [show (decide (0 ≤ x) && decide (x ≤ 63)) = decide (0 ≤ x ∧ x ≤ 63) by simp]; congr 1; apply propext; omega
  by_cases h : 0 ≤ x
  · have e : M.setB x = decide (x ≤ 63) := by rw [hb]; simp [h]
    rw [e]
    clear hb e
    go_enter Try.func68, Try.ntmps68
    go_wp2_with fail
    go_ret
    exact ⟨rfl, rfl⟩
  · have e : M.setB x = false := by rw [hb]; simp [h]
    rw [e]
    clear hb e
    go_enter Try.func68, Try.ntmps68
    go_wp2_with fail
    go_ret
    exact ⟨rfl, rfl⟩
theorem notLevers_any (x : Int) (w : World) : Calls Try.prog 108 #[.int .i64 x] w fun e w' => e = .returned (.bool (!M.setB x)) ∧ w = w' := by
  go_enter Try.func108, Try.ntmps108
  go_wp2_with fail
  refine (areLevers_any _ _).mono ?_
  rintro e w' ⟨rfl, rfl⟩
  go_wp2_with fail
  go_ret
  exact ⟨rfl, rfl⟩
theorem sizeW_any (m : M.Wk) (a b : Option Addr) (c d : Nat) (w : World) :
    Calls Try.prog 61 #[.agg #[.int .i64 m.size, .slice a m.gates.length c, .slice b m.pulls.length d]] w fun e w' => e = .returned (.bool (M.sizeW m)) ∧ Below w.heap.size w w' := by
  have hb : M.sizeW m = (decide (1 ≤ m.size) && decide (m.size ≤ 12)) := by unfold M.sizeW; simp
  by_cases h : 1 ≤ m.size
  · have e : M.sizeW m = decide (m.size ≤ 12) := by rw [hb]; simp [h]
    rw [e]
    clear hb e
    go_enter Try.func61, Try.ntmps61
    go_wp2_with fail
    go_ret
    exact ⟨rfl, below_alloc _ _⟩
  · have e : M.sizeW m = false := by rw [hb]; simp [h]
    rw [e]
    clear hb e
    go_enter Try.func61, Try.ntmps61
    go_wp2_with fail
    go_ret
    exact ⟨rfl, below_alloc _ _⟩
/-- what is asked of a predicate handed to slices.ContainsFunc: it answers p, and leaves what lies in w as it is -/
def PredOk (g : Nat) (lb : Array Value) (p : Int → Bool) (w : World) : Prop :=
  ∀ W x, Below w.heap.size w W → Calls Try.prog g (#[.int .i64 x] ++ lb) W fun e w' => e = .returned (.bool (p x)) ∧ Below W.heap.size W w'
theorem indexFunc_any (g : Nat) (lb : Array Value) (p : Int → Bool) (eg : ∀ args w, (callFunc g args).run Try.prog w = .ok (.enter g args) w) (w : World) (lo hi : Nat) (a : Option Addr) (c : Nat) (l : List Int)
    (hp : PredOk g lb p w) (h : RowIn lo hi w a (M.encIs l)) (hz : hi ≤ w.heap.size) (hl : l.length ≤ 1048576) :
    Calls Try.prog 89 #[.slice a l.length c, .func (.func g) #[] lb] w fun e w' => (∃ i : Int, e = .returned (.int .i64 i) ∧ decide (0 ≤ i) = l.any p) ∧ Below w.heap.size w w' := by
  have h' := Lib.hid h
  have HP := Lib.hid hp
  clear h hp
  go_enter Try.func89, Try.ntmps89
  go_wp2_with fail
  go_loopw [5, 8] (fun _ i wr => ∃ (k : Nat), k ≤ l.length ∧ i = .int .i64 k ∧ (∀ j (hj : j < l.length), j < k → p l[j] = false) ∧ Below w.heap.size w wr) (fun _ i _ => l.length - (intOf i).toNat)
  case atStart => exact ⟨0, Nat.zero_le _, rfl, fun j _ h => by omega, Below.refl _ _⟩
  case round =>
    obtain ⟨k, hk, rfl, hall, hnx⟩ := hrel
    have HA := Lib.hid hall
    have HN := Lib.hid hnx
    have hzr := hnx.size
    clear hall hnx
    by_cases hlt : k < l.length
    · obtain ⟨b, off, rfl, _, hb, hc0⟩ := h'.out.at_ (k := k) (by rw [M.encIs_len]; exact hlt)
      have hc : wr.cell? ⟨b, off + k, none⟩ = some (.int .i64 l[k]) := (HN.out.cell (p := ⟨b, off + k, none⟩) (Nat.lt_of_lt_of_le hb hz)).trans (hc0 k _ (M.encIs_at hlt))
      clear hc0
      have CP := Lib.hid (HP.out wr l[k] HN.out)
      cases hq : p l[k] with
      | true =>
        rw [hq] at CP
        have HQ := Lib.hid hq
        clear hq
        go_wp2_with (go_at_fn g; refine (CP.out).mono ?_; rintro e w' ⟨rfl, hb2⟩)
        go_ret
        exact ⟨⟨k, rfl, by rw [List.any_eq_true.2 ⟨_, List.getElem_mem hlt, HQ.out⟩]; simp⟩, HN.out.trans (hb2.mono hzr)⟩
      | false =>
        rw [hq] at CP
        have HQ := Lib.hid hq
        clear hq
        go_wp2_with (go_at_fn g; refine (CP.out).mono ?_; rintro e w' ⟨rfl, hb2⟩)
        go_roundw
        case rel => exact ⟨k + 1, by omega, by go_num, fun j hj hjk => by
            rcases Nat.lt_or_ge j k with h | h
            · exact HA.out j hj h
            · obtain rfl : j = k := by omega
              exact HQ.out, HN.out.trans (hb2.mono hzr)⟩
        case measure => simp [intOf]; omega
    · obtain rfl : k = l.length := by omega
      have HF : Hid (l.any p = false) := Lib.hid (by
        rw [List.any_eq_false]
        intro x hx
        obtain ⟨j, hj, rfl⟩ := List.mem_iff_getElem.1 hx
        rw [HA.out j hj hj]
        decide)
      go_wp2_with fail
      go_ret
      exact ⟨⟨-1, rfl, by rw [HF.out]; rfl⟩, HN.out⟩
theorem containsFunc_any (g : Nat) (lb : Array Value) (p : Int → Bool) (eg : ∀ args w, (callFunc g args).run Try.prog w = .ok (.enter g args) w) (w : World) (lo hi : Nat) (a : Option Addr) (c : Nat) (l : List Int)
    (hp : PredOk g lb p w) (h : RowIn lo hi w a (M.encIs l)) (hz : hi ≤ w.heap.size) (hl : l.length ≤ 1048576) :
    Calls Try.prog 109 #[.slice a l.length c, .func (.func g) #[] lb] w fun e w' => e = .returned (.bool (l.any p)) ∧ Below w.heap.size w w' := by
  have CI := Lib.hid (indexFunc_any g lb p eg w lo hi a c l hp h hz hl)
  clear hp h
  go_enter Try.func109, Try.ntmps109
  go_wp2_with fail
  refine CI.out.mono ?_
  rintro e w1 ⟨⟨i, rfl, hi⟩, hb⟩
  have HI := Lib.hid hi
  have HB := Lib.hid hb
  clear hi hb
  go_wp2_with fail
  go_ret
  exact ⟨by rw [← HI.out]; rfl, HB.out⟩
def PredOkG (g : Nat) (lb : Array Value) (p : M.Gt → Bool) (w : World) : Prop :=
  ∀ W x, Below w.heap.size w W → Calls Try.prog g (#[.agg #[.int .i64 x.1, .int .i64 x.2.1, .int .i64 x.2.2.1, .int .i64 x.2.2.2]] ++ lb) W fun e w' => e = .returned (.bool (p x)) ∧ Below W.heap.size W w'
theorem indexFuncG_any (g : Nat) (lb : Array Value) (p : M.Gt → Bool) (eg : ∀ args w, (callFunc g args).run Try.prog w = .ok (.enter g args) w) (w : World) (lo hi : Nat) (a : Option Addr) (c : Nat) (l : List M.Gt)
    (hp : PredOkG g lb p w) (h : RowIn lo hi w a (M.encGs l)) (hz : hi ≤ w.heap.size) (hl : l.length ≤ 1048576) :
    Calls Try.prog 128 #[.slice a l.length c, .func (.func g) #[] lb] w fun e w' => (∃ i : Int, e = .returned (.int .i64 i) ∧ decide (0 ≤ i) = l.any p) ∧ Below w.heap.size w w' := by
  have h' := Lib.hid h
  have HP := Lib.hid hp
  clear h hp
  go_enter Try.func128, Try.ntmps128
  go_wp2_with fail
  go_loopw [5, 8] (fun _ i wr => ∃ (k : Nat), k ≤ l.length ∧ i = .int .i64 k ∧ (∀ j (hj : j < l.length), j < k → p l[j] = false) ∧ Below w.heap.size w wr) (fun _ i _ => l.length - (intOf i).toNat)
  case atStart => exact ⟨0, Nat.zero_le _, rfl, fun j _ h => by omega, Below.refl _ _⟩
  case round =>
    obtain ⟨k, hk, rfl, hall, hnx⟩ := hrel
    have HA := Lib.hid hall
    have HN := Lib.hid hnx
    have hzr := hnx.size
    clear hall hnx
    by_cases hlt : k < l.length
    · obtain ⟨b, off, rfl, _, hb, hc0⟩ := h'.out.at_ (k := k * 4) (by rw [M.encGs_len]; omega)
      have a0 : wr.cell? ⟨b, off + k * 4, none⟩ = some (.int .i64 l[k].1) := (HN.out.cell (p := ⟨b, off + k * 4, none⟩) (Nat.lt_of_lt_of_le hb hz)).trans (hc0 _ _ (M.encGs_at0 hlt))
      have a1 : wr.cell? ⟨b, off + k * 4 + 1, none⟩ = some (.int .i64 l[k].2.1) := (HN.out.cell (p := ⟨b, off + k * 4 + 1, none⟩) (Nat.lt_of_lt_of_le hb hz)).trans (hc0 _ _ (M.encGs_at1 hlt))
      have a2 : wr.cell? ⟨b, off + k * 4 + 2, none⟩ = some (.int .i64 l[k].2.2.1) := (HN.out.cell (p := ⟨b, off + k * 4 + 2, none⟩) (Nat.lt_of_lt_of_le hb hz)).trans (hc0 _ _ (M.encGs_at2 hlt))
      have a3 : wr.cell? ⟨b, off + k * 4 + 3, none⟩ = some (.int .i64 l[k].2.2.2) := (HN.out.cell (p := ⟨b, off + k * 4 + 3, none⟩) (Nat.lt_of_lt_of_le hb hz)).trans (hc0 _ _ (M.encGs_at3 hlt))
      clear hc0
      have CP := Lib.hid (HP.out wr l[k] HN.out)
      cases hq : p l[k] with
      | true =>
        rw [hq] at CP
        have HQ := Lib.hid hq
        clear hq
        go_wp2_with (go_at_fn g; refine (CP.out).mono ?_; rintro e w' ⟨rfl, hb2⟩)
        go_ret
        exact ⟨⟨k, rfl, by rw [List.any_eq_true.2 ⟨_, List.getElem_mem hlt, HQ.out⟩]; simp⟩, HN.out.trans (hb2.mono hzr)⟩
      | false =>
        rw [hq] at CP
        have HQ := Lib.hid hq
        clear hq
        go_wp2_with (go_at_fn g; refine (CP.out).mono ?_; rintro e w' ⟨rfl, hb2⟩)
        go_roundw
        case rel => exact ⟨k + 1, by omega, by go_num, fun j hj hjk => by
            rcases Nat.lt_or_ge j k with h | h
            · exact HA.out j hj h
            · obtain rfl : j = k := by omega
              exact HQ.out, HN.out.trans (hb2.mono hzr)⟩
        case measure => simp [intOf]; omega
    · obtain rfl : k = l.length := by omega
      have HF : Hid (l.any p = false) := Lib.hid (by
        rw [List.any_eq_false]
        intro x hx
        obtain ⟨j, hj, rfl⟩ := List.mem_iff_getElem.1 hx
        rw [HA.out j hj hj]
        decide)
      go_wp2_with fail
      go_ret
      exact ⟨⟨-1, rfl, by rw [HF.out]; rfl⟩, HN.out⟩
theorem containsFuncG_any (g : Nat) (lb : Array Value) (p : M.Gt → Bool) (eg : ∀ args w, (callFunc g args).run Try.prog w = .ok (.enter g args) w) (w : World) (lo hi : Nat) (a : Option Addr) (c : Nat) (l : List M.Gt)
    (hp : PredOkG g lb p w) (h : RowIn lo hi w a (M.encGs l)) (hz : hi ≤ w.heap.size) (hl : l.length ≤ 1048576) :
    Calls Try.prog 112 #[.slice a l.length c, .func (.func g) #[] lb] w fun e w' => e = .returned (.bool (l.any p)) ∧ Below w.heap.size w w' := by
  have CI := Lib.hid (indexFuncG_any g lb p eg w lo hi a c l hp h hz hl)
  clear hp h
  go_enter Try.func112, Try.ntmps112
  go_wp2_with fail
  refine CI.out.mono ?_
  rintro e w1 ⟨⟨i, rfl, hi⟩, hb⟩
  have HI := Lib.hid hi
  have HB := Lib.hid hb
  clear hi hb
  go_wp2_with fail
  go_ret
  exact ⟨by rw [← HI.out]; rfl, HB.out⟩
theorem validPulls_any (w : World) (lo hi : Nat) (m : M.Wk) (a b : Option Addr) (c d : Nat) (h : WkIn lo hi w m a c b d) (hz : hi ≤ w.heap.size) (hs : m.size ≤ 12) :
    Calls Try.prog 62 #[.agg #[.int .i64 m.size, .slice a m.gates.length c, .slice b m.pulls.length d]] w fun e w' => e = .returned (.bool (M.pullsLenB m && M.keysB m.pulls)) ∧ Below w.heap.size w w' := by
  have H := Lib.hid h
  have hd1 := h.d1
  have hd2 := h.d2
  clear h
  by_cases hl : (m.pulls.length : Int) = m.size
  · have HL : Hid (M.pullsLenB m = true) := Lib.hid (decide_eq_true hl)
    have hbl : (((m.pulls.length : Nat) : Int) == m.size) = true := by simpa using hl
    have hle : m.pulls.length ≤ 12 := by omega
    have HK : Hid (M.keysB m.pulls = !(m.pulls.any fun x => !M.setB x)) := Lib.hid (by unfold M.keysB; rw [List.all_eq_not_any_not])
    rw [HL.out, Bool.true_and]
    clear hl
    go_enter Try.func62, Try.ntmps62
    go_wp2_with fail
    refine named ?_
    intro W hW
    have hb : Below w.heap.size w W := by rw [hW]; exact (Below.refl _ _).alloc (Nat.le_refl _) _
    clear hW
    have HB := Lib.hid hb
    have hzw := hb.size
    refine (containsFunc_any 108 #[] (fun x => !M.setB x) (enters_of Try.func108 (by kernel_rfl) rfl) W lo hi b d m.pulls (fun W' x _ => (notLevers_any x W').mono fun _ _ ⟨he, hw⟩ => ⟨he, by rw [← hw]; exact Below.refl _ _⟩) (H.out.below hb hz).pulls (by omega) (by omega)).mono ?_
    rintro e w1 ⟨rfl, hb1⟩
    have HB1 := Lib.hid (hb.trans (hb1.mono hzw))
    clear hb1 hb
    go_wp2_with fail
    go_ret
    exact ⟨by rw [HK.out]; rfl, HB1.out⟩
  · have HL : Hid (M.pullsLenB m = false) := Lib.hid (decide_eq_false hl)
    have hbl : (((m.pulls.length : Nat) : Int) == m.size) = false := by simpa using hl
    rw [HL.out, Bool.false_and]
    clear hl
    go_enter Try.func62, Try.ntmps62
    go_wp2_with fail
    go_ret
    exact ⟨rfl, below_alloc _ _⟩
theorem validGate_any (m : M.Wk) (a b : Option Addr) (c d : Nat) (g : M.Gt) (w : World) :
    Calls Try.prog 111 #[.agg #[.int .i64 m.size, .slice a m.gates.length c, .slice b m.pulls.length d], .agg #[.int .i64 g.1, .int .i64 g.2.1, .int .i64 g.2.2.1, .int .i64 g.2.2.2]] w (BoolPost w (M.gateB m.size g)) := by
  obtain ⟨x, y, z, v⟩ := g
  have hD : M.gateB m.size (x, y, z, v) = (decide (0 ≤ x) && decide (x < y) && decide (y < m.size) && M.setB z && (decide (v = 0) || decide (v = 1))) := by
    unfold M.gateB M.setB
    rw [Bool.eq_iff_iff]
    simp only [Bool.and_eq_true, Bool.or_eq_true, decide_eq_true_eq]
    omega
  have HD := Lib.hid hD
  clear hD
  show Calls _ _ #[_, .agg #[.int .i64 x, .int .i64 y, .int .i64 z, .int .i64 v]] _ _
  have END : ∀ w', w' = (w.alloc (.cells #[.int .i64 m.size, .slice a m.gates.length c, .slice b m.pulls.length d] 28)).alloc (.cells #[.int .i64 x, .int .i64 y, .int .i64 z, .int .i64 v] 67) → Below w.heap.size w w' := by
    rintro w' rfl
    exact (below_alloc _ _).alloc (by simp) _
  have HE := Lib.hid END
  clear END
  by_cases h0 : 0 ≤ x
  · by_cases h1 : x < y
    · by_cases h2 : y < m.size
      · cases q : M.setB z with
        | false =>
          have HF : Hid (M.gateB m.size (x, y, z, v) = false) := Lib.hid (by rw [HD.out, q]; simp)
          have Q := Lib.hid q
          clear q
          go_enter Try.func111, Try.ntmps111
          go_wp2_with fail
          refine (areLevers_any _ _).mono ?_
          rintro e w' ⟨rfl, rfl⟩
          rw [Q.out]
          go_wp2_with fail
          go_ret
          exact ⟨by rw [HF.out]; rfl, HE.out _ rfl⟩
        | true =>
          have Q := Lib.hid q
          have q' := q
          clear q
          by_cases h3 : v = 0
          · have HF : Hid (M.gateB m.size (x, y, z, v) = true) := Lib.hid (by rw [HD.out, q', h3]; simp [h0, h1, h2])
            have hv : (v == 0) = true := by simp [h3]
            clear q' h3
            go_enter Try.func111, Try.ntmps111
            go_wp2_with fail
            refine (areLevers_any _ _).mono ?_
            rintro e w' ⟨rfl, rfl⟩
            rw [Q.out]
            go_wp2_with fail
            go_ret
            exact ⟨by rw [HF.out]; rfl, HE.out _ rfl⟩
          · have HF : Hid (M.gateB m.size (x, y, z, v) = (v == 1)) := Lib.hid (by rw [HD.out, q']; simp [h0, h1, h2, h3]; rfl)
            have hv : (v == 0) = false := by simp [h3]
            clear q' h3
            go_enter Try.func111, Try.ntmps111
            go_wp2_with fail
            refine (areLevers_any _ _).mono ?_
            rintro e w' ⟨rfl, rfl⟩
            rw [Q.out]
            go_wp2_with fail
            go_ret
            exact ⟨by rw [HF.out]; rfl, HE.out _ rfl⟩
      · have HF : Hid (M.gateB m.size (x, y, z, v) = false) := Lib.hid (by rw [HD.out]; simp [h2])
        go_enter Try.func111, Try.ntmps111
        go_wp2_with fail
        go_ret
        exact ⟨by rw [HF.out]; rfl, HE.out _ rfl⟩
    · have HF : Hid (M.gateB m.size (x, y, z, v) = false) := Lib.hid (by rw [HD.out]; simp [h1])
      go_enter Try.func111, Try.ntmps111
      go_wp2_with fail
      go_ret
      exact ⟨by rw [HF.out]; rfl, HE.out _ rfl⟩
  · have HF : Hid (M.gateB m.size (x, y, z, v) = false) := Lib.hid (by rw [HD.out]; simp [h0])
    go_enter Try.func111, Try.ntmps111
    go_wp2_with fail
    go_ret
    exact ⟨by rw [HF.out]; rfl, HE.out _ rfl⟩
theorem wrongGate_any (m : M.Wk) (a b : Option Addr) (c d : Nat) (g : M.Gt) (gb : Nat) (w : World) (hx : Box3 w gb 28 (.int .i64 m.size) (.slice a m.gates.length c) (.slice b m.pulls.length d)) :
    Calls Try.prog 110 (#[.agg #[.int .i64 g.1, .int .i64 g.2.1, .int .i64 g.2.2.1, .int .i64 g.2.2.2]] ++ #[.pointer (some ⟨gb, 0, none⟩)]) w (BoolPost w (!M.gateB m.size g)) := by
  show Calls Try.prog 110 #[.agg #[.int .i64 g.1, .int .i64 g.2.1, .int .i64 g.2.2.1, .int .i64 g.2.2.2], .pointer (some ⟨gb, 0, none⟩)] w _
  have hxl := hx.lt
  have hx1 := hx.alloc (.cells #[.int .i64 g.1, .int .i64 g.2.1, .int .i64 g.2.2.1, .int .i64 g.2.2.2] 67)
  obtain ⟨c0, c1, c2⟩ := hx1.cells
  clear hx hx1
  go_enter Try.func110, Try.ntmps110
  go_wp2_with fail
  refine (validGate_any m a b c d g _).mono ?_
  rintro e w1 ⟨rfl, hb1⟩
  have HB1 := Lib.hid ((below_alloc w _).trans (hb1.mono (by simp)))
  clear hb1
  go_wp2_with fail
  go_ret
  exact ⟨rfl, HB1.out⟩
theorem validGates_any (w : World) (lo hi : Nat) (m : M.Wk) (a b : Option Addr) (c d : Nat) (h : WkIn lo hi w m a c b d) (hz : hi ≤ w.heap.size) :
    Calls Try.prog 63 #[.agg #[.int .i64 m.size, .slice a m.gates.length c, .slice b m.pulls.length d]] w (BoolPost w (M.fewG m && M.gatesB m.size m.gates)) := by
  have H := Lib.hid h
  have hc1 := h.c1
  have hc2 := h.c2
  clear h
  by_cases hl : m.gates.length ≤ 30
  · have HL : Hid (M.fewG m = true) := Lib.hid (decide_eq_true hl)
    go_enter Try.func63, Try.ntmps63
    go_wp2_with fail
    refine named ?_
    intro W hW
    have hb : Below w.heap.size w W := by rw [hW]; exact below_alloc _ _
    have x1 : Box3 W w.heap.size 28 (.int .i64 m.size) (.slice a m.gates.length c) (.slice b m.pulls.length d) := by rw [hW]; exact Box3.new _ _ _ _ rfl
    clear hW
    have hzw := hb.size
    have X1 := Lib.hid x1
    have HB := Lib.hid hb
    have CF := containsFuncG_any 110 #[.pointer (some ⟨w.heap.size, 0, none⟩)] (fun g => !M.gateB m.size g) (enters_of Try.func110 (by kernel_rfl) rfl) W lo hi a c m.gates (fun W' g hq => wrongGate_any m a b c d g _ W' (X1.out.below hq)) (H.out.below hb hz).gates (by omega) (by omega)
    clear x1 hb
    refine CF.mono ?_
    rintro e w1 ⟨rfl, hb1⟩
    have X2 := Lib.hid (X1.out.below hb1)
    have HB1 := Lib.hid (HB.out.trans (hb1.mono hzw))
    have hz1 := hb1.size
    clear hb1 CF
    cases q : m.gates.any fun g => !M.gateB m.size g with
    | true =>
      have HF : Hid (M.gatesB m.size m.gates = false) := Lib.hid (M.gatesB_all q)
      clear q
      go_wp2_with fail
      go_ret
      exact ⟨by rw [HL.out, HF.out]; rfl, HB1.out⟩
    | false =>
      have HG := Lib.hid (fun k (hk : k < m.gates.length) => M.gate_of_any q hk)
      clear q
      go_wp2_with fail
      go_loopw [4] (fun i wr => ∃ (k : Nat), 1 ≤ k ∧ (k ≤ m.gates.length ∨ k = 1) ∧ i = .int .i64 k ∧ (∀ j, j < k → j < m.gates.length → M.stepG m.size m.gates j = true) ∧ Box3 wr w.heap.size 28 (.int .i64 m.size) (.slice a m.gates.length c) (.slice b m.pulls.length d) ∧ Below w.heap.size w wr) (fun i _ => m.gates.length + 1 - (intOf i).toNat)
      case atStart => exact ⟨1, Nat.le_refl _, .inr rfl, rfl, fun j h h2 => (M.stepG_iff h2).2 ⟨HG.out j h2, fun h0 => by omega⟩, X2.out, HB1.out⟩
      case round =>
        obtain ⟨k, hk1, hk2, rfl, hall, hbox, hnx⟩ := hrel
        have HA := Lib.hid hall
        have HN := Lib.hid hnx
        have HBX := Lib.hid hbox
        have hzr := hnx.size
        have hbl := hbox.lt
        clear hall hnx hbox
        by_cases hlt : k < m.gates.length
        · obtain ⟨j, rfl⟩ : ∃ j, k = j + 1 := ⟨k - 1, by omega⟩
          obtain ⟨db, off, rfl, _, hdb, hc0⟩ := (H.out.gates.below HN.out hz).at_ (k := (j + 1) * 4) (by rw [M.encGs_len]; omega)
          have hjl : j < m.gates.length := by omega
          have hjl2 : (j : Int) < (m.gates.length : Int) := by omega
          have hw1 : IntKind.i64.wrap ((j : Int) + 1 - 1) = (j : Int) := by rw [IntWalk.i64_in _ (by omega)]; omega
          have hw2 : IntKind.i64.wrap (j : Int) = (j : Int) := IntWalk.i64_in _ (by omega)
          have a0 : wr.cell? ⟨db, off + (j + 1) * 4, none⟩ = some (.int .i64 (m.gates[j + 1]'hlt).1) := hc0 _ _ (M.encGs_at0 hlt)
          have a1 : wr.cell? ⟨db, off + (j + 1) * 4 + 1, none⟩ = some (.int .i64 (m.gates[j + 1]'hlt).2.1) := hc0 _ _ (M.encGs_at1 hlt)
          have a2 : wr.cell? ⟨db, off + (j + 1) * 4 + 2, none⟩ = some (.int .i64 (m.gates[j + 1]'hlt).2.2.1) := hc0 _ _ (M.encGs_at2 hlt)
          have a3 : wr.cell? ⟨db, off + (j + 1) * 4 + 3, none⟩ = some (.int .i64 (m.gates[j + 1]'hlt).2.2.2) := hc0 _ _ (M.encGs_at3 hlt)
          have p0 : wr.cell? ⟨db, off + j * 4, none⟩ = some (.int .i64 (m.gates[j]'hjl).1) := hc0 _ _ (M.encGs_at0 hjl)
          have p1 : wr.cell? ⟨db, off + j * 4 + 1, none⟩ = some (.int .i64 (m.gates[j]'hjl).2.1) := hc0 _ _ (M.encGs_at1 hjl)
          have p2 : wr.cell? ⟨db, off + j * 4 + 2, none⟩ = some (.int .i64 (m.gates[j]'hjl).2.2.1) := hc0 _ _ (M.encGs_at2 hjl)
          have p3 : wr.cell? ⟨db, off + j * 4 + 3, none⟩ = some (.int .i64 (m.gates[j]'hjl).2.2.2) := hc0 _ _ (M.encGs_at3 hjl)
          obtain ⟨r, hr⟩ : ∃ r, r = M.cmpG (m.gates[j]'hjl) (m.gates[j + 1]'hlt) := ⟨_, rfl⟩
          have CP := Lib.hid (fun W => compareGates_any (m.gates[j]'hjl) (m.gates[j + 1]'hlt) W)
          rw [← hr] at CP
          have hgd : M.ltG (m.gates.getD (j + 1 - 1) default) (m.gates[j + 1]'hlt) = M.ltG (m.gates[j]'hjl) (m.gates[j + 1]'hlt) := by
            rw [Nat.add_sub_cancel, List.getD_eq_getElem?_getD, List.getElem?_eq_getElem hjl]
            rfl
          have HR : Hid (r < 0 ↔ M.ltG (m.gates.getD (j + 1 - 1) default) (m.gates[j + 1]'hlt) = true) := Lib.hid (by rw [hgd, hr]; exact M.cmpG_lt)
          clear hr hgd
          obtain ⟨x0, x1, x2⟩ := HBX.out.cells
          have hdw : db < wr.heap.size := by omega
          have X1' := cell_grown hbl x1
          have A0 := cell_grown (a := ⟨db, off + (j + 1) * 4, none⟩) hdw a0
          have A1 := cell_grown (a := ⟨db, off + (j + 1) * 4 + 1, none⟩) hdw a1
          have A2 := cell_grown (a := ⟨db, off + (j + 1) * 4 + 2, none⟩) hdw a2
          have A3 := cell_grown (a := ⟨db, off + (j + 1) * 4 + 3, none⟩) hdw a3
          have R0 := cell_grown (a := ⟨db, off + j * 4, none⟩) hdw p0
          have R1 := cell_grown (a := ⟨db, off + j * 4 + 1, none⟩) hdw p1
          have R2 := cell_grown (a := ⟨db, off + j * 4 + 2, none⟩) hdw p2
          have R3 := cell_grown (a := ⟨db, off + j * 4 + 3, none⟩) hdw p3
          have mixed : Try.prog.follows .mixedOrders = true := by kernel_rfl
          clear hc0 p0 p1 p2 p3 a0 a1 a2 a3 x0 x2
          by_cases hr0 : r < 0
          · have HS : Hid (M.stepG m.size m.gates (j + 1) = true) := Lib.hid ((M.stepG_iff hlt).2 ⟨HG.out _ hlt, fun _ => HR.out.1 hr0⟩)
            go_wp2_with fail
            clear x1
            refine wp_region_quiet_grown (by assumption) (by kernel_rfl) ?_
            repeat (first | go_big_quiet_step (first | (go_at_call 104; refine Calls.grown_of (CP.out _))) | quiet_step (first | (go_at_call 104; refine Calls.grown_of (CP.out _))))
            refine wpQuiet_nil ?_
            intro _ hw'
            obtain ⟨⟨nq, osq⟩, hw''⟩ := hw'
            subst hw''
            go_wp2_with fail
            go_roundw
            case rel => exact ⟨j + 1 + 1, by omega, .inl (by omega), by go_num, fun i hi hi2 => by
              rcases Nat.lt_or_ge i (j + 1) with h | h
              · exact HA.out i h hi2
              · obtain rfl : i = j + 1 := by omega
                exact HS.out, HBX.out.below (below_grown wr _ _), HN.out.trans ((below_grown wr _ _).mono (by omega))⟩
            case measure => simp [intOf]; omega
          · have HF : Hid (M.gatesB m.size m.gates = false) := Lib.hid (M.stepG_no2 hlt (by omega) (by
              rw [Bool.eq_false_iff]
              exact fun h => hr0 (HR.out.2 h)))
            go_wp2_with fail
            clear x1
            refine wp_region_quiet_grown (by assumption) (by kernel_rfl) ?_
            repeat (first | go_big_quiet_step (first | (go_at_call 104; refine Calls.grown_of (CP.out _))) | quiet_step (first | (go_at_call 104; refine Calls.grown_of (CP.out _))))
            refine wpQuiet_nil ?_
            intro _ hw'
            obtain ⟨⟨nq, osq⟩, hw''⟩ := hw'
            subst hw''
            go_wp2_with fail
            go_ret
            exact ⟨by rw [HL.out, HF.out]; rfl, HN.out.trans ((below_grown wr _ _).mono (by omega))⟩
        · have HF : Hid (M.gatesB m.size m.gates = true) := Lib.hid (M.all_range_take.2 fun j hj => HA.out j (by omega) hj)
          obtain ⟨x0, x1, x2⟩ := HBX.out.cells
          go_wp2_with fail
          go_ret
          exact ⟨by rw [HL.out, HF.out]; rfl, HN.out⟩
  · have HL : Hid (M.fewG m = false) := Lib.hid (decide_eq_false hl)
    have hl' : 30 < m.gates.length := by omega
    go_enter Try.func63, Try.ntmps63
    go_wp2_with fail
    go_ret
    exact ⟨by rw [HL.out]; rfl, below_alloc _ _⟩
theorem isWorks_any (w : World) (lo hi : Nat) (m : M.Wk) (a b : Option Addr) (c d : Nat) (h : WkIn lo hi w m a c b d) (hz : hi ≤ w.heap.size) :
    Calls Try.prog 20 #[.agg #[.int .i64 m.size, .slice a m.gates.length c, .slice b m.pulls.length d]] w (BoolPost w (M.worksB m)) := by
  have H := Lib.hid h
  have HP := Lib.hid (M.worksB_parts m)
  clear h
  go_enter Try.func20, Try.ntmps20
  go_wp2_with fail
  refine named ?_
  intro W hW
  have hb : Below w.heap.size w W := by rw [hW]; exact below_alloc _ _
  have x1 : Box3 W w.heap.size 28 (.int .i64 m.size) (.slice a m.gates.length c) (.slice b m.pulls.length d) := by rw [hW]; exact Box3.new _ _ _ _ rfl
  clear hW
  have hzw := hb.size
  refine (sizeW_any m a b c d W).mono ?_
  rintro e w1 ⟨rfl, hb1⟩
  have X1 := Lib.hid (x1.below hb1)
  have HB1 := Lib.hid (hb.trans (hb1.mono hzw))
  have hz1 := hb1.size
  clear x1 hb hb1
  obtain ⟨c10, c11, c12⟩ := X1.out.cells
  cases q0 : M.sizeW m with
  | false =>
    have HF : Hid (M.worksB m = false) := Lib.hid (by rw [HP.out, q0]; rfl)
    clear q0
    go_wp2_with fail
    go_ret
    exact ⟨by rw [HF.out]; rfl, HB1.out⟩
  | true =>
    have hs12 : m.size ≤ 12 := by unfold M.sizeW at q0; exact (decide_eq_true_iff.1 q0).2
    have Q0 := Lib.hid q0
    clear q0
    go_wp2_with fail
    refine (validPulls_any w1 lo hi m a b c d (H.out.below HB1.out hz) (by omega) hs12).mono ?_
    rintro e w2 ⟨rfl, hb2⟩
    clear c10 c11 c12
    have X2 := Lib.hid (X1.out.below hb2)
    obtain ⟨c10, c11, c12⟩ := X2.out.cells
    have hz2 := hb2.size
    have HB2 := Lib.hid (HB1.out.trans (hb2.mono (by omega)))
    clear hb2
    cases q1 : (M.pullsLenB m && M.keysB m.pulls) with
    | false =>
      have HF : Hid (M.worksB m = false) := Lib.hid (by rw [HP.out, q1, Q0.out]; rfl)
      clear q1
      go_wp2_with fail
      go_ret
      exact ⟨by rw [HF.out]; rfl, HB2.out⟩
    | true =>
      have HF : Hid (M.worksB m = (M.fewG m && M.gatesB m.size m.gates)) := Lib.hid (by rw [HP.out, q1, Q0.out]; rfl)
      clear q1
      go_wp2_with fail
      refine (validGates_any w2 lo hi m a b c d (H.out.below HB2.out hz) (by omega)).mono ?_
      rintro e w3 ⟨rfl, hb3⟩
      have HB3 := Lib.hid (HB2.out.trans (hb3.mono (by omega)))
      clear hb3 c10 c11 c12
      go_wp2_with fail
      go_ret
      exact ⟨by rw [HF.out]; rfl, HB3.out⟩
end C
end Go.Proofs.Ytdgfceiobpnchaa
