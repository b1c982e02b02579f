/-
  MATHEMATICS of hints, own to these proofs: the states on the first way, the colours that are taken on it. No condition.
  CONTRACTS of impl.endOfWalk, impl.wayBehind and of the program's HintAt and HintColours; what lay in memory stays. No condition but that the maze and the list read so.
  CONTRACTS of spec.l6Way and of the model's HintAt and HintColours; what lay in memory stays. No condition but that the maze and the list read so.
-/
import Derived.Test.YtcoaggnilgfjfaaTMath
import Derived.Test.YtcoaggnilgfjfaaTIm
import Derived.Test.YtcoaggnilgfjfaaGainMath
import Derived.Test.YtcoaggnilgfjfaaPartMath
import Derived.Test.YtcoaggnilgfjfaaImplWalk
import Derived.Deep.RegionHeld3
import Derived.Deep.RegionWith
import Derived.Deep.DeepCutAuto
import Derived.Test.YtcoaggnilgfjfaaTSp
import Derived.Test.YtcoaggnilgfjfaaTaken
import Derived.Test.YtcoaggnilgfjfaaOwnQ
import Derived.BigQuiet
import Derived.Deep.LoopGhost
namespace Go.Proofs.Ytcoaggnilgfjfaa
open Go.RowKit
namespace M
theorem end_met {m : Mz} (V : Valid m) {walk : List Int} (h : walkB m walk = true) : Met m (endSt m walk) := by
  obtain ⟨h0, hs⟩ := end_ok V h
  exact ⟨hs, end_at V h0⟩
/-- the states on the first way of n steps -/
noncomputable def wayS (m : Mz) : Nat → St → List St
  | 0, s => [s]
  | n + 1, s => s :: wayS m n (nxS m s n)
/-- the last one of them -/
noncomputable def lastS (m : Mz) : Nat → St → St
  | 0, s => s
  | n + 1, s => lastS m n (nxS m s n)
/-- the one behind k steps -/
noncomputable def atS (m : Mz) : Nat → Nat → St → St
  | _, 0, s => s
  | 0, _ + 1, s => s
  | n + 1, k + 1, s => atS m n k (nxS m s n)
theorem lastS_at (m : Mz) : ∀ (n : Nat) (s : St), atS m n n s = lastS m n s
  | 0, _ => rfl
  | n + 1, s => lastS_at m n (nxS m s n)
theorem wayS_len (m : Mz) : ∀ (n : Nat) (s : St), (wayS m n s).length = n + 1
  | 0, _ => rfl
  | n + 1, s => by show (s :: wayS m n (nxS m s n)).length = _; rw [List.length_cons, wayS_len m n]
theorem wayS_at (m : Mz) : ∀ (n k : Nat) (s : St) (_ : k < n + 1), (wayS m n s)[k]? = some (atS m n k s)
  | 0, 0, _, _ => rfl
  | n + 1, 0, _, _ => rfl
  | n + 1, k + 1, s, h => by
    show (s :: wayS m n (nxS m s n))[k + 1]? = _
    rw [List.getElem?_cons_succ, wayS_at m n k _ (by omega)]
    rfl
theorem wayL_eq (m : Mz) : ∀ (n : Nat) (s : St), wayL m n s = (wayS m n s).map fun u => u.1
  | 0, _ => rfl
  | n + 1, s => by
    show s.1 :: wayL m n (nxS m s n) = ((s :: wayS m n (nxS m s n)).map fun u => u.1)
    rw [wayL_eq m n]; rfl
/-- each is met, and so many steps remain -/
theorem atS_way {m : Mz} (V : Valid m) : ∀ (n k : Nat) (s : St), k ≤ n → Met m s → wayO m s (wonB m) = some n → Met m (atS m n k s) ∧ wayO m (atS m n k s) (wonB m) = some (n - k)
  | _, 0, _, _, hs, h => by unfold atS; exact ⟨hs, h⟩
  | 0, k + 1, _, hk, _, _ => by omega
  | n + 1, k + 1, s, hk, hs, h => by
    obtain ⟨h1, h2⟩ := nxS_ok h
    have := atS_way V n k (nxS m s n) (by omega) (met_next V hs h1) h2
    rw [show n + 1 - (k + 1) = n - k by omega]
    exact this
theorem atS_next {m : Mz} : ∀ (n k : Nat) (s : St), k < n → atS m n (k + 1) s = nxS m (atS m n k s) (n - k - 1)
  | 0, k, _, h => by omega
  | n + 1, 0, s, _ => by
    show atS m n 0 (nxS m s n) = nxS m s (n + 1 - 0 - 1)
    cases n <;> rfl
  | n + 1, k + 1, s, h => by
    show atS m n (k + 1) (nxS m s n) = nxS m (atS m n k (nxS m s n)) (n + 1 - (k + 1) - 1)
    rw [atS_next n k _ (by omega)]
    congr 1
    omega
-- the colours

theorem less_and_fin : ∀ a e : Fin 64, lessS (a.val : Int) (e.val : Int) = bits .and .i64 (a.val : Int) (63 - (e.val : Int)) := by decide +kernel
theorem lessS_and {a e : Int} (ha : 0 ≤ a ∧ a < 64) (he : 0 ≤ e ∧ e < 64) : lessS a e = bits .and .i64 a (63 - e) := by
  have := less_and_fin ⟨a.toNat, by omega⟩ ⟨e.toNat, by omega⟩
  simp only [Int.toNat_of_nonneg ha.1, Int.toNat_of_nonneg he.1] at this
  exact this
theorem lessS_or {a b e : Int} (ha : 0 ≤ a ∧ a < 64) (hb : 0 ≤ b ∧ b < 64) (he : 0 ≤ e ∧ e < 64) : lessS (bits .or .i64 a b) e = bits .or .i64 (lessS a e) (lessS b e) := by
  have ho := or_set ha.1 ha.2 hb.1 hb.2
  rw [lessS_and ⟨ho.1, ho.2⟩ he, lessS_and ha he, lessS_and hb he]
  obtain ⟨x, rfl⟩ : ∃ x : Nat, a = x := ⟨a.toNat, by omega⟩
  obtain ⟨y, rfl⟩ : ∃ y : Nat, b = y := ⟨b.toNat, by omega⟩
  obtain ⟨f, hf⟩ : ∃ f : Nat, 63 - e = f := ⟨(63 - e).toNat, by omega⟩
  rw [hf]
  rw [or_nat (by omega) (by omega)] at ho ⊢
  have l1 : x &&& f < 64 := Nat.lt_of_le_of_lt Nat.and_le_left (by omega)
  have l2 : y &&& f < 64 := Nat.lt_of_le_of_lt Nat.and_le_left (by omega)
  rw [and_nat (by omega) (by omega), and_nat (by omega) (by omega), and_nat (by omega) (by omega), or_nat l1 l2, Nat.and_or_distrib_right]
/-- what is new in the keys of some nodes hangs on what was new before alone -/
theorem gath_new {m : Mz} (V : Valid m) {e : Int} (he : 0 ≤ e ∧ e < 64) : ∀ (l : List Int) (a b : Int), 0 ≤ a ∧ a < 64 → 0 ≤ b ∧ b < 64 → lessS a e = lessS b e → lessS (gath m l a) e = lessS (gath m l b) e
  | [], _, _, _, _, h => h
  | x :: l, a, b, ha, hb, h => by
    have hk := key_set V x.toNat
    refine gath_new V he l _ _ (or_set ha.1 ha.2 hk.1 hk.2) (or_set hb.1 hb.2 hk.1 hk.2) ?_
    rw [lessS_or ha hk he, lessS_or hb hk he, h]
theorem lastS_gath {m : Mz} (V : Valid m) : ∀ (n : Nat) (s : St), Met m s → wayO m s (wonB m) = some n → gath m (wayL m n s) s.2 = (lastS m n s).2
  | 0, s, hs, _ => by
    show gath m [s.1] s.2 = s.2
    have := congrArg Prod.snd hs.2
    exact this
  | n + 1, s, hs, h => by
    obtain ⟨h1, h2⟩ := nxS_ok h
    have hm := met_next V hs h1
    have hk : bits .or .i64 s.2 (keyAt m s.1) = s.2 := congrArg Prod.snd hs.2
    have ih := lastS_gath V n (nxS m s n) hm h2
    show gath m (wayL m n (nxS m s n)) (bits .or .i64 s.2 (m.keys.getD s.1.toNat 0)) = (lastS m n (nxS m s n)).2
    rw [show m.keys.getD s.1.toNat 0 = keyAt m s.1 from rfl, hk, ← ih]
    -- the first node of what remains takes its keys anyhow
    obtain ⟨y, _, _, he⟩ := mem_nexts.1 h1
    have hhead : ∃ l, wayL m n (nxS m s n) = (nxS m s n).1 :: l := by
      cases n with
      | zero => exact ⟨[], rfl⟩
      | succ n => exact ⟨_, rfl⟩
    obtain ⟨l, hl⟩ := hhead
    have e1 : (nxS m s n).1 = (y : Int) := by rw [he]; rfl
    have e2 : (nxS m s n).2 = bits .or .i64 s.2 (keyAt m y) := by rw [he]; rfl
    have h3 : bits .or .i64 (nxS m s n).2 (keyAt m (nxS m s n).1) = (nxS m s n).2 := congrArg Prod.snd hm.2
    rw [hl]
    show gath m l (bits .or .i64 s.2 (m.keys.getD (nxS m s n).1.toNat 0)) = gath m l (bits .or .i64 (nxS m s n).2 (m.keys.getD (nxS m s n).1.toNat 0))
    rw [show m.keys.getD (nxS m s n).1.toNat 0 = keyAt m (nxS m s n).1 from rfl, h3, e1, ← e2]
theorem less_self_fin : ∀ e : Fin 64, lessS (e.val : Int) (e.val : Int) = 0 ∧ lessS 0 (e.val : Int) = 0 := by decide +kernel
/-- the colours that are new on the way -/
theorem new_same {m : Mz} (V : Valid m) {n : Nat} {s : St} (hs : Met m s) (h : wayO m s (wonB m) = some n) : lessS (gath m (wayL m n s) 0) s.2 = lessS (lastS m n s).2 s.2 := by
  obtain ⟨_, _, h3, h4⟩ := hs.1
  obtain ⟨e1, e2⟩ := less_self_fin ⟨s.2.toNat, by omega⟩
  simp only [Int.toNat_of_nonneg h3] at e1 e2
  rw [← lastS_gath V n s hs h]
  exact gath_new V ⟨h3, h4⟩ _ _ _ ⟨Int.le_refl _, by decide⟩ ⟨h3, h4⟩ (by rw [e1, e2])
theorem wayL_node {m : Mz} (V : Valid m) : ∀ (n : Nat) (s : St), Met m s → wayO m s (wonB m) = some n → ∀ x ∈ wayL m n s, 0 ≤ x ∧ x < m.size
  | 0, s, hs, _, x, hx => by
    obtain rfl : x = s.1 := by simpa [wayL] using hx
    exact ⟨hs.1.1, hs.1.2.1⟩
  | n + 1, s, hs, h, x, hx => by
    obtain ⟨h1, h2⟩ := nxS_ok h
    have hx' : x = s.1 ∨ x ∈ wayL m n (nxS m s n) := List.mem_cons.1 hx
    rcases hx' with rfl | hx
    · exact ⟨hs.1.1, hs.1.2.1⟩
    · exact wayL_node V n _ (met_next V hs h1) h2 x hx
theorem way_small {m : Mz} (V : Valid m) {s : St} (hs : Met m s) {n : Nat} (h : wayO m s (wonB m) = some n) : n ≤ 1000000 := by
  have := rem_small V hs h
  have v12 := V.size12
  unfold size64 at this
  omega
/-- what is answered -/
noncomputable def hintO (m : Mz) (walk : List Int) : Option Nat := if takenOnB m walk then wayO m (endSt m walk) (wonB m) else none
noncomputable def hintB (m : Mz) (walk : List Int) : Bool := match hintO m walk with | some (_ + 1) => true | _ => false
noncomputable def hintV (m : Mz) (walk : List Int) : Int := match hintO m walk with | some (n + 1) => (nxS m (endSt m walk) n).1 | _ => 0
noncomputable def hcV (m : Mz) (walk : List Int) : Int := match hintO m walk with | some n => lessS (lastS m n (endSt m walk)).2 (endSt m walk).2 | _ => 0
end M
end Go.Proofs.Ytcoaggnilgfjfaa
namespace Go.Proofs.Ytcoaggnilgfjfaa
open Go.RowKit
namespace M
def endV (m : Mz) (walk : List Int) : St := if takenOnB m walk then endSt m walk else (0, 0)
theorem endV_no {m : Mz} {walk : List Int} (h : takenOnB m walk = false) : endV m walk = (0, 0) := by unfold endV; rw [h]; rfl
theorem endV_yes {m : Mz} {walk : List Int} (h : takenOnB m walk = true) : endV m walk = endSt m walk := by unfold endV; rw [if_pos h]
theorem taken_walk {m : Mz} {walk : List Int} (h : takenOnB m walk = true) : Valid m ∧ walkB m walk = true ∧ takenOnV m walk = takenTo m walk walk.length := by
  cases q : mazeB m with
  | false => rw [(C.takenOn_no (walk := walk) q).1] at h; cases h
  | true =>
    obtain ⟨e1, e2⟩ := C.takenOn_yes (walk := walk) q
    rw [e1] at h
    exact ⟨valid_of q, h, by rw [e2, takenV_yes h]⟩
end M
namespace C
set_option maxHeartbeats 3200000
set_option maxRecDepth 20000
def EndPost (w : World) (s : M.St) (ok : Bool) (e : Ending) (w' : World) : Prop := e = .returned (.tuple #[.agg #[.int .i64 s.1, .int .i64 s.2], .bool ok]) ∧ Below w.heap.size w w'
theorem endOfWalk_any (w : World) (lo hi : Nat) (m : M.Mz) (a b : Option Addr) (c d : Nat) (h : MzIn lo hi w m a c b d) (hz : hi ≤ w.heap.size) (h1 : m.doors.length ≤ 1048576) (h2 : m.keys.length ≤ 1048576) (lo' hi' : Nat) (wa : Option Addr) (wc : Nat) (walk : List Int) (hw : RowIn lo' hi' w wa (M.encIs walk)) (hz' : hi' ≤ w.heap.size) (hl : walk.length ≤ 1048576) (u1 : walk.length ≤ wc) (u2 : wc ≤ 9223372036854775807) (u3 : ∀ z ∈ walk, -9223372036854775808 ≤ z ∧ z ≤ 9223372036854775807) :
    Calls Try.prog 110 #[.agg #[.int .i64 m.size, .slice a m.doors.length c, .slice b m.keys.length d], .slice wa walk.length wc] w (EndPost w (M.endV m walk) (M.takenOnB m walk)) := by
  have H := Lib.hid h
  have HW := Lib.hid hw
  have U3 := Lib.hid u3
  clear h hw u3
  go_enter Try.func110, Try.ntmps110
  go_wp2_with fail
  refine named ?_
  intro W hW
  have hb : Below w.heap.size w W := by rw [hW]; exact (below_alloc _ _).alloc (by simp) _
  have z1 : Box2 W (w.heap.size + 1) 65 (.int .i64 0) (.int .i64 0) := by rw [hW]; exact Box2.new _ _ _ (by simp)
  clear hW
  have hzw := hb.size
  have hzl := z1.lt
  have HB := Lib.hid hb
  refine (implTakenOn_lw W lo hi m a b c d (H.out.below hb hz) (by omega) h1 h2 lo' hi' wa wc walk (HW.out.below hb hz') (by omega) hl u1 u2 U3.out).mono ?_
  rintro e w1 ⟨ta, tc, rfl, ho, ho1, ho2, hb1⟩
  have Z1 := Lib.hid (z1.below hb1)
  have HB1 := Lib.hid (HB.out.trans (hb1.mono hzw))
  have hz1 := hb1.size
  clear hb z1
  cases q : M.takenOnB m walk with
  | false =>
    have HQ := Lib.hid q
    have HE := Lib.hid (M.endV_no q)
    clear q ho hb1
    obtain ⟨k0, k1⟩ := Z1.out.cells
    obtain ⟨f0, f1⟩ := Z1.out.free
    obtain ⟨r0, r1⟩ := (Z1.out.setAll (.int .i64 0) (.int .i64 0)).cells
    go_wp2_with fail
    refine bodyPost_ret (v := .tuple #[.agg #[.int .i64 0, .int .i64 0], .bool false]) (by simp [results, Try.results110, go_sem, r0, r1]) rfl ?_
    rw [HE.out, HQ.out]
    exact ⟨rfl, Below.thenTurned HB1.out (Turned.set2 _ _ _) (by omega) (by omega)⟩
  | true =>
    obtain ⟨V, hwk, htv⟩ := M.taken_walk q
    obtain ⟨h0, _⟩ := M.end_ok V hwk
    obtain ⟨k, hk⟩ : ∃ k, walk.length = k + 1 := ⟨walk.length - 1, by omega⟩
    have hwl := M.walk_last (m := m) hk
    have htl := M.taken_last (m := m) hk
    rw [htv] at ho ho1 ⊢
    rw [M.takenTo_len] at ho1 ⊢
    have HQ := Lib.hid q
    have HE := Lib.hid (M.endV_yes q)
    obtain ⟨wb, woff, hwa, hw1, hw2, hwc⟩ := (HW.out.below HB1.out hz').at_ (k := k) (by rw [M.encIs_len]; omega)
    have x0 := hwc _ _ hwl
    obtain ⟨tb, toff, hta, ht1, ht2, htc⟩ := ho.row.at_ (k := k) (by rw [M.encIs_len, M.takenTo_len]; omega)
    have y0 := htc _ _ htl
    have hki : (walk.length : Int) - 1 = (k : Int) := by omega
    have hkl : (k : Int) < (walk.length : Int) := by omega
    have HK := Lib.hid hk
    subst hwa
    subst hta
    clear q V hwk htv hwl htl hwc htc ho hb1 hk
    generalize M.endSt m walk = s at *
    obtain ⟨k0, k1⟩ := Z1.out.cells
    obtain ⟨f0, f1⟩ := Z1.out.free
    obtain ⟨r0, r1⟩ := (Z1.out.setAll (.int .i64 s.1) (.int .i64 s.2)).cells
    have tt := Turned.set2 (w := w1) (w.heap.size + 1) (.int .i64 s.1) (.int .i64 s.2)
    have hwne : wb ≠ w.heap.size + 1 := by omega
    have htne : tb ≠ w.heap.size + 1 := by omega
    have x1 := (World.cell?_of_block (w := w1) (a := ⟨wb, woff + k, none⟩) (tt.block wb (show wb < w1.heap.size by omega) (by omega))).trans x0
    have y1 := (World.cell?_of_block (w := w1) (a := ⟨tb, toff + k, none⟩) (tt.block tb (show tb < w1.heap.size by omega) (by omega))).trans y0
    clear tt
    go_wp2_with fail
    go_region_held3 (fun wq => wq.cell? ⟨wb, woff + k, none⟩ = some (.int .i64 s.1) ∧ wq.cell? ⟨tb, toff + k, none⟩ = some (.int .i64 s.2)) (first | exact ⟨x0, y0⟩ | exact ⟨x1, y1⟩ | go_keep) (fail)
    all_goals
      go_wp2_with fail
      refine bodyPost_ret (v := .tuple #[.agg #[.int .i64 s.1, .int .i64 s.2], .bool true]) (by simp [results, Try.results110, go_sem, r0, r1]) rfl ?_
      rw [HE.out, HQ.out]
      exact ⟨rfl, Below.drawnN (Below.thenTurned HB1.out (Turned.set2 _ _ _) (by omega) (by omega)) 1⟩
noncomputable def behV (m : M.Mz) (walk : List Int) : List Int := if M.takenOnB m walk then wayV m (M.endSt m walk) else []
theorem behV_no {m : M.Mz} {walk : List Int} (h : M.takenOnB m walk = false) : behV m walk = [] := by unfold behV; rw [h]; rfl
theorem behV_yes {m : M.Mz} {walk : List Int} (h : M.takenOnB m walk = true) : behV m walk = wayV m (M.endSt m walk) := by unfold behV; rw [if_pos h]
def BehindPost (w : World) (s : M.St) (l : List Int) (ok : Bool) (e : Ending) (w' : World) : Prop :=
  ∃ a c, e = .returned (.tuple #[.agg #[.int .i64 s.1, .int .i64 s.2], .slice a l.length c, .bool ok]) ∧ OwnAt w.heap.size w'.heap.size w' 3 a (M.encIs l) ∧ l.length ≤ c ∧ c ≤ 9223372036854775807 ∧ Below w.heap.size w w'
theorem wayBehind_any (w : World) (lo hi : Nat) (m : M.Mz) (a b : Option Addr) (c d : Nat) (h : MzIn lo hi w m a c b d) (hz : hi ≤ w.heap.size) (h1 : m.doors.length ≤ 1048576) (h2 : m.keys.length ≤ 1048576) (lo' hi' : Nat) (wa : Option Addr) (wc : Nat) (walk : List Int) (hw : RowIn lo' hi' w wa (M.encIs walk)) (hz' : hi' ≤ w.heap.size) (hl : walk.length ≤ 1048576) (u1 : walk.length ≤ wc) (u2 : wc ≤ 9223372036854775807) (u3 : ∀ z ∈ walk, -9223372036854775808 ≤ z ∧ z ≤ 9223372036854775807) :
    Calls Try.prog 83 #[.agg #[.int .i64 m.size, .slice a m.doors.length c, .slice b m.keys.length d], .slice wa walk.length wc] w (BehindPost w (M.endV m walk) (behV m walk) (M.hintO m walk).isSome) := by
  have H := Lib.hid h
  have HW := Lib.hid hw
  have U3 := Lib.hid u3
  clear h hw u3
  have HO1 := Lib.hid (fun (h : M.takenOnB m walk = true) => show M.hintO m walk = M.wayO m (M.endSt m walk) (M.wonB m) from by unfold M.hintO; rw [if_pos h])
  have HO0 := Lib.hid (fun (h : M.takenOnB m walk = false) => show M.hintO m walk = none from by unfold M.hintO; rw [h]; rfl)
  go_enter Try.func83, Try.ntmps83
  go_wp2_with fail
  refine named ?_
  intro W hW
  have hb : Below w.heap.size w W := by rw [hW]; exact (below_alloc _ _).alloc (by simp) _
  have x1 : Box3 W w.heap.size 29 (.int .i64 m.size) (.slice a m.doors.length c) (.slice b m.keys.length d) := by rw [hW]; exact (Box3.new _ _ _ _ rfl).alloc _
  have z1 : Box2 W (w.heap.size + 1) 65 (.int .i64 0) (.int .i64 0) := by rw [hW]; exact Box2.new _ _ _ (by simp)
  clear hW
  have hzw := hb.size
  have hzl := z1.lt
  have HB := Lib.hid hb
  refine (endOfWalk_any W lo hi m a b c d (H.out.below hb hz) (by omega) h1 h2 lo' hi' wa wc walk (HW.out.below hb hz') (by omega) hl u1 u2 U3.out).mono ?_
  rintro e w1 ⟨rfl, hb1⟩
  have Z1 := Lib.hid (z1.below hb1)
  have X1 := Lib.hid (x1.below hb1)
  have HB1 := Lib.hid (HB.out.trans (hb1.mono hzw))
  have hz1 := hb1.size
  clear hb z1 x1 hb1
  cases q : M.takenOnB m walk with
  | false =>
    have HQ := Lib.hid q
    have HE := Lib.hid (M.endV_no q)
    have HN := Lib.hid (HO0.out q)
    have HL := Lib.hid (behV_no q)
    clear q HO0 HO1
    generalize M.endV m walk = s at *
    have Z2 := Z1.out.alloc (.cells #[.int .i64 s.1, .int .i64 s.2] 65)
    have Z3 := Z2.alloc (.cells #[] 3)
    obtain ⟨k0, k1⟩ := Z3.cells
    obtain ⟨f0, f1⟩ := Z3.free
    obtain ⟨r0, r1⟩ := (Z3.setAll (.int .i64 0) (.int .i64 0)).cells
    clear Z2 Z3
    go_wp2_with fail
    refine bodyPost_ret (v := .tuple #[.agg #[.int .i64 0, .int .i64 0], .slice (some ⟨w1.heap.size + 1, 0, none⟩) 0 0, .bool false]) (by simp [results, Try.results83, go_sem, r0, r1]) rfl ?_
    rw [HE.out, HL.out, HN.out]
    exact ⟨_, _, rfl, .inl rfl, by simp, by omega, Below.thenTurned ((HB1.out.alloc (by omega) _).alloc (by simp; omega) _) (Turned.set2 _ _ _) (by omega) (by simp; omega)⟩
  | true =>
    obtain ⟨V, hwk, _⟩ := M.taken_walk q
    have HVA := Lib.hid V
    have HMT := Lib.hid (M.end_met V hwk)
    have HQ := Lib.hid q
    have HE := Lib.hid (M.endV_yes q)
    have HN := Lib.hid (HO1.out q)
    have HL := Lib.hid (behV_yes q)
    have HFW := Lib.hid (fun (W' : World) (hq : Below w1.heap.size w1 W') => firstWayFrom_any W' lo hi m a b c d (H.out.below (HB1.out.trans (hq.mono (by omega))) hz) (by have := hq.size; omega) V (M.endSt m walk) (M.end_met V hwk))
    clear q V hwk HO0 HO1
    rw [HE.out]
    generalize M.endSt m walk = s at *
    have hbA : Below w1.heap.size w1 (w1.alloc (.cells #[.int .i64 s.1, .int .i64 s.2] 65)) := below_alloc _ _
    have XA := X1.out.below hbA
    have ZA := Z1.out.below hbA
    have YA : Box2 (w1.alloc (.cells #[.int .i64 s.1, .int .i64 s.2] 65)) w1.heap.size 65 (.int .i64 s.1) (.int .i64 s.2) := Box2.new _ _ _ rfl
    obtain ⟨c0, c1, c2⟩ := XA.cells
    obtain ⟨y0, y1⟩ := YA.cells
    have HXA := Lib.hid XA
    have HZA := Lib.hid ZA
    have HYA := Lib.hid YA
    clear XA ZA YA
    go_wp2_with fail
    refine named ?_
    intro W2 hW2
    have e2 := hW2
    rw [← hW2] at HXA HZA HYA
    have hb2 : Below w1.heap.size w1 W2 := by rw [hW2]; exact hbA
    clear hW2 e2 c0 c1 c2 y0 y1 hbA
    refine (HFW.out W2 hb2).mono ?_
    rintro e w3 ⟨qa, qc, rfl, hp, hp1, hp2, hb3⟩
    have HP := Lib.hid hp
    have hz2 := hb2.size
    have hz3 := hb3.size
    have HB3 := Lib.hid (HB1.out.trans ((hb2.mono (by omega)).trans (hb3.mono (by omega))))
    have Z3 := HZA.out.below hb3
    have Y3 := HYA.out.below hb3
    obtain ⟨k0, k1⟩ := Z3.cells
    obtain ⟨f0, f1⟩ := Z3.free
    obtain ⟨y0, y1⟩ := Y3.cells
    obtain ⟨r0, r1⟩ := (Z3.setAll (.int .i64 s.1) (.int .i64 s.2)).cells
    clear hp hb2 hb3 Z3 Y3
    have HOK := Lib.hid (congrArg Option.isSome HN.out)
    generalize wayV m s = L at *
    generalize (M.wayO m s (M.wonB m)).isSome = ok at *
    go_wp2_with fail
    refine bodyPost_ret (v := .tuple #[.agg #[.int .i64 s.1, .int .i64 s.2], .slice qa L.length qc, .bool ok]) (by simp [results, Try.results83, go_sem, r0, r1]) rfl ?_
    rw [HE.out, HL.out, HOK.out]
    exact ⟨qa, qc, rfl, (HP.out.turned (Turned.set2 _ _ _) (Nat.le_refl _) (.inr (by omega))).mono (by omega) (by simp [World.setCell]), hp1, hp2, Below.thenTurned HB3.out (Turned.set2 _ _ _) (by omega) (by omega)⟩
theorem implHint_lw (w : World) (lo hi : Nat) (m : M.Mz) (a b : Option Addr) (c d : Nat) (h : MzIn lo hi w m a c b d) (hz : hi ≤ w.heap.size) (_h1 : m.doors.length ≤ 1048576) (_h2 : m.keys.length ≤ 1048576) (lo' hi' : Nat) (wa : Option Addr) (wc : Nat) (walk : List Int) (hw : RowIn lo' hi' w wa (M.encIs walk)) (hz' : hi' ≤ w.heap.size) (hl : walk.length ≤ 1048576) (_u1 : walk.length ≤ wc) (_u2 : wc ≤ 9223372036854775807) (_u3 : ∀ z ∈ walk, -9223372036854775808 ≤ z ∧ z ≤ 9223372036854775807) :
    Calls Try.prog 50 #[.agg #[.int .i64 m.size, .slice a m.doors.length c, .slice b m.keys.length d], .slice wa walk.length wc] w (fun e w' => e = .returned (.tuple #[.int .i64 (M.hintV m walk), .bool (M.hintB m walk)]) ∧ Below w.heap.size w w') := by
  have H := Lib.hid h
  have HW := Lib.hid hw
  have U3 := Lib.hid _u3
  clear h hw _u3
  go_enter Try.func50, Try.ntmps50
  go_wp2_with fail
  refine named ?_
  intro W hW
  have hb : Below w.heap.size w W := by rw [hW]; exact below_alloc _ _
  clear hW
  have hzw := hb.size
  refine (wayBehind_any W lo hi m a b c d (H.out.below hb hz) (by omega) _h1 _h2 lo' hi' wa wc walk (HW.out.below hb hz') (by omega) hl _u1 _u2 U3.out).mono ?_
  rintro e w1 ⟨qa, qc, rfl, hp, hp1, hp2, hb1⟩
  have HB1 := Lib.hid (hb.trans (hb1.mono hzw))
  have HP := Lib.hid hp
  have hz1 := hb1.size
  clear hb hb1 hp
  have HV : Hid (M.hintV m walk = match M.hintO m walk with | some (n + 1) => (M.nxS m (M.endSt m walk) n).1 | _ => 0) := Lib.hid rfl
  have HBO : Hid (M.hintB m walk = match M.hintO m walk with | some (_ + 1) => true | _ => false) := Lib.hid rfl
  have HBE : Hid (∀ n, M.hintO m walk = some n → behV m walk = M.wayL m n (M.endSt m walk)) := Lib.hid (fun n hn => by
    cases q : M.takenOnB m walk with
    | false => unfold M.hintO at hn; rw [q] at hn; cases hn
    | true =>
      have hw : M.wayO m (M.endSt m walk) (M.wonB m) = some n := by unfold M.hintO at hn; rwa [if_pos q] at hn
      rw [behV_yes q]; unfold wayV; rw [hw])
  generalize M.endV m walk = s at *
  cases ho : M.hintO m walk with
  | none =>
    rw [ho] at HV HBO
    go_wp2_with fail
    go_ret2
    rw [HV.out, HBO.out]
    exact ⟨rfl, HB1.out.alloc (by omega) _⟩
  | some n =>
    rw [ho] at HV HBO
    have hbe := HBE.out n ho
    rw [hbe] at HP hp1 ⊢
    rw [M.wayL_len] at hp1 ⊢
    cases n with
    | zero =>
      go_wp2_with fail
      go_ret2
      rw [HV.out, HBO.out]
      exact ⟨rfl, HB1.out.alloc (by omega) _⟩
    | succ n =>
      have hl2 : (M.wayL m (n + 1) (M.endSt m walk)).length = n + 1 + 1 := M.wayL_len _ _ _
      obtain ⟨qb, qoff, hqa, hq1, hq2, hqc⟩ := HP.out.row.at_ (k := 1) (by rw [M.encIs_len, hl2]; omega)
      have q0 : w1.cell? ⟨qb, qoff + 1, none⟩ = some (.int .i64 (M.nxS m (M.endSt m walk) n).1) := hqc _ _ (by
        show (M.encIs ((M.endSt m walk).1 :: M.wayL m n (M.nxS m (M.endSt m walk) n)))[1]? = _
        cases n <;> rfl)
      have q1 := (below_alloc w1 (.cells #[.int .i64 s.1, .int .i64 s.2] 65)).cell (p := ⟨qb, qoff + 1, none⟩) (show qb < w1.heap.size from hq2)
      rw [q0] at q1
      have hne : ((n : Int) + 1 + 1 == 1) = false := by rw [beq_eq_false_iff_ne]; omega
      clear hqc q0
      subst hqa
      have HV2 : Hid (M.hintV m walk = (M.nxS m (M.endSt m walk) n).1) := Lib.hid HV.out
      have HB2 : Hid (M.hintB m walk = true) := Lib.hid HBO.out
      clear HV HBO
      generalize (M.nxS m (M.endSt m walk) n).1 = v at *
      go_wp2_with fail
      go_ret2
      rw [HV2.out, HB2.out]
      exact ⟨rfl, HB1.out.alloc (by omega) _⟩
theorem implHc_lw (w : World) (lo hi : Nat) (m : M.Mz) (a b : Option Addr) (c d : Nat) (h : MzIn lo hi w m a c b d) (hz : hi ≤ w.heap.size) (_h1 : m.doors.length ≤ 1048576) (_h2 : m.keys.length ≤ 1048576) (lo' hi' : Nat) (wa : Option Addr) (wc : Nat) (walk : List Int) (hw : RowIn lo' hi' w wa (M.encIs walk)) (hz' : hi' ≤ w.heap.size) (hl : walk.length ≤ 1048576) (_u1 : walk.length ≤ wc) (_u2 : wc ≤ 9223372036854775807) (_u3 : ∀ z ∈ walk, -9223372036854775808 ≤ z ∧ z ≤ 9223372036854775807) :
    Calls Try.prog 52 #[.agg #[.int .i64 m.size, .slice a m.doors.length c, .slice b m.keys.length d], .slice wa walk.length wc] w (fun e w' => e = .returned (.tuple #[.int .i64 (M.hcV m walk), .bool (M.hintO m walk).isSome]) ∧ Below w.heap.size w w') := by
  have H := Lib.hid h
  have HW := Lib.hid hw
  have U3 := Lib.hid _u3
  clear h hw _u3
  go_enter Try.func52, Try.ntmps52
  go_wp2_with fail
  refine named ?_
  intro W hW
  have hb : Below w.heap.size w W := by rw [hW]; exact below_alloc _ _
  have x1 : Box3 W w.heap.size 29 (.int .i64 m.size) (.slice a m.doors.length c) (.slice b m.keys.length d) := by rw [hW]; exact Box3.new _ _ _ _ rfl
  clear hW
  have hzw := hb.size
  refine (wayBehind_any W lo hi m a b c d (H.out.below hb hz) (by omega) _h1 _h2 lo' hi' wa wc walk (HW.out.below hb hz') (by omega) hl _u1 _u2 U3.out).mono ?_
  rintro e w1 ⟨qa, qc, rfl, hp, hp1, hp2, hb1⟩
  have HB1 := Lib.hid (hb.trans (hb1.mono hzw))
  have X1 := Lib.hid (x1.below hb1)
  have HP := Lib.hid hp
  have hz1 := hb1.size
  clear hb hb1 hp x1
  have HV : Hid (∀ n, M.hintO m walk = some n → M.hcV m walk = M.lessS (M.lastS m n (M.endSt m walk)).2 (M.endSt m walk).2) := Lib.hid (fun n hn => by unfold M.hcV; rw [hn])
  have HV0 : Hid (M.hintO m walk = none → M.hcV m walk = 0) := Lib.hid (fun hn => by unfold M.hcV; rw [hn])
  have HBE : Hid (∀ n, M.hintO m walk = some n → behV m walk = M.wayL m n (M.endSt m walk) ∧ M.Valid m ∧ M.Met m (M.endSt m walk) ∧ M.wayO m (M.endSt m walk) (M.wonB m) = some n ∧ M.endV m walk = M.endSt m walk) := Lib.hid (fun n hn => by
    cases q : M.takenOnB m walk with
    | false => unfold M.hintO at hn; rw [q] at hn; cases hn
    | true =>
      have hw : M.wayO m (M.endSt m walk) (M.wonB m) = some n := by unfold M.hintO at hn; rwa [if_pos q] at hn
      obtain ⟨V, hwk, _⟩ := M.taken_walk q
      exact ⟨by rw [behV_yes q]; unfold wayV; rw [hw], V, M.end_met V hwk, hw, M.endV_yes q⟩)
  cases ho : M.hintO m walk with
  | none =>
    have HZ := Lib.hid (HV0.out ho)
    have HOO := Lib.hid ho
    clear ho
    generalize M.endV m walk = s at *
    go_wp2_with fail
    go_ret2
    rw [HZ.out, HOO.out]
    exact ⟨rfl, HB1.out.alloc (by omega) _⟩
  | some n =>
    obtain ⟨hbe, V, hmet, hway, hev⟩ := HBE.out n ho
    have HOO := Lib.hid ho
    have HZ : Hid (M.hcV m walk = M.lessS (M.gath m (M.wayL m n (M.endSt m walk)) 0) (M.endSt m walk).2) := Lib.hid (by rw [HV.out n ho, M.new_same V hmet hway])
    have hsm := M.way_small V hmet hway
    have HND := Lib.hid (M.wayL_node V n _ hmet hway)
    have hwl := M.wayL_len m n (M.endSt m walk)
    have vk := V.keysLen
    have v12 := V.size12
    rw [hbe] at HP hp1 ⊢
    rw [hev]
    clear ho hbe V hmet hway hev HV HV0 HBE
    generalize M.endSt m walk = s at *
    generalize M.wayL m n s = L at *
    have HGT := Lib.hid (fun (i : Nat) (hi : i < L.length) => M.gath_take (m := m) hi 0)
    have hbA : Below w1.heap.size w1 (w1.alloc (.cells #[.int .i64 s.1, .int .i64 s.2] 65)) := below_alloc _ _
    have XA := Lib.hid (X1.out.below hbA)
    have YA : Hid (Box2 (w1.alloc (.cells #[.int .i64 s.1, .int .i64 s.2] 65)) w1.heap.size 65 (.int .i64 s.1) (.int .i64 s.2)) := Lib.hid (Box2.new _ _ _ rfl)
    have HPA := Lib.hid (HP.out.below hbA (Nat.le_refl _))
    have HBA := Lib.hid (HB1.out.trans (hbA.mono HB1.out.size))
    clear hbA
    go_wp2_with fail
    refine wp_named ?_
    intro W2 hW2
    rw [← hW2] at XA YA HPA HBA
    clear hW2
    obtain ⟨c0, c1, c2⟩ := XA.out.cells
    obtain ⟨y0, y1⟩ := YA.out.cells
    go_loop [9, 23] (fun v9 v23 => ∃ (i : Nat), i ≤ L.length ∧ v23 = .int .i64 i ∧ v9 = .int .i64 (M.gath m (L.take i) 0)) (fun _ v23 => L.length - (intOf v23).toNat)
    case atStart => exact ⟨0, Nat.zero_le _, rfl, rfl⟩
    case round =>
      obtain ⟨i, hi1, rfl, rfl⟩ := hrel
      by_cases hil : i < L.length
      · obtain ⟨qb, qoff, hqa, hq1, hq2, hqc⟩ := HPA.out.row.at_ (k := i) (by rw [M.encIs_len]; exact hil)
        have q0 := hqc _ _ (M.encIs_at hil)
        obtain ⟨n0, n1⟩ := HND.out L[i] (List.getElem_mem hil)
        have HG := Lib.hid (HGT.out i hil)
        generalize L[i] = x at *
        obtain ⟨j, rfl⟩ : ∃ j : Nat, x = (j : Int) := ⟨x.toNat, by omega⟩
        have hjl : j < m.keys.length := by omega
        obtain ⟨ib, ioff, hib, _, hib2, hic⟩ := H.out.keys.at_ (k := j) (by rw [M.encIs_len]; exact hjl)
        have k0 : W2.cell? ⟨ib, ioff + j, none⟩ = some (.int .i64 m.keys[j]) := (HBA.out.cell (p := ⟨ib, ioff + j, none⟩) (show ib < w.heap.size by omega)).trans (hic _ _ (M.encIs_at hjl))
        have hgt : Hid (M.gath m (L.take (i + 1)) 0 = bits .or .i64 (M.gath m (L.take i) 0) m.keys[j]) := Lib.hid (by rw [HG.out, Int.toNat_natCast, List.getD_eq_getElem?_getD, List.getElem?_eq_getElem hjl]; rfl)
        have hjd : j < d := by have := H.out.d1; omega
        have hjli : (j : Int) < (m.keys.length : Int) := by omega
        clear hqc hic HG n0 n1
        subst hqa
        subst hib
        generalize m.keys[j] = kv at *
        go_wp2_with fail
        go_round
        case rel => exact ⟨i + 1, by omega, by go_num, by rw [hgt.out]⟩
        case measure => simp [intOf]; omega
      · obtain rfl : i = L.length := by omega
        rw [List.take_of_length_le (Nat.le_refl _)]
        go_wp2_with fail
        go_ret2
        rw [HZ.out, HOO.out]
        exact ⟨rfl, HBA.out⟩
end C
end Go.Proofs.Ytcoaggnilgfjfaa
namespace Go.Proofs.Ytcoaggnilgfjfaa
open Go.RowKit
namespace M
noncomputable def nodesV (m : Mz) (walk : List Int) : List Int := match hintO m walk with | some n => wayL m n (endSt m walk) | none => []
noncomputable def setsV (m : Mz) (walk : List Int) : List Int := match hintO m walk with | some n => (wayS m n (endSt m walk)).map (fun u => u.2) | none => []
theorem nodesV_no {m : Mz} {walk : List Int} (h : hintO m walk = none) : nodesV m walk = [] ∧ setsV m walk = [] := by unfold nodesV setsV; rw [h]; exact ⟨rfl, rfl⟩
theorem nodesV_yes {m : Mz} {walk : List Int} {n : Nat} (h : hintO m walk = some n) : nodesV m walk = wayL m n (endSt m walk) ∧ setsV m walk = (wayS m n (endSt m walk)).map (fun u => u.2) := by unfold nodesV setsV; rw [h]; exact ⟨rfl, rfl⟩
theorem hintO_no {m : Mz} {walk : List Int} (h : takenOnB m walk = false) : hintO m walk = none := by unfold hintO; rw [h]; rfl
theorem hintO_yes {m : Mz} {walk : List Int} (h : takenOnB m walk = true) : hintO m walk = wayO m (endSt m walk) (wonB m) := by unfold hintO; rw [if_pos h]
theorem nodes_take (m : Mz) (n k : Nat) (s : St) (h : k < n + 1) : (wayL m n s).take (k + 1) = (wayL m n s).take k ++ [(atS m n k s).1] := by
  have hl : k < (wayL m n s).length := by rw [wayL_len]; exact h
  rw [List.take_succ_eq_append_getElem hl]
  congr 2
  have h1 := wayS_at m n k s h
  have h2 : (wayL m n s)[k]? = some (atS m n k s).1 := by rw [wayL_eq, List.getElem?_map, h1]; rfl
  rw [List.getElem?_eq_getElem hl] at h2
  exact Option.some.inj h2
theorem sets_take (m : Mz) (n k : Nat) (s : St) (h : k < n + 1) : ((wayS m n s).map fun u => u.2).take (k + 1) = ((wayS m n s).map fun u => u.2).take k ++ [(atS m n k s).2] := by
  have hl : k < ((wayS m n s).map fun u => u.2).length := by rw [List.length_map, wayS_len]; exact h
  rw [List.take_succ_eq_append_getElem hl]
  congr 2
  have h1 := wayS_at m n k s h
  have h2 : ((wayS m n s).map fun u => u.2)[k]? = some (atS m n k s).2 := by rw [List.getElem?_map, h1]; rfl
  rw [List.getElem?_eq_getElem hl] at h2
  exact Option.some.inj h2
end M
namespace C
set_option maxHeartbeats 3200000
set_option maxRecDepth 20000
theorem OwnQ.grownNe {B size n : Nat} {w w' : World} {T : TypeId} {v : Value} {xs : List Value} {row : Option Nat} (h : OwnQ B w T size v n xs) (hg : w.grownBy w' row) (hne : ∀ z, v.ownBlock = some z → row ≠ some z) : OwnQ B w' T size v n xs := by
  refine ⟨h.1, ?_⟩
  rcases h.2 with h' | ⟨g, off, cap, cur, rfl, hb, hh, r⟩
  · exact .inl h'
  · exact .inr ⟨g, off, cap, cur, rfl, hb, (hg.block g (heap_lt hh) fun e => hne g rfl e.symm).trans hh, r⟩
def WayPost (w : World) (ns ss : List Int) (ok : Bool) (e : Ending) (w' : World) : Prop :=
  ∃ na nc sa sc, e = .returned (.tuple #[.slice na ns.length nc, .slice sa ss.length sc, .bool ok]) ∧ OwnAt w.heap.size w'.heap.size w' 3 na (M.encIs ns) ∧ OwnAt w.heap.size w'.heap.size w' 3 sa (M.encIs ss) ∧ Below w.heap.size w w'
theorem l6Way_any (w : World) (lo hi : Nat) (m : M.Mz) (a b : Option Addr) (c d : Nat) (h : MzIn lo hi w m a c b d) (hz : hi ≤ w.heap.size) (_h1 : m.doors.length ≤ 1048576) (_h2 : m.keys.length ≤ 1048576) (lo' hi' : Nat) (wa : Option Addr) (wc : Nat) (walk : List Int) (hw : RowIn lo' hi' w wa (M.encIs walk)) (hz' : hi' ≤ w.heap.size) (hl : walk.length ≤ 1048576) (_u1 : walk.length ≤ wc) (_u2 : wc ≤ 9223372036854775807) :
    Calls Try.prog 82 #[.agg #[.int .i64 m.size, .slice a m.doors.length c, .slice b m.keys.length d], .slice wa walk.length wc] w (WayPost w (M.nodesV m walk) (M.setsV m walk) (M.hintO m walk).isSome) := by
  obtain ⟨ii0, hi0, hz0, hzz1, hz2⟩ := info_parts infoI
  have H := Lib.hid h
  have HW := Lib.hid hw
  clear h hw
  have mixed : Try.prog.follows .mixedOrders = true := by kernel_rfl
  go_enter Try.func82, Try.ntmps82
  go_wp2_with fail
  refine named ?_
  intro W hW
  have hb : Below w.heap.size w W := by rw [hW]; exact below_alloc _ _
  have x1 : Box3 W w.heap.size 29 (.int .i64 m.size) (.slice a m.doors.length c) (.slice b m.keys.length d) := by rw [hW]; exact Box3.new _ _ _ _ rfl
  clear hW
  have hzw := hb.size
  refine (specMaze_any W lo hi m a b c d (H.out.below hb hz) (by omega)).mono ?_
  rintro e w1 ⟨rfl, hb1⟩
  have X1 := Lib.hid (x1.below hb1)
  have HB1 := Lib.hid (hb.trans (hb1.mono hzw))
  have hz1 := hb1.size
  clear hb hb1 x1
  obtain ⟨c0, c1, c2⟩ := X1.out.cells
  cases qm : M.mazeB m with
  | false =>
    have HN := Lib.hid (M.hintO_no (takenOn_no (walk := walk) qm).1)
    have HE := Lib.hid (M.nodesV_no HN.out)
    clear qm
    go_wp2_with fail
    go_ret3
    rw [HE.out.1, HE.out.2, HN.out]
    exact ⟨_, _, _, _, rfl, .inl rfl, .inl rfl, (HB1.out.alloc (by omega) _).alloc (by simp; omega) _⟩
  | true =>
    have HVA := Lib.hid (M.valid_of qm)
    have HTB := Lib.hid (takenOn_yes (walk := walk) qm).1
    clear qm
    go_wp2_with fail
    refine (l2Taken_any w1 lo hi lo' hi' m a b c d wa wc walk (H.out.below HB1.out hz) (by omega) HVA.out (HW.out.below HB1.out hz') (by omega) hl).mono ?_
    rintro e w2 ⟨ta, tc, rfl, ho, ho1, ho2, hb2⟩
    have X2 := Lib.hid (X1.out.below hb2)
    have HB2 := Lib.hid (HB1.out.trans (hb2.mono (by omega)))
    have hz2' := hb2.size
    have HO := Lib.hid ho
    clear hb2 ho c0 c1 c2
    obtain ⟨c0, c1, c2⟩ := X2.out.cells
    cases qw : M.walkB m walk with
    | false =>
      have HN := Lib.hid (M.hintO_no (HTB.out.trans qw))
      have HE := Lib.hid (M.nodesV_no HN.out)
      clear qw
      go_wp2_with fail
      go_ret3
      rw [HE.out.1, HE.out.2, HN.out]
      exact ⟨_, _, _, _, rfl, .inl rfl, .inl rfl, (HB2.out.alloc (by omega) _).alloc (by simp; omega) _⟩
    | true =>
      have htk := HTB.out.trans qw
      have HHO := Lib.hid (M.hintO_yes htk)
      have HMT := Lib.hid (M.end_met HVA.out qw)
      obtain ⟨h0, _⟩ := M.end_ok HVA.out qw
      obtain ⟨k, hk⟩ : ∃ k, walk.length = k + 1 := ⟨walk.length - 1, by omega⟩
      have hwl := M.walk_last (m := m) hk
      have htl := M.taken_last (m := m) hk
      have htv := M.takenV_yes qw
      rw [htv] at HO ho1 ⊢
      rw [M.takenTo_len] at ho1 ⊢
      go_wp2_with fail
      refine (remainT_any w2 lo hi m a b c d (H.out.below HB2.out hz) (by omega) HVA.out).mono ?_
      rintro e w3 ⟨ra, rc, rfl, hr, hb3⟩
      have X3 := Lib.hid (X2.out.below hb3)
      have HB3 := Lib.hid (HB2.out.trans (hb3.mono (by omega)))
      have hz3 := hb3.size
      have HR := Lib.hid hr
      obtain ⟨wb, woff, hwa, hw1, hw2, hwc⟩ := (HW.out.below HB3.out hz').at_ (k := k) (by rw [M.encIs_len]; omega)
      have p0 := hwc _ _ hwl
      obtain ⟨tb, toff, hta, ht1, ht2, htc⟩ := (HO.out.below hb3 (Nat.le_refl _)).row.at_ (k := k) (by rw [M.encIs_len, M.takenTo_len]; omega)
      have p1 := htc _ _ htl
      have E0 := cell_grown (a := ⟨wb, woff + k, none⟩) (show wb < w3.heap.size by omega) p0
      have E1 := cell_grown (a := ⟨tb, toff + k, none⟩) (show tb < w3.heap.size by omega) p1
      have hki : (walk.length : Int) - 1 = (k : Int) := by omega
      have hkl : (k : Int) < (walk.length : Int) := by omega
      have HK := Lib.hid hk
      subst hwa
      subst hta
      clear htk qw hwl htl htv hwc htc hr hb3 hk p0 p1 c0 c1 c2
      generalize hs : M.endSt m walk = s at *
      have HS := Lib.hid hs
      clear hs
      have HID := Lib.hid (fun W => l4Id_any s.1 s.2 W (by have := HMT.out.1.1; omega) (by have := HMT.out.1.2.1; have := HVA.out.size12; omega) (by have := HMT.out.1.2.2.1; omega) (by have := HMT.out.1.2.2.2; omega))
      rw [show (s.1, s.2) = s from rfl] at HID
      have hsz : M.size64 m ≤ 768 := by have := HVA.out.size12; unfold M.size64; omega
      have hil : M.idN s < M.size64 m := M.idN_lt HMT.out.1
      have HIL := Lib.hid (fun u (hu : M.Met m u) => show M.idN u < M.size64 m from M.idN_lt hu.1)
      obtain ⟨sb, off, hsa, hsb1, hsb2, hcell⟩ := HR.out.row.at_ (k := M.idN s) (by rw [M.encIs_len, M.tblL_len]; exact hil)
      subst hsa
      have hRC : ∀ ws, OwnAt w2.heap.size w3.heap.size ws 3 (some ⟨sb, off, none⟩) (M.encIs (M.tblL (M.size64 m) (M.remO m))) → ∀ u, M.Met m u → ws.cell? ⟨sb, off + M.idN u, none⟩ = some (.int .i64 (M.optI (M.wayO m u (M.wonB m)))) := fun ws hr u hu => by
        obtain ⟨sb', off', e, _, _, hc⟩ := hr.row.at_ (k := M.idN u) (by rw [M.encIs_len, M.tblL_len]; exact HIL.out u hu)
        injection e with e
        injection e with e1 e2 _
        subst e1; subst e2
        have := hc _ _ (M.tblL_at (HIL.out u hu))
        rw [M.rem_at hu] at this
        exact this
      have HRC := Lib.hid hRC
      clear hcell hRC
      generalize M.size64 m = sz at *
      go_wp2_with fail
      refine wp_region_quiet_grown (by assumption) (by kernel_rfl) ?_
      repeat (first | go_big_quiet_step (first | (go_at_call 108; refine Calls.grown_of (same_grown (HID.out _)))) | quiet_step (first | (go_at_call 108; refine Calls.grown_of (same_grown (HID.out _)))))
      refine wpQuiet_nil ?_
      intro _ hw'
      obtain ⟨⟨nq, osq⟩, hw''⟩ := hw'
      subst hw''
      show Exit.then _ _ _ _ (Sort.grow (w3.drewN nq) osq)
      generalize hW4 : Sort.grow (w3.drewN nq) osq = W4
      have hb4 : Below w3.heap.size w3 W4 := by rw [← hW4]; exact below_grown _ _ _
      clear hW4 E0 E1
      have X4 := Lib.hid (X3.out.below hb4)
      have HB4 := Lib.hid (HB3.out.trans (hb4.mono (by omega)))
      have hz4 := hb4.size
      have HR4 := Lib.hid (HR.out.below hb4 (Nat.le_refl _))
      have y0 := HRC.out W4 HR4.out s HMT.out
      clear hb4
      cases hr : M.wayO m s (M.wonB m) with
      | none =>
        rw [hr] at HHO
        have HN := Lib.hid HHO.out
        have HE := Lib.hid (M.nodesV_no HN.out)
        rw [hr, M.optI_none] at y0
        clear hr
        generalize M.idN s = i0 at *
        go_wp2_with fail
        go_ret3
        rw [HE.out.1, HE.out.2, HN.out]
        exact ⟨_, _, _, _, rfl, .inl rfl, .inl rfl, (HB4.out.alloc (by omega) _).alloc (by simp; omega) _⟩
      | some n =>
        rw [hr] at HHO
        have HN := Lib.hid HHO.out
        have HE := Lib.hid (M.nodesV_yes HN.out)
        rw [HS.out] at HE
        have HWY := Lib.hid hr
        have hn768 : n < 768 := by have := M.rem_small HVA.out HMT.out hr; unfold M.size64 at this; have := HVA.out.size12; omega
        rw [hr, M.optI_some] at y0
        clear hr
        have hxi := M.idN_int HMT.out.1
        obtain ⟨h1, h2, h3, h4⟩ := HMT.out.1
        have hq : ((M.idN s : Nat) : Int).tdiv 64 = s.1 := by rw [Int.tdiv_eq_ediv_of_nonneg (by omega)]; omega
        have hrm : ((M.idN s : Nat) : Int).tmod 64 = s.2 := by rw [Int.tmod_eq_emod_of_nonneg (by omega)]; omega
        have hn0 : ¬ (n : Int) < 0 := by omega
        have v12 := HVA.out.size12
        have hws : IntKind.i64.wrap s.1 = s.1 := IntWalk.i64_in _ (by omega)
        clear hxi
        go_wp2_with fail
        refine wp_named ?_
        intro W5 hW5
        have hb5 : Below W4.heap.size W4 W5 := by rw [hW5]; exact (below_alloc _ _).alloc (by simp) _
        have hs5 : W5.heap.size = W4.heap.size + 1 + 1 := by rw [hW5]; simp
        have oN : OwnQ w.heap.size W5 3 1 (.slice (some ⟨W4.heap.size, 0, none⟩) 1 1) 1 (M.encIs [s.1]) := by
          rw [hW5]
          refine ⟨rfl, .inr ⟨W4.heap.size, 0, 1, #[.int .i64 s.1], rfl, by omega, ?_, Nat.le_refl _, by unfold maxLen; omega, by simp, fun j u hu => by simpa [M.encIs] using hu⟩⟩
          exact (Below.heap_alloc _ _ _ (by simp)).trans (heap_alloc_new W4 _)
        have oS : OwnQ w.heap.size W5 3 1 (.slice (some ⟨W4.heap.size + 1, 0, none⟩) 1 1) 1 (M.encIs [s.2]) := by
          rw [hW5]
          refine ⟨rfl, .inr ⟨W4.heap.size + 1, 0, 1, #[.int .i64 s.2], rfl, by omega, ?_, Nat.le_refl _, by unfold maxLen; omega, by simp, fun j u hu => by simpa [M.encIs] using hu⟩⟩
          have := heap_alloc_new (W4.alloc (.cells #[.int .i64 s.1] 3)) (.cells #[.int .i64 s.2] 3)
          simpa using this
        have HNT := Lib.hid (fun k (hk : k < n + 1) => M.nodes_take m n k s hk)
        have HST := Lib.hid (fun k (hk : k < n + 1) => M.sets_take m n k s hk)
        have HAT := Lib.hid (fun k (hk : k ≤ n) => M.atS_way HVA.out n k s hk HMT.out HWY.out)
        have HAN := Lib.hid (fun k (hk : k < n) => M.atS_next (m := m) n k s hk)
        have HNL := Lib.hid (M.wayL_len m n s)
        have HSL : Hid (((M.wayS m n s).map fun u => u.2).length = n + 1) := Lib.hid (by rw [List.length_map, M.wayS_len])
        have ST := Lib.hid (show OwnQ w.heap.size W5 3 1 (.slice (some ⟨W4.heap.size, 0, none⟩) 1 1) (0 + 1) (M.encIs ((M.wayL m n s).take (0 + 1))) ∧ OwnQ w.heap.size W5 3 1 (.slice (some ⟨W4.heap.size + 1, 0, none⟩) 1 1) (0 + 1) (M.encIs (((M.wayS m n s).map fun u => u.2).take (0 + 1))) from by
          rw [HNT.out 0 (by omega), HST.out 0 (by omega)]
          rw [show M.atS m n 0 s = s by cases n <;> rfl]
          exact ⟨oN, oS⟩)
        have X5 := Lib.hid (X4.out.below hb5)
        have R5 := Lib.hid (HR4.out.below hb5 (by omega))
        have L5 := Lib.hid (HB4.out.trans (hb5.mono (by omega)))
        have HA0 : Hid (M.atS m n 0 s = s) := Lib.hid (by cases n <;> rfl)
        clear hW5 hb5 oN oS y0 hq hrm hws h1 h2 h3 h4
        go_loopg [10, 11, 12, 13, 14] n (fun g v10 v11 v12 _ _ wr => ∃ (k gN gS : Nat), k + g = n ∧ v10 = .int .i64 ((M.idN (M.atS m n k s) : Nat) : Int) ∧ OwnQ w.heap.size wr 3 1 v11 (k + 1) (M.encIs ((M.wayL m n s).take (k + 1))) ∧ OwnQ w.heap.size wr 3 1 v12 (k + 1) (M.encIs (((M.wayS m n s).map fun u => u.2).take (k + 1))) ∧ v11.ownBlock = some gN ∧ v12.ownBlock = some gS ∧ gN ≠ gS ∧ W4.heap.size ≤ gN ∧ W4.heap.size ≤ gS ∧ Box3 wr w.heap.size 29 (.int .i64 m.size) (.slice a m.doors.length c) (.slice b m.keys.length d) ∧ OwnAt w2.heap.size w3.heap.size wr 3 (some ⟨sb, off, none⟩) (M.encIs (M.tblL sz (M.remO m))) ∧ Below w.heap.size w wr ∧ W4.heap.size ≤ wr.heap.size)
        case atStart => exact ⟨0, W4.heap.size, W4.heap.size + 1, by omega, by rw [HA0.out], ST.out.1, ST.out.2, rfl, rfl, by omega, Nat.le_refl _, by omega, X5.out, R5.out, L5.out, by omega⟩
        case round =>
          obtain ⟨k, gN, gS, hkg, rfl, hoN, hoS, hbN, hbS, hNS, hN4, hS4, hx, hrow, hlow, hsw⟩ := hrel
          obtain ⟨hmet, hway⟩ := HAT.out k (by omega)
          obtain ⟨aN, cN, hvN, hlN, hmN⟩ := hoN.shape
          obtain ⟨aS, cS, hvS, hlS, hmS⟩ := hoS.shape
          subst hvN
          subst hvS
          have ME := Lib.hid hmet
          have WY := Lib.hid hway
          have ON := Lib.hid hoN
          have OS := Lib.hid hoS
          have BN := Lib.hid hbN
          have BS := Lib.hid hbS
          have XX := Lib.hid hx
          have RR := Lib.hid hrow
          have LL := Lib.hid hlow
          have hzr := hlow.size
          have hil2 := HIL.out _ hmet
          have y0 := HRC.out wr hrow _ hmet
          rw [hway, M.optI_some] at y0
          obtain ⟨c0, c1, c2⟩ := hx.cells
          clear hmet hway hoN hoS hbN hbS hx hrow hlow
          cases gk with
          | zero =>
            obtain rfl : k = n := by omega
            rw [Nat.sub_self] at y0
            have hfN := (ON.out.own rfl)
            have hfS := (OS.out.own rfl)
            rw [List.take_of_length_le (by rw [HNL.out]; exact Nat.le_refl _)] at hfN
            rw [List.take_of_length_le (by rw [HSL.out]; exact Nat.le_refl _)] at hfS
            have FN := Lib.hid hfN
            have FS := Lib.hid hfS
            clear hfN hfS
            generalize M.idN (M.atS m k k s) = i0 at *
            have hz00 : ¬ (0 : Int) < ((0 : Nat) : Int) := by omega
            go_wp2_with fail
            go_ret3
            rw [HE.out.1, HE.out.2, HN.out]
            exact ⟨aN, cN, aS, cS, by rw [HNL.out, HSL.out]; rfl, FN.out, FS.out, LL.out⟩
          | succ g =>
            rw [show n - k = g + 1 by omega] at WY y0
            have hxt := HAN.out k (by omega)
            rw [show n - k - 1 = g by omega] at hxt
            have hxt0 := hxt
            have HNT2 := Lib.hid (HNT.out (k + 1) (by omega))
            have HST2 := Lib.hid (HST.out (k + 1) (by omega))
            have ME2 := Lib.hid (HAT.out (k + 1) (by omega)).1
            clear hxt
            generalize hu : M.atS m n k s = u at *
            generalize hu2 : M.atS m n (k + 1) s = t at *
            have HU2 := Lib.hid hu2
            clear hu hu2
            have hxi := M.idN_int ME.out.1
            obtain ⟨h1, h2, h3, h4⟩ := ME.out.1
            have hq : ((M.idN u : Nat) : Int).tdiv 64 = u.1 := by rw [Int.tdiv_eq_ediv_of_nonneg (by omega)]; omega
            have hrm : ((M.idN u : Nat) : Int).tmod 64 = u.2 := by rw [Int.tmod_eq_emod_of_nonneg (by omega)]; omega
            have hwu : IntKind.i64.wrap u.1 = u.1 := IntWalk.i64_in _ (by omega)
            have hpos : (0 : Int) < ((g + 1 : Nat) : Int) := by omega
            have LS := Lib.hid (l4Step_any wr lo hi m a b c d (H.out.below LL.out hz) (by omega) HVA.out u ME.out.1)
            have HEX := Lib.hid (M.nx_ex WY.out)
            have HNA := Lib.hid (fun k (hk : k < (M.nexts m u).length) hh hno => M.nxS_at (m := m) (s := u) (n := g) (k := k) hk hh hno)
            have HTL := Lib.hid (M.ids_len (M.nexts m u))
            have HMN := Lib.hid (fun t (ht : t ∈ M.nexts m u) => M.met_next HVA.out ME.out ht)
            clear hxi
            go_wp2_with fail
            refine LS.out.mono ?_
            rintro e w5 ⟨ta5, tc5, rfl, ho5, hc5, hc5m, hb5⟩
            rw [HTL.out] at hc5 ⊢
            have hs5' := hb5.size
            have T5 := Lib.hid ho5
            have ON5 := Lib.hid (ON.out.below hb5)
            have OS5 := Lib.hid (OS.out.below hb5)
            have X5' := Lib.hid (XX.out.below hb5)
            have R5' := Lib.hid (RR.out.below hb5 (by omega))
            have L5' := Lib.hid (LL.out.trans (hb5.mono hzr))
            have HTT := Lib.hid hxt0
            clear ho5 hb5 hq hrm hwu c0 c1 c2 LS y0 h1 h2 h3 h4 hxt0
            generalize hT9 : M.nexts m u = T at *
            clear hT9
            go_wp2_with fail
            go_loopw [14] (fun v14 wr => ∃ (j : Nat), j < T.length ∧ v14 = .int .i64 (j : Int) ∧ (∀ i (hi : i < T.length), i < j → M.wayO m T[i] (M.wonB m) ≠ some g) ∧ Below w5.heap.size w5 wr) (fun v14 _ => T.length - (intOf v14).toNat)
            case atStart =>
              obtain ⟨k', hk', _⟩ := HEX.out
              exact ⟨0, by omega, rfl, fun i _ hi => absurd hi (Nat.not_lt_zero _), Below.refl _ _⟩
            case round =>
              obtain ⟨j, hj, rfl, hno, hbj⟩ := hrel
              have NO := Lib.hid hno
              have BJ := Lib.hid hbj
              have hzj := hbj.size
              have TJ := Lib.hid (T5.out.below hbj (Nat.le_refl _))
              have RJ := Lib.hid (R5'.out.below hbj (by omega))
              obtain ⟨rb, roff, hra, hrb1, hrb2, hrc⟩ := TJ.out.row.at_ (k := j) (by rw [M.encIs_len, M.ids_len]; exact hj)
              subst hra
              have q0 := hrc _ _ (M.ids_at hj)
              have hmt := HMN.out _ (List.getElem_mem hj)
              have q1 := HRC.out wr RJ.out T[j] hmt
              have hit := HIL.out T[j] hmt
              have q2 := HRC.out wr RJ.out u ME.out
              rw [WY.out, M.optI_some] at q2
              have HLE : Hid (∃ k', j ≤ k' ∧ ∃ h : k' < T.length, M.wayO m T[k'] (M.wonB m) = some g) := Lib.hid (by
                obtain ⟨k', hk', hw'⟩ := HEX.out
                exact ⟨k', Nat.le_of_not_lt fun hl => hno k' hk' hl hw', hk', hw'⟩)
              have HNA2 := Lib.hid (HNA.out j hj)
              have HN1 : Hid (M.wayO m T[j] (M.wonB m) ≠ some g → j + 1 < T.length ∧ ∀ i (hi : i < T.length), i < j + 1 → M.wayO m T[i] (M.wonB m) ≠ some g) := Lib.hid (fun hne => by
                refine ⟨?_, fun i hi hik => ?_⟩
                · obtain ⟨k', h1, h2, h3⟩ := HLE.out
                  rcases Nat.eq_or_lt_of_le h1 with e | e
                  · subst e; exact absurd h3 hne
                  · omega
                · rcases Nat.eq_or_lt_of_le (Nat.le_of_lt_succ hik) with e | e
                  · subst e; exact hne
                  · exact hno i hi e)
              have hwj : ((g + 1 : Nat) : Int) - 1 = (g : Int) := by omega
              have hjT : (j : Int) < (T.length : Int) := by omega
              have hsbr : sb < wr.heap.size := by omega
              have hrbr : rb < wr.heap.size := by omega
              clear hno hbj hrc
              by_cases hwk : M.wayO m T[j] (M.wonB m) = some g
              · have hE1 : T[j] = t := by rw [HTT.out]; exact (HNA2.out hwk fun i hi hik => NO.out i hi hik).symm
                rw [hwk, M.optI_some] at q1
                rw [hE1] at q0 q1 hit
                have hti := M.idN_int ME2.out.1
                obtain ⟨b1, b2, b3, b4⟩ := ME2.out.1
                have hq : ((M.idN t : Nat) : Int).tdiv 64 = t.1 := by rw [Int.tdiv_eq_ediv_of_nonneg (by omega)]; omega
                have hrm : ((M.idN t : Nat) : Int).tmod 64 = t.2 := by rw [Int.tmod_eq_emod_of_nonneg (by omega)]; omega
                have hwt : IntKind.i64.wrap t.1 = t.1 := IntWalk.i64_in _ (by omega)
                clear hE1 hti hmt HN1 HLE HNA2 b1 b2 b3 b4
                have E0 := cell_grown (a := ⟨rb, roff + j, none⟩) hrbr q0
                have E1 := cell_grown (a := ⟨sb, off + M.idN t, none⟩) hsbr q1
                have E2 := cell_grown (a := ⟨sb, off + M.idN u, none⟩) hsbr q2
                generalize hit9 : M.idN t = it at *
                generalize hiu9 : M.idN u = iu at *
                have HIT := Lib.hid hit9
                clear hit9 hiu9
                go_wp2_with fail
                refine wp_region_quiet_grown (by assumption) (by kernel_rfl) ?_
                repeat (first | go_big_quiet_step (fail) | quiet_step (fail))
                refine wpQuiet_nil ?_
                intro _ hw'
                obtain ⟨⟨nq, osq⟩, hw''⟩ := hw'
                subst hw''
                show Exit.then _ _ _ _ (Sort.grow (wr.drewN nq) osq)
                generalize hW6 : Sort.grow (wr.drewN nq) osq = W6
                have hb6 : Below wr.heap.size wr W6 := by rw [← hW6]; exact below_grown _ _ _
                clear hW6 E0 E1 E2 q1 q2
                have hb56 : Below w5.heap.size w5 W6 := BJ.out.trans (hb6.mono hzj)
                have hs6 := hb56.size
                have ON6 := Lib.hid (ON5.out.below hb56)
                have OS6 := Lib.hid (OS5.out.below hb56)
                have X6 := Lib.hid (X5'.out.below hb56)
                have R6 := Lib.hid (R5'.out.below hb56 (by omega))
                have L6 := Lib.hid (L5'.out.trans (hb56.mono (by omega)))
                have q6 : W6.cell? ⟨rb, roff + j, none⟩ = some (.int .i64 ((it : Nat) : Int)) := (hb6.cell (p := ⟨rb, roff + j, none⟩) hrbr).trans q0
                clear hb6 hb56 q0
                go_wp2_with (first
                  | (at_builtin
                     refine wpList_append_q rfl _ _ 23 rfl w.heap.size 3 ii0 (.int .i64 0) 1 8 Try.underlying23 hi0 hz0 hzz1 hz2 rfl _ _ _ rfl (ON6.out.below (below_alloc _ _)) ⟨W6.heap.size, 0, none⟩ 1 [.int .i64 t.1] rfl rfl (cell_one_new _ _ _) (fun x hx => by simp at hx; subst hx; rfl) (by unfold maxLen; omega) (by omega) (by simp; omega) ?_
                     intro v' w7 hown7 hgrow7' hnil7'
                     have hgrow7 : (W6.alloc (.cells #[.int .i64 t.1] 3)).grownBy w7 (Value.slice aN (k + 1) cN).ownBlock := hgrow7'
                     have hnil7 : v'.ownBlock = (Value.slice aN (k + 1) cN).ownBlock ∨ v'.ownBlock = some (W6.alloc (.cells #[.int .i64 t.1] 3)).heap.size := hnil7'
                     clear hgrow7' hnil7'
                     rw [BN.out] at hgrow7 hnil7
                     rw [World.size_alloc] at hnil7
                     have hs7 := hgrow7.size
                     rw [World.size_alloc] at hs7
                     have ON7 := Lib.hid hown7
                     have OS7 := Lib.hid ((OS6.out.below (below_alloc W6 (.cells #[.int .i64 t.1] 3))).grownNe hgrow7 (fun z hz => by rw [BS.out] at hz; injection hz with hz; intro e; injection e with e; omega))
                     have X7 := Lib.hid ((X6.out.alloc (.cells #[.int .i64 t.1] 3)).grown hgrow7 (by intro e; injection e with e; omega))
                     have R7 := Lib.hid ((R6.out.below (below_alloc W6 (.cells #[.int .i64 t.1] 3)) (by omega)).grownRow hgrow7 (by simp; omega) (fun z hz => by injection hz with hz; omega))
                     have L7 := Lib.hid ((L6.out.alloc (by omega) (.cells #[.int .i64 t.1] 3)).grown hgrow7 (by simp; omega) (fun z hz => by injection hz with hz; omega))
                     clear hown7 hgrow7)
                  | (at_builtin
                     refine wpList_append_q rfl _ _ 23 rfl w.heap.size 3 ii0 (.int .i64 0) 1 8 Try.underlying23 hi0 hz0 hzz1 hz2 rfl _ _ _ rfl (OS7.out.below (below_alloc _ _)) ⟨w7.heap.size, 0, none⟩ 1 [.int .i64 t.2] rfl rfl (cell_one_new _ _ _) (fun x hx => by simp at hx; subst hx; rfl) (by unfold maxLen; omega) (by omega) (by simp; omega) ?_
                     intro v'' w8 hown8 hgrow8' hnil8'
                     have hgrow8 : (w7.alloc (.cells #[.int .i64 t.2] 3)).grownBy w8 (Value.slice aS (k + 1) cS).ownBlock := hgrow8'
                     have hnil8 : v''.ownBlock = (Value.slice aS (k + 1) cS).ownBlock ∨ v''.ownBlock = some (w7.alloc (.cells #[.int .i64 t.2] 3)).heap.size := hnil8'
                     clear hgrow8' hnil8'
                     rw [BS.out] at hgrow8 hnil8
                     rw [World.size_alloc] at hnil8
                     have hs8 := hgrow8.size
                     rw [World.size_alloc] at hs8))
                go_roundg g
                case rel =>
                  have hgN2 : ∃ gN2, v'.ownBlock = some gN2 ∧ W4.heap.size ≤ gN2 ∧ (gN2 = gN ∨ gN2 = W6.heap.size + 1) := by
                    rcases hnil7 with e | e
                    · exact ⟨gN, e, hN4, .inl rfl⟩
                    · exact ⟨W6.heap.size + 1, e, by omega, .inr rfl⟩
                  have hgS2 : ∃ gS2, v''.ownBlock = some gS2 ∧ W4.heap.size ≤ gS2 ∧ (gS2 = gS ∨ gS2 = w7.heap.size + 1) := by
                    rcases hnil8 with e | e
                    · exact ⟨gS, e, hS4, .inl rfl⟩
                    · exact ⟨w7.heap.size + 1, e, by omega, .inr rfl⟩
                  obtain ⟨gN2, e1, e2, e3⟩ := hgN2
                  obtain ⟨gS2, e4, e5, e6⟩ := hgS2
                  have hgSl := (OS.out.base gS BS.out).2
                  have hgNl := (ON.out.base gN BN.out).2
                  refine ⟨k + 1, gN2, gS2, by omega, by rw [HU2.out, HIT.out], ?_, ?_, e1, e4, by rcases e3 with e3 | e3 <;> rcases e6 with e6 | e6 <;> omega, e2, e5, (X7.out.alloc _).grown hgrow8 (by intro e; injection e with e; omega), (R7.out.below (below_alloc _ _) (by omega)).grownRow hgrow8 (by simp; omega) (fun z hz => by injection hz with hz; omega), (L7.out.alloc (by omega) _).grown hgrow8 (by simp; omega) (fun z hz => by injection hz with hz; omega), by omega⟩
                  · rw [HNT2.out, M.encIs_append]
                    have h7 := (ON7.out.below (below_alloc w7 (.cells #[.int .i64 t.2] 3))).grownNe hgrow8 (fun z hz => by rw [e1] at hz; injection hz with hz; intro e; injection e with e; rcases e3 with e3 | e3 <;> omega)
                    exact h7
                  · rw [HST2.out, M.encIs_append]
                    exact hown8
                case measure => omega
              · have hne : ¬ M.optI (M.wayO m T[j] (M.wonB m)) = (g : Int) := fun e => hwk (M.optI_eq.1 e)
                have hneb : (M.optI (M.wayO m T[j] (M.wonB m)) == (g : Int)) = false := by rw [beq_eq_false_iff_ne]; exact hne
                have HN2 := Lib.hid (HN1.out hwk)
                have hk1 := HN2.out.1
                generalize M.optI (M.wayO m T[j] (M.wonB m)) = vt at *
                generalize M.idN T[j] = it at *
                generalize M.idN u = iu at *
                have E0 := cell_grown (a := ⟨rb, roff + j, none⟩) hrbr q0
                have E1 := cell_grown (a := ⟨sb, off + it, none⟩) hsbr q1
                have E2 := cell_grown (a := ⟨sb, off + iu, none⟩) hsbr q2
                clear HN1 HLE HNA2 hmt q0 q1 q2
                go_wp2_with fail
                refine wp_region_quiet_grown (by assumption) (by kernel_rfl) ?_
                repeat (first | go_big_quiet_step (fail) | quiet_step (fail))
                refine wpQuiet_nil ?_
                intro _ hw'
                obtain ⟨⟨nq, osq⟩, hw''⟩ := hw'
                subst hw''
                go_wp2_with fail
                go_roundw
                case rel => exact ⟨j + 1, hk1, by go_num, HN2.out.2, BJ.out.trans ((below_grown wr nq osq).mono hzj)⟩
                case measure => simp [intOf]; omega
theorem specHint_lw (w : World) (lo hi : Nat) (m : M.Mz) (a b : Option Addr) (c d : Nat) (h : MzIn lo hi w m a c b d) (hz : hi ≤ w.heap.size) (_h1 : m.doors.length ≤ 1048576) (_h2 : m.keys.length ≤ 1048576) (lo' hi' : Nat) (wa : Option Addr) (wc : Nat) (walk : List Int) (hw : RowIn lo' hi' w wa (M.encIs walk)) (hz' : hi' ≤ w.heap.size) (hl : walk.length ≤ 1048576) (_u1 : walk.length ≤ wc) (_u2 : wc ≤ 9223372036854775807) (_u3 : ∀ z ∈ walk, -9223372036854775808 ≤ z ∧ z ≤ 9223372036854775807) :
    Calls Try.prog 49 #[.agg #[.int .i64 m.size, .slice a m.doors.length c, .slice b m.keys.length d], .slice wa walk.length wc] w (fun e w' => e = .returned (.tuple #[.int .i64 (M.hintV m walk), .bool (M.hintB m walk)]) ∧ Below w.heap.size w w') := by
  have H := Lib.hid h
  have HW := Lib.hid hw
  clear h hw
  go_enter Try.func49, Try.ntmps49
  go_wp2_with fail
  refine named ?_
  intro W hW
  have hb : Below w.heap.size w W := by rw [hW]; exact below_alloc _ _
  clear hW
  have hzw := hb.size
  refine (l6Way_any W lo hi m a b c d (H.out.below hb hz) (by omega) _h1 _h2 lo' hi' wa wc walk (HW.out.below hb hz') (by omega) hl _u1 _u2).mono ?_
  rintro e w1 ⟨na, nc, sa, sc, rfl, hn, hs, hb1⟩
  have HB1 := Lib.hid (hb.trans (hb1.mono hzw))
  have HN := Lib.hid hn
  have HS := Lib.hid hs
  have hz1 := hb1.size
  clear hb hb1 hn hs
  have HV : Hid (M.hintV m walk = match M.hintO m walk with | some (n + 1) => (M.nxS m (M.endSt m walk) n).1 | _ => 0) := Lib.hid rfl
  have HBO : Hid (M.hintB m walk = match M.hintO m walk with | some (_ + 1) => true | _ => false) := Lib.hid rfl
  cases ho : M.hintO m walk with
  | none =>
    rw [ho] at HV HBO
    have hnv := M.nodesV_no ho
    rw [hnv.1, hnv.2]
    clear ho hnv
    go_wp2_with fail
    go_ret2
    rw [HV.out, HBO.out]
    exact ⟨rfl, HB1.out⟩
  | some n =>
    rw [ho] at HV HBO
    have hnv := M.nodesV_yes ho
    rw [hnv.1] at HN ⊢
    rw [hnv.2]
    have hsl : ((M.wayS m n (M.endSt m walk)).map fun u => u.2).length = n + 1 := by rw [List.length_map, M.wayS_len]
    rw [hsl, M.wayL_len]
    clear ho hnv hsl
    cases n with
    | zero =>
      go_wp2_with fail
      go_ret2
      rw [HV.out, HBO.out]
      exact ⟨rfl, HB1.out⟩
    | succ n =>
      obtain ⟨qb, qoff, hqa, hq1, hq2, hqc⟩ := HN.out.row.at_ (k := 1) (by rw [M.encIs_len, M.wayL_len]; omega)
      have q0 : w1.cell? ⟨qb, qoff + 1, none⟩ = some (.int .i64 (M.nxS m (M.endSt m walk) n).1) := hqc _ _ (by
        show (M.encIs ((M.endSt m walk).1 :: M.wayL m n (M.nxS m (M.endSt m walk) n)))[1]? = _
        cases n <;> rfl)
      have hne : ¬ ((n : Int) + 1 + 1 < 2) := by omega
      have hne2 : (1 : Int) < (n : Int) + 1 + 1 := by omega
      clear hqc
      subst hqa
      have HV2 : Hid (M.hintV m walk = (M.nxS m (M.endSt m walk) n).1) := Lib.hid HV.out
      have HB2 : Hid (M.hintB m walk = true) := Lib.hid HBO.out
      clear HV HBO
      generalize (M.nxS m (M.endSt m walk) n).1 = v at *
      go_wp2_with fail
      go_ret2
      rw [HV2.out, HB2.out]
      exact ⟨rfl, HB1.out⟩
theorem specHc_lw (w : World) (lo hi : Nat) (m : M.Mz) (a b : Option Addr) (c d : Nat) (h : MzIn lo hi w m a c b d) (hz : hi ≤ w.heap.size) (_h1 : m.doors.length ≤ 1048576) (_h2 : m.keys.length ≤ 1048576) (lo' hi' : Nat) (wa : Option Addr) (wc : Nat) (walk : List Int) (hw : RowIn lo' hi' w wa (M.encIs walk)) (hz' : hi' ≤ w.heap.size) (hl : walk.length ≤ 1048576) (_u1 : walk.length ≤ wc) (_u2 : wc ≤ 9223372036854775807) (_u3 : ∀ z ∈ walk, -9223372036854775808 ≤ z ∧ z ≤ 9223372036854775807) :
    Calls Try.prog 51 #[.agg #[.int .i64 m.size, .slice a m.doors.length c, .slice b m.keys.length d], .slice wa walk.length wc] w (fun e w' => e = .returned (.tuple #[.int .i64 (M.hcV m walk), .bool (M.hintO m walk).isSome]) ∧ Below w.heap.size w w') := by
  have H := Lib.hid h
  have HW := Lib.hid hw
  clear h hw
  go_enter Try.func51, Try.ntmps51
  go_wp2_with fail
  refine named ?_
  intro W hW
  have hb : Below w.heap.size w W := by rw [hW]; exact below_alloc _ _
  clear hW
  have hzw := hb.size
  refine (l6Way_any W lo hi m a b c d (H.out.below hb hz) (by omega) _h1 _h2 lo' hi' wa wc walk (HW.out.below hb hz') (by omega) hl _u1 _u2).mono ?_
  rintro e w1 ⟨na, nc, sa, sc, rfl, hn, hs, hb1⟩
  have HB1 := Lib.hid (hb.trans (hb1.mono hzw))
  have HN := Lib.hid hn
  have HS := Lib.hid hs
  have hz1 := hb1.size
  clear hb hb1 hn hs
  have HV : Hid (∀ n, M.hintO m walk = some n → M.hcV m walk = M.lessS (M.lastS m n (M.endSt m walk)).2 (M.endSt m walk).2) := Lib.hid (fun n hn => by unfold M.hcV; rw [hn])
  have HV0 : Hid (M.hintO m walk = none → M.hcV m walk = 0) := Lib.hid (fun hn => by unfold M.hcV; rw [hn])
  cases ho : M.hintO m walk with
  | none =>
    have HZ := Lib.hid (HV0.out ho)
    have hnv := M.nodesV_no ho
    have HOO := Lib.hid ho
    rw [hnv.1, hnv.2]
    clear ho hnv
    go_wp2_with fail
    go_ret2
    rw [HZ.out, HOO.out]
    exact ⟨rfl, HB1.out⟩
  | some n =>
    have HZ := Lib.hid (HV.out n ho)
    have hnv := M.nodesV_yes ho
    have HOO := Lib.hid ho
    rw [hnv.2] at HS ⊢
    rw [hnv.1]
    have hsl : ((M.wayS m n (M.endSt m walk)).map fun u => u.2).length = n + 1 := by rw [List.length_map, M.wayS_len]
    obtain ⟨qb, qoff, hqa, hq1, hq2, hqc⟩ := HS.out.row.at_ (k := n) (by rw [M.encIs_len, hsl]; omega)
    have q0 : w1.cell? ⟨qb, qoff + n, none⟩ = some (.int .i64 (M.lastS m n (M.endSt m walk)).2) := hqc _ _ (by
      rw [M.encIs, List.getElem?_map, List.getElem?_map, M.wayS_at m n n _ (by omega), M.lastS_at]; rfl)
    obtain ⟨qb', qoff', hqa', _, _, hqc'⟩ := HS.out.row.at_ (k := 0) (by rw [M.encIs_len, hsl]; omega)
    rw [hqa] at hqa'
    injection hqa' with hqa'
    injection hqa' with e1 e2 _
    subst e1
    subst e2
    have q1 : w1.cell? ⟨qb, qoff + 0, none⟩ = some (.int .i64 (M.endSt m walk).2) := hqc' _ _ (by
      rw [M.encIs, List.getElem?_map, List.getElem?_map, M.wayS_at m n 0 _ (by omega)]
      cases n <;> rfl)
    rw [hsl, M.wayL_len]
    clear ho hnv hsl hqc hqc' HV HV0
    subst hqa
    have mixed : Try.prog.follows .mixedOrders = true := by kernel_rfl
    have hn768 : n < 768 := by
      have hn := HOO.out
      cases q : M.takenOnB m walk with
      | false => unfold M.hintO at hn; rw [q] at hn; cases hn
      | true =>
        have hw : M.wayO m (M.endSt m walk) (M.wonB m) = some n := by unfold M.hintO at hn; rwa [if_pos q] at hn
        obtain ⟨V, hwk, _⟩ := M.taken_walk q
        have := M.rem_small V (M.end_met V hwk) hw
        have := V.size12
        unfold M.size64 at *
        omega
    have hwn : IntKind.i64.wrap (n : Int) = (n : Int) := IntWalk.i64_in _ (by omega)
    rw [show qoff + 0 = qoff from rfl] at q1
    obtain ⟨L, hL⟩ : ∃ L, L = n + 1 := ⟨_, rfl⟩
    rw [← hL]
    have hn1 : (L : Int) - 1 = (n : Int) := by omega
    have hn2 : (n : Int) < (L : Int) := by omega
    have hn3 : (0 : Int) < (L : Int) := by omega
    clear hL
    generalize (M.lastS m n (M.endSt m walk)).2 = v at *
    generalize (M.endSt m walk).2 = s at *
    have E0 := cell_grown (a := ⟨qb, qoff + n, none⟩) (show qb < w1.heap.size from hq2) q0
    have E1 := cell_grown (a := ⟨qb, qoff, none⟩) (show qb < w1.heap.size from hq2) q1
    clear q0 q1
    go_wp2_with fail
    refine wp_region_quiet_grown (by assumption) (by kernel_rfl) ?_
    repeat (first | go_big_quiet_step (fail) | quiet_step (fail))
    refine wpQuiet_nil ?_
    intro _ hw'
    obtain ⟨⟨nq, osq⟩, hw''⟩ := hw'
    subst hw''
    show Exit.then _ _ _ _ (Sort.grow (w1.drewN nq) osq)
    generalize hW4 : Sort.grow (w1.drewN nq) osq = W4
    have hb4 : Below w1.heap.size w1 W4 := by rw [← hW4]; exact below_grown _ _ _
    clear hW4 E0 E1
    have hz4 := HB1.out.size
    go_wp2_with fail
    go_ret2
    rw [HZ.out, HOO.out]
    exact ⟨rfl, HB1.out.trans (hb4.mono hz4)⟩
end C
end Go.Proofs.Ytcoaggnilgfjfaa
