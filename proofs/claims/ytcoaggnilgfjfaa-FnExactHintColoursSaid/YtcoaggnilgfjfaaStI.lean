/-
  CONTRACTS of impl's states of a maze: stateAt, firstState, goal, isWon, nextStates; what lay in memory stays. Condition: a valid maze, a node of it and a set of colours.
-/
import Derived.Test.YtcoaggnilgfjfaaBox2
import Derived.Test.YtcoaggnilgfjfaaMapP
import Derived.Test.YtcoaggnilgfjfaaIsOpen
import Derived.Test.YtcoaggnilgfjfaaTakenMath
import Derived.Deep.DeepCutAuto
namespace Go.Proofs.Ytcoaggnilgfjfaa
open Go.RowKit
namespace M
def encS (p : St) : List Value := [.int .i64 p.1, .int .i64 p.2]
def encSs (l : List St) : List Value := l.flatMap encS
theorem encSs_len (l : List St) : (encSs l).length = l.length * 2 := by
  unfold encSs; induction l with
  | nil => rfl
  | cons d l ih => simp [encS, ih]; omega
theorem encSs_cons (d : St) (l : List St) : encSs (d :: l) = encS d ++ encSs l := by simp [encSs]
theorem encSs_append (a b : List St) : encSs (a ++ b) = encSs a ++ encSs b := by simp [encSs]
theorem encSs_at {l : List St} {k : Nat} (h : k < l.length) (j : Nat) (hj : j < 2) : (encSs l)[k * 2 + j]? = (encS l[k])[j]? := by
  induction l generalizing k with
  | nil => simp at h
  | cons d l ih =>
    rw [encSs_cons]
    cases k with
    | zero =>
      rw [Nat.zero_mul, Nat.zero_add, List.getElem?_append_left (by simp [encS]; omega)]
      rfl
    | succ k =>
      rw [List.getElem?_append_right (by simp [encS]; omega)]
      have e : (k + 1) * 2 + j - (encS d).length = k * 2 + j := by simp [encS]; omega
      rw [e, ih (by simpa using h)]
      simp
theorem encSs_at0 {l : List St} {k : Nat} (h : k < l.length) : (encSs l)[k * 2]? = some (.int .i64 l[k].1) := encSs_at h 0 (by omega)
theorem encSs_at1 {l : List St} {k : Nat} (h : k < l.length) : (encSs l)[k * 2 + 1]? = some (.int .i64 l[k].2) := encSs_at h 1 (by omega)
theorem encSs_one (l : List St) : ∀ x ∈ encSs l, x.oneCell' = true := by
  intro x hx
  unfold encSs at hx
  obtain ⟨p, _, hp⟩ := List.mem_flatMap.1 hx
  simp [encS] at hp
  rcases hp with rfl | rfl <;> rfl
theorem keyAt_eq {m : Mz} {k : Nat} (h : k < m.keys.length) : keyAt m (k : Int) = m.keys[k] := by unfold keyAt; rw [List.getD_eq_getElem?_getD, Int.toNat_natCast, List.getElem?_eq_getElem h]; rfl
theorem keyAt_set {m : Mz} (V : Valid m) (x : Int) : 0 ≤ keyAt m x ∧ keyAt m x < 64 := by
  unfold keyAt
  rw [List.getD_eq_getElem?_getD]
  rcases Nat.lt_or_ge x.toNat m.keys.length with h | h
  · rw [List.getElem?_eq_getElem h]; exact V.key _ h
  · rw [List.getElem?_eq_none h]; exact ⟨by decide, by decide⟩
def stAt (m : Mz) (x set : Int) : St := (x, bits .or .i64 set (keyAt m x))
def StOk (m : Mz) (s : St) : Prop := 0 ≤ s.1 ∧ s.1 < m.size ∧ 0 ≤ s.2 ∧ s.2 < 64
theorem stAt_ok {m : Mz} (V : Valid m) {x set : Int} (h0 : 0 ≤ x) (h1 : x < m.size) (h2 : 0 ≤ set) (h3 : set < 64) : StOk m (stAt m x set) := by
  obtain ⟨k1, k2⟩ := keyAt_set V x
  obtain ⟨o1, o2⟩ := or_set h2 h3 k1 k2
  exact ⟨h0, h1, o1, o2⟩
def nextsTo (m : Mz) (s : St) (k : Nat) : List St := ((List.range k).filter fun y : Nat => openB m.doors s.1 (y : Int) s.2).map fun y : Nat => stAt m y s.2
/-- to which states one step leads -/
def nexts (m : Mz) (s : St) : List St := nextsTo m s m.size.toNat
theorem nextsTo_zero (m : Mz) (s : St) : nextsTo m s 0 = [] := rfl
theorem nextsTo_yes {m : Mz} {s : St} {k : Nat} (h : openB m.doors s.1 (k : Int) s.2 = true) : nextsTo m s (k + 1) = nextsTo m s k ++ [stAt m k s.2] := by
  unfold nextsTo; rw [List.range_succ, List.filter_append, List.filter_cons_of_pos (p := fun y : Nat => openB m.doors s.1 (y : Int) s.2) h]; simp
theorem nextsTo_no {m : Mz} {s : St} {k : Nat} (h : openB m.doors s.1 (k : Int) s.2 = false) : nextsTo m s (k + 1) = nextsTo m s k := by
  unfold nextsTo; rw [List.range_succ, List.filter_append, List.filter_cons_of_neg (p := fun y : Nat => openB m.doors s.1 (y : Int) s.2) (by rw [h]; decide)]; simp
theorem nextsTo_len (m : Mz) (s : St) (k : Nat) : (nextsTo m s k).length ≤ k := by
  unfold nextsTo
  rw [List.length_map]
  have := List.length_filter_le (fun y : Nat => openB m.doors s.1 (y : Int) s.2) (List.range k)
  simpa using this
theorem mem_nexts {m : Mz} {s t : St} : t ∈ nexts m s ↔ ∃ y : Nat, y < m.size.toNat ∧ openB m.doors s.1 (y : Int) s.2 = true ∧ t = stAt m y s.2 := by
  unfold nexts nextsTo
  rw [List.mem_map]
  constructor
  · rintro ⟨y, hy, rfl⟩
    rw [List.mem_filter, List.mem_range] at hy
    exact ⟨y, hy.1, hy.2, rfl⟩
  · rintro ⟨y, h1, h2, rfl⟩
    exact ⟨y, by rw [List.mem_filter, List.mem_range]; exact ⟨h1, h2⟩, rfl⟩
theorem nexts_ok {m : Mz} (V : Valid m) {s : St} (h : StOk m s) {t : St} (ht : t ∈ nexts m s) : StOk m t := by
  obtain ⟨y, hy, _, rfl⟩ := mem_nexts.1 ht
  exact stAt_ok V (by omega) (by omega) h.2.2.1 h.2.2.2
end M
namespace C
set_option maxHeartbeats 3200000
set_option maxRecDepth 20000
theorem st64 {m : M.Mz} (V : M.Valid m) {s : M.St} (h : M.StOk m s) : St64 s := by
  have := V.size12
  obtain ⟨h1, h2, h3, h4⟩ := h
  exact ⟨WalkArith.wf_i64 (by omega), WalkArith.wf_i64 (by omega)⟩
def StPost (w : World) (s : M.St) (e : Ending) (w' : World) : Prop := e = .returned (.agg #[.int .i64 s.1, .int .i64 s.2]) ∧ Below w.heap.size w w'
theorem stateAt_any (w : World) (lo hi : Nat) (m : M.Mz) (a b : Option Addr) (c d : Nat) (h : MzIn lo hi w m a c b d) (hz : hi ≤ w.heap.size) (V : M.Valid m) (x set : Int) (h0 : 0 ≤ x) (h1 : x < m.size) :
    Calls Try.prog 162 #[.agg #[.int .i64 m.size, .slice a m.doors.length c, .slice b m.keys.length d], .int .i64 x, .int .i64 set] w (StPost w (M.stAt m x set)) := by
  have hkl := V.keysLen
  have v12 := V.size12
  obtain ⟨k, rfl⟩ : ∃ k : Nat, x = (k : Int) := ⟨x.toNat, by omega⟩
  obtain ⟨kb, koff, rfl, _, hkb, hkc⟩ := h.keys.at_ (k := k) (by rw [M.encIs_len]; omega)
  have hkk : k < m.keys.length := by omega
  have gk := hkc _ _ (M.encIs_at hkk)
  rw [← M.keyAt_eq hkk] at gk
  have HE : Hid (M.stAt m (k : Int) set = ((k : Int), bits .or .i64 set (M.keyAt m (k : Int)))) := Lib.hid rfl
  generalize M.keyAt m (k : Int) = ky at *
  clear hkc h
  go_enter Try.func162, Try.ntmps162
  go_upto_region 1 with fail
  refine wp_named ?_
  intro W hW
  have hb : Below w.heap.size w W := by rw [hW]; exact (below_alloc _ _).alloc (by simp) _
  have x1 : Box3 W w.heap.size 29 (.int .i64 m.size) (.slice a m.doors.length c) (.slice (some ⟨kb, koff, none⟩) m.keys.length d) := by rw [hW]; exact (Box3.new _ _ _ _ rfl).alloc _
  have z1 : Box2 W (w.heap.size + 1) 65 (.int .i64 0) (.int .i64 0) := by rw [hW]; exact Box2.new _ _ _ (by simp)
  have gk1 : W.cell? ⟨kb, koff + k, none⟩ = some (.int .i64 ky) := (hb.cell (p := ⟨kb, koff + k, none⟩) (show kb < _ by omega)).trans gk
  clear hW gk
  have hzw := hb.size
  obtain ⟨c0, c1, c2⟩ := x1.cells
  obtain ⟨k0, k1⟩ := z1.cells
  obtain ⟨f0, f1⟩ := z1.free
  obtain ⟨r0, r1⟩ := (z1.setAll (.int .i64 (k : Int)) (.int .i64 (bits .or .i64 set ky))).cells
  go_wp2_with fail
  refine bodyPost_ret (v := .agg #[.int .i64 (k : Int), .int .i64 (bits .or .i64 set ky)]) (by simp [results, Try.results162, go_sem, r0, r1]) rfl ?_
  exact ⟨by rw [HE.out], Below.thenTurned hb (Turned.set2 _ _ _) (by omega) (by omega)⟩
theorem goal_any (m : M.Mz) (a b : Option Addr) (c d : Nat) (w : World) (h1 : 1 ≤ m.size) (h2 : m.size ≤ 12) :
    Calls Try.prog 142 #[.agg #[.int .i64 m.size, .slice a m.doors.length c, .slice b m.keys.length d]] w fun e w' => e = .returned (.int .i64 (m.size - 1)) ∧ w.alloc (.cells #[.int .i64 m.size, .slice a m.doors.length c, .slice b m.keys.length d] 29) = w' := by
  go_enter Try.func142, Try.ntmps142
  go_wp2_with fail
  go_ret
  exact ⟨rfl, rfl⟩
def BoolW (w : World) (r : Bool) (e : Ending) (w' : World) : Prop := e = .returned (.bool r) ∧ Below w.heap.size w w'
theorem isWon_any (w : World) (m : M.Mz) (a b : Option Addr) (c d : Nat) (h1 : 1 ≤ m.size) (h2 : m.size ≤ 12) (s : M.St) :
    Calls Try.prog 136 #[.agg #[.int .i64 m.size, .slice a m.doors.length c, .slice b m.keys.length d], .agg #[.int .i64 s.1, .int .i64 s.2]] w (BoolW w (s.1 == m.size - 1)) := by
  go_enter Try.func136, Try.ntmps136
  go_upto_region 1 with fail
  refine wp_named ?_
  intro W hW
  have hb : Below w.heap.size w W := by rw [hW]; exact (below_alloc _ _).alloc (by simp) _
  have x1 : Box3 W w.heap.size 29 (.int .i64 m.size) (.slice a m.doors.length c) (.slice b m.keys.length d) := by rw [hW]; exact (Box3.new _ _ _ _ rfl).alloc _
  have z1 : Box2 W (w.heap.size + 1) 65 (.int .i64 s.1) (.int .i64 s.2) := by rw [hW]; exact Box2.new _ _ _ (by simp)
  clear hW
  obtain ⟨c0, c1, c2⟩ := x1.cells
  obtain ⟨k0, k1⟩ := z1.cells
  have HB := Lib.hid hb
  have hzl := z1.lt
  have z2 := z1.alloc (.cells #[.int .i64 m.size, .slice a m.doors.length c, .slice b m.keys.length d] 29)
  obtain ⟨k2, k3⟩ := z2.cells
  clear hb x1 z1 z2
  go_region_with (go_simp; go_at_call 142; refine (goal_any m a b c d _ h1 h2).mono ?_; rintro e w1 ⟨rfl, rfl⟩)
  all_goals
    go_wp2_with fail
    go_ret
    exact ⟨rfl, Below.drawnN (HB.out.alloc (by omega) _) 1⟩
theorem infoS : (Try.prog.info? 65).map (fun i => (i.zero, i.size, i.bytes)) = some (some (.agg #[.int .i64 0, .int .i64 0]), 2, 16) := by kernel_rfl
def StsPost (w : World) (l : List M.St) (e : Ending) (w' : World) : Prop :=
  ∃ a c, e = .returned (.slice a l.length c) ∧ OwnAt w.heap.size w'.heap.size w' 65 a (M.encSs l) ∧ l.length ≤ c ∧ c ≤ 9223372036854775807 ∧ Below w.heap.size w w'
theorem sts_end {w w' : World} {l : List M.St} {n : Nat} {v : Value} {B : Nat} (h : w'.ownsRow B 65 2 v n (M.encSs l)) (hB : w.heap.size ≤ B) (hn : n = l.length) (hb : Below w.heap.size w w') : StsPost w l (.returned v) w' := by
  subst hn
  have h0 := h
  obtain ⟨a, c, rfl, h1, h2, _⟩ := own_slice h
  exact ⟨a, c, rfl, (OwnAt.of_own h0).mono hB (Nat.le_refl _), h1, h2, hb⟩
theorem newsS {w : World} {g : Nat} {x y : Value} (h : Box2 w g 65 x y) : ∀ j u, ([x, y])[j]? = some u → w.cell? ((⟨g, 0, none⟩ : Addr).add j) = some u := World.news_of_block h
theorem nextStates_any (w : World) (lo hi : Nat) (m : M.Mz) (a b : Option Addr) (c d : Nat) (h : MzIn lo hi w m a c b d) (hz : hi ≤ w.heap.size) (V : M.Valid m) (s : M.St) (hs : M.StOk m s) :
    Calls Try.prog 152 #[.agg #[.int .i64 m.size, .slice a m.doors.length c, .slice b m.keys.length d], .agg #[.int .i64 s.1, .int .i64 s.2]] w (StsPost w (M.nexts m s)) := by
  obtain ⟨i0, hi0, hz0, hz1, hz2⟩ := info_parts infoS
  obtain ⟨hs1, hs2, hs3, hs4⟩ := hs
  have H := Lib.hid h
  have HVA := Lib.hid V
  have v12 := V.size12
  have v1 := V.size1
  obtain ⟨n, hn'⟩ : ∃ n : Nat, (n : Int) = m.size := ⟨m.size.toNat, by omega⟩
  have HN : Hid (M.nexts m s = M.nextsTo m s n) := Lib.hid (by unfold M.nexts; rw [← hn', Int.toNat_natCast])
  have hn := Lib.hid hn'
  clear h V hn'
  go_enter Try.func152, Try.ntmps152
  go_upto_region 2 with fail
  refine wp_named ?_
  intro W hW
  have hb : Below w.heap.size w W := by rw [hW]; exact ((below_alloc _ _).alloc (by simp) _).alloc (by simp; omega) _
  have x1 : Box3 W w.heap.size 29 (.int .i64 m.size) (.slice a m.doors.length c) (.slice b m.keys.length d) := by rw [hW]; exact ((Box3.new _ _ _ _ rfl).alloc _).alloc _
  have z1 : Box2 W (w.heap.size + 1) 65 (.int .i64 s.1) (.int .i64 s.2) := by rw [hW]; exact (Box2.new _ _ _ (by simp)).alloc _
  have o1 : W.ownsRow (w.heap.size + 1 + 1) 65 2 (.slice (some ⟨w.heap.size + 1 + 1, 0, none⟩) 0 0) 0 (M.encSs (M.nextsTo m s 0)) := by
    rw [hW]
    have := ownsRow_empty ((w.alloc (.cells #[.int .i64 m.size, .slice a m.doors.length c, .slice b m.keys.length d] 29)).alloc (.cells #[.int .i64 s.1, .int .i64 s.2] 65)) (w.heap.size + 1 + 1) 65 2 (by simp)
    rw [World.size_alloc, World.size_alloc] at this
    exact this
  clear hW
  obtain ⟨c0, c1, c2⟩ := x1.cells
  obtain ⟨k0, k1⟩ := z1.cells
  have X1 := Lib.hid x1
  have Z1 := Lib.hid z1
  have O1 := Lib.hid o1
  have HB := Lib.hid hb
  clear x1 z1 o1 hb
  rw [← hn.out] at c0
  go_wp2_with fail
  go_loopw [5, 6, 10] (fun v5 _ v10 wr => ∃ (k : Nat), k ≤ n ∧ v10 = .int .i64 (k : Int) ∧ wr.ownsRow (w.heap.size + 1 + 1) 65 2 v5 (M.nextsTo m s k).length (M.encSs (M.nextsTo m s k)) ∧ Box3 wr w.heap.size 29 (.int .i64 m.size) (.slice a m.doors.length c) (.slice b m.keys.length d) ∧ Box2 wr (w.heap.size + 1) 65 (.int .i64 s.1) (.int .i64 s.2) ∧ Below w.heap.size w wr) (fun _ _ v10 _ => n - (intOf v10).toNat)
  case atStart => exact ⟨0, Nat.zero_le _, rfl, O1.out, X1.out, Z1.out, HB.out⟩
  case round =>
    obtain ⟨k, hk, rfl, hso, hx, hzb, hlow⟩ := hrel
    obtain ⟨la, lc, hv, hl1, hl2, _⟩ := own_slice hso
    subst hv
    have SO := Lib.hid hso
    have X7 := Lib.hid hx
    have Z7 := Lib.hid hzb
    have LO := Lib.hid hlow
    have hzr := hlow.size
    have hll := M.nextsTo_len m s k
    have hnn : n ≤ 12 := by have := hn.out; omega
    obtain ⟨x0, x1, x2⟩ := hx.cells
    obtain ⟨y0, y1⟩ := hzb.cells
    have hxl := hx.lt
    have hzl := hzb.lt
    clear hso hx hzb hlow c0 c1 c2 k0 k1
    by_cases hkl : k < n
    · have HO := Lib.hid (isOpen_any wr lo hi m a b c d s.1 (k : Int) s.2 (H.out.below LO.out hz) (by omega) HVA.out hs3 hs4)
      have HST := Lib.hid (fun W' (hq : Below wr.heap.size wr W') => stateAt_any W' lo hi m a b c d (H.out.below (LO.out.trans (hq.mono hzr)) hz) (by have := hq.size; omega) HVA.out (k : Int) s.2 (by omega) (by have := hn.out; omega))
      cases hop : M.openB m.doors s.1 (k : Int) s.2 with
      | false =>
        have HNO := Lib.hid (M.nextsTo_no hop)
        rw [hop] at HO
        clear hop
        go_wp2_with fail
        refine (HO.out).mono ?_
        rintro e w2 ⟨rfl, hb2⟩
        have SO2 := Lib.hid (own_below SO.out hb2)
        have X2 := Lib.hid (X7.out.below hb2)
        have Z2 := Lib.hid (Z7.out.below hb2)
        have LO2 := Lib.hid (LO.out.trans (hb2.mono hzr))
        clear hb2
        go_wp2_with fail
        go_roundw
        case rel => exact ⟨k + 1, by omega, by go_num, by rw [HNO.out]; exact SO2.out, X2.out, Z2.out, LO2.out⟩
        case measure => simp [intOf]; omega
      | true =>
        have HYE := Lib.hid (M.nextsTo_yes hop)
        rw [hop] at HO
        clear hop
        go_wp2_with fail
        refine (HO.out).mono ?_
        rintro e w2 ⟨rfl, hb2⟩
        have SO2 := Lib.hid (own_below SO.out hb2)
        have X2 := Lib.hid (X7.out.below hb2)
        have Z2 := Lib.hid (Z7.out.below hb2)
        have LO2 := Lib.hid (LO.out.trans (hb2.mono hzr))
        obtain ⟨x3, x4, x5⟩ := X2.out.cells
        obtain ⟨y3, y4⟩ := Z2.out.cells
        have HS2 := Lib.hid (HST.out w2 hb2)
        have hz2' := hb2.size
        clear hb2 x0 x1 x2 y0 y1
        generalize M.stAt m (k : Int) s.2 = t at *
        go_wp2_with fail
        refine (HS2.out).mono ?_
        rintro e w3 ⟨rfl, hb3⟩
        have SO3 := Lib.hid (own_below SO2.out hb3)
        have X3 := Lib.hid (X2.out.below hb3)
        have Z3 := Lib.hid (Z2.out.below hb3)
        have LO3 := Lib.hid (LO2.out.trans (hb3.mono LO2.out.size))
        have hz3' := hb3.size
        have HNE := Lib.hid (own_ne_box SO3.out X3.out (by decide))
        have HNE2 : Hid ((Value.slice la (M.nextsTo m s k).length lc).ownBlock ≠ some (w.heap.size + 1)) := Lib.hid (fun e => by have := own_base SO3.out _ e; omega)
        clear hb3 x3 x4 x5 y3 y4
        go_wp2_with (at_builtin; refine wpList_append_own _ rfl _ _ 110 rfl (w.heap.size + 1 + 1) 65 i0 (.agg #[.int .i64 0, .int .i64 0]) 2 16 Try.underlying110 hi0 hz0 hz1 hz2 rfl (by decide) _ _ _ rfl (SO3.out.alloc _) ⟨w3.heap.size, 0, none⟩ 1 1 [.int .i64 t.1, .int .i64 t.2] rfl rfl (newsS (Box2.new _ _ _ rfl)) (fun x hx => by simp at hx; rcases hx with rfl | rfl <;> rfl) (by unfold maxLen; omega) (by omega) (by simp; omega) ?_; intro v' w7 hown' hgrow7 hnil7)
        go_roundw
        case rel =>
          refine ⟨k + 1, by omega, by go_num, ?_, (X3.out.alloc _).grown hgrow7 HNE.out, (Z3.out.alloc _).grown hgrow7 HNE2.out, (LO3.out.alloc (by omega) _).grown hgrow7 (by simp; omega) (fun j hj => by have := own_base SO3.out j hj; omega)⟩
          rw [HYE.out, M.encSs_append, List.length_append]
          exact hown'
        case measure => simp [intOf]; omega
    · obtain rfl : k = n := by omega
      go_wp2_with fail
      go_ret
      rw [HN.out]
      exact sts_end SO.out (by omega) rfl LO.out
end C
end Go.Proofs.Ytcoaggnilgfjfaa
