/-
  MATHEMATICS of mazes without a part, own to these proofs: without the doors at a node, without a colour, without the keys at a node: a valid maze stays one. No condition.
  CONTRACTS of impl.SetOf and spec.SetOf: both hand back the set of a list of colours, or fail at another number; the world is as it was. Condition: a list of at most 1048576 numbers.
  CONTRACTS of SetOf as the law's walk takes them.
  CONTRACTS of WithoutColour on both sides, and of the model's l3Colour: the maze without the keys of a colour, in memory of its own, or the empty one and false; what lay in memory stays. No condition but that the maze reads so.
  CONTRACTS of PutKeys on both sides: the maze with a node's keys changed, in memory of its own, or the empty one and false; what lay in memory stays. No condition but that the maze reads so.
  CONTRACTS of WithoutKeys on both sides, and of the model's l3Keys: the maze without the keys at a node, in memory of its own, or the empty one and false; what lay in memory stays. No condition but that the maze reads so.
-/
import Derived.Test.YtoiapfdlbkncaaaPutMath
import Derived.Test.YtoiapfdlbkncaaaOpenMath
import Derived.Test.YtoiapfdlbkncaaaSets
import Derived.Test.YtoiapfdlbkncaaaMzAt
import Derived.Test.YtoiapfdlbkncaaaRepT
import Derived.Test.YtoiapfdlbkncaaaDoorsAt
import Derived.Deep.RegionHeld3
import Derived.Test.YtoiapfdlbkncaaaMzEnd
import Derived.Test.YtoiapfdlbkncaaaOwnMaz3
import Derived.Test.YtoiapfdlbkncaaaNodeB
namespace Go.Proofs.Ytoiapfdlbkncaaa
open Go.RowKit
namespace M
theorem Valid.doorB {m : Mz} (V : Valid m) {d : Dr} (h : d ∈ m.doors) : 0 ≤ d.1 ∧ d.1 < m.size ∧ 0 ≤ d.2.1 ∧ d.2.1 < m.size ∧ d.1 < d.2.1 ∧ 0 ≤ d.2.2 ∧ d.2.2 < 64 := by
  obtain ⟨k, hk, rfl⟩ := List.mem_iff_getElem.1 h
  exact V.door k hk
theorem Valid.keyB {m : Mz} (V : Valid m) {s : Int} (h : s ∈ m.keys) : 0 ≤ s ∧ s < 64 := by
  obtain ⟨k, hk, rfl⟩ := List.mem_iff_getElem.1 h
  exact V.key k hk
/-- a maze of some of the doors, in their order, and other keys -/
theorem Valid.part {m : Mz} (V : Valid m) {ds : List Dr} {ks : List Int} (h1 : ds.Sublist m.doors) (h2 : ks.length = m.keys.length) (h3 : ∀ s ∈ ks, 0 ≤ s ∧ s < 64) : Valid ⟨m.size, ds, ks⟩ where
  size1 := V.size1
  size12 := V.size12
  few := Nat.le_trans h1.length_le V.few
  keysLen := by show ((ks.length : Nat) : Int) = m.size; rw [h2]; exact V.keysLen
  door := fun _ hk => V.doorB (h1.subset (List.getElem_mem hk))
  sorted := (show Asc ltD ds from List.Pairwise.sublist h1 V.asc).sorted
  key := fun _ hk => h3 _ (List.getElem_mem hk)
def atB (d : Dr) (x : Int) : Bool := decide (d.1 = x ∨ d.2.1 = x)
def noNode (m : Mz) (x : Int) : Mz := ⟨m.size, m.doors.filter fun d => !atB d x, m.keys⟩
theorem noNode_valid {m : Mz} (V : Valid m) (x : Int) : Valid (noNode m x) := V.part List.filter_sublist rfl fun _ h => V.keyB h
def lessS (s : Int) (t : Int) : Int := bits .andNot .i64 s t
theorem less_fin : ∀ s t : Fin 64, 0 ≤ lessS (s.val : Int) (t.val : Int) ∧ lessS (s.val : Int) (t.val : Int) < 64 := by decide +kernel
theorem less_set {s t : Int} (h0 : 0 ≤ s) (h1 : s < 64) (h2 : 0 ≤ t) (h3 : t < 64) : 0 ≤ lessS s t ∧ lessS s t < 64 := by
  have := less_fin ⟨s.toNat, by omega⟩ ⟨t.toNat, by omega⟩
  simp only at this
  rwa [Int.toNat_of_nonneg h0, Int.toNat_of_nonneg h2] at this
def noSet (m : Mz) (t : Int) : Mz := ⟨m.size, m.doors, m.keys.map fun s => lessS s t⟩
theorem noSet_valid {m : Mz} (V : Valid m) {t : Int} (h2 : 0 ≤ t) (h3 : t < 64) : Valid (noSet m t) := V.part (List.Sublist.refl _) (by simp) fun s h => by
  obtain ⟨u, hu, rfl⟩ := List.mem_map.1 h
  have := V.keyB hu
  exact less_set this.1 this.2 h2 h3
def noKeys (m : Mz) (x : Nat) : Mz := ⟨m.size, m.doors, m.keys.set x 0⟩
theorem noKeys_valid {m : Mz} (V : Valid m) (x : Nat) : Valid (noKeys m x) := V.part (List.Sublist.refl _) (by simp) fun s h => by
  rcases List.mem_or_eq_of_mem_set h with h | rfl
  · exact V.keyB h
  · exact ⟨by decide, by decide⟩
def noDoor (m : Mz) (k : Nat) : Mz := ⟨m.size, m.doors.take k ++ m.doors.drop (k + 1), m.keys⟩
theorem noDoor_valid {m : Mz} (V : Valid m) (k : Nat) : Valid (noDoor m k) := V.part (by rw [← List.eraseIdx_eq_take_drop_succ]; exact List.eraseIdx_sublist ..) rfl fun _ h => V.keyB h
/-- the first k doors without those at a node -/
theorem noNode_take_yes {l : List Dr} {x : Int} {k : Nat} (hk : k < l.length) (h : atB l[k] x = false) : (l.take (k + 1)).filter (fun d => !atB d x) = (l.take k).filter (fun d => !atB d x) ++ [l[k]] := by
  rw [List.take_succ_eq_append_getElem hk, List.filter_append, List.filter_cons_of_pos (p := fun d => !atB d x) (by show (!atB l[k] x) = true; rw [h]; rfl)]
  rfl
theorem noNode_take_no {l : List Dr} {x : Int} {k : Nat} (hk : k < l.length) (h : atB l[k] x = true) : (l.take (k + 1)).filter (fun d => !atB d x) = (l.take k).filter (fun d => !atB d x) := by
  rw [List.take_succ_eq_append_getElem hk, List.filter_append, List.filter_cons_of_neg (p := fun d => !atB d x) (by show ¬ (!atB l[k] x) = true; rw [h]; decide)]
  simp
end M
end Go.Proofs.Ytoiapfdlbkncaaa
namespace Go.Proofs.Ytoiapfdlbkncaaa
open Go.RowKit
namespace M
/-- the number of one colour, as the model reckons 1 << c -/
def bitI (c : Int) : Int := wrap64 (2 ^ c.toNat)
/-- the set of a list of colours -/
def setI (l : List Int) : Int := l.foldl (fun s c => bits .or .i64 s (bitI c)) 0
def colB (c : Int) : Bool := decide (0 ≤ c ∧ c < 6)
def colsB (l : List Int) : Bool := l.all colB
theorem setI_snoc {l : List Int} {k : Nat} (h : k < l.length) : setI (l.take (k + 1)) = bits .or .i64 (setI (l.take k)) (bitI l[k]) := by
  unfold setI; rw [List.take_succ_eq_append_getElem h, List.foldl_append]; rfl
theorem all_take_no {α : Type} {f : α → Bool} {l : List α} {k : Nat} (h : k < l.length) (hf : f l[k] = false) : l.all f = false := by
  rw [Bool.eq_false_iff]
  intro h'
  have := List.all_eq_true.1 h' _ (List.getElem_mem h)
  rw [hf] at this
  cases this
theorem all_of_take {α : Type} {f : α → Bool} {l : List α} (h : ∀ k (h : k < l.length), f l[k] = true) : l.all f = true := by
  rw [List.all_eq_true]
  intro x hx
  obtain ⟨k, hk, rfl⟩ := List.mem_iff_getElem.1 hx
  exact h k hk
end M
namespace C
/-- a set handed back, or 0 and false -/
def SetPost (w : World) (l : List Int) (e : Ending) (w' : World) : Prop := e = .returned (.tuple #[.int .i64 (if M.colsB l then M.setI l else 0), .bool (M.colsB l)]) ∧ w = w'
set_option maxHeartbeats 800000
set_option maxRecDepth 20000
theorem implSetOf_any (w : World) (lo hi : Nat) (a : Option Addr) (c : Nat) (l : List Int) (h : RowIn lo hi w a (M.encIs l)) (hl : l.length ≤ 1048576) :
    Calls Try.prog 84 #[.slice a l.length c] w (SetPost w l) := by
  have h' := Lib.hid h
  clear h
  go_enter Try.func84, Try.ntmps84
  go_wp2_with fail
  go_loop [4, 6, 9] (fun s _ i => ∃ (k : Nat), k ≤ l.length ∧ i = .int .i64 k ∧ s = .int .i64 (M.setI (l.take k)) ∧ ∀ j (hj : j < l.length), j < k → M.colB l[j] = true) (fun _ _ i => l.length - (intOf i).toNat)
  case atStart => exact ⟨0, Nat.zero_le _, rfl, rfl, fun j _ h => by omega⟩
  case round =>
    obtain ⟨k, hk, rfl, rfl, hall⟩ := hrel
    have HA := Lib.hid hall
    clear hall
    by_cases hlt : k < l.length
    · obtain ⟨b, off, rfl, _, _, hc0⟩ := h'.out.at_ (k := k) (by rw [M.encIs_len]; exact hlt)
      have hc := hc0 k _ (M.encIs_at hlt)
      have HS := Lib.hid (M.setI_snoc hlt)
      clear hc0
      by_cases h0 : 0 ≤ l[k]
      · by_cases h1 : l[k] < 6
        · go_wp2_with fail
          go_round
          case rel => exact ⟨k + 1, by omega, by go_num, by rw [HS.out]; rfl, fun j hj hjk => by
            rcases Nat.lt_or_ge j k with h | h
            · exact HA.out j hj h
            · obtain rfl : j = k := by omega
              exact decide_eq_true ⟨h0, h1⟩⟩
          case measure => simp [intOf]; omega
        · have HF : Hid (M.colsB l = false) := Lib.hid (M.all_take_no hlt (decide_eq_false fun h => h1 h.2))
          go_wp2_with fail
          go_ret2
          exact ⟨by rw [HF.out]; rfl, rfl⟩
      · have HF : Hid (M.colsB l = false) := Lib.hid (M.all_take_no hlt (decide_eq_false fun h => h0 h.1))
        have h0' : l[k] < 0 := by omega
        go_wp2_with fail
        go_ret2
        exact ⟨by rw [HF.out]; rfl, rfl⟩
    · obtain rfl : k = l.length := by omega
      have HF : Hid (M.colsB l = true) := Lib.hid (M.all_of_take fun j hj => HA.out j hj hj)
      go_wp2_with fail
      go_ret2
      exact ⟨by rw [HF.out]; rfl, rfl⟩
end C
end Go.Proofs.Ytoiapfdlbkncaaa
namespace Go.Proofs.Ytoiapfdlbkncaaa
open Go.RowKit
namespace M
def setV (l : List Int) : Int := if colsB l then setI l else 0
end M
namespace C
theorem implSetOf_lw (w : World) (lo hi : Nat) (a : Option Addr) (c : Nat) (l : List Int) (h : RowIn lo hi w a (M.encIs l)) (_hz : hi ≤ w.heap.size) (hl : l.length ≤ 1048576) (_h1 : l.length ≤ c) (_h2 : c ≤ 9223372036854775807) (_hb : ∀ z ∈ l, -9223372036854775808 ≤ z ∧ z ≤ 9223372036854775807) :
    Calls Try.prog 84 #[.slice a l.length c] w fun e w' => e = .returned (.tuple #[.int .i64 (M.setV l), .bool (M.colsB l)]) ∧ Below w.heap.size w w' :=
  (implSetOf_any w lo hi a c l h hl).mono fun _ _ ⟨he, hw⟩ => ⟨he, by rw [← hw]; exact Below.refl _ _⟩
end C
end Go.Proofs.Ytoiapfdlbkncaaa
namespace Go.Proofs.Ytoiapfdlbkncaaa
open Go.RowKit
namespace M
/-- the set of one colour -/
def colV (x : Int) : Int := 2 ^ x.toNat
theorem col_fin : ∀ c : Fin 6, (0 ≤ colV (c.val : Int) ∧ colV (c.val : Int) < 64) ∧ IntKind.i64.wrap (2 ^ (c.val : Int).toNat) = colV (c.val : Int) ∧ wrap64 (2 ^ (c.val : Int).toNat) = colV (c.val : Int) ∧ setI [(c.val : Int)] = colV (c.val : Int) := by decide +kernel
theorem col_facts {x : Int} (h0 : 0 ≤ x) (h5 : x < 6) : (0 ≤ colV x ∧ colV x < 64) ∧ IntKind.i64.wrap (2 ^ x.toNat) = colV x ∧ wrap64 (2 ^ x.toNat) = colV x ∧ setI [x] = colV x := by
  have := col_fin ⟨x.toNat, by omega⟩
  simp only at this
  rwa [Int.toNat_of_nonneg h0] at this
def woColB (m : Mz) (x : Int) : Bool := mazeB m && colB x
def woColV (m : Mz) (x : Int) : Mz := if woColB m x then noSet m (colV x) else C.mz0
theorem woColV_yes {m : Mz} {x : Int} (h : woColB m x = true) : woColV m x = noSet m (colV x) := by unfold woColV; rw [if_pos h]
theorem woColV_no {m : Mz} {x : Int} (h : woColB m x = false) : woColV m x = C.mz0 := by unfold woColV; rw [h]; rfl
theorem woColV_len (m : Mz) (x : Int) : (woColV m x).doors.length ≤ 1048576 ∧ (woColV m x).keys.length ≤ 1048576 := by
  cases h : woColB m x with
  | false => rw [woColV_no h]; simp [C.mz0]
  | true =>
    rw [woColV_yes h]
    unfold woColB at h
    rw [Bool.and_eq_true] at h
    have V := valid_of h.1
    have h1 := V.few
    have h2 := V.keysLen
    have h3 := V.size12
    unfold noSet
    simp only [List.length_map]
    omega
theorem col_in (x : Int) : inB x 0 5 = colB x := by unfold inB colB; congr 1; apply propext; omega
end M
namespace C
set_option maxHeartbeats 1600000
set_option maxRecDepth 20000
structure CSt (w : World) (m : M.Mz) (a b : Option Addr) (c d L bg : Nat) (ca cb : Option Addr) (cc cd : Nat) (wr : World) (ks : List Int) : Prop where
  box : Box3 wr w.heap.size 29 (.int .i64 m.size) (.slice a m.doors.length c) (.slice b m.keys.length d)
  res : Box3 wr (w.heap.size + 1) 29 (.int .i64 0) (.slice none 0 0) (.slice none 0 0)
  out : Box3 wr bg 29 (.int .i64 m.size) (.slice ca m.doors.length cc) (.slice cb m.keys.length cd)
  own : MzOwn L bg wr ⟨m.size, m.doors, ks⟩ ca cc cb cd
  low : Below w.heap.size w wr
theorem CSt.later {w : World} {m : M.Mz} {a b : Option Addr} {c d L bg : Nat} {ca cb : Option Addr} {cc cd : Nat} {wr wr' : World} {ks : List Int} (h : CSt w m a b c d L bg ca cb cc cd wr ks) (hb : Below wr.heap.size wr wr') : CSt w m a b c d L bg ca cb cc cd wr' ks :=
  ⟨h.box.below hb, h.res.below hb, h.out.below hb, h.own.below hb (Nat.le_of_lt h.out.lt), h.low.trans (hb.mono h.low.size)⟩
theorem CSt.set {w : World} {m : M.Mz} {a b : Option Addr} {c d L bg : Nat} {ca : Option Addr} {cc cd g off : Nat} {wr : World} {ks : List Int} (h : CSt w m a b c d L bg ca (some ⟨g, off, none⟩) cc cd wr ks) (hL : w.heap.size + 1 < L) (hg1 : L ≤ g) (hg2 : g < bg) {k : Nat} (hk : k < ks.length) (v : Int) :
    CSt w m a b c d L bg ca (some ⟨g, off, none⟩) cc cd (wr.setCell ⟨g, off + k, none⟩ (.int .i64 v)) (ks.set k v) :=
  have t := Turned.setCell (lo := L) (hi := bg) wr g (off + k) (.int .i64 v) hg1 hg2
  ⟨h.box.turned t (.inl (by omega)), h.res.turned t (.inl (by omega)), h.out.turned t (.inr (Nat.le_refl _)), h.own.setKey rfl k hk v, h.low.setCell (p := ⟨g, off + k, none⟩) (by show w.heap.size ≤ g; omega) _⟩
theorem l3Colour_any (w : World) (lo hi : Nat) (m : M.Mz) (a b : Option Addr) (c d : Nat) (h : MzIn lo hi w m a c b d) (hz : hi ≤ w.heap.size) (h1 : m.doors.length ≤ 1048576) (h2 : m.keys.length ≤ 1048576) (hkl : (m.keys.length : Int) = m.size) (x : Int) (h0 : 0 ≤ x) (h5 : x < 6) :
    Calls Try.prog 82 #[.agg #[.int .i64 m.size, .slice a m.doors.length c, .slice b m.keys.length d], .int .i64 x] w (MzPost w (M.noSet m (M.colV x))) := by
  have H := Lib.hid h
  clear h
  obtain ⟨_, hsh, _, _⟩ := M.col_facts h0 h5
  have hx0 : ¬ x < 0 := by omega
  generalize M.colV x = t at *
  go_enter Try.func82, Try.ntmps82
  go_wp2_with fail
  refine named ?_
  intro W hW
  have hb : Below w.heap.size w W := by rw [hW]; exact (below_alloc _ _).alloc (by simp) _
  have x1 : Box3 W w.heap.size 29 (.int .i64 m.size) (.slice a m.doors.length c) (.slice b m.keys.length d) := by rw [hW]; exact (Box3.new _ _ _ _ rfl).alloc _
  have y1 : Box3 W (w.heap.size + 1) 29 (.int .i64 0) (.slice none 0 0) (.slice none 0 0) := by rw [hW]; exact Box3.new _ _ _ _ (by simp)
  clear hW
  have hzw := hb.size
  have hwl := y1.lt
  refine (l2Own_any W lo hi m a b c d (H.out.below hb hz) (by omega) h1 h2).mono ?_
  rintro e w3 ⟨ca, cc, cb, cd, rfl, ho, hb3⟩
  have hz3w := hb3.size
  have ho3 := hb.trans (hb3.mono (by omega))
  go_wp2_with fail
  refine wp_named ?_
  intro W4 hW4
  have hb4 : Below w3.heap.size w3 W4 := by rw [hW4]; exact below_alloc _ _
  have t4 : Box3 W4 w3.heap.size 29 (.int .i64 m.size) (.slice ca m.doors.length cc) (.slice cb m.keys.length cd) := by rw [hW4]; exact Box3.new _ _ _ _ rfl
  have ST := Lib.hid (show CSt w m a b c d W.heap.size w3.heap.size ca cb cc cd W4 (M.repT (fun s => M.lessS s t) m.keys 0) from by
    rw [M.repT_zero]
    exact ⟨(x1.below hb3).below hb4, (y1.below hb3).below hb4, t4, ho.below hb4 (Nat.le_refl _), ho3.trans (hb4.mono ho3.size)⟩)
  have hz4 := hb4.size
  clear hW4 hb hb3 hb4 ho ho3 x1 y1 t4
  go_loopw [6] (fun i wr => ∃ (k : Nat), k ≤ m.keys.length ∧ i = .int .i64 k ∧ CSt w m a b c d W.heap.size w3.heap.size ca cb cc cd wr (M.repT (fun s => M.lessS s t) m.keys k)) (fun i _ => m.keys.length - (intOf i).toNat)
  case atStart => exact ⟨0, Nat.zero_le _, rfl, ST.out⟩
  case round =>
    obtain ⟨k, hk, rfl, hst⟩ := hrel
    have SR := Lib.hid hst
    obtain ⟨b0, b1, b2⟩ := hst.box.cells
    obtain ⟨o0, o1, o2⟩ := hst.out.cells
    have hbl := hst.out.lt
    clear hst
    by_cases hkl' : k < m.keys.length
    · obtain ⟨g, off, hcb, hg1, hg2, hc0⟩ := SR.out.own.keys.row.at_ (k := k) (by rw [M.encIs_len]; show k < (M.repT _ m.keys k).length; rw [M.repT_len]; exact hkl')
      have cx : wr.cell? ⟨g, off + k, none⟩ = some (.int .i64 m.keys[k]) := hc0 _ _ (by show (M.encIs (M.repT _ m.keys k))[k]? = _; unfold M.encIs; rw [List.getElem?_map, M.repT_get hkl']; rfl)
      have fx : wr.frozen? ⟨g, off + k, none⟩ = false := SR.out.own.keys.free hcb (k := k) (by rw [M.encIs_len]; show k < (M.repT _ m.keys k).length; rw [M.repT_len]; exact hkl') _
      obtain ⟨ib, ioff, hib, _, hib2, hic⟩ := H.out.keys.at_ (k := k) (by rw [M.encIs_len]; exact hkl')
      subst hib
      have kx : wr.cell? ⟨ib, ioff + k, none⟩ = some (.int .i64 m.keys[k]) := (SR.out.low.cell (p := ⟨ib, ioff + k, none⟩) (show ib < w.heap.size by omega)).trans (hic _ _ (M.encIs_at hkl'))
      have hkd : k < d := by have := H.out.d1; omega
      clear hc0 hic
      subst hcb
      have hss := SR.out.set hwl hg1 hg2 (k := k) (by rw [M.repT_len]; exact hkl') (M.lessS m.keys[k] t)
      rw [show (M.repT (fun s => M.lessS s t) m.keys k).set k (M.lessS m.keys[k] t) = _ from M.repT_set (f := fun s => M.lessS s t) hkl'] at hss
      have SS := Lib.hid hss
      obtain ⟨b0', b1', b2'⟩ := hss.box.cells
      clear hss
      have hbg := Nat.lt_of_lt_of_le hib2 hz
      have kxs : (wr.setCell ⟨g, off + k, none⟩ (.int .i64 (M.lessS m.keys[k] t))).cell? ⟨ib, ioff + k, none⟩ = some (.int .i64 m.keys[k]) := (SS.out.low.cell (p := ⟨ib, ioff + k, none⟩) (show ib < w.heap.size by omega)).trans ((SR.out.low.cell (p := ⟨ib, ioff + k, none⟩) (show ib < w.heap.size by omega)).symm.trans kx)
      obtain ⟨o0', o1', o2'⟩ := SS.out.out.cells
      have hless : bits .andNot .i64 m.keys[k] t = M.lessS m.keys[k] t := rfl
      go_wp2_with fail
      go_region_held3 (fun wq => wq.cell? ⟨w.heap.size, 2, none⟩ = some (.slice (some ⟨ib, ioff, none⟩) m.keys.length d) ∧ wq.cell? ⟨w3.heap.size, 2, none⟩ = some (.slice (some ⟨g, off, none⟩) m.keys.length cd) ∧ wq.cell? ⟨ib, ioff + k, none⟩ = some (.int .i64 m.keys[k])) (first | exact ⟨b2, o2, kx⟩ | exact ⟨b2', o2', kxs⟩ | go_keep) (fail)
      go_wp2_with fail
      go_roundw
      case rel => exact ⟨k + 1, by omega, by go_num, SS.out.later (below_drawn _ _)⟩
      case measure => simp [intOf]; omega
    · obtain rfl : k = m.keys.length := by omega
      have hyb := SR.out.res
      obtain ⟨k0, k1, k2⟩ := hyb.cells
      obtain ⟨f0, f1, f2⟩ := hyb.free
      obtain ⟨r0, r1, r2⟩ := (hyb.setAll (.int .i64 m.size) (.slice ca m.doors.length cc) (.slice cb m.keys.length cd)).cells
      have hzr := SR.out.out.lt
      go_wp2_with fail
      refine bodyPost_ret (v := .agg #[.int .i64 m.size, .slice ca m.doors.length cc, .slice cb m.keys.length cd]) (by simp [results, Try.results82, go_sem, r0, r1, r2]) rfl ?_
      have hown := SR.out.own
      rw [M.repT_all] at hown
      exact mz_endAt (m := M.noSet m t) SR.out.low hown (.inl hwl) (by omega) (by omega) (by omega) rfl (by simp [M.noSet])
theorem specWoCol_lw (w : World) (lo hi : Nat) (m : M.Mz) (a b : Option Addr) (c d : Nat) (h : MzIn lo hi w m a c b d) (hz : hi ≤ w.heap.size) (h1 : m.doors.length ≤ 1048576) (h2 : m.keys.length ≤ 1048576) (x : Int) (_x1 : -9223372036854775808 ≤ x) (_x2 : x ≤ 9223372036854775807) :
    Calls Try.prog 53 #[.agg #[.int .i64 m.size, .slice a m.doors.length c, .slice b m.keys.length d], .int .i64 x] w (MzOkPost w (M.woColV m x) (M.woColB m x)) := by
  have H := Lib.hid h
  clear h
  go_enter Try.func53, Try.ntmps53
  go_wp2_with fail
  refine named ?_
  intro W hW
  have hb : Below w.heap.size w W := by rw [hW]; exact (below_alloc _ _).alloc (by simp) _
  have x1 : Box3 W w.heap.size 29 (.int .i64 m.size) (.slice a m.doors.length c) (.slice b m.keys.length d) := by rw [hW]; exact (Box3.new _ _ _ _ rfl).alloc _
  have y1 : Box3 W (w.heap.size + 1) 29 (.int .i64 0) (.slice none 0 0) (.slice none 0 0) := by rw [hW]; exact Box3.new _ _ _ _ (by simp)
  clear hW
  have hzw := hb.size
  refine (specMaze_any W lo hi m a b c d (H.out.below hb hz) (by omega)).mono ?_
  rintro e W2 ⟨rfl, hb1⟩
  have X2 := Lib.hid (x1.below hb1)
  have Y2 := Lib.hid (y1.below hb1)
  have hbl := Y2.out.lt
  have HB2 := Lib.hid (hb.trans (hb1.mono hzw))
  have hz1w := hb1.size
  clear hb hb1 x1 y1
  obtain ⟨c0, c1, c2⟩ := X2.out.cells
  obtain ⟨k0, k1, k2⟩ := Y2.out.cells
  obtain ⟨f0, f1, f2⟩ := Y2.out.free
  cases q0 : M.mazeB m with
  | false =>
    have HF : Hid (M.woColB m x = false) := Lib.hid (by unfold M.woColB; rw [q0]; rfl)
    have HV := Lib.hid (M.woColV_no HF.out)
    clear q0
    go_wp2_with fail
    refine bodyPost_ret (v := .tuple #[.agg #[.int .i64 0, .slice none 0 0, .slice none 0 0], .bool false]) (by simp [results, Try.results53, go_sem, k0, k1, k2]) rfl ?_
    rw [HF.out, HV.out]
    exact mzNo_endAt HB2.out (by omega)
  | true =>
    have HM := Lib.hid q0
    have HVA := Lib.hid (M.valid_of q0)
    have HIN := Lib.hid (M.col_in x)
    clear q0
    go_wp2_with fail
    refine (l1In_any _ _ _ _).mono ?_
    rintro e w3 ⟨rfl, rfl⟩
    rw [HIN.out]
    cases q1 : M.colB x with
    | false =>
      have HF : Hid (M.woColB m x = false) := Lib.hid (by unfold M.woColB; rw [q1, Bool.and_false])
      have HV := Lib.hid (M.woColV_no HF.out)
      clear q1
      go_wp2_with fail
      refine bodyPost_ret (v := .tuple #[.agg #[.int .i64 0, .slice none 0 0, .slice none 0 0], .bool false]) (by simp [results, Try.results53, go_sem, k0, k1, k2]) rfl ?_
      rw [HF.out, HV.out]
      exact mzNo_endAt HB2.out (by omega)
    | true =>
      have HF : Hid (M.woColB m x = true) := Lib.hid (by unfold M.woColB; rw [q1, HM.out]; rfl)
      have HV := Lib.hid (M.woColV_yes HF.out)
      have hx : 0 ≤ x ∧ x < 6 := by unfold M.colB at q1; exact decide_eq_true_iff.1 q1
      clear q1
      go_wp2_with fail
      refine (l3Colour_any W2 lo hi m a b c d (H.out.below HB2.out hz) (by omega) h1 h2 HVA.out.keysLen x hx.1 hx.2).mono ?_
      rintro e w3 ⟨ca, cc, cb, cd, rfl, ho, hb3⟩
      have hz3w := hb3.size
      have Y3 := Lib.hid (Y2.out.below hb3)
      have HB3 := Lib.hid (HB2.out.trans (hb3.mono (by omega)))
      have HO := Lib.hid ho
      clear hb3 ho k0 k1 k2 f0 f1 f2
      generalize M.noSet m (M.colV x) = mv at *
      obtain ⟨k0, k1, k2⟩ := Y3.out.cells
      obtain ⟨f0, f1, f2⟩ := Y3.out.free
      obtain ⟨r0, r1, r2⟩ := (Y3.out.setAll (.int .i64 mv.size) (.slice ca mv.doors.length cc) (.slice cb mv.keys.length cd)).cells
      go_wp2_with fail
      refine bodyPost_ret (v := .tuple #[.agg #[.int .i64 mv.size, .slice ca mv.doors.length cc, .slice cb mv.keys.length cd], .bool true]) (by simp [results, Try.results53, go_sem, r0, r1, r2]) rfl ?_
      rw [HF.out, HV.out]
      exact mzYes_endAt (lo := W2.heap.size) (hi := w3.heap.size) HB3.out HO.out (.inl hbl) (by omega) (by omega) (Nat.le_refl _) rfl rfl
theorem implWoCol_lw (w : World) (lo hi : Nat) (m : M.Mz) (a b : Option Addr) (c d : Nat) (h : MzIn lo hi w m a c b d) (hz : hi ≤ w.heap.size) (h1 : m.doors.length ≤ 1048576) (h2 : m.keys.length ≤ 1048576) (x : Int) (_x1 : -9223372036854775808 ≤ x) (_x2 : x ≤ 9223372036854775807) :
    Calls Try.prog 52 #[.agg #[.int .i64 m.size, .slice a m.doors.length c, .slice b m.keys.length d], .int .i64 x] w (MzOkPost w (M.woColV m x) (M.woColB m x)) := by
  have H := Lib.hid h
  clear h
  go_enter Try.func52, Try.ntmps52
  go_wp2_with fail
  refine named ?_
  intro W hW
  have hb : Below w.heap.size w W := by rw [hW]; exact ((below_alloc _ _).alloc (by simp) _).alloc (by simp; omega) _
  have x1 : Box3 W w.heap.size 29 (.int .i64 m.size) (.slice a m.doors.length c) (.slice b m.keys.length d) := by rw [hW]; exact ((Box3.new _ _ _ _ rfl).alloc _).alloc _
  have y1 : Box3 W (w.heap.size + 1) 29 (.int .i64 0) (.slice none 0 0) (.slice none 0 0) := by rw [hW]; exact (Box3.new _ _ _ _ (by simp)).alloc _
  have l1 : RowIn (w.heap.size + 1 + 1) (w.heap.size + 1 + 1 + 1) W (some ⟨w.heap.size + 1 + 1, 0, none⟩) (M.encIs [x]) := by
    rw [hW]
    refine .inr ⟨_, 0, rfl, Nat.le_refl _, Nat.lt_succ_self _, fun i u hu => ?_⟩
    have hl := cell_one_new ((w.alloc (.cells #[.int .i64 m.size, .slice a m.doors.length c, .slice b m.keys.length d] 29)).alloc (.cells #[.int .i64 0, .slice none 0 0, .slice none 0 0] 29)) (.int .i64 x) 3 i u (by simpa [M.encIs] using hu)
    rw [World.size_alloc, World.size_alloc] at hl
    rcases i with _ | i
    · exact hl
    · simp [M.encIs] at hu
  have hsW : w.heap.size + 1 + 1 + 1 ≤ W.heap.size := by rw [hW]; simp
  clear hW
  have hzw := hb.size
  have hset := implSetOf_any W _ _ _ 1 [x] l1 (by simp)
  have e1 : M.colsB [x] = M.colB x := by unfold M.colsB; simp
  unfold SetPost at hset
  rw [e1] at hset
  refine hset.mono ?_
  rintro e w1 ⟨rfl, rfl⟩
  clear hset l1 e1
  obtain ⟨c0, c1, c2⟩ := x1.cells
  obtain ⟨t, ht⟩ : ∃ t, t = (if M.colB x then M.setI [x] else 0) := ⟨_, rfl⟩
  rw [← ht]
  have HT := Lib.hid ht
  have HB := Lib.hid hb
  have X1 := Lib.hid x1
  have Y1 := Lib.hid y1
  clear ht hb x1 y1
  go_wp2_with fail
  refine (isMaze_any W lo hi m a b c d (H.out.below HB.out hz) (by omega)).mono ?_
  rintro e W2 ⟨rfl, hb1⟩
  have X2 := Lib.hid (X1.out.below hb1)
  have Y2 := Lib.hid (Y1.out.below hb1)
  have hbl := Y2.out.lt
  have HB2 := Lib.hid (HB.out.trans (hb1.mono hzw))
  have hz1w := hb1.size
  clear hb1 c0 c1 c2
  obtain ⟨c0, c1, c2⟩ := X2.out.cells
  obtain ⟨k0, k1, k2⟩ := Y2.out.cells
  obtain ⟨f0, f1, f2⟩ := Y2.out.free
  cases q0 : M.mazeB m with
  | false =>
    have HF : Hid (M.woColB m x = false) := Lib.hid (by unfold M.woColB; rw [q0]; rfl)
    have HV := Lib.hid (M.woColV_no HF.out)
    clear q0
    go_wp2_with fail
    refine bodyPost_ret (v := .tuple #[.agg #[.int .i64 0, .slice none 0 0, .slice none 0 0], .bool false]) (by simp [results, Try.results52, go_sem, k0, k1, k2]) rfl ?_
    rw [HF.out, HV.out]
    exact mzNo_endAt HB2.out (by omega)
  | true =>
    have HM := Lib.hid q0
    have HVA := Lib.hid (M.valid_of q0)
    clear q0
    cases q1 : M.colB x with
    | false =>
      have HF : Hid (M.woColB m x = false) := Lib.hid (by unfold M.woColB; rw [q1, Bool.and_false])
      have HV := Lib.hid (M.woColV_no HF.out)
      clear q1
      go_wp2_with fail
      refine bodyPost_ret (v := .tuple #[.agg #[.int .i64 0, .slice none 0 0, .slice none 0 0], .bool false]) (by simp [results, Try.results52, go_sem, k0, k1, k2]) rfl ?_
      rw [HF.out, HV.out]
      exact mzNo_endAt HB2.out (by omega)
    | true =>
      have HF : Hid (M.woColB m x = true) := Lib.hid (by unfold M.woColB; rw [q1, HM.out]; rfl)
      have HV := Lib.hid (M.woColV_yes HF.out)
      have hx : 0 ≤ x ∧ x < 6 := by unfold M.colB at q1; exact decide_eq_true_iff.1 q1
      have ht : t = M.colV x := by rw [HT.out, q1]; exact (M.col_facts hx.1 hx.2).2.2.2
      have HT2 := Lib.hid ht
      clear q1 ht HT
      go_wp2_with fail
      refine (clone_any W2 lo hi m a b c d (H.out.below HB2.out hz) (by omega) h1 h2).mono ?_
      rintro e w3 ⟨ca, cc, cb, cd, rfl, ho, hb3⟩
      have hz3w := hb3.size
      have ho3 := HB2.out.trans (hb3.mono (by omega))
      go_wp2_with fail
      refine wp_named ?_
      intro W4 hW4
      have hb4 : Below w3.heap.size w3 W4 := by rw [hW4]; exact below_alloc _ _
      have t4 : Box3 W4 w3.heap.size 29 (.int .i64 m.size) (.slice ca m.doors.length cc) (.slice cb m.keys.length cd) := by rw [hW4]; exact Box3.new _ _ _ _ rfl
      have ST := Lib.hid (show CSt w m a b c d W2.heap.size w3.heap.size ca cb cc cd W4 (M.repT (fun s => M.lessS s t) m.keys 0) from by
        rw [M.repT_zero]
        exact ⟨(X2.out.below hb3).below hb4, (Y2.out.below hb3).below hb4, t4, ho.below hb4 (Nat.le_refl _), ho3.trans (hb4.mono ho3.size)⟩)
      have hz4 := hb4.size
      clear hW4 hb3 hb4 ho ho3 t4 c0 c1 c2 k0 k1 k2 f0 f1 f2
      go_loopw [9, 29] (fun _ i wr => ∃ (k : Nat), k ≤ m.keys.length ∧ i = .int .i64 k ∧ CSt w m a b c d W2.heap.size w3.heap.size ca cb cc cd wr (M.repT (fun s => M.lessS s t) m.keys k)) (fun _ i _ => m.keys.length - (intOf i).toNat)
      case atStart => exact ⟨0, Nat.zero_le _, rfl, ST.out⟩
      case round =>
        obtain ⟨k, hk, rfl, hst⟩ := hrel
        have SR := Lib.hid hst
        obtain ⟨o0, o1, o2⟩ := hst.out.cells
        have hol := hst.out.lt
        clear hst
        by_cases hkl' : k < m.keys.length
        · obtain ⟨g, off, hcb, hg1, hg2, hc0⟩ := SR.out.own.keys.row.at_ (k := k) (by rw [M.encIs_len]; show k < (M.repT _ m.keys k).length; rw [M.repT_len]; exact hkl')
          have cx : wr.cell? ⟨g, off + k, none⟩ = some (.int .i64 m.keys[k]) := hc0 _ _ (by show (M.encIs (M.repT _ m.keys k))[k]? = _; unfold M.encIs; rw [List.getElem?_map, M.repT_get hkl']; rfl)
          have fx : wr.frozen? ⟨g, off + k, none⟩ = false := SR.out.own.keys.free hcb (k := k) (by rw [M.encIs_len]; show k < (M.repT _ m.keys k).length; rw [M.repT_len]; exact hkl') _
          clear hc0
          subst hcb
          have hss := SR.out.set hbl hg1 hg2 (k := k) (by rw [M.repT_len]; exact hkl') (M.lessS m.keys[k] t)
          rw [show (M.repT (fun s => M.lessS s t) m.keys k).set k (M.lessS m.keys[k] t) = _ from M.repT_set (f := fun s => M.lessS s t) hkl'] at hss
          have SS := Lib.hid hss
          clear hss
          go_wp2_with fail
          go_roundw
          case rel => exact ⟨k + 1, by omega, by go_num, SS.out⟩
          case measure => simp [intOf]; omega
        · obtain rfl : k = m.keys.length := by omega
          have hyb := SR.out.res
          obtain ⟨k0, k1, k2⟩ := hyb.cells
          obtain ⟨f0, f1, f2⟩ := hyb.free
          obtain ⟨r0, r1, r2⟩ := (hyb.setAll (.int .i64 m.size) (.slice ca m.doors.length cc) (.slice cb m.keys.length cd)).cells
          have hzr := SR.out.out.lt
          go_wp2_with fail
          refine bodyPost_ret (v := .tuple #[.agg #[.int .i64 m.size, .slice ca m.doors.length cc, .slice cb m.keys.length cd], .bool true]) (by simp [results, Try.results52, go_sem, r0, r1, r2]) rfl ?_
          have hown := SR.out.own
          rw [M.repT_all] at hown
          rw [HF.out, HV.out, ← HT2.out]
          exact mzYes_endAt (m := M.noSet m t) SR.out.low hown (.inl hbl) (by omega) (by omega) (by omega) rfl (by simp [M.noSet])
end C
end Go.Proofs.Ytoiapfdlbkncaaa
namespace Go.Proofs.Ytoiapfdlbkncaaa
open Go.RowKit
namespace M
def putB (m : Mz) (x set : Int) : Bool := mzNodeB m x && setB set
def putV (m : Mz) (x set : Int) : Mz := if putB m x set then ⟨m.size, m.doors, m.keys.set x.toNat set⟩ else C.mz0
theorem putV_yes {m : Mz} {x set : Int} (h : putB m x set = true) : putV m x set = ⟨m.size, m.doors, m.keys.set x.toNat set⟩ := by unfold putV; rw [if_pos h]
theorem putV_no {m : Mz} {x set : Int} (h : putB m x set = false) : putV m x set = C.mz0 := by unfold putV; rw [h]; rfl
theorem putV_len (m : Mz) (x set : Int) : (putV m x set).doors.length ≤ 1048576 ∧ (putV m x set).keys.length ≤ 1048576 := by
  unfold putV
  split
  · rename_i h
    unfold putB mzNodeB at h
    rw [Bool.and_eq_true, Bool.and_eq_true] at h
    have V := valid_of h.1.1
    have h1 := V.few
    have h2 := V.keysLen
    have h3 := V.size12
    simp only [List.length_set]
    omega
  · simp [C.mz0]
end M
namespace C
set_option maxHeartbeats 1600000
set_option maxRecDepth 20000
theorem implPutKeys_lw (w : World) (lo hi : Nat) (m : M.Mz) (a b : Option Addr) (c d : Nat) (h : MzIn lo hi w m a c b d) (hz : hi ≤ w.heap.size) (_h1 : m.doors.length ≤ 1048576) (_h2 : m.keys.length ≤ 1048576) (x : Int) (_x1 : -9223372036854775808 ≤ x) (_x2 : x ≤ 9223372036854775807) (set : Int) (_s1 : -9223372036854775808 ≤ set) (_s2 : set ≤ 9223372036854775807) :
    Calls Try.prog 96 #[.agg #[.int .i64 m.size, .slice a m.doors.length c, .slice b m.keys.length d], .int .i64 x, .int .i64 set] w (MzOkPost w (M.putV m x set) (M.putB m x set)) := by
  have H := Lib.hid h
  clear h
  go_enter Try.func96, Try.ntmps96
  go_wp2_with fail
  refine named ?_
  intro W hW
  have hb : Below w.heap.size w W := by rw [hW]; exact (below_alloc _ _).alloc (by simp) _
  have x1 : Box3 W w.heap.size 29 (.int .i64 m.size) (.slice a m.doors.length c) (.slice b m.keys.length d) := by rw [hW]; exact (Box3.new _ _ _ _ rfl).alloc _
  have y1 : Box3 W (w.heap.size + 1) 29 (.int .i64 0) (.slice none 0 0) (.slice none 0 0) := by rw [hW]; exact Box3.new _ _ _ _ (by simp)
  clear hW
  have hzw := hb.size
  refine (isMaze_any W lo hi m a b c d (H.out.below hb hz) (by omega)).mono ?_
  rintro e w1 ⟨rfl, hb1⟩
  have X1 := Lib.hid (x1.below hb1)
  have Y1 := Lib.hid (y1.below hb1)
  have hbl := Y1.out.lt
  have HB1 := Lib.hid (hb.trans (hb1.mono hzw))
  have hz1w := hb1.size
  clear hb hb1 x1 y1
  obtain ⟨c0, c1, c2⟩ := X1.out.cells
  obtain ⟨k0, k1, k2⟩ := Y1.out.cells
  obtain ⟨f0, f1, f2⟩ := Y1.out.free
  cases q0 : M.mazeB m with
  | false =>
    have HF : Hid (M.putB m x set = false) := Lib.hid (by unfold M.putB M.mzNodeB; rw [q0]; rfl)
    have HV := Lib.hid (M.putV_no HF.out)
    clear q0
    go_wp2_with fail
    refine bodyPost_ret (v := .tuple #[.agg #[.int .i64 0, .slice none 0 0, .slice none 0 0], .bool false]) (by simp [results, Try.results96, go_sem, k0, k1, k2]) rfl ?_
    rw [HF.out, HV.out]
    exact mzNo_end HB1.out
  | true =>
    have HM := Lib.hid q0
    have HVA := Lib.hid (M.valid_of q0)
    clear q0
    go_wp2_with fail
    refine (hasNode_b m _ _ _ _ _ _).mono ?_
    rintro e W2 ⟨rfl, hb2⟩
    have X2 := Lib.hid (X1.out.below hb2)
    have Y2 := Lib.hid (Y1.out.below hb2)
    have HB2 := Lib.hid (HB1.out.trans (hb2.mono (by omega)))
    have hz2w := hb2.size
    clear hb2 c0 c1 c2 k0 k1 k2 f0 f1 f2
    obtain ⟨c0, c1, c2⟩ := X2.out.cells
    obtain ⟨k0, k1, k2⟩ := Y2.out.cells
    obtain ⟨f0, f1, f2⟩ := Y2.out.free
    cases q1 : M.nodeB m.size x with
    | false =>
      have HF : Hid (M.putB m x set = false) := Lib.hid (by unfold M.putB M.mzNodeB; rw [q1, HM.out]; rfl)
      have HV := Lib.hid (M.putV_no HF.out)
      clear q1
      go_wp2_with fail
      refine bodyPost_ret (v := .tuple #[.agg #[.int .i64 0, .slice none 0 0, .slice none 0 0], .bool false]) (by simp [results, Try.results96, go_sem, k0, k1, k2]) rfl ?_
      rw [HF.out, HV.out]
      exact mzNo_end HB2.out
    | true =>
      have Q1 : Hid (M.mzNodeB m x = true) := Lib.hid (M.mzNode_yes HM.out q1)
      have hx : 0 ≤ x ∧ x < m.size := by unfold M.nodeB at q1; exact decide_eq_true_iff.1 q1
      clear q1
      go_wp2_with fail
      refine (isSet_any _ _).mono ?_
      rintro e w3 ⟨rfl, rfl⟩
      cases q3 : M.setB set with
      | false =>
        have HF : Hid (M.putB m x set = false) := Lib.hid (by unfold M.putB; rw [q3, Q1.out]; rfl)
        have HV := Lib.hid (M.putV_no HF.out)
        clear q3
        go_wp2_with fail
        refine bodyPost_ret (v := .tuple #[.agg #[.int .i64 0, .slice none 0 0, .slice none 0 0], .bool false]) (by simp [results, Try.results96, go_sem, k0, k1, k2]) rfl ?_
        rw [HF.out, HV.out]
        exact mzNo_end HB2.out
      | true =>
        have HF : Hid (M.putB m x set = true) := Lib.hid (by unfold M.putB; rw [q3, Q1.out]; rfl)
        have HV := Lib.hid (M.putV_yes HF.out)
        have hkl := HVA.out.keysLen
        have hdl := HVA.out.few
        have hs12 := HVA.out.size12
        clear q3
        go_wp2_with fail
        refine (clone_any W2 lo hi m a b c d (H.out.below HB2.out hz) (by omega) (by omega) (by omega)).mono ?_
        rintro e w3 ⟨ca, cc, cb, cd, rfl, ho, hb3⟩
        have hz3w := hb3.size
        have X3 := Lib.hid (X2.out.below hb3)
        have Y3 := Lib.hid (Y2.out.below hb3)
        have HB3 := Lib.hid (HB2.out.trans (hb3.mono (by omega)))
        have HO := Lib.hid ho
        clear hb3 ho c0 c1 c2 k0 k1 k2 f0 f1 f2
        obtain ⟨k, rfl⟩ : ∃ k : Nat, x = (k : Int) := ⟨x.toNat, by omega⟩
        have hkk : k < m.keys.length := by omega
        obtain ⟨g, off, hcb, hg1, hg2, hc0⟩ := HO.out.keys.row.at_ (k := k) (by rw [M.encIs_len]; exact hkk)
        have cx := hc0 _ _ (M.encIs_at hkk)
        have fx : w3.frozen? ⟨g, off + k, none⟩ = false := HO.out.keys.free hcb (k := k) (by rw [M.encIs_len]; exact hkk) _
        clear hc0
        subst hcb
        obtain ⟨k0, k1, k2⟩ := Y3.out.cells
        obtain ⟨f0, f1, f2⟩ := Y3.out.free
        have hyl := Y3.out.lt
        have HE := Lib.hid (HO.out.setKey rfl k hkk set)
        have hyb := ((Y3.out.turned (Turned.setCell w3 g (off + k) (.int .i64 set) hg1 hg2) (.inl (by omega))).setAll (.int .i64 m.size) (.slice ca m.doors.length cc) (.slice (some ⟨g, off, none⟩) m.keys.length cd)).alloc (.cells #[.int .i64 m.size, .slice ca m.doors.length cc, .slice (some ⟨g, off, none⟩) m.keys.length cd] 29)
        obtain ⟨r0, r1, r2⟩ := hyb.cells
        go_wp2_with fail
        refine bodyPost_ret (v := .tuple #[.agg #[.int .i64 m.size, .slice ca m.doors.length cc, .slice (some ⟨g, off, none⟩) m.keys.length cd], .bool true]) (by simp [results, Try.results96, go_sem, r0, r1, r2]) rfl ?_
        rw [HF.out, HV.out]
        exact (mzYes_end (m := ⟨m.size, m.doors, m.keys.set k set⟩) (HB3.out.setCell (p := ⟨g, off + k, none⟩) (by show w.heap.size ≤ g; omega) _) HE.out (by omega) (by simp [World.setCell]) rfl (by simp)).more (below_alloc _ _)
end C
end Go.Proofs.Ytoiapfdlbkncaaa
namespace Go.Proofs.Ytoiapfdlbkncaaa
open Go.RowKit
namespace M
theorem putB0 (m : Mz) (x : Int) : putB m x 0 = mzNodeB m x := by unfold putB; rw [show setB 0 = true from rfl, Bool.and_true]
end M
namespace C
set_option maxHeartbeats 1600000
set_option maxRecDepth 20000
theorem l3Keys_any (w : World) (lo hi : Nat) (m : M.Mz) (a b : Option Addr) (c d : Nat) (h : MzIn lo hi w m a c b d) (hz : hi ≤ w.heap.size) (h1 : m.doors.length ≤ 1048576) (h2 : m.keys.length ≤ 1048576) (k : Nat) (hk : k < m.keys.length) :
    Calls Try.prog 90 #[.agg #[.int .i64 m.size, .slice a m.doors.length c, .slice b m.keys.length d], .int .i64 (k : Int)] w (MzPost w (M.noKeys m k)) := by
  have H := Lib.hid h
  clear h
  go_enter Try.func90, Try.ntmps90
  go_wp2_with fail
  refine named ?_
  intro W hW
  have hb : Below w.heap.size w W := by rw [hW]; exact (below_alloc _ _).alloc (by simp) _
  have y1 : Box3 W (w.heap.size + 1) 29 (.int .i64 0) (.slice none 0 0) (.slice none 0 0) := by rw [hW]; exact Box3.new _ _ _ _ (by simp)
  clear hW
  have hzw := hb.size
  refine (l2Own_any W lo hi m a b c d (H.out.below hb hz) (by omega) h1 h2).mono ?_
  rintro e w3 ⟨ca, cc, cb, cd, rfl, ho, hb3⟩
  have hz3w := hb3.size
  have Y3 := Lib.hid (y1.below hb3)
  have hyl := y1.lt
  have HB3 := Lib.hid (hb.trans (hb3.mono (by omega)))
  have HO := Lib.hid ho
  clear hb hb3 ho y1
  obtain ⟨g, off, hcb, hg1, hg2, hc0⟩ := HO.out.keys.row.at_ (k := k) (by rw [M.encIs_len]; exact hk)
  have cx0 := hc0 _ _ (M.encIs_at hk)
  have fx0 : w3.frozen? ⟨g, off + k, none⟩ = false := HO.out.keys.free hcb (k := k) (by rw [M.encIs_len]; exact hk) _
  clear hc0
  subst hcb
  have HE := Lib.hid (HO.out.setKey rfl k hk 0)
  have hyb := (Y3.out.turned (Turned.setCell w3 g (off + k) (.int .i64 0) hg1 hg2) (.inl (by omega))).alloc (.cells #[.int .i64 m.size, .slice ca m.doors.length cc, .slice (some ⟨g, off, none⟩) m.keys.length cd] 29)
  obtain ⟨k0, k1, k2⟩ := hyb.cells
  obtain ⟨f0, f1, f2⟩ := hyb.free
  obtain ⟨r0, r1, r2⟩ := (hyb.setAll (.int .i64 m.size) (.slice ca m.doors.length cc) (.slice (some ⟨g, off, none⟩) m.keys.length cd)).cells
  have hsz : (w3.setCell ⟨g, off + k, none⟩ (.int .i64 0)).heap.size = w3.heap.size := by simp [World.setCell]
  go_wp2_with fail
  refine bodyPost_ret (v := .agg #[.int .i64 m.size, .slice ca m.doors.length cc, .slice (some ⟨g, off, none⟩) m.keys.length cd]) (by simp [results, Try.results90, go_sem, r0, r1, r2]) rfl ?_
  exact mz_endAt (m := M.noKeys m k) (lo := W.heap.size) (hi := w3.heap.size) ((HB3.out.setCell (p := ⟨g, off + k, none⟩) (by show w.heap.size ≤ g; omega) _).alloc (by simp [World.setCell]; omega) _) (HE.out.below (below_alloc _ _) (by omega)) (.inl hyl) (by omega) (by omega) (by simp [World.setCell]) rfl (by simp [M.noKeys])
theorem implWoKeys_lw (w : World) (lo hi : Nat) (m : M.Mz) (a b : Option Addr) (c d : Nat) (h : MzIn lo hi w m a c b d) (hz : hi ≤ w.heap.size) (h1 : m.doors.length ≤ 1048576) (h2 : m.keys.length ≤ 1048576) (x : Int) (x1 : -9223372036854775808 ≤ x) (x2 : x ≤ 9223372036854775807) :
    Calls Try.prog 48 #[.agg #[.int .i64 m.size, .slice a m.doors.length c, .slice b m.keys.length d], .int .i64 x] w (MzOkPost w (M.putV m x 0) (M.putB m x 0)) := by
  have H := Lib.hid h
  clear h
  go_enter Try.func48, Try.ntmps48
  go_wp2_with fail
  refine named ?_
  intro W hW
  have hb : Below w.heap.size w W := by rw [hW]; exact (below_alloc _ _).alloc (by simp) _
  have y1 : Box3 W (w.heap.size + 1) 29 (.int .i64 0) (.slice none 0 0) (.slice none 0 0) := by rw [hW]; exact Box3.new _ _ _ _ (by simp)
  clear hW
  have hzw := hb.size
  refine (implPutKeys_lw W lo hi m a b c d (H.out.below hb hz) (by omega) h1 h2 x x1 x2 0 (by omega) (by omega)).mono ?_
  rintro e w3 ⟨ca, cc, cb, cd, rfl, ho, hb3⟩
  have hz3w := hb3.size
  have Y3 := Lib.hid (y1.below hb3)
  have hyl := y1.lt
  have HB3 := Lib.hid (hb.trans (hb3.mono (by omega)))
  have HO := Lib.hid ho
  clear hb hb3 ho y1
  generalize M.putV m x 0 = mv at *
  generalize M.putB m x 0 = bv at *
  obtain ⟨k0, k1, k2⟩ := Y3.out.cells
  obtain ⟨f0, f1, f2⟩ := Y3.out.free
  obtain ⟨r0, r1, r2⟩ := (Y3.out.setAll (.int .i64 mv.size) (.slice ca mv.doors.length cc) (.slice cb mv.keys.length cd)).cells
  go_wp2_with fail
  refine bodyPost_ret (v := .tuple #[.agg #[.int .i64 mv.size, .slice ca mv.doors.length cc, .slice cb mv.keys.length cd], .bool bv]) (by simp [results, Try.results48, go_sem, r0, r1, r2]) rfl ?_
  exact mzYes_endAt (lo := W.heap.size) (hi := w3.heap.size) HB3.out HO.out (.inl hyl) (by omega) (by omega) (Nat.le_refl _) rfl rfl
theorem specWoKeys_lw (w : World) (lo hi : Nat) (m : M.Mz) (a b : Option Addr) (c d : Nat) (h : MzIn lo hi w m a c b d) (hz : hi ≤ w.heap.size) (h1 : m.doors.length ≤ 1048576) (h2 : m.keys.length ≤ 1048576) (x : Int) (_x1 : -9223372036854775808 ≤ x) (_x2 : x ≤ 9223372036854775807) :
    Calls Try.prog 49 #[.agg #[.int .i64 m.size, .slice a m.doors.length c, .slice b m.keys.length d], .int .i64 x] w (MzOkPost w (M.putV m x 0) (M.putB m x 0)) := by
  have H := Lib.hid h
  have HQ := Lib.hid (M.putB0 m x)
  clear h
  go_enter Try.func49, Try.ntmps49
  go_wp2_with fail
  refine named ?_
  intro W hW
  have hb : Below w.heap.size w W := by rw [hW]; exact (below_alloc _ _).alloc (by simp) _
  have x1 : Box3 W w.heap.size 29 (.int .i64 m.size) (.slice a m.doors.length c) (.slice b m.keys.length d) := by rw [hW]; exact (Box3.new _ _ _ _ rfl).alloc _
  have y1 : Box3 W (w.heap.size + 1) 29 (.int .i64 0) (.slice none 0 0) (.slice none 0 0) := by rw [hW]; exact Box3.new _ _ _ _ (by simp)
  clear hW
  have hzw := hb.size
  refine (l2Node_any W lo hi m a b c d x (H.out.below hb hz) (by omega)).mono ?_
  rintro e W2 ⟨rfl, hb1⟩
  have X2 := Lib.hid (x1.below hb1)
  have Y2 := Lib.hid (y1.below hb1)
  have hbl := Y2.out.lt
  have hwl := y1.lt
  have HB2 := Lib.hid (hb.trans (hb1.mono hzw))
  have hz1w := hb1.size
  clear hb hb1 x1 y1
  obtain ⟨c0, c1, c2⟩ := X2.out.cells
  obtain ⟨k0, k1, k2⟩ := Y2.out.cells
  obtain ⟨f0, f1, f2⟩ := Y2.out.free
  cases q0 : M.mzNodeB m x with
  | false =>
    have HF : Hid (M.putB m x 0 = false) := Lib.hid (by rw [HQ.out, q0])
    have HV := Lib.hid (M.putV_no HF.out)
    clear q0
    go_wp2_with fail
    refine bodyPost_ret (v := .tuple #[.agg #[.int .i64 0, .slice none 0 0, .slice none 0 0], .bool false]) (by simp [results, Try.results49, go_sem, k0, k1, k2]) rfl ?_
    rw [HF.out, HV.out]
    exact mzNo_endAt HB2.out (by omega)
  | true =>
    have hmx : M.mazeB m = true ∧ M.nodeB m.size x = true := by unfold M.mzNodeB at q0; rwa [Bool.and_eq_true] at q0
    have HVA := Lib.hid (M.valid_of hmx.1)
    have hx : 0 ≤ x ∧ x < m.size := by have := hmx.2; unfold M.nodeB at this; exact decide_eq_true_iff.1 this
    have HF : Hid (M.putB m x 0 = true) := Lib.hid (by rw [HQ.out, q0])
    have HV := Lib.hid (M.putV_yes HF.out)
    have hkl := HVA.out.keysLen
    clear q0 hmx
    obtain ⟨k, rfl⟩ : ∃ k : Nat, x = (k : Int) := ⟨x.toNat, by omega⟩
    have hkk : k < m.keys.length := by omega
    go_wp2_with fail
    refine (l3Keys_any W2 lo hi m a b c d (H.out.below HB2.out hz) (by omega) h1 h2 k hkk).mono ?_
    rintro e w3 ⟨ca, cc, cb, cd, rfl, ho, hb3⟩
    have hz3w := hb3.size
    have Y3 := Lib.hid (Y2.out.below hb3)
    have HB3 := Lib.hid (HB2.out.trans (hb3.mono (by omega)))
    have HO := Lib.hid ho
    have HE : Hid (M.noKeys m k = M.putV m k 0) := Lib.hid (by rw [HV.out]; rfl)
    clear hb3 ho k0 k1 k2 f0 f1 f2
    generalize M.noKeys m k = mv at *
    obtain ⟨k0, k1, k2⟩ := Y3.out.cells
    obtain ⟨f0, f1, f2⟩ := Y3.out.free
    obtain ⟨r0, r1, r2⟩ := (Y3.out.setAll (.int .i64 mv.size) (.slice ca mv.doors.length cc) (.slice cb mv.keys.length cd)).cells
    go_wp2_with fail
    refine bodyPost_ret (v := .tuple #[.agg #[.int .i64 mv.size, .slice ca mv.doors.length cc, .slice cb mv.keys.length cd], .bool true]) (by simp [results, Try.results49, go_sem, r0, r1, r2]) rfl ?_
    rw [HF.out, ← HE.out]
    exact mzYes_endAt (lo := W2.heap.size) (hi := w3.heap.size) HB3.out HO.out (.inl hbl) (by omega) (by omega) (Nat.le_refl _) rfl rfl
end C
end Go.Proofs.Ytoiapfdlbkncaaa
