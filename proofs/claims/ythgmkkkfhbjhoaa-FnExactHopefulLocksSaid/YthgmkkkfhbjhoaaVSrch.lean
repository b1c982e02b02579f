/-
  CONTRACT of spec.l7Search: the first openings of all sets of locks behind one opening, with their sets, in memory of the call's own; what lay in memory stays. Condition: a valid maze with few locks, an opening.
  CONTRACTS of the model's FirstWin, l7Stuck, FirstStuck, IsSafe, CountStates, l7Hope and AllOpened; what lay in memory stays. No condition but that the maze reads so (the helpers: a valid maze with few locks).
-/
import Derived.Test.YthgmkkkfhbjhoaaVSpec
import Derived.Test.YthgmkkkfhbjhoaaVWord
import Derived.Test.YthgmkkkfhbjhoaaBox2
import Derived.Test.YthgmkkkfhbjhoaaOwnMaz3
import Derived.Test.YthgmkkkfhbjhoaaIntSS
import Derived.Maps.AppendAt
namespace Go.Proofs.Ythgmkkkfhbjhoaa
open Go.RowKit
namespace M
noncomputable def codesL (m : Mz) (ops : List (List Int)) : List Int := ops.map fun x => ((codeN m x : Nat) : Int)
theorem codesL_len (m : Mz) (ops : List (List Int)) : (codesL m ops).length = ops.length := by unfold codesL; simp
theorem codes_mem (m : Mz) (ops : List (List Int)) (x : List Int) : (codesL m ops).contains ((codeN m x : Nat) : Int) = ops.any fun y => codeN m y == codeN m x := by
  rw [Bool.eq_iff_iff, List.contains_iff_mem, List.any_eq_true]
  unfold codesL
  rw [List.mem_map]
  constructor
  · rintro ⟨y, hy, e⟩
    exact ⟨y, hy, by rw [beq_iff_eq]; omega⟩
  · rintro ⟨y, hy, e⟩
    rw [beq_iff_eq] at e
    exact ⟨y, hy, by rw [e]⟩
theorem addS_old {m : Mz} {ops : List (List Int)} {x : List Int} (h : (ops.any fun y => codeN m y == codeN m x) = true) : addS m ops x = ops := by unfold addS; rw [if_pos h]
theorem addS_new {m : Mz} {ops : List (List Int)} {x : List Int} (h : (ops.any fun y => codeN m y == codeN m x) = false) : addS m ops x = ops ++ [x] := by unfold addS; rw [h]; rfl
end M
namespace C
set_option maxHeartbeats 6400000
set_option maxRecDepth 40000
theorem ownsRow_one7 (w : World) (B : Nat) (e : TypeId) (u : Value) (hB : B ≤ w.heap.size) : (w.alloc (.cells #[u] e)).ownsRow B e 1 (.slice (some ⟨w.heap.size, 0, none⟩) 1 1) 1 [u] :=
  ⟨by simp, .inr ⟨w.heap.size, 1, #[u], rfl, hB, heap_alloc_new w _, Nat.le_refl _, by unfold maxLen; omega, by simp, by simp⟩⟩
theorem own_ne_box27 {w : World} {B g : Nat} {e T : TypeId} {size : Nat} {v x y : Value} {n : Nat} {xs : List Value} (h : w.ownsRow B e size v n xs) (hb : Box2 w g T x y) (hne : e ≠ T) : v.ownBlock ≠ some g := by
  rcases h.2 with ⟨rfl, _⟩ | ⟨g', cap, cur, rfl, _, hh, _⟩
  · simp [Value.ownBlock]
  · intro he
    have : g' = g := by simpa [Value.ownBlock] using he
    subst this
    unfold Box2 at hb
    rw [hh] at hb
    injection hb with hb
    injection hb with _ h2 _
    exact hne h2
/-- the cells of a row of slices -/
def cellsL (nd : Nat) (U : List Sl7) (ops : List (List Int)) : List Value := List.zipWith (slV7 nd) U ops
theorem cellsL_len {nd : Nat} {U : List Sl7} {ops : List (List Int)} (h : U.length = ops.length) : (cellsL nd U ops).length = ops.length := by unfold cellsL; rw [List.length_zipWith, h, Nat.min_self]
theorem cellsL_at {nd : Nat} {U : List Sl7} {ops : List (List Int)} {i : Nat} {u : Sl7} (hu : U[i]? = some u) (hi : i < ops.length) : (cellsL nd U ops)[i]? = some (slV7 nd u ops[i]) := by
  unfold cellsL
  rw [List.getElem?_zipWith, hu, List.getElem?_eq_getElem hi]
theorem cellsL_push {nd : Nat} {U : List Sl7} {ops : List (List Int)} (h : U.length = ops.length) (u : Sl7) (x : List Int) : cellsL nd (U ++ [u]) (ops ++ [x]) = cellsL nd U ops ++ [slV7 nd u x] := by
  unfold cellsL
  rw [List.zipWith_append h]
  rfl
/-- the blocks that the search may still write -/
def Mu7 (sb : Nat) (vo vc : Value) : Nat → Prop := fun b => b = sb ∨ vo.ownBlock = some b ∨ vc.ownBlock = some b
/-- what the search has found, in memory -/
structure Seen7 (B0 B : Nat) (w : World) (sb : Nat) (vo vc : Value) (U : List Sl7) (ops : List (List Int)) (cs : List Int) : Prop where
  box : Box2 w sb 62 vo vc
  ro : w.ownsRow B 23 1 vo ops.length (cellsL 0 U ops)
  rc : w.ownsRow B 3 1 vc cs.length (M.encIs cs)
  ls : Lists B0 w (Mu7 sb vo vc) 0 U ops
  base : B ≤ sb
/-- what a step turns -/
structure Chg7 (w w' : World) (Mu Mu' : Nat → Prop) : Prop where
  os : w'.os = w.os
  tape : w'.tape = w.tape
  output : w'.output = w.output
  size : w.heap.size ≤ w'.heap.size
  block : ∀ b, b < w.heap.size → ¬ Mu b → w'.heap[b]? = w.heap[b]?
  mu : ∀ b, b < w.heap.size → ¬ Mu b → ¬ Mu' b
section
variable {B0 B sb : Nat} {w w' : World} {vo vc : Value} {U : List Sl7} {ops : List (List Int)} {cs : List Int}
theorem Chg7.below {Mu Mu' : Nat → Prop} (h : Chg7 w w' Mu Mu') (hm : ∀ b, Mu b → B ≤ b) (hB : B ≤ w.heap.size) : Below B w w' :=
  ⟨h.os, h.tape, h.output, h.size, fun k hk => h.block k (by omega) fun e => by have := hm k e; omega⟩
theorem Seen7.below (h : Seen7 B0 B w sb vo vc U ops cs) (t : Below w.heap.size w w') : Seen7 B0 B w' sb vo vc U ops cs :=
  ⟨h.box.below t, own_below h.ro t, own_below h.rc t, h.ls.below t, h.base⟩
theorem Seen7.lt (h : Seen7 B0 B w sb vo vc U ops cs) : ∀ b, Mu7 sb vo vc b → B ≤ b ∧ b < w.heap.size := by
  rintro b (rfl | hb | hb)
  · exact ⟨h.base, h.box.lt⟩
  · exact h.ro.lt b hb
  · exact h.rc.lt b hb
theorem own_apart7 {e T : TypeId} {sz1 sz2 n1 n2 B1 B2 : Nat} {v v' : Value} {xs ys : List Value} (h : w.ownsRow B1 e sz1 v n1 xs) (h' : w.ownsRow B2 T sz2 v' n2 ys) (hne : e ≠ T) : ∀ b, v.ownBlock = some b → v'.ownBlock ≠ some b := by
  intro b hb hb'
  rcases h.2 with ⟨rfl, _⟩ | ⟨g, cap, cur, rfl, _, hh, _⟩
  · cases hb
  · rcases h'.2 with ⟨rfl, _⟩ | ⟨g', cap', cur', rfl, _, hh', _⟩
    · cases hb'
    · have e1 : g = b := by simpa [Value.ownBlock] using hb
      have e2 : g' = b := by simpa [Value.ownBlock] using hb'
      subst e1; subst e2
      rw [hh] at hh'
      injection hh' with hh'
      injection hh' with _ h2 _
      exact hne h2
theorem grown_set7 (w : World) (g i : Nat) (u : Value) : w.grownBy (w.setCell ⟨g, i, none⟩ u) (some g) :=
  ⟨rfl, rfl, rfl, by simp [World.setCell], fun k _ hne => Below.heap_setCell w ⟨g, i, none⟩ u k fun e => hne (by rw [e])⟩
theorem kept7 {e : TypeId} {sz n : Nat} {v : Value} {xs : List Value} {row : Option Nat} (h : w.ownsRow B e sz v n xs) (hg : w.grownBy w' row) (hne : ∀ b, v.ownBlock = some b → row ≠ some b) : w'.ownsRow B e sz v n xs := by
  rcases hv : v.ownBlock with _ | g
  · exact h.kept hg (.inl hv)
  · exact h.kept hg (.inr fun e => hne g hv (by rw [← e, hv]))
/-- one opening more -/
theorem Seen7.push (h : Seen7 B0 B w sb vo vc U ops cs) {o : Obj} {w8 : World} {v8 : Value} {u : Sl7} {x : List Int} (ho : w8.ownsRow B 23 1 v8 (ops.length + 1) (cellsL 0 U ops ++ [slV7 0 u x])) (hg : (w.alloc o).grownBy w8 vo.ownBlock) (ha : v8.ownBlock = vo.ownBlock ∨ v8.ownBlock = some (w.alloc o).heap.size)
    (hr : RowM B0 w (Mu7 sb vo vc) u.1 (M.encIs x)) (h1 : x.length ≤ u.2) (h2 : u.2 ≤ 9223372036854775807) (h3 : x = [] ∨ ∃ b off, u.1 = some ⟨b, off, none⟩ ∧ B0 ≤ b) :
    Seen7 B0 B (w8.setCell ⟨sb, 0, none⟩ v8) sb v8 vc (U ++ [u]) (ops ++ [x]) cs ∧ Chg7 w (w8.setCell ⟨sb, 0, none⟩ v8) (Mu7 sb vo vc) (Mu7 sb v8 vc) := by
  have hbo := own_ne_box27 h.ro h.box (by decide)
  have hbx := (h.box.alloc o).grown hg hbo
  have hs8 := hg.size
  rw [World.size_alloc] at hs8
  have hch : Chg7 w (w8.setCell ⟨sb, 0, none⟩ v8) (Mu7 sb vo vc) (Mu7 sb v8 vc) := by
    refine ⟨hg.os, hg.tape, hg.output, by simp [World.setCell]; omega, fun b hb hm => ?_, fun b hb hm => ?_⟩
    · have n1 : b ≠ sb := fun e => hm (.inl e)
      have n2 : vo.ownBlock ≠ some b := fun e => hm (.inr (.inl e))
      rw [Below.heap_setCell w8 ⟨sb, 0, none⟩ v8 b n1, hg.block b (by simp; omega) (fun e => n2 e.symm)]
      exact Below.heap_alloc w o b hb
    · rintro (e | e | e)
      · exact hm (.inl e)
      · rcases ha with ha | ha
        · rw [ha] at e; exact hm (.inr (.inl e))
        · rw [ha, World.size_alloc] at e; injection e with e; omega
      · exact hm (.inr (.inr e))
  refine ⟨⟨hbx.set0 v8, ?_, ?_, ?_, h.base⟩, hch⟩
  · rw [List.length_append, cellsL_push h.ls.len]
    exact kept7 ho (grown_set7 w8 sb 0 v8) fun b hb e => own_ne_box27 ho hbx (by decide) (by rw [e]; exact hb)
  · refine kept7 (kept7 (h.rc.alloc o) hg fun b hb => own_apart7 h.rc h.ro (by decide) b hb) (grown_set7 w8 sb 0 v8) fun b hb e => own_ne_box27 h.rc h.box (by decide) (by rw [e]; exact hb)
  · exact (h.ls.push (u := u) (x := x) (by rw [List.drop_zero]; exact hr) (by rw [List.drop_zero]; exact h1) h2 (by rw [List.drop_zero]; exact h3)).step hch.size hch.block hch.mu
/-- one code more -/
theorem Seen7.code (h : Seen7 B0 B w sb vo vc U ops cs) {o : Obj} {w8 : World} {v8 : Value} {z : Int} (ho : w8.ownsRow B 3 1 v8 (cs.length + 1) (M.encIs cs ++ [.int .i64 z])) (hg : (w.alloc o).grownBy w8 vc.ownBlock) (ha : v8.ownBlock = vc.ownBlock ∨ v8.ownBlock = some (w.alloc o).heap.size) :
    Seen7 B0 B (w8.setCell ⟨sb, 1, none⟩ v8) sb vo v8 U ops (cs ++ [z]) ∧ Chg7 w (w8.setCell ⟨sb, 1, none⟩ v8) (Mu7 sb vo vc) (Mu7 sb vo v8) := by
  have hbo := own_ne_box27 h.rc h.box (by decide)
  have hbx := (h.box.alloc o).grown hg hbo
  have hs8 := hg.size
  rw [World.size_alloc] at hs8
  have hch : Chg7 w (w8.setCell ⟨sb, 1, none⟩ v8) (Mu7 sb vo vc) (Mu7 sb vo v8) := by
    refine ⟨hg.os, hg.tape, hg.output, by simp [World.setCell]; omega, fun b hb hm => ?_, fun b hb hm => ?_⟩
    · have n1 : b ≠ sb := fun e => hm (.inl e)
      have n2 : vc.ownBlock ≠ some b := fun e => hm (.inr (.inr e))
      rw [Below.heap_setCell w8 ⟨sb, 1, none⟩ v8 b n1, hg.block b (by simp; omega) (fun e => n2 e.symm)]
      exact Below.heap_alloc w o b hb
    · rintro (e | e | e)
      · exact hm (.inl e)
      · exact hm (.inr (.inl e))
      · rcases ha with ha | ha
        · rw [ha] at e; exact hm (.inr (.inr e))
        · rw [ha, World.size_alloc] at e; injection e with e; omega
  refine ⟨⟨hbx.set1 v8, ?_, ?_, ?_, h.base⟩, hch⟩
  · refine kept7 (kept7 (h.ro.alloc o) hg fun b hb => own_apart7 h.ro h.rc (by decide) b hb) (grown_set7 w8 sb 1 v8) fun b hb e => own_ne_box27 h.ro h.box (by decide) (by rw [e]; exact hb)
  · rw [List.length_append, M.encIs_append]
    exact kept7 ho (grown_set7 w8 sb 1 v8) fun b hb e => own_ne_box27 ho hbx (by decide) (by rw [e]; exact hb)
  · exact h.ls.step hch.size hch.block hch.mu
end
theorem Lists.unbox {B : Nat} {w w' : World} {Mu : Nat → Prop} {nd : Nat} {U : List Sl7} {ops : List (List Int)} {g : Nat} {T : TypeId} {x y : Value} (h : Lists B w Mu nd U ops) (hb : Box2 w g T x y) (hT : 3 ≠ T) (hg : B ≤ g) (t : Turned g (g + 1) w w') : Lists B w' (fun _ => False) nd U ops := by
  refine ⟨h.len, fun i u l hu hl => ⟨?_, (h.row i u l hu hl).2⟩, h.own⟩
  rcases (h.row i u l hu hl).1 with h' | ⟨b, off, ha, h1, _, h3, h4⟩
  · exact .inl h'
  · have hne : b ≠ g := by
      rintro rfl
      obtain ⟨cur, hc, _⟩ := h4 hg
      unfold Box2 at hb
      rw [hb] at hc
      injection hc with hc
      injection hc with _ h2 _
      exact hT h2.symm
    have hbk := t.block b h1 (by omega)
    refine .inr ⟨b, off, ha, Nat.lt_of_lt_of_le h1 t.size, fun e => e, fun j v hv => (World.cell?_of_block (w := w) hbk).trans (h3 j v hv), fun hB => ?_⟩
    obtain ⟨cur, hc, hv⟩ := h4 hB
    exact ⟨cur, hbk.trans hc, hv⟩
/-- what comes of it -/
def Srch7Post (w : World) (m : M.Mz) (SR : List (List Int)) (e : Ending) (w' : World) : Prop :=
  ∃ (U : List Sl7) (ao : Option Addr) (co : Nat) (ac : Option Addr) (cc : Nat), e = .returned (.agg #[.slice ao SR.length co, .slice ac SR.length cc]) ∧ RowIn w.heap.size w'.heap.size w' ao (cellsL 0 U SR) ∧ RowIn w.heap.size w'.heap.size w' ac (M.encIs (M.codesL m SR)) ∧
    SR.length ≤ co ∧ co ≤ 9223372036854775807 ∧ SR.length ≤ cc ∧ cc ≤ 9223372036854775807 ∧ Lists w.heap.size w' (fun _ => False) 0 U SR ∧ Below w.heap.size w w'
theorem search7_any (w : World) (lo hi : Nat) (m : M.Mz) (a b : Option Addr) (c d : Nat) (h : MzIn lo hi w m a c b d) (hz : hi ≤ w.heap.size) (V : M.Valid m) (hf : (M.lockL m).length ≤ 10) (lo' hi' : Nat) (wa : Option Addr) (wcap : Nat) (begun : List Int) (hw : RowIn lo' hi' w wa (M.encIs begun)) (hz' : hi' ≤ w.heap.size) (hio : M.isO m begun = true) (hcap : begun.length ≤ wcap) (hcap2 : wcap ≤ 9223372036854775807) :
    Calls Try.prog 71 #[.agg #[.int .i64 m.size, .slice a m.doors.length c, .slice b m.keys.length d], .slice wa begun.length wcap] w (Srch7Post w m (M.srchL m begun)) := by
  obtain ⟨i0, hi0, hz0, hz1, hz2⟩ := info_parts infoI
  obtain ⟨j0, hj0, hjz0, hjz1, hjz2⟩ := info_parts infoII
  have H := Lib.hid h
  have HW := Lib.hid hw
  have HV := Lib.hid V
  have hbl : begun.length ≤ 10 := by have := M.isO_len V hio; omega
  have HN7 := Lib.hid (fun W' (hq : Below w.heap.size w W') lo'' hi'' ua uc x hx hxz hio' => next7_any W' lo hi m a b c d (h.below hq hz) (by have := hq.size; omega) V lo'' hi'' ua uc x hx hxz (by have := M.isO_len V (l := x) hio'; omega) hio')
  have HST := Lib.hid (M.Srch.start hio)
  have HLEN := Lib.hid (fun ops (ho : M.Srch m begun ops) => ho.len hf)
  have HIOL := Lib.hid (fun x (hx : M.isO m x = true) => show x.length ≤ 10 by have := M.isO_len V hx; omega)
  have HFI := Lib.hid (show M.srch m (1025 - 0) [begun] 0 = M.srchL m begun from rfl)
  generalize M.srchL m begun = SR at *
  clear h hw V hio
  go_enter Try.func71, Try.ntmps71
  go_upto_region 1 with fail
  refine wp_named ?_
  intro W hW
  have X1 := Lib.hid (show Box3 W w.heap.size 29 (.int .i64 m.size) (.slice a m.doors.length c) (.slice b m.keys.length d) by rw [hW]; exact (Box3.new _ _ _ _ rfl).alloc _)
  have Z1 := Lib.hid (show Box2 W (w.heap.size + 1) 62 (.slice none 0 0) (.slice none 0 0) by rw [hW]; exact Box2.new _ _ _ (by simp))
  have HB := Lib.hid (show Below w.heap.size w W by rw [hW]; exact (below_alloc _ _).alloc (by simp) _)
  clear hW
  have hzw := HB.out.size
  have hzl := Z1.out.lt
  obtain ⟨c0, c1, c2⟩ := X1.out.cells
  go_wp2_with fail
  refine (l7Locks_any W lo hi m a b c d (H.out.below HB.out hz) (by omega) HV.out).mono ?_
  rintro e w1 ⟨la, lc, rfl, hl, hl1, hl2, hb1⟩
  have X2 := Lib.hid (X1.out.below hb1)
  have Z2 := Lib.hid (Z1.out.below hb1)
  have B2 := Lib.hid (HB.out.trans (hb1.mono hzw))
  have hz1' := hb1.size
  have LR := Lib.hid hl.row
  obtain ⟨B, hB⟩ : ∃ B, B = w1.heap.size := ⟨_, rfl⟩
  have HBE := Lib.hid hB
  have hBw : w.heap.size + 2 ≤ B := by omega
  clear hb1 c0 c1 c2 hl
  go_wp2_with fail
  refine (code7_any (w1.alloc (.cells #[.slice wa begun.length wcap] 23)) W.heap.size w1.heap.size la lc (M.lockL m) (LR.out.below (below_alloc _ _) (Nat.le_refl _)) hf lo' hi' wa wcap begun (HW.out.below (B2.out.alloc (by omega) _) hz') (by omega)).mono ?_
  rintro e w2 ⟨rfl, rfl⟩
  have hcd : M.codeTo (M.lockL m) begun (M.lockL m).length = M.codeN m begun := rfl
  rw [hcd]
  clear hcd
  go_upto_region 3 with fail
  refine wp_named ?_
  intro W2 hW2
  have hb2 : Below w1.heap.size w1 W2 := by rw [hW2]; exact ((below_alloc _ _).alloc (by simp) _).alloc (by simp; omega) _
  have SN : Hid (Seen7 w.heap.size B W2 (w1.heap.size + 1 + 1) (.slice (some ⟨w1.heap.size, 0, none⟩) 1 1) (.slice (some ⟨w1.heap.size + 1, 0, none⟩) 1 1) [(wa, wcap)] [begun] (M.codesL m [begun])) := Lib.hid (by
    rw [hB, hW2]
    refine ⟨Box2.new _ _ _ (by simp), ?_, ?_, ?_, by omega⟩
    · exact ((ownsRow_one7 w1 w1.heap.size 23 _ (Nat.le_refl _)).alloc _).alloc _
    · have := (ownsRow_one7 (w1.alloc (.cells #[.slice wa begun.length wcap] 23)) w1.heap.size 3 (.int .i64 ((M.codeN m begun : Nat) : Int)) (by simp)).alloc (.cells #[.slice (some ⟨w1.heap.size, 0, none⟩) 1 1, .slice (some ⟨w1.heap.size + 1, 0, none⟩) 1 1] 62)
      simpa [M.codesL, M.encIs] using this
    · refine ⟨rfl, fun i u x hu hx => ?_, fun i u x hi hu hx => ?_⟩
      · cases i with
        | zero =>
          simp at hu hx
          subst hu; subst hx
          have hbw : Below w.heap.size w (((w1.alloc (.cells #[.slice wa begun.length wcap] 23)).alloc (.cells #[.int .i64 ((M.codeN m begun : Nat) : Int)] 3)).alloc (.cells #[.slice (some ⟨w1.heap.size, 0, none⟩) 1 1, .slice (some ⟨w1.heap.size + 1, 0, none⟩) 1 1] 62)) := ((B2.out.alloc (by omega) _).alloc (by simp; omega) _).alloc (by simp; omega) _
          refine ⟨RowM.of_row (HW.out.below hbw hz') (by simp; omega) hz' fun b' hb' => ?_, hcap, hcap2⟩
          rintro (h | h | h)
          · omega
          · injection h with h; have h2 : w1.heap.size = b' := h; omega
          · injection h with h; have h2 : w1.heap.size + 1 = b' := h; omega
        | succ i => simp at hu
      · cases i with
        | zero => omega
        | succ i => simp at hu)
  clear hW2
  obtain ⟨sb, hsb⟩ : ∃ sb, sb = w1.heap.size + 1 + 1 := ⟨_, rfl⟩
  rw [← hsb] at SN
  rw [← hsb]
  have BB0 := Lib.hid hb2
  clear hb2 hsb
  go_wp2_with fail
  go_loopw [7, 8, 9, 10, 11] (fun v7 _ _ _ _ wr => ∃ (i : Nat) (ops : List (List Int)) (U : List Sl7) (vo vc : Value), i ≤ ops.length ∧ v7 = .int .i64 (i : Int) ∧ M.Srch m begun ops ∧ M.srch m (1025 - i) ops i = SR ∧ Seen7 w.heap.size B wr sb vo vc U ops (M.codesL m ops) ∧ Below w1.heap.size w1 wr) (fun v7 _ _ _ _ _ => 1025 - (intOf v7).toNat)
  case atStart => exact ⟨0, [begun], _, _, _, by simp, rfl, HST.out, HFI.out, SN.out, BB0.out⟩
  case round =>
    obtain ⟨i, ops, U, vo, vc, hi, rfl, hs, hfi, hsn, hbb⟩ := hrel
    have hlen := HLEN.out ops hs
    have HS := Lib.hid hs
    have HF := Lib.hid hfi
    have SN1 := Lib.hid hsn
    have BB := Lib.hid hbb
    have hzr := hbb.size
    have BW := Lib.hid (B2.out.trans (hbb.mono (by omega)))
    have X3 := Lib.hid (X2.out.below hbb)
    have hxl := X2.out.lt
    have hsl := hsn.box.lt
    obtain ⟨k0, k1⟩ := hsn.box.cells
    obtain ⟨ao, co, rfl, ho1, ho2, hor⟩ := own_slice hsn.ro
    clear hs hfi hsn hbb
    by_cases hil : i < ops.length
    · obtain ⟨u, hu, hrx, hcx, hcx2⟩ := SN1.out.ls.at_ hil
      obtain ⟨ua, uc⟩ := u
      rw [List.drop_zero] at hrx hcx
      have HU := Lib.hid hu
      obtain ⟨ob, ooff, rfl, _, hob, hoc⟩ := hor.row.at_ (k := i) (by rw [cellsL_len SN1.out.ls.len]; exact hil)
      have p0 := hoc i _ (cellsL_at (nd := 0) hu hil)
      unfold slV7 at p0
      rw [List.drop_zero] at p0
      have HIX := Lib.hid (HS.out.open_ _ (List.getElem_mem hil))
      have HFS := Lib.hid (M.srch_step (m := m) hil (by omega))
      have hgd : ops.getD i [] = ops[i] := by rw [List.getD_eq_getElem?_getD, List.getElem?_eq_getElem hil]; rfl
      have HFU : Hid (M.fullS m ops i = M.roundS m ops[i] ops (M.nextO m (M.behO m ops[i]))) := Lib.hid (by unfold M.fullS; rw [hgd])
      have HGI : Hid (ops[i]? = some ops[i]) := Lib.hid (List.getElem?_eq_getElem hil)
      have hxl10 := HIOL.out _ HIX.out
      obtain ⟨x, hx⟩ : ∃ x, x = ops[i] := ⟨_, rfl⟩
      rw [← hx] at p0 hrx hcx HIX HFU HGI hxl10
      have RX := Lib.hid hrx
      obtain ⟨c0, c1, c2⟩ := X3.out.cells
      clear hoc hu hgd hx hrx hor
      go_upto_region 6 with fail
      refine wp_region_late2 (fun (wq : World) => wq.cell? ⟨w.heap.size, 0, none⟩ = some (.int .i64 m.size) ∧ wq.cell? ⟨w.heap.size, 1, none⟩ = some (.slice a m.doors.length c) ∧ wq.cell? ⟨w.heap.size, 2, none⟩ = some (.slice b m.keys.length d) ∧ wq.cell? ⟨sb, 0, none⟩ = some (.slice (some ⟨ob, ooff, none⟩) ops.length co) ∧ wq.cell? ⟨ob, ooff + i, none⟩ = some (.slice ua x.length uc)) [] 8 #[false, false, false, false, false, false, false, false] rfl rfl (by kernel_rfl) ?_
      have hS : (fun (wq : World) => wq.cell? ⟨w.heap.size, 0, none⟩ = some (.int .i64 m.size) ∧ wq.cell? ⟨w.heap.size, 1, none⟩ = some (.slice a m.doors.length c) ∧ wq.cell? ⟨w.heap.size, 2, none⟩ = some (.slice b m.keys.length d) ∧ wq.cell? ⟨sb, 0, none⟩ = some (.slice (some ⟨ob, ooff, none⟩) ops.length co) ∧ wq.cell? ⟨ob, ooff + i, none⟩ = some (.slice ua x.length uc)) wr.drew := ⟨c0, c1, c2, k0, p0⟩
      refine wpAnyL_take (i := 0) (oi := { dst := some 28, op := Go.Op.load 29 (Go.Operand.tmp 2), type := 29, pos := "l7_spent.go:149", after := #[], guard := none }) (v := ?rv0) rfl (by kernel_rfl) (by kernel_rfl) (by kernel_rfl) (by kernel_rfl) (fun _ _ _ h => h) (Or.inl ⟨by rfl, ?rh0⟩) hS ?rr0
      case rh0 => (intro wS hSw; (try dsimp only at hSw); go_split_ands; go_simp; try with_reducible rfl)
      try simp only [Act.put, List.setIfInBounds_toArray, List.set_cons_zero, List.set_cons_succ]
      refine wpAnyL_take (i := 1) (oi := { dst := some 29, op := Go.Op.fieldAddr 62 (Go.Operand.tmp 6) 0, type := 0, pos := "l7_spent.go:149", after := #[], guard := none }) (v := ?rv1) rfl (by kernel_rfl) (by kernel_rfl) (by kernel_rfl) (by kernel_rfl) (fun _ _ _ h => h) (Or.inl ⟨by rfl, ?rh1⟩) hS ?rr1
      case rh1 => (intro wS hSw; (try dsimp only at hSw); go_split_ands; go_simp; try with_reducible rfl)
      try simp only [Act.put, List.setIfInBounds_toArray, List.set_cons_zero, List.set_cons_succ]
      refine wpAnyL_take (i := 2) (oi := { dst := some 30, op := Go.Op.load 60 (Go.Operand.tmp 29), type := 60, pos := "l7_spent.go:149", after := #[{ on := 1, ground := Go.Ground.data }], guard := none }) (v := ?rv2) rfl (by kernel_rfl) (by kernel_rfl) (by kernel_rfl) (by kernel_rfl) (fun _ _ _ h => h) (Or.inl ⟨by rfl, ?rh2⟩) hS ?rr2
      case rh2 => (intro wS hSw; (try dsimp only at hSw); go_split_ands; go_simp; try with_reducible rfl)
      try simp only [Act.put, List.setIfInBounds_toArray, List.set_cons_zero, List.set_cons_succ]
      refine wpAnyL_take (i := 3) (oi := { dst := some 31, op := Go.Op.move (Go.Operand.tmp 7), type := 3, pos := "l7_spent.go:149", after := #[], guard := none }) (v := ?rv3) rfl (by kernel_rfl) (by kernel_rfl) (by kernel_rfl) (by kernel_rfl) (fun _ _ _ h => h) (Or.inl ⟨by rfl, ?rh3⟩) hS ?rr3
      case rh3 => (intro wS hSw; (try dsimp only at hSw); go_split_ands; go_simp; try with_reducible rfl)
      try simp only [Act.put, List.setIfInBounds_toArray, List.set_cons_zero, List.set_cons_succ]
      refine wpAnyL_take (i := 4) (oi := { dst := some 32, op := Go.Op.indexAddr 60 (Go.Operand.tmp 30) (Go.Operand.tmp 31), type := 0, pos := "l7_spent.go:149", after := #[{ on := 2, ground := Go.Ground.data }, { on := 3, ground := Go.Ground.data }], guard := none }) (v := ?rv4) rfl (by kernel_rfl) (by kernel_rfl) (by kernel_rfl) (by kernel_rfl) (fun _ _ _ h => h) (Or.inl ⟨by rfl, ?rh4⟩) hS ?rr4
      case rh4 => (intro wS hSw; (try dsimp only at hSw); go_split_ands; go_simp; try with_reducible rfl)
      try simp only [Act.put, List.setIfInBounds_toArray, List.set_cons_zero, List.set_cons_succ]
      refine wpAnyL_take (i := 5) (oi := { dst := some 33, op := Go.Op.load 23 (Go.Operand.tmp 32), type := 23, pos := "l7_spent.go:149", after := #[{ on := 4, ground := Go.Ground.data }], guard := none }) (v := ?rv5) rfl (by kernel_rfl) (by kernel_rfl) (by kernel_rfl) (by kernel_rfl) (fun _ _ _ h => h) (Or.inl ⟨by rfl, ?rh5⟩) hS ?rr5
      case rh5 => (intro wS hSw; (try dsimp only at hSw); go_split_ands; go_simp; try with_reducible rfl)
      try simp only [Act.put, List.setIfInBounds_toArray, List.set_cons_zero, List.set_cons_succ]
      refine wpAnyL_one (i := 6) (oi := { dst := some 34, op := Go.Op.call { callee := Go.Callee.value (Go.Operand.func 67), args := #[Go.Operand.tmp 28, Go.Operand.tmp 33], argTypes := #[29, 23] }, type := 23, pos := "l7_spent.go:149", after := #[{ on := 0, ground := Go.Ground.data }, { on := 5, ground := Go.Ground.data }], guard := none }) (by kernel_rfl) rfl (fun Kr6 hKr6 => ?_)
      refine step_call (by rfl) 67 #[.agg #[.int .i64 m.size, .slice a m.doors.length c, .slice b m.keys.length d], .slice ua x.length uc] (by go_simp; try rfl) (HN7.out wr.drew (BW.out.drew) 0 wr.drew.heap.size ua uc x RX.out.row (Nat.le_refl _) HIX.out) ?_
      rintro e w5 ⟨na, nc, rfl, hr, hr1, hr2, hb5⟩
      refine ⟨_, rfl, ?_⟩
      have hb5x : Below wr.heap.size wr w5 := (Below.refl wr.heap.size wr).drew.trans hb5
      have hs5 : (fun (wq : World) => wq.cell? ⟨w.heap.size, 0, none⟩ = some (.int .i64 m.size) ∧ wq.cell? ⟨w.heap.size, 1, none⟩ = some (.slice a m.doors.length c) ∧ wq.cell? ⟨w.heap.size, 2, none⟩ = some (.slice b m.keys.length d) ∧ wq.cell? ⟨sb, 0, none⟩ = some (.slice (some ⟨ob, ooff, none⟩) ops.length co) ∧ wq.cell? ⟨ob, ooff + i, none⟩ = some (.slice ua x.length uc)) w5 := ⟨(hb5x.cell (p := ⟨w.heap.size, 0, none⟩) (show w.heap.size < _ by omega)).trans c0, (hb5x.cell (p := ⟨w.heap.size, 1, none⟩) (show w.heap.size < _ by omega)).trans c1, (hb5x.cell (p := ⟨w.heap.size, 2, none⟩) (show w.heap.size < _ by omega)).trans c2, (hb5x.cell (p := ⟨sb, 0, none⟩) (show sb < _ by omega)).trans k0, (hb5x.cell (p := ⟨ob, ooff + i, none⟩) (show ob < _ by omega)).trans p0⟩
      refine hKr6 _ _ (fun _ => hs5) ?_
      clear hS
      have hS := hs5
      try simp only [Act.put, List.setIfInBounds_toArray, List.set_cons_zero, List.set_cons_succ]
      refine wpAnyL_take (i := 7) (oi := { dst := some 8, op := Go.Op.assign (Go.Operand.tmp 34), type := 23, pos := "l7_spent.go:149", after := #[{ on := 6, ground := Go.Ground.data }, { on := 6, ground := Go.Ground.chain }, { on := 0, ground := Go.Ground.phase }, { on := 1, ground := Go.Ground.phase }, { on := 2, ground := Go.Ground.phase }, { on := 3, ground := Go.Ground.phase }, { on := 4, ground := Go.Ground.phase }, { on := 5, ground := Go.Ground.phase }, { on := 6, ground := Go.Ground.phase }], guard := none }) (v := ?rv7) rfl (by kernel_rfl) (by kernel_rfl) (by kernel_rfl) (by kernel_rfl) (fun _ _ _ h => h) (Or.inl ⟨by rfl, ?rh7⟩) hS ?rr7
      case rh7 => (intro wS hSw; (try dsimp only at hSw); go_split_ands; go_simp; try with_reducible rfl)
      try simp only [Act.put, List.setIfInBounds_toArray, List.set_cons_zero, List.set_cons_succ]
      refine wpAnyL_done (by kernel_rfl) ?_ _
      have hnx := M.nextO_len m (M.behO m x)
      have hv30 := HV.out.few
      have SN5 := Lib.hid (SN1.out.below hb5x)
      have BB5 := Lib.hid (BB.out.trans (hb5x.mono hzr))
      have NR : Hid (RowM w.heap.size w5 (Mu7 sb (.slice (some ⟨ob, ooff, none⟩) ops.length co) vc) na (M.encIs (M.nextO m (M.behO m x)))) := Lib.hid (by
        rcases hr with hr | ⟨g, o', cur, e1, h1, h2, h3, h4⟩
        · exact .inl hr
        · refine .inr ⟨g, o', e1, h2, fun hm => ?_, fun i' u' hu' => (cell_of_row w5 g (o' + i') cur 3 (0, 0) h3).trans (h4 i' u' hu'), fun _ => ⟨cur, h3, h4⟩⟩
          have h5 := (SN1.out.lt g hm).2
          have h6 : wr.drew.heap.size ≤ g := h1
          have h7 : wr.heap.size ≤ g := h6
          omega)
      have HNM := Lib.hid (fun z (hz : z ∈ M.nextO m (M.behO m x)) => hz)
      obtain ⟨nx, hnxe⟩ : ∃ nx, nx = M.nextO m (M.behO m x) := ⟨_, rfl⟩
      rw [← hnxe] at hnx NR HFU HNM hr1
      rw [← hnxe]
      have HNX := Lib.hid hnxe
      have hz5 := hb5x.size
      have HX0 : Hid (M.roundS m x ops (nx.take 0) = ops) := Lib.hid rfl
      obtain ⟨wo, hwo⟩ : ∃ y, y = w5 := ⟨_, rfl⟩
      subst hwo
      have HOI := Lib.hid (show ∀ l : List Int, ∃ t, M.roundS m x ops l = ops ++ t from fun l => M.roundS_pre m x l ops)
      clear hr hb5 hb5x hnxe RX p0 k0 k1 c0 c1 c2 hs5 hS
      go_wp2_with fail
      go_loopw [9, 10, 11] (fun v9 _ _ wr => ∃ (j : Nat) (U : List Sl7) (vo vc : Value), j ≤ nx.length ∧ v9 = .int .i64 (j : Int) ∧ M.Srch m begun (M.roundS m x ops (nx.take j)) ∧ Seen7 w.heap.size B wr sb vo vc U (M.roundS m x ops (nx.take j)) (M.codesL m (M.roundS m x ops (nx.take j))) ∧ RowM w.heap.size wr (Mu7 sb vo vc) na (M.encIs nx) ∧ Below w1.heap.size w1 wr) (fun v9 _ _ _ => nx.length - (intOf v9).toNat)
      case atStart => exact ⟨0, U, _, vc, Nat.zero_le _, rfl, HS.out, SN5.out, NR.out, BB5.out⟩
      case round =>
        obtain ⟨j, U, vo, vc, hj, rfl, hs, hsn, hnr, hbb⟩ := hrel
        have hlen2 := HLEN.out _ hs
        have HS2 := Lib.hid hs
        have SN2 := Lib.hid hsn
        have BB2 := Lib.hid hbb
        have NR2 := Lib.hid hnr
        have hzr2 := hbb.size
        have BW2 := Lib.hid (B2.out.trans (hbb.mono (by omega)))
        have hsl2 := hsn.box.lt
        clear hs hsn hnr hbb
        by_cases hjl : j < nx.length
        · obtain ⟨ops2, hops2⟩ : ∃ o2, o2 = M.roundS m x ops (nx.take j) := ⟨_, rfl⟩
          obtain ⟨tl, htl⟩ := HOI.out (nx.take j)
          have hil2 : i < ops2.length := by rw [hops2, htl, List.length_append]; omega
          have hx2 : ops2[i] = x := by
            have h1 : ops2[i]? = some x := by rw [hops2, htl, List.getElem?_append_left hil]; exact HGI.out
            rw [List.getElem?_eq_getElem hil2] at h1
            injection h1
          have HT := Lib.hid (M.roundS_take (m := m) (cur := x) (ops := ops) hjl)
          have HKM := Lib.hid (HNM.out _ (List.getElem_mem hjl))
          have HSN := Lib.hid (fun h => HS2.out.add (cur := x) h (k := nx[j]) (by rw [← HNX.out]; exact List.getElem_mem hjl))
          rw [← hops2] at HS2 SN2 hlen2 HT HSN
          have HXM := Lib.hid (show x ∈ ops2 from hx2 ▸ List.getElem_mem hil2)
          obtain ⟨u, hu, hrx, hcx, hcx2⟩ := SN2.out.ls.at_ hil2
          obtain ⟨ua, uc⟩ := u
          rw [List.drop_zero, hx2] at hrx hcx
          obtain ⟨ao, co, rfl, ho1, ho2, hor⟩ := own_slice SN2.out.ro
          obtain ⟨ob, ooff, rfl, _, hob, hoc⟩ := hor.row.at_ (k := i) (by rw [cellsL_len SN2.out.ls.len]; exact hil2)
          have p0 := hoc i _ (cellsL_at (nd := 0) hu hil2)
          unfold slV7 at p0
          rw [List.drop_zero, hx2] at p0
          obtain ⟨nb, noff, rfl, _, hnb, hnc⟩ := NR2.out.row.at_ (k := j) (by rw [M.encIs_len]; exact hjl)
          have p1 := hnc _ _ (M.encIs_at hjl)
          obtain ⟨k, hk⟩ : ∃ k, k = nx[j] := ⟨_, rfl⟩
          rw [← hk] at p1 HT HSN
          have HKE := Lib.hid hk
          have RX2 := Lib.hid hrx
          obtain ⟨k0, k1⟩ := SN2.out.box.cells
          have HOP2 := Lib.hid hops2
          clear hoc hu hx2 hrx hor hnc hops2 htl hk
          go_upto_region 10 with fail
          go_cut [10] (fun s10 wx => ∃ v, s10 = v ∧ wx.ownsRow wr.heap.size 3 1 v (x.length + 1) (M.encIs (x ++ [k])) ∧ Below wr.heap.size wr wx)
          case first =>
            refine wp_region_late2 (fun (wq : World) => wq.cell? ⟨sb, 0, none⟩ = some (.slice (some ⟨ob, ooff, none⟩) ops2.length co) ∧ wq.cell? ⟨ob, ooff + i, none⟩ = some (.slice ua x.length uc) ∧ wq.cell? ⟨nb, noff + j, none⟩ = some (.int .i64 k)) [] 13 #[false, false, false, false, false, false, false, false, false, false, false, false, false] rfl rfl (by kernel_rfl) ?_
            have hS : (fun (wq : World) => wq.cell? ⟨sb, 0, none⟩ = some (.slice (some ⟨ob, ooff, none⟩) ops2.length co) ∧ wq.cell? ⟨ob, ooff + i, none⟩ = some (.slice ua x.length uc) ∧ wq.cell? ⟨nb, noff + j, none⟩ = some (.int .i64 k)) wr.drew := ⟨k0, p0, p1⟩
            refine wpAnyL_take (i := 0) (oi := { dst := some 41, op := Go.Op.fieldAddr 62 (Go.Operand.tmp 6) 0, type := 0, pos := "l7_spent.go:151", after := #[], guard := none }) (v := ?qv0) rfl (by kernel_rfl) (by kernel_rfl) (by kernel_rfl) (by kernel_rfl) (fun _ _ _ h => h) (Or.inl ⟨by rfl, ?qh0⟩) hS ?qr0
            case qh0 => (intro wS hSw; (try dsimp only at hSw); go_split_ands; go_simp; try with_reducible rfl)
            try simp only [Act.put, List.setIfInBounds_toArray, List.set_cons_zero, List.set_cons_succ]
            refine wpAnyL_take (i := 1) (oi := { dst := some 42, op := Go.Op.load 60 (Go.Operand.tmp 41), type := 60, pos := "l7_spent.go:151", after := #[{ on := 0, ground := Go.Ground.data }], guard := none }) (v := ?qv1) rfl (by kernel_rfl) (by kernel_rfl) (by kernel_rfl) (by kernel_rfl) (fun _ _ _ h => h) (Or.inl ⟨by rfl, ?qh1⟩) hS ?qr1
            case qh1 => (intro wS hSw; (try dsimp only at hSw); go_split_ands; go_simp; try with_reducible rfl)
            try simp only [Act.put, List.setIfInBounds_toArray, List.set_cons_zero, List.set_cons_succ]
            refine wpAnyL_take (i := 2) (oi := { dst := some 43, op := Go.Op.move (Go.Operand.tmp 7), type := 3, pos := "l7_spent.go:151", after := #[], guard := none }) (v := ?qv2) rfl (by kernel_rfl) (by kernel_rfl) (by kernel_rfl) (by kernel_rfl) (fun _ _ _ h => h) (Or.inl ⟨by rfl, ?qh2⟩) hS ?qr2
            case qh2 => (intro wS hSw; (try dsimp only at hSw); go_split_ands; go_simp; try with_reducible rfl)
            try simp only [Act.put, List.setIfInBounds_toArray, List.set_cons_zero, List.set_cons_succ]
            refine wpAnyL_take (i := 3) (oi := { dst := some 44, op := Go.Op.indexAddr 60 (Go.Operand.tmp 42) (Go.Operand.tmp 43), type := 0, pos := "l7_spent.go:151", after := #[{ on := 1, ground := Go.Ground.data }, { on := 2, ground := Go.Ground.data }], guard := none }) (v := ?qv3) rfl (by kernel_rfl) (by kernel_rfl) (by kernel_rfl) (by kernel_rfl) (fun _ _ _ h => h) (Or.inl ⟨by rfl, ?qh3⟩) hS ?qr3
            case qh3 => (intro wS hSw; (try dsimp only at hSw); go_split_ands; go_simp; try with_reducible rfl)
            try simp only [Act.put, List.setIfInBounds_toArray, List.set_cons_zero, List.set_cons_succ]
            refine wpAnyL_take (i := 4) (oi := { dst := some 45, op := Go.Op.load 23 (Go.Operand.tmp 44), type := 23, pos := "l7_spent.go:151", after := #[{ on := 3, ground := Go.Ground.data }], guard := none }) (v := ?qv4) rfl (by kernel_rfl) (by kernel_rfl) (by kernel_rfl) (by kernel_rfl) (fun _ _ _ h => h) (Or.inl ⟨by rfl, ?qh4⟩) hS ?qr4
            case qh4 => (intro wS hSw; (try dsimp only at hSw); go_split_ands; go_simp; try with_reducible rfl)
            try simp only [Act.put, List.setIfInBounds_toArray, List.set_cons_zero, List.set_cons_succ]
            refine wpAnyL_take (i := 6) (oi := { dst := some 47, op := Go.Op.move (Go.Operand.tmp 8), type := 23, pos := "l7_spent.go:151", after := #[], guard := none }) (v := ?qv6) rfl (by kernel_rfl) (by kernel_rfl) (by kernel_rfl) (by kernel_rfl) (fun _ _ _ h => h) (Or.inl ⟨by rfl, ?qh6⟩) hS ?qr6
            case qh6 => (intro wS hSw; (try dsimp only at hSw); go_split_ands; go_simp; try with_reducible rfl)
            try simp only [Act.put, List.setIfInBounds_toArray, List.set_cons_zero, List.set_cons_succ]
            refine wpAnyL_take (i := 7) (oi := { dst := some 48, op := Go.Op.move (Go.Operand.tmp 9), type := 3, pos := "l7_spent.go:151", after := #[], guard := none }) (v := ?qv7) rfl (by kernel_rfl) (by kernel_rfl) (by kernel_rfl) (by kernel_rfl) (fun _ _ _ h => h) (Or.inl ⟨by rfl, ?qh7⟩) hS ?qr7
            case qh7 => (intro wS hSw; (try dsimp only at hSw); go_split_ands; go_simp; try with_reducible rfl)
            try simp only [Act.put, List.setIfInBounds_toArray, List.set_cons_zero, List.set_cons_succ]
            refine wpAnyL_take (i := 8) (oi := { dst := some 49, op := Go.Op.indexAddr 23 (Go.Operand.tmp 47) (Go.Operand.tmp 48), type := 0, pos := "l7_spent.go:151", after := #[{ on := 6, ground := Go.Ground.data }, { on := 7, ground := Go.Ground.data }], guard := none }) (v := ?qv8) rfl (by kernel_rfl) (by kernel_rfl) (by kernel_rfl) (by kernel_rfl) (fun _ _ _ h => h) (Or.inl ⟨by rfl, ?qh8⟩) hS ?qr8
            case qh8 => (intro wS hSw; (try dsimp only at hSw); go_split_ands; go_simp; try with_reducible rfl)
            try simp only [Act.put, List.setIfInBounds_toArray, List.set_cons_zero, List.set_cons_succ]
            refine wpAnyL_take (i := 9) (oi := { dst := some 50, op := Go.Op.load 3 (Go.Operand.tmp 49), type := 3, pos := "l7_spent.go:151", after := #[{ on := 8, ground := Go.Ground.data }], guard := none }) (v := ?qv9) rfl (by kernel_rfl) (by kernel_rfl) (by kernel_rfl) (by kernel_rfl) (fun _ _ _ h => h) (Or.inl ⟨by rfl, ?qh9⟩) hS ?qr9
            case qh9 => (intro wS hSw; (try dsimp only at hSw); go_split_ands; go_simp; try with_reducible rfl)
            try simp only [Act.put, List.setIfInBounds_toArray, List.set_cons_zero, List.set_cons_succ]
            refine wpAnyL_two (i := 5) (j := 10) (oi := { dst := some 46, op := Go.Op.call { callee := Go.Callee.value (Go.Operand.func 78), args := #[Go.Operand.tmp 45], argTypes := #[23] }, type := 23, pos := "l7_spent.go:151", after := #[{ on := 4, ground := Go.Ground.data }], guard := none }) (oj := { dst := some 51, op := Go.Op.buildSlice 23 1 #[(0, Go.Operand.tmp 50)], type := 23, pos := "l7_spent.go:151", after := #[{ on := 9, ground := Go.Ground.data }], guard := none }) (by kernel_rfl) rfl rfl (fun KA hKA => ?_) (fun KA hKA => ?_)
            · refine step_call (by rfl) 78 #[.slice ua x.length uc] (by go_simp; try rfl) (l1Own_own wr.drew 0 _ ua uc x (show RowIn 0 wr.drew.heap.size wr.drew ua (M.encIs x) from RX2.out.row) (Nat.le_refl _) (by omega)) ?_
              rintro e w5 ⟨pa, pc, rfl, hp, hbw5⟩
              refine ⟨_, rfl, ?_⟩
              have hbw5x : Below wr.heap.size wr w5 := (Below.refl wr.heap.size wr).drew.trans hbw5
              have hsw5 : (fun (wq : World) => wq.cell? ⟨sb, 0, none⟩ = some (.slice (some ⟨ob, ooff, none⟩) ops2.length co) ∧ wq.cell? ⟨ob, ooff + i, none⟩ = some (.slice ua x.length uc) ∧ wq.cell? ⟨nb, noff + j, none⟩ = some (.int .i64 k)) w5 := ⟨(hbw5x.cell (p := ⟨sb, 0, none⟩) (show sb < _ by omega)).trans k0, (hbw5x.cell (p := ⟨ob, ooff + i, none⟩) (show ob < _ by omega)).trans p0, (hbw5x.cell (p := ⟨nb, noff + j, none⟩) (show nb < _ by omega)).trans p1⟩
              refine hKA _ _ (fun _ => hsw5) ?_
              clear hS
              have hS := hsw5
              try simp only [Act.put, List.setIfInBounds_toArray, List.set_cons_zero, List.set_cons_succ]
              refine wpAnyL_one (i := 10) (oi := { dst := some 51, op := Go.Op.buildSlice 23 1 #[(0, Go.Operand.tmp 50)], type := 23, pos := "l7_spent.go:151", after := #[{ on := 9, ground := Go.Ground.data }], guard := none }) (by kernel_rfl) rfl (fun KB hKB => ?_)
              go_simp
              have hb6 : Below wr.heap.size wr (w5.alloc (.cells #[.int .i64 k] 3)) := hbw5x.alloc (by have := hbw5x.size; omega) _
              have hs6 : (fun (wq : World) => wq.cell? ⟨sb, 0, none⟩ = some (.slice (some ⟨ob, ooff, none⟩) ops2.length co) ∧ wq.cell? ⟨ob, ooff + i, none⟩ = some (.slice ua x.length uc) ∧ wq.cell? ⟨nb, noff + j, none⟩ = some (.int .i64 k)) (w5.alloc (.cells #[.int .i64 k] 3)) := ⟨(hb6.cell (p := ⟨sb, 0, none⟩) (show sb < _ by omega)).trans k0, (hb6.cell (p := ⟨ob, ooff + i, none⟩) (show ob < _ by omega)).trans p0, (hb6.cell (p := ⟨nb, noff + j, none⟩) (show nb < _ by omega)).trans p1⟩
              have hsz5 := hbw5x.size
              refine hKB _ _ (fun _ => hs6) ?_
              clear hS
              have hS := hs6
              try simp only [List.setIfInBounds_toArray, List.set_cons_zero, List.set_cons_succ]
              refine wpAnyL_one (i := 11) (oi := { dst := some 52, op := Go.Op.call { callee := Go.Callee.builtin Go.Builtin.append, args := #[Go.Operand.tmp 46, Go.Operand.tmp 51], argTypes := #[23, 23] }, type := 23, pos := "l7_spent.go:151", after := #[{ on := 5, ground := Go.Ground.data }, { on := 10, ground := Go.Ground.data }, { on := 5, ground := Go.Ground.chain }], guard := none }) (by kernel_rfl) rfl (fun KC hKC => ?_)
              refine step_append_own rfl (.tmp 46) (.tmp 51) 23 rfl wr.heap.size 3 i0 (.int .i64 0) 1 8 Try.underlying23 hi0 hz0 hz1 hz2 rfl (by decide) _ _ _ ((show w5.ownsRow wr.heap.size 3 1 (.slice pa x.length pc) x.length (M.encIs x) from hp).alloc _) (by first | (simp [Act.eval]; done) | simp [Act.eval, Act.put]) ⟨w5.heap.size, 0, none⟩ 1 1 [.int .i64 k] (by first | (simp [Act.eval]; done) | simp [Act.eval, Act.put]) rfl (cell_one_new w5 _ _) (fun x hx => by simp at hx; subst hx; rfl) (by unfold maxLen; omega) (by omega) (by first | omega | (simp; omega)) ?_
              intro v7 w7 hown7 hgrow7 hnil7
              have hb7 : Below wr.heap.size wr w7 := (hb6).grown hgrow7 (by first | omega | (simp; omega)) (own_base (show w5.ownsRow wr.heap.size 3 1 (.slice pa x.length pc) x.length (M.encIs x) from hp))
              have hs7 : (fun (wq : World) => wq.cell? ⟨sb, 0, none⟩ = some (.slice (some ⟨ob, ooff, none⟩) ops2.length co) ∧ wq.cell? ⟨ob, ooff + i, none⟩ = some (.slice ua x.length uc) ∧ wq.cell? ⟨nb, noff + j, none⟩ = some (.int .i64 k)) w7 := ⟨(hb7.cell (p := ⟨sb, 0, none⟩) (show sb < _ by omega)).trans k0, (hb7.cell (p := ⟨ob, ooff + i, none⟩) (show ob < _ by omega)).trans p0, (hb7.cell (p := ⟨nb, noff + j, none⟩) (show nb < _ by omega)).trans p1⟩
              refine hKC _ _ (fun _ => hs7) ?_
              clear hS
              have hS := hs7
              try simp only [Act.put, List.setIfInBounds_toArray, List.set_cons_zero, List.set_cons_succ]
              refine wpAnyL_take (i := 12) (oi := { dst := some 10, op := Go.Op.assign (Go.Operand.tmp 52), type := 23, pos := "l7_spent.go:151", after := #[{ on := 11, ground := Go.Ground.data }, { on := 11, ground := Go.Ground.chain }, { on := 0, ground := Go.Ground.phase }, { on := 1, ground := Go.Ground.phase }, { on := 2, ground := Go.Ground.phase }, { on := 3, ground := Go.Ground.phase }, { on := 4, ground := Go.Ground.phase }, { on := 5, ground := Go.Ground.phase }, { on := 6, ground := Go.Ground.phase }, { on := 7, ground := Go.Ground.phase }, { on := 8, ground := Go.Ground.phase }, { on := 9, ground := Go.Ground.phase }, { on := 10, ground := Go.Ground.phase }, { on := 11, ground := Go.Ground.phase }], guard := none }) (v := ?eav12) rfl (by kernel_rfl) (by kernel_rfl) (by kernel_rfl) (by kernel_rfl) (fun _ _ _ h => h) (Or.inl ⟨by rfl, ?eah12⟩) hS ?ear12
              case eah12 => (intro wS hSw; (try dsimp only at hSw); go_split_ands; go_simp; try with_reducible rfl)
              try simp only [Act.put, List.setIfInBounds_toArray, List.set_cons_zero, List.set_cons_succ]
              refine wpAnyL_done (by kernel_rfl) ?_ _
              go_wp2_with fail
              go_meet
              exact ⟨_, rfl, by rw [M.encIs_append]; exact hown7, hb7⟩
            · go_simp
              have hb6 : Below wr.heap.size wr (wr.drew.alloc (.cells #[.int .i64 k] 3)) := (Below.refl wr.heap.size wr).drew.alloc (Nat.le_refl _) _
              have hs6 : (fun (wq : World) => wq.cell? ⟨sb, 0, none⟩ = some (.slice (some ⟨ob, ooff, none⟩) ops2.length co) ∧ wq.cell? ⟨ob, ooff + i, none⟩ = some (.slice ua x.length uc) ∧ wq.cell? ⟨nb, noff + j, none⟩ = some (.int .i64 k)) (wr.drew.alloc (.cells #[.int .i64 k] 3)) := ⟨(hb6.cell (p := ⟨sb, 0, none⟩) (show sb < _ by omega)).trans k0, (hb6.cell (p := ⟨ob, ooff + i, none⟩) (show ob < _ by omega)).trans p0, (hb6.cell (p := ⟨nb, noff + j, none⟩) (show nb < _ by omega)).trans p1⟩
              refine hKA _ _ (fun _ => hs6) ?_
              clear hS
              have hS := hs6
              try simp only [List.setIfInBounds_toArray, List.set_cons_zero, List.set_cons_succ]
              refine wpAnyL_one (i := 5) (oi := { dst := some 46, op := Go.Op.call { callee := Go.Callee.value (Go.Operand.func 78), args := #[Go.Operand.tmp 45], argTypes := #[23] }, type := 23, pos := "l7_spent.go:151", after := #[{ on := 4, ground := Go.Ground.data }], guard := none }) (by kernel_rfl) rfl (fun KB hKB => ?_)
              refine step_call (by rfl) 78 #[.slice ua x.length uc] (by go_simp; try rfl) (l1Own_own (wr.drew.alloc (.cells #[.int .i64 k] 3)) 0 _ ua uc x (RX2.out.row.below hb6 (Nat.le_refl _) |>.mono (Nat.le_refl _) (by simp)) (Nat.le_refl _) (by omega)) ?_
              rintro e w6 ⟨pa, pc, rfl, hp, hbw6⟩
              refine ⟨_, rfl, ?_⟩
              have hbw6x : Below wr.heap.size wr w6 := hb6.trans (hbw6.mono (by simp))
              have hsw6 : (fun (wq : World) => wq.cell? ⟨sb, 0, none⟩ = some (.slice (some ⟨ob, ooff, none⟩) ops2.length co) ∧ wq.cell? ⟨ob, ooff + i, none⟩ = some (.slice ua x.length uc) ∧ wq.cell? ⟨nb, noff + j, none⟩ = some (.int .i64 k)) w6 := ⟨(hbw6x.cell (p := ⟨sb, 0, none⟩) (show sb < _ by omega)).trans k0, (hbw6x.cell (p := ⟨ob, ooff + i, none⟩) (show ob < _ by omega)).trans p0, (hbw6x.cell (p := ⟨nb, noff + j, none⟩) (show nb < _ by omega)).trans p1⟩
              refine hKB _ _ (fun _ => hsw6) ?_
              clear hS
              have hS := hsw6
              try simp only [Act.put, List.setIfInBounds_toArray, List.set_cons_zero, List.set_cons_succ]
              have hsz6 := hbw6x.size
              have hcn : ∀ j u, ([Value.int .i64 k])[j]? = some u → w6.cell? ((⟨wr.heap.size, 0, none⟩ : Addr).add j) = some u := (fun j u hu => by have h1 := cell_one_new wr.drew (.int .i64 k) 3 j u hu; have h2 : ((⟨wr.heap.size, 0, none⟩ : Addr).add j).block = wr.heap.size := (by unfold Addr.add; split <;> rfl); exact (hbw6.cell (p := (⟨wr.heap.size, 0, none⟩ : Addr).add j) (by rw [h2]; simp)).trans h1)
              refine wpAnyL_one (i := 11) (oi := { dst := some 52, op := Go.Op.call { callee := Go.Callee.builtin Go.Builtin.append, args := #[Go.Operand.tmp 46, Go.Operand.tmp 51], argTypes := #[23, 23] }, type := 23, pos := "l7_spent.go:151", after := #[{ on := 5, ground := Go.Ground.data }, { on := 10, ground := Go.Ground.data }, { on := 5, ground := Go.Ground.chain }], guard := none }) (by kernel_rfl) rfl (fun KC hKC => ?_)
              refine step_append_own rfl (.tmp 46) (.tmp 51) 23 rfl wr.heap.size 3 i0 (.int .i64 0) 1 8 Try.underlying23 hi0 hz0 hz1 hz2 rfl (by decide) _ _ _ (own_weaken (show w6.ownsRow (wr.heap.size + 1) 3 1 (.slice pa x.length pc) x.length (M.encIs x) from by simpa using hp) (Nat.le_succ _)) (by first | (simp [Act.eval]; done) | simp [Act.eval, Act.put]) ⟨wr.heap.size, 0, none⟩ 1 1 [.int .i64 k] (by first | (simp [Act.eval]; done) | simp [Act.eval, Act.put]) rfl (hcn) (fun x hx => by simp at hx; subst hx; rfl) (by unfold maxLen; omega) (by omega) (by first | omega | (simp; omega)) ?_
              intro v7 w7 hown7 hgrow7 hnil7
              have hb7 : Below wr.heap.size wr w7 := (hbw6x).grown hgrow7 (by first | omega | (simp; omega)) (own_base (own_weaken (show w6.ownsRow (wr.heap.size + 1) 3 1 (.slice pa x.length pc) x.length (M.encIs x) from by simpa using hp) (Nat.le_succ _)))
              have hs7 : (fun (wq : World) => wq.cell? ⟨sb, 0, none⟩ = some (.slice (some ⟨ob, ooff, none⟩) ops2.length co) ∧ wq.cell? ⟨ob, ooff + i, none⟩ = some (.slice ua x.length uc) ∧ wq.cell? ⟨nb, noff + j, none⟩ = some (.int .i64 k)) w7 := ⟨(hb7.cell (p := ⟨sb, 0, none⟩) (show sb < _ by omega)).trans k0, (hb7.cell (p := ⟨ob, ooff + i, none⟩) (show ob < _ by omega)).trans p0, (hb7.cell (p := ⟨nb, noff + j, none⟩) (show nb < _ by omega)).trans p1⟩
              refine hKC _ _ (fun _ => hs7) ?_
              clear hS
              have hS := hs7
              try simp only [Act.put, List.setIfInBounds_toArray, List.set_cons_zero, List.set_cons_succ]
              refine wpAnyL_take (i := 12) (oi := { dst := some 10, op := Go.Op.assign (Go.Operand.tmp 52), type := 23, pos := "l7_spent.go:151", after := #[{ on := 11, ground := Go.Ground.data }, { on := 11, ground := Go.Ground.chain }, { on := 0, ground := Go.Ground.phase }, { on := 1, ground := Go.Ground.phase }, { on := 2, ground := Go.Ground.phase }, { on := 3, ground := Go.Ground.phase }, { on := 4, ground := Go.Ground.phase }, { on := 5, ground := Go.Ground.phase }, { on := 6, ground := Go.Ground.phase }, { on := 7, ground := Go.Ground.phase }, { on := 8, ground := Go.Ground.phase }, { on := 9, ground := Go.Ground.phase }, { on := 10, ground := Go.Ground.phase }, { on := 11, ground := Go.Ground.phase }], guard := none }) (v := ?ebv12) rfl (by kernel_rfl) (by kernel_rfl) (by kernel_rfl) (by kernel_rfl) (fun _ _ _ h => h) (Or.inl ⟨by rfl, ?ebh12⟩) hS ?ebr12
              case ebh12 => (intro wS hSw; (try dsimp only at hSw); go_split_ands; go_simp; try with_reducible rfl)
              try simp only [Act.put, List.setIfInBounds_toArray, List.set_cons_zero, List.set_cons_succ]
              refine wpAnyL_done (by kernel_rfl) ?_ _
              go_wp2_with fail
              go_meet
              exact ⟨_, rfl, by rw [M.encIs_append]; exact hown7, hb7⟩
          case rest =>
            obtain ⟨v10, rfl, hlo, hbc⟩ := hcut
            obtain ⟨ga, gc, rfl, hg1, hg2, hgr⟩ := own_slice hlo
            have LO := Lib.hid hlo
            have BC := Lib.hid hbc
            have hzc := hbc.size
            have SN3 := Lib.hid (SN2.out.below hbc)
            have BB3 := Lib.hid (BB2.out.trans (hbc.mono hzr2))
            have NR3 := Lib.hid (NR2.out.step hzc (fun b' hb' _ => hbc.block b' hb') fun _ _ h => h)
            have hlen3 : (x ++ [k]).length = x.length + 1 := by rw [List.length_append]; rfl
            clear hlo hbc p0 p1 k0 k1
            go_wp2_with fail
            have hc7 := code7_any wc W.heap.size w1.heap.size la lc (M.lockL m) (LR.out.below BB3.out (Nat.le_refl _)) hf wr.heap.size wc.heap.size ga gc (x ++ [k]) hgr.row (by rw [hlen3]; omega)
            rw [hlen3] at hc7
            refine hc7.mono ?_
            rintro e w6 ⟨rfl, rfl⟩
            clear hc7 hgr
            have HCD : Hid (M.codeTo (M.lockL m) (x ++ [k]) (M.lockL m).length = M.codeN m (x ++ [k])) := Lib.hid rfl
            rw [HCD.out]
            have hcl := M.codesL_len m ops2
            obtain ⟨ac, cc, hvc, hc1, hc2, hcr⟩ := own_slice SN3.out.rc
            subst hvc
            rw [hcl] at SN3 NR3
            obtain ⟨k0, k1⟩ := SN3.out.box.cells
            go_wp2_with fail
            have hh7 := l1Has_any wc _ _ ac cc (M.codesL m ops2) ((M.codeN m (x ++ [k]) : Nat) : Int) hcr.row (by rw [hcl]; omega)
            rw [hcl] at hh7
            refine hh7.mono ?_
            rintro e w6 ⟨rfl, rfl⟩
            have HCM := Lib.hid (show M.memB (M.codesL m ops2) ((M.codeN m (x ++ [k]) : Nat) : Int) = ops2.any (fun y => M.codeN m y == M.codeN m (x ++ [k])) from M.codes_mem m ops2 (x ++ [k]))
            rw [HCM.out]
            clear hh7 hcr hcl
            cases q1 : ops2.any (fun y => M.codeN m y == M.codeN m (x ++ [k])) with
            | true =>
              have HE := Lib.hid (M.addS_old q1)
              clear q1
              go_wp2_with fail
              go_roundw
              case rel => exact ⟨j + 1, U, _, _, by omega, by go_num, by rw [HT.out, HE.out]; exact HS2.out, by rw [HT.out, HE.out]; exact SN3.out, NR3.out, BB3.out⟩
              case measure => simp [intOf]; omega
            | false =>
              have HE := Lib.hid (M.addS_new q1)
              have HS3 := Lib.hid (HSN.out HXM.out)
              clear q1
              have hown := SN3.out.ro
              have hcn := cell_one_new wc (.slice ga (x.length + 1) gc) 23
              have HNEO := Lib.hid (own_ne_box27 SN3.out.ro SN3.out.box (by decide))
              have hgl := SN3.out.box.lt
              have hBc : B ≤ wc.heap.size := by omega
              go_upto_region 14 with (at_builtin; refine wpList_append_own_at _ rfl _ _ 60 rfl B 23 j0 (.slice none 0 0) 1 24 Try.underlying60 hj0 hjz0 hjz1 hjz2 rfl (by decide) _ _ _ rfl (hown.alloc _) ⟨wc.heap.size, 0, none⟩ 1 1 [.slice ga (x.length + 1) gc] rfl rfl hcn (fun x hx => by simp at hx; subst hx; rfl) (by unfold maxLen; omega) (by omega) (by simp; omega) ?_; intro v8 w8 hown8 hgrow8 hnil8 hat8; obtain ⟨a8, c8, hv8, _, _, _⟩ := own_slice hown8; subst hv8; have hbx8 := (SN3.out.box.alloc _).grown hgrow8 HNEO.out; obtain ⟨k0, k1⟩ := hbx8.cells; obtain ⟨f0, f1⟩ := hbx8.free)
              refine wp_named ?_
              intro W8 hW8
              have hat8' : (Value.slice a8 (ops2.length + 1) c8).ownBlock = (Value.slice (some ⟨ob, ooff, none⟩) ops2.length co).ownBlock ∨ (Value.slice a8 (ops2.length + 1) c8).ownBlock = some (wc.alloc (.cells #[.slice ga (x.length + 1) gc] 23)).heap.size := hat8
              have hnew := SN3.out.push (u := (ga, gc)) (x := x ++ [k]) (by unfold slV7; rw [List.drop_zero, hlen3]; exact hown8) hgrow8 hat8' (by
                refine RowM.of_own LO.out fun b' hb' hm => ?_
                have h1 := (LO.out.lt b' hb').1
                have h2 := (SN2.out.lt b' (by rw [M.codesL_len]; exact hm)).2
                omega) (by rw [hlen3]; exact hg1) hg2 (by
                rcases hown9 : (Value.slice ga (x.length + 1) gc).ownBlock with _ | b'
                · exfalso
                  rcases LO.out.2 with ⟨_, h0⟩ | ⟨g', cap, cur, e, _⟩
                  · omega
                  · rw [e] at hown9; simp [Value.ownBlock] at hown9
                · rcases LO.out.2 with ⟨_, h0⟩ | ⟨g', cap, cur, e, hge, _⟩
                  · omega
                  · injection e with e _ _
                    exact .inr ⟨g', 0, e, by omega⟩)
              rw [← hW8] at hnew
              have SN4 := Lib.hid hnew.1
              have CH4 := Lib.hid hnew.2
              have BB4 := Lib.hid (BB3.out.trans ((hnew.2.below (fun b' hb' => (SN3.out.lt b' hb').1) hBc).mono (by omega)))
              have NR4 := Lib.hid (NR3.out.step hnew.2.size hnew.2.block hnew.2.mu)
              have hz8 := hnew.2.size
              clear hW8 hnew hat8 hat8' hown8 hgrow8 hnil8 hbx8 k0 k1 f0 f1 hown hcn HNEO
              have hown := SN4.out.rc
              have hcl2 := M.codesL_len m ops2
              have hcn := cell_one_new W8 (.int .i64 ((M.codeN m (x ++ [k]) : Nat) : Int)) 3
              have HNEC := Lib.hid (own_ne_box27 SN4.out.rc SN4.out.box (by decide))
              obtain ⟨k0, k1⟩ := SN4.out.box.cells
              rw [hcl2] at hown
              generalize hcode : M.codeN m (x ++ [k]) = cde at *
              have HCODE := Lib.hid hcode
              clear hcode
              go_upto_region 9 with (at_builtin; refine wpList_append_own_at _ rfl _ _ 23 rfl B 3 i0 (.int .i64 0) 1 8 Try.underlying23 hi0 hz0 hz1 hz2 rfl (by decide) _ _ _ rfl (hown.alloc _) ⟨W8.heap.size, 0, none⟩ 1 1 [.int .i64 (cde : Int)] rfl rfl hcn (fun x hx => by simp at hx; subst hx; rfl) (by unfold maxLen; omega) (by omega) (by simp; omega) ?_; intro v9 w9 hown9 hgrow9 hnil9 hat9; obtain ⟨a9, c9, hv9, _, _, _⟩ := own_slice hown9; subst hv9; have hbx9 := (SN4.out.box.alloc _).grown hgrow9 HNEC.out; obtain ⟨k0, k1⟩ := hbx9.cells; obtain ⟨f0, f1⟩ := hbx9.free)
              refine wp_named ?_
              intro W9 hW9
              have hat9' : (Value.slice a9 (ops2.length + 1) c9).ownBlock = (Value.slice ac ops2.length cc).ownBlock ∨ (Value.slice a9 (ops2.length + 1) c9).ownBlock = some (W8.alloc (.cells #[.int .i64 (cde : Int)] 3)).heap.size := hat9
              have hnew := SN4.out.code (z := (cde : Int)) (by rw [hcl2]; exact hown9) hgrow9 hat9'
              rw [← hW9] at hnew
              have hcs : M.codesL m ops2 ++ [(cde : Int)] = M.codesL m (ops2 ++ [x ++ [k]]) := by unfold M.codesL; rw [List.map_append, List.map_cons, HCODE.out]; rfl
              rw [hcs] at hnew
              have SN5 := Lib.hid hnew.1
              have BB5 := Lib.hid (BB4.out.trans ((hnew.2.below (fun b' hb' => (SN4.out.lt b' hb').1) (by omega)).mono (by omega)))
              have NR5 := Lib.hid (NR4.out.step hnew.2.size hnew.2.block hnew.2.mu)
              rw [HE.out] at HS3
              clear hW9 hnew hat9 hat9' hown9 hgrow9 hnil9 hbx9 k0 k1 f0 f1 hown hcn HNEC hcs
              go_wp2_with fail
              go_roundw
              case rel => exact ⟨j + 1, U ++ [(ga, gc)], _, _, by omega, by go_num, by rw [HT.out, HE.out]; exact HS3.out, by rw [HT.out, HE.out]; exact SN5.out, NR5.out, BB5.out⟩
              case measure => simp [intOf]; omega
        · obtain rfl : j = nx.length := by omega
          have hsn := SN2.out
          have hs := HS2.out
          rw [List.take_of_length_le (Nat.le_refl _), ← HFU.out] at hsn hs
          have SN6 := Lib.hid hsn
          have HS6 := Lib.hid hs
          have hil6 : i + 1 ≤ (M.fullS m ops i).length := by have := M.fullS_len (m := m) (ops := ops) (i := i); omega
          have HF6 := Lib.hid (show M.srch m (1025 - (i + 1)) (M.fullS m ops i) (i + 1) = SR by rw [← HFS.out]; exact HF.out)
          clear hsn hs
          go_wp2_with fail
          go_roundw
          case rel => exact ⟨i + 1, M.fullS m ops i, U, _, _, hil6, by go_num, HS6.out, HF6.out, SN6.out, BB2.out⟩
          case measure => simp [intOf]; omega
    · have hie : i = ops.length := by omega
      have hse : SR = ops := by rw [← HF.out]; exact M.srch_end (by omega)
      have HSE := Lib.hid hse
      obtain ⟨ac, cc, rfl, hc1, hc2, hcr⟩ := own_slice SN1.out.rc
      have hcl := M.codesL_len m ops
      rw [hcl] at hc1 k1
      have Z3 := Lib.hid (Z2.out.below BB.out)
      obtain ⟨d0, d1⟩ := Z3.out.cells
      obtain ⟨f0, f1⟩ := Z3.out.free
      obtain ⟨r0, r1⟩ := (Z3.out.setAll (.slice ao ops.length co) (.slice ac ops.length cc)).cells
      clear hie hse
      go_wp2_with fail
      refine bodyPost_ret (v := .agg #[.slice ao ops.length co, .slice ac ops.length cc]) (by simp [results, Try.results71, go_sem, r0, r1]) rfl ?_
      have ht := Turned.set2 (w := wr) (w.heap.size + 1) (.slice ao ops.length co) (.slice ac ops.length cc)
      rw [HSE.out]
      refine ⟨U, ao, co, ac, cc, rfl, ?_, ?_, ho1, ho2, hc1, hc2, ?_, Below.thenTurned BW.out ht (by omega) (by omega)⟩
      · exact (hor.row.turned ht (Nat.le_refl _) (.inr (by omega))).mono (by omega) ht.size
      · exact (hcr.row.turned ht (Nat.le_refl _) (.inr (by omega))).mono (by omega) ht.size
      · exact SN1.out.ls.unbox Z3.out (by decide) (by omega) ht
end C
end Go.Proofs.Ythgmkkkfhbjhoaa
namespace Go.Proofs.Ythgmkkkfhbjhoaa
open Go.RowKit
namespace M
theorem all_codes (m : Mz) (ops : List (List Int)) : fstB (allB m) ops = memB (codesL m ops) ((2 ^ (lockL m).length - 1 : Nat) : Int) := by
  unfold fstB memB codesL
  rw [Bool.eq_iff_iff, List.any_eq_true, List.contains_iff_mem, List.mem_map]
  constructor
  · rintro ⟨x, hx, h⟩
    exact ⟨x, hx, by rw [(all_code m x).2 h]⟩
  · rintro ⟨x, hx, h⟩
    exact ⟨x, hx, (all_code m x).1 (by omega)⟩
end M
namespace C
set_option maxHeartbeats 6400000
set_option maxRecDepth 40000
theorem field7 (x y : Value) (W : World) : (Instr.field 62 (.agg #[x, y]) 1).run Try.prog W = .ok y W := by kernel_rfl
theorem specFw_lw (w : World) (lo hi : Nat) (m : M.Mz) (a b : Option Addr) (c d : Nat) (h : MzIn lo hi w m a c b d) (hz : hi ≤ w.heap.size) (_h1 : m.doors.length ≤ 1048576) (_h2 : m.keys.length ≤ 1048576) :
    Calls Try.prog 36 #[.agg #[.int .i64 m.size, .slice a m.doors.length c, .slice b m.keys.length d]] w (IntsOkPost w (M.fwV m) (M.fwB m)) := by
  have H := Lib.hid h
  clear h
  go_enter Try.func36, Try.ntmps36
  go_upto_region 1 with fail
  refine wp_named ?_
  intro W hW
  have X1 := Lib.hid (show Box3 W w.heap.size 29 (.int .i64 m.size) (.slice a m.doors.length c) (.slice b m.keys.length d) by rw [hW]; exact Box3.new _ _ _ _ rfl)
  have HB := Lib.hid (show Below w.heap.size w W by rw [hW]; exact below_alloc _ _)
  clear hW
  have hzw := HB.out.size
  have hxl := X1.out.lt
  obtain ⟨c0, c1, c2⟩ := X1.out.cells
  go_wp2_with fail
  refine (l7Good_any W lo hi m a b c d (H.out.below HB.out hz) (by omega)).mono ?_
  rintro e w1 ⟨rfl, hb1⟩
  have X2 := Lib.hid (X1.out.below hb1)
  have B2 := Lib.hid (HB.out.trans (hb1.mono hzw))
  have hz1 := hb1.size
  clear hb1 c0 c1 c2
  cases q0 : M.goodB m with
  | false =>
    have HG := Lib.hid q0
    clear q0
    go_wp2_with fail
    go_ret2
    rw [show M.fwV m = [] by unfold M.fwV; rw [HG.out]; rfl, show M.fwB m = false by unfold M.fwB; rw [HG.out]; rfl]
    exact intsOk_end (l := []) (ownsRow_empty _ _ _ _ (by omega)) (B2.out.alloc (by omega) _)
  | true =>
    have HG := Lib.hid q0
    have HV := Lib.hid (M.valid_of (M.good_maze q0))
    have hf := M.good_few q0
    obtain ⟨c0, c1, c2⟩ := X2.out.cells
    clear q0
    go_wp2_with fail
    refine (search7_any (w1.alloc (.cells #[] 3)) lo hi m a b c d (H.out.below (B2.out.alloc (by omega) _) hz) (by simp; omega) HV.out hf 0 0 (some ⟨w1.heap.size, 0, none⟩) 0 [] (.inl rfl) (Nat.zero_le _) rfl (Nat.le_refl _) (by omega)).mono ?_
    rintro e w3 ⟨U, ao, co, ac, cc, rfl, hro, hrc, ho1, ho2, hc1, hc2, hls, hb3⟩
    have hsz3 := hb3.size
    simp only [World.size_alloc] at hsz3 hro hrc
    have HRO := Lib.hid hro
    have HLS := Lib.hid hls
    have B3 := Lib.hid ((B2.out.alloc (by omega) _).trans (hb3.mono (by simp; omega)))
    have X3 := Lib.hid ((X2.out.alloc _).below hb3)
    have HSO := Lib.hid (M.srchL_ok hf (begun := []) rfl)
    have hlen := HSO.out.len hf
    have HRC := Lib.hid hrc
    clear hb3 hro hls c0 c1 c2 hrc
    go_upto_region 4 with fail
    refine wp_named ?_
    intro W4 hW4
    have hb4 : Below w3.heap.size w3 W4 := by rw [hW4]; exact below_alloc _ _
    have Q4 := Lib.hid (show Box2 W4 w3.heap.size 62 (.slice ao (M.srchL m []).length co) (.slice ac (M.srchL m []).length cc) by rw [hW4]; exact Box2.new _ _ _ rfl)
    clear hW4
    have X4 := Lib.hid (X3.out.below hb4)
    have B4 := Lib.hid (B3.out.trans (hb4.mono (by omega)))
    have L4 := Lib.hid (HLS.out.below hb4)
    have R4 := Lib.hid (HRO.out.below hb4 (Nat.le_refl _))
    have hz4 := hb4.size
    obtain ⟨sb, hsb⟩ : ∃ sb, sb = w3.heap.size := ⟨_, rfl⟩
    rw [← hsb] at Q4 hz4 R4
    rw [← hsb]
    have hsl := Q4.out.lt
    have hsw : w.heap.size < sb := by omega
    clear hb4 hsb HRC
    obtain ⟨SR, hSR⟩ : ∃ SR, SR = M.srchL m [] := ⟨_, rfl⟩
    have HSR := Lib.hid hSR.symm
    have HS0 := Lib.hid (show SR[0]? = some [] by rw [hSR]; exact M.srchL_first m [])
    rw [← hSR] at Q4 L4 R4 HSO hlen ho1 hc1
    rw [← hSR]
    clear hSR HLS HRO
    go_wp2_with fail
    go_loopw [5] (fun v wr => ∃ (i : Nat), i ≤ SR.length ∧ v = .int .i64 (i : Int) ∧ (∀ j (hj : j < SR.length), j < i → M.winsB m SR[j] = false) ∧ Below W4.heap.size W4 wr) (fun v _ => SR.length - (intOf v).toNat)
    case atStart => exact ⟨0, Nat.zero_le _, rfl, fun j _ h => by omega, Below.refl _ _⟩
    case round =>
      obtain ⟨i, hii, rfl, hall, hbb⟩ := hrel
      have HA := Lib.hid hall
      have BB := Lib.hid hbb
      have hzr := hbb.size
      have X5 := Lib.hid (X4.out.below hbb)
      have Q5 := Lib.hid (Q4.out.below hbb)
      have L5 := Lib.hid (L4.out.below hbb)
      have BW := Lib.hid (B4.out.trans (hbb.mono (by omega)))
      obtain ⟨c0, c1, c2⟩ := X5.out.cells
      obtain ⟨k0, k1⟩ := Q5.out.cells
      clear hall hbb
      by_cases hil : i < SR.length
      · obtain ⟨u, hu, hrx, hcx, hcx2⟩ := L5.out.at_ hil
        obtain ⟨ua, uc⟩ := u
        rw [List.drop_zero] at hrx hcx
        obtain ⟨ob, ooff, rfl, _, hob, hoc⟩ := (R4.out.below BB.out (by omega)).at_ (k := i) (by rw [cellsL_len L5.out.len]; exact hil)
        have p0 := hoc i _ (cellsL_at (nd := 0) hu hil)
        unfold slV7 at p0
        rw [List.drop_zero] at p0
        have HIX := Lib.hid (HSO.out.open_ _ (List.getElem_mem hil))
        have hx10 : SR[i].length ≤ 10 := by have := M.isO_len HV.out HIX.out; omega
        have HU := Lib.hid hu
        have HNXT := Lib.hid (fun (hq : M.winsB m SR[i] = false) => show ∀ j (hj : j < SR.length), j < i + 1 → M.winsB m SR[j] = false from fun j hj hji => by
          rcases Nat.lt_or_ge j i with h | h
          · exact HA.out j hj h
          · obtain rfl : j = i := by omega
            exact hq)
        have HFD := Lib.hid (fun (hq : M.winsB m SR[i] = true) => M.fst_yes hil HA.out hq)
        have HGV := Lib.hid (fun h0 => L5.out.give hil hu h0)
        have HIZ := Lib.hid (show 0 < i ∨ SR[i].drop 0 = [] ∨ True from .inr (.inr trivial))
        have hobw : ob < wr.heap.size := by omega
        rw [List.drop_zero] at HGV
        obtain ⟨x, hx⟩ : ∃ x, x = SR[i] := ⟨_, rfl⟩
        have HXE := Lib.hid hx
        rw [← hx] at p0 hrx hcx HIX hx10 HFD HNXT HGV
        have RX := Lib.hid hrx
        clear hoc hu hrx hx HIZ
        go_upto_region 7 with fail
        refine wp_region_late2 (fun (wq : World) => wq.cell? ⟨w.heap.size, 0, none⟩ = some (.int .i64 m.size) ∧ wq.cell? ⟨w.heap.size, 1, none⟩ = some (.slice a m.doors.length c) ∧ wq.cell? ⟨w.heap.size, 2, none⟩ = some (.slice b m.keys.length d) ∧ wq.cell? ⟨sb, 0, none⟩ = some (.slice (some ⟨ob, ooff, none⟩) SR.length co) ∧ wq.cell? ⟨ob, ooff + i, none⟩ = some (.slice ua x.length uc)) [] 7 #[false, false, false, false, false, false, false] rfl rfl (by kernel_rfl) ?_
        have hS : (fun (wq : World) => wq.cell? ⟨w.heap.size, 0, none⟩ = some (.int .i64 m.size) ∧ wq.cell? ⟨w.heap.size, 1, none⟩ = some (.slice a m.doors.length c) ∧ wq.cell? ⟨w.heap.size, 2, none⟩ = some (.slice b m.keys.length d) ∧ wq.cell? ⟨sb, 0, none⟩ = some (.slice (some ⟨ob, ooff, none⟩) SR.length co) ∧ wq.cell? ⟨ob, ooff + i, none⟩ = some (.slice ua x.length uc)) wr.drew := ⟨c0, c1, c2, k0, p0⟩
        refine wpAnyL_take (i := 0) (oi := { dst := some 20, op := Go.Op.load 29 (Go.Operand.tmp 1), type := 29, pos := "l7_spent.go:167", after := #[], guard := none }) (v := ?fv0) rfl (by kernel_rfl) (by kernel_rfl) (by kernel_rfl) (by kernel_rfl) (fun _ _ _ h => h) (Or.inl ⟨by rfl, ?fh0⟩) hS ?fr0
        case fh0 => (intro wS hSw; (try dsimp only at hSw); go_split_ands; go_simp; try with_reducible rfl)
        try simp only [Act.put, List.setIfInBounds_toArray, List.set_cons_zero, List.set_cons_succ]
        refine wpAnyL_take (i := 1) (oi := { dst := some 21, op := Go.Op.fieldAddr 62 (Go.Operand.tmp 4) 0, type := 0, pos := "l7_spent.go:167", after := #[], guard := none }) (v := ?fv1) rfl (by kernel_rfl) (by kernel_rfl) (by kernel_rfl) (by kernel_rfl) (fun _ _ _ h => h) (Or.inl ⟨by rfl, ?fh1⟩) hS ?fr1
        case fh1 => (intro wS hSw; (try dsimp only at hSw); go_split_ands; go_simp; try with_reducible rfl)
        try simp only [Act.put, List.setIfInBounds_toArray, List.set_cons_zero, List.set_cons_succ]
        refine wpAnyL_take (i := 2) (oi := { dst := some 22, op := Go.Op.load 60 (Go.Operand.tmp 21), type := 60, pos := "l7_spent.go:167", after := #[{ on := 1, ground := Go.Ground.data }], guard := none }) (v := ?fv2) rfl (by kernel_rfl) (by kernel_rfl) (by kernel_rfl) (by kernel_rfl) (fun _ _ _ h => h) (Or.inl ⟨by rfl, ?fh2⟩) hS ?fr2
        case fh2 => (intro wS hSw; (try dsimp only at hSw); go_split_ands; go_simp; try with_reducible rfl)
        try simp only [Act.put, List.setIfInBounds_toArray, List.set_cons_zero, List.set_cons_succ]
        refine wpAnyL_take (i := 3) (oi := { dst := some 23, op := Go.Op.move (Go.Operand.tmp 5), type := 3, pos := "l7_spent.go:167", after := #[], guard := none }) (v := ?fv3) rfl (by kernel_rfl) (by kernel_rfl) (by kernel_rfl) (by kernel_rfl) (fun _ _ _ h => h) (Or.inl ⟨by rfl, ?fh3⟩) hS ?fr3
        case fh3 => (intro wS hSw; (try dsimp only at hSw); go_split_ands; go_simp; try with_reducible rfl)
        try simp only [Act.put, List.setIfInBounds_toArray, List.set_cons_zero, List.set_cons_succ]
        refine wpAnyL_take (i := 4) (oi := { dst := some 24, op := Go.Op.indexAddr 60 (Go.Operand.tmp 22) (Go.Operand.tmp 23), type := 0, pos := "l7_spent.go:167", after := #[{ on := 2, ground := Go.Ground.data }, { on := 3, ground := Go.Ground.data }], guard := none }) (v := ?fv4) rfl (by kernel_rfl) (by kernel_rfl) (by kernel_rfl) (by kernel_rfl) (fun _ _ _ h => h) (Or.inl ⟨by rfl, ?fh4⟩) hS ?fr4
        case fh4 => (intro wS hSw; (try dsimp only at hSw); go_split_ands; go_simp; try with_reducible rfl)
        try simp only [Act.put, List.setIfInBounds_toArray, List.set_cons_zero, List.set_cons_succ]
        refine wpAnyL_take (i := 5) (oi := { dst := some 25, op := Go.Op.load 23 (Go.Operand.tmp 24), type := 23, pos := "l7_spent.go:167", after := #[{ on := 4, ground := Go.Ground.data }], guard := none }) (v := ?fv5) rfl (by kernel_rfl) (by kernel_rfl) (by kernel_rfl) (by kernel_rfl) (fun _ _ _ h => h) (Or.inl ⟨by rfl, ?fh5⟩) hS ?fr5
        case fh5 => (intro wS hSw; (try dsimp only at hSw); go_split_ands; go_simp; try with_reducible rfl)
        try simp only [Act.put, List.setIfInBounds_toArray, List.set_cons_zero, List.set_cons_succ]
        refine wpAnyL_one (i := 6) (oi := { dst := some 26, op := Go.Op.call { callee := Go.Callee.value (Go.Operand.func 69), args := #[Go.Operand.tmp 20, Go.Operand.tmp 25], argTypes := #[29, 23] }, type := 4, pos := "l7_spent.go:167", after := #[{ on := 0, ground := Go.Ground.data }, { on := 5, ground := Go.Ground.data }], guard := none }) (by kernel_rfl) rfl (fun Kf6 hKf6 => ?_)
        refine step_call (by rfl) 69 #[.agg #[.int .i64 m.size, .slice a m.doors.length c, .slice b m.keys.length d], .slice ua x.length uc] (by go_simp; try rfl) (wins7_any wr.drew lo hi m a b c d (H.out.below (BW.out.drew) hz) (by show hi ≤ wr.heap.size; omega) HV.out 0 wr.drew.heap.size ua uc x RX.out.row (Nat.le_refl _) (by omega) hcx) ?_
        rintro e w5 ⟨rfl, hb5⟩
        refine ⟨_, rfl, ?_⟩
        have hbw5x : Below wr.heap.size wr w5 := (Below.refl wr.heap.size wr).drew.trans hb5
        have hzw5 := hbw5x.size
        have hsw5 : (fun (wq : World) => wq.cell? ⟨w.heap.size, 0, none⟩ = some (.int .i64 m.size) ∧ wq.cell? ⟨w.heap.size, 1, none⟩ = some (.slice a m.doors.length c) ∧ wq.cell? ⟨w.heap.size, 2, none⟩ = some (.slice b m.keys.length d) ∧ wq.cell? ⟨sb, 0, none⟩ = some (.slice (some ⟨ob, ooff, none⟩) SR.length co) ∧ wq.cell? ⟨ob, ooff + i, none⟩ = some (.slice ua x.length uc)) w5 := ⟨(hbw5x.cell (p := ⟨w.heap.size, 0, none⟩) (show w.heap.size < _ by omega)).trans c0, (hbw5x.cell (p := ⟨w.heap.size, 1, none⟩) (show w.heap.size < _ by omega)).trans c1, (hbw5x.cell (p := ⟨w.heap.size, 2, none⟩) (show w.heap.size < _ by omega)).trans c2, (hbw5x.cell (p := ⟨sb, 0, none⟩) (show sb < _ by omega)).trans k0, (hbw5x.cell (p := ⟨ob, ooff + i, none⟩) (show ob < _ by omega)).trans p0⟩
        refine hKf6 _ _ (fun _ => hsw5) ?_
        clear hS
        have hS := hsw5
        try simp only [Act.put, List.setIfInBounds_toArray, List.set_cons_zero, List.set_cons_succ]
        refine wpAnyL_done (by kernel_rfl) ?_ _
        cases q1 : M.winsB m x with
        | false =>
          have HQ := Lib.hid q1
          clear q1
          go_wp2_with fail
          go_roundw
          case rel => exact ⟨i + 1, by omega, by go_num, HNXT.out HQ.out, BB.out.trans (hbw5x.mono hzr)⟩
          case measure => simp [intOf]; omega
        | true =>
          have HF2 := Lib.hid (HFD.out q1)
          have HL6 := Lib.hid (HGV.out (by
            rcases Nat.eq_zero_or_pos i with h0 | h0
            · right
              have h1 := HS0.out
              subst h0
              rw [HXE.out]
              rw [List.getElem?_eq_getElem hil] at h1
              injection h1
            · exact .inl h0))
          have BE := Lib.hid (BW.out.trans (hbw5x.mono (by omega)))
          obtain ⟨c0, c1, c2, k0, p0⟩ := hsw5
          clear q1 hS
          go_wp2_with fail
          go_ret2
          rw [show M.fwV m = x by unfold M.fwV; rw [if_pos HG.out, HSR.out, HF2.out.1, HXE.out], show M.fwB m = true by unfold M.fwB; rw [HG.out, HSR.out, HF2.out.2]; rfl]
          exact ⟨ua, uc, rfl, (HL6.out.below hbw5x (Nat.le_refl _)).mono (by first | omega | (simp; omega)) hzw5, hcx, hcx2, BE.out⟩
      · have hie : i = SR.length := by omega
        have HNF := Lib.hid (M.fst_no (p := M.winsB m) (L := SR) fun j hj => HA.out j hj (by omega))
        clear hie
        go_wp2_with fail
        go_ret2
        rw [show M.fwV m = [] by unfold M.fwV; rw [if_pos HG.out, HSR.out, HNF.out.1], show M.fwB m = false by unfold M.fwB; rw [HG.out, HSR.out, HNF.out.2]; rfl]
        exact intsOk_end (l := []) (ownsRow_empty _ _ _ _ (by omega)) (BW.out.alloc (by omega) _)
theorem stuck7_any (w : World) (lo hi : Nat) (m : M.Mz) (a b : Option Addr) (c d : Nat) (h : MzIn lo hi w m a c b d) (hz : hi ≤ w.heap.size) (V : M.Valid m) (hf : (M.lockL m).length ≤ 10) :
    Calls Try.prog 73 #[.agg #[.int .i64 m.size, .slice a m.doors.length c, .slice b m.keys.length d]] w (IntsOkPost w (M.fstV (M.stuckB m) (M.srchL m [])) (M.fstB (M.stuckB m) (M.srchL m []))) := by
  have HV := Lib.hid V
  clear V
  have H := Lib.hid h
  clear h
  go_enter Try.func73, Try.ntmps73
  go_upto_region 1 with fail
  refine wp_named ?_
  intro W hW
  have X1 := Lib.hid (show Box3 W w.heap.size 29 (.int .i64 m.size) (.slice a m.doors.length c) (.slice b m.keys.length d) by rw [hW]; exact Box3.new _ _ _ _ rfl)
  have HB := Lib.hid (show Below w.heap.size w W by rw [hW]; exact below_alloc _ _)
  clear hW
  have hzw := HB.out.size
  have hxl := X1.out.lt
  obtain ⟨c0, c1, c2⟩ := X1.out.cells
  have X2 := X1
  have B2 := HB
  have hz1 := hzw
  go_wp2_with fail
  refine (search7_any (W.alloc (.cells #[] 3)) lo hi m a b c d (H.out.below (B2.out.alloc (by omega) _) hz) (by simp; omega) HV.out hf 0 0 (some ⟨W.heap.size, 0, none⟩) 0 [] (.inl rfl) (Nat.zero_le _) rfl (Nat.le_refl _) (by omega)).mono ?_
  rintro e w3 ⟨U, ao, co, ac, cc, rfl, hro, hrc, ho1, ho2, hc1, hc2, hls, hb3⟩
  have hsz3 := hb3.size
  simp only [World.size_alloc] at hsz3 hro hrc
  have HRO := Lib.hid hro
  have HLS := Lib.hid hls
  have B3 := Lib.hid ((B2.out.alloc (by omega) _).trans (hb3.mono (by simp; omega)))
  have X3 := Lib.hid ((X2.out.alloc _).below hb3)
  have HSO := Lib.hid (M.srchL_ok hf (begun := []) rfl)
  have hlen := HSO.out.len hf
  have HRC := Lib.hid hrc
  clear hb3 hro hls c0 c1 c2 hrc
  go_upto_region 2 with fail
  refine wp_named ?_
  intro W4 hW4
  have hb4 : Below w3.heap.size w3 W4 := by rw [hW4]; exact below_alloc _ _
  have Q4 := Lib.hid (show Box2 W4 w3.heap.size 62 (.slice ao (M.srchL m []).length co) (.slice ac (M.srchL m []).length cc) by rw [hW4]; exact Box2.new _ _ _ rfl)
  clear hW4
  have X4 := Lib.hid (X3.out.below hb4)
  have B4 := Lib.hid (B3.out.trans (hb4.mono (by omega)))
  have L4 := Lib.hid (HLS.out.below hb4)
  have R4 := Lib.hid (HRO.out.below hb4 (Nat.le_refl _))
  have hz4 := hb4.size
  obtain ⟨sb, hsb⟩ : ∃ sb, sb = w3.heap.size := ⟨_, rfl⟩
  rw [← hsb] at Q4 hz4 R4
  rw [← hsb]
  have hsl := Q4.out.lt
  have hsw : w.heap.size < sb := by omega
  clear hb4 hsb HRC
  obtain ⟨SR, hSR⟩ : ∃ SR, SR = M.srchL m [] := ⟨_, rfl⟩
  have HSR := Lib.hid hSR.symm
  have HS0 := Lib.hid (show SR[0]? = some [] by rw [hSR]; exact M.srchL_first m [])
  rw [← hSR] at Q4 L4 R4 HSO hlen ho1 hc1
  rw [← hSR]
  clear hSR HLS HRO
  go_wp2_with fail
  go_loopw [5] (fun v wr => ∃ (i : Nat), i ≤ SR.length ∧ v = .int .i64 (i : Int) ∧ (∀ j (hj : j < SR.length), j < i → M.stuckB m SR[j] = false) ∧ Below W4.heap.size W4 wr) (fun v _ => SR.length - (intOf v).toNat)
  case atStart => exact ⟨0, Nat.zero_le _, rfl, fun j _ h => by omega, Below.refl _ _⟩
  case round =>
    obtain ⟨i, hii, rfl, hall, hbb⟩ := hrel
    have HA := Lib.hid hall
    have BB := Lib.hid hbb
    have hzr := hbb.size
    have X5 := Lib.hid (X4.out.below hbb)
    have Q5 := Lib.hid (Q4.out.below hbb)
    have L5 := Lib.hid (L4.out.below hbb)
    have BW := Lib.hid (B4.out.trans (hbb.mono (by omega)))
    obtain ⟨c0, c1, c2⟩ := X5.out.cells
    obtain ⟨k0, k1⟩ := Q5.out.cells
    clear hall hbb
    by_cases hil : i < SR.length
    · obtain ⟨u, hu, hrx, hcx, hcx2⟩ := L5.out.at_ hil
      obtain ⟨ua, uc⟩ := u
      rw [List.drop_zero] at hrx hcx
      obtain ⟨ob, ooff, rfl, _, hob, hoc⟩ := (R4.out.below BB.out (by omega)).at_ (k := i) (by rw [cellsL_len L5.out.len]; exact hil)
      have p0 := hoc i _ (cellsL_at (nd := 0) hu hil)
      unfold slV7 at p0
      rw [List.drop_zero] at p0
      have HIX := Lib.hid (HSO.out.open_ _ (List.getElem_mem hil))
      have hx10 : SR[i].length ≤ 10 := by have := M.isO_len HV.out HIX.out; omega
      have HU := Lib.hid hu
      have HNXT := Lib.hid (fun (hq : M.stuckB m SR[i] = false) => show ∀ j (hj : j < SR.length), j < i + 1 → M.stuckB m SR[j] = false from fun j hj hji => by
        rcases Nat.lt_or_ge j i with h | h
        · exact HA.out j hj h
        · obtain rfl : j = i := by omega
          exact hq)
      have HFD := Lib.hid (fun (hq : M.stuckB m SR[i] = true) => M.fst_yes hil HA.out hq)
      have HGV := Lib.hid (fun h0 => L5.out.give hil hu h0)
      have HIZ := Lib.hid (show 0 < i ∨ SR[i].drop 0 = [] ∨ True from .inr (.inr trivial))
      have hobw : ob < wr.heap.size := by omega
      rw [List.drop_zero] at HGV
      obtain ⟨x, hx⟩ : ∃ x, x = SR[i] := ⟨_, rfl⟩
      have HXE := Lib.hid hx
      rw [← hx] at p0 hrx hcx HIX hx10 HFD HNXT HGV
      have RX := Lib.hid hrx
      clear hoc hu hrx hx HIZ
      have hSK : M.stuckB m x = (!M.winsB m x && (M.nextO m (M.behO m x)).isEmpty) := rfl
      have HSK := Lib.hid hSK
      clear hSK
      go_upto_region 5 with fail
      cases q1 : M.winsB m x with
      | true =>
        have HQ := Lib.hid (show M.stuckB m x = false by rw [HSK.out, q1]; rfl)
        refine wp_region_late2 (fun (wq : World) => wq.cell? ⟨w.heap.size, 0, none⟩ = some (.int .i64 m.size) ∧ wq.cell? ⟨w.heap.size, 1, none⟩ = some (.slice a m.doors.length c) ∧ wq.cell? ⟨w.heap.size, 2, none⟩ = some (.slice b m.keys.length d) ∧ wq.cell? ⟨sb, 0, none⟩ = some (.slice (some ⟨ob, ooff, none⟩) SR.length co) ∧ wq.cell? ⟨ob, ooff + i, none⟩ = some (.slice ua x.length uc)) [] 19 #[false, false, false, false, false, false, false, false, false, false, false, false, false, false, false, false, false, false, false] rfl rfl (by kernel_rfl) ?_
        have hS : (fun (wq : World) => wq.cell? ⟨w.heap.size, 0, none⟩ = some (.int .i64 m.size) ∧ wq.cell? ⟨w.heap.size, 1, none⟩ = some (.slice a m.doors.length c) ∧ wq.cell? ⟨w.heap.size, 2, none⟩ = some (.slice b m.keys.length d) ∧ wq.cell? ⟨sb, 0, none⟩ = some (.slice (some ⟨ob, ooff, none⟩) SR.length co) ∧ wq.cell? ⟨ob, ooff + i, none⟩ = some (.slice ua x.length uc)) wr.drew := ⟨c0, c1, c2, k0, p0⟩
        refine wpAnyL_take (i := 0) (oi := { dst := some 16, op := Go.Op.load 29 (Go.Operand.tmp 1), type := 29, pos := "l7_spent.go:178", after := #[], guard := none }) (v := ?gv0) rfl (by kernel_rfl) (by kernel_rfl) (by kernel_rfl) (by kernel_rfl) (fun _ _ _ h => h) (Or.inl ⟨by rfl, ?gh0⟩) hS ?gr0
        case gh0 => (intro wS hSw; (try dsimp only at hSw); go_split_ands; go_simp; try with_reducible rfl)
        try simp only [Act.put, List.setIfInBounds_toArray, List.set_cons_zero, List.set_cons_succ]
        refine wpAnyL_take (i := 1) (oi := { dst := some 17, op := Go.Op.fieldAddr 62 (Go.Operand.tmp 4) 0, type := 0, pos := "l7_spent.go:178", after := #[], guard := none }) (v := ?gv1) rfl (by kernel_rfl) (by kernel_rfl) (by kernel_rfl) (by kernel_rfl) (fun _ _ _ h => h) (Or.inl ⟨by rfl, ?gh1⟩) hS ?gr1
        case gh1 => (intro wS hSw; (try dsimp only at hSw); go_split_ands; go_simp; try with_reducible rfl)
        try simp only [Act.put, List.setIfInBounds_toArray, List.set_cons_zero, List.set_cons_succ]
        refine wpAnyL_take (i := 2) (oi := { dst := some 18, op := Go.Op.load 60 (Go.Operand.tmp 17), type := 60, pos := "l7_spent.go:178", after := #[{ on := 1, ground := Go.Ground.data }], guard := none }) (v := ?gv2) rfl (by kernel_rfl) (by kernel_rfl) (by kernel_rfl) (by kernel_rfl) (fun _ _ _ h => h) (Or.inl ⟨by rfl, ?gh2⟩) hS ?gr2
        case gh2 => (intro wS hSw; (try dsimp only at hSw); go_split_ands; go_simp; try with_reducible rfl)
        try simp only [Act.put, List.setIfInBounds_toArray, List.set_cons_zero, List.set_cons_succ]
        refine wpAnyL_take (i := 3) (oi := { dst := some 19, op := Go.Op.move (Go.Operand.tmp 5), type := 3, pos := "l7_spent.go:178", after := #[], guard := none }) (v := ?gv3) rfl (by kernel_rfl) (by kernel_rfl) (by kernel_rfl) (by kernel_rfl) (fun _ _ _ h => h) (Or.inl ⟨by rfl, ?gh3⟩) hS ?gr3
        case gh3 => (intro wS hSw; (try dsimp only at hSw); go_split_ands; go_simp; try with_reducible rfl)
        try simp only [Act.put, List.setIfInBounds_toArray, List.set_cons_zero, List.set_cons_succ]
        refine wpAnyL_take (i := 4) (oi := { dst := some 20, op := Go.Op.indexAddr 60 (Go.Operand.tmp 18) (Go.Operand.tmp 19), type := 0, pos := "l7_spent.go:178", after := #[{ on := 2, ground := Go.Ground.data }, { on := 3, ground := Go.Ground.data }], guard := none }) (v := ?gv4) rfl (by kernel_rfl) (by kernel_rfl) (by kernel_rfl) (by kernel_rfl) (fun _ _ _ h => h) (Or.inl ⟨by rfl, ?gh4⟩) hS ?gr4
        case gh4 => (intro wS hSw; (try dsimp only at hSw); go_split_ands; go_simp; try with_reducible rfl)
        try simp only [Act.put, List.setIfInBounds_toArray, List.set_cons_zero, List.set_cons_succ]
        refine wpAnyL_take (i := 5) (oi := { dst := some 21, op := Go.Op.load 23 (Go.Operand.tmp 20), type := 23, pos := "l7_spent.go:178", after := #[{ on := 4, ground := Go.Ground.data }], guard := none }) (v := ?gv5) rfl (by kernel_rfl) (by kernel_rfl) (by kernel_rfl) (by kernel_rfl) (fun _ _ _ h => h) (Or.inl ⟨by rfl, ?gh5⟩) hS ?gr5
        case gh5 => (intro wS hSw; (try dsimp only at hSw); go_split_ands; go_simp; try with_reducible rfl)
        try simp only [Act.put, List.setIfInBounds_toArray, List.set_cons_zero, List.set_cons_succ]
        refine wpAnyL_one (i := 6) (oi := { dst := some 22, op := Go.Op.call { callee := Go.Callee.value (Go.Operand.func 69), args := #[Go.Operand.tmp 16, Go.Operand.tmp 21], argTypes := #[29, 23] }, type := 4, pos := "l7_spent.go:178", after := #[{ on := 0, ground := Go.Ground.data }, { on := 5, ground := Go.Ground.data }], guard := none }) (by kernel_rfl) rfl (fun Kg6 hKg6 => ?_)
        refine step_call (by rfl) 69 #[.agg #[.int .i64 m.size, .slice a m.doors.length c, .slice b m.keys.length d], .slice ua x.length uc] (by go_simp; try rfl) (by have h0 := wins7_any wr.drew lo hi m a b c d (H.out.below (BW.out.drew) hz) (by show hi ≤ wr.heap.size; omega) HV.out 0 wr.drew.heap.size ua uc x RX.out.row (Nat.le_refl _) (by omega) hcx; rw [q1] at h0; exact h0) ?_
        rintro e w5 ⟨rfl, hb5⟩
        refine ⟨_, rfl, ?_⟩
        have hbw5x : Below wr.heap.size wr w5 := (Below.refl wr.heap.size wr).drew.trans hb5
        have hzw5 := hbw5x.size
        have hsw5 : (fun (wq : World) => wq.cell? ⟨w.heap.size, 0, none⟩ = some (.int .i64 m.size) ∧ wq.cell? ⟨w.heap.size, 1, none⟩ = some (.slice a m.doors.length c) ∧ wq.cell? ⟨w.heap.size, 2, none⟩ = some (.slice b m.keys.length d) ∧ wq.cell? ⟨sb, 0, none⟩ = some (.slice (some ⟨ob, ooff, none⟩) SR.length co) ∧ wq.cell? ⟨ob, ooff + i, none⟩ = some (.slice ua x.length uc)) w5 := ⟨(hbw5x.cell (p := ⟨w.heap.size, 0, none⟩) (show w.heap.size < _ by omega)).trans c0, (hbw5x.cell (p := ⟨w.heap.size, 1, none⟩) (show w.heap.size < _ by omega)).trans c1, (hbw5x.cell (p := ⟨w.heap.size, 2, none⟩) (show w.heap.size < _ by omega)).trans c2, (hbw5x.cell (p := ⟨sb, 0, none⟩) (show sb < _ by omega)).trans k0, (hbw5x.cell (p := ⟨ob, ooff + i, none⟩) (show ob < _ by omega)).trans p0⟩
        refine hKg6 _ _ (fun _ => hsw5) ?_
        clear hS
        have hS := hsw5
        try simp only [Act.put, List.setIfInBounds_toArray, List.set_cons_zero, List.set_cons_succ]
        refine wpAnyL_take (i := 7) (oi := { dst := some 23, op := Go.Op.unOp Go.UnOp.not 4 (Go.Operand.tmp 22), type := 4, pos := "l7_spent.go:178", after := #[{ on := 6, ground := Go.Ground.data }], guard := none }) (v := ?gv7) rfl (by kernel_rfl) (by kernel_rfl) (by kernel_rfl) (by kernel_rfl) (fun _ _ _ h => h) (Or.inl ⟨by rfl, ?gh7⟩) hS ?gr7
        case gh7 => (intro wS hSw; (try dsimp only at hSw); go_split_ands; go_simp; try with_reducible rfl)
        try simp only [Act.put, List.setIfInBounds_toArray, List.set_cons_zero, List.set_cons_succ]
        refine wpAnyL_take (i := 8) (oi := { dst := some 24, op := Go.Op.move (Go.Operand.tmp 23), type := 4, pos := "l7_spent.go:178", after := #[{ on := 7, ground := Go.Ground.data }, { on := 6, ground := Go.Ground.chain }], guard := none }) (v := ?gv8) rfl (by kernel_rfl) (by kernel_rfl) (by kernel_rfl) (by kernel_rfl) (fun _ _ _ h => h) (Or.inl ⟨by rfl, ?gh8⟩) hS ?gr8
        case gh8 => (intro wS hSw; (try dsimp only at hSw); go_split_ands; go_simp; try with_reducible rfl)
        try simp only [Act.put, List.setIfInBounds_toArray, List.set_cons_zero, List.set_cons_succ]
        refine wpAnyL_take (i := 9) (oi := { dst := some 25, op := Go.Op.load 29 (Go.Operand.tmp 1), type := 29, pos := "l7_spent.go:178", after := #[{ on := 8, ground := Go.Ground.guard }], guard := some (8, true) }) (v := undef) rfl (by kernel_rfl) (by kernel_rfl) (by kernel_rfl) (by kernel_rfl) (fun _ _ _ h => h) (Or.inr ⟨by rfl, rfl⟩) hS ?gr9
        try simp only [Act.put, List.setIfInBounds_toArray, List.set_cons_zero, List.set_cons_succ]
        refine wpAnyL_take (i := 10) (oi := { dst := some 26, op := Go.Op.fieldAddr 62 (Go.Operand.tmp 4) 0, type := 0, pos := "l7_spent.go:178", after := #[{ on := 8, ground := Go.Ground.guard }], guard := some (8, true) }) (v := undef) rfl (by kernel_rfl) (by kernel_rfl) (by kernel_rfl) (by kernel_rfl) (fun _ _ _ h => h) (Or.inr ⟨by rfl, rfl⟩) hS ?gr10
        try simp only [Act.put, List.setIfInBounds_toArray, List.set_cons_zero, List.set_cons_succ]
        refine wpAnyL_take (i := 11) (oi := { dst := some 27, op := Go.Op.load 60 (Go.Operand.tmp 26), type := 60, pos := "l7_spent.go:178", after := #[{ on := 10, ground := Go.Ground.data }, { on := 8, ground := Go.Ground.guard }], guard := some (8, true) }) (v := undef) rfl (by kernel_rfl) (by kernel_rfl) (by kernel_rfl) (by kernel_rfl) (fun _ _ _ h => h) (Or.inr ⟨by rfl, rfl⟩) hS ?gr11
        try simp only [Act.put, List.setIfInBounds_toArray, List.set_cons_zero, List.set_cons_succ]
        refine wpAnyL_take (i := 12) (oi := { dst := some 28, op := Go.Op.move (Go.Operand.tmp 5), type := 3, pos := "l7_spent.go:178", after := #[{ on := 8, ground := Go.Ground.guard }], guard := some (8, true) }) (v := undef) rfl (by kernel_rfl) (by kernel_rfl) (by kernel_rfl) (by kernel_rfl) (fun _ _ _ h => h) (Or.inr ⟨by rfl, rfl⟩) hS ?gr12
        try simp only [Act.put, List.setIfInBounds_toArray, List.set_cons_zero, List.set_cons_succ]
        refine wpAnyL_take (i := 13) (oi := { dst := some 29, op := Go.Op.indexAddr 60 (Go.Operand.tmp 27) (Go.Operand.tmp 28), type := 0, pos := "l7_spent.go:178", after := #[{ on := 11, ground := Go.Ground.data }, { on := 12, ground := Go.Ground.data }, { on := 8, ground := Go.Ground.guard }], guard := some (8, true) }) (v := undef) rfl (by kernel_rfl) (by kernel_rfl) (by kernel_rfl) (by kernel_rfl) (fun _ _ _ h => h) (Or.inr ⟨by rfl, rfl⟩) hS ?gr13
        try simp only [Act.put, List.setIfInBounds_toArray, List.set_cons_zero, List.set_cons_succ]
        refine wpAnyL_take (i := 14) (oi := { dst := some 30, op := Go.Op.load 23 (Go.Operand.tmp 29), type := 23, pos := "l7_spent.go:178", after := #[{ on := 13, ground := Go.Ground.data }, { on := 8, ground := Go.Ground.guard }], guard := some (8, true) }) (v := undef) rfl (by kernel_rfl) (by kernel_rfl) (by kernel_rfl) (by kernel_rfl) (fun _ _ _ h => h) (Or.inr ⟨by rfl, rfl⟩) hS ?gr14
        try simp only [Act.put, List.setIfInBounds_toArray, List.set_cons_zero, List.set_cons_succ]
        refine wpAnyL_take (i := 15) (oi := { dst := some 31, op := Go.Op.call { callee := Go.Callee.value (Go.Operand.func 67), args := #[Go.Operand.tmp 25, Go.Operand.tmp 30], argTypes := #[29, 23] }, type := 23, pos := "l7_spent.go:178", after := #[{ on := 9, ground := Go.Ground.data }, { on := 14, ground := Go.Ground.data }, { on := 8, ground := Go.Ground.chain }, { on := 8, ground := Go.Ground.guard }], guard := some (8, true) }) (v := undef) rfl (by kernel_rfl) (by kernel_rfl) (by kernel_rfl) (by kernel_rfl) (fun _ _ _ h => h) (Or.inr ⟨by rfl, rfl⟩) hS ?gr15
        try simp only [Act.put, List.setIfInBounds_toArray, List.set_cons_zero, List.set_cons_succ]
        refine wpAnyL_take (i := 16) (oi := { dst := some 32, op := Go.Op.call { callee := Go.Callee.builtin Go.Builtin.len, args := #[Go.Operand.tmp 31], argTypes := #[23] }, type := 3, pos := "l7_spent.go:178", after := #[{ on := 15, ground := Go.Ground.data }, { on := 8, ground := Go.Ground.guard }], guard := some (8, true) }) (v := undef) rfl (by kernel_rfl) (by kernel_rfl) (by kernel_rfl) (by kernel_rfl) (fun _ _ _ h => h) (Or.inr ⟨by rfl, rfl⟩) hS ?gr16
        try simp only [Act.put, List.setIfInBounds_toArray, List.set_cons_zero, List.set_cons_succ]
        refine wpAnyL_take (i := 17) (oi := { dst := some 33, op := Go.Op.binOp Go.BinOp.eql 3 (Go.Operand.tmp 32) (Go.Operand.const (Go.Value.int Go.IntKind.i64 0)) 3, type := 4, pos := "l7_spent.go:178", after := #[{ on := 16, ground := Go.Ground.data }, { on := 8, ground := Go.Ground.guard }], guard := some (8, true) }) (v := undef) rfl (by kernel_rfl) (by kernel_rfl) (by kernel_rfl) (by kernel_rfl) (fun _ _ _ h => h) (Or.inr ⟨by rfl, rfl⟩) hS ?gr17
        try simp only [Act.put, List.setIfInBounds_toArray, List.set_cons_zero, List.set_cons_succ]
        refine wpAnyL_take (i := 18) (oi := { dst := some 34, op := Go.Op.pick (Go.Operand.tmp 24) (Go.Operand.tmp 33) (Go.Operand.const (Go.Value.bool false)), type := 4, pos := "l7_spent.go:178", after := #[{ on := 8, ground := Go.Ground.data }, { on := 17, ground := Go.Ground.data }], guard := none }) (v := ?gv18) rfl (by kernel_rfl) (by kernel_rfl) (by kernel_rfl) (by kernel_rfl) (fun _ _ _ h => h) (Or.inl ⟨by rfl, ?gh18⟩) hS ?gr18
        case gh18 => (intro wS hSw; (try dsimp only at hSw); go_split_ands; go_simp; try with_reducible rfl)
        try simp only [Act.put, List.setIfInBounds_toArray, List.set_cons_zero, List.set_cons_succ]
        refine wpAnyL_done (by kernel_rfl) ?_ _
        go_wp2_with fail
        go_roundw
        case rel => exact ⟨i + 1, by omega, by go_num, HNXT.out HQ.out, BB.out.trans (hbw5x.mono hzr)⟩
        case measure => simp [intOf]; omega
      | false =>
        refine wp_region_late2 (fun (wq : World) => wq.cell? ⟨w.heap.size, 0, none⟩ = some (.int .i64 m.size) ∧ wq.cell? ⟨w.heap.size, 1, none⟩ = some (.slice a m.doors.length c) ∧ wq.cell? ⟨w.heap.size, 2, none⟩ = some (.slice b m.keys.length d) ∧ wq.cell? ⟨sb, 0, none⟩ = some (.slice (some ⟨ob, ooff, none⟩) SR.length co) ∧ wq.cell? ⟨ob, ooff + i, none⟩ = some (.slice ua x.length uc)) [] 19 #[false, false, false, false, false, false, false, false, false, false, false, false, false, false, false, false, false, false, false] rfl rfl (by kernel_rfl) ?_
        have hS : (fun (wq : World) => wq.cell? ⟨w.heap.size, 0, none⟩ = some (.int .i64 m.size) ∧ wq.cell? ⟨w.heap.size, 1, none⟩ = some (.slice a m.doors.length c) ∧ wq.cell? ⟨w.heap.size, 2, none⟩ = some (.slice b m.keys.length d) ∧ wq.cell? ⟨sb, 0, none⟩ = some (.slice (some ⟨ob, ooff, none⟩) SR.length co) ∧ wq.cell? ⟨ob, ooff + i, none⟩ = some (.slice ua x.length uc)) wr.drew := ⟨c0, c1, c2, k0, p0⟩
        refine wpAnyL_take (i := 0) (oi := { dst := some 16, op := Go.Op.load 29 (Go.Operand.tmp 1), type := 29, pos := "l7_spent.go:178", after := #[], guard := none }) (v := ?hv0) rfl (by kernel_rfl) (by kernel_rfl) (by kernel_rfl) (by kernel_rfl) (fun _ _ _ h => h) (Or.inl ⟨by rfl, ?hh0⟩) hS ?hr0
        case hh0 => (intro wS hSw; (try dsimp only at hSw); go_split_ands; go_simp; try with_reducible rfl)
        try simp only [Act.put, List.setIfInBounds_toArray, List.set_cons_zero, List.set_cons_succ]
        refine wpAnyL_take (i := 1) (oi := { dst := some 17, op := Go.Op.fieldAddr 62 (Go.Operand.tmp 4) 0, type := 0, pos := "l7_spent.go:178", after := #[], guard := none }) (v := ?hv1) rfl (by kernel_rfl) (by kernel_rfl) (by kernel_rfl) (by kernel_rfl) (fun _ _ _ h => h) (Or.inl ⟨by rfl, ?hh1⟩) hS ?hr1
        case hh1 => (intro wS hSw; (try dsimp only at hSw); go_split_ands; go_simp; try with_reducible rfl)
        try simp only [Act.put, List.setIfInBounds_toArray, List.set_cons_zero, List.set_cons_succ]
        refine wpAnyL_take (i := 2) (oi := { dst := some 18, op := Go.Op.load 60 (Go.Operand.tmp 17), type := 60, pos := "l7_spent.go:178", after := #[{ on := 1, ground := Go.Ground.data }], guard := none }) (v := ?hv2) rfl (by kernel_rfl) (by kernel_rfl) (by kernel_rfl) (by kernel_rfl) (fun _ _ _ h => h) (Or.inl ⟨by rfl, ?hh2⟩) hS ?hr2
        case hh2 => (intro wS hSw; (try dsimp only at hSw); go_split_ands; go_simp; try with_reducible rfl)
        try simp only [Act.put, List.setIfInBounds_toArray, List.set_cons_zero, List.set_cons_succ]
        refine wpAnyL_take (i := 3) (oi := { dst := some 19, op := Go.Op.move (Go.Operand.tmp 5), type := 3, pos := "l7_spent.go:178", after := #[], guard := none }) (v := ?hv3) rfl (by kernel_rfl) (by kernel_rfl) (by kernel_rfl) (by kernel_rfl) (fun _ _ _ h => h) (Or.inl ⟨by rfl, ?hh3⟩) hS ?hr3
        case hh3 => (intro wS hSw; (try dsimp only at hSw); go_split_ands; go_simp; try with_reducible rfl)
        try simp only [Act.put, List.setIfInBounds_toArray, List.set_cons_zero, List.set_cons_succ]
        refine wpAnyL_take (i := 4) (oi := { dst := some 20, op := Go.Op.indexAddr 60 (Go.Operand.tmp 18) (Go.Operand.tmp 19), type := 0, pos := "l7_spent.go:178", after := #[{ on := 2, ground := Go.Ground.data }, { on := 3, ground := Go.Ground.data }], guard := none }) (v := ?hv4) rfl (by kernel_rfl) (by kernel_rfl) (by kernel_rfl) (by kernel_rfl) (fun _ _ _ h => h) (Or.inl ⟨by rfl, ?hh4⟩) hS ?hr4
        case hh4 => (intro wS hSw; (try dsimp only at hSw); go_split_ands; go_simp; try with_reducible rfl)
        try simp only [Act.put, List.setIfInBounds_toArray, List.set_cons_zero, List.set_cons_succ]
        refine wpAnyL_take (i := 5) (oi := { dst := some 21, op := Go.Op.load 23 (Go.Operand.tmp 20), type := 23, pos := "l7_spent.go:178", after := #[{ on := 4, ground := Go.Ground.data }], guard := none }) (v := ?hv5) rfl (by kernel_rfl) (by kernel_rfl) (by kernel_rfl) (by kernel_rfl) (fun _ _ _ h => h) (Or.inl ⟨by rfl, ?hh5⟩) hS ?hr5
        case hh5 => (intro wS hSw; (try dsimp only at hSw); go_split_ands; go_simp; try with_reducible rfl)
        try simp only [Act.put, List.setIfInBounds_toArray, List.set_cons_zero, List.set_cons_succ]
        refine wpAnyL_one (i := 6) (oi := { dst := some 22, op := Go.Op.call { callee := Go.Callee.value (Go.Operand.func 69), args := #[Go.Operand.tmp 16, Go.Operand.tmp 21], argTypes := #[29, 23] }, type := 4, pos := "l7_spent.go:178", after := #[{ on := 0, ground := Go.Ground.data }, { on := 5, ground := Go.Ground.data }], guard := none }) (by kernel_rfl) rfl (fun Kh6 hKh6 => ?_)
        refine step_call (by rfl) 69 #[.agg #[.int .i64 m.size, .slice a m.doors.length c, .slice b m.keys.length d], .slice ua x.length uc] (by go_simp; try rfl) (by have h0 := wins7_any wr.drew lo hi m a b c d (H.out.below (BW.out.drew) hz) (by show hi ≤ wr.heap.size; omega) HV.out 0 wr.drew.heap.size ua uc x RX.out.row (Nat.le_refl _) (by omega) hcx; rw [q1] at h0; exact h0) ?_
        rintro e w5 ⟨rfl, hb5⟩
        refine ⟨_, rfl, ?_⟩
        have hbw5x : Below wr.heap.size wr w5 := (Below.refl wr.heap.size wr).drew.trans hb5
        have hzw5 := hbw5x.size
        have hsw5 : (fun (wq : World) => wq.cell? ⟨w.heap.size, 0, none⟩ = some (.int .i64 m.size) ∧ wq.cell? ⟨w.heap.size, 1, none⟩ = some (.slice a m.doors.length c) ∧ wq.cell? ⟨w.heap.size, 2, none⟩ = some (.slice b m.keys.length d) ∧ wq.cell? ⟨sb, 0, none⟩ = some (.slice (some ⟨ob, ooff, none⟩) SR.length co) ∧ wq.cell? ⟨ob, ooff + i, none⟩ = some (.slice ua x.length uc)) w5 := ⟨(hbw5x.cell (p := ⟨w.heap.size, 0, none⟩) (show w.heap.size < _ by omega)).trans c0, (hbw5x.cell (p := ⟨w.heap.size, 1, none⟩) (show w.heap.size < _ by omega)).trans c1, (hbw5x.cell (p := ⟨w.heap.size, 2, none⟩) (show w.heap.size < _ by omega)).trans c2, (hbw5x.cell (p := ⟨sb, 0, none⟩) (show sb < _ by omega)).trans k0, (hbw5x.cell (p := ⟨ob, ooff + i, none⟩) (show ob < _ by omega)).trans p0⟩
        refine hKh6 _ _ (fun _ => hsw5) ?_
        clear hS
        have hS := hsw5
        try simp only [Act.put, List.setIfInBounds_toArray, List.set_cons_zero, List.set_cons_succ]
        refine wpAnyL_take (i := 7) (oi := { dst := some 23, op := Go.Op.unOp Go.UnOp.not 4 (Go.Operand.tmp 22), type := 4, pos := "l7_spent.go:178", after := #[{ on := 6, ground := Go.Ground.data }], guard := none }) (v := ?hv7) rfl (by kernel_rfl) (by kernel_rfl) (by kernel_rfl) (by kernel_rfl) (fun _ _ _ h => h) (Or.inl ⟨by rfl, ?hh7⟩) hS ?hr7
        case hh7 => (intro wS hSw; (try dsimp only at hSw); go_split_ands; go_simp; try with_reducible rfl)
        try simp only [Act.put, List.setIfInBounds_toArray, List.set_cons_zero, List.set_cons_succ]
        refine wpAnyL_take (i := 8) (oi := { dst := some 24, op := Go.Op.move (Go.Operand.tmp 23), type := 4, pos := "l7_spent.go:178", after := #[{ on := 7, ground := Go.Ground.data }, { on := 6, ground := Go.Ground.chain }], guard := none }) (v := ?hv8) rfl (by kernel_rfl) (by kernel_rfl) (by kernel_rfl) (by kernel_rfl) (fun _ _ _ h => h) (Or.inl ⟨by rfl, ?hh8⟩) hS ?hr8
        case hh8 => (intro wS hSw; (try dsimp only at hSw); go_split_ands; go_simp; try with_reducible rfl)
        try simp only [Act.put, List.setIfInBounds_toArray, List.set_cons_zero, List.set_cons_succ]
        refine wpAnyL_take (i := 9) (oi := { dst := some 25, op := Go.Op.load 29 (Go.Operand.tmp 1), type := 29, pos := "l7_spent.go:178", after := #[{ on := 8, ground := Go.Ground.guard }], guard := some (8, true) }) (v := ?hv9) rfl (by kernel_rfl) (by kernel_rfl) (by kernel_rfl) (by kernel_rfl) (fun _ _ _ h => h) (Or.inl ⟨by rfl, ?hh9⟩) hS ?hr9
        case hh9 => (intro wS hSw; (try dsimp only at hSw); go_split_ands; go_simp; try with_reducible rfl)
        try simp only [Act.put, List.setIfInBounds_toArray, List.set_cons_zero, List.set_cons_succ]
        refine wpAnyL_take (i := 10) (oi := { dst := some 26, op := Go.Op.fieldAddr 62 (Go.Operand.tmp 4) 0, type := 0, pos := "l7_spent.go:178", after := #[{ on := 8, ground := Go.Ground.guard }], guard := some (8, true) }) (v := ?hv10) rfl (by kernel_rfl) (by kernel_rfl) (by kernel_rfl) (by kernel_rfl) (fun _ _ _ h => h) (Or.inl ⟨by rfl, ?hh10⟩) hS ?hr10
        case hh10 => (intro wS hSw; (try dsimp only at hSw); go_split_ands; go_simp; try with_reducible rfl)
        try simp only [Act.put, List.setIfInBounds_toArray, List.set_cons_zero, List.set_cons_succ]
        refine wpAnyL_take (i := 11) (oi := { dst := some 27, op := Go.Op.load 60 (Go.Operand.tmp 26), type := 60, pos := "l7_spent.go:178", after := #[{ on := 10, ground := Go.Ground.data }, { on := 8, ground := Go.Ground.guard }], guard := some (8, true) }) (v := ?hv11) rfl (by kernel_rfl) (by kernel_rfl) (by kernel_rfl) (by kernel_rfl) (fun _ _ _ h => h) (Or.inl ⟨by rfl, ?hh11⟩) hS ?hr11
        case hh11 => (intro wS hSw; (try dsimp only at hSw); go_split_ands; go_simp; try with_reducible rfl)
        try simp only [Act.put, List.setIfInBounds_toArray, List.set_cons_zero, List.set_cons_succ]
        refine wpAnyL_take (i := 12) (oi := { dst := some 28, op := Go.Op.move (Go.Operand.tmp 5), type := 3, pos := "l7_spent.go:178", after := #[{ on := 8, ground := Go.Ground.guard }], guard := some (8, true) }) (v := ?hv12) rfl (by kernel_rfl) (by kernel_rfl) (by kernel_rfl) (by kernel_rfl) (fun _ _ _ h => h) (Or.inl ⟨by rfl, ?hh12⟩) hS ?hr12
        case hh12 => (intro wS hSw; (try dsimp only at hSw); go_split_ands; go_simp; try with_reducible rfl)
        try simp only [Act.put, List.setIfInBounds_toArray, List.set_cons_zero, List.set_cons_succ]
        refine wpAnyL_take (i := 13) (oi := { dst := some 29, op := Go.Op.indexAddr 60 (Go.Operand.tmp 27) (Go.Operand.tmp 28), type := 0, pos := "l7_spent.go:178", after := #[{ on := 11, ground := Go.Ground.data }, { on := 12, ground := Go.Ground.data }, { on := 8, ground := Go.Ground.guard }], guard := some (8, true) }) (v := ?hv13) rfl (by kernel_rfl) (by kernel_rfl) (by kernel_rfl) (by kernel_rfl) (fun _ _ _ h => h) (Or.inl ⟨by rfl, ?hh13⟩) hS ?hr13
        case hh13 => (intro wS hSw; (try dsimp only at hSw); go_split_ands; go_simp; try with_reducible rfl)
        try simp only [Act.put, List.setIfInBounds_toArray, List.set_cons_zero, List.set_cons_succ]
        refine wpAnyL_take (i := 14) (oi := { dst := some 30, op := Go.Op.load 23 (Go.Operand.tmp 29), type := 23, pos := "l7_spent.go:178", after := #[{ on := 13, ground := Go.Ground.data }, { on := 8, ground := Go.Ground.guard }], guard := some (8, true) }) (v := ?hv14) rfl (by kernel_rfl) (by kernel_rfl) (by kernel_rfl) (by kernel_rfl) (fun _ _ _ h => h) (Or.inl ⟨by rfl, ?hh14⟩) hS ?hr14
        case hh14 => (intro wS hSw; (try dsimp only at hSw); go_split_ands; go_simp; try with_reducible rfl)
        try simp only [Act.put, List.setIfInBounds_toArray, List.set_cons_zero, List.set_cons_succ]
        refine wpAnyL_one (i := 15) (oi := { dst := some 31, op := Go.Op.call { callee := Go.Callee.value (Go.Operand.func 67), args := #[Go.Operand.tmp 25, Go.Operand.tmp 30], argTypes := #[29, 23] }, type := 23, pos := "l7_spent.go:178", after := #[{ on := 9, ground := Go.Ground.data }, { on := 14, ground := Go.Ground.data }, { on := 8, ground := Go.Ground.chain }, { on := 8, ground := Go.Ground.guard }], guard := some (8, true) }) (by kernel_rfl) rfl (fun Kh15 hKh15 => ?_)
        refine step_callG (by rfl) 67 #[.agg #[.int .i64 m.size, .slice a m.doors.length c, .slice b m.keys.length d], .slice ua x.length uc] (by go_simp; try rfl) (next7_any w5 lo hi m a b c d (H.out.below (BW.out.trans (hbw5x.mono (by omega))) hz) (by omega) HV.out 0 wr.heap.size ua uc x (RX.out.row.below hbw5x (Nat.le_refl _)) (by omega) (by omega) HIX.out) ?_
        rintro e w6 ⟨na, nc, rfl, hr, hr1, hr2, hb6⟩
        refine ⟨_, rfl, ?_⟩
        have hbw6x : Below wr.heap.size wr w6 := hbw5x.trans (hb6.mono (by omega))
        have hzw6 := hbw6x.size
        have hsw6 : (fun (wq : World) => wq.cell? ⟨w.heap.size, 0, none⟩ = some (.int .i64 m.size) ∧ wq.cell? ⟨w.heap.size, 1, none⟩ = some (.slice a m.doors.length c) ∧ wq.cell? ⟨w.heap.size, 2, none⟩ = some (.slice b m.keys.length d) ∧ wq.cell? ⟨sb, 0, none⟩ = some (.slice (some ⟨ob, ooff, none⟩) SR.length co) ∧ wq.cell? ⟨ob, ooff + i, none⟩ = some (.slice ua x.length uc)) w6 := ⟨(hbw6x.cell (p := ⟨w.heap.size, 0, none⟩) (show w.heap.size < _ by omega)).trans c0, (hbw6x.cell (p := ⟨w.heap.size, 1, none⟩) (show w.heap.size < _ by omega)).trans c1, (hbw6x.cell (p := ⟨w.heap.size, 2, none⟩) (show w.heap.size < _ by omega)).trans c2, (hbw6x.cell (p := ⟨sb, 0, none⟩) (show sb < _ by omega)).trans k0, (hbw6x.cell (p := ⟨ob, ooff + i, none⟩) (show ob < _ by omega)).trans p0⟩
        refine hKh15 _ _ (fun _ => hsw6) ?_
        clear hS
        have hS := hsw6
        try simp only [Act.put, List.setIfInBounds_toArray, List.set_cons_zero, List.set_cons_succ]
        refine wpAnyL_take (i := 16) (oi := { dst := some 32, op := Go.Op.call { callee := Go.Callee.builtin Go.Builtin.len, args := #[Go.Operand.tmp 31], argTypes := #[23] }, type := 3, pos := "l7_spent.go:178", after := #[{ on := 15, ground := Go.Ground.data }, { on := 8, ground := Go.Ground.guard }], guard := some (8, true) }) (v := ?hv16) rfl (by kernel_rfl) (by kernel_rfl) (by kernel_rfl) (by kernel_rfl) (fun _ _ _ h => h) (Or.inl ⟨by rfl, ?hh16⟩) hS ?hr16
        case hh16 => (intro wS hSw; (try dsimp only at hSw); go_split_ands; go_simp; try with_reducible rfl)
        try simp only [Act.put, List.setIfInBounds_toArray, List.set_cons_zero, List.set_cons_succ]
        refine wpAnyL_take (i := 17) (oi := { dst := some 33, op := Go.Op.binOp Go.BinOp.eql 3 (Go.Operand.tmp 32) (Go.Operand.const (Go.Value.int Go.IntKind.i64 0)) 3, type := 4, pos := "l7_spent.go:178", after := #[{ on := 16, ground := Go.Ground.data }, { on := 8, ground := Go.Ground.guard }], guard := some (8, true) }) (v := ?hv17) rfl (by kernel_rfl) (by kernel_rfl) (by kernel_rfl) (by kernel_rfl) (fun _ _ _ h => h) (Or.inl ⟨by rfl, ?hh17⟩) hS ?hr17
        case hh17 => (intro wS hSw; (try dsimp only at hSw); go_split_ands; go_simp; try with_reducible rfl)
        try simp only [Act.put, List.setIfInBounds_toArray, List.set_cons_zero, List.set_cons_succ]
        refine wpAnyL_take (i := 18) (oi := { dst := some 34, op := Go.Op.pick (Go.Operand.tmp 24) (Go.Operand.tmp 33) (Go.Operand.const (Go.Value.bool false)), type := 4, pos := "l7_spent.go:178", after := #[{ on := 8, ground := Go.Ground.data }, { on := 17, ground := Go.Ground.data }], guard := none }) (v := ?hv18) rfl (by kernel_rfl) (by kernel_rfl) (by kernel_rfl) (by kernel_rfl) (fun _ _ _ h => h) (Or.inl ⟨by rfl, ?hh18⟩) hS ?hr18
        case hh18 => (intro wS hSw; (try dsimp only at hSw); go_split_ands; go_simp; try with_reducible rfl)
        try simp only [Act.put, List.setIfInBounds_toArray, List.set_cons_zero, List.set_cons_succ]
        refine wpAnyL_done (by kernel_rfl) ?_ _
        have he : (((M.nextO m (M.behO m x)).length : Int) == 0) = (M.nextO m (M.behO m x)).isEmpty := by cases M.nextO m (M.behO m x) <;> simp; omega
        cases q2 : (M.nextO m (M.behO m x)).isEmpty with
        | false =>
          have HQ := Lib.hid (show M.stuckB m x = false by rw [HSK.out, q1, q2]; rfl)
          rw [q2] at he
          clear q1 q2
          go_wp2_with fail
          go_roundw
          case rel => exact ⟨i + 1, by omega, by go_num, HNXT.out HQ.out, BB.out.trans (hbw6x.mono hzr)⟩
          case measure => simp [intOf]; omega
        | true =>
          have HF2 := Lib.hid (HFD.out (by rw [HSK.out, q1, q2]; rfl))
          have HL6 := Lib.hid (HGV.out (by
            rcases Nat.eq_zero_or_pos i with h0 | h0
            · right
              have h1 := HS0.out
              subst h0
              rw [HXE.out]
              rw [List.getElem?_eq_getElem hil] at h1
              injection h1
            · exact .inl h0))
          have BE := Lib.hid (BW.out.trans (hbw6x.mono (by omega)))
          rw [q2] at he
          obtain ⟨c0, c1, c2, k0, p0⟩ := hsw6
          clear q1 q2 hS
          go_wp2_with fail
          go_ret2
          rw [HSR.out, HF2.out.1, HF2.out.2]
          exact ⟨ua, uc, rfl, (HL6.out.below hbw6x (Nat.le_refl _)).mono (by first | omega | (simp; omega)) hzw6, hcx, hcx2, BE.out⟩
    · have hie : i = SR.length := by omega
      have HNF := Lib.hid (M.fst_no (p := M.stuckB m) (L := SR) fun j hj => HA.out j hj (by omega))
      clear hie
      go_wp2_with fail
      go_ret2
      rw [HSR.out, HNF.out.1, HNF.out.2]
      exact intsOk_end (l := []) (ownsRow_empty _ _ _ _ (by omega)) (BW.out.alloc (by omega) _)
theorem specFs_lw (w : World) (lo hi : Nat) (m : M.Mz) (a b : Option Addr) (c d : Nat) (h : MzIn lo hi w m a c b d) (hz : hi ≤ w.heap.size) (_h1 : m.doors.length ≤ 1048576) (_h2 : m.keys.length ≤ 1048576) :
    Calls Try.prog 38 #[.agg #[.int .i64 m.size, .slice a m.doors.length c, .slice b m.keys.length d]] w (IntsOkPost w (M.fsV m) (M.fsB m)) := by
  have H := Lib.hid h
  clear h
  go_enter Try.func38, Try.ntmps38
  go_upto_region 1 with fail
  refine wp_named ?_
  intro W hW
  have X1 := Lib.hid (show Box3 W w.heap.size 29 (.int .i64 m.size) (.slice a m.doors.length c) (.slice b m.keys.length d) by rw [hW]; exact Box3.new _ _ _ _ rfl)
  have HB := Lib.hid (show Below w.heap.size w W by rw [hW]; exact below_alloc _ _)
  clear hW
  have hzw := HB.out.size
  have hxl := X1.out.lt
  obtain ⟨c0, c1, c2⟩ := X1.out.cells
  go_wp2_with fail
  refine (l7Good_any W lo hi m a b c d (H.out.below HB.out hz) (by omega)).mono ?_
  rintro e w1 ⟨rfl, hb1⟩
  have X2 := Lib.hid (X1.out.below hb1)
  have B2 := Lib.hid (HB.out.trans (hb1.mono hzw))
  have hz1 := hb1.size
  clear hb1 c0 c1 c2
  cases q0 : M.goodB m with
  | false =>
    have HG := Lib.hid q0
    clear q0
    go_wp2_with fail
    go_ret2
    rw [show M.fsV m = [] by unfold M.fsV; rw [HG.out]; rfl, show M.fsB m = false by unfold M.fsB; rw [HG.out]; rfl]
    exact intsOk_end (l := []) (ownsRow_empty _ _ _ _ (by omega)) (B2.out.alloc (by omega) _)
  | true =>
    have HG := Lib.hid q0
    have HV := Lib.hid (M.valid_of (M.good_maze q0))
    have hf := M.good_few q0
    obtain ⟨c0, c1, c2⟩ := X2.out.cells
    clear q0
    go_wp2_with fail
    refine (stuck7_any w1 lo hi m a b c d (H.out.below B2.out hz) (by omega) HV.out hf).mono ?_
    rintro e w3 ⟨ra, rc, rfl, hr, hr1, hr2, hb3⟩
    have HR := Lib.hid hr
    have B5 := Lib.hid (B2.out.trans (hb3.mono (by omega)))
    clear hr hb3 c0 c1 c2
    go_wp2_with fail
    go_ret2
    rw [show M.fsV m = M.fstV (M.stuckB m) (M.srchL m []) by unfold M.fsV; rw [if_pos HG.out], show M.fsB m = M.fstB (M.stuckB m) (M.srchL m []) by unfold M.fsB; rw [HG.out]; rfl]
    exact ⟨ra, rc, rfl, HR.out.mono (by omega) (Nat.le_refl _), hr1, hr2, B5.out⟩
theorem specSafe_lw (w : World) (lo hi : Nat) (m : M.Mz) (a b : Option Addr) (c d : Nat) (h : MzIn lo hi w m a c b d) (hz : hi ≤ w.heap.size) (_h1 : m.doors.length ≤ 1048576) (_h2 : m.keys.length ≤ 1048576) :
    Calls Try.prog 40 #[.agg #[.int .i64 m.size, .slice a m.doors.length c, .slice b m.keys.length d]] w (BoolOkPost w (M.safeV m) (M.goodB m)) := by
  have H := Lib.hid h
  clear h
  go_enter Try.func40, Try.ntmps40
  go_upto_region 1 with fail
  refine wp_named ?_
  intro W hW
  have X1 := Lib.hid (show Box3 W w.heap.size 29 (.int .i64 m.size) (.slice a m.doors.length c) (.slice b m.keys.length d) by rw [hW]; exact Box3.new _ _ _ _ rfl)
  have HB := Lib.hid (show Below w.heap.size w W by rw [hW]; exact below_alloc _ _)
  clear hW
  have hzw := HB.out.size
  have hxl := X1.out.lt
  obtain ⟨c0, c1, c2⟩ := X1.out.cells
  go_wp2_with fail
  refine (l7Good_any W lo hi m a b c d (H.out.below HB.out hz) (by omega)).mono ?_
  rintro e w1 ⟨rfl, hb1⟩
  have X2 := Lib.hid (X1.out.below hb1)
  have B2 := Lib.hid (HB.out.trans (hb1.mono hzw))
  have hz1 := hb1.size
  clear hb1 c0 c1 c2
  cases q0 : M.goodB m with
  | false =>
    have HG := Lib.hid q0
    clear q0
    go_wp2_with fail
    go_ret2
    exact ⟨by rw [HG.out, show M.safeV m = false by unfold M.safeV; rw [HG.out]; rfl]; rfl, B2.out⟩
  | true =>
    have HG := Lib.hid q0
    have HV := Lib.hid (M.valid_of (M.good_maze q0))
    have hf := M.good_few q0
    obtain ⟨c0, c1, c2⟩ := X2.out.cells
    clear q0
    go_wp2_with fail
    refine (stuck7_any w1 lo hi m a b c d (H.out.below B2.out hz) (by omega) HV.out hf).mono ?_
    rintro e w3 ⟨ra, rc, rfl, hr, hr1, hr2, hb3⟩
    have B5 := Lib.hid (B2.out.trans (hb3.mono (by omega)))
    have HSV := Lib.hid (show M.safeV m = !M.fstB (M.stuckB m) (M.srchL m []) by unfold M.safeV M.fsB; rw [HG.out]; rfl)
    clear hr hb3 c0 c1 c2
    go_wp2_with fail
    go_ret2
    exact ⟨by rw [HG.out, HSV.out]; rfl, B5.out⟩
theorem specCs_lw (w : World) (lo hi : Nat) (m : M.Mz) (a b : Option Addr) (c d : Nat) (h : MzIn lo hi w m a c b d) (hz : hi ≤ w.heap.size) (_h1 : m.doors.length ≤ 1048576) (_h2 : m.keys.length ≤ 1048576) :
    Calls Try.prog 42 #[.agg #[.int .i64 m.size, .slice a m.doors.length c, .slice b m.keys.length d]] w fun e w' => e = .returned (.tuple #[.int .i64 (M.csV m), .bool (M.goodB m)]) ∧ Below w.heap.size w w' := by
  have H := Lib.hid h
  clear h
  go_enter Try.func42, Try.ntmps42
  go_upto_region 1 with fail
  refine wp_named ?_
  intro W hW
  have X1 := Lib.hid (show Box3 W w.heap.size 29 (.int .i64 m.size) (.slice a m.doors.length c) (.slice b m.keys.length d) by rw [hW]; exact Box3.new _ _ _ _ rfl)
  have HB := Lib.hid (show Below w.heap.size w W by rw [hW]; exact below_alloc _ _)
  clear hW
  have hzw := HB.out.size
  have hxl := X1.out.lt
  obtain ⟨c0, c1, c2⟩ := X1.out.cells
  go_wp2_with fail
  refine (l7Good_any W lo hi m a b c d (H.out.below HB.out hz) (by omega)).mono ?_
  rintro e w1 ⟨rfl, hb1⟩
  have X2 := Lib.hid (X1.out.below hb1)
  have B2 := Lib.hid (HB.out.trans (hb1.mono hzw))
  have hz1 := hb1.size
  clear hb1 c0 c1 c2
  cases q0 : M.goodB m with
  | false =>
    have HG := Lib.hid q0
    clear q0
    go_wp2_with fail
    go_ret2
    exact ⟨by rw [HG.out, show M.csV m = 0 by unfold M.csV; rw [HG.out]; rfl]; rfl, B2.out⟩
  | true =>
    have HG := Lib.hid q0
    have HV := Lib.hid (M.valid_of (M.good_maze q0))
    have hf := M.good_few q0
    obtain ⟨c0, c1, c2⟩ := X2.out.cells
    clear q0
    go_wp2_with fail
    refine (search7_any (w1.alloc (.cells #[] 3)) lo hi m a b c d (H.out.below (B2.out.alloc (by omega) _) hz) (by simp; omega) HV.out hf 0 0 (some ⟨w1.heap.size, 0, none⟩) 0 [] (.inl rfl) (Nat.zero_le _) rfl (Nat.le_refl _) (by omega)).mono ?_
    rintro e w3 ⟨U, ao, co, ac, cc, rfl, hro, hrc, ho1, ho2, hc1, hc2, hls, hb3⟩
    have hsz3 := hb3.size
    simp only [World.size_alloc] at hsz3 hro hrc
    have HRO := Lib.hid hro
    have HLS := Lib.hid hls
    have B3 := Lib.hid ((B2.out.alloc (by omega) _).trans (hb3.mono (by simp; omega)))
    have X3 := Lib.hid ((X2.out.alloc _).below hb3)
    have HSO := Lib.hid (M.srchL_ok hf (begun := []) rfl)
    have hlen := HSO.out.len hf
    have HRC := Lib.hid hrc
    clear hb3 hro hls c0 c1 c2 hrc
    have HCS := Lib.hid (show M.csV m = ((M.srchL m []).length : Int) by unfold M.csV; rw [if_pos HG.out])
    have hfd := field7
    go_wp2_with fail
    go_ret2
    exact ⟨by rw [HG.out, HCS.out]; rfl, B3.out⟩
theorem hope7_any (w : World) (lo hi : Nat) (m : M.Mz) (a b : Option Addr) (c d : Nat) (h : MzIn lo hi w m a c b d) (hz : hi ≤ w.heap.size) (V : M.Valid m) (hf : (M.lockL m).length ≤ 10) (lo' hi' : Nat) (wa : Option Addr) (wcap : Nat) (begun : List Int) (hw : RowIn lo' hi' w wa (M.encIs begun)) (hz' : hi' ≤ w.heap.size) (hio : M.isO m begun = true) (hcap : begun.length ≤ wcap) (hcap2 : wcap ≤ 9223372036854775807) :
    Calls Try.prog 77 #[.agg #[.int .i64 m.size, .slice a m.doors.length c, .slice b m.keys.length d], .slice wa begun.length wcap] w (BoolPost w (M.hopeB m begun)) := by
  have HV := Lib.hid V
  have HW := Lib.hid hw
  have HIO := Lib.hid hio
  clear V hw hio
  have H := Lib.hid h
  clear h
  go_enter Try.func77, Try.ntmps77
  go_upto_region 1 with fail
  refine wp_named ?_
  intro W hW
  have X1 := Lib.hid (show Box3 W w.heap.size 29 (.int .i64 m.size) (.slice a m.doors.length c) (.slice b m.keys.length d) by rw [hW]; exact Box3.new _ _ _ _ rfl)
  have HB := Lib.hid (show Below w.heap.size w W by rw [hW]; exact below_alloc _ _)
  clear hW
  have hzw := HB.out.size
  have hxl := X1.out.lt
  obtain ⟨c0, c1, c2⟩ := X1.out.cells
  have X2 := X1
  have B2 := HB
  have hz1 := hzw
  go_wp2_with fail
  refine (search7_any W lo hi m a b c d (H.out.below B2.out hz) (by omega) HV.out hf lo' hi' wa wcap begun (HW.out.below B2.out hz') (by omega) HIO.out hcap hcap2).mono ?_
  rintro e w3 ⟨U, ao, co, ac, cc, rfl, hro, hrc, ho1, ho2, hc1, hc2, hls, hb3⟩
  have hsz3 := hb3.size
  have HRO := Lib.hid hro
  have HLS := Lib.hid hls
  have B3 := Lib.hid (B2.out.trans (hb3.mono (by omega)))
  have X3 := Lib.hid (X2.out.below hb3)
  have HSO := Lib.hid (M.srchL_ok hf (begun := begun) HIO.out)
  have hlen := HSO.out.len hf
  have HRC := Lib.hid hrc
  clear hb3 hro hls c0 c1 c2 hrc
  go_upto_region 2 with fail
  refine wp_named ?_
  intro W4 hW4
  have hb4 : Below w3.heap.size w3 W4 := by rw [hW4]; exact below_alloc _ _
  have Q4 := Lib.hid (show Box2 W4 w3.heap.size 62 (.slice ao (M.srchL m begun).length co) (.slice ac (M.srchL m begun).length cc) by rw [hW4]; exact Box2.new _ _ _ rfl)
  clear hW4
  have X4 := Lib.hid (X3.out.below hb4)
  have B4 := Lib.hid (B3.out.trans (hb4.mono (by omega)))
  have L4 := Lib.hid (HLS.out.below hb4)
  have R4 := Lib.hid (HRO.out.below hb4 (Nat.le_refl _))
  have hz4 := hb4.size
  obtain ⟨sb, hsb⟩ : ∃ sb, sb = w3.heap.size := ⟨_, rfl⟩
  rw [← hsb] at Q4 hz4 R4
  rw [← hsb]
  have hsl := Q4.out.lt
  have hsw : w.heap.size < sb := by omega
  clear hb4 hsb HRC
  obtain ⟨SR, hSR⟩ : ∃ SR, SR = M.srchL m begun := ⟨_, rfl⟩
  have HSR := Lib.hid hSR.symm
  have HS0 := Lib.hid (show SR[0]? = some begun by rw [hSR]; exact M.srchL_first m begun)
  rw [← hSR] at Q4 L4 R4 HSO hlen ho1 hc1
  rw [← hSR]
  clear hSR HLS HRO
  go_wp2_with fail
  go_loopw [6] (fun v wr => ∃ (i : Nat), i ≤ SR.length ∧ v = .int .i64 (i : Int) ∧ (∀ j (hj : j < SR.length), j < i → M.winsB m SR[j] = false) ∧ Below W4.heap.size W4 wr) (fun v _ => SR.length - (intOf v).toNat)
  case atStart => exact ⟨0, Nat.zero_le _, rfl, fun j _ h => by omega, Below.refl _ _⟩
  case round =>
    obtain ⟨i, hii, rfl, hall, hbb⟩ := hrel
    have HA := Lib.hid hall
    have BB := Lib.hid hbb
    have hzr := hbb.size
    have X5 := Lib.hid (X4.out.below hbb)
    have Q5 := Lib.hid (Q4.out.below hbb)
    have L5 := Lib.hid (L4.out.below hbb)
    have BW := Lib.hid (B4.out.trans (hbb.mono (by omega)))
    obtain ⟨c0, c1, c2⟩ := X5.out.cells
    obtain ⟨k0, k1⟩ := Q5.out.cells
    clear hall hbb
    by_cases hil : i < SR.length
    · obtain ⟨u, hu, hrx, hcx, hcx2⟩ := L5.out.at_ hil
      obtain ⟨ua, uc⟩ := u
      rw [List.drop_zero] at hrx hcx
      obtain ⟨ob, ooff, rfl, _, hob, hoc⟩ := (R4.out.below BB.out (by omega)).at_ (k := i) (by rw [cellsL_len L5.out.len]; exact hil)
      have p0 := hoc i _ (cellsL_at (nd := 0) hu hil)
      unfold slV7 at p0
      rw [List.drop_zero] at p0
      have HIX := Lib.hid (HSO.out.open_ _ (List.getElem_mem hil))
      have hx10 : SR[i].length ≤ 10 := by have := M.isO_len HV.out HIX.out; omega
      have HU := Lib.hid hu
      have HNXT := Lib.hid (fun (hq : M.winsB m SR[i] = false) => show ∀ j (hj : j < SR.length), j < i + 1 → M.winsB m SR[j] = false from fun j hj hji => by
        rcases Nat.lt_or_ge j i with h | h
        · exact HA.out j hj h
        · obtain rfl : j = i := by omega
          exact hq)
      have HFD := Lib.hid (fun (hq : M.winsB m SR[i] = true) => M.fst_yes hil HA.out hq)
      have HGV := Lib.hid (fun h0 => L5.out.give hil hu h0)
      have HIZ := Lib.hid (show 0 < i ∨ SR[i].drop 0 = [] ∨ True from .inr (.inr trivial))
      have hobw : ob < wr.heap.size := by omega
      rw [List.drop_zero] at HGV
      obtain ⟨x, hx⟩ : ∃ x, x = SR[i] := ⟨_, rfl⟩
      have HXE := Lib.hid hx
      rw [← hx] at p0 hrx hcx HIX hx10 HFD HNXT HGV
      have RX := Lib.hid hrx
      clear hoc hu hrx hx HIZ
      go_upto_region 5 with fail
      refine wp_region_late2 (fun (wq : World) => wq.cell? ⟨w.heap.size, 0, none⟩ = some (.int .i64 m.size) ∧ wq.cell? ⟨w.heap.size, 1, none⟩ = some (.slice a m.doors.length c) ∧ wq.cell? ⟨w.heap.size, 2, none⟩ = some (.slice b m.keys.length d) ∧ wq.cell? ⟨sb, 0, none⟩ = some (.slice (some ⟨ob, ooff, none⟩) SR.length co) ∧ wq.cell? ⟨ob, ooff + i, none⟩ = some (.slice ua x.length uc)) [] 7 #[false, false, false, false, false, false, false] rfl rfl (by kernel_rfl) ?_
      have hS : (fun (wq : World) => wq.cell? ⟨w.heap.size, 0, none⟩ = some (.int .i64 m.size) ∧ wq.cell? ⟨w.heap.size, 1, none⟩ = some (.slice a m.doors.length c) ∧ wq.cell? ⟨w.heap.size, 2, none⟩ = some (.slice b m.keys.length d) ∧ wq.cell? ⟨sb, 0, none⟩ = some (.slice (some ⟨ob, ooff, none⟩) SR.length co) ∧ wq.cell? ⟨ob, ooff + i, none⟩ = some (.slice ua x.length uc)) wr.drew := ⟨c0, c1, c2, k0, p0⟩
      refine wpAnyL_take (i := 0) (oi := { dst := some 17, op := Go.Op.load 29 (Go.Operand.tmp 2), type := 29, pos := "l7_spent.go:211", after := #[], guard := none }) (v := ?fv0) rfl (by kernel_rfl) (by kernel_rfl) (by kernel_rfl) (by kernel_rfl) (fun _ _ _ h => h) (Or.inl ⟨by rfl, ?fh0⟩) hS ?fr0
      case fh0 => (intro wS hSw; (try dsimp only at hSw); go_split_ands; go_simp; try with_reducible rfl)
      try simp only [Act.put, List.setIfInBounds_toArray, List.set_cons_zero, List.set_cons_succ]
      refine wpAnyL_take (i := 1) (oi := { dst := some 18, op := Go.Op.fieldAddr 62 (Go.Operand.tmp 5) 0, type := 0, pos := "l7_spent.go:211", after := #[], guard := none }) (v := ?fv1) rfl (by kernel_rfl) (by kernel_rfl) (by kernel_rfl) (by kernel_rfl) (fun _ _ _ h => h) (Or.inl ⟨by rfl, ?fh1⟩) hS ?fr1
      case fh1 => (intro wS hSw; (try dsimp only at hSw); go_split_ands; go_simp; try with_reducible rfl)
      try simp only [Act.put, List.setIfInBounds_toArray, List.set_cons_zero, List.set_cons_succ]
      refine wpAnyL_take (i := 2) (oi := { dst := some 19, op := Go.Op.load 60 (Go.Operand.tmp 18), type := 60, pos := "l7_spent.go:211", after := #[{ on := 1, ground := Go.Ground.data }], guard := none }) (v := ?fv2) rfl (by kernel_rfl) (by kernel_rfl) (by kernel_rfl) (by kernel_rfl) (fun _ _ _ h => h) (Or.inl ⟨by rfl, ?fh2⟩) hS ?fr2
      case fh2 => (intro wS hSw; (try dsimp only at hSw); go_split_ands; go_simp; try with_reducible rfl)
      try simp only [Act.put, List.setIfInBounds_toArray, List.set_cons_zero, List.set_cons_succ]
      refine wpAnyL_take (i := 3) (oi := { dst := some 20, op := Go.Op.move (Go.Operand.tmp 6), type := 3, pos := "l7_spent.go:211", after := #[], guard := none }) (v := ?fv3) rfl (by kernel_rfl) (by kernel_rfl) (by kernel_rfl) (by kernel_rfl) (fun _ _ _ h => h) (Or.inl ⟨by rfl, ?fh3⟩) hS ?fr3
      case fh3 => (intro wS hSw; (try dsimp only at hSw); go_split_ands; go_simp; try with_reducible rfl)
      try simp only [Act.put, List.setIfInBounds_toArray, List.set_cons_zero, List.set_cons_succ]
      refine wpAnyL_take (i := 4) (oi := { dst := some 21, op := Go.Op.indexAddr 60 (Go.Operand.tmp 19) (Go.Operand.tmp 20), type := 0, pos := "l7_spent.go:211", after := #[{ on := 2, ground := Go.Ground.data }, { on := 3, ground := Go.Ground.data }], guard := none }) (v := ?fv4) rfl (by kernel_rfl) (by kernel_rfl) (by kernel_rfl) (by kernel_rfl) (fun _ _ _ h => h) (Or.inl ⟨by rfl, ?fh4⟩) hS ?fr4
      case fh4 => (intro wS hSw; (try dsimp only at hSw); go_split_ands; go_simp; try with_reducible rfl)
      try simp only [Act.put, List.setIfInBounds_toArray, List.set_cons_zero, List.set_cons_succ]
      refine wpAnyL_take (i := 5) (oi := { dst := some 22, op := Go.Op.load 23 (Go.Operand.tmp 21), type := 23, pos := "l7_spent.go:211", after := #[{ on := 4, ground := Go.Ground.data }], guard := none }) (v := ?fv5) rfl (by kernel_rfl) (by kernel_rfl) (by kernel_rfl) (by kernel_rfl) (fun _ _ _ h => h) (Or.inl ⟨by rfl, ?fh5⟩) hS ?fr5
      case fh5 => (intro wS hSw; (try dsimp only at hSw); go_split_ands; go_simp; try with_reducible rfl)
      try simp only [Act.put, List.setIfInBounds_toArray, List.set_cons_zero, List.set_cons_succ]
      refine wpAnyL_one (i := 6) (oi := { dst := some 23, op := Go.Op.call { callee := Go.Callee.value (Go.Operand.func 69), args := #[Go.Operand.tmp 17, Go.Operand.tmp 22], argTypes := #[29, 23] }, type := 4, pos := "l7_spent.go:211", after := #[{ on := 0, ground := Go.Ground.data }, { on := 5, ground := Go.Ground.data }], guard := none }) (by kernel_rfl) rfl (fun Kf6 hKf6 => ?_)
      refine step_call (by rfl) 69 #[.agg #[.int .i64 m.size, .slice a m.doors.length c, .slice b m.keys.length d], .slice ua x.length uc] (by go_simp; try rfl) (wins7_any wr.drew lo hi m a b c d (H.out.below (BW.out.drew) hz) (by show hi ≤ wr.heap.size; omega) HV.out 0 wr.drew.heap.size ua uc x RX.out.row (Nat.le_refl _) (by omega) hcx) ?_
      rintro e w5 ⟨rfl, hb5⟩
      refine ⟨_, rfl, ?_⟩
      have hbw5x : Below wr.heap.size wr w5 := (Below.refl wr.heap.size wr).drew.trans hb5
      have hzw5 := hbw5x.size
      have hsw5 : (fun (wq : World) => wq.cell? ⟨w.heap.size, 0, none⟩ = some (.int .i64 m.size) ∧ wq.cell? ⟨w.heap.size, 1, none⟩ = some (.slice a m.doors.length c) ∧ wq.cell? ⟨w.heap.size, 2, none⟩ = some (.slice b m.keys.length d) ∧ wq.cell? ⟨sb, 0, none⟩ = some (.slice (some ⟨ob, ooff, none⟩) SR.length co) ∧ wq.cell? ⟨ob, ooff + i, none⟩ = some (.slice ua x.length uc)) w5 := ⟨(hbw5x.cell (p := ⟨w.heap.size, 0, none⟩) (show w.heap.size < _ by omega)).trans c0, (hbw5x.cell (p := ⟨w.heap.size, 1, none⟩) (show w.heap.size < _ by omega)).trans c1, (hbw5x.cell (p := ⟨w.heap.size, 2, none⟩) (show w.heap.size < _ by omega)).trans c2, (hbw5x.cell (p := ⟨sb, 0, none⟩) (show sb < _ by omega)).trans k0, (hbw5x.cell (p := ⟨ob, ooff + i, none⟩) (show ob < _ by omega)).trans p0⟩
      refine hKf6 _ _ (fun _ => hsw5) ?_
      clear hS
      have hS := hsw5
      try simp only [Act.put, List.setIfInBounds_toArray, List.set_cons_zero, List.set_cons_succ]
      refine wpAnyL_done (by kernel_rfl) ?_ _
      cases q1 : M.winsB m x with
      | false =>
        have HQ := Lib.hid q1
        clear q1
        go_wp2_with fail
        go_roundw
        case rel => exact ⟨i + 1, by omega, by go_num, HNXT.out HQ.out, BB.out.trans (hbw5x.mono hzr)⟩
        case measure => simp [intOf]; omega
      | true =>
        have HF2 := Lib.hid (HFD.out q1)
        have BE := Lib.hid (BW.out.trans (hbw5x.mono (by omega)))
        clear q1
        go_wp2_with fail
        go_ret
        exact ⟨by rw [show M.hopeB m begun = true by unfold M.hopeB; rw [HSR.out, HF2.out.2]]; rfl, BE.out⟩
    · have hie : i = SR.length := by omega
      have HNF := Lib.hid (M.fst_no (p := M.winsB m) (L := SR) fun j hj => HA.out j hj (by omega))
      clear hie
      go_wp2_with fail
      go_ret
      exact ⟨by rw [show M.hopeB m begun = false by unfold M.hopeB; rw [HSR.out, HNF.out.2]]; rfl, BW.out⟩
theorem specAll_lw (w : World) (lo hi : Nat) (m : M.Mz) (a b : Option Addr) (c d : Nat) (h : MzIn lo hi w m a c b d) (hz : hi ≤ w.heap.size) (_h1 : m.doors.length ≤ 1048576) (_h2 : m.keys.length ≤ 1048576) :
    Calls Try.prog 48 #[.agg #[.int .i64 m.size, .slice a m.doors.length c, .slice b m.keys.length d]] w (BoolOkPost w (M.allV m) (M.goodB m)) := by
  have H := Lib.hid h
  clear h
  go_enter Try.func48, Try.ntmps48
  go_upto_region 1 with fail
  refine wp_named ?_
  intro W hW
  have X1 := Lib.hid (show Box3 W w.heap.size 29 (.int .i64 m.size) (.slice a m.doors.length c) (.slice b m.keys.length d) by rw [hW]; exact Box3.new _ _ _ _ rfl)
  have HB := Lib.hid (show Below w.heap.size w W by rw [hW]; exact below_alloc _ _)
  clear hW
  have hzw := HB.out.size
  have hxl := X1.out.lt
  obtain ⟨c0, c1, c2⟩ := X1.out.cells
  go_wp2_with fail
  refine (l7Good_any W lo hi m a b c d (H.out.below HB.out hz) (by omega)).mono ?_
  rintro e w1 ⟨rfl, hb1⟩
  have X2 := Lib.hid (X1.out.below hb1)
  have B2 := Lib.hid (HB.out.trans (hb1.mono hzw))
  have hz1 := hb1.size
  clear hb1 c0 c1 c2
  cases q0 : M.goodB m with
  | false =>
    have HG := Lib.hid q0
    clear q0
    go_wp2_with fail
    go_ret2
    exact ⟨by rw [HG.out, show M.allV m = false by unfold M.allV; rw [HG.out]; rfl]; rfl, B2.out⟩
  | true =>
    have HG := Lib.hid q0
    have HV := Lib.hid (M.valid_of (M.good_maze q0))
    have hf := M.good_few q0
    obtain ⟨c0, c1, c2⟩ := X2.out.cells
    clear q0
    go_wp2_with fail
    refine (search7_any (w1.alloc (.cells #[] 3)) lo hi m a b c d (H.out.below (B2.out.alloc (by omega) _) hz) (by simp; omega) HV.out hf 0 0 (some ⟨w1.heap.size, 0, none⟩) 0 [] (.inl rfl) (Nat.zero_le _) rfl (Nat.le_refl _) (by omega)).mono ?_
    rintro e w3 ⟨U, ao, co, ac, cc, rfl, hro, hrc, ho1, ho2, hc1, hc2, hls, hb3⟩
    have hsz3 := hb3.size
    simp only [World.size_alloc] at hsz3 hro hrc
    have HRO := Lib.hid hro
    have HLS := Lib.hid hls
    have B3 := Lib.hid ((B2.out.alloc (by omega) _).trans (hb3.mono (by simp; omega)))
    have X3 := Lib.hid ((X2.out.alloc _).below hb3)
    have HSO := Lib.hid (M.srchL_ok hf (begun := []) rfl)
    have hlen := HSO.out.len hf
    have HRC := Lib.hid hrc
    clear hb3 hro hls c0 c1 c2 hrc
    have HAV := Lib.hid (show M.allV m = M.memB (M.codesL m (M.srchL m [])) (((2 ^ (M.lockL m).length - 1 : Nat)) : Int) by unfold M.allV; rw [HG.out, M.all_codes m (M.srchL m [])]; rfl)
    obtain ⟨c0, c1, c2⟩ := X3.out.cells
    have hclen := M.codesL_len m (M.srchL m [])
    have hfd := field7
    generalize M.srchL m [] = SR at *
    go_wp2_with fail
    refine (l7Locks_any w3 lo hi m a b c d (H.out.below B3.out hz) (by omega) HV.out).mono ?_
    rintro e w5 ⟨la, lc, rfl, hl, hl1, hl2, hb5⟩
    have B5 := Lib.hid (B3.out.trans (hb5.mono (by omega)))
    have R5 := Lib.hid (HRC.out.below hb5 (Nat.le_refl _))
    have hsh : wrap64 (2 ^ (M.lockL m).length) = (2 : Int) ^ (M.lockL m).length := by rw [M.wrap_pow (Nat.lt_of_le_of_lt hf (by decide))]; simp
    have hsb : (2 : Int) ^ (M.lockL m).length - 1 = ((2 ^ (M.lockL m).length - 1 : Nat) : Int) := by
      have hp1 : 1 ≤ (2 : Nat) ^ (M.lockL m).length := Nat.one_le_two_pow
      have he : ((2 ^ (M.lockL m).length : Nat) : Int) = (2 : Int) ^ (M.lockL m).length := by simp
      rw [← he]
      generalize (2 : Nat) ^ (M.lockL m).length = pw at *
      omega
    have hqb : (2 : Nat) ^ (M.lockL m).length - 1 ≤ 1024 := by
      have hpw : (2 : Nat) ^ (M.lockL m).length ≤ 2 ^ 10 := Nat.pow_le_pow_right (by decide) hf
      rw [show (2 : Nat) ^ 10 = 1024 from rfl] at hpw
      omega
    clear hl hb5 c0 c1 c2
    generalize (2 : Nat) ^ (M.lockL m).length - 1 = qw at *
    generalize (M.lockL m).length = ln at *
    go_wp2_with fail
    have hh := l1Has_any w5 _ _ ac cc (M.codesL m SR) (qw : Int) R5.out (by omega)
    rw [hclen] at hh
    refine hh.mono ?_
    rintro e w6 ⟨rfl, rfl⟩
    clear hh hclen
    go_wp2_with fail
    go_ret2
    exact ⟨by rw [HG.out, HAV.out]; rfl, B5.out⟩
end C
end Go.Proofs.Ythgmkkkfhbjhoaa
