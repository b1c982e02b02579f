/-
  WORDS for the worlds of a single maze, own to these proofs. No condition but those of each text.
-/
import Derived.Test.YtbcobheiofajeaaWlM
import Derived.Test.YtbcobheiofajeaaSpecMaze
import Derived.Test.YtbcobheiofajeaaWrdI
namespace Go.Proofs.Ytbcobheiofajeaa
set_option linter.unusedVariables false
open Go.RowKit
namespace M
noncomputable def aloneV (m : Mz) : Wl := if mazeB m then aloneW m else C.wl0
theorem alone_off {m : Mz} (h : mazeB m = false) : aloneV m = C.wl0 := by unfold aloneV; rw [h]; rfl
theorem alone_on {m : Mz} (h : mazeB m = true) : aloneV m = aloneW m := by unfold aloneV; rw [if_pos h]
theorem alone_sz {m : Mz} (h : m.doors.length + m.keys.length ≤ 1048576) : szW (aloneV m) ≤ 1048576 := by
  cases hm : mazeB m with
  | false => rw [alone_off hm]; exact Nat.zero_le _
  | true =>
    have V := valid_of hm
    have v12 := V.size12
    have hk := V.keysLen
    have hf := V.few
    rw [alone_on hm]
    unfold aloneW szW sumN szM1
    simp only [List.length_cons, List.length_nil, List.map_cons, List.map_nil, List.sum_cons, List.sum_nil, List.length_replicate]
    have v1 := V.size1
    omega
end M
namespace C
def Box1w (w : World) (g : Nat) (T : TypeId) (x : Value) : Prop := w.heap[g]? = some (.cells #[x] T (0, 0))
section
variable {w w' : World} {g : Nat} {T : TypeId} {x y z : Value}
theorem Box1w.lt (h : Box1w w g T x) : g < w.heap.size := heap_lt h
theorem Box1w.new (T : TypeId) (x : Value) (hg : g = w.heap.size) : Box1w (w.alloc (.cells #[x] T)) g T x := by subst hg; exact heap_alloc_new w _
theorem Box1w.below (h : Box1w w g T x) (t : Below w.heap.size w w') : Box1w w' g T x := (t.block g h.lt).trans h
theorem Box1w.turned {lo hi : Nat} (h : Box1w w g T x) (t : Turned lo hi w w') (hd : g < lo ∨ hi ≤ g) : Box1w w' g T x := (t.block g h.lt hd).trans h
theorem own_of_box3 {lo hi : Nat} (h : Box3 w g T x y z) (h1 : lo ≤ g) (h2 : g < hi) : OwnAt lo hi w T (some ⟨g, 0, none⟩) [x, y, z] :=
  .inr ⟨g, 0, _, rfl, h1, h2, h, fun i u hu => by rw [Nat.zero_add]; simpa using hu⟩
theorem own_of_box1 {lo hi : Nat} (h : Box1w w g T x) (h1 : lo ≤ g) (h2 : g < hi) : OwnAt lo hi w T (some ⟨g, 0, none⟩) [x] :=
  .inr ⟨g, 0, _, rfl, h1, h2, h, fun i u hu => by rw [Nat.zero_add]; simpa using hu⟩
end
theorem made_ints (n : Nat) : (madeCells (Value.int .i64 0).cells (n * 1)).toList = M.encIs (List.replicate n 0) := by
  refine List.ext_getElem? fun k => ?_
  unfold madeCells M.encIs
  rcases Nat.lt_or_ge k n with h | h
  · simp [h, Value.cells, Nat.mod_one]
  · simp [h]
theorem alone_end {w W : World} {m : M.Mz} {pa pb : Option Addr} {pc pd l2 u2 g1 g2 gm n : Nat} (hm : M.mazeB m = true) (hn : m.size = (n : Int)) (hmo : MzOwn l2 u2 W m pa pc pb pd) (hz : OwnAt gm (gm + 1) W 3 (some ⟨gm, 0, none⟩) (M.encIs (List.replicate n 0))) (h1 : Box3 W g1 55 (.int .i64 m.size) (.slice pa m.doors.length pc) (.slice pb m.keys.length pd)) (h2 : Box1w W g2 39 (.slice (some ⟨gm, 0, none⟩) n n))
    (off : gm + 1 ≤ l2 ∨ u2 ≤ gm) (b1 : w.heap.size ≤ l2) (b2 : u2 ≤ W.heap.size) (b3 : w.heap.size ≤ gm) (b4 : gm < W.heap.size) (b5 : w.heap.size ≤ g1) (b6 : w.heap.size ≤ g2) (hb : Below w.heap.size w W) :
    WlOkPost w (M.aloneV m) (M.mazeB m) (.returned (.tuple #[.agg #[.slice (some ⟨g1, 0, none⟩) 1 1, .slice (some ⟨g2, 0, none⟩) 1 1], .bool true])) W := by
  rw [hm, M.alone_on hm]
  have v12 := (M.valid_of hm).size12
  have hnt : m.size.toNat = n := by omega
  refine ⟨_, _, _, _, rfl, ⟨⟨[(m, pa, pc, pb, pd)], [(List.replicate n 0, some ⟨gm, 0, none⟩, n)], fun _ => (l2, u2), fun _ => (gm, gm + 1), rfl, by unfold M.aloneW; rw [hnt]; rfl, own_of_box3 h1 b5 h1.lt, ?_, ⟨fun i p hp => ?_, fun i p hp => ?_, fun i j hi hj hne => ?_, fun i j hi hj hne => ?_, fun i j hi hj => ?_⟩⟩, Nat.le_refl _, by omega, Nat.le_refl _, by omega⟩, hb⟩
  · have := own_of_box1 h2 b6 h2.lt
    unfold encOs encO1
    simp only [List.map_cons, List.map_nil, List.length_replicate]
    exact this
  · rcases i with _ | i
    · simp at hp; subst hp; exact ⟨hmo, b1, b2⟩
    · simp at hp
  · rcases i with _ | i
    · simp at hp; subst hp
      exact ⟨⟨hz, by show (List.replicate n (0 : Int)).length ≤ n; rw [List.length_replicate]; exact Nat.le_refl _, by show n ≤ _; omega⟩, b3, by show gm + 1 ≤ _; omega⟩
    · simp at hp
  · have : i < 1 := hi
    have : j < 1 := hj
    omega
  · have : i < 1 := hi
    have : j < 1 := hj
    omega
  · show u2 ≤ gm ∨ gm + 1 ≤ l2
    omega
theorem step_make {P : Program} {w : World} {ops : Array Oper} {o : Oper} {a : Act} {K : Act → World → Prop} {Q : Exit → Act → World → Prop} {E : Prop} (hgd : o.guard = none) (l c : Operand) (t : TypeId) (hop : o.op = Op.makeSlice t l c)
    (base : Nat) (e : TypeId) (i : TypeInfo) (z : Value) (size : Nat) (h1 : P.underlying t = some (.slice e)) (h2 : P.info? e = some i) (h3 : i.zero = some z) (h4 : i.size = size)
    (kl kc : IntKind) (L C : Int) (n : Nat) (hl : a.eval l = .int kl L) (hc : a.eval c = .int kc C) (hL : L = (n : Int)) (hC : C = (n : Int)) (b2 : i.bytes * n ≤ 281474976710656) (b3 : n ≤ maxLen) (b4 : base ≤ w.heap.size)
    (hK : ∀ w', w'.ownsRow base e size (.slice (some ⟨w.heap.size, 0, none⟩) n n) n (madeCells z.cells (n * size)).toList → w.grownBy w' none → K (a.put o.dst (.slice (some ⟨w.heap.size, 0, none⟩) n n)) w') :
    if Region.wanted o (yielded ops a.tmps) = true then Oper.wp P o a w K Q else E := by
  have hw : Region.wanted o (yielded ops a.tmps) = true := by simp [Region.wanted, hgd]
  rw [if_pos hw]
  obtain ⟨w', hrun, r1, r2⟩ := run_make_full (P := P) w base t e i z size h1 h2 h3 h4 kl kc n b2 b3 b4
  subst hL
  subst hC
  unfold Oper.wp
  simp [execOp, hop, hl, hc, hrun, Result.andThen]
  exact hK w' r1 r2
end C
end Go.Proofs.Ytbcobheiofajeaa
