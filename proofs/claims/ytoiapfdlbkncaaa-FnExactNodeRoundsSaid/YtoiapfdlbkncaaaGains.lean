/-
  CONTRACT of impl.Maze.gainsOf: the pairs of nodes and colours that one has at first and behind each round that changes them, in a new list; what lay in memory stays. Condition: a valid maze, a set of colours.
-/
import Derived.Test.YtoiapfdlbkncaaaPlay
import Derived.Test.YtoiapfdlbkncaaaOwnMaz3
import Derived.Laws.StructEq
import Derived.ProofKit
namespace Go.Proofs.Ytoiapfdlbkncaaa
open Go.RowKit
namespace M
abbrev Gn := Int × Int
def encG (p : Gn) : List Value := [.int .i64 p.1, .int .i64 p.2]
def encGs (l : List Gn) : List Value := l.flatMap encG
theorem encGs_len (l : List Gn) : (encGs l).length = l.length * 2 := by
  unfold encGs; induction l with
  | nil => rfl
  | cons d l ih => simp [encG, ih]; omega
theorem encGs_cons (d : Gn) (l : List Gn) : encGs (d :: l) = encG d ++ encGs l := by simp [encGs]
theorem encGs_append (a b : List Gn) : encGs (a ++ b) = encGs a ++ encGs b := by simp [encGs]
theorem encGs_at {l : List Gn} {k : Nat} (h : k < l.length) (j : Nat) (hj : j < 2) : (encGs l)[k * 2 + j]? = (encG l[k])[j]? := by
  induction l generalizing k with
  | nil => simp at h
  | cons d l ih =>
    rw [encGs_cons]
    cases k with
    | zero =>
      rw [Nat.zero_mul, Nat.zero_add, List.getElem?_append_left (by simp [encG]; omega)]
      rfl
    | succ k =>
      rw [List.getElem?_append_right (by simp [encG]; omega)]
      have e : (k + 1) * 2 + j - (encG d).length = k * 2 + j := by simp [encG]; omega
      rw [e, ih (by simpa using h)]
      simp
theorem encGs_at0 {l : List Gn} {k : Nat} (h : k < l.length) : (encGs l)[k * 2]? = some (.int .i64 l[k].1) := encGs_at h 0 (by omega)
theorem encGs_at1 {l : List Gn} {k : Nat} (h : k < l.length) : (encGs l)[k * 2 + 1]? = some (.int .i64 l[k].2) := encGs_at h 1 (by omega)
theorem encGs_one (l : List Gn) : ∀ x ∈ encGs l, x.oneCell' = true := by
  intro x hx
  unfold encGs at hx
  obtain ⟨p, _, hp⟩ := List.mem_flatMap.1 hx
  simp [encG] at hp
  rcases hp with rfl | rfl <;> rfl
/-- the program's pairs -/
noncomputable def pairAt (m : Mz) (s : Int) (i : Nat) : Gn := ((gn m s i : Nat), it m s i)
noncomputable def gainsTo (m : Mz) (s : Int) (k : Nat) : List Gn := (List.range (k + 1)).map (pairAt m s)
theorem gainsTo_succ (m : Mz) (s : Int) (k : Nat) : gainsTo m s (k + 1) = gainsTo m s k ++ [pairAt m s (k + 1)] := by unfold gainsTo; rw [List.range_succ (n := k + 1), List.map_append]; rfl
theorem gainsTo_len (m : Mz) (s : Int) (k : Nat) : (gainsTo m s k).length = k + 1 := by unfold gainsTo; simp
theorem gainsTo_at (m : Mz) (s : Int) {k i : Nat} (h : i < (gainsTo m s k).length) : (gainsTo m s k)[i]'h = pairAt m s i := by
  have h' := h
  rw [gainsTo_len] at h'
  have : (gainsTo m s k)[i]? = some (pairAt m s i) := by unfold gainsTo; rw [List.getElem?_map, List.getElem?_range h']; rfl
  rw [List.getElem?_eq_getElem h] at this
  exact Option.some.inj this
end M
namespace C
set_option maxHeartbeats 3200000
set_option maxRecDepth 20000
theorem eqTG : Try.prog.eqGuardType Try.prog.depth 65 = false := by kernel_rfl
theorem eqG (a b c d : Int) (w : World) : (Op.equalIn 10000 65 (.agg #[.int .i64 a, .int .i64 b]) (.agg #[.int .i64 c, .int .i64 d])).run Try.prog w = .ok (a == c && b == d) w := by
  have u3 := Try.underlying3
  have a3 := Try.isAgg3
  have z3 := Try.sizeOf3
  rw [show (10000 : Nat) = 9999 + 1 from rfl, run_equalIn_agg (P := Try.prog) w 9999 65 _ _ (by kernel_rfl) (by kernel_rfl)]
  simp only [Program.fieldsOf, Try.underlying65]
  go_simp
  by_cases h1 : a = c <;> by_cases h2 : b = d <;> simp [h1, h2]
theorem infoG : (Try.prog.info? 65).map (fun i => (i.zero, i.size, i.bytes)) = some (some (.agg #[.int .i64 0, .int .i64 0]), 2, 16) := by kernel_rfl
def sliceLen : Value → Nat
  | .slice _ n _ => n
  | _ => 0
def GainsPost (w : World) (l : List M.Gn) (e : Ending) (w' : World) : Prop :=
  ∃ a c, e = .returned (.slice a l.length c) ∧ OwnAt w.heap.size w'.heap.size w' 65 a (M.encGs l) ∧ l.length ≤ c ∧ c ≤ 9223372036854775807 ∧ Below w.heap.size w w'
theorem gains_end {w w' : World} {l : List M.Gn} {n : Nat} {v : Value} (h : w'.ownsRow w.heap.size 65 2 v n (M.encGs l)) (hn : n = l.length) (hb : Below w.heap.size w w') : GainsPost w l (.returned v) w' := by
  subst hn
  have h0 := h
  obtain ⟨a, c, rfl, h1, h2, _⟩ := own_slice h
  exact ⟨a, c, rfl, OwnAt.of_own h0, h1, h2, hb⟩
theorem newsG {w : World} {g : Nat} {x y : Value} (h : Box2 w g 65 x y) : ∀ j u, ([x, y])[j]? = some u → w.cell? ((⟨g, 0, none⟩ : Addr).add j) = some u := World.news_of_block h
theorem ownsRow_gain (w : World) (B : Nat) (x y : Value) (hB : B ≤ w.heap.size) : (w.alloc (.cells #[x, y] 65)).ownsRow B 65 2 (.slice (some ⟨w.heap.size, 0, none⟩) 1 1) 1 [x, y] :=
  ⟨by simp, .inr ⟨w.heap.size, 1, #[x, y], rfl, hB, heap_alloc_new w _, Nat.le_refl _, by unfold maxLen; omega, by simp, by simp⟩⟩
theorem gainsOf_any (w : World) (lo hi : Nat) (m : M.Mz) (a b : Option Addr) (c d : Nat) (h : MzIn lo hi w m a c b d) (hz : hi ≤ w.heap.size) (V : M.Valid m) (s : Int) (h0 : 0 ≤ s) (h1 : s < 64) :
    Calls Try.prog 73 #[.agg #[.int .i64 m.size, .slice a m.doors.length c, .slice b m.keys.length d], .int .i64 s] w (GainsPost w (M.gainsTo m s (M.lastG m s))) := by
  obtain ⟨i0, hi0, hz0, hz1, hz2⟩ := info_parts infoG
  have H := Lib.hid h
  have HVA := Lib.hid V
  have hlg := M.lastG_le m s
  have HLI := Lib.hid (fun (k : Nat) (hk : k ≤ M.lastG m s) => M.lastG_iff V ⟨h0, h1⟩ hk)
  clear h V
  go_enter Try.func73, Try.ntmps73
  go_wp2_with fail
  refine wp_named ?_
  intro W hW
  have hb : Below w.heap.size w W := by rw [hW]; exact (below_alloc _ _).alloc (by simp) _
  have x1 : Box3 W w.heap.size 29 (.int .i64 m.size) (.slice a m.doors.length c) (.slice b m.keys.length d) := by rw [hW]; exact (Box3.new _ _ _ _ rfl).alloc _
  have o1 : W.ownsRow w.heap.size 65 2 (.slice (some ⟨w.heap.size + 1, 0, none⟩) 1 1) 1 (M.encGs (M.gainsTo m s 0)) := by
    rw [hW]
    have := ownsRow_gain (w.alloc (.cells #[.int .i64 m.size, .slice a m.doors.length c, .slice b m.keys.length d] 29)) w.heap.size (.int .i64 0) (.int .i64 s) (by simp)
    rw [World.size_alloc] at this
    exact this
  clear hW
  have X1 := Lib.hid x1
  have O1 := Lib.hid o1
  have HB := Lib.hid hb
  clear x1 o1 hb
  go_loopw [5] (fun v5 wr => ∃ (k : Nat), k ≤ M.lastG m s ∧ wr.ownsRow w.heap.size 65 2 v5 (k + 1) (M.encGs (M.gainsTo m s k)) ∧ Box3 wr w.heap.size 29 (.int .i64 m.size) (.slice a m.doors.length c) (.slice b m.keys.length d) ∧ Below w.heap.size w wr) (fun v5 _ => 70 - sliceLen v5)
  case atStart => exact ⟨0, Nat.zero_le _, O1.out, X1.out, HB.out⟩
  case round =>
    obtain ⟨k, hk, ho, hx, hlow⟩ := hrel
    obtain ⟨la, lc, hv, hl1, hl2, hlr⟩ := own_slice ho
    subst hv
    have HO := Lib.hid ho
    have X7 := Lib.hid hx
    have B7 := Lib.hid hlow
    have hzr := hlow.size
    obtain ⟨lb, loff, hla, hlb1, hlb2, hlc⟩ := hlr.row.at_ (k := k * 2) (by rw [M.encGs_len, M.gainsTo_len]; omega)
    have hkl : k < (M.gainsTo m s k).length := by rw [M.gainsTo_len]; omega
    have gx0 := hlc _ _ (M.encGs_at0 hkl)
    have gx1 : wr.cell? ⟨lb, loff + k * 2 + 1, none⟩ = _ := hlc _ _ (M.encGs_at1 hkl)
    rw [M.gainsTo_at] at gx0 gx1
    have hgi := HLI.out k hk
    subst hla
    obtain ⟨c0, c1, c2⟩ := hx.cells
    have hbl := hx.lt
    clear ho hx hlow hlr hlc
    have e1 : (M.pairAt m s k).1 = ((M.gn m s k : Nat) : Int) := rfl
    have e2 : (M.pairAt m s k).2 = M.it m s k := rfl
    have e3 : M.nextC m (M.it m s k) = M.it m s (k + 1) := rfl
    have e4 : ((M.mk (M.reachOf m 0 (M.it m s k)) : Nat) : Int) = ((M.gn m s (k + 1) : Nat) : Int) := rfl
    rw [e1] at gx0
    rw [e2] at gx1
    clear e1 e2
    have HP := Lib.hid (fun W' (hq : Below wr.heap.size wr W') => playRound_any W' lo hi m a b c d (H.out.below (B7.out.trans (hq.mono hzr)) hz) (by have := hq.size; omega) HVA.out (M.gn m s k : Nat) (M.it m s k) (M.it_set HVA.out ⟨h0, h1⟩ k))
    rw [e3, e4] at HP
    clear e3 e4
    have HGS := Lib.hid (M.gainsTo_succ m s k)
    have hpe : M.pairAt m s (k + 1) = (((M.gn m s (k + 1) : Nat) : Int), M.it m s (k + 1)) := rfl
    rw [hpe] at HGS
    clear hpe
    generalize M.gn m s k = n0 at *
    generalize M.it m s k = s0 at *
    generalize M.gn m s (k + 1) = n1 at *
    generalize M.it m s (k + 1) = s1 at *
    go_wp2_with fail
    refine (HP.out _ (below_alloc _ _)).mono ?_
    rintro e w5 ⟨rfl, hb5⟩
    have hbw5 : Below wr.heap.size wr w5 := (below_alloc wr _).trans (hb5.mono (by simp))
    have n5 := (Box2.new (w := wr) (g := wr.heap.size) 65 (.int .i64 (n0 : Nat)) (.int .i64 s0) rfl).below hb5
    have N5 := Lib.hid n5
    have X5 := Lib.hid (X7.out.below hbw5)
    have O5 := Lib.hid (own_below HO.out hbw5)
    have B5 := Lib.hid (B7.out.trans (hbw5.mono hzr))
    have hz5 := hbw5.size
    have hn5l := n5.lt
    clear hb5 hbw5 n5 c0 c1 c2 gx0 gx1
    have n6 := (N5.out.alloc (.cells #[.int .i64 (n1 : Nat), .int .i64 s1] 65)).cells
    obtain ⟨u0, u1⟩ := n6
    obtain ⟨u2, u3⟩ := (Box2.new (w := w5) (g := w5.heap.size) 65 (.int .i64 (n1 : Nat)) (.int .i64 s1) rfl).cells
    have t3 := eqTG
    have HPC := Lib.hid hgi
    clear hgi
    by_cases hkk : k = M.lastG m s
    · obtain ⟨q1, q2⟩ := HPC.out.2 hkk
      have q3 : ∀ w, (Op.equalIn 10000 65 (.agg #[.int .i64 (n1 : Nat), .int .i64 s1]) (.agg #[.int .i64 (n0 : Nat), .int .i64 s0])).run Try.prog w = .ok true w := fun w => by rw [eqG, q1, q2]; simp
      have HK := Lib.hid hkk
      clear q1 q2 hkk
      go_wp2_with fail
      go_ret
      rw [← HK.out]
      exact gains_end (O5.out.alloc _) (M.gainsTo_len m s k).symm (B5.out.alloc (by omega) _)
    · have hne : ¬ (n1 = n0 ∧ s1 = s0) := fun h => hkk (HPC.out.1 h)
      have q3 : ∀ w, (Op.equalIn 10000 65 (.agg #[.int .i64 (n1 : Nat), .int .i64 s1]) (.agg #[.int .i64 (n0 : Nat), .int .i64 s0])).run Try.prog w = .ok false w := fun w => by
        rw [eqG]
        congr 1
        rw [Bool.eq_false_iff]
        intro hh
        simp only [Bool.and_eq_true, beq_iff_eq] at hh
        exact hne ⟨by omega, hh.2⟩
      have HK := Lib.hid hkk
      clear hne hkk
      have hne2 := own_ne_box O5.out X5.out (by decide)
      have HNE := Lib.hid hne2
      clear hne2
      go_wp2_with (at_builtin; refine wpList_append_own _ rfl _ _ 62 rfl w.heap.size 65 i0 (.agg #[.int .i64 0, .int .i64 0]) 2 16 Try.underlying62 hi0 hz0 hz1 hz2 rfl (by decide) _ _ _ rfl ((O5.out.alloc _).alloc _) ⟨w5.heap.size + 1, 0, none⟩ 1 1 [.int .i64 (n1 : Nat), .int .i64 s1] rfl rfl (newsG (Box2.new _ _ _ (by simp))) (fun x hx => by simp at hx; rcases hx with rfl | rfl <;> rfl) (by unfold maxLen; omega) (by omega) (by simp; omega) ?_; intro v' w7 hown' hgrow7 hnil7)
      obtain ⟨va, vc, hva, _, _, _⟩ := own_slice hown'
      subst hva
      refine ⟨⟨k + 1, by have := HK.out; omega, ?_, ((X5.out.alloc _).alloc _).grown hgrow7 HNE.out, ((B5.out.alloc (by omega) _).alloc (by simp; omega) _).grown hgrow7 (by simp; omega) (own_base O5.out)⟩, by simp [sliceLen]; omega⟩
      rw [HGS.out, M.encGs_append]
      exact hown'
end C
end Go.Proofs.Ytoiapfdlbkncaaa
