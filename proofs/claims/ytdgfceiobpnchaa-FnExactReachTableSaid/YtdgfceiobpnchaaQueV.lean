/-
  LAWS at the operations of a walk, own to these proofs: the head taken off a queue of states, look-up and store in a map of states; CONTRACT of slices.Clone at states. No condition for the laws; for Clone at most 1048576 elements.
-/
import Derived.Test.YtdgfceiobpnchaaOwnQ
import Derived.Test.YtdgfceiobpnchaaStV
import Derived.Test.YtdgfceiobpnchaaOwnW
import Derived.Laws.AppendOwnNone
namespace Go.Proofs.Ytdgfceiobpnchaa
open Go.RowKit
namespace C
set_option maxHeartbeats 1600000
set_option maxRecDepth 20000
theorem sizeSt (w : World) : (sizeOf 71).run Try.prog w = .ok 2 w := by kernel_rfl
theorem elemSt : Try.prog.elem 92 = 71 := by kernel_rfl
section
variable {w : World} {ops : Array Oper} {rest : List Oper} {o : Oper} {a : Act} {Q : Exit → Act → World → Prop}
/-- x = x[1:] -/
theorem wpList_tailS (hg : o.guard = none) (x : Operand) (hop : o.op = Op.slice 92 x (some (.const (.int .i64 1))) none none) (B n : Nat) (v : Value) (xs ys : List Value) (hx : a.eval x = v) (h : OwnQ B w 71 2 v (n + 1) (xs ++ ys)) (hl : xs.length = 2)
    (hK : ∀ a' c', OwnQ B w 71 2 (.slice a' n c') n ys → (Value.slice a' n c').ownBlock = v.ownBlock → wpList Try.prog ops Q rest (a.put o.dst (.slice a' n c')) w) : wpList Try.prog ops Q (o :: rest) a w := by
  refine wpList_plain hg fun K' hK' => ?_
  rcases h.2 with ⟨_, h0⟩ | ⟨g, off, cap, cur, rfl, _, _, hn, _⟩
  · omega
  · obtain ⟨cap, rfl⟩ : ∃ c, cap = c + 1 := ⟨cap - 1, by omega⟩
    have ht := h.tail hl
    have hrun : (Instr.sliceAt 92 (.slice (some ⟨g, off, none⟩) (n + 1) (cap + 1)) (some (.int .i64 1)) none none).run Try.prog w = .ok (.slice (some ⟨g, if cap = 0 then off else off + 2, none⟩) n cap) w := by
      rw [run_sliceAt_slice _ _ _ _ _ _ (by rw [elemSt]; exact Try.underlying92), run_slice_l _ _ _ _ _ (by rw [elemSt]; exact Try.underlying92) _ _ (by omega) (by omega), elemSt, sizeSt]
      by_cases h0 : cap = 0
      · subst h0
        simp [Result.andThen, sliced]
      · have h1 : ¬ (cap + 1 = (1 : Int).toNat) := by simp; omega
        simp only [Result.andThen, sliced, if_neg h1, if_neg h0]
        rfl
    have he : a.eval (.const (.int .i64 1)) = .int .i64 1 := rfl
    unfold Oper.wp
    simp [execOp, hop, hx, he, hrun, Result.andThen]
    exact hK' _ _ (hK _ _ ht rfl)
/-- v, ok = m[k] -/
theorem wpList_lookS (hg : o.guard = none) (m x : Operand) (hop : o.op = Op.lookup 84 m x true) (b : Nat) (L : List M.St) (f : M.St → Option Nat) (hm : a.eval m = .map (some b)) (h : MapP w b L f) (s : M.St) (h64 : St64 s) (r : Option Nat) (hr : f s = r) (hx : a.eval x = stV s)
    (hK : wpList Try.prog ops Q rest (a.put o.dst (.tuple #[.int .i64 ((r.getD 0 : Nat) : Int), .bool r.isSome])) w) : wpList Try.prog ops Q (o :: rest) a w := by
  refine wpList_plain hg fun K' hK' => ?_
  have hrun := h.look h64
  rw [hr] at hrun
  unfold Oper.wp
  simp [execOp, hop, hm, hx, hrun, Result.andThen]
  exact hK' _ _ hK
/-- m[k] = v -/
theorem wpList_putS (hg : o.guard = none) (m x u : Operand) (hop : o.op = Op.mapUpdate 84 m x u) (b : Nat) (L : List M.St) (f : M.St → Option Nat) (hm : a.eval m = .map (some b)) (h : MapP w b L f) (s : M.St) (h64 : St64 s) (k : Nat) (hk : (k : Int) ≤ 9223372036854775807) (hn : L.length < maxLen)
    (hx : a.eval x = stV s) (hu : a.eval u = .int .i64 (k : Int)) (hK : ∀ w', MapP w' b (addK L s) (M.upd f s k) → Turned b (b + 1) w w' → wpList Try.prog ops Q rest (a.put o.dst undef) w') : wpList Try.prog ops Q (o :: rest) a w := by
  refine wpList_plain hg fun K' hK' => ?_
  obtain ⟨w', hrun, r1, r2⟩ := h.store h64 k hk hn
  unfold Oper.wp
  simp [execOp, hop, hm, hx, hu, hrun, Result.andThen]
  exact hK' _ _ (hK w' r1 (mapTurned_turned r2))
end
theorem cloneSts_any (w : World) (lo hi : Nat) (a : Option Addr) (c : Nat) (l : List M.St) (h : RowIn lo hi w a (M.encSs l)) (hz : hi ≤ w.heap.size) (hl : l.length ≤ 1048576) :
    Calls Try.prog 121 #[.slice a l.length c] w fun e w' => ∃ v, e = .returned v ∧ w'.ownsRow w.heap.size 71 2 v l.length (M.encSs l) ∧ Below w.heap.size w w' := by
  obtain ⟨i0, hi0, hz0, hz1, hz2⟩ := info_parts infoS
  have H := Lib.hid h
  clear h
  have ho := ownsRow_empty w w.heap.size 71 2 (Nat.le_refl _)
  have HO := Lib.hid ho
  clear ho
  rcases a with _ | ad
  · obtain rfl : l = [] := by
      rcases H.out with h | ⟨b, off, e, _⟩
      · exact List.eq_nil_of_length_eq_zero (by have := M.encSs_len l; rw [h] at this; simp at this; omega)
      · cases e
    have hq := fun W => Lib.run_eql_slice_nil (P := Try.prog) W 92 71 none 0 c 0 0 Try.underlying92
    go_enter Try.func121, Try.ntmps121
    go_wp2_with fail
    go_ret
    exact ⟨_, rfl, World.ownsRow_nil _ _ _ _, Below.refl _ _⟩
  · have hcells : ∀ j u, (M.encSs l)[j]? = some u → (w.alloc (.cells #[] 71)).cell? (ad.add j) = some u := by
      intro j u hu
      rcases H.out with h | ⟨b, off, e, _, hb, hc⟩
      · rw [h] at hu; simp at hu
      · injection e with e
        subst e
        have hadd : (⟨b, off, none⟩ : Addr).add j = ⟨b, off + j, none⟩ := Addr.add_lit ..
        rw [hadd]
        exact (World.cell?_alloc_lt w _ _ (show b < _ by omega)).trans (hc j u hu)
    have HC := Lib.hid hcells
    clear hcells
    have hq := fun W => Lib.run_eql_slice_nil (P := Try.prog) W 92 71 (some ad) l.length c 0 0 Try.underlying92
    go_enter Try.func121, Try.ntmps121
    go_wp2_with (at_builtin; refine wpList_append_own _ rfl _ _ 92 rfl w.heap.size 71 i0 (.agg #[.int .i64 0, .int .i64 0]) 2 16 Try.underlying92 hi0 hz0 hz1 hz2 rfl (by decide) _ _ _ rfl HO.out ad l.length c (M.encSs l) rfl (M.encSs_len l) HC.out (M.encSs_one l) (by unfold maxLen; omega) (by omega) (by simp) ?_; intro v' w3 hown' hgrow3 hnil3)
    go_ret
    exact ⟨_, rfl, by simpa using hown', (below_alloc _ _).grown hgrow3 (by simp) (own_base HO.out)⟩
end C
end Go.Proofs.Ytdgfceiobpnchaa
