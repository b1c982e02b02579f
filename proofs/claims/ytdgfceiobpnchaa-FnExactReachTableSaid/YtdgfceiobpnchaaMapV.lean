/-
  WORDS for maps from pairs of numbers to numbers, own to these proofs: what such a map holds; look-up, store, the range over it. No condition.
-/
import Derived.Test.YtdgfceiobpnchaaMem
import Derived.Test.YtdgfceiobpnchaaBaseW
import Derived.DeepKeys4
import Derived.Test.YtdgfceiobpnchaaWayMath
import Derived.Maps.RangeWalk
import Derived.WideKeyPair
namespace Go.Proofs.Ytdgfceiobpnchaa
open Go.RowKit
namespace M
abbrev St := Int × Int
end M
namespace C
theorem bounds_i64 {a : Int} (h : (Lit.int .i64 a).wf = true) : -9223372036854775808 ≤ a ∧ a ≤ 9223372036854775807 := by
  have e1 : IntKind.i64.min = -9223372036854775808 := rfl
  have e2 : IntKind.i64.max = 9223372036854775807 := rfl
  simp [Lit.wf, e1, e2] at h
  omega
def stV (s : M.St) : Value := .agg #[.int .i64 s.1, .int .i64 s.2]
def stK (s : M.St) : Lit := .string (keyBytes [.int .i64 s.1, .int .i64 s.2])
def St64 (s : M.St) : Prop := (Lit.int .i64 s.1).wf = true ∧ (Lit.int .i64 s.2).wf = true
theorem keyTV : Try.prog.keyType 71 = true := by kernel_rfl
theorem wideV : (match Try.prog.underlying 71 with | some (.array _ _) | some (.struct _) => true | _ => false) = true := by kernel_rfl
theorem rowV : (71 : TypeId) < Try.prog.types.size := of_decide_eq_true (by kernel_rfl)
theorem cellsV : Try.prog.cellsOf 71 = 2 := by kernel_rfl
theorem cellsI1 : Try.prog.cellsOf 3 = 1 := by kernel_rfl
theorem deepV : Try.prog.keyTypeAt 2 71 = true := by kernel_rfl
set_option maxRecDepth 20000 in
theorem klawV : WideMaps.KeyLaw Try.prog 71 := deep_law_laid P.laidOut (m := 2) (by omega) rowV deepV wideV
theorem lawS : Maps.Keyed Try.prog 71 := Maps.Keyed.of_law klawV
theorem sizeS : ∃ m, Try.prog.types.size = m + 1 := ⟨Try.prog.types.size - 1, by kernel_rfl⟩
theorem keyS {s : M.St} (h : St64 s) : keyOf Try.prog 71 (stV s) = some (stK s) := by
  obtain ⟨m, hm⟩ := sizeS
  have hf : (stV s).formed Try.prog 71 = true := by simp [stV, Value.formed, Try.underlying71, cellsV]
  unfold keyOf
  simp only [Try.underlying71]
  rw [if_pos (by rw [keyTV, hf]; rfl), hm]
  unfold Program.keyLits
  simp only [Try.underlying71, stV, Value.cells]
  rw [if_pos ⟨by rw [cellsV]; rfl, by simp⟩]
  simp [Program.keyLits, Try.underlying3, cellsI1, h.1, h.2, stK]
theorem litS {s : M.St} (h : St64 s) : WideAt.IsKeyLit (stK s) := lawS.key (keyS h)
theorem stK_inj {s t : M.St} (hs : St64 s) (ht : St64 t) (h : stK s = stK t) : s = t := by
  have h1 := keyS hs
  rw [h] at h1
  have := lawS.inj h1 (keyS ht)
  obtain ⟨a, b⟩ := s
  obtain ⟨c, d⟩ := t
  have e : #[Value.int .i64 a, .int .i64 b] = #[.int .i64 c, .int .i64 d] := Value.agg.inj this
  have e0 := congrArg (fun x : Array Value => x[0]?) e
  have e1 := congrArg (fun x : Array Value => x[1]?) e
  simp at e0 e1
  rw [e0, e1]
theorem zeroI2 (w : World) : (zeroValue 3).run Try.prog w = .ok (.int .i64 0) w := by kernel_rfl
theorem mapS : Try.prog.underlying 84 = some (.map 71 3) := Try.underlying84

/-- the datum holds f, of which L has the keys -/
def Holds (D : DataW Unit) (L : List M.St) (f : M.St → Option Nat) : Prop :=
  (∀ s ∈ L, St64 s) ∧ L.Nodup ∧ Maps.size D = L.length ∧ (∀ kl, Maps.has D kl = true → ∃ s ∈ L, kl = stK s) ∧
  (∀ s ∈ L, ∃ k : Nat, f s = some k ∧ Maps.has D (stK s) = true ∧ ∀ zd, D.atKey (stK s) zd = .lit (.int .i64 (k : Int))) ∧ ∀ s, s ∉ L → f s = none
/-- block b is a map that holds f, of which L has the keys -/
def MapP (w : World) (b : Nat) (L : List M.St) (f : M.St → Option Nat) : Prop := ∃ D : DataW Unit, w.ownsMap Try.prog 71 (plainElem Try.prog 3) b L.length D ∧ Holds D L f
section
variable {w w' : World} {b : Nat} {L : List M.St} {f : M.St → Option Nat}
theorem MapP.lt (h : MapP w b L f) : b < w.heap.size := by obtain ⟨D, h, _⟩ := h; exact h.lt
theorem MapP.turned {lo hi : Nat} (h : MapP w b L f) (t : Turned lo hi w w') (hd : b < lo ∨ hi ≤ b) : MapP w' b L f := by
  have hlt := h.lt
  obtain ⟨D, ⟨es, cl, hb, r⟩, hD⟩ := h
  exact ⟨D, ⟨es, cl, (t.block b hlt hd).trans hb, r⟩, hD⟩
theorem MapP.below {B : Nat} (h : MapP w b L f) (t : Below B w w') (hd : b < B) : MapP w' b L f := by
  obtain ⟨D, ⟨es, cl, hb, r⟩, hD⟩ := h
  exact ⟨D, ⟨es, cl, (t.block b hd).trans hb, r⟩, hD⟩
theorem MapP.grown {row : Option Nat} (h : MapP w b L f) (t : w.grownBy w' row) (hd : some b ≠ row) : MapP w' b L f := by
  obtain ⟨D, h, hD⟩ := h
  exact ⟨D, h.kept t hd, hD⟩
theorem MapP.made (w : World) : MapP (w.alloc (.map #[] 0)) w.heap.size [] (fun _ => none) :=
  ⟨.map [], World.ownsMap_made _ _ _ _, fun _ h => by simp at h, by simp, rfl, fun kl h => by simp [Maps.has] at h, fun _ h => by simp at h, fun _ _ => rfl⟩
theorem MapP.some_iff (h : MapP w b L f) (s : M.St) : s ∈ L ↔ ∃ k, f s = some k := by
  obtain ⟨D, _, _, _, _, _, h5, h6⟩ := h
  constructor
  · intro hs
    obtain ⟨k, hk, _⟩ := h5 s hs
    exact ⟨k, hk⟩
  · rintro ⟨k, hk⟩
    rcases Classical.em (s ∈ L) with hs | hs
    · exact hs
    · rw [h6 s hs] at hk; cases hk
theorem Holds.not {D : DataW Unit} (h : Holds D L f) {s : M.St} (h64 : St64 s) (hs : s ∉ L) : Maps.has D (stK s) = false := by
  cases e : Maps.has D (stK s) with
  | false => rfl
  | true =>
    obtain ⟨t, ht, hk⟩ := h.2.2.2.1 _ e
    exact absurd (stK_inj h64 (h.1 t ht) hk ▸ ht) hs
theorem Holds.at_ {D : DataW Unit} (h : Holds D L f) {s : M.St} (h64 : St64 s) : Maps.has D (stK s) = (f s).isSome ∧ D.atKey (stK s) (.lit (.int .i64 0)) = .lit (.int .i64 (((f s).getD 0 : Nat) : Int)) := by
  rcases Classical.em (s ∈ L) with hs | hs
  · obtain ⟨k, hk, h1, h2⟩ := h.2.2.2.2.1 s hs
    rw [hk, h1, h2]
    exact ⟨rfl, rfl⟩
  · rw [h.2.2.2.2.2 s hs, h.not h64 hs, Maps.atKey_of_not_has (h.not h64 hs)]
    exact ⟨rfl, rfl⟩
/-- 'v, ok := m[k]' -/
theorem MapP.look (h : MapP w b L f) {s : M.St} (h64 : St64 s) : (Instr.lookup 84 (.map (some b)) (stV s) true).run Try.prog w = .ok (.tuple #[.int .i64 (((f s).getD 0 : Nat) : Int), .bool (f s).isSome]) w := by
  obtain ⟨D, hD, hH⟩ := h
  obtain ⟨v, ps, hrun, hv⟩ := hD.look_ok lawS mapS (zeroI2 w) (plainElem_int Try.underlying3 (by decide)) (keyS h64)
  obtain ⟨h1, h2⟩ := hH.at_ h64
  obtain ⟨c, rfl, hc, _⟩ := plainElem_int_inv Try.underlying3 hv
  rw [h2] at hc
  simp at hc
  rw [hrun, h1, hc.1]
/-- 'm[k]' -/
theorem MapP.look1 (h : MapP w b L f) {s : M.St} (h64 : St64 s) : (Instr.lookup 84 (.map (some b)) (stV s) false).run Try.prog w = .ok (.int .i64 (((f s).getD 0 : Nat) : Int)) w := by
  obtain ⟨D, hD, hH⟩ := h
  obtain ⟨c, hrun, hc, _⟩ := hD.lookup_int lawS mapS Try.underlying3 (zeroI2 w) (keyS h64)
  obtain ⟨_, h2⟩ := hH.at_ h64
  rw [h2] at hc
  simp at hc
  rw [hrun, ← hc]
theorem ownsMap_tight {n : Nat} {D : DataW Unit} {R : Value → Option (DataW Unit × List MemPlace)} (h : w.ownsMap Try.prog 71 R b n D) : w.ownsMap Try.prog 71 R b (Maps.size D) D := by
  obtain ⟨es, cl, hb, F, hs, rfl⟩ := h
  exact ⟨es, cl, hb, F, by simp [Maps.size, length_sorted], rfl⟩
/-- the keys behind a store -/
def addK (L : List M.St) (s : M.St) : List M.St := if s ∈ L then L else L ++ [s]
theorem addK_new {s : M.St} (h : s ∉ L) : addK L s = L ++ [s] := if_neg h
theorem addK_old {s : M.St} (h : s ∈ L) : addK L s = L := if_pos h
theorem Holds.put {D : DataW Unit} (h : Holds D L f) (hT : Maps.Tidy D) {s : M.St} (h64 : St64 s) (k : Nat) : Holds (D.put (stK s) (.lit (.int .i64 (k : Int)))) (addK L s) (M.upd f s k) := by
  obtain ⟨h1, h2, h3, h4, h5, h6⟩ := h
  have hM := hT.isMap
  have hne : ∀ t ∈ L, t ≠ s → stK t ≠ stK s := fun t ht hn e => hn (stK_inj (h1 t ht) h64 e)
  have hold : ∀ t ∈ L, t ≠ s → ∃ k' : Nat, M.upd f s k t = some k' ∧ Maps.has (D.put (stK s) (.lit (.int .i64 (k : Int)))) (stK t) = true ∧ ∀ zd, (D.put (stK s) (.lit (.int .i64 (k : Int)))).atKey (stK t) zd = .lit (.int .i64 (k' : Int)) := fun t ht hn => by
    obtain ⟨k', e1, e2, e3⟩ := h5 t ht
    exact ⟨k', by rw [M.upd_other _ _ hn]; exact e1, by rw [Maps.has_put_other (hne t ht hn)]; exact e2, fun zd => by rw [Maps.atKey_put_other (hne t ht hn)]; exact e3 zd⟩
  have hnew : ∃ k' : Nat, M.upd f s k s = some k' ∧ Maps.has (D.put (stK s) (.lit (.int .i64 (k : Int)))) (stK s) = true ∧ ∀ zd, (D.put (stK s) (.lit (.int .i64 (k : Int)))).atKey (stK s) zd = .lit (.int .i64 (k' : Int)) :=
    ⟨k, M.upd_same _ _ _, Maps.has_put_same hM (litS h64) _, fun zd => Maps.atKey_put_same hM (litS h64) _ _⟩
  rcases Classical.em (s ∈ L) with hs | hs
  · rw [addK_old hs]
    refine ⟨h1, h2, ?_, fun kl hk => ?_, fun t ht => ?_, fun t ht => ?_⟩
    · obtain ⟨_, _, e2, _⟩ := h5 s hs
      rw [Maps.size_put hT, e2, if_pos rfl]
      exact h3
    · rcases Classical.em (kl = stK s) with e | e
      · exact ⟨s, hs, e⟩
      · rw [Maps.has_put_other e] at hk
        exact h4 kl hk
    · rcases Classical.em (t = s) with e | e
      · subst e; exact hnew
      · exact hold t ht e
    · have : t ≠ s := fun e => ht (e ▸ hs)
      rw [M.upd_other _ _ this]
      exact h6 t ht
  · rw [addK_new hs]
    have hno := Holds.not (f := f) ⟨h1, h2, h3, h4, h5, h6⟩ h64 hs
    refine ⟨fun t ht => ?_, ?_, ?_, fun kl hk => ?_, fun t ht => ?_, fun t ht => ?_⟩
    · rw [List.mem_append, List.mem_singleton] at ht
      rcases ht with ht | rfl
      · exact h1 t ht
      · exact h64
    · rw [List.nodup_append]
      exact ⟨h2, by simp, fun a ha c hc e => by rw [List.mem_singleton] at hc; subst hc; exact hs (e ▸ ha)⟩
    · rw [Maps.size_put hT, hno, h3, List.length_append]
      rfl
    · rcases Classical.em (kl = stK s) with e | e
      · exact ⟨s, by simp, e⟩
      · rw [Maps.has_put_other e] at hk
        obtain ⟨t, ht, e2⟩ := h4 kl hk
        exact ⟨t, List.mem_append_left _ ht, e2⟩
    · rw [List.mem_append, List.mem_singleton] at ht
      rcases ht with ht | rfl
      · exact hold t ht fun e => hs (e ▸ ht)
      · exact hnew
    · rw [List.mem_append, List.mem_singleton] at ht
      have e1 : t ≠ s := fun e => ht (.inr e)
      rw [M.upd_other _ _ e1]
      exact h6 t fun h => ht (.inl h)
/-- 'm[k] = v' -/
theorem MapP.store (h : MapP w b L f) {s : M.St} (h64 : St64 s) (k : Nat) (hk : (k : Int) ≤ 9223372036854775807) (hn : L.length < maxLen) :
    ∃ w', (Instr.mapUpdate 84 (.map (some b)) (stV s) (.int .i64 (k : Int))).run Try.prog w = .ok () w' ∧ MapP w' b (addK L s) (M.upd f s k) ∧ w.mapTurned w' b := by
  obtain ⟨D, hD, hH⟩ := h
  obtain ⟨w', hrun, ho, ht⟩ := hD.store lawS mapS hn (keyS h64) (plainElem_int Try.underlying3 (WalkArith.wf_i64 ⟨by omega, hk⟩))
  have hP := hH.put (hD.tidy lawS) h64 k
  refine ⟨w', hrun, ⟨_, ?_, hP⟩, ht⟩
  have h9 := ownsMap_tight ho
  have e := hP.2.2.1
  exact e ▸ h9
theorem mapTurned_turned (h : w.mapTurned w' b) : Turned b (b + 1) w w' := by
  have g := h.grown
  exact ⟨g.os, g.tape, g.output, g.size, fun k hk ho => g.block k hk fun e => by injection e with e; omega⟩
/-- 'len(m)' -/
theorem MapP.len (h : MapP w b L f) (ty : TypeId) : (Builtin.len_ #[84] ty #[.map (some b)]).run Try.prog w = .ok (.int .i64 (L.length : Int)) w := by
  obtain ⟨D, hD, hH⟩ := h
  rw [hD.len mapS, hH.2.2.1]

/-- how many entries the map in a block has, for a loop's measure -/
def mapN (w : World) (b : Nat) : Nat :=
  match w.heap[b]? with
  | some (.map es _) => es.size
  | _ => 0
theorem MapP.size (h : MapP w b L f) : mapN w b = L.length := by
  obtain ⟨D, ⟨es, cl, hb, _, _, rfl⟩, hH⟩ := h
  have := hH.2.2.1
  simp only [mapN, hb]
  simpa [Maps.size, length_sorted] using this
theorem MapP.block (h : MapP w b L f) (cur : Array Value) (T : TypeId) (fr : Nat × Nat) : w.heap[b]? ≠ some (.cells cur T fr) := by
  obtain ⟨D, ⟨es, cl, hb, _⟩, _⟩ := h
  rw [hb]
  intro e
  cases e

/-- a range over such a map under way: left has the keys that are still to come -/
def RangeP (w : World) (b r : Nat) (L : List M.St) (f : M.St → Option Nat) (left : List M.St) (cnt : Nat) : Prop :=
  ∃ (D : DataW Unit) (lf : Lit → Bool), w.ranges Try.prog 71 (plainElem Try.prog 3) b r L.length D lf cnt ∧ Holds D L f ∧ left.Nodup ∧ (∀ s ∈ left, s ∈ L) ∧ ∀ kl, lf kl = true ↔ ∃ s ∈ left, kl = stK s
theorem RangeP.map {r cnt : Nat} {left : List M.St} (h : RangeP w b r L f left cnt) : MapP w b L f := by
  obtain ⟨D, lf, h1, h2, _⟩ := h
  exact ⟨D, h1.owns, h2⟩
theorem RangeP.left_eq {r cnt : Nat} {left : List M.St} (h : RangeP w b r L f left cnt) : w.rangeLeft b r = cnt := by
  obtain ⟨D, lf, h1, _⟩ := h
  exact h1.left_eq
theorem RangeP.lt {r cnt : Nat} {left : List M.St} (h : RangeP w b r L f left cnt) : b < w.heap.size ∧ r < w.heap.size := by
  obtain ⟨D, lf, h1, _⟩ := h
  exact ⟨h1.owns.lt, h1.lt⟩
theorem RangeP.turned {lo hi r cnt : Nat} {left : List M.St} (h : RangeP w b r L f left cnt) (t : Turned lo hi w w') (hd : b < lo ∨ hi ≤ b) (hr : r < lo ∨ hi ≤ r) : RangeP w' b r L f left cnt := by
  obtain ⟨l1, l2⟩ := h.lt
  obtain ⟨D, lf, ⟨es, cl, si, se, c0, e1, e2, e3, e4, e5, rest⟩, hH⟩ := h
  exact ⟨D, lf, ⟨es, cl, si, se, c0, (t.block b l1 hd).trans e1, e2, e3, e4, (t.block r l2 hr).trans e5, rest⟩, hH⟩
theorem RangeP.below {r cnt : Nat} {left : List M.St} (h : RangeP w b r L f left cnt) (t : Below w.heap.size w w') : RangeP w' b r L f left cnt := by
  obtain ⟨l1, l2⟩ := h.lt
  exact h.turned (Turned.of_below t 0 0) (.inr (Nat.zero_le _)) (.inr (Nat.zero_le _))
/-- 'range m' -/
theorem MapP.range (h : MapP w b L f) : ∃ w', (Instr.range 84 (.map (some b))).run Try.prog w = .ok (.pointer (some ⟨w.heap.size, 0, none⟩)) w' ∧ RangeP w' b w.heap.size L f L L.length ∧ Below w.heap.size w w' ∧ w'.heap.size = w.heap.size + 1 := by
  obtain ⟨D, hD, hH⟩ := h
  obtain ⟨w', hrun, hr, hg, hs⟩ := hD.range lawS mapS
  rw [hH.2.2.1] at hr
  refine ⟨w', hrun, ⟨D, _, hr, hH, hH.2.1, fun _ h => h, fun kl => ⟨hH.2.2.2.1 kl, ?_⟩⟩, ⟨hg.os, hg.tape, hg.output, hg.size, fun k hk => hg.block k hk (by simp)⟩, hs⟩
  rintro ⟨s, hs, rfl⟩
  obtain ⟨k, _, e, _⟩ := hH.2.2.2.2.1 s hs
  exact e
/-- the step of such a range -/
theorem RangeP.next {r cnt : Nat} {left : List M.St} (h : RangeP w b r L f left cnt) (ty : TypeId) :
    (left = [] ∧ (Instr.next (.pointer (some ⟨r, 0, none⟩)) false ty).run Try.prog w = .ok (.tuple #[.bool false]) w) ∨
    ∃ s w' cnt' k, s ∈ left ∧ f s = some k ∧ (k : Int) ≤ 9223372036854775807 ∧ (Instr.next (.pointer (some ⟨r, 0, none⟩)) false ty).run Try.prog w = .ok (.tuple #[.bool true, stV s, .int .i64 (k : Int)]) w' ∧
      RangeP w' b r L f (left.erase s) cnt' ∧ cnt' < cnt ∧ Turned r (r + 1) w w' ∧ w'.heap.size = w.heap.size ∧ (Instr.entry (.pointer (some ⟨r, 0, none⟩))).run Try.prog w' = .ok (.tuple #[stV s, .int .i64 (k : Int)]) w' := by
  obtain ⟨D, lf, hr, hH, hn, hl1, hl2⟩ := h
  rcases hr.next lawS ty with ⟨h0, hl, hrun⟩ | ⟨key, v, kl, y, w', cnt', hkey, hlk, hv, hat, hrun, hrg, hlt, hgr, hsz, hen⟩
  · refine .inl ⟨?_, hrun⟩
    cases left with
    | nil => rfl
    | cons s l =>
      have := (hl2 (stK s)).2 ⟨s, by simp, rfl⟩
      rw [hl] at this
      cases this
  · obtain ⟨s, hs, rfl⟩ := (hl2 kl).1 hlk
    have h64 := hH.1 s (hl1 s hs)
    obtain rfl := lawS.inj hkey (keyS h64)
    obtain ⟨k, hk, _, hat2⟩ := hH.2.2.2.2.1 s (hl1 s hs)
    obtain ⟨c, rfl, rfl, hw⟩ := plainElem_int_inv Try.underlying3 hv
    have hc : c = (k : Int) := by
      have := (hat (.lit (.int .i64 0))).symm.trans (hat2 _)
      simp at this
      exact this
    subst hc
    refine .inr ⟨s, w', cnt', k, hs, hk, (bounds_i64 hw).2, hrun, ⟨D, _, hrg, hH, hn.erase s, fun t ht => hl1 t (List.mem_of_mem_erase ht), fun kl => ?_⟩, hlt, ⟨hgr.os, hgr.tape, hgr.output, hgr.size, fun i hi ho => hgr.block i hi fun e => by injection e with e; omega⟩, hsz, hen⟩
    rw [Bool.and_eq_true, hl2]
    constructor
    · rintro ⟨⟨t, ht, rfl⟩, hne⟩
      refine ⟨t, (List.Nodup.mem_erase_iff hn).2 ⟨?_, ht⟩, rfl⟩
      rintro rfl
      rw [WideAt.sameKey_self (litS (hH.1 t (hl1 t ht)))] at hne
      cases hne
    · rintro ⟨t, ht, rfl⟩
      obtain ⟨hne, ht⟩ := (List.Nodup.mem_erase_iff hn).1 ht
      refine ⟨⟨t, ht, rfl⟩, ?_⟩
      rw [Maps.sameKey_ne fun e => hne (stK_inj (hH.1 t (hl1 t ht)) h64 e)]
      rfl
end
end C
end Go.Proofs.Ytdgfceiobpnchaa
