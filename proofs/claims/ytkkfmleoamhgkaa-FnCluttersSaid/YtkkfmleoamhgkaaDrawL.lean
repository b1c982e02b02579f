/-
  CONTRACTS of the cursor's draws of lists of sets: sets, clutter, colours; each gives some list (a number), in memory of its own, and writes the cursor's own block alone, beside new blocks. Conditions: as for the cursor.
-/
import Derived.Test.YtkkfmleoamhgkaaDraws
import Derived.Test.YtkkfmleoamhgkaaOwnQ
import Derived.Test.YtkkfmleoamhgkaaLstS
import Derived.Test.YtkkfmleoamhgkaaCoS
import Derived.Deep.LoopGhost
namespace Go.Proofs.Ytkkfmleoamhgkaa
open Go.RowKit
namespace C
set_option maxHeartbeats 3200000
set_option maxRecDepth 20000
theorem grown_far {w wr w' : World} {row row' : Option Nat} (h : w.grownBy wr row) (k : wr.grownBy w' row') (hr : ∀ z, row' = some z → w.heap.size ≤ z) : w.grownBy w' row :=
  ⟨k.os.trans h.os, k.tape.trans h.tape, k.output.trans h.output, Nat.le_trans h.size k.size, fun i hi hne => (k.block i (Nat.lt_of_lt_of_le hi h.size) (fun e => by have := hr i e.symm; omega)).trans (h.block i hi hne)⟩
theorem OwnQ.off {B size n : Nat} {w w' : World} {T : TypeId} {v : Value} {xs : List Value} {row : Option Nat} (h : OwnQ B w T size v n xs) (hg : w.grownBy w' row) (hne : ∀ z, v.ownBlock = some z → row ≠ some z) : OwnQ B w' T size v n xs := by
  refine ⟨h.1, ?_⟩
  rcases h.2 with h' | ⟨g, off, cap, cur, rfl, hb, hh, r⟩
  · exact .inl h'
  · exact .inr ⟨g, off, cap, cur, rfl, hb, (hg.block g (heap_lt hh) fun e => hne g rfl e.symm).trans hh, r⟩
def I64 (z : Int) : Prop := -9223372036854775808 ≤ z ∧ z ≤ 9223372036854775807
/-- the post of a draw of a list of at most n numbers -/
def LPost (B : Nat) (w : World) (g : Nat) (a : Option Addr) (len cap p k : Nat) (n : Nat) (e : Ending) (w' : World) : Prop :=
  ∃ (l : List Int) (la : Option Addr) (lc : Nat), e = .returned (.slice la l.length lc) ∧ OwnAt w.heap.size w'.heap.size w' 3 la (M.encIs l) ∧ l.length ≤ lc ∧ lc ≤ 9223372036854775807 ∧ l.length ≤ n ∧ (∀ z ∈ l, I64 z) ∧ CurAt B w' g a len cap (p + k) ∧ w.grownBy w' (some g)
theorem sets_any (B : Nat) (w : World) (g : Nat) (a : Option Addr) (len cap p : Nat) (h : CurAt B w g a len cap p) (hp : p ≤ 1073730000) :
    Calls Try.prog 24 #[.pointer (some ⟨g, 0, none⟩)] w (LPost B w g a len cap p 60 7) := by
  obtain ⟨ii0, hi0, hz0, hzz1, hz2⟩ := info_parts infoI
  have hlt := h.lt
  have hgB := h.1
  have H := Lib.hid h
  clear h
  have hW0 : CurAt B (w.alloc (.cells #[] 3)) g a len cap p := H.out.other (grown_alloc w _ none) (fun k e => by cases e) (by simp)
  have am0 := among_new B (w.alloc (.cells #[] 3)) g a len cap p [3, 2, 4, 1, 0, 6] hW0 (by omega) (by decide) (by decide) 3 6 rfl 6 (Nat.le_refl _) #[.int .i64 3, .int .i64 2, .int .i64 4, .int .i64 1, .int .i64 0, .int .i64 6] rfl
  rw [World.size_alloc] at am0
  have AM := Lib.hid am0
  clear am0
  have OW := Lib.hid (OwnQ.of_own (ownsRow_empty w w.heap.size 3 1 (Nat.le_refl _)))
  have GW := Lib.hid (grown_alloc w (.cells #[] 3) (some g))
  have hsW : Hid ((w.alloc (.cells #[] 3)).heap.size = w.heap.size + 1) := Lib.hid (by simp)
  clear hW0
  go_enter Try.func24, Try.ntmps24
  go_wp2_with fail
  refine (AM.out).mono ?_
  rintro e w1 ⟨s, rfl, hs, hc1, hg1⟩
  have hs2 : ∃ k : Nat, s = k ∧ k ≤ 6 := by
    simp at hs
    rcases hs with rfl | rfl | rfl | rfl | rfl | rfl
    · exact ⟨3, rfl, by omega⟩
    · exact ⟨2, rfl, by omega⟩
    · exact ⟨4, rfl, by omega⟩
    · exact ⟨1, rfl, by omega⟩
    · exact ⟨0, rfl, by omega⟩
    · exact ⟨6, rfl, by omega⟩
  have hsW2 := hg1.size
  rw [hsW.out] at hsW2
  obtain ⟨k0, rfl, hk0⟩ := hs2
  have C1 := Lib.hid hc1
  have G1 := Lib.hid (grown_trans GW.out hg1)
  have O1 := Lib.hid (OW.out.off hg1 (fun z hz => by have : w.heap.size = z := by simpa [Value.ownBlock] using hz
                                                     intro e; injection e with e; omega))
  clear hc1 hg1 hs AM OW GW
  go_wp2_with fail
  go_loopw [3, 4] (fun v3 v4 wr => ∃ (k : Nat) (xs : List Int), k + xs.length = k0 ∧ v4 = .int .i64 (k : Int) ∧ OwnQ w.heap.size wr 3 1 v3 xs.length (M.encIs xs) ∧ (∀ z ∈ xs, I64 z) ∧ CurAt B wr g a len cap (p + 2 + 8 * xs.length) ∧ w.grownBy wr (some g)) (fun _ v4 _ => (intOf v4).toNat)
  case atStart => exact ⟨k0, [], by simp, rfl, O1.out, (fun z hz => by cases hz), C1.out, G1.out⟩
  case round =>
    obtain ⟨k, xs, hk, rfl, ho, hx, hc, hg⟩ := hrel
    obtain ⟨la, lc, hv, hl1, hl2⟩ := ho.shape
    have hbs := Lib.hid ho.base
    subst hv
    have OO := Lib.hid ho
    have XX := Lib.hid hx
    have GG := Lib.hid hg
    have CC := Lib.hid hc
    have hzr := hg.size
    clear ho hx hg hc
    have HNE : Hid (∀ z, (Value.slice la xs.length lc).ownBlock = some z → some g ≠ some z) := Lib.hid (fun z hz => by have := (hbs.out z hz).1; intro e; injection e with e; omega)
    by_cases hk0' : k = 0
    · subst hk0'
      have ON := Lib.hid (one_any B wr g a len cap _ 12 CC.out (by omega) (by omega) (by omega))
      have hx6 : xs.length ≤ 6 := by omega
      clear hk
      go_wp2_with fail
      refine (ON.out).mono ?_
      rintro e w2 ⟨bo, rfl, hc2, hg2⟩
      have C2 := Lib.hid hc2
      have G2 := Lib.hid (grown_trans GG.out hg2)
      have O2 := Lib.hid (OO.out.off hg2 HNE.out)
      have hz2' := hg2.size
      clear hc2 hg2 ON
      cases bo with
      | false =>
        have hfo := Lib.hid (O2.out.own rfl)
        go_wp2_with fail
        go_ret
        exact ⟨xs, la, lc, rfl, hfo.out, hl1, by unfold maxLen at hl2; omega, by omega, XX.out, C2.out.mono (by omega), G2.out⟩
      | true =>
        have AM := Lib.hid (among_new B w2 g a len cap _ [0, 0, 63, 64, -1] C2.out (by omega) (by decide) (by decide) 3 5 rfl 5 (Nat.le_refl _) #[.int .i64 0, .int .i64 0, .int .i64 63, .int .i64 64, .int .i64 (-1)] rfl)
        go_wp2_with fail
        refine (AM.out).mono ?_
        rintro e w3 ⟨s, rfl, hs, hc3, hg3⟩
        have hs2 : I64 s := by
          unfold I64
          simp at hs
          omega
        have SS := Lib.hid hs2
        have C3 := Lib.hid hc3
        have G3 := Lib.hid (grown_trans G2.out hg3)
        have O3 := Lib.hid (O2.out.off hg3 HNE.out)
        have hz3' := hg3.size
        clear hs hs2 hc3 hg3 AM
        go_wp2_with (at_builtin; refine wpList_append_q rfl _ _ 24 rfl w.heap.size 3 ii0 (.int .i64 0) 1 8 Try.underlying24 hi0 hz0 hzz1 hz2 rfl _ _ _ rfl (O3.out.below (below_alloc _ _)) ⟨w3.heap.size, 0, none⟩ 1 [.int .i64 s] rfl rfl (cell_one_new _ _ _) (fun x hx => by simp at hx; subst hx; rfl) (by unfold maxLen; omega) (by omega) (by simp; omega) ?_; intro v' w7 hown' hgrow3 hnil3)
        have hsh := hown'.shape
        obtain ⟨la', lc', hv', hl1', hl2'⟩ := hsh
        subst hv'
        go_wp2_with fail
        go_ret
        have hrowb : ∀ z, (Value.slice la xs.length lc).ownBlock = some z → w.heap.size ≤ z := fun z hz => (hbs.out z hz).1
        refine ⟨xs ++ [s], la', lc', by simp, ?_, by simpa using hl1', by unfold maxLen at hl2'; omega, by simp; omega, fun z hz => ?_, ?_, ?_⟩
        · have := hown'.own rfl
          rw [M.encIs_append]
          exact this
        · rcases List.mem_append.1 hz with q | q
          · exact XX.out z q
          · rw [List.mem_singleton] at q; subst q; exact SS.out
        · exact ((C3.out.other (grown_alloc w3 _ none) (fun k e => by cases e) (by simp)).other hgrow3 (fun z hz => by have := hrowb z hz; omega) (fun e => HNE.out g e.symm rfl)).mono (by omega)
        · exact grown_far (grown_far G3.out (grown_alloc w3 _ none) (fun z e => by cases e)) hgrow3 hrowb
    · obtain ⟨j, rfl⟩ : ∃ j, k = j + 1 := ⟨k - 1, by omega⟩
      have hx6 : xs.length ≤ 5 := by omega
      have HK := Lib.hid hk
      have hj6 : j ≤ 5 := by omega
      have hkp : (0 : Int) < ((j + 1 : Nat) : Int) := by omega
      have FW := Lib.hid (few_any B wr g a len cap _ 6 CC.out (by omega) (by omega) (by omega))
      clear hk
      go_wp2_with fail
      refine (FW.out).mono ?_
      rintro e w2 ⟨r, rfl, ⟨hr0, hr1⟩, hc2, hg2⟩
      have G2 := Lib.hid (grown_trans GG.out hg2)
      have O2 := Lib.hid (OO.out.off hg2 HNE.out)
      have hz2' := hg2.size
      have PK := Lib.hid (pick_any B w2 g a len cap _ 6 hc2 (by omega) (by omega) (by omega))
      clear hc2 hg2 FW
      go_wp2_with fail
      refine (PK.out).mono ?_
      rintro e w3 ⟨x, rfl, hx0, hx1, hc3, hg3⟩
      have C3 := Lib.hid hc3
      have G3 := Lib.hid (grown_trans G2.out hg3)
      have O3 := Lib.hid (O2.out.off hg3 HNE.out)
      have hz3' := hg3.size
      have hsh := shl_bd x hx0 (by omega)
      have hor := M.or_set hr0 hr1 hsh.1 hsh.2
      clear hc3 hg3 PK
      have hx64 : ¬ x < 0 := by omega
      go_wp2_with (at_builtin; refine wpList_append_q rfl _ _ 24 rfl w.heap.size 3 ii0 (.int .i64 0) 1 8 Try.underlying24 hi0 hz0 hzz1 hz2 rfl _ _ _ rfl (O3.out.below (below_alloc _ _)) ⟨w3.heap.size, 0, none⟩ 1 [.int .i64 (bits .or .i64 r (wrap64 (2 ^ x.toNat)))] rfl rfl (cell_one_new _ _ _) (fun x hx => by simp at hx; subst hx; rfl) (by unfold maxLen; omega) (by omega) (by simp; omega) ?_; intro v' w7 hown' hgrow3 hnil3)
      have hrowb : ∀ z, (Value.slice la xs.length lc).ownBlock = some z → w.heap.size ≤ z := fun z hz => (hbs.out z hz).1
      go_roundw
      case rel =>
        refine ⟨j, xs ++ [bits .or .i64 r (wrap64 (2 ^ x.toNat))], by have := HK.out; simp; omega, by go_num, ?_, fun z hz => ?_, ?_, ?_⟩
        · rw [M.encIs_append, List.length_append]
          exact hown'
        · rcases List.mem_append.1 hz with q | q
          · exact XX.out z q
          · rw [List.mem_singleton] at q; subst q; unfold I64; omega
        · exact ((C3.out.other (grown_alloc w3 _ none) (fun k e => by cases e) (by simp)).other hgrow3 (fun z hz => by have := hrowb z hz; omega) (fun e => HNE.out g e.symm rfl)).mono (by simp; omega)
        · exact grown_far (grown_far G3.out (grown_alloc w3 _ none) (fun z e => by cases e)) hgrow3 hrowb
      case measure => simp [intOf]
end C
end Go.Proofs.Ytkkfmleoamhgkaa
