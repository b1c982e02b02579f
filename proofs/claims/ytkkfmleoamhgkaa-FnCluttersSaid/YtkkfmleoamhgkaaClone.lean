/-
  CONTRACTS of slices.Clone at numbers and at doors: a new slice that reads alike, nil for nil; what lay in memory stays. Condition: at most 1048576 elements.
-/
import Derived.Test.YtkkfmleoamhgkaaOwn
import Derived.Test.YtkkfmleoamhgkaaOpen
import Derived.Test.YtkkfmleoamhgkaaInts
import Derived.Deep.RegionWith
import Derived.Laws.AppendOwnNone
namespace Go.Proofs.Ytkkfmleoamhgkaa
open Go.RowKit
namespace C
set_option maxHeartbeats 800000
set_option maxRecDepth 20000
theorem encDs_one (l : List M.Dr) : ∀ x ∈ M.encDs l, x.oneCell' = true := by
  intro x hx
  unfold M.encDs at hx
  obtain ⟨d, _, hd⟩ := List.mem_flatMap.1 hx
  simp [M.encD] at hd
  rcases hd with rfl | rfl | rfl <;> rfl
theorem cloneInts_any (w : World) (lo hi : Nat) (a : Option Addr) (c : Nat) (l : List Int) (h : RowIn lo hi w a (M.encIs l)) (hz : hi ≤ w.heap.size) (hl : l.length ≤ 1048576) :
    Calls Try.prog 28 #[.slice a l.length c] w (IntsPost w l) := by
  obtain ⟨i0, hi0, hz0, hz1, hz2⟩ := info_parts infoI
  have H := Lib.hid h
  clear h
  have ho := ownsRow_empty w w.heap.size 3 1 (Nat.le_refl _)
  have HO := Lib.hid ho
  clear ho
  rcases a with _ | ad
  · obtain rfl : l = [] := by
      rcases H.out with h | ⟨b, off, e, _⟩
      · exact List.eq_nil_of_length_eq_zero (by rw [← M.encIs_len, h]; rfl)
      · cases e
    have hq := fun W => Lib.run_eql_slice_nil (P := Try.prog) W 24 3 none 0 c 0 0 Try.underlying24
    go_enter Try.func28, Try.ntmps28
    go_wp2_with fail
    go_ret
    exact ints_end (l := []) (World.ownsRow_nil _ _ _ _) (Below.refl _ _)
  · have hcells : ∀ j u, (M.encIs l)[j]? = some u → (w.alloc (.cells #[] 3)).cell? (ad.add j) = some u := by
      intro j u hu
      rcases H.out with h | ⟨b, off, e, _, hb, hc⟩
      · rw [h] at hu; simp at hu
      · injection e with e
        subst e
        have hadd : (⟨b, off, none⟩ : Addr).add j = ⟨b, off + j, none⟩ := by
          unfold Addr.add
          split
          · rename_i h; subst h; rfl
          · rfl
        rw [hadd]
        exact (World.cell?_alloc_lt w _ _ (show b < _ by omega)).trans (hc j u hu)
    have HC := Lib.hid hcells
    clear hcells
    have hq := fun W => Lib.run_eql_slice_nil (P := Try.prog) W 24 3 (some ad) l.length c 0 0 Try.underlying24
    go_enter Try.func28, Try.ntmps28
    go_wp2_with (at_builtin; refine wpList_append_own _ rfl _ _ 24 rfl w.heap.size 3 i0 (.int .i64 0) 1 8 Try.underlying24 hi0 hz0 hz1 hz2 rfl (by decide) _ _ _ rfl HO.out ad l.length c (M.encIs l) rfl (by rw [M.encIs_len, Nat.mul_one]) HC.out (fun x hx => by unfold M.encIs at hx; obtain ⟨z, _, rfl⟩ := List.mem_map.1 hx; rfl) (by unfold maxLen; omega) (by omega) (by simp) ?_; intro v' w3 hown' hgrow3 hnil3)
    go_ret
    refine ints_end (by simpa using hown') ((below_alloc _ _).grown hgrow3 (by simp) (own_base HO.out))
end C
end Go.Proofs.Ytkkfmleoamhgkaa
