/-
  WORDS for laying keys: a key laid in a maze of one's own; l2Colours of the model. Condition: a valid set.
-/
import Derived.Test.YtddpjjdncmokmaaFilM
import Derived.Test.YtddpjjdncmokmaaWFPlay
import Derived.Test.YtddpjjdncmokmaaWCBefore
import Derived.Test.YtddpjjdncmokmaaWAMem
namespace Go.Proofs.Ytddpjjdncmokmaa
open Go.RowKit
namespace C
set_option linter.unusedVariables false
set_option maxHeartbeats 3200000
set_option maxRecDepth 20000
theorem lay_key {w wr : World} {m : M.Mz} {a b : Option Addr} {c d L bg : Nat} {ca cb : Option Addr} {cc cd : Nat} {cs fs : List Int} {k x : Nat} (hst : CSt w m a b c d L bg ca cb cc cd wr (M.layS m.keys.length cs fs k)) (hL : w.heap.size + 1 < L) (hx : fs.getD k 0 = (x : Int)) (hxl : x < m.keys.length) :
    ∃ g off, cb = some ⟨g, off, none⟩ ∧ wr.cell? ⟨g, off + x, none⟩ = some (.int .i64 ((M.layS m.keys.length cs fs k).getD x 0)) ∧ wr.frozen? ⟨g, off + x, none⟩ = false ∧ L ≤ g ∧ g < bg ∧ CSt w m a b c d L bg ca (some ⟨g, off, none⟩) cc cd (wr.setCell ⟨g, off + x, none⟩ (.int .i64 (bits .or .i64 ((M.layS m.keys.length cs fs k).getD x 0) (M.bitI (cs.getD k 0))))) (M.layS m.keys.length cs fs (k + 1)) := by
  have hlen := M.layS_len m.keys.length cs fs k
  obtain ⟨g, off, hcb, hg1, hg2, hc0⟩ := hst.own.keys.row.at_ (k := x) (by rw [M.encIs_len]; show x < (M.layS _ _ _ k).length; omega)
  have hget : (M.layS m.keys.length cs fs k)[x]? = some ((M.layS m.keys.length cs fs k).getD x 0) := by rw [List.getD_eq_getElem?_getD, List.getElem?_eq_getElem (by omega)]; rfl
  refine ⟨g, off, hcb, hc0 _ _ (by show (M.encIs (M.layS _ _ _ k))[x]? = _; unfold M.encIs; rw [List.getElem?_map, hget]; rfl), hst.own.keys.free hcb (k := x) (by rw [M.encIs_len]; show x < (M.layS _ _ _ k).length; omega) _, hg1, hg2, ?_⟩
  subst hcb
  have := hst.set hL hg1 hg2 (k := x) (by omega) (bits .or .i64 ((M.layS m.keys.length cs fs k).getD x 0) (M.bitI (cs.getD k 0)))
  have e : M.layS m.keys.length cs fs (k + 1) = (M.layS m.keys.length cs fs k).set x (bits .or .i64 ((M.layS m.keys.length cs fs k).getD x 0) (M.bitI (cs.getD k 0))) := by
    show (M.layS m.keys.length cs fs k).set _ _ = _
    rw [hx]; rfl
  rw [e]
  exact this
theorem bit_facts {x : Int} (h0 : 0 ≤ x) (h5 : x < 6) : IntKind.i64.wrap (2 ^ x.toNat) = M.bitI x ∧ wrap64 (2 ^ x.toNat) = M.bitI x := by
  have h : ∀ c : Fin 6, IntKind.i64.wrap (2 ^ (c.val : Int).toNat) = M.bitI (c.val : Int) := by decide +kernel
  have := h ⟨x.toNat, by omega⟩
  refine ⟨?_, rfl⟩
  rwa [show (((⟨x.toNat, by omega⟩ : Fin 6).val : Nat) : Int) = x from by show ((x.toNat : Nat) : Int) = x; omega] at this
theorem getD_of {l : List Int} {k : Nat} (h : k < l.length) : l.getD k 0 = l[k] := by rw [List.getD_eq_getElem?_getD, List.getElem?_eq_getElem h]; rfl
theorem l2Colours_any (n : Nat) (hn : n < 64) (w : World) : Calls Try.prog 55 #[.int .i64 (n : Int)] w (IntsPost w (M.digsTo n 6)) := by
  obtain ⟨i0, hi0, hz0, hz1, hz2⟩ := info_parts infoI
  go_enter Try.func55, Try.ntmps55
  go_wp2_with fail
  go_loopw [3, 4] (fun v i wr => ∃ (k : Nat), k ≤ 6 ∧ i = .int .i64 k ∧ wr.ownsRow w.heap.size 3 1 v (M.digsTo n k).length (M.encIs (M.digsTo n k)) ∧ Below w.heap.size w wr) (fun _ i _ => 6 - (intOf i).toNat)
  case atStart => exact ⟨0, Nat.zero_le _, rfl, ownsRow_empty _ _ _ _ (Nat.le_refl _), below_alloc _ _⟩
  case round =>
    obtain ⟨k, hk, rfl, hown, hnx⟩ := hrel
    have HN := Lib.hid hnx
    have HO := Lib.hid hown
    have hzr := hnx.size
    have hlen := M.digsTo_len n k
    clear hnx
    by_cases hlt : k < 6
    · have hbt := M.bit_test (p := k) (show n < 4096 by omega)
      cases hd : M.digB n k with
      | true =>
        rw [hd] at hbt
        have HD := Lib.hid (M.digsTo_yes hd)
        clear hd
        go_wp2_with (at_builtin; refine wpList_append_own _ rfl _ _ 23 rfl w.heap.size 3 i0 (.int .i64 0) 1 8 Try.underlying23 hi0 hz0 hz1 hz2 rfl (by decide) _ _ _ rfl (hown.alloc _) ⟨wr.heap.size, 0, none⟩ 1 1 [.int .i64 (k : Int)] rfl rfl (cell_one_new _ _ _) (fun x hx => by simp at hx; subst hx; rfl) (by unfold maxLen; omega) (by omega) (by simp; omega) ?_; intro v' w3 hown' hgrow3 hnil3)
        go_roundw
        case rel =>
          refine ⟨k + 1, by omega, by go_num, ?_, (HN.out.alloc hzr _).grown hgrow3 (by simp; omega) (own_base hown)⟩
          rw [HD.out]
          simpa [M.encIs] using hown'
        case measure => simp [intOf]; omega
      | false =>
        rw [hd] at hbt
        have HD := Lib.hid (M.digsTo_no hd)
        clear hd hown
        go_wp2_with fail
        go_roundw
        case rel => exact ⟨k + 1, by omega, by go_num, by rw [HD.out]; exact HO.out, HN.out⟩
        case measure => simp [intOf]; omega
    · obtain rfl : k = 6 := by omega
      clear hown
      go_wp2_with fail
      go_ret
      exact ints_end HO.out HN.out
theorem colours9_any (s : Int) (hs : M.setB s = true) (w : World) : Calls Try.prog 55 #[.int .i64 s] w (IntsPost w (M.colours s)) := by
  have h' := M.setB_iff.1 hs
  have h := l2Colours_any s.toNat (by omega) w
  rw [M.colours_eq hs]
  rwa [show ((s.toNat : Nat) : Int) = s from by omega] at h
end C
end Go.Proofs.Ytddpjjdncmokmaa
