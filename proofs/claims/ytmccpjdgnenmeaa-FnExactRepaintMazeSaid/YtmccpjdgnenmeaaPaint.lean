/-
  CONTRACTS of a set told with other colours, on both sides: spec.l2Painted, and the function value of impl.RepaintMaze; what lay in memory stays. Condition: a set below 64, a list with each colour once.
-/
import Derived.Test.YtmccpjdgnenmeaaPaintMath
import Derived.Test.YtmccpjdgnenmeaaRen
import Derived.BigQuiet
import Derived.Deep.QuietTactic
import Derived.OwnWalk
namespace Go.Proofs.Ytmccpjdgnenmeaa
open Go.RowKit
namespace M
theorem bit_one {n k : Nat} (hn : n < 4096) (h : digB n k = true) : bits .and .i64 ((n : Int) / 2 ^ k) 1 = 1 := by
  have := bit_test (p := k) hn
  rw [h] at this
  exact beq_iff_eq.1 this
theorem bit_zero {n k : Nat} (hn : n < 4096) (h : digB n k = false) : bits .and .i64 ((n : Int) / 2 ^ k) 1 = 0 := by
  unfold digB at h
  rw [decide_eq_false_iff_not] at h
  rw [shr_nat, and1 _ (Nat.lt_of_le_of_lt (Nat.div_le_self _ _) hn)]
  have : n / 2 ^ k % 2 = 0 := by omega
  rw [this]
  rfl
end M
namespace C
set_option maxHeartbeats 3200000
set_option maxRecDepth 20000
theorem l2Painted_any (w : World) (lo hi : Nat) (a : Option Addr) (c : Nat) (l : List Int) (h : RowIn lo hi w a (M.encIs l)) (hz : hi ≤ w.heap.size) (ho : M.orderB l 6 = true) (n : Nat) (hn : n < 64) :
    Calls Try.prog 78 #[.int .i64 (n : Int), .slice a l.length c] w fun e w' => e = .returned (.int .i64 (M.paintF l n)) ∧ Below w.heap.size w w' := by
  have H := Lib.hid h
  have HO := Lib.hid ho
  have HL := Lib.hid (M.order_len ho)
  clear h ho
  go_enter Try.func78, Try.ntmps78
  go_wp2_with fail
  go_loopw [5, 6] (fun o i wr => ∃ (k : Nat), k ≤ 6 ∧ i = .int .i64 k ∧ o = .int .i64 ((M.paintN l n k : Nat) : Int) ∧ Below w.heap.size w wr) (fun _ i _ => 6 - (intOf i).toNat)
  case atStart => exact ⟨0, by omega, rfl, rfl, Below.refl _ _⟩
  case round =>
    obtain ⟨k, hk, rfl, rfl, hbr⟩ := hrel
    have HB := Lib.hid hbr
    have hzr := hbr.size
    clear hbr
    by_cases hlt : k < 6
    · have hkl : k < l.length := by rw [HL.out]; exact hlt
      obtain ⟨b, off, rfl, _, _, hc0⟩ := (H.out.below HB.out hz).at_ (k := k) (by rw [M.encIs_len]; exact hkl)
      have hy := M.order_at HO.out (k := k) hlt
      obtain ⟨y, hy2⟩ : ∃ y : Nat, l.getD k 0 = (y : Int) := ⟨(l.getD k 0).toNat, by omega⟩
      have hy6 : y < 6 := by omega
      have p0 : wr.cell? ⟨b, off + k, none⟩ = some (.int .i64 (y : Int)) := by rw [← hy2, List.getD_eq_getElem?_getD, List.getElem?_eq_getElem hkl]; exact hc0 _ _ (M.encIs_at hkl)
      have hlk : (k : Int) < (l.length : Int) := by omega
      have hp64 := M.paintL_lt HO.out n k (by omega)
      have HY := Lib.hid hy2
      clear hc0 hy hy2
      cases hd : M.digB n k with
      | true =>
        have hb1 := M.bit_one (k := k) (by omega : n < 4096) hd
        have HN := Lib.hid (M.paintN_yes (l := l) hd)
        have HOR := Lib.hid (M.or_bit hp64 hy6)
        clear hd
        generalize M.paintN l n k = p at *
        go_wp2_with fail
        go_quiet (fail)
        go_wp2_with fail
        refine ⟨⟨k + 1, by omega, by go_num, by rw [HN.out, HY.out, Int.toNat_natCast, ← HOR.out], Below.drawnN HB.out _⟩, by simp [intOf]; omega⟩
      | false =>
        have hb1 := M.bit_zero (k := k) (by omega : n < 4096) hd
        have HN := Lib.hid (M.paintN_no (l := l) hd)
        have HOR := Lib.hid (M.or_none hp64)
        clear hd
        generalize M.paintN l n k = p at *
        go_wp2_with fail
        go_quiet (fail)
        go_wp2_with fail
        refine ⟨⟨k + 1, by omega, by go_num, by rw [HN.out, HOR.out], Below.drawnN HB.out _⟩, by simp [intOf]; omega⟩
    · obtain rfl : k = 6 := by omega
      go_wp2_with fail
      go_ret
      exact ⟨rfl, HB.out⟩
theorem paint1_any (B : Nat) (l : List Int) (a : Option Addr) (c lo hi : Nat) (n : Nat) (hn : n < 64) (ho : M.orderB l 6 = true) (w : World) (h : RowIn lo hi w a (M.encIs l)) (hz : hi ≤ w.heap.size) (hc : w.cell? ⟨B, 0, none⟩ = some (.slice a l.length c)) (hB : B < w.heap.size) :
    Calls Try.prog 80 (#[.int .i64 (n : Int)] ++ #[.pointer (some ⟨B, 0, none⟩)]) w fun e w' => e = .returned (.int .i64 (M.paintF l n)) ∧ Below w.heap.size w w' := by
  show Calls Try.prog 80 #[.int .i64 (n : Int), .pointer (some ⟨B, 0, none⟩)] w _
  have H := Lib.hid h
  have HO := Lib.hid ho
  have HL := Lib.hid (M.order_len ho)
  clear h ho
  go_enter Try.func80, Try.ntmps80
  go_wp2_with fail
  refine (digits_any n (by omega) _).mono ?_
  rintro e w1 ⟨da, dc, rfl, hdo, hd1, hd2, hb1⟩
  rw [M.digs_12 hn] at hdo hd1 ⊢
  have HB1 := Lib.hid hb1
  have HD := Lib.hid hdo.row
  have hz1 := hb1.size
  have hC1 := (hb1.cell (p := ⟨B, 0, none⟩) hB).trans hc
  have HR1 := Lib.hid (H.out.below hb1 hz)
  have hdl := M.digsTo_len n 6
  have hmem : Hid (∀ z ∈ M.digsTo n 6, 0 ≤ z ∧ z < 6) := Lib.hid (fun z hz => M.mem_digs hz)
  have HPF : Hid (M.paintF l n = ((M.paintL l (M.digsTo n 6) : Nat) : Int)) := Lib.hid (by unfold M.paintF M.paintN; rw [Int.toNat_natCast])
  clear hb1 hdo hc
  generalize M.digsTo n 6 = ds at *
  go_wp2_with fail
  go_loop [4, 6, 10] (fun o _ i => ∃ (k : Nat), k ≤ ds.length ∧ i = .int .i64 k ∧ o = .int .i64 ((M.paintL l (ds.take k) : Nat) : Int)) (fun _ _ i => ds.length - (intOf i).toNat)
  case atStart => exact ⟨0, by omega, rfl, rfl⟩
  case round =>
    obtain ⟨k, hk, rfl, rfl⟩ := hrel
    by_cases hlt : k < ds.length
    · obtain ⟨db, doff, hda, _, _, hc0⟩ := HD.out.at_ (k := k) (by rw [M.encIs_len]; exact hlt)
      subst hda
      have hx := hmem.out _ (List.getElem_mem hlt)
      obtain ⟨x, hx2⟩ : ∃ x : Nat, ds[k] = (x : Int) := ⟨ds[k].toNat, by omega⟩
      have hx6 : x < 6 := by omega
      have p1 : w1.cell? ⟨db, doff + k, none⟩ = some (.int .i64 (x : Int)) := by rw [← hx2]; exact hc0 _ _ (M.encIs_at hlt)
      have hxl : x < l.length := by rw [HL.out]; exact hx6
      obtain ⟨b, off, hba, _, _, hl0⟩ := HR1.out.at_ (k := x) (by rw [M.encIs_len]; exact hxl)
      subst hba
      have hy := M.order_at HO.out (k := x) hx6
      obtain ⟨y, hy2⟩ : ∃ y : Nat, l.getD x 0 = (y : Int) := ⟨(l.getD x 0).toNat, by omega⟩
      have hy6 : y < 6 := by omega
      have p0 : w1.cell? ⟨b, off + x, none⟩ = some (.int .i64 (y : Int)) := by rw [← hy2, List.getD_eq_getElem?_getD, List.getElem?_eq_getElem hxl]; exact hl0 _ _ (M.encIs_at hxl)
      have hlk : (k : Int) < (ds.length : Int) := by omega
      have hlx : (x : Int) < (l.length : Int) := by omega
      have hp64 := M.take_lt HO.out hmem.out k
      have HN : Hid (M.paintL l (ds.take (k + 1)) = M.paintL l (ds.take k) ||| 2 ^ y) := Lib.hid (by rw [M.paintL_take hlt, hx2, Int.toNat_natCast, hy2, Int.toNat_natCast])
      have HOR := Lib.hid (M.or_bit hp64 hy6)
      clear hc0 hl0 hy hy2 hx hx2
      generalize M.paintL l (ds.take k) = p at *
      go_wp2_with fail
      go_round
      case rel => exact ⟨k + 1, by omega, by go_num, by rw [HN.out, ← HOR.out]⟩
      case measure => simp [intOf]; omega
    · obtain rfl : k = ds.length := by omega
      go_wp2_with fail
      go_ret
      exact ⟨by rw [HPF.out]; rfl, HB1.out⟩
end C
end Go.Proofs.Ytmccpjdgnenmeaa
