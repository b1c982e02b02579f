/-
  CONTRACT of the model's l4Step: the numbers of the states to which one step leads, in a new list; what lay in memory stays. Condition: a valid maze, a node and a set of colours.
-/
import Derived.Test.YtcoaggnilgfjfaaSpS
namespace Go.Proofs.Ytcoaggnilgfjfaa
open Go.RowKit
namespace C
set_option maxHeartbeats 3200000
set_option maxRecDepth 20000
theorem l4Step_any (w : World) (lo hi : Nat) (m : M.Mz) (a b : Option Addr) (c d : Nat) (h : MzIn lo hi w m a c b d) (hz : hi ≤ w.heap.size) (V : M.Valid m) (s : M.St) (hs : M.StOk m s) :
    Calls Try.prog 109 #[.agg #[.int .i64 m.size, .slice a m.doors.length c, .slice b m.keys.length d], .int .i64 s.1, .int .i64 s.2] w (IntsPost w (M.ids (M.nexts m s))) := by
  obtain ⟨ii0, hi0, hz0, hzz1, hz2⟩ := info_parts infoI
  obtain ⟨hs1, hs2, hs3, hs4⟩ := hs
  have H := Lib.hid h
  have HVA := Lib.hid V
  have v12 := V.size12
  have v1 := V.size1
  have v30 := V.few
  have vk := V.keysLen
  obtain ⟨n, hn'⟩ : ∃ n : Nat, (n : Int) = m.size := ⟨m.size.toNat, by omega⟩
  have HN : Hid (M.nexts m s = M.nextsTo m s n) := Lib.hid (by unfold M.nexts; rw [← hn', Int.toNat_natCast])
  have hn := Lib.hid hn'
  have hnn : n ≤ 12 := by omega
  have hkn : n = m.keys.length := by omega
  have HKN := Lib.hid hkn
  clear h V hn' hkn vk
  go_enter Try.func109, Try.ntmps109
  go_upto_region 2 with fail
  refine wp_named ?_
  intro W hW
  have hb : Below w.heap.size w W := by rw [hW]; exact (below_alloc _ _).alloc (by simp) _
  have x1 : Box3 W w.heap.size 29 (.int .i64 m.size) (.slice a m.doors.length c) (.slice b m.keys.length d) := by rw [hW]; exact (Box3.new _ _ _ _ rfl).alloc _
  have o1 : W.ownsRow w.heap.size 3 1 (.slice (some ⟨w.heap.size + 1, 0, none⟩) 0 0) 0 (M.encIs (M.ids (M.nextsTo m s 0))) := by
    rw [hW]
    have := ownsRow_empty (w.alloc (.cells #[.int .i64 m.size, .slice a m.doors.length c, .slice b m.keys.length d] 29)) w.heap.size 3 1 (by simp)
    rw [World.size_alloc] at this
    exact this
  clear hW
  have X1 := Lib.hid x1
  have O1 := Lib.hid o1
  have HB := Lib.hid hb
  clear x1 o1 hb
  go_wp2_with fail
  go_loopw [7, 8] (fun v7 v8 wr => ∃ (k : Nat), k ≤ n ∧ v8 = .int .i64 (k : Int) ∧ wr.ownsRow w.heap.size 3 1 v7 (M.nextsTo m s k).length (M.encIs (M.ids (M.nextsTo m s k))) ∧ Box3 wr w.heap.size 29 (.int .i64 m.size) (.slice a m.doors.length c) (.slice b m.keys.length d) ∧ Below w.heap.size w wr) (fun _ v8 _ => n - (intOf v8).toNat)
  case atStart => exact ⟨0, Nat.zero_le _, rfl, O1.out, X1.out, HB.out⟩
  case round =>
    obtain ⟨k, hk, rfl, hso, hx, hlow⟩ := hrel
    obtain ⟨la, lc, hv, hl1, hl2, _⟩ := own_slice hso
    subst hv
    have SO := Lib.hid hso
    have X7 := Lib.hid hx
    have LO := Lib.hid hlow
    have hzr := hlow.size
    have hll := M.nextsTo_len m s k
    obtain ⟨x0, x1, x2⟩ := hx.cells
    rw [← hn.out] at x0
    have hxl := hx.lt
    clear hso hx hlow
    by_cases hkl : k < n
    · have HO := Lib.hid (fun W' (hq : Below wr.heap.size wr W') => l2Open_any W' lo hi m a b c d s.1 (k : Int) s.2 (H.out.below (LO.out.trans (hq.mono hzr)) hz) (by have := hq.size; omega) (by omega))
      have hag := X7.out.cells.1
      cases hop : M.openB m.doors s.1 (k : Int) s.2 with
      | false =>
        have HNO := Lib.hid (M.nextsTo_no hop)
        have HO1 := HO.out wr (Below.refl _ _)
        rw [hop, ← hn.out] at HO1
        have HO2 := Lib.hid HO1
        clear hop HO1 hag
        go_wp2_with fail
        refine (HO2.out).mono ?_
        rintro e w2 ⟨rfl, hb2⟩
        have SO2 := Lib.hid (own_below SO.out hb2)
        have X2 := Lib.hid (X7.out.below hb2)
        have LO2 := Lib.hid (LO.out.trans (hb2.mono hzr))
        clear hb2
        go_wp2_with fail
        go_roundw
        case rel => exact ⟨k + 1, by omega, by go_num, by rw [HNO.out]; exact SO2.out, X2.out, LO2.out⟩
        case measure => simp [intOf]; omega
      | true =>
        have HYE := Lib.hid (M.nextsTo_yes hop)
        have HO1 := HO.out wr (Below.refl _ _)
        rw [hop, ← hn.out] at HO1
        have HO2 := Lib.hid HO1
        clear hop HO1 hag
        go_wp2_with fail
        refine (HO2.out).mono ?_
        rintro e w2 ⟨rfl, hb2⟩
        have SO2 := Lib.hid (own_below SO.out hb2)
        have X2 := Lib.hid (X7.out.below hb2)
        have LO2 := Lib.hid (LO.out.trans (hb2.mono hzr))
        have hz2' := hb2.size
        clear hb2 x0 x1 x2
        obtain ⟨x0, x1, x2⟩ := X2.out.cells
        obtain ⟨kb, koff, hkb, _, hkbl, hkc⟩ := (H.out.below LO2.out hz).keys.at_ (k := k) (by rw [M.encIs_len]; have := HKN.out; omega)
        subst hkb
        have hkk : k < m.keys.length := by have := HKN.out; omega
        have kx := hkc _ _ (M.encIs_at hkk)
        rw [← M.keyAt_eq hkk] at kx
        have hkd : k < d := by have := H.out.d1; omega
        have hset := M.or_set hs3 hs4 (M.keyAt_set HVA.out (k : Int)).1 (M.keyAt_set HVA.out (k : Int)).2
        have HID := Lib.hid (fun W' => l4Id_any (k : Int) (bits .or .i64 s.2 (M.keyAt m (k : Int))) W' (by omega) (by omega) hset.1 (by omega))
        have hst : ((k : Int), bits .or .i64 s.2 (M.keyAt m (k : Int))) = M.stAt m (k : Int) s.2 := rfl
        rw [hst] at HID
        have HKE : Hid (M.ids [M.stAt m (k : Int) s.2] = [((M.idN (M.stAt m (k : Int) s.2) : Nat) : Int)]) := Lib.hid rfl
        clear hkc hset hst
        generalize M.keyAt m (k : Int) = ky at *
        generalize M.idN (M.stAt m (k : Int) s.2) = idv at *
        go_wp2_with fail
        refine (HID.out _).mono ?_
        rintro e w3 ⟨rfl, rfl⟩
        have HNE := Lib.hid (own_ne_box SO2.out X2.out (by decide))
        go_wp2_with (at_builtin; refine wpList_append_own _ rfl _ _ 23 rfl w.heap.size 3 ii0 (.int .i64 0) 1 8 Try.underlying23 hi0 hz0 hzz1 hz2 rfl (by decide) _ _ _ rfl (SO2.out.alloc _) ⟨w2.heap.size, 0, none⟩ 1 1 [.int .i64 (idv : Int)] rfl rfl (cell_one_new _ _ _) (fun x hx => by simp at hx; subst hx; rfl) (by unfold maxLen; omega) (by omega) (by simp; omega) ?_; intro v' w7 hown' hgrow7 hnil7)
        go_roundw
        case rel =>
          refine ⟨k + 1, by omega, by go_num, ?_, (X2.out.alloc _).grown hgrow7 HNE.out, (LO2.out.alloc (by omega) _).grown hgrow7 (by simp; omega) (own_base SO2.out)⟩
          rw [HYE.out, M.ids_append, HKE.out, M.encIs_append, List.length_append]
          exact hown'
        case measure => simp [intOf]; omega
    · obtain rfl : k = n := by omega
      have HL := Lib.hid (M.ids_len (M.nextsTo m s k))
      go_wp2_with fail
      go_ret
      rw [HN.out]
      exact ints_end (by rw [HL.out]; exact SO.out) LO.out
end C
end Go.Proofs.Ytcoaggnilgfjfaa
