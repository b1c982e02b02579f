/-
  CONTRACT of the model's l8Spread: for each visit, by its number, the least number of acts, or of pulls, or -1, in a new list; what lay in memory stays. Condition: valid works and a valid visit.
-/
import Derived.Test.YtdgfceiobpnchaaIdsV
import Derived.Test.YtdgfceiobpnchaaWanM
import Derived.Test.YtdgfceiobpnchaaActS
import Derived.Test.YtdgfceiobpnchaaLate
import Derived.Test.YtdgfceiobpnchaaOwnQ
import Derived.StillTailTactics
import Derived.IntWalk
namespace Go.Proofs.Ytdgfceiobpnchaa
open Go.RowKit
namespace M
theorem vs_num {m : Wk} (V : WV m) : (∀ s, VsOk m s → 0 ≤ s.1 * 64 + s.2 ∧ s.1 * 64 + s.2 < (768 : Nat)) ∧ ∀ s t, VsOk m s → VsOk m t → s.1 * 64 + s.2 = t.1 * 64 + t.2 → s = t := by
  have v12 := V.size12
  refine ⟨fun s ⟨h1, h2, h3, h4⟩ => by constructor <;> omega, fun s t ⟨h1, h2, h3, h4⟩ ⟨k1, k2, k3, k4⟩ e => ?_⟩
  obtain ⟨a, b⟩ := s
  obtain ⟨c, d⟩ := t
  simp only at *
  have ea : a = c := by omega
  have eb : b = d := by omega
  rw [ea, eb]
end M
namespace C
set_option maxHeartbeats 3200000
set_option maxRecDepth 20000
theorem l8Spread_any (w : World) (lo hi : Nat) (m : M.Wk) (a b : Option Addr) (c d : Nat) (h : WkIn lo hi w m a c b d) (hz : hi ≤ w.heap.size) (V : M.WV m) (s : M.Vs) (hs : M.VsOk m s) (pulls : Bool) :
    Calls Try.prog 82 #[.agg #[.int .i64 m.size, .slice a m.gates.length c, .slice b m.pulls.length d], .int .i64 s.1, .int .i64 s.2, .bool pulls] w (IntsPost w (M.tblL (M.size64 m) (M.dstC (M.edgeW m pulls) s))) := by
  obtain ⟨ii0, hi0, hz0, hzz1, hz2⟩ := info_parts infoI
  have HSS := Lib.hid hs
  have HVA := Lib.hid V
  have v12 := V.size12
  have v1 := V.size1
  have HNUM := Lib.hid (M.vs_num V)
  obtain ⟨hs1, hs2, hs3, hs4⟩ := hs
  have H := Lib.hid h
  obtain ⟨sz, hsz'⟩ : ∃ n : Nat, n = M.size64 m := ⟨_, rfl⟩
  have HSZ := Lib.hid hsz'
  have hszi : (sz : Int) = m.size * 64 := by rw [hsz']; unfold M.size64; omega
  have hszb : sz ≤ 768 ∧ 64 ≤ sz := by omega
  have HIDL := Lib.hid (fun t (ht : M.VsOk m t) => show M.idN t < sz by rw [hsz']; exact M.idN_lt ht)
  have HRES : Hid (M.tblL (M.size64 m) (M.dstC (M.edgeW m pulls) s) = M.tblL sz (M.dstC (M.edgeW m pulls) s)) := Lib.hid (by rw [hsz'])
  have HSI := Lib.hid hszi
  clear h V hsz' hszi
  go_enter Try.func82, Try.ntmps82
  go_upto_region 1 with fail
  refine wp_named ?_
  intro W hW
  have hb : Below w.heap.size w W := by rw [hW]; exact below_alloc _ _
  have x1 : Box3 W w.heap.size 28 (.int .i64 m.size) (.slice a m.gates.length c) (.slice b m.pulls.length d) := by rw [hW]; exact Box3.new _ _ _ _ rfl
  have hws : W.heap.size = w.heap.size + 1 := by rw [hW]; simp
  clear hW
  obtain ⟨c0, c1, c2⟩ := x1.cells
  have X1 := Lib.hid x1
  have HB := Lib.hid hb
  clear x1 hb
  go_wp2_with (at_make; refine wpList_make_full _ rfl _ _ 23 rfl W.heap.size 3 ii0 (.int .i64 0) 1 Try.underlying23 hi0 hz0 hzz1 .i64 .i64 _ _ sz rfl rfl HSI.out.symm HSI.out.symm (by rw [hz2]; omega) (by unfold maxLen; omega) (Nat.le_refl _) ?_; intro w1 hown1 hgrow1)
  rw [hws] at hown1
  have hb1 : Below W.heap.size W w1 := (Below.refl _ _).grown hgrow1 (Nat.le_refl _) (fun k e => by cases e)
  have HO1 : Hid (∃ xs : List Value, w1.ownsRow (w.heap.size + 1) 3 1 (.slice (some ⟨w.heap.size + 1, 0, none⟩) sz sz) sz xs) := Lib.hid ⟨_, hown1⟩
  have X2 := Lib.hid (X1.out.below hb1)
  have HB2 := Lib.hid (HB.out.trans (hb1.mono (by omega)))
  clear hown1 hgrow1 hb1 c0 c1 c2
  clear hws
  go_wp2_with fail
  go_loopw [10] (fun v8 wr => ∃ (k : Nat) (xs : List Value), k ≤ sz ∧ v8 = .int .i64 (k : Int) ∧ xs.take k = List.replicate k (.int .i64 (-1)) ∧ wr.ownsRow (w.heap.size + 1) 3 1 (.slice (some ⟨w.heap.size + 1, 0, none⟩) sz sz) sz xs ∧ Box3 wr w.heap.size 28 (.int .i64 m.size) (.slice a m.gates.length c) (.slice b m.pulls.length d) ∧ Below w.heap.size w wr) (fun v8 _ => sz - (intOf v8).toNat)
  case atStart =>
    obtain ⟨xs, hx⟩ := HO1.out
    exact ⟨0, xs, Nat.zero_le _, rfl, by simp, hx, X2.out, HB2.out⟩
  case round =>
    obtain ⟨k, xs, hk, rfl, ht, hown, hbx, hlow⟩ := hrel
    have HT := Lib.hid ht
    have HO := Lib.hid hown
    have BX := Lib.hid hbx
    have LO := Lib.hid hlow
    have hzr := hlow.size
    have HXL := Lib.hid (show xs.length = sz by have := hown.1; omega)
    have hol := (hown.lt _ rfl).2
    clear ht hown hbx hlow
    by_cases hlt : k < sz
    · obtain ⟨u, hu⟩ : ∃ u, xs[k]? = some u := ⟨_, List.getElem?_eq_getElem (by have := HXL.out; omega)⟩
      have hdst : wr.cell? ⟨w.heap.size + 1, k, none⟩ = some u := by rw [HO.out.cellAt k (by omega), hu]
      have hfr : wr.frozen? ⟨w.heap.size + 1, k, none⟩ = false := HO.out.frozenAt k
      have HS := Lib.hid (HO.out.stored k (.int .i64 (-1)))
      clear hu
      go_wp2_with fail
      go_roundw
      case rel =>
        refine ⟨k + 1, xs.set k (.int .i64 (-1)), by omega, by go_num, ?_, HS.out.1, BX.out.turned (Turned.setCell _ _ _ _ (Nat.le_refl _) (Nat.lt_succ_self _)) (.inl (by omega)), LO.out.setCell (p := ⟨w.heap.size + 1, k, none⟩) (by show w.heap.size ≤ w.heap.size + 1; omega) _⟩
        have h1 : k < xs.length := by have := HXL.out; omega
        rw [List.take_succ_eq_append_getElem (by simpa using h1), List.take_set_of_le (Nat.le_refl _), HT.out, List.getElem_set_self, List.replicate_succ']
      case measure => simp [intOf]; omega
    · obtain rfl : sz = k := by omega
      have hall : xs = M.encIs (M.tblL sz fun _ => none) := by
        have := HT.out
        rw [List.take_of_length_le (by have := HXL.out; omega)] at this
        rw [this, M.tblL_none]
      subst hall
      have HID := Lib.hid (fun W' => l4Id_any s.1 s.2 W' (by omega) (by omega) (by omega) (by omega))
      have hidl := HIDL.out s HSS.out
      have hst : (s.1, s.2) = s := rfl
      rw [hst] at HID
      clear hst
      go_upto_region 6 with fail
      go_wp2_with fail
      refine (HID.out _).mono ?_
      rintro e w3 ⟨rfl, rfl⟩
      have hoS : (wr.alloc (.cells #[.int .i64 ((M.idN s : Nat) : Int)] 3)).ownsRow (w.heap.size + 2) 3 1 (.slice (some ⟨wr.heap.size, 0, none⟩) 1 1) 1 (M.encIs (M.ids [s])) :=
        ⟨by simp [M.encIs, M.ids], .inr ⟨wr.heap.size, 1, _, rfl, by omega, heap_alloc_new wr _, Nat.le_refl _, by unfold maxLen; omega, by simp, by simp [M.encIs, M.ids]⟩⟩
      go_upto_region 7 with fail
      refine wp_named ?_
      intro W6 hW6
      have hb6 : Below wr.heap.size wr W6 := by rw [hW6]; exact below_alloc _ _
      rw [← hW6] at hoS
      have O6 := Lib.hid (own_below HO.out hb6)
      have B6 := Lib.hid (BX.out.below hb6)
      have L6 := Lib.hid (LO.out.trans (hb6.mono hzr))
      have LI6 := Lib.hid hoS
      have hl6 := (hoS.lt _ rfl).2
      have hlc : W6.cell? ⟨wr.heap.size, 0, none⟩ = some (.int .i64 ((M.idN s : Nat) : Int)) := by rw [hoS.cellAt 0 (by omega)]; rfl
      have hdst : W6.cell? ⟨w.heap.size + 1, M.idN s, none⟩ = some (.int .i64 (-1)) := by rw [O6.out.cellAt _ (by omega), M.tblL_at hidl]; rfl
      have hfr : W6.frozen? ⟨w.heap.size + 1, M.idN s, none⟩ = false := O6.out.frozenAt _
      have hset := M.tblL_set (n := sz) (fun _ => none) HSS.out 0
      have OS := O6.out.stored (M.idN s) (.int .i64 ((0 : Nat) : Int))
      rw [hset] at OS
      have HOS := Lib.hid OS
      have BF : Hid (M.Lbl (M.edgeW m pulls) s [s] [s] 0 (M.upd (fun _ => none) s 0)) := Lib.hid (M.Lbl.start)
      have HPS : Hid (M.pot 769 [s] (M.upd (fun _ => none) s 0) = 590592) := Lib.hid (by simp [M.pot, M.upd])
      clear hW6 hoS hb6 OS hset
      generalize wr.heap.size = gl at *
      go_wp2_with fail
      refine wp_named ?_
      intro W7 hW7
      have O7 : Hid (W7.ownsRow (w.heap.size + 1) 3 1 (.slice (some ⟨w.heap.size + 1, 0, none⟩) sz sz) sz (M.encIs (M.tblL sz (M.upd (fun _ => none) s 0)))) := Lib.hid (by rw [hW7]; exact HOS.out.1)
      have hg7 : W6.grownBy W7 (some (w.heap.size + 1)) := by rw [hW7]; exact HOS.out.2
      have LI7 := Lib.hid (LI6.out.kept hg7 (.inr (by simp [Value.ownBlock]; omega)))
      have B7 := Lib.hid (B6.out.grown hg7 (by simp))
      have L7 := Lib.hid (L6.out.grown hg7 (by have := L6.out.size; omega) (fun z hz => by injection hz with hz; omega))
      clear hW7 hg7 HOS O6 LI6 B6 L6 hlc hdst hfr HT HO BX LO HXL X2 HO1 HB2
      go_loopw [11, 12, 13, 14, 15, 16, 17, 18, 19, 20] (fun v11 v12 _ _ _ _ _ _ _ _ wr => ∃ (K L : List M.Vs) (n : Nat) (f : M.Vs → Option Nat) (ga ca : Nat), M.Lbl (M.edgeW m pulls) s K L n f ∧ L.length + M.pot 769 K f ≤ 590593 ∧ v12 = .int .i64 (n : Int) ∧ v11 = .slice (some ⟨ga, 0, none⟩) L.length ca ∧ wr.ownsRow (w.heap.size + 2) 3 1 v11 L.length (M.encIs (M.ids L)) ∧
        wr.ownsRow (w.heap.size + 1) 3 1 (.slice (some ⟨w.heap.size + 1, 0, none⟩) sz sz) sz (M.encIs (M.tblL sz f)) ∧ Box3 wr w.heap.size 28 (.int .i64 m.size) (.slice a m.gates.length c) (.slice b m.pulls.length d) ∧ Below w.heap.size w wr) (fun _ v12 _ _ _ _ _ _ _ _ _ => 600000 - (intOf v12).toNat)
      case atStart => exact ⟨[s], [s], 0, _, gl, 1, BF.out, by rw [HPS.out]; simp, rfl, rfl, LI7.out, O7.out, B7.out, L7.out⟩
      case round =>
        obtain ⟨K, L, n, f, ga, ca, hbf, hpot, rfl, rfl, hli, hou, hbx, hlow⟩ := hrel
        have hle := hbf.le
        have BF := Lib.hid hbf
        have LI := Lib.hid hli
        have OU := Lib.hid hou
        have BX := Lib.hid hbx
        have LO := Lib.hid hlow
        have HPT := Lib.hid hpot
        have hLl : L.length ≤ 590593 := by omega
        have hzr := hlow.size
        have hlb : w.heap.size + 2 ≤ ga ∧ ga < wr.heap.size := hli.lt _ rfl
        have hob : w.heap.size + 1 < wr.heap.size := (hou.lt _ rfl).2
        clear hbf hli hou hbx hlow hpot
        by_cases hnl : n < L.length
        · obtain ⟨k, hmid⟩ := BF.out.enter hnl
          have MI := Lib.hid hmid
          have hlc : wr.cell? ⟨ga, n, none⟩ = some (.int .i64 ((M.idN L[n] : Nat) : Int)) := by rw [LI.out.cellAt n (by omega), M.ids_at hnl]
          have HSx : Hid (M.VsOk m L[n]) := Lib.hid ((M.Cst.inside (S := M.VsOk m) HSS.out (fun _ hs' _ hp => M.edgeW_ok HVA.out hs' hp)) (hmid.val _ _ hmid.has))
          have hxi := M.idN_int HSx.out
          have hx4 := HSx.out
          clear hmid
          generalize L[n] = x at *
          obtain ⟨y1, y2, y3, y4⟩ := hx4
          have hq : ((M.idN x : Nat) : Int).tdiv 64 = x.1 := by rw [Int.tdiv_eq_ediv_of_nonneg (by omega)]; omega
          have hr : ((M.idN x : Nat) : Int).tmod 64 = x.2 := by rw [Int.tmod_eq_emod_of_nonneg (by omega)]; omega
          have hwx : IntKind.i64.wrap x.1 = x.1 := IntWalk.i64_in _ (by omega)
          have hxl := HIDL.out x HSx.out
          have hnca : n < ca := by obtain ⟨_, _, e9, h9, _⟩ := own_slice LI.out; cases e9; omega
          have hbx0 := BX.out.cells
          obtain ⟨bx0, bx1, bx2⟩ := hbx0
          clear hxi
          go_wp2_with fail
          go_quiet (fail)
          go_wp2_with fail
          refine (l8Acts_any _ lo hi m a b c d (H.out.below (Below.drawnN LO.out _) hz) (by show hi ≤ wr.heap.size; omega) HVA.out x HSx.out).mono ?_
          rintro e w5 ⟨a5, c5, rfl, hr5, hq5, hq6, hb5⟩
          have hb5x : Below wr.heap.size wr w5 := (Below.drawnN (Below.refl wr.heap.size wr) _).trans hb5
          have X5 := Lib.hid (BX.out.below hb5x)
          have LO5 := Lib.hid (LO.out.trans (hb5x.mono hzr))
          have hsz5 := hb5x.size
          have R5 : Hid (RowIn wr.heap.size w5.heap.size w5 a5 (M.encIs (M.actsL m x))) := Lib.hid hr5.row
          have LI5 := Lib.hid (own_below LI.out hb5x)
          have OU5 := Lib.hid (own_below OU.out hb5x)
          have hal := M.actsL_len m x
          clear hr5 hb5 hb5x hq hr hlc hwx hq5 hq6 bx0 bx1 bx2
          generalize hNx : M.actsL m x = T at *
          have HNX := Lib.hid hNx
          have HEL : Hid ((M.edgeW m pulls x).length = T.length) := Lib.hid (by unfold M.edgeW; rw [List.length_map, hNx])
          have HEJ : Hid (∀ j (hj : j < T.length), (M.edgeW m pulls x)[j]? = some (M.wtA pulls T[j], M.doA m x T[j])) := Lib.hid fun j hj => by
            unfold M.edgeW
            rw [List.getElem?_map, hNx, List.getElem?_eq_getElem hj]
            rfl
          clear hNx
          generalize wr.heap.size = g9 at *
          go_wp2_with fail
          go_loopw [11, 16, 17, 18, 19, 20] (fun v11 v16 _ _ _ _ wr => ∃ (j : Nat) (K' L' : List M.Vs) (f' : M.Vs → Option Nat) (gb cb : Nat), j ≤ T.length ∧ v16 = .int .i64 (j : Int) ∧ M.LMid (M.edgeW m pulls) s K' L' n j f' x k ∧ L'.length + M.pot 769 K' f' ≤ 590593 ∧ v11 = .slice (some ⟨gb, 0, none⟩) L'.length cb ∧ wr.ownsRow (w.heap.size + 2) 3 1 v11 L'.length (M.encIs (M.ids L')) ∧ (gb < g9 ∨ w5.heap.size ≤ gb) ∧
            wr.ownsRow (w.heap.size + 1) 3 1 (.slice (some ⟨w.heap.size + 1, 0, none⟩) sz sz) sz (M.encIs (M.tblL sz f')) ∧ Box3 wr w.heap.size 28 (.int .i64 m.size) (.slice a m.gates.length c) (.slice b m.pulls.length d) ∧ RowIn g9 w5.heap.size wr a5 (M.encIs T) ∧ Below w.heap.size w wr ∧ w5.heap.size ≤ wr.heap.size) (fun _ v16 _ _ _ _ _ => T.length - (intOf v16).toNat)
          case atStart => exact ⟨0, K, L, f, ga, ca, Nat.zero_le _, rfl, MI.out, HPT.out, rfl, LI5.out, .inl hlb.2, OU5.out, X5.out, R5.out, LO5.out, Nat.le_refl _⟩
          case round =>
            obtain ⟨j, K', L', f', gb, cb, hj, rfl, hmj, hpj, rfl, hlj, hzone, hoj, hbx, hrow, hlow, hszw⟩ := hrel
            have MJ := Lib.hid hmj
            have PJ := Lib.hid hpj
            have LJ := Lib.hid hlj
            have OJ := Lib.hid hoj
            have BJ := Lib.hid hbx
            have RJ := Lib.hid hrow
            have WJ := Lib.hid hlow
            have hLj : L'.length ≤ 590593 := by omega
            have hKj : K'.length ≤ 768 := hmj.len HSS.out (fun _ hs' _ hp => M.edgeW_ok HVA.out hs' hp) HNUM.out.1 HNUM.out.2
            have hsm := hmj.small _ _ hmj.has
            have hnj := hmj.lt
            have hbj : w.heap.size + 2 ≤ gb ∧ gb < wr.heap.size := hlj.lt _ rfl
            have hoj2 : w.heap.size + 1 < wr.heap.size := (hoj.lt _ rfl).2
            have hzj := hlow.size
            have hncb : n < cb := by obtain ⟨_, _, e9, h9, _⟩ := own_slice hlj; cases e9; omega
            have hLcb : L'.length ≤ cb := by obtain ⟨_, _, e9, h9, _⟩ := own_slice hlj; cases e9; omega
            clear hmj hlj hoj hbx hrow hlow hpj
            by_cases hjl : j < T.length
            · obtain ⟨rb, roff, hra, hrb1, hrb2, hrc⟩ := RJ.out.at_ (k := j) (by rw [M.encIs_len]; exact hjl)
              subst hra
              have y0 := hrc _ _ (M.encIs_at hjl)
              have HAM : Hid (T[j] ∈ M.actsL m x) := Lib.hid (by rw [HNX.out]; exact List.getElem_mem hjl)
              have HE1 := Lib.hid (HEJ.out j hjl)
              have hrbl : rb < wr.heap.size := by omega
              clear hrc
              generalize T[j] = act at *
              obtain ⟨hact, hact1⟩ := M.actsL_rng HVA.out HAM.out
              have hact2 : act < 9223372036854775807 := by omega
              have HSt := Lib.hid (M.doA_ok HVA.out HSx.out HAM.out)
              have HDO := Lib.hid (l8Do_any wr.drew lo hi m a b c d (H.out.below (Below.drawnN WJ.out 1) hz) (by show hi ≤ wr.heap.size; omega) HVA.out x HSx.out act hact hact2)
              generalize M.doA m x act = t at *
              have HTS := HSt.out
              obtain ⟨t1, t2, t3, t4⟩ := HTS
              have hti := HIDL.out t HSt.out
              go_upto_region 16 with fail
              obtain ⟨bx0, bx1, bx2⟩ := BJ.out.cells
              refine wp_region_late2 (fun (wq : World) => wq.cell? ⟨w.heap.size, 0, none⟩ = some (.int .i64 m.size) ∧ wq.cell? ⟨w.heap.size, 1, none⟩ = some (.slice a m.gates.length c) ∧ wq.cell? ⟨w.heap.size, 2, none⟩ = some (.slice b m.pulls.length d) ∧ wq.cell? ⟨rb, roff + j, none⟩ = some (.int .i64 act)) [] 13 #[false, false, false, false, false, false, false, false, false, false, false, false, false] rfl rfl (by kernel_rfl) ?_
              have hS : (fun (wq : World) => wq.cell? ⟨w.heap.size, 0, none⟩ = some (.int .i64 m.size) ∧ wq.cell? ⟨w.heap.size, 1, none⟩ = some (.slice a m.gates.length c) ∧ wq.cell? ⟨w.heap.size, 2, none⟩ = some (.slice b m.pulls.length d) ∧ wq.cell? ⟨rb, roff + j, none⟩ = some (.int .i64 act)) wr.drew := ⟨bx0, bx1, bx2, y0⟩
              refine wpAnyL_take (i := 0) (oi := { dst := some 70, op := Go.Op.load 28 (Go.Operand.tmp 4), type := 28, pos := "l8_levers.go:141", after := #[], guard := none }) (v := ?pv0) rfl (by kernel_rfl) (by kernel_rfl) (by kernel_rfl) (by kernel_rfl) (fun _ _ _ h => h) (Or.inl ⟨by rfl, ?ph0⟩) hS ?pr0
              case ph0 => (intro wS hSw; (try dsimp only at hSw); go_split_ands; go_simp; try with_reducible rfl)
              try simp only [Act.put, List.setIfInBounds_toArray, List.set_cons_zero, List.set_cons_succ]
              refine wpAnyL_take (i := 1) (oi := { dst := some 71, op := Go.Op.move (Go.Operand.tmp 13), type := 3, pos := "l8_levers.go:141", after := #[], guard := none }) (v := ?pv1) rfl (by kernel_rfl) (by kernel_rfl) (by kernel_rfl) (by kernel_rfl) (fun _ _ _ h => h) (Or.inl ⟨by rfl, ?ph1⟩) hS ?pr1
              case ph1 => (intro wS hSw; (try dsimp only at hSw); go_split_ands; go_simp; try with_reducible rfl)
              try simp only [Act.put, List.setIfInBounds_toArray, List.set_cons_zero, List.set_cons_succ]
              refine wpAnyL_take (i := 2) (oi := { dst := some 72, op := Go.Op.move (Go.Operand.tmp 14), type := 3, pos := "l8_levers.go:141", after := #[], guard := none }) (v := ?pv2) rfl (by kernel_rfl) (by kernel_rfl) (by kernel_rfl) (by kernel_rfl) (fun _ _ _ h => h) (Or.inl ⟨by rfl, ?ph2⟩) hS ?pr2
              case ph2 => (intro wS hSw; (try dsimp only at hSw); go_split_ands; go_simp; try with_reducible rfl)
              try simp only [Act.put, List.setIfInBounds_toArray, List.set_cons_zero, List.set_cons_succ]
              refine wpAnyL_take (i := 3) (oi := { dst := some 73, op := Go.Op.move (Go.Operand.tmp 15), type := 23, pos := "l8_levers.go:141", after := #[], guard := none }) (v := ?pv3) rfl (by kernel_rfl) (by kernel_rfl) (by kernel_rfl) (by kernel_rfl) (fun _ _ _ h => h) (Or.inl ⟨by rfl, ?ph3⟩) hS ?pr3
              case ph3 => (intro wS hSw; (try dsimp only at hSw); go_split_ands; go_simp; try with_reducible rfl)
              try simp only [Act.put, List.setIfInBounds_toArray, List.set_cons_zero, List.set_cons_succ]
              refine wpAnyL_take (i := 4) (oi := { dst := some 74, op := Go.Op.move (Go.Operand.tmp 16), type := 3, pos := "l8_levers.go:141", after := #[], guard := none }) (v := ?pv4) rfl (by kernel_rfl) (by kernel_rfl) (by kernel_rfl) (by kernel_rfl) (fun _ _ _ h => h) (Or.inl ⟨by rfl, ?ph4⟩) hS ?pr4
              case ph4 => (intro wS hSw; (try dsimp only at hSw); go_split_ands; go_simp; try with_reducible rfl)
              try simp only [Act.put, List.setIfInBounds_toArray, List.set_cons_zero, List.set_cons_succ]
              refine wpAnyL_take (i := 5) (oi := { dst := some 75, op := Go.Op.indexAddr 23 (Go.Operand.tmp 73) (Go.Operand.tmp 74), type := 0, pos := "l8_levers.go:141", after := #[{ on := 3, ground := Go.Ground.data }, { on := 4, ground := Go.Ground.data }], guard := none }) (v := ?pv5) rfl (by kernel_rfl) (by kernel_rfl) (by kernel_rfl) (by kernel_rfl) (fun _ _ _ h => h) (Or.inl ⟨by rfl, ?ph5⟩) hS ?pr5
              case ph5 => (intro wS hSw; (try dsimp only at hSw); go_split_ands; go_simp; try with_reducible rfl)
              try simp only [Act.put, List.setIfInBounds_toArray, List.set_cons_zero, List.set_cons_succ]
              refine wpAnyL_take (i := 6) (oi := { dst := some 76, op := Go.Op.load 3 (Go.Operand.tmp 75), type := 3, pos := "l8_levers.go:141", after := #[{ on := 5, ground := Go.Ground.data }], guard := none }) (v := ?pv6) rfl (by kernel_rfl) (by kernel_rfl) (by kernel_rfl) (by kernel_rfl) (fun _ _ _ h => h) (Or.inl ⟨by rfl, ?ph6⟩) hS ?pr6
              case ph6 => (intro wS hSw; (try dsimp only at hSw); go_split_ands; go_simp; try with_reducible rfl)
              try simp only [Act.put, List.setIfInBounds_toArray, List.set_cons_zero, List.set_cons_succ]
              refine wpAnyL_one (i := 7) (oi := { dst := some 77, op := Go.Op.call { callee := Go.Callee.value (Go.Operand.func 76), args := #[Go.Operand.tmp 70, Go.Operand.tmp 71, Go.Operand.tmp 72, Go.Operand.tmp 76], argTypes := #[28, 3, 3, 3] }, type := 75, pos := "l8_levers.go:141", after := #[{ on := 0, ground := Go.Ground.data }, { on := 1, ground := Go.Ground.data }, { on := 2, ground := Go.Ground.data }, { on := 6, ground := Go.Ground.data }], guard := none }) (by kernel_rfl) rfl (fun Kp7 hKp7 => ?_)
              refine step_call (by rfl) 76 #[.agg #[.int .i64 m.size, .slice a m.gates.length c, .slice b m.pulls.length d], .int .i64 x.1, .int .i64 x.2, .int .i64 act] (by go_simp; try rfl) (HDO.out) ?_
              rintro e w6 ⟨rfl, hb6⟩
              refine ⟨_, rfl, ?_⟩
              have hb6x : Below wr.heap.size wr w6 := (Below.refl wr.heap.size wr).drew.trans hb6
              have hS6 : (fun (wq : World) => wq.cell? ⟨w.heap.size, 0, none⟩ = some (.int .i64 m.size) ∧ wq.cell? ⟨w.heap.size, 1, none⟩ = some (.slice a m.gates.length c) ∧ wq.cell? ⟨w.heap.size, 2, none⟩ = some (.slice b m.pulls.length d) ∧ wq.cell? ⟨rb, roff + j, none⟩ = some (.int .i64 act)) w6 := ⟨(BJ.out.below hb6x).cells.1, (BJ.out.below hb6x).cells.2.1, (BJ.out.below hb6x).cells.2.2, (hb6x.cell (p := ⟨rb, roff + j, none⟩) hrbl).trans y0⟩
              refine hKp7 _ _ (fun _ => hS6) ?_
              clear hS
              have hS := hS6
              try simp only [Act.put, List.setIfInBounds_toArray, List.set_cons_zero, List.set_cons_succ]
              refine wpAnyL_take (i := 8) (oi := { dst := some 69, op := Go.Op.move (Go.Operand.tmp 77), type := 75, pos := "l8_levers.go:141", after := #[{ on := 7, ground := Go.Ground.data }], guard := none }) (v := ?pv8) rfl (by kernel_rfl) (by kernel_rfl) (by kernel_rfl) (by kernel_rfl) (fun _ _ _ h => h) (Or.inl ⟨by rfl, ?ph8⟩) hS ?pr8
              case ph8 => (intro wS hSw; (try dsimp only at hSw); go_split_ands; go_simp; try with_reducible rfl)
              try simp only [Act.put, List.setIfInBounds_toArray, List.set_cons_zero, List.set_cons_succ]
              refine wpAnyL_take (i := 9) (oi := { dst := some 78, op := Go.Op.extract (Go.Operand.tmp 69) 0, type := 3, pos := "l8_levers.go:141", after := #[{ on := 8, ground := Go.Ground.data }], guard := none }) (v := ?pv9) rfl (by kernel_rfl) (by kernel_rfl) (by kernel_rfl) (by kernel_rfl) (fun _ _ _ h => h) (Or.inl ⟨by rfl, ?ph9⟩) hS ?pr9
              case ph9 => (intro wS hSw; (try dsimp only at hSw); go_split_ands; go_simp; try with_reducible rfl)
              try simp only [Act.put, List.setIfInBounds_toArray, List.set_cons_zero, List.set_cons_succ]
              refine wpAnyL_take (i := 10) (oi := { dst := some 79, op := Go.Op.extract (Go.Operand.tmp 69) 1, type := 3, pos := "l8_levers.go:141", after := #[{ on := 8, ground := Go.Ground.data }, { on := 11, ground := Go.Ground.gcOnly Go.Departure.lateStores }], guard := none }) (v := ?pv10) rfl (by kernel_rfl) (by kernel_rfl) (by kernel_rfl) (by kernel_rfl) (fun _ _ _ h => h) (Or.inl ⟨by rfl, ?ph10⟩) hS ?pr10
              case ph10 => (intro wS hSw; (try dsimp only at hSw); go_split_ands; go_simp; try with_reducible rfl)
              try simp only [Act.put, List.setIfInBounds_toArray, List.set_cons_zero, List.set_cons_succ]
              refine wpAnyL_take (i := 11) (oi := { dst := some 17, op := Go.Op.assign (Go.Operand.tmp 78), type := 3, pos := "l8_levers.go:141", after := #[{ on := 9, ground := Go.Ground.data }, { on := 7, ground := Go.Ground.chain }, { on := 0, ground := Go.Ground.phase }, { on := 1, ground := Go.Ground.phase }, { on := 2, ground := Go.Ground.phase }, { on := 3, ground := Go.Ground.phase }, { on := 4, ground := Go.Ground.phase }, { on := 5, ground := Go.Ground.phase }, { on := 6, ground := Go.Ground.phase }, { on := 7, ground := Go.Ground.phase }, { on := 8, ground := Go.Ground.phase }, { on := 9, ground := Go.Ground.phase }, { on := 10, ground := Go.Ground.textOnly Go.Departure.lateStores }], guard := none }) (v := ?pv11) rfl (by kernel_rfl) (by kernel_rfl) (by kernel_rfl) (by kernel_rfl) (fun _ _ _ h => h) (Or.inl ⟨by rfl, ?ph11⟩) hS ?pr11
              case ph11 => (intro wS hSw; (try dsimp only at hSw); go_split_ands; go_simp; try with_reducible rfl)
              try simp only [Act.put, List.setIfInBounds_toArray, List.set_cons_zero, List.set_cons_succ]
              refine wpAnyL_take (i := 12) (oi := { dst := some 18, op := Go.Op.assign (Go.Operand.tmp 79), type := 3, pos := "l8_levers.go:141", after := #[{ on := 10, ground := Go.Ground.data }, { on := 11, ground := Go.Ground.chain }, { on := 0, ground := Go.Ground.phase }, { on := 1, ground := Go.Ground.phase }, { on := 2, ground := Go.Ground.phase }, { on := 3, ground := Go.Ground.phase }, { on := 4, ground := Go.Ground.phase }, { on := 5, ground := Go.Ground.phase }, { on := 6, ground := Go.Ground.phase }, { on := 7, ground := Go.Ground.phase }, { on := 8, ground := Go.Ground.phase }, { on := 9, ground := Go.Ground.phase }, { on := 10, ground := Go.Ground.phase }, { on := 11, ground := Go.Ground.phase }], guard := none }) (v := ?pv12) rfl (by kernel_rfl) (by kernel_rfl) (by kernel_rfl) (by kernel_rfl) (fun _ _ _ h => h) (Or.inl ⟨by rfl, ?ph12⟩) hS ?pr12
              case ph12 => (intro wS hSw; (try dsimp only at hSw); go_split_ands; go_simp; try with_reducible rfl)
              try simp only [Act.put, List.setIfInBounds_toArray, List.set_cons_zero, List.set_cons_succ]
              refine wpAnyL_done (by kernel_rfl) ?_ _
              have LJ6 := Lib.hid (own_below LJ.out hb6x)
              have OJ6 := Lib.hid (own_below OJ.out hb6x)
              have BJ6 := Lib.hid (BJ.out.below hb6x)
              have RJ6 := Lib.hid (RJ.out.turned (Turned.of_below hb6x 0 0) (by omega) (.inr (Nat.zero_le _)))
              have WJ6 := Lib.hid (WJ.out.trans (hb6x.mono hzj))
              have hs6 := hb6x.size
              have y6 : w6.cell? ⟨rb, roff + j, none⟩ = some (.int .i64 act) := hS6.2.2.2
              clear hb6 hb6x hS hS6 bx0 bx1 bx2 y0
              have z0 : w6.cell? ⟨w.heap.size + 1, M.idN t, none⟩ = some (.int .i64 (M.optI (f' t))) := by rw [OJ6.out.cellAt _ (by omega), M.tblL_at hti, M.unid_idN HSt.out]
              have z1 : w6.cell? ⟨w.heap.size + 1, M.idN x, none⟩ = some (.int .i64 (k : Int)) := by rw [OJ6.out.cellAt _ (by omega), M.tblL_at hxl, M.unid_idN HSx.out, MJ.out.has]; rfl
              have z2 : w6.cell? ⟨gb, n, none⟩ = some (.int .i64 ((M.idN x : Nat) : Int)) := by
                have hg := MJ.out.at_
                rw [List.getElem?_eq_getElem hnj] at hg
                injection hg with hg
                rw [LJ6.out.cellAt n (by omega), M.ids_at hnj, hg]
              have hfr : w6.frozen? ⟨w.heap.size + 1, M.idN t, none⟩ = false := OJ6.out.frozenAt _
              have HSET := Lib.hid (fun v => M.tblL_set (n := sz) f' HSt.out v)
              have OS := Lib.hid (fun v => OJ6.out.stored (M.idN t) v)
              have HIT : Hid (M.ids [t] = [((M.idN t : Nat) : Int)]) := Lib.hid rfl
              have HID := Lib.hid (fun W' => l4Id_any t.1 t.2 W' (by omega) (by omega) (by omega) (by omega))
              have hst : (t.1, t.2) = t := rfl
              rw [hst] at HID
              clear hst
              have hkk : (k : Int) < 1000 := by omega
              have HOLD := Lib.hid (fun k' (hf : f' t = some k') (hle : k' ≤ k + M.wtA pulls act) => MJ.out.old HE1.out hf hle)
              have HNEW := Lib.hid (fun (hf : f' t = none) => MJ.out.new HE1.out (M.edgeW_wt (m := m) (b := pulls) (s := x) (List.mem_of_getElem? HE1.out)) hf)
              have HLOW := Lib.hid (fun k' (hf : f' t = some k') (hlt : k + M.wtA pulls act < k') => MJ.out.low HE1.out hf hlt)
              generalize M.idN t = i at *
              cases pulls with
              | false =>
                have HWT : Hid (M.wtA false act = 1) := Lib.hid rfl
                cases hft : f' t with
                | none =>
                  have HN0 := HNEW.out hft
                  have HN1 := Lib.hid (And.intro HN0.1 (HN0.2 769 (by omega)))
                  rw [HWT.out] at HN1
                  rw [hft, M.optI_none] at z0
                  clear hft HN0
                  go_wp2_with fail
                  refine (HID.out _).mono ?_
                  rintro e w9 ⟨rfl, rfl⟩
                  go_upto_region 22 with fail
                  clear z1 z2 y6
                  go_upto_region 23 with fail
                  refine wp_named ?_
                  intro W8 hW8
                  have os1 := OS.out (.int .i64 (((k + 1) : Nat) : Int))
                  rw [HSET.out (k + 1)] at os1
                  have O8 : Hid (W8.ownsRow (w.heap.size + 1) 3 1 (.slice (some ⟨w.heap.size + 1, 0, none⟩) sz sz) sz (M.encIs (M.tblL sz (M.upd f' t (k + 1))))) := Lib.hid (by rw [hW8]; exact os1.1)
                  have hg8 : w6.grownBy W8 (some (w.heap.size + 1)) := by
                    have := os1.2
                    rw [hW8]
                    exact ⟨this.os, this.tape, this.output, this.size, this.block⟩
                  have L8 := Lib.hid (LJ6.out.kept hg8 (.inr (by simp [Value.ownBlock]; omega)))
                  have B8 := Lib.hid (BJ6.out.grown hg8 (by simp))
                  have R8 := Lib.hid (RJ6.out.grown hg8 (by omega) (fun z hz => by injection hz with hz; omega))
                  have D8 := Lib.hid (WJ6.out.grown hg8 (by omega) (fun z hz => by injection hz with hz; omega))
                  have hs8 := hg8.size
                  clear os1 hg8 hW8 z0 hfr
                  go_wp2_with (at_builtin; refine wpList_append_lies _ rfl _ _ 23 rfl (w.heap.size + 2) 3 ii0 (.int .i64 0) 1 8 Try.underlying23 hi0 hz0 hzz1 hz2 rfl (by decide) (.slice (some ⟨gb, 0, none⟩) L'.length cb) _ _ rfl (L8.out.alloc _) ⟨W8.heap.size, 0, none⟩ 1 1 [.int .i64 (i : Int)] rfl rfl (cell_one_new _ _ _) (fun x hx => by simp at hx; subst hx; rfl) (by decide) (by unfold maxLen; omega) (by omega) (by simp; omega) _ rfl ?_; intro g7 c7 w7 hown7 hgrow7 hat7 hlt7)
                  go_roundw
                  case rel =>
                    have hsz7 := hgrow7.size
                    rw [World.size_alloc] at hsz7 hat7
                    have hll : (L' ++ [t]).length = L'.length + 1 := by rw [List.length_append]; rfl
                    have hob7 : (Value.slice (some ⟨gb, 0, none⟩) L'.length cb).ownBlock = some gb := rfl
                    rw [hob7] at hgrow7 hat7
                    refine ⟨j + 1, _, L' ++ [t], M.upd f' t (k + 1), g7, c7, by omega, by go_num, HN1.out.1, by have h1 := PJ.out; have h2 := HN1.out.2; rw [hll]; omega, by rw [hll], ?_, ?_, ?_, ?_, ?_, ?_, by omega⟩
                    · rw [hll, M.ids_append, HIT.out, M.encIs_append]
                      exact hown7
                    · rcases hat7 with e | e
                      · injection e with e; omega
                      · omega
                    · exact (O8.out.alloc _).kept hgrow7 (.inr (by simp [Value.ownBlock]; omega))
                    · exact (B8.out.alloc _).grown hgrow7 (by simp; omega)
                    · exact (R8.out.turned (Turned.of_below (below_alloc _ _) 0 0) (by omega) (.inr (Nat.zero_le _))).grown hgrow7 (by rw [World.size_alloc]; omega) (fun z hz => by injection hz with hz; omega)
                    · exact (D8.out.alloc (by omega) _).grown hgrow7 (by simp; omega) (fun z hz => by injection hz with hz; omega)
                  case measure => simp [intOf]; omega
                | some k' =>
                  rw [hft, M.optI_some] at z0
                  by_cases hlo : (k + 1) < k'
                  · have HN0 := HLOW.out k' hft (by rw [HWT.out]; exact hlo)
                    have HN1 := Lib.hid (And.intro HN0.1 (HN0.2 769))
                    rw [HWT.out] at HN1
                    have hloi : (((k : Int) + 1) : Int) < (k' : Int) := by omega
                    have hk0 : ¬ ((k' : Int) < 0) := by omega
                    clear hft HN0
                    go_wp2_with fail
                    refine (HID.out _).mono ?_
                    rintro e w9 ⟨rfl, rfl⟩
                    go_upto_region 22 with fail
                    clear z1 z2 y6
                    go_upto_region 23 with fail
                    refine wp_named ?_
                    intro W8 hW8
                    have os1 := OS.out (.int .i64 (((k + 1) : Nat) : Int))
                    rw [HSET.out (k + 1)] at os1
                    have O8 : Hid (W8.ownsRow (w.heap.size + 1) 3 1 (.slice (some ⟨w.heap.size + 1, 0, none⟩) sz sz) sz (M.encIs (M.tblL sz (M.upd f' t (k + 1))))) := Lib.hid (by rw [hW8]; exact os1.1)
                    have hg8 : w6.grownBy W8 (some (w.heap.size + 1)) := by
                      have := os1.2
                      rw [hW8]
                      exact ⟨this.os, this.tape, this.output, this.size, this.block⟩
                    have L8 := Lib.hid (LJ6.out.kept hg8 (.inr (by simp [Value.ownBlock]; omega)))
                    have B8 := Lib.hid (BJ6.out.grown hg8 (by simp))
                    have R8 := Lib.hid (RJ6.out.grown hg8 (by omega) (fun z hz => by injection hz with hz; omega))
                    have D8 := Lib.hid (WJ6.out.grown hg8 (by omega) (fun z hz => by injection hz with hz; omega))
                    have hs8 := hg8.size
                    clear os1 hg8 hW8 z0 hfr
                    go_wp2_with (at_builtin; refine wpList_append_lies _ rfl _ _ 23 rfl (w.heap.size + 2) 3 ii0 (.int .i64 0) 1 8 Try.underlying23 hi0 hz0 hzz1 hz2 rfl (by decide) (.slice (some ⟨gb, 0, none⟩) L'.length cb) _ _ rfl (L8.out.alloc _) ⟨W8.heap.size, 0, none⟩ 1 1 [.int .i64 (i : Int)] rfl rfl (cell_one_new _ _ _) (fun x hx => by simp at hx; subst hx; rfl) (by decide) (by unfold maxLen; omega) (by omega) (by simp; omega) _ rfl ?_; intro g7 c7 w7 hown7 hgrow7 hat7 hlt7)
                    go_roundw
                    case rel =>
                      have hsz7 := hgrow7.size
                      rw [World.size_alloc] at hsz7 hat7
                      have hll : (L' ++ [t]).length = L'.length + 1 := by rw [List.length_append]; rfl
                      have hob7 : (Value.slice (some ⟨gb, 0, none⟩) L'.length cb).ownBlock = some gb := rfl
                      rw [hob7] at hgrow7 hat7
                      refine ⟨j + 1, _, L' ++ [t], M.upd f' t (k + 1), g7, c7, by omega, by go_num, HN1.out.1, by have h1 := PJ.out; have h2 := HN1.out.2; rw [hll]; omega, by rw [hll], ?_, ?_, ?_, ?_, ?_, ?_, by omega⟩
                      · rw [hll, M.ids_append, HIT.out, M.encIs_append]
                        exact hown7
                      · rcases hat7 with e | e
                        · injection e with e; omega
                        · omega
                      · exact (O8.out.alloc _).kept hgrow7 (.inr (by simp [Value.ownBlock]; omega))
                      · exact (B8.out.alloc _).grown hgrow7 (by simp; omega)
                      · exact (R8.out.turned (Turned.of_below (below_alloc _ _) 0 0) (by omega) (.inr (Nat.zero_le _))).grown hgrow7 (by rw [World.size_alloc]; omega) (fun z hz => by injection hz with hz; omega)
                      · exact (D8.out.alloc (by omega) _).grown hgrow7 (by simp; omega) (fun z hz => by injection hz with hz; omega)
                    case measure => simp [intOf]; omega
                  · have HN1 := Lib.hid (HOLD.out k' hft (by rw [HWT.out]; omega))
                    have hloi : ¬ ((((k : Int) + 1) : Int) < (k' : Int)) := by omega
                    have hk0 : ¬ ((k' : Int) < 0) := by omega
                    clear hft
                    go_wp2_with fail
                    refine (HID.out _).mono ?_
                    rintro e w9 ⟨rfl, rfl⟩
                    go_wp2_with fail
                    go_roundw
                    case rel => exact ⟨j + 1, K', L', f', gb, cb, by omega, by go_num, HN1.out, PJ.out, rfl, LJ6.out, hzone, OJ6.out, BJ6.out, RJ6.out, WJ6.out, by omega⟩
                    case measure => simp [intOf]; omega
              | true =>
                by_cases hpos : 0 ≤ act
                · have HWT : Hid (M.wtA true act = 0) := Lib.hid (by unfold M.wtA; rw [decide_eq_true hpos]; rfl)
                  cases hft : f' t with
                  | none =>
                    have HN0 := HNEW.out hft
                    have HN1 := Lib.hid (And.intro HN0.1 (HN0.2 769 (by omega)))
                    rw [HWT.out, Nat.add_zero k] at HN1
                    rw [hft, M.optI_none] at z0
                    clear hft HN0
                    go_wp2_with fail
                    refine (HID.out _).mono ?_
                    rintro e w9 ⟨rfl, rfl⟩
                    go_upto_region 22 with fail
                    clear z1 z2 y6
                    go_upto_region 23 with fail
                    refine wp_named ?_
                    intro W8 hW8
                    have os1 := OS.out (.int .i64 ((k : Nat) : Int))
                    rw [HSET.out k] at os1
                    have O8 : Hid (W8.ownsRow (w.heap.size + 1) 3 1 (.slice (some ⟨w.heap.size + 1, 0, none⟩) sz sz) sz (M.encIs (M.tblL sz (M.upd f' t k)))) := Lib.hid (by rw [hW8]; exact os1.1)
                    have hg8 : w6.grownBy W8 (some (w.heap.size + 1)) := by
                      have := os1.2
                      rw [hW8]
                      exact ⟨this.os, this.tape, this.output, this.size, this.block⟩
                    have L8 := Lib.hid (LJ6.out.kept hg8 (.inr (by simp [Value.ownBlock]; omega)))
                    have B8 := Lib.hid (BJ6.out.grown hg8 (by simp))
                    have R8 := Lib.hid (RJ6.out.grown hg8 (by omega) (fun z hz => by injection hz with hz; omega))
                    have D8 := Lib.hid (WJ6.out.grown hg8 (by omega) (fun z hz => by injection hz with hz; omega))
                    have hs8 := hg8.size
                    clear os1 hg8 hW8 z0 hfr
                    go_wp2_with (at_builtin; refine wpList_append_lies _ rfl _ _ 23 rfl (w.heap.size + 2) 3 ii0 (.int .i64 0) 1 8 Try.underlying23 hi0 hz0 hzz1 hz2 rfl (by decide) (.slice (some ⟨gb, 0, none⟩) L'.length cb) _ _ rfl (L8.out.alloc _) ⟨W8.heap.size, 0, none⟩ 1 1 [.int .i64 (i : Int)] rfl rfl (cell_one_new _ _ _) (fun x hx => by simp at hx; subst hx; rfl) (by decide) (by unfold maxLen; omega) (by omega) (by simp; omega) _ rfl ?_; intro g7 c7 w7 hown7 hgrow7 hat7 hlt7)
                    go_roundw
                    case rel =>
                      have hsz7 := hgrow7.size
                      rw [World.size_alloc] at hsz7 hat7
                      have hll : (L' ++ [t]).length = L'.length + 1 := by rw [List.length_append]; rfl
                      have hob7 : (Value.slice (some ⟨gb, 0, none⟩) L'.length cb).ownBlock = some gb := rfl
                      rw [hob7] at hgrow7 hat7
                      refine ⟨j + 1, _, L' ++ [t], M.upd f' t k, g7, c7, by omega, by go_num, HN1.out.1, by have h1 := PJ.out; have h2 := HN1.out.2; rw [hll]; omega, by rw [hll], ?_, ?_, ?_, ?_, ?_, ?_, by omega⟩
                      · rw [hll, M.ids_append, HIT.out, M.encIs_append]
                        exact hown7
                      · rcases hat7 with e | e
                        · injection e with e; omega
                        · omega
                      · exact (O8.out.alloc _).kept hgrow7 (.inr (by simp [Value.ownBlock]; omega))
                      · exact (B8.out.alloc _).grown hgrow7 (by simp; omega)
                      · exact (R8.out.turned (Turned.of_below (below_alloc _ _) 0 0) (by omega) (.inr (Nat.zero_le _))).grown hgrow7 (by rw [World.size_alloc]; omega) (fun z hz => by injection hz with hz; omega)
                      · exact (D8.out.alloc (by omega) _).grown hgrow7 (by simp; omega) (fun z hz => by injection hz with hz; omega)
                    case measure => simp [intOf]; omega
                  | some k' =>
                    rw [hft, M.optI_some] at z0
                    by_cases hlo : k < k'
                    · have HN0 := HLOW.out k' hft (by rw [HWT.out]; exact hlo)
                      have HN1 := Lib.hid (And.intro HN0.1 (HN0.2 769))
                      rw [HWT.out, Nat.add_zero k] at HN1
                      have hloi : ((k : Int) : Int) < (k' : Int) := by omega
                      have hk0 : ¬ ((k' : Int) < 0) := by omega
                      clear hft HN0
                      go_wp2_with fail
                      refine (HID.out _).mono ?_
                      rintro e w9 ⟨rfl, rfl⟩
                      go_upto_region 22 with fail
                      clear z1 z2 y6
                      go_upto_region 23 with fail
                      refine wp_named ?_
                      intro W8 hW8
                      have os1 := OS.out (.int .i64 ((k : Nat) : Int))
                      rw [HSET.out k] at os1
                      have O8 : Hid (W8.ownsRow (w.heap.size + 1) 3 1 (.slice (some ⟨w.heap.size + 1, 0, none⟩) sz sz) sz (M.encIs (M.tblL sz (M.upd f' t k)))) := Lib.hid (by rw [hW8]; exact os1.1)
                      have hg8 : w6.grownBy W8 (some (w.heap.size + 1)) := by
                        have := os1.2
                        rw [hW8]
                        exact ⟨this.os, this.tape, this.output, this.size, this.block⟩
                      have L8 := Lib.hid (LJ6.out.kept hg8 (.inr (by simp [Value.ownBlock]; omega)))
                      have B8 := Lib.hid (BJ6.out.grown hg8 (by simp))
                      have R8 := Lib.hid (RJ6.out.grown hg8 (by omega) (fun z hz => by injection hz with hz; omega))
                      have D8 := Lib.hid (WJ6.out.grown hg8 (by omega) (fun z hz => by injection hz with hz; omega))
                      have hs8 := hg8.size
                      clear os1 hg8 hW8 z0 hfr
                      go_wp2_with (at_builtin; refine wpList_append_lies _ rfl _ _ 23 rfl (w.heap.size + 2) 3 ii0 (.int .i64 0) 1 8 Try.underlying23 hi0 hz0 hzz1 hz2 rfl (by decide) (.slice (some ⟨gb, 0, none⟩) L'.length cb) _ _ rfl (L8.out.alloc _) ⟨W8.heap.size, 0, none⟩ 1 1 [.int .i64 (i : Int)] rfl rfl (cell_one_new _ _ _) (fun x hx => by simp at hx; subst hx; rfl) (by decide) (by unfold maxLen; omega) (by omega) (by simp; omega) _ rfl ?_; intro g7 c7 w7 hown7 hgrow7 hat7 hlt7)
                      go_roundw
                      case rel =>
                        have hsz7 := hgrow7.size
                        rw [World.size_alloc] at hsz7 hat7
                        have hll : (L' ++ [t]).length = L'.length + 1 := by rw [List.length_append]; rfl
                        have hob7 : (Value.slice (some ⟨gb, 0, none⟩) L'.length cb).ownBlock = some gb := rfl
                        rw [hob7] at hgrow7 hat7
                        refine ⟨j + 1, _, L' ++ [t], M.upd f' t k, g7, c7, by omega, by go_num, HN1.out.1, by have h1 := PJ.out; have h2 := HN1.out.2; rw [hll]; omega, by rw [hll], ?_, ?_, ?_, ?_, ?_, ?_, by omega⟩
                        · rw [hll, M.ids_append, HIT.out, M.encIs_append]
                          exact hown7
                        · rcases hat7 with e | e
                          · injection e with e; omega
                          · omega
                        · exact (O8.out.alloc _).kept hgrow7 (.inr (by simp [Value.ownBlock]; omega))
                        · exact (B8.out.alloc _).grown hgrow7 (by simp; omega)
                        · exact (R8.out.turned (Turned.of_below (below_alloc _ _) 0 0) (by omega) (.inr (Nat.zero_le _))).grown hgrow7 (by rw [World.size_alloc]; omega) (fun z hz => by injection hz with hz; omega)
                        · exact (D8.out.alloc (by omega) _).grown hgrow7 (by simp; omega) (fun z hz => by injection hz with hz; omega)
                      case measure => simp [intOf]; omega
                    · have HN1 := Lib.hid (HOLD.out k' hft (by rw [HWT.out]; omega))
                      have hloi : ¬ (((k : Int) : Int) < (k' : Int)) := by omega
                      have hk0 : ¬ ((k' : Int) < 0) := by omega
                      clear hft
                      go_wp2_with fail
                      refine (HID.out _).mono ?_
                      rintro e w9 ⟨rfl, rfl⟩
                      go_wp2_with fail
                      go_roundw
                      case rel => exact ⟨j + 1, K', L', f', gb, cb, by omega, by go_num, HN1.out, PJ.out, rfl, LJ6.out, hzone, OJ6.out, BJ6.out, RJ6.out, WJ6.out, by omega⟩
                      case measure => simp [intOf]; omega
                · have HWT : Hid (M.wtA true act = 1) := Lib.hid (by unfold M.wtA; rw [decide_eq_false hpos]; rfl)
                  cases hft : f' t with
                  | none =>
                    have HN0 := HNEW.out hft
                    have HN1 := Lib.hid (And.intro HN0.1 (HN0.2 769 (by omega)))
                    rw [HWT.out] at HN1
                    rw [hft, M.optI_none] at z0
                    clear hft HN0
                    go_wp2_with fail
                    refine (HID.out _).mono ?_
                    rintro e w9 ⟨rfl, rfl⟩
                    go_upto_region 22 with fail
                    clear z1 z2 y6
                    go_upto_region 23 with fail
                    refine wp_named ?_
                    intro W8 hW8
                    have os1 := OS.out (.int .i64 (((k + 1) : Nat) : Int))
                    rw [HSET.out (k + 1)] at os1
                    have O8 : Hid (W8.ownsRow (w.heap.size + 1) 3 1 (.slice (some ⟨w.heap.size + 1, 0, none⟩) sz sz) sz (M.encIs (M.tblL sz (M.upd f' t (k + 1))))) := Lib.hid (by rw [hW8]; exact os1.1)
                    have hg8 : w6.grownBy W8 (some (w.heap.size + 1)) := by
                      have := os1.2
                      rw [hW8]
                      exact ⟨this.os, this.tape, this.output, this.size, this.block⟩
                    have L8 := Lib.hid (LJ6.out.kept hg8 (.inr (by simp [Value.ownBlock]; omega)))
                    have B8 := Lib.hid (BJ6.out.grown hg8 (by simp))
                    have R8 := Lib.hid (RJ6.out.grown hg8 (by omega) (fun z hz => by injection hz with hz; omega))
                    have D8 := Lib.hid (WJ6.out.grown hg8 (by omega) (fun z hz => by injection hz with hz; omega))
                    have hs8 := hg8.size
                    clear os1 hg8 hW8 z0 hfr
                    go_wp2_with (at_builtin; refine wpList_append_lies _ rfl _ _ 23 rfl (w.heap.size + 2) 3 ii0 (.int .i64 0) 1 8 Try.underlying23 hi0 hz0 hzz1 hz2 rfl (by decide) (.slice (some ⟨gb, 0, none⟩) L'.length cb) _ _ rfl (L8.out.alloc _) ⟨W8.heap.size, 0, none⟩ 1 1 [.int .i64 (i : Int)] rfl rfl (cell_one_new _ _ _) (fun x hx => by simp at hx; subst hx; rfl) (by decide) (by unfold maxLen; omega) (by omega) (by simp; omega) _ rfl ?_; intro g7 c7 w7 hown7 hgrow7 hat7 hlt7)
                    go_roundw
                    case rel =>
                      have hsz7 := hgrow7.size
                      rw [World.size_alloc] at hsz7 hat7
                      have hll : (L' ++ [t]).length = L'.length + 1 := by rw [List.length_append]; rfl
                      have hob7 : (Value.slice (some ⟨gb, 0, none⟩) L'.length cb).ownBlock = some gb := rfl
                      rw [hob7] at hgrow7 hat7
                      refine ⟨j + 1, _, L' ++ [t], M.upd f' t (k + 1), g7, c7, by omega, by go_num, HN1.out.1, by have h1 := PJ.out; have h2 := HN1.out.2; rw [hll]; omega, by rw [hll], ?_, ?_, ?_, ?_, ?_, ?_, by omega⟩
                      · rw [hll, M.ids_append, HIT.out, M.encIs_append]
                        exact hown7
                      · rcases hat7 with e | e
                        · injection e with e; omega
                        · omega
                      · exact (O8.out.alloc _).kept hgrow7 (.inr (by simp [Value.ownBlock]; omega))
                      · exact (B8.out.alloc _).grown hgrow7 (by simp; omega)
                      · exact (R8.out.turned (Turned.of_below (below_alloc _ _) 0 0) (by omega) (.inr (Nat.zero_le _))).grown hgrow7 (by rw [World.size_alloc]; omega) (fun z hz => by injection hz with hz; omega)
                      · exact (D8.out.alloc (by omega) _).grown hgrow7 (by simp; omega) (fun z hz => by injection hz with hz; omega)
                    case measure => simp [intOf]; omega
                  | some k' =>
                    rw [hft, M.optI_some] at z0
                    by_cases hlo : (k + 1) < k'
                    · have HN0 := HLOW.out k' hft (by rw [HWT.out]; exact hlo)
                      have HN1 := Lib.hid (And.intro HN0.1 (HN0.2 769))
                      rw [HWT.out] at HN1
                      have hloi : (((k : Int) + 1) : Int) < (k' : Int) := by omega
                      have hk0 : ¬ ((k' : Int) < 0) := by omega
                      clear hft HN0
                      go_wp2_with fail
                      refine (HID.out _).mono ?_
                      rintro e w9 ⟨rfl, rfl⟩
                      go_upto_region 22 with fail
                      clear z1 z2 y6
                      go_upto_region 23 with fail
                      refine wp_named ?_
                      intro W8 hW8
                      have os1 := OS.out (.int .i64 (((k + 1) : Nat) : Int))
                      rw [HSET.out (k + 1)] at os1
                      have O8 : Hid (W8.ownsRow (w.heap.size + 1) 3 1 (.slice (some ⟨w.heap.size + 1, 0, none⟩) sz sz) sz (M.encIs (M.tblL sz (M.upd f' t (k + 1))))) := Lib.hid (by rw [hW8]; exact os1.1)
                      have hg8 : w6.grownBy W8 (some (w.heap.size + 1)) := by
                        have := os1.2
                        rw [hW8]
                        exact ⟨this.os, this.tape, this.output, this.size, this.block⟩
                      have L8 := Lib.hid (LJ6.out.kept hg8 (.inr (by simp [Value.ownBlock]; omega)))
                      have B8 := Lib.hid (BJ6.out.grown hg8 (by simp))
                      have R8 := Lib.hid (RJ6.out.grown hg8 (by omega) (fun z hz => by injection hz with hz; omega))
                      have D8 := Lib.hid (WJ6.out.grown hg8 (by omega) (fun z hz => by injection hz with hz; omega))
                      have hs8 := hg8.size
                      clear os1 hg8 hW8 z0 hfr
                      go_wp2_with (at_builtin; refine wpList_append_lies _ rfl _ _ 23 rfl (w.heap.size + 2) 3 ii0 (.int .i64 0) 1 8 Try.underlying23 hi0 hz0 hzz1 hz2 rfl (by decide) (.slice (some ⟨gb, 0, none⟩) L'.length cb) _ _ rfl (L8.out.alloc _) ⟨W8.heap.size, 0, none⟩ 1 1 [.int .i64 (i : Int)] rfl rfl (cell_one_new _ _ _) (fun x hx => by simp at hx; subst hx; rfl) (by decide) (by unfold maxLen; omega) (by omega) (by simp; omega) _ rfl ?_; intro g7 c7 w7 hown7 hgrow7 hat7 hlt7)
                      go_roundw
                      case rel =>
                        have hsz7 := hgrow7.size
                        rw [World.size_alloc] at hsz7 hat7
                        have hll : (L' ++ [t]).length = L'.length + 1 := by rw [List.length_append]; rfl
                        have hob7 : (Value.slice (some ⟨gb, 0, none⟩) L'.length cb).ownBlock = some gb := rfl
                        rw [hob7] at hgrow7 hat7
                        refine ⟨j + 1, _, L' ++ [t], M.upd f' t (k + 1), g7, c7, by omega, by go_num, HN1.out.1, by have h1 := PJ.out; have h2 := HN1.out.2; rw [hll]; omega, by rw [hll], ?_, ?_, ?_, ?_, ?_, ?_, by omega⟩
                        · rw [hll, M.ids_append, HIT.out, M.encIs_append]
                          exact hown7
                        · rcases hat7 with e | e
                          · injection e with e; omega
                          · omega
                        · exact (O8.out.alloc _).kept hgrow7 (.inr (by simp [Value.ownBlock]; omega))
                        · exact (B8.out.alloc _).grown hgrow7 (by simp; omega)
                        · exact (R8.out.turned (Turned.of_below (below_alloc _ _) 0 0) (by omega) (.inr (Nat.zero_le _))).grown hgrow7 (by rw [World.size_alloc]; omega) (fun z hz => by injection hz with hz; omega)
                        · exact (D8.out.alloc (by omega) _).grown hgrow7 (by simp; omega) (fun z hz => by injection hz with hz; omega)
                      case measure => simp [intOf]; omega
                    · have HN1 := Lib.hid (HOLD.out k' hft (by rw [HWT.out]; omega))
                      have hloi : ¬ ((((k : Int) + 1) : Int) < (k' : Int)) := by omega
                      have hk0 : ¬ ((k' : Int) < 0) := by omega
                      clear hft
                      go_wp2_with fail
                      refine (HID.out _).mono ?_
                      rintro e w9 ⟨rfl, rfl⟩
                      go_wp2_with fail
                      go_roundw
                      case rel => exact ⟨j + 1, K', L', f', gb, cb, by omega, by go_num, HN1.out, PJ.out, rfl, LJ6.out, hzone, OJ6.out, BJ6.out, RJ6.out, WJ6.out, by omega⟩
                      case measure => simp [intOf]; omega
            · obtain rfl : j = T.length := by omega
              have hlv := MJ.out
              rw [← HEL.out] at hlv
              have HLV := Lib.hid hlv.leave
              clear hlv
              go_wp2_with fail
              go_roundw
              case rel => exact ⟨K', L', n + 1, f', gb, cb, HLV.out, PJ.out, by go_num, rfl, LJ.out, OJ.out, BJ.out, WJ.out⟩
              case measure => simp [intOf]; omega
        · obtain rfl : n = L.length := by omega
          have hfd : f = M.dstC (M.edgeW m pulls) s := funext BF.out.least
          have HFD := Lib.hid hfd
          have HLN := Lib.hid (M.tblL_len sz f)
          clear hfd
          go_wp2_with fail
          go_ret
          rw [HRES.out, ← HFD.out]
          exact ints_end (by rw [HLN.out]; exact own_weak OU.out (by omega)) LO.out
end C
end Go.Proofs.Ytdgfceiobpnchaa
