/-
  CONTRACT of the model's l4Spread: for each state, by its number, the least number of steps from one state on, or -1, in a new list; what lay in memory stays. Condition: a valid maze and a state of it.
-/
import Derived.Test.YtbpinhfjfjfbdaaSpStep
import Derived.StillTailTactics
import Derived.Test.YtbpinhfjfjfbdaaLate
import Derived.Test.YtbpinhfjfjfbdaaStep
import Derived.IntWalk
namespace Go.Proofs.Ytbpinhfjfjfbdaa
open Go.RowKit
namespace M
def tblL (n : Nat) (f : St → Option Nat) : List Int := (List.range n).map fun i => optI (f (unid i))
theorem tblL_len (n : Nat) (f : St → Option Nat) : (tblL n f).length = n := by unfold tblL; simp
theorem tblL_at {n : Nat} {f : St → Option Nat} {i : Nat} (h : i < n) : (encIs (tblL n f))[i]? = some (.int .i64 (optI (f (unid i)))) := by
  unfold encIs tblL
  rw [List.getElem?_map, List.getElem?_map, List.getElem?_range h]
  rfl
theorem tblL_none (n : Nat) : encIs (tblL n fun _ => none) = List.replicate n (.int .i64 (-1)) := by
  refine List.ext_getElem? fun i => ?_
  rcases Nat.lt_or_ge i n with h | h
  · rw [tblL_at h, List.getElem?_replicate, if_pos h]; rfl
  · rw [List.getElem?_eq_none (by rw [encIs_len, tblL_len]; exact h), List.getElem?_eq_none (by rw [List.length_replicate]; exact h)]
theorem tblL_set {m : Mz} {n : Nat} (f : St → Option Nat) {t : St} (ht : StOk m t) (k : Nat) : (encIs (tblL n f)).set (idN t) (.int .i64 (k : Int)) = encIs (tblL n (upd f t k)) := by
  refine List.ext_getElem? fun i => ?_
  rw [List.getElem?_set]
  rcases Nat.lt_or_ge i n with h | h
  · rw [tblL_at h]
    by_cases e : idN t = i
    · subst e
      rw [if_pos rfl, if_pos (by rw [encIs_len, tblL_len]; exact h), tblL_at h, unid_idN ht, upd_same]
      rfl
    · rw [if_neg e, tblL_at h, upd_other]
      intro e2
      apply e
      rw [← e2, idN_unid]
  · rw [List.getElem?_eq_none (l := encIs (tblL n (upd f t k))) (by rw [encIs_len, tblL_len]; exact h)]
    split
    · rw [if_neg (by rw [encIs_len, tblL_len]; omega)]
    · exact List.getElem?_eq_none (by rw [encIs_len, tblL_len]; exact h)
def size64 (m : Mz) : Nat := m.size.toNat * 64
noncomputable def spreadL (m : Mz) (s : St) : List Int := tblL (size64 m) (dst (nexts m) [s])
theorem spread_start {N : St → List St} (s : St) : Bfs N [s] [s] 0 (upd (fun _ => none) s 0) :=
  C.bfs_congr (Bfs.start (by simp)) fun t => by
    unfold upd
    by_cases h : t = s <;> simp [h]
end M
namespace C
set_option maxHeartbeats 6400000
set_option maxRecDepth 200000
theorem grown_setCell (w : World) (g i : Nat) (u : Value) : w.grownBy (w.setCell ⟨g, i, none⟩ u) (some g) :=
  ⟨rfl, rfl, rfl, by simp [World.setCell], fun k _ hne => Below.heap_setCell w ⟨g, i, none⟩ u k fun e => hne (by rw [e])⟩
theorem own_weak {w : World} {B B' : Nat} {e : TypeId} {size n : Nat} {v : Value} {xs : List Value} (h : w.ownsRow B e size v n xs) (hB : B' ≤ B) : w.ownsRow B' e size v n xs := by
  refine ⟨h.1, ?_⟩
  rcases h.2 with h' | ⟨g, cap, cur, hv, hb, r⟩
  · exact .inl h'
  · exact .inr ⟨g, cap, cur, hv, by omega, r⟩
theorem l4Spread_any (w : World) (lo hi : Nat) (m : M.Mz) (a b : Option Addr) (c d : Nat) (h : MzIn lo hi w m a c b d) (hz : hi ≤ w.heap.size) (V : M.Valid m) (s : M.St) (hs : M.StOk m s) :
    Calls Try.prog 84 #[.agg #[.int .i64 m.size, .slice a m.doors.length c, .slice b m.keys.length d], .int .i64 s.1, .int .i64 s.2] w (IntsPost w (M.spreadL m s)) := by
  obtain ⟨ii0, hi0, hz0, hzz1, hz2⟩ := info_parts infoI
  have HSS := Lib.hid hs
  have HSK := Lib.hid (M.nexts_steps V hs)
  obtain ⟨hs1, hs2, hs3, hs4⟩ := hs
  have H := Lib.hid h
  have HVA := Lib.hid V
  have v12 := V.size12
  have v1 := V.size1
  obtain ⟨sz, hsz'⟩ : ∃ n : Nat, n = M.size64 m := ⟨_, rfl⟩
  have HSZ := Lib.hid hsz'
  have hszi : (sz : Int) = m.size * 64 := by rw [hsz']; unfold M.size64; omega
  have hszb : sz ≤ 768 ∧ 64 ≤ sz := by omega
  have HIDL := Lib.hid (fun t (ht : M.StOk m t) => show M.idN t < sz by rw [hsz']; exact M.idN_lt ht)
  have HRES : Hid (M.spreadL m s = M.tblL sz (M.dst (M.nexts m) [s])) := Lib.hid (by unfold M.spreadL; rw [hsz'])
  have HSI := Lib.hid hszi
  clear h V hsz' hszi
  go_enter Try.func84, Try.ntmps84
  go_upto_region 1 with fail
  refine wp_named ?_
  intro W hW
  have hb : Below w.heap.size w W := by rw [hW]; exact below_alloc _ _
  have x1 : Box3 W w.heap.size 29 (.int .i64 m.size) (.slice a m.doors.length c) (.slice b m.keys.length d) := by rw [hW]; exact Box3.new _ _ _ _ rfl
  have hws : W.heap.size = w.heap.size + 1 := by rw [hW]; simp
  clear hW
  obtain ⟨c0, c1, c2⟩ := x1.cells
  have X1 := Lib.hid x1
  have HB := Lib.hid hb
  clear x1 hb
  go_wp2_with (at_make; refine wpList_make_full _ rfl _ _ 23 rfl W.heap.size 3 ii0 (.int .i64 0) 1 Try.underlying23 hi0 hz0 hzz1 .i64 .i64 _ _ sz rfl rfl HSI.out.symm HSI.out.symm (by rw [hz2]; omega) (by unfold maxLen; omega) (Nat.le_refl _) ?_; intro w1 hown1 hgrow1)
  rw [hws] at hown1
  have hb1 : Below W.heap.size W w1 := (Below.refl _ _).grown hgrow1 (Nat.le_refl _) (fun k e => by cases e)
  have HO1 : Hid (∃ xs : List Value, w1.ownsRow (w.heap.size + 1) 3 1 (.slice (some ⟨w.heap.size + 1, 0, none⟩) sz sz) sz xs) := Lib.hid ⟨_, hown1⟩
  have X2 := Lib.hid (X1.out.below hb1)
  have HB2 := Lib.hid (HB.out.trans (hb1.mono (by omega)))
  clear hown1 hgrow1 hb1 c0 c1 c2
  clear hws
  go_wp2_with fail
  go_loopw [8] (fun v8 wr => ∃ (k : Nat) (xs : List Value), k ≤ sz ∧ v8 = .int .i64 (k : Int) ∧ xs.take k = List.replicate k (.int .i64 (-1)) ∧ wr.ownsRow (w.heap.size + 1) 3 1 (.slice (some ⟨w.heap.size + 1, 0, none⟩) sz sz) sz xs ∧ Box3 wr w.heap.size 29 (.int .i64 m.size) (.slice a m.doors.length c) (.slice b m.keys.length d) ∧ Below w.heap.size w wr) (fun v8 _ => sz - (intOf v8).toNat)
  case atStart =>
    obtain ⟨xs, hx⟩ := HO1.out
    exact ⟨0, xs, Nat.zero_le _, rfl, by simp, hx, X2.out, HB2.out⟩
  case round =>
    obtain ⟨k, xs, hk, rfl, ht, hown, hbx, hlow⟩ := hrel
    have HT := Lib.hid ht
    have HO := Lib.hid hown
    have BX := Lib.hid hbx
    have LO := Lib.hid hlow
    have hzr := hlow.size
    have HXL := Lib.hid (show xs.length = sz by have := hown.1; omega)
    have hol := (hown.lt _ rfl).2
    clear ht hown hbx hlow
    by_cases hlt : k < sz
    · obtain ⟨u, hu⟩ : ∃ u, xs[k]? = some u := ⟨_, List.getElem?_eq_getElem (by have := HXL.out; omega)⟩
      have hdst : wr.cell? ⟨w.heap.size + 1, k, none⟩ = some u := by rw [HO.out.cellAt k (by omega), hu]
      have hfr : wr.frozen? ⟨w.heap.size + 1, k, none⟩ = false := HO.out.frozenAt k
      have HS := Lib.hid (HO.out.stored k (.int .i64 (-1)))
      clear hu
      go_wp2_with fail
      go_roundw
      case rel =>
        refine ⟨k + 1, xs.set k (.int .i64 (-1)), by omega, by go_num, ?_, HS.out.1, BX.out.turned (Turned.setCell _ _ _ _ (Nat.le_refl _) (Nat.lt_succ_self _)) (.inl (by omega)), LO.out.setCell (p := ⟨w.heap.size + 1, k, none⟩) (by show w.heap.size ≤ w.heap.size + 1; omega) _⟩
        have h1 : k < xs.length := by have := HXL.out; omega
        rw [List.take_succ_eq_append_getElem (by simpa using h1), List.take_set_of_le (Nat.le_refl _), HT.out, List.getElem_set_self, List.replicate_succ']
      case measure => simp [intOf]; omega
    · obtain rfl : sz = k := by omega
      have hall : xs = M.encIs (M.tblL sz fun _ => none) := by
        have := HT.out
        rw [List.take_of_length_le (by have := HXL.out; omega)] at this
        rw [this, M.tblL_none]
      subst hall
      have HID := Lib.hid (fun W' => l4Id_any s.1 s.2 W' (by omega) (by omega) (by omega) (by omega))
      have hidl := HIDL.out s HSS.out
      have hst : (s.1, s.2) = s := rfl
      rw [hst] at HID
      clear hst
      go_upto_region 6 with fail
      go_wp2_with fail
      refine (HID.out _).mono ?_
      rintro e w3 ⟨rfl, rfl⟩
      have hoS : (wr.alloc (.cells #[.int .i64 ((M.idN s : Nat) : Int)] 3)).ownsRow (w.heap.size + 2) 3 1 (.slice (some ⟨wr.heap.size, 0, none⟩) 1 1) 1 (M.encIs (M.ids [s])) :=
        ⟨by simp [M.encIs, M.ids], .inr ⟨wr.heap.size, 1, _, rfl, by omega, heap_alloc_new wr _, Nat.le_refl _, by unfold maxLen; omega, by simp, by simp [M.encIs, M.ids]⟩⟩
      go_upto_region 7 with fail
      refine wp_named ?_
      intro W6 hW6
      have hb6 : Below wr.heap.size wr W6 := by rw [hW6]; exact below_alloc _ _
      rw [← hW6] at hoS
      have O6 := Lib.hid (own_below HO.out hb6)
      have B6 := Lib.hid (BX.out.below hb6)
      have L6 := Lib.hid (LO.out.trans (hb6.mono hzr))
      have LI6 := Lib.hid hoS
      have hl6 := (hoS.lt _ rfl).2
      have hlc : W6.cell? ⟨wr.heap.size, 0, none⟩ = some (.int .i64 ((M.idN s : Nat) : Int)) := by rw [hoS.cellAt 0 (by omega)]; rfl
      have hdst : W6.cell? ⟨w.heap.size + 1, M.idN s, none⟩ = some (.int .i64 (-1)) := by rw [O6.out.cellAt _ (by omega), M.tblL_at hidl]; rfl
      have hfr : W6.frozen? ⟨w.heap.size + 1, M.idN s, none⟩ = false := O6.out.frozenAt _
      have hset := M.tblL_set (n := sz) (fun _ => none) HSS.out 0
      have OS := O6.out.stored (M.idN s) (.int .i64 ((0 : Nat) : Int))
      rw [hset] at OS
      have HOS := Lib.hid OS
      have BF := Lib.hid (M.spread_start (N := M.nexts m) s)
      clear hW6 hoS hb6 OS hset
      generalize wr.heap.size = gl at *
      go_wp2_with fail
      refine wp_named ?_
      intro W7 hW7
      have O7 : Hid (W7.ownsRow (w.heap.size + 1) 3 1 (.slice (some ⟨w.heap.size + 1, 0, none⟩) sz sz) sz (M.encIs (M.tblL sz (M.upd (fun _ => none) s 0)))) := Lib.hid (by rw [hW7]; exact HOS.out.1)
      have hg7 : W6.grownBy W7 (some (w.heap.size + 1)) := by rw [hW7]; exact HOS.out.2
      have LI7 := Lib.hid (LI6.out.kept hg7 (.inr (by simp [Value.ownBlock]; omega)))
      have B7 := Lib.hid (B6.out.grown hg7 (by simp))
      have L7 := Lib.hid (L6.out.grown hg7 (by have := L6.out.size; omega) (fun z hz => by injection hz with hz; omega))
      clear hW7 hg7 HOS O6 LI6 B6 L6 hlc hdst hfr HT HO BX LO HXL X2 HO1 HB2
      go_loopw [9, 10, 11, 12] (fun v9 v10 _ _ wr => ∃ (L : List M.St) (n : Nat) (f : M.St → Option Nat) (ga ca : Nat), M.Bfs (M.nexts m) [s] L n f ∧ v10 = .int .i64 (n : Int) ∧ v9 = .slice (some ⟨ga, 0, none⟩) L.length ca ∧ wr.ownsRow (w.heap.size + 2) 3 1 v9 L.length (M.encIs (M.ids L)) ∧
        wr.ownsRow (w.heap.size + 1) 3 1 (.slice (some ⟨w.heap.size + 1, 0, none⟩) sz sz) sz (M.encIs (M.tblL sz f)) ∧ Box3 wr w.heap.size 29 (.int .i64 m.size) (.slice a m.doors.length c) (.slice b m.keys.length d) ∧ Below w.heap.size w wr) (fun _ v10 _ _ _ => 100000 - (intOf v10).toNat)
      case atStart => exact ⟨[s], 0, _, gl, 1, BF.out, rfl, rfl, LI7.out, O7.out, B7.out, L7.out⟩
      case round =>
        obtain ⟨L, n, f, ga, ca, hbf, rfl, rfl, hli, hou, hbx, hlow⟩ := hrel
        have hLl := HSK.out.len hbf
        have hle := hbf.le
        have BF := Lib.hid hbf
        have LI := Lib.hid hli
        have OU := Lib.hid hou
        have BX := Lib.hid hbx
        have LO := Lib.hid hlow
        have hzr := hlow.size
        have hlb : w.heap.size + 2 ≤ ga ∧ ga < wr.heap.size := hli.lt _ rfl
        have hob : w.heap.size + 1 < wr.heap.size := (hou.lt _ rfl).2
        clear hbf hli hou hbx hlow
        by_cases hnl : n < L.length
        · obtain ⟨k, hmid, hkn⟩ := BF.out.enter hnl
          have MI := Lib.hid hmid
          have hlc : wr.cell? ⟨ga, n, none⟩ = some (.int .i64 ((M.idN L[n] : Nat) : Int)) := by rw [LI.out.cellAt n (by omega), M.ids_at hnl]
          have HSx := Lib.hid (HSK.out.inL BF.out (List.getElem_mem hnl))
          have hxi := M.idN_int HSx.out
          have hx4 := HSx.out
          clear hmid
          generalize L[n] = x at *
          obtain ⟨y1, y2, y3, y4⟩ := hx4
          have hq : ((M.idN x : Nat) : Int).tdiv 64 = x.1 := by rw [Int.tdiv_eq_ediv_of_nonneg (by omega)]; omega
          have hr : ((M.idN x : Nat) : Int).tmod 64 = x.2 := by rw [Int.tmod_eq_emod_of_nonneg (by omega)]; omega
          have hwx : IntKind.i64.wrap x.1 = x.1 := IntWalk.i64_in _ (by omega)
          have hxl := HIDL.out x HSx.out
          have hnca : n < ca := by obtain ⟨_, _, e9, h9, _⟩ := own_slice LI.out; cases e9; omega
          clear hxi
          go_wp2_with fail
          refine wp_region_late2 (fun (wq : World) => wq.cell? ⟨w.heap.size, 0, none⟩ = some (.int .i64 m.size) ∧ wq.cell? ⟨w.heap.size, 1, none⟩ = some (.slice a m.doors.length c) ∧ wq.cell? ⟨w.heap.size, 2, none⟩ = some (.slice b m.keys.length d) ∧ wq.cell? ⟨ga, n, none⟩ = some (.int .i64 ((M.idN x : Nat) : Int))) [] 13 #[false, false, false, false, false, false, false, false, false, false, false, false, false] rfl rfl (by kernel_rfl) ?_
          have hS : (fun (wq : World) => wq.cell? ⟨w.heap.size, 0, none⟩ = some (.int .i64 m.size) ∧ wq.cell? ⟨w.heap.size, 1, none⟩ = some (.slice a m.doors.length c) ∧ wq.cell? ⟨w.heap.size, 2, none⟩ = some (.slice b m.keys.length d) ∧ wq.cell? ⟨ga, n, none⟩ = some (.int .i64 ((M.idN x : Nat) : Int))) wr.drew := ⟨BX.out.cells.1, BX.out.cells.2.1, BX.out.cells.2.2, hlc⟩
          refine wpAnyL_take (i := 0) (oi := { dst := some 41, op := Go.Op.load 29 (Go.Operand.tmp 3), type := 29, pos := "l4_ways.go:28", after := #[], guard := none }) (v := ?sv0) rfl (by kernel_rfl) (by kernel_rfl) (by kernel_rfl) (by kernel_rfl) (fun _ _ _ h => h) (Or.inl ⟨by rfl, ?sh0⟩) hS ?sr0
          case sh0 => (intro wS hSw; (try dsimp only at hSw); go_split_ands; go_simp; try with_reducible rfl)
          try simp only [Act.put, List.setIfInBounds_toArray, List.set_cons_zero, List.set_cons_succ]
          refine wpAnyL_take (i := 1) (oi := { dst := some 42, op := Go.Op.move (Go.Operand.tmp 9), type := 23, pos := "l4_ways.go:28", after := #[], guard := none }) (v := ?sv1) rfl (by kernel_rfl) (by kernel_rfl) (by kernel_rfl) (by kernel_rfl) (fun _ _ _ h => h) (Or.inl ⟨by rfl, ?sh1⟩) hS ?sr1
          case sh1 => (intro wS hSw; (try dsimp only at hSw); go_split_ands; go_simp; try with_reducible rfl)
          try simp only [Act.put, List.setIfInBounds_toArray, List.set_cons_zero, List.set_cons_succ]
          refine wpAnyL_take (i := 2) (oi := { dst := some 43, op := Go.Op.move (Go.Operand.tmp 10), type := 3, pos := "l4_ways.go:28", after := #[], guard := none }) (v := ?sv2) rfl (by kernel_rfl) (by kernel_rfl) (by kernel_rfl) (by kernel_rfl) (fun _ _ _ h => h) (Or.inl ⟨by rfl, ?sh2⟩) hS ?sr2
          case sh2 => (intro wS hSw; (try dsimp only at hSw); go_split_ands; go_simp; try with_reducible rfl)
          try simp only [Act.put, List.setIfInBounds_toArray, List.set_cons_zero, List.set_cons_succ]
          refine wpAnyL_take (i := 3) (oi := { dst := some 44, op := Go.Op.indexAddr 23 (Go.Operand.tmp 42) (Go.Operand.tmp 43), type := 0, pos := "l4_ways.go:28", after := #[{ on := 1, ground := Go.Ground.data }, { on := 2, ground := Go.Ground.data }], guard := none }) (v := ?sv3) rfl (by kernel_rfl) (by kernel_rfl) (by kernel_rfl) (by kernel_rfl) (fun _ _ _ h => h) (Or.inl ⟨by rfl, ?sh3⟩) hS ?sr3
          case sh3 => (intro wS hSw; (try dsimp only at hSw); go_split_ands; go_simp; try with_reducible rfl)
          try simp only [Act.put, List.setIfInBounds_toArray, List.set_cons_zero, List.set_cons_succ]
          refine wpAnyL_take (i := 4) (oi := { dst := some 45, op := Go.Op.load 3 (Go.Operand.tmp 44), type := 3, pos := "l4_ways.go:28", after := #[{ on := 3, ground := Go.Ground.data }], guard := none }) (v := ?sv4) rfl (by kernel_rfl) (by kernel_rfl) (by kernel_rfl) (by kernel_rfl) (fun _ _ _ h => h) (Or.inl ⟨by rfl, ?sh4⟩) hS ?sr4
          case sh4 => (intro wS hSw; (try dsimp only at hSw); go_split_ands; go_simp; try with_reducible rfl)
          try simp only [Act.put, List.setIfInBounds_toArray, List.set_cons_zero, List.set_cons_succ]
          refine wpAnyL_take (i := 5) (oi := { dst := some 46, op := Go.Op.binOp Go.BinOp.quo 3 (Go.Operand.tmp 45) (Go.Operand.const (Go.Value.int Go.IntKind.i64 64)) 3, type := 3, pos := "l4_ways.go:28", after := #[{ on := 4, ground := Go.Ground.data }], guard := none }) (v := ?sv5) rfl (by kernel_rfl) (by kernel_rfl) (by kernel_rfl) (by kernel_rfl) (fun _ _ _ h => h) (Or.inl ⟨by rfl, ?sh5⟩) hS ?sr5
          case sh5 => (intro wS hSw; (try dsimp only at hSw); go_split_ands; go_simp; try with_reducible rfl)
          try simp only [Act.put, List.setIfInBounds_toArray, List.set_cons_zero, List.set_cons_succ]
          refine wpAnyL_take (i := 6) (oi := { dst := some 47, op := Go.Op.move (Go.Operand.tmp 9), type := 23, pos := "l4_ways.go:28", after := #[], guard := none }) (v := ?sv6) rfl (by kernel_rfl) (by kernel_rfl) (by kernel_rfl) (by kernel_rfl) (fun _ _ _ h => h) (Or.inl ⟨by rfl, ?sh6⟩) hS ?sr6
          case sh6 => (intro wS hSw; (try dsimp only at hSw); go_split_ands; go_simp; try with_reducible rfl)
          try simp only [Act.put, List.setIfInBounds_toArray, List.set_cons_zero, List.set_cons_succ]
          refine wpAnyL_take (i := 7) (oi := { dst := some 48, op := Go.Op.move (Go.Operand.tmp 10), type := 3, pos := "l4_ways.go:28", after := #[], guard := none }) (v := ?sv7) rfl (by kernel_rfl) (by kernel_rfl) (by kernel_rfl) (by kernel_rfl) (fun _ _ _ h => h) (Or.inl ⟨by rfl, ?sh7⟩) hS ?sr7
          case sh7 => (intro wS hSw; (try dsimp only at hSw); go_split_ands; go_simp; try with_reducible rfl)
          try simp only [Act.put, List.setIfInBounds_toArray, List.set_cons_zero, List.set_cons_succ]
          refine wpAnyL_take (i := 8) (oi := { dst := some 49, op := Go.Op.indexAddr 23 (Go.Operand.tmp 47) (Go.Operand.tmp 48), type := 0, pos := "l4_ways.go:28", after := #[{ on := 6, ground := Go.Ground.data }, { on := 7, ground := Go.Ground.data }], guard := none }) (v := ?sv8) rfl (by kernel_rfl) (by kernel_rfl) (by kernel_rfl) (by kernel_rfl) (fun _ _ _ h => h) (Or.inl ⟨by rfl, ?sh8⟩) hS ?sr8
          case sh8 => (intro wS hSw; (try dsimp only at hSw); go_split_ands; go_simp; try with_reducible rfl)
          try simp only [Act.put, List.setIfInBounds_toArray, List.set_cons_zero, List.set_cons_succ]
          refine wpAnyL_take (i := 9) (oi := { dst := some 50, op := Go.Op.load 3 (Go.Operand.tmp 49), type := 3, pos := "l4_ways.go:28", after := #[{ on := 8, ground := Go.Ground.data }], guard := none }) (v := ?sv9) rfl (by kernel_rfl) (by kernel_rfl) (by kernel_rfl) (by kernel_rfl) (fun _ _ _ h => h) (Or.inl ⟨by rfl, ?sh9⟩) hS ?sr9
          case sh9 => (intro wS hSw; (try dsimp only at hSw); go_split_ands; go_simp; try with_reducible rfl)
          try simp only [Act.put, List.setIfInBounds_toArray, List.set_cons_zero, List.set_cons_succ]
          refine wpAnyL_take (i := 10) (oi := { dst := some 51, op := Go.Op.binOp Go.BinOp.rem 3 (Go.Operand.tmp 50) (Go.Operand.const (Go.Value.int Go.IntKind.i64 64)) 3, type := 3, pos := "l4_ways.go:28", after := #[{ on := 9, ground := Go.Ground.data }], guard := none }) (v := ?sv10) rfl (by kernel_rfl) (by kernel_rfl) (by kernel_rfl) (by kernel_rfl) (fun _ _ _ h => h) (Or.inl ⟨by rfl, ?sh10⟩) hS ?sr10
          case sh10 => (intro wS hSw; (try dsimp only at hSw); go_split_ands; go_simp; try with_reducible rfl)
          try simp only [Act.put, List.setIfInBounds_toArray, List.set_cons_zero, List.set_cons_succ]
          refine wpAnyL_one (i := 11) (oi := { dst := some 52, op := Go.Op.call { callee := Go.Callee.value (Go.Operand.func 67), args := #[Go.Operand.tmp 41, Go.Operand.tmp 46, Go.Operand.tmp 51], argTypes := #[29, 3, 3] }, type := 23, pos := "l4_ways.go:28", after := #[{ on := 0, ground := Go.Ground.data }, { on := 5, ground := Go.Ground.data }, { on := 10, ground := Go.Ground.data }], guard := none }) (by kernel_rfl) rfl (fun Ks11 hKs11 => ?_)
          refine step_call (by rfl) 67 #[.agg #[.int .i64 m.size, .slice a m.doors.length c, .slice b m.keys.length d], .int .i64 x.1, .int .i64 x.2] (by go_simp; try rfl) (l4Step_any wr.drew lo hi m a b c d (H.out.below (Below.drawnN LO.out 1) hz) (by show hi ≤ wr.heap.size; omega) HVA.out x HSx.out) ?_
          rintro e w5 ⟨a5, c5, rfl, hr5, hq5, hq6, hb5⟩
          refine ⟨_, rfl, ?_⟩
          have hb5x : Below wr.heap.size wr w5 := (Below.refl wr.heap.size wr).drew.trans hb5
          have X5 := Lib.hid (BX.out.below hb5x)
          have LO5 := Lib.hid (LO.out.trans (hb5x.mono hzr))
          have hsz5 := hb5x.size
          have hSs : (fun (wq : World) => wq.cell? ⟨w.heap.size, 0, none⟩ = some (.int .i64 m.size) ∧ wq.cell? ⟨w.heap.size, 1, none⟩ = some (.slice a m.doors.length c) ∧ wq.cell? ⟨w.heap.size, 2, none⟩ = some (.slice b m.keys.length d) ∧ wq.cell? ⟨ga, n, none⟩ = some (.int .i64 ((M.idN x : Nat) : Int))) w5 := ⟨X5.out.cells.1, X5.out.cells.2.1, X5.out.cells.2.2, (hb5x.cell (p := ⟨ga, n, none⟩) hlb.2).trans hlc⟩
          refine hKs11 _ _ (fun _ => hSs) ?_
          clear hS
          have hS := hSs
          try simp only [Act.put, List.setIfInBounds_toArray, List.set_cons_zero, List.set_cons_succ]
          refine wpAnyL_take (i := 12) (oi := { dst := some 11, op := Go.Op.assign (Go.Operand.tmp 52), type := 23, pos := "l4_ways.go:28", after := #[{ on := 11, ground := Go.Ground.data }, { on := 11, ground := Go.Ground.chain }, { on := 0, ground := Go.Ground.phase }, { on := 1, ground := Go.Ground.phase }, { on := 2, ground := Go.Ground.phase }, { on := 3, ground := Go.Ground.phase }, { on := 4, ground := Go.Ground.phase }, { on := 5, ground := Go.Ground.phase }, { on := 6, ground := Go.Ground.phase }, { on := 7, ground := Go.Ground.phase }, { on := 8, ground := Go.Ground.phase }, { on := 9, ground := Go.Ground.phase }, { on := 10, ground := Go.Ground.phase }, { on := 11, ground := Go.Ground.phase }], guard := none }) (v := ?sv12) rfl (by kernel_rfl) (by kernel_rfl) (by kernel_rfl) (by kernel_rfl) (fun _ _ _ h => h) (Or.inl ⟨by rfl, ?sh12⟩) hS ?sr12
          case sh12 => (intro wS hSw; (try dsimp only at hSw); go_split_ands; go_simp; try with_reducible rfl)
          try simp only [Act.put, List.setIfInBounds_toArray, List.set_cons_zero, List.set_cons_succ]
          refine wpAnyL_done (by kernel_rfl) ?_ _
          have R5 := Lib.hid hr5
          have LI5 := Lib.hid (own_below LI.out hb5x)
          have OU5 := Lib.hid (own_below OU.out hb5x)
          clear hr5 hb5 hb5x hq hr hlc hSs hwx
          have hfew := HSK.out.few x HSx.out
          have HIN := Lib.hid (fun t (ht : t ∈ M.nexts m x) => M.nexts_ok HVA.out HSx.out ht)
          have HTL := Lib.hid (M.ids_len (M.nexts m x))
          generalize hNx : M.nexts m x = T at *
          have HNX := Lib.hid hNx
          clear hNx
          have R6 : Hid (RowIn wr.heap.size w5.heap.size w5 a5 (M.encIs (M.ids T))) := Lib.hid R5.out.row
          rw [HTL.out]
          clear R5
          generalize wr.heap.size = g9 at *
          go_wp2_with fail
          go_loopw [9, 12] (fun v9 v12 wr => ∃ (j : Nat) (L' : List M.St) (f' : M.St → Option Nat) (gb cb : Nat), j ≤ T.length ∧ v12 = .int .i64 (j : Int) ∧ M.Mid (M.nexts m) [s] L' n j f' x k ∧ v9 = .slice (some ⟨gb, 0, none⟩) L'.length cb ∧ wr.ownsRow (w.heap.size + 2) 3 1 v9 L'.length (M.encIs (M.ids L')) ∧ (gb < g9 ∨ w5.heap.size ≤ gb) ∧
            wr.ownsRow (w.heap.size + 1) 3 1 (.slice (some ⟨w.heap.size + 1, 0, none⟩) sz sz) sz (M.encIs (M.tblL sz f')) ∧ Box3 wr w.heap.size 29 (.int .i64 m.size) (.slice a m.doors.length c) (.slice b m.keys.length d) ∧ RowIn g9 w5.heap.size wr a5 (M.encIs (M.ids T)) ∧ Below w.heap.size w wr ∧ w5.heap.size ≤ wr.heap.size) (fun _ v12 _ => T.length - (intOf v12).toNat)
          case atStart => exact ⟨0, L, f, ga, ca, Nat.zero_le _, rfl, MI.out, rfl, LI5.out, .inl hlb.2, OU5.out, X5.out, R6.out, LO5.out, Nat.le_refl _⟩
          case round =>
            obtain ⟨j, L', f', gb, cb, hj, rfl, hmj, rfl, hlj, hzone, hoj, hbx, hrow, hlow, hszw⟩ := hrel
            have MJ := Lib.hid hmj
            have LJ := Lib.hid hlj
            have OJ := Lib.hid hoj
            have BJ := Lib.hid hbx
            have RJ := Lib.hid hrow
            have WJ := Lib.hid hlow
            have hLj := HSK.out.len hmj.base
            have hnj := hmj.lt
            have hbj : w.heap.size + 2 ≤ gb ∧ gb < wr.heap.size := hlj.lt _ rfl
            have hoj2 : w.heap.size + 1 < wr.heap.size := (hoj.lt _ rfl).2
            have hzj := hlow.size
            have hncb : n < cb := by obtain ⟨_, _, e9, h9, _⟩ := own_slice hlj; cases e9; omega
            have hLcb : L'.length ≤ cb := by obtain ⟨_, _, e9, h9, _⟩ := own_slice hlj; cases e9; omega
            clear hmj hlj hoj hbx hrow hlow
            by_cases hjl : j < T.length
            · obtain ⟨rb, roff, hra, hrb1, hrb2, hrc⟩ := RJ.out.at_ (k := j) (by rw [M.encIs_len, M.ids_len]; exact hjl)
              subst hra
              have y0 := hrc _ _ (M.ids_at hjl)
              have HSt := Lib.hid (HIN.out _ (List.getElem_mem hjl))
              have HOLD := Lib.hid (fun k' (hf : f' T[j] = some k') => MJ.out.old (by rw [HNX.out]; exact hjl) (k' := k') (by simp only [HNX.out]; exact hf))
              have HNEW := Lib.hid (fun (hf : f' T[j] = none) => MJ.out.new (by rw [HNX.out]; exact hjl) (by simp only [HNX.out]; exact hf))
              simp only [HNX.out] at HNEW
              have hrbl : rb < wr.heap.size := by omega
              clear hrc
              generalize T[j] = t at *
              have hti := HIDL.out t HSt.out
              have z0 : wr.cell? ⟨w.heap.size + 1, M.idN t, none⟩ = some (.int .i64 (M.optI (f' t))) := by rw [OJ.out.cellAt _ (by omega), M.tblL_at hti, M.unid_idN HSt.out]
              have z1 : wr.cell? ⟨w.heap.size + 1, M.idN x, none⟩ = some (.int .i64 (k : Int)) := by rw [OJ.out.cellAt _ (by omega), M.tblL_at hxl, M.unid_idN HSx.out, MJ.out.has]; rfl
              have z2 : wr.cell? ⟨gb, n, none⟩ = some (.int .i64 ((M.idN x : Nat) : Int)) := by rw [LJ.out.cellAt n (by omega), M.ids_at hnj, MJ.out.get]
              have hfr : wr.frozen? ⟨w.heap.size + 1, M.idN t, none⟩ = false := OJ.out.frozenAt _
              have HSET := Lib.hid (M.tblL_set (n := sz) f' HSt.out (k + 1))
              have OS := Lib.hid (World.ownsRow.stored (w := wr.drew) (show wr.drew.ownsRow (w.heap.size + 1) 3 1 (.slice (some ⟨w.heap.size + 1, 0, none⟩) sz sz) sz (M.encIs (M.tblL sz f')) from OJ.out) (M.idN t) (.int .i64 ((k + 1 : Nat) : Int)))
              have HIT : Hid (M.ids [t] = [((M.idN t : Nat) : Int)]) := Lib.hid rfl
              cases hft : f' t with
              | some k' =>
                have HF := Lib.hid (HOLD.out k' hft)
                rw [hft, M.optI_some] at z0
                clear hft
                generalize M.idN t = i at *
                generalize M.idN x = ix at *
                go_wp2_with fail
                go_roundw
                case rel => exact ⟨j + 1, L', f', gb, cb, by omega, by go_num, HF.out, rfl, LJ.out, hzone, OJ.out, BJ.out, RJ.out, WJ.out, hszw⟩
                case measure => simp [intOf]; omega
              | none =>
                have HF := Lib.hid (HNEW.out hft)
                rw [hft, M.optI_none] at z0
                have hfull := HSK.out.len HF.out.base
                rw [List.length_append, List.length_singleton] at hfull
                clear hft
                generalize M.idN t = i at *
                generalize M.idN x = ix at *
                have hkk : (k : Int) < 200000 := by omega
                go_upto_region 16 with fail
                have hwk : IntKind.i64.wrap ((k : Int) + 1) = (k : Int) + 1 := IntWalk.i64_in _ (by omega)
                go_still_tail 14, (by kernel_rfl)
                change wpList _ _ _ _ _ wr.drew
                clear hwk
                have Y0 := Lib.hid y0
                clear z1 z2 y0
                go_upto_region 17 with fail
                refine wp_named ?_
                intro W8 hW8
                have os1 := OS.out
                rw [HSET.out] at os1
                have O8 : Hid (W8.ownsRow (w.heap.size + 1) 3 1 (.slice (some ⟨w.heap.size + 1, 0, none⟩) sz sz) sz (M.encIs (M.tblL sz (M.upd f' t (k + 1))))) := Lib.hid (by rw [hW8]; exact os1.1)
                have hg8 : wr.grownBy W8 (some (w.heap.size + 1)) := by
                  have := os1.2
                  rw [hW8]
                  exact ⟨this.os, this.tape, this.output, this.size, this.block⟩
                have L8 := Lib.hid (LJ.out.kept hg8 (.inr (by simp [Value.ownBlock]; omega)))
                have B8 := Lib.hid (BJ.out.grown hg8 (by simp))
                have R8 := Lib.hid (RJ.out.grown hg8 hszw (fun z hz => by injection hz with hz; omega))
                have D8 := Lib.hid (WJ.out.grown hg8 (by omega) (fun z hz => by injection hz with hz; omega))
                have y0 : W8.cell? ⟨rb, roff + j, none⟩ = some (.int .i64 (i : Int)) := (World.cell?_of_block (a := ⟨rb, roff + j, none⟩) (hg8.block rb hrbl (by simp; omega))).trans Y0.out
                have hs8 := hg8.size
                clear os1 hg8 hW8 z0 hfr
                go_wp2_with (at_builtin; refine wpList_append_lies _ rfl _ _ 23 rfl (w.heap.size + 2) 3 ii0 (.int .i64 0) 1 8 Try.underlying23 hi0 hz0 hzz1 hz2 rfl (by decide) (.slice (some ⟨gb, 0, none⟩) L'.length cb) _ _ rfl (L8.out.alloc _) ⟨W8.heap.size, 0, none⟩ 1 1 [.int .i64 (i : Int)] rfl rfl (cell_one_new _ _ _) (fun x hx => by simp at hx; subst hx; rfl) (by decide) (by unfold maxLen; omega) (by omega) (by simp; omega) _ rfl ?_; intro g7 c7 w7 hown7 hgrow7 hat7 hlt7)
                go_roundw
                case rel =>
                  have hsz7 := hgrow7.size
                  rw [World.size_alloc] at hsz7 hat7
                  have hll : (L' ++ [t]).length = L'.length + 1 := by rw [List.length_append]; rfl
                  have hob7 : (Value.slice (some ⟨gb, 0, none⟩) L'.length cb).ownBlock = some gb := rfl
                  rw [hob7] at hgrow7 hat7
                  refine ⟨j + 1, L' ++ [t], _, g7, c7, by omega, by go_num, HF.out, by rw [hll], ?_, ?_, ?_, ?_, ?_, ?_, by omega⟩
                  · rw [hll, M.ids_append, HIT.out, M.encIs_append]
                    exact hown7
                  · rcases hat7 with e | e
                    · injection e with e; omega
                    · omega
                  · exact (O8.out.alloc _).kept hgrow7 (.inr (by simp [Value.ownBlock]; omega))
                  · exact (B8.out.alloc _).grown hgrow7 (by simp; omega)
                  · exact (R8.out.turned (Turned.of_below (below_alloc _ _) 0 0) (by omega) (.inr (Nat.zero_le _))).grown hgrow7 (by rw [World.size_alloc]; omega) (fun z hz => by injection hz with hz; omega)
                  · exact (D8.out.alloc (by omega) _).grown hgrow7 (by simp; omega) (fun z hz => by injection hz with hz; omega)
                case measure => simp [intOf]; omega
            · obtain rfl : j = T.length := by omega
              have hlv := MJ.out
              rw [← HNX.out] at hlv
              have HLV := Lib.hid hlv.leave
              clear hlv
              go_wp2_with fail
              go_roundw
              case rel => exact ⟨L', n + 1, f', gb, cb, HLV.out, by go_num, rfl, LJ.out, OJ.out, BJ.out, WJ.out⟩
              case measure => simp [intOf]; omega
        · obtain rfl : n = L.length := by omega
          have hfd : f = M.dst (M.nexts m) [s] := funext BF.out.done
          have HFD := Lib.hid hfd
          have HLN := Lib.hid (M.tblL_len sz f)
          clear hfd
          go_wp2_with fail
          go_ret
          rw [HRES.out, ← HFD.out]
          exact ints_end (by rw [HLN.out]; exact own_weak OU.out (by omega)) LO.out
end C
end Go.Proofs.Ytbpinhfjfjfbdaa
