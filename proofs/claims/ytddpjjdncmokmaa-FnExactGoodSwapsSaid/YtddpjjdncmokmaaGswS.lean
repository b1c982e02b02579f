/-
  CONTRACT of the model's GoodSwaps. No condition but that the maze and the filling read so.
-/
import Derived.Test.YtddpjjdncmokmaaPairL
import Derived.Test.YtddpjjdncmokmaaSwapT
import Derived.Test.YtddpjjdncmokmaaWinJ
import Derived.Test.YtddpjjdncmokmaaFilL
import Derived.Test.YtddpjjdncmokmaaCntS
import Derived.BigQuiet
import Derived.Test.YtddpjjdncmokmaaWAMem
import Derived.Test.YtddpjjdncmokmaaWEDoorsAt
import Derived.Deep.AppendLies
import Derived.Deep.RegionLaw
namespace Go.Proofs.Ytddpjjdncmokmaa
open Go.RowKit
namespace M
/-- a swap that leaves a filling that wins -/
noncomputable def goodP (m : Mz) (s : Int) (fs : List Int) (x y : Int) : Bool := decide (0 < depR m s (swapV s fs x y))
/-- the good ones of the pairs of place i with the places i + 1 to j - 1 -/
noncomputable def gRow (m : Mz) (s : Int) (fs : List Int) (i j : Nat) : List Pr := ((List.range j).filter fun q => decide (i < q) && goodP m s fs ((colours s).getD i 0) ((colours s).getD q 0)).map fun q => ((colours s).getD i 0, (colours s).getD q 0)
noncomputable def gTo (m : Mz) (s : Int) (fs : List Int) (i : Nat) : List Pr := (List.range i).flatMap fun p => gRow m s fs p (colours s).length
noncomputable def goodW (m : Mz) (s : Int) (fs : List Int) : List Pr := if fwinB m s fs then gTo m s fs (colours s).length else []
theorem gRow_zero (m : Mz) (s : Int) (fs : List Int) (i : Nat) : gRow m s fs i (i + 1) = [] := by
  unfold gRow
  rw [List.map_eq_nil_iff, List.filter_eq_nil_iff]
  intro q hq
  rw [List.mem_range] at hq
  rw [decide_eq_false (by omega)]
  simp
theorem gRow_yes {m : Mz} {s : Int} {fs : List Int} {i j : Nat} (hij : i < j) (h : goodP m s fs ((colours s).getD i 0) ((colours s).getD j 0) = true) : gRow m s fs i (j + 1) = gRow m s fs i j ++ [((colours s).getD i 0, (colours s).getD j 0)] := by
  unfold gRow
  have h' : (decide (i < j) && goodP m s fs ((colours s).getD i 0) ((colours s).getD j 0)) = true := by rw [h, decide_eq_true hij]; rfl
  rw [List.range_succ, List.filter_append, List.map_append, List.filter_cons_of_pos (p := fun q => decide (i < q) && goodP m s fs ((colours s).getD i 0) ((colours s).getD q 0)) h']
  rfl
theorem gRow_no {m : Mz} {s : Int} {fs : List Int} {i j : Nat} (h : goodP m s fs ((colours s).getD i 0) ((colours s).getD j 0) = false) : gRow m s fs i (j + 1) = gRow m s fs i j := by
  unfold gRow
  have h' : ¬ (decide (i < j) && goodP m s fs ((colours s).getD i 0) ((colours s).getD j 0)) = true := by rw [h, Bool.and_false]; exact Bool.false_ne_true
  rw [List.range_succ, List.filter_append, List.map_append, List.filter_cons_of_neg (p := fun q => decide (i < q) && goodP m s fs ((colours s).getD i 0) ((colours s).getD q 0)) h', List.filter_nil, List.map_nil, List.append_nil]
theorem gTo_succ (m : Mz) (s : Int) (fs : List Int) (i : Nat) : gTo m s fs (i + 1) = gTo m s fs i ++ gRow m s fs i (colours s).length := by
  unfold gTo
  rw [List.range_succ, List.flatMap_append]
  simp
theorem gRow_len (m : Mz) (s : Int) (fs : List Int) (i j : Nat) : (gRow m s fs i j).length ≤ j := by
  unfold gRow
  rw [List.length_map]
  exact Nat.le_trans (List.length_filter_le _ _) (by simp)
theorem gTo_len (m : Mz) (s : Int) (fs : List Int) : ∀ i, (gTo m s fs i).length ≤ i * 6
  | 0 => by simp [gTo]
  | i + 1 => by
    rw [gTo_succ, List.length_append]
    have := gTo_len m s fs i
    have := gRow_len m s fs i (colours s).length
    have h6 := many_le s
    unfold manyC at h6
    omega
theorem goodW_len (m : Mz) (s : Int) (fs : List Int) : (goodW m s fs).length ≤ 1048576 := by
  unfold goodW
  split
  · have := gTo_len m s fs (colours s).length
    have h6 := many_le s
    unfold manyC at h6
    omega
  · simp
theorem swap_fil {m : Mz} {s : Int} {fs : List Int} (h : filB m s fs = true) (x y : Int) : filB m s (swapV s fs x y) = true := by
  obtain ⟨ha, hn, hl⟩ := fil_yes h
  have v1 := (ask_yes ha).1.size1
  have hg : ∀ p, 0 ≤ fs.getD p 0 ∧ fs.getD p 0 < m.size := by
    intro p
    rw [List.getD_eq_getElem?_getD]
    cases hq : fs[p]? with
    | none => exact ⟨Int.le_refl _, by show (0 : Int) < m.size; omega⟩
    | some z => exact hn z (List.mem_of_getElem? hq)
  unfold filB fillB
  rw [Bool.and_eq_true, Bool.and_eq_true, decide_eq_true_iff]
  refine ⟨ha, List.all_eq_true.2 fun z hz => ?_, by rw [swapV_len]; exact hl⟩
  have hz' : 0 ≤ z ∧ z < m.size := by
    unfold swapV at hz
    rcases List.mem_or_eq_of_mem_set hz with hz | rfl
    · rcases List.mem_or_eq_of_mem_set hz with hz | rfl
      · exact hn z hz
      · exact hg _
    · exact hg _
  rw [node_in]
  unfold nodeB
  exact decide_eq_true hz'
end M
namespace C
set_option linter.unusedVariables false
set_option maxHeartbeats 3200000
set_option maxRecDepth 20000
theorem infoP2 : (Try.prog.info? 94).map (fun i => (i.zero, i.size, i.bytes)) = some (some (.agg #[.int .i64 0, .int .i64 0]), 2, 16) := by kernel_rfl
theorem encP_one (d : M.Pr) : ∀ x ∈ M.encP d, x.oneCell' = true := by
  intro x hx
  simp [M.encP] at hx
  rcases hx with rfl | rfl <;> rfl
theorem encPs_single (d : M.Pr) : M.encPs [d] = M.encP d := by simp [M.encPs]
theorem newsP {w : World} {g : Nat} {d : M.Pr} (h : Box2 w g 94 (.int .i64 d.1) (.int .i64 d.2)) : ∀ j u, (M.encP d)[j]? = some u → w.cell? ((⟨g, 0, none⟩ : Addr).add j) = some u := World.news_of_block h
/-- a list of pairs in memory, and ok -/
def PairsOkPost (w : World) (l : List M.Pr) (ok : Bool) (e : Ending) (w' : World) : Prop :=
  ∃ a c, e = .returned (.tuple #[.slice a l.length c, .bool ok]) ∧ OwnAt w.heap.size w'.heap.size w' 94 a (M.encPs l) ∧ l.length ≤ c ∧ c ≤ 9223372036854775807 ∧ Below w.heap.size w w'
theorem specGsw_lw (w : World) (lo hi : Nat) (m : M.Mz) (a b : Option Addr) (c d : Nat) (h : MzIn lo hi w m a c b d) (hz : hi ≤ w.heap.size) (_h1 : m.doors.length ≤ 1048576) (_h2 : m.keys.length ≤ 1048576) (s : Int) (_s1 : -9223372036854775808 ≤ s) (_s2 : s ≤ 9223372036854775807) (lo' hi' : Nat) (fa : Option Addr) (fc : Nat) (fs : List Int) (hf : RowIn lo' hi' w fa (M.encIs fs)) (hz' : hi' ≤ w.heap.size) (hl : fs.length ≤ 1048576) (_u1 : fs.length ≤ fc) (_u2 : fc ≤ 9223372036854775807) (_u3 : ∀ z ∈ fs, -9223372036854775808 ≤ z ∧ z ≤ 9223372036854775807) :
    Calls Try.prog 46 #[.agg #[.int .i64 m.size, .slice a m.doors.length c, .slice b m.keys.length d], .int .i64 s, .slice fa fs.length fc] w (PairsOkPost w (M.goodW m s fs) (M.fwinB m s fs)) := by
  obtain ⟨i0, hi0, hiz0, hiz1, hizb⟩ := info_parts infoP2
  have H := Lib.hid h
  have HF := Lib.hid hf
  clear h hf
  go_enter Try.func46, Try.ntmps46
  go_upto_region 2 with fail
  refine wp_named ?_
  intro W hW
  have hb : Below w.heap.size w W := by rw [hW]; exact (below_alloc _ _).alloc (by simp) _
  have x1 : Box3 W w.heap.size 27 (.int .i64 m.size) (.slice a m.doors.length c) (.slice b m.keys.length d) := by rw [hW]; exact (Box3.new _ _ _ _ rfl).alloc _
  have o1 : W.ownsRow (w.heap.size + 1) 94 2 (.slice (some ⟨w.heap.size + 1, 0, none⟩) 0 0) 0 [] := by
    rw [hW]
    have h := ownsRow_empty (w.alloc (.cells #[.int .i64 m.size, .slice a m.doors.length c, .slice b m.keys.length d] 27)) (w.heap.size + 1) 94 2 (by simp)
    simp only [World.size_alloc] at h
    exact h
  have hzs : W.heap.size = w.heap.size + 2 := by rw [hW]; simp
  clear hW
  have hzw := hb.size
  obtain ⟨c0, c1, c2⟩ := x1.cells
  have hxl := x1.lt
  have HB := Lib.hid hb
  have X0 := Lib.hid x1
  have O0 := Lib.hid o1
  clear hb x1 o1
  go_wp2_with fail
  refine (good9_any W lo hi m a b c d (H.out.below HB.out hz) (by omega) s lo' hi' fa fc fs (HF.out.below HB.out hz') (by omega) hl).mono ?_
  rintro e w1 ⟨rfl, hb1⟩
  have HB1 := Lib.hid (HB.out.trans (hb1.mono hzw))
  have X1 := Lib.hid (X0.out.below hb1)
  have O1 := Lib.hid (own_below O0.out hb1)
  have hz1 := hb1.size
  clear hb1 c0 c1 c2
  obtain ⟨c0, c1, c2⟩ := X1.out.cells
  have hxl1 := X1.out.lt
  cases qf : M.filB m s fs with
  | false =>
    have HV := Lib.hid (M.fwin_no qf).1
    clear qf
    go_wp2_with fail
    go_ret2
    obtain ⟨a0, k0, he, h1, h2, h3⟩ := own_slice O1.out
    injection he with e1 e2 e3
    subst e1 e3
    unfold M.goodW
    rw [HV.out]
    exact ⟨_, _, rfl, h3.mono (by omega) (Nat.le_refl _), h1, h2, HB1.out⟩
  | true =>
    have HQ := Lib.hid qf
    obtain ⟨hask, hfn, hfl⟩ := M.fil_yes qf
    have HFL := Lib.hid hfl
    have hset := M.setB_iff.2 (M.ask_yes hask).2
    have HCS := Lib.hid (fun W => colours9_any s hset W)
    have hm6 := M.many_le s
    have HDP := Lib.hid (depth9_any w1 lo hi m a b c d (H.out.below HB1.out hz) (by omega) _h1 _h2 s lo' hi' fa fc fs (HF.out.below HB1.out hz') (by omega) hl qf)
    have HW := Lib.hid (M.fwin_yes qf).1
    have HND := Lib.hid (M.colours_nodup s)
    have hcl : (M.colours s).length ≤ 6 := hm6
    clear qf hask hfn hfl
    go_wp2_with fail
    refine HDP.out.mono ?_
    rintro e w2 ⟨rfl, hb2⟩
    have HB2 := Lib.hid (HB1.out.trans (hb2.mono (by omega)))
    have X2 := Lib.hid (X1.out.below hb2)
    have O2 := Lib.hid (own_below O1.out hb2)
    have hz2 := hb2.size
    clear hb2 c0 c1 c2 HDP
    obtain ⟨c0, c1, c2⟩ := X2.out.cells
    have hxl2 := X2.out.lt
    have hd0 := M.depR_nonneg m s fs
    by_cases hz0 : M.depR m s fs = 0
    · have HV : Hid (M.fwinB m s fs = false) := Lib.hid (by rw [HW.out, hz0]; rfl)
      have hq0 : (M.depR m s fs == 0) = true := by rw [beq_iff_eq]; exact hz0
      rw [hz0]
      clear hz0 hq0
      go_wp2_with fail
      go_ret2
      obtain ⟨a0, k0, he, h1, h2, h3⟩ := own_slice O2.out
      injection he with e1 e2 e3
      subst e1 e3
      unfold M.goodW
      rw [HV.out]
      exact ⟨_, _, rfl, h3.mono (by omega) (Nat.le_refl _), h1, h2, HB2.out⟩
    · have HV : Hid (M.fwinB m s fs = true) := Lib.hid (by rw [HW.out]; exact decide_eq_true (by omega))
      have hq0 : (M.depR m s fs == 0) = false := by rw [beq_eq_false_iff_ne]; exact hz0
      have HGW : Hid (M.goodW m s fs = M.gTo m s fs (M.colours s).length) := Lib.hid (by unfold M.goodW; rw [HV.out]; rfl)
      go_wp2_with fail
      refine (HCS.out w2).mono ?_
      rintro e w3 ⟨ca, cc, rfl, hoc, hc1, hc2, hb3⟩
      have HB3 := Lib.hid (HB2.out.trans (hb3.mono (by omega)))
      have X3 := Lib.hid (X2.out.below hb3)
      have O3 := Lib.hid (own_below O2.out hb3)
      have HOC := Lib.hid hoc
      have hz3 := hb3.size
      clear hoc hb3 c0 c1 c2 X0 X1 X2 O0 O1 O2 HB HB1 HB2 hq0 hz0
      have O30 : Hid (w3.ownsRow (w.heap.size + 1) 94 2 (.slice (some ⟨w.heap.size + 1, 0, none⟩) 0 0) (M.gTo m s fs 0).length (M.encPs (M.gTo m s fs 0))) := Lib.hid O3.out
      go_wp2_with fail
      go_loopw [8, 10, 11] (fun v8 v10 _ wr => ∃ (i l0 h0 : Nat), i ≤ (M.colours s).length ∧ v10 = .int .i64 (i : Int) ∧ wr.ownsRow (w.heap.size + 1) 94 2 v8 (M.gTo m s fs i).length (M.encPs (M.gTo m s fs i)) ∧ OwnAt l0 h0 wr 3 ca (M.encIs (M.colours s)) ∧ h0 ≤ wr.heap.size ∧ Box3 wr w.heap.size 27 (.int .i64 m.size) (.slice a m.doors.length c) (.slice b m.keys.length d) ∧ Below w.heap.size w wr) (fun _ v10 _ _ => (M.colours s).length - (intOf v10).toNat)
      case atStart => exact ⟨0, w2.heap.size, w3.heap.size, Nat.zero_le _, rfl, O30.out, HOC.out, Nat.le_refl _, X3.out, HB3.out⟩
      case round =>
        clear O30 O3 HOC X3 HB3
        obtain ⟨i, l0, h0, hii, rfl, hown, hoc, hh0, hx, hlow⟩ := hrel
        have OI := Lib.hid hown
        have CI := Lib.hid hoc
        have XI := Lib.hid hx
        have LI := Lib.hid hlow
        have hzi := hlow.size
        obtain ⟨va, vc, hva, _, _, _⟩ := own_slice hown
        subst hva
        clear hown hoc hx hlow
        by_cases hil : i < (M.colours s).length
        · have OJ : Hid (wr.ownsRow (w.heap.size + 1) 94 2 (.slice va (M.gTo m s fs i).length vc) (M.gTo m s fs i ++ M.gRow m s fs i (i + 1)).length (M.encPs (M.gTo m s fs i ++ M.gRow m s fs i (i + 1)))) := Lib.hid (by rw [M.gRow_zero, List.append_nil]; exact OI.out)
          have hgl := M.gTo_len m s fs i
          go_wp2_with fail
          go_loopw [8, 11] (fun v8 v11 wr => ∃ (j : Nat), i + 1 ≤ j ∧ j ≤ (M.colours s).length ∧ v11 = .int .i64 (j : Int) ∧ wr.ownsRow (w.heap.size + 1) 94 2 v8 (M.gTo m s fs i ++ M.gRow m s fs i j).length (M.encPs (M.gTo m s fs i ++ M.gRow m s fs i j)) ∧ OwnAt l0 h0 wr 3 ca (M.encIs (M.colours s)) ∧ h0 ≤ wr.heap.size ∧ Box3 wr w.heap.size 27 (.int .i64 m.size) (.slice a m.doors.length c) (.slice b m.keys.length d) ∧ Below w.heap.size w wr) (fun _ v11 _ => (M.colours s).length - (intOf v11).toNat)
          case atStart => exact ⟨i + 1, Nat.le_refl _, hil, by go_num, OJ.out, CI.out, hh0, XI.out, LI.out⟩
          case round =>
            clear OJ CI XI LI OI
            obtain ⟨j, hij, hj, rfl, hown, hoc, hh0', hx, hlow⟩ := hrel
            have OJ := Lib.hid hown
            have CI := Lib.hid hoc
            have XR := Lib.hid hx
            have LO := Lib.hid hlow
            have hzr := hlow.size
            have hxlr := hx.lt
            obtain ⟨va, vc, hva, _, _, _⟩ := own_slice hown
            subst hva
            have hrl := M.gRow_len m s fs i j
            by_cases hjl : j < (M.colours s).length
            · obtain ⟨cg, co, rfl, hcg1, hcg2, hcc⟩ := hoc.row.at_ (k := i) (by rw [M.encIs_len]; exact hil)
              have hci := hcc i _ (M.encIs_at hil)
              have hcj := hcc j _ (M.encIs_at hjl)
              have hgi : (M.colours s).getD i 0 = (M.colours s)[i] := by rw [List.getD_eq_getElem?_getD, List.getElem?_eq_getElem hil, Option.getD_some]
              have hgj : (M.colours s).getD j 0 = (M.colours s)[j] := by rw [List.getD_eq_getElem?_getD, List.getElem?_eq_getElem hjl, Option.getD_some]
              have HYES := Lib.hid (fun h => M.gRow_yes (m := m) (s := s) (fs := fs) (i := i) (j := j) (by omega) h)
              have HNO := Lib.hid (fun h => M.gRow_no (m := m) (s := s) (fs := fs) (i := i) (j := j) h)
              rw [hgi, hgj] at HYES HNO
              have hmx : (M.colours s)[i] ∈ M.colours s := List.getElem_mem _
              have hmy : (M.colours s)[j] ∈ M.colours s := List.getElem_mem _
              obtain ⟨c0, c1, c2⟩ := hx.cells
              clear hown hoc hx hlow hcc hgi hgj
              generalize (M.colours s)[i] = x at *
              generalize (M.colours s)[j] = y at *
              have hcells : ∀ W', Below wr.heap.size wr W' → W'.cell? ⟨cg, co + i, none⟩ = some (.int .i64 x) ∧ W'.cell? ⟨cg, co + j, none⟩ = some (.int .i64 y) := fun W' hW' => ⟨(hW'.cell (p := ⟨cg, co + i, none⟩) (show cg < wr.heap.size by omega)).trans hci, (hW'.cell (p := ⟨cg, co + j, none⟩) (show cg < wr.heap.size by omega)).trans hcj⟩
              have HSP := Lib.hid (swap9_any wr.drew s hset lo' hi' fa fc fs (HF.out.below LO.out.drew hz') (by simp; omega) hl HFL.out x y hmx hmy)
              have HSL : Hid ((M.swapV s fs x y).length ≤ 1048576) := Lib.hid (by rw [M.swapV_len]; exact hl)
              have HSF := Lib.hid (M.swap_fil HQ.out x y)
              go_wp2_with fail
              refine wp_region_late2 (fun (wq : World) => (wq.cell? ⟨w.heap.size, 0, none⟩ = some (.int .i64 m.size) ∧ wq.cell? ⟨w.heap.size, 1, none⟩ = some (.slice a m.doors.length c) ∧ wq.cell? ⟨w.heap.size, 2, none⟩ = some (.slice b m.keys.length d)) ∧ wq.cell? ⟨cg, co + i, none⟩ = some (.int .i64 x) ∧ wq.cell? ⟨cg, co + j, none⟩ = some (.int .i64 y)) [] 15 #[false, false, false, false, false, false, false, false, false, false, false, false, false, false, false] rfl rfl (by kernel_rfl) ?_
              have hS : (fun (wq : World) => (wq.cell? ⟨w.heap.size, 0, none⟩ = some (.int .i64 m.size) ∧ wq.cell? ⟨w.heap.size, 1, none⟩ = some (.slice a m.doors.length c) ∧ wq.cell? ⟨w.heap.size, 2, none⟩ = some (.slice b m.keys.length d)) ∧ wq.cell? ⟨cg, co + i, none⟩ = some (.int .i64 x) ∧ wq.cell? ⟨cg, co + j, none⟩ = some (.int .i64 y)) wr.drew := ⟨⟨c0, c1, c2⟩, hci, hcj⟩
              refine wpAnyL_take (i := 0) (oi := { dst := some 42, op := Go.Op.load 27 (Go.Operand.tmp 3), type := 27, pos := "l9_filling.go:237", after := #[], guard := none }) (v := ?pv0) rfl (by kernel_rfl) (by kernel_rfl) (by kernel_rfl) (by kernel_rfl) (fun _ _ _ h => h) (Or.inl ⟨by rfl, ?ph0⟩) hS ?pr0
              case ph0 => (intro wS hSw; (try dsimp only at hSw); go_split_ands; go_simp; try with_reducible rfl)
              try simp only [Act.put, List.setIfInBounds_toArray, List.set_cons_zero, List.set_cons_succ]
              refine wpAnyL_take (i := 1) (oi := { dst := some 43, op := Go.Op.move (Go.Operand.tmp 1), type := 3, pos := "l9_filling.go:237", after := #[], guard := none }) (v := ?pv1) rfl (by kernel_rfl) (by kernel_rfl) (by kernel_rfl) (by kernel_rfl) (fun _ _ _ h => h) (Or.inl ⟨by rfl, ?ph1⟩) hS ?pr1
              case ph1 => (intro wS hSw; (try dsimp only at hSw); go_split_ands; go_simp; try with_reducible rfl)
              try simp only [Act.put, List.setIfInBounds_toArray, List.set_cons_zero, List.set_cons_succ]
              refine wpAnyL_take (i := 2) (oi := { dst := some 44, op := Go.Op.move (Go.Operand.tmp 1), type := 3, pos := "l9_filling.go:237", after := #[], guard := none }) (v := ?pv2) rfl (by kernel_rfl) (by kernel_rfl) (by kernel_rfl) (by kernel_rfl) (fun _ _ _ h => h) (Or.inl ⟨by rfl, ?ph2⟩) hS ?pr2
              case ph2 => (intro wS hSw; (try dsimp only at hSw); go_split_ands; go_simp; try with_reducible rfl)
              try simp only [Act.put, List.setIfInBounds_toArray, List.set_cons_zero, List.set_cons_succ]
              refine wpAnyL_take (i := 3) (oi := { dst := some 45, op := Go.Op.move (Go.Operand.tmp 2), type := 23, pos := "l9_filling.go:237", after := #[], guard := none }) (v := ?pv3) rfl (by kernel_rfl) (by kernel_rfl) (by kernel_rfl) (by kernel_rfl) (fun _ _ _ h => h) (Or.inl ⟨by rfl, ?ph3⟩) hS ?pr3
              case ph3 => (intro wS hSw; (try dsimp only at hSw); go_split_ands; go_simp; try with_reducible rfl)
              try simp only [Act.put, List.setIfInBounds_toArray, List.set_cons_zero, List.set_cons_succ]
              refine wpAnyL_take (i := 4) (oi := { dst := some 46, op := Go.Op.move (Go.Operand.tmp 9), type := 23, pos := "l9_filling.go:237", after := #[], guard := none }) (v := ?pv4) rfl (by kernel_rfl) (by kernel_rfl) (by kernel_rfl) (by kernel_rfl) (fun _ _ _ h => h) (Or.inl ⟨by rfl, ?ph4⟩) hS ?pr4
              case ph4 => (intro wS hSw; (try dsimp only at hSw); go_split_ands; go_simp; try with_reducible rfl)
              try simp only [Act.put, List.setIfInBounds_toArray, List.set_cons_zero, List.set_cons_succ]
              refine wpAnyL_take (i := 5) (oi := { dst := some 47, op := Go.Op.move (Go.Operand.tmp 10), type := 3, pos := "l9_filling.go:237", after := #[], guard := none }) (v := ?pv5) rfl (by kernel_rfl) (by kernel_rfl) (by kernel_rfl) (by kernel_rfl) (fun _ _ _ h => h) (Or.inl ⟨by rfl, ?ph5⟩) hS ?pr5
              case ph5 => (intro wS hSw; (try dsimp only at hSw); go_split_ands; go_simp; try with_reducible rfl)
              try simp only [Act.put, List.setIfInBounds_toArray, List.set_cons_zero, List.set_cons_succ]
              refine wpAnyL_take (i := 6) (oi := { dst := some 48, op := Go.Op.indexAddr 23 (Go.Operand.tmp 46) (Go.Operand.tmp 47), type := 0, pos := "l9_filling.go:237", after := #[{ on := 4, ground := Go.Ground.data }, { on := 5, ground := Go.Ground.data }], guard := none }) (v := ?pv6) rfl (by kernel_rfl) (by kernel_rfl) (by kernel_rfl) (by kernel_rfl) (fun _ _ _ h => h) (Or.inl ⟨by rfl, ?ph6⟩) hS ?pr6
              case ph6 => (intro wS hSw; (try dsimp only at hSw); go_split_ands; go_simp; try with_reducible rfl)
              try simp only [Act.put, List.setIfInBounds_toArray, List.set_cons_zero, List.set_cons_succ]
              refine wpAnyL_take (i := 7) (oi := { dst := some 49, op := Go.Op.load 3 (Go.Operand.tmp 48), type := 3, pos := "l9_filling.go:237", after := #[{ on := 6, ground := Go.Ground.data }], guard := none }) (v := ?pv7) rfl (by kernel_rfl) (by kernel_rfl) (by kernel_rfl) (by kernel_rfl) (fun _ _ _ h => h) (Or.inl ⟨by rfl, ?ph7⟩) hS ?pr7
              case ph7 => (intro wS hSw; (try dsimp only at hSw); go_split_ands; go_simp; try with_reducible rfl)
              try simp only [Act.put, List.setIfInBounds_toArray, List.set_cons_zero, List.set_cons_succ]
              refine wpAnyL_take (i := 8) (oi := { dst := some 50, op := Go.Op.move (Go.Operand.tmp 9), type := 23, pos := "l9_filling.go:237", after := #[], guard := none }) (v := ?pv8) rfl (by kernel_rfl) (by kernel_rfl) (by kernel_rfl) (by kernel_rfl) (fun _ _ _ h => h) (Or.inl ⟨by rfl, ?ph8⟩) hS ?pr8
              case ph8 => (intro wS hSw; (try dsimp only at hSw); go_split_ands; go_simp; try with_reducible rfl)
              try simp only [Act.put, List.setIfInBounds_toArray, List.set_cons_zero, List.set_cons_succ]
              refine wpAnyL_take (i := 9) (oi := { dst := some 51, op := Go.Op.move (Go.Operand.tmp 11), type := 3, pos := "l9_filling.go:237", after := #[], guard := none }) (v := ?pv9) rfl (by kernel_rfl) (by kernel_rfl) (by kernel_rfl) (by kernel_rfl) (fun _ _ _ h => h) (Or.inl ⟨by rfl, ?ph9⟩) hS ?pr9
              case ph9 => (intro wS hSw; (try dsimp only at hSw); go_split_ands; go_simp; try with_reducible rfl)
              try simp only [Act.put, List.setIfInBounds_toArray, List.set_cons_zero, List.set_cons_succ]
              refine wpAnyL_take (i := 10) (oi := { dst := some 52, op := Go.Op.indexAddr 23 (Go.Operand.tmp 50) (Go.Operand.tmp 51), type := 0, pos := "l9_filling.go:237", after := #[{ on := 8, ground := Go.Ground.data }, { on := 9, ground := Go.Ground.data }], guard := none }) (v := ?pv10) rfl (by kernel_rfl) (by kernel_rfl) (by kernel_rfl) (by kernel_rfl) (fun _ _ _ h => h) (Or.inl ⟨by rfl, ?ph10⟩) hS ?pr10
              case ph10 => (intro wS hSw; (try dsimp only at hSw); go_split_ands; go_simp; try with_reducible rfl)
              try simp only [Act.put, List.setIfInBounds_toArray, List.set_cons_zero, List.set_cons_succ]
              refine wpAnyL_take (i := 11) (oi := { dst := some 53, op := Go.Op.load 3 (Go.Operand.tmp 52), type := 3, pos := "l9_filling.go:237", after := #[{ on := 10, ground := Go.Ground.data }], guard := none }) (v := ?pv11) rfl (by kernel_rfl) (by kernel_rfl) (by kernel_rfl) (by kernel_rfl) (fun _ _ _ h => h) (Or.inl ⟨by rfl, ?ph11⟩) hS ?pr11
              case ph11 => (intro wS hSw; (try dsimp only at hSw); go_split_ands; go_simp; try with_reducible rfl)
              try simp only [Act.put, List.setIfInBounds_toArray, List.set_cons_zero, List.set_cons_succ]
              refine wpAnyL_one (i := 12) (oi := { dst := some 54, op := Go.Op.call { callee := Go.Callee.value (Go.Operand.func 89), args := #[Go.Operand.tmp 44, Go.Operand.tmp 45, Go.Operand.tmp 49, Go.Operand.tmp 53], argTypes := #[3, 23, 3, 3] }, type := 23, pos := "l9_filling.go:237", after := #[{ on := 2, ground := Go.Ground.data }, { on := 3, ground := Go.Ground.data }, { on := 7, ground := Go.Ground.data }, { on := 11, ground := Go.Ground.data }], guard := none }) (by kernel_rfl) rfl (fun Kp12 hKp12 => ?_)
              refine step_call (by rfl) 89 #[.int .i64 s, .slice fa fs.length fc, .int .i64 x, .int .i64 y] (by go_simp; try rfl) (HSP.out) ?_
              rintro e w3 ⟨sa, sc, rfl, ho3, h31, h32, hb3⟩
              refine ⟨_, rfl, ?_⟩
              have hb3x : Below wr.heap.size wr w3 := (Below.refl wr.heap.size wr).drew.trans hb3
              have X3 := Lib.hid (XR.out.below hb3x)
              have C3 := Lib.hid (hcells w3 hb3x)
              have HO3 := Lib.hid ho3
              have hz3 := hb3x.size
              have B3 := Lib.hid (LO.out.trans (hb3x.mono hzr))
              have hx3 : (fun (wq : World) => (wq.cell? ⟨w.heap.size, 0, none⟩ = some (.int .i64 m.size) ∧ wq.cell? ⟨w.heap.size, 1, none⟩ = some (.slice a m.doors.length c) ∧ wq.cell? ⟨w.heap.size, 2, none⟩ = some (.slice b m.keys.length d)) ∧ wq.cell? ⟨cg, co + i, none⟩ = some (.int .i64 x) ∧ wq.cell? ⟨cg, co + j, none⟩ = some (.int .i64 y)) w3 := ⟨X3.out.cells, C3.out⟩
              refine hKp12 _ _ (fun _ => hx3) ?_
              clear hS
              have hS := hx3
              try simp only [Act.put, List.setIfInBounds_toArray, List.set_cons_zero, List.set_cons_succ]
              refine wpAnyL_one (i := 13) (oi := { dst := some 55, op := Go.Op.call { callee := Go.Callee.value (Go.Operand.func 70), args := #[Go.Operand.tmp 42, Go.Operand.tmp 43, Go.Operand.tmp 54], argTypes := #[27, 3, 23] }, type := 3, pos := "l9_filling.go:237", after := #[{ on := 0, ground := Go.Ground.data }, { on := 1, ground := Go.Ground.data }, { on := 12, ground := Go.Ground.data }, { on := 12, ground := Go.Ground.chain }], guard := none }) (by kernel_rfl) rfl (fun Kp13 hKp13 => ?_)
              refine step_call (by rfl) 70 #[.agg #[.int .i64 m.size, .slice a m.doors.length c, .slice b m.keys.length d], .int .i64 s, .slice sa (M.swapV s fs x y).length sc] (by go_simp; try rfl) (depth9_any w3 lo hi m a b c d (H.out.below B3.out hz) (by omega) _h1 _h2 s wr.heap.size w3.heap.size sa sc (M.swapV s fs x y) HO3.out.row (Nat.le_refl _) HSL.out HSF.out) ?_
              rintro e w4 ⟨rfl, hb4⟩
              refine ⟨_, rfl, ?_⟩
              have hb4x := hb3x.trans (hb4.mono (by omega))
              have X4 := Lib.hid (XR.out.below hb4x)
              have C4 := Lib.hid (hcells w4 hb4x)
              have hz4 := hb4x.size
              have hx4 : (fun (wq : World) => (wq.cell? ⟨w.heap.size, 0, none⟩ = some (.int .i64 m.size) ∧ wq.cell? ⟨w.heap.size, 1, none⟩ = some (.slice a m.doors.length c) ∧ wq.cell? ⟨w.heap.size, 2, none⟩ = some (.slice b m.keys.length d)) ∧ wq.cell? ⟨cg, co + i, none⟩ = some (.int .i64 x) ∧ wq.cell? ⟨cg, co + j, none⟩ = some (.int .i64 y)) w4 := ⟨X4.out.cells, C4.out⟩
              refine hKp13 _ _ (fun _ => hx4) ?_
              clear hS
              have hS := hx4
              try simp only [Act.put, List.setIfInBounds_toArray, List.set_cons_zero, List.set_cons_succ]
              refine wpAnyL_take (i := 14) (oi := { dst := some 56, op := Go.Op.binOp Go.BinOp.gtr 3 (Go.Operand.tmp 55) (Go.Operand.const (Go.Value.int Go.IntKind.i64 0)) 3, type := 4, pos := "l9_filling.go:237", after := #[{ on := 13, ground := Go.Ground.data }], guard := none }) (v := ?pv14) rfl (by kernel_rfl) (by kernel_rfl) (by kernel_rfl) (by kernel_rfl) (fun _ _ _ h => h) (Or.inl ⟨by rfl, ?ph14⟩) hS ?pr14
              case ph14 => (intro wS hSw; (try dsimp only at hSw); go_split_ands; go_simp; try with_reducible rfl)
              try simp only [Act.put, List.setIfInBounds_toArray, List.set_cons_zero, List.set_cons_succ]
              refine wpAnyL_done (by kernel_rfl) ?_ _
              have B4 := Lib.hid (LO.out.trans (hb4x.mono hzr))
              have O4 := Lib.hid (own_below OJ.out hb4x)
              have CC4 := Lib.hid (CI.out.below hb4x hh0')
              have hpr : M.goodP m s fs x y = decide (0 < M.depR m s (M.swapV s fs x y)) := rfl
              cases qg : M.goodP m s fs x y with
              | false =>
                have HE := Lib.hid (HNO.out qg)
                have hd : decide (0 < M.depR m s (M.swapV s fs x y)) = false := by rw [← hpr]; exact qg
                clear qg hpr
                rw [hd]
                go_wp2_with fail
                go_roundw
                case rel => exact ⟨j + 1, by omega, by omega, by go_num, by rw [HE.out]; exact O4.out, CC4.out, by omega, X4.out, B4.out⟩
                case measure => simp [intOf]; omega
              | true =>
                have HE := Lib.hid (HYES.out qg)
                have hd : decide (0 < M.depR m s (M.swapV s fs x y)) = true := by rw [← hpr]; exact qg
                clear qg hpr
                rw [hd]
                have hLl : (M.gTo m s fs i ++ M.gRow m s fs i j).length ≤ 48 := by rw [List.length_append]; omega
                have HL2 : Hid (M.gTo m s fs i ++ M.gRow m s fs i (j + 1) = (M.gTo m s fs i ++ M.gRow m s fs i j) ++ [(x, y)]) := Lib.hid (by rw [HE.out, List.append_assoc])
                generalize M.gTo m s fs i ++ M.gRow m s fs i j = L at *
                obtain ⟨hci4, hcj4⟩ := C4.out
                have o5 : w4.drew.ownsRow (w.heap.size + 1) 94 2 (.slice va L.length vc) L.length (M.encPs L) := O4.out
                have O5 := Lib.hid o5
                clear hS
                go_wp2_with fail
                go_region_law (first
                  | (have o5 := O5.out; refine step_append_own rfl (.tmp 57) (.tmp 67) 53 rfl (w.heap.size + 1) 94 i0 (.agg #[.int .i64 0, .int .i64 0]) 2 16 Try.underlying53 hi0 hiz0 hiz1 hizb rfl (by decide) _ _ _ (o5.alloc _) (by first | (simp [Act.eval]; done) | simp [Act.eval, Act.put]) ⟨w4.heap.size, 0, none⟩ 1 1 (M.encP (x, y)) (by first | (simp [Act.eval]; done) | simp [Act.eval, Act.put]) (show (M.encP (x, y)).length = 1 * 2 from rfl) (newsP (Box2.new _ _ _ rfl)) (encP_one _) (by unfold maxLen; omega) (by omega) (by simp; omega) ?_; intro v6 w6 hown6 hgrow6 hnil6; obtain ⟨va2, vc2, hva2, hv1, hv2, hv3⟩ := own_slice hown6; subst hva2))
                all_goals
                  have hll : (M.gTo m s fs i ++ M.gRow m s fs i (j + 1)).length = L.length + 1 := by rw [HL2.out, List.length_append]; rfl
                  have hown7 : w6.ownsRow (w.heap.size + 1) 94 2 (.slice va2 (L.length + 1) vc2) (M.gTo m s fs i ++ M.gRow m s fs i (j + 1)).length (M.encPs (M.gTo m s fs i ++ M.gRow m s fs i (j + 1))) := by
                    rw [hll, HL2.out, M.encPs_append, encPs_single]
                    exact hown6
                  have xb : Box3 w4.drew w.heap.size 27 (.int .i64 m.size) (.slice a m.doors.length c) (.slice b m.keys.length d) := X4.out
                  have cb : OwnAt l0 h0 w4.drew 3 (some ⟨cg, co, none⟩) (M.encIs (M.colours s)) := CC4.out
                  have ca6 := (cb.below (below_alloc w4.drew (.cells #[.int .i64 x, .int .i64 y] 94)) (by simp; omega)).grownOther (O5.out.alloc _) (by decide) hgrow6
                  have xb6 := (xb.alloc (.cells #[.int .i64 x, .int .i64 y] 94)).grown hgrow6 (own_ne_box O5.out xb (by decide))
                  have hs6 := hgrow6.size
                  have lb6 := (B4.out.drew.alloc (show w.heap.size ≤ w4.drew.heap.size by simp; omega) (.cells #[.int .i64 x, .int .i64 y] 94)).grown hgrow6 (by show w.heap.size ≤ (w4.drew.alloc _).heap.size; simp; omega) (fun g hg => by have := own_base O5.out g hg; omega)
                  have HR := Lib.hid (And.intro hown7 (And.intro ca6 (And.intro xb6 lb6)))
                  have hh6 : h0 ≤ w6.heap.size := by simp at hs6; omega
                  clear hown6 hown7 xb cb ca6 xb6 lb6 hgrow6 hnil6
                  go_wp2_with fail
                  go_roundw
                  case rel => exact ⟨j + 1, by omega, by omega, by go_num, by rw [hll]; exact hll ▸ HR.out.1, HR.out.2.1, hh6, HR.out.2.2.1, HR.out.2.2.2⟩
                  case measure => simp [intOf]; omega
            · obtain rfl : j = (M.colours s).length := by omega
              have ho := OJ.out
              rw [← M.gTo_succ] at ho ⊢
              have HO := Lib.hid ho
              clear ho OJ hown
              go_wp2_with fail
              go_roundw
              case rel => exact ⟨i + 1, l0, h0, by omega, by go_num, HO.out, CI.out, hh0', XR.out, LO.out⟩
              case measure => simp [intOf]; omega
        · obtain rfl : i = (M.colours s).length := by omega
          have ho := OI.out
          rw [← HGW.out] at ho ⊢
          have HO := Lib.hid ho
          clear ho OI
          go_wp2_with fail
          go_ret2
          obtain ⟨a0, k0, he, h1, h2, h3⟩ := own_slice HO.out
          injection he with e1 e2 e3
          subst e1 e3
          rw [HV.out]
          exact ⟨_, _, rfl, h3.mono (by omega) (Nat.le_refl _), h1, h2, LI.out⟩
end C
end Go.Proofs.Ytddpjjdncmokmaa
