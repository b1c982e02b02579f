/-
  CONTRACTS of NodeCounts on both sides. No condition but that the maze reads so.
-/
import Derived.Test.YtddpjjdncmokmaaDpsS
import Derived.Test.YtddpjjdncmokmaaOverC
import Derived.Test.YtddpjjdncmokmaaSwapT
import Derived.Test.YtddpjjdncmokmaaSwapI
import Derived.Test.YtddpjjdncmokmaaWAMem
import Derived.Test.YtddpjjdncmokmaaWCBefore
namespace Go.Proofs.Ytddpjjdncmokmaa
open Go.RowKit
namespace M
noncomputable def ncntB (m : Mz) (s x : Int) : Bool := fewB m s && memB (colours s) x
noncomputable def ncntW (m : Mz) (s x : Int) : List Int := if ncntB m s x then cntsL m.size.toNat (winL m s) (placeL (colours s) x) else []
theorem node_no {m : Mz} {s x : Int} (h : fewB m s = false ∨ memB (colours s) x = false) : ncntW m s x = [] ∧ ncntB m s x = false := by
  have hb : ncntB m s x = false := by
    unfold ncntB
    rcases h with h | h
    · rw [h]; rfl
    · rw [h]; exact Bool.and_false _
  exact ⟨by unfold ncntW; rw [hb]; rfl, hb⟩
theorem node_yes {m : Mz} {s x : Int} (h1 : fewB m s = true) (h2 : memB (colours s) x = true) : ncntW m s x = cntsL m.size.toNat (winL m s) (placeL (colours s) x) ∧ ncntB m s x = true := by
  have hb : ncntB m s x = true := by unfold ncntB; rw [h1, h2]; rfl
  exact ⟨by unfold ncntW; rw [if_pos hb], hb⟩
theorem ncntW_len (m : Mz) (s x : Int) : (ncntW m s x).length ≤ 1048576 := by
  cases h1 : fewB m s with
  | false => rw [(node_no (x := x) (.inl h1)).1]; simp
  | true =>
    cases h2 : memB (colours s) x with
    | false => rw [(node_no (m := m) (.inr h2)).1]; simp
    | true =>
      rw [(node_yes h1 h2).1, cntsL_len]
      have := (ask_yes (few_yes h1).1).1.size12
      omega
theorem winL_at {m : Mz} {s : Int} (hf : fewB m s = true) {fs : List Int} (h : fs ∈ winL m s) {p : Nat} (hp : p < manyC s) : ∃ y : Nat, fs.getD p 0 = (y : Int) ∧ y < m.size.toNat ∧ p < fs.length := by
  obtain ⟨hl, _, i, rfl⟩ := winL_mem h
  have v1 := (ask_yes (few_yes hf).1).1.size1
  have hpl : p < (digL m.size.toNat (manyC s) i).length := by omega
  have hz := digL_node (n := m.size.toNat) (by omega) (manyC s) i _ (List.getElem_mem hpl)
  refine ⟨((digL m.size.toNat (manyC s) i)[p]).toNat, ?_, by omega, hpl⟩
  rw [List.getD_eq_getElem?_getD, List.getElem?_eq_getElem hpl, Option.getD_some]
  omega
theorem cnts_eight {n : Nat} (l : List (List Int)) (p : Nat) (hn : n ≤ 8) : cntsL n l p = (cntsL 8 l p).take n := by
  refine List.ext_getElem (by rw [List.length_take, cntsL_len, cntsL_len]; omega) fun i h1 h2 => ?_
  rw [List.getElem_take]
  simp [cntsL]
theorem cntsL_getD_le (n : Nat) (l : List (List Int)) (p y : Nat) : 0 ≤ (cntsL n l p).getD y 0 ∧ (cntsL n l p).getD y 0 ≤ (l.length : Int) := by
  rw [List.getD_eq_getElem?_getD]
  cases hq : (cntsL n l p)[y]? with
  | none => exact ⟨Int.le_refl _, by simp⟩
  | some z => exact cntsL_le n l p z (List.mem_of_getElem? hq)
end M
namespace C
set_option linter.unusedVariables false
set_option maxHeartbeats 3200000
set_option maxRecDepth 20000
/-- a list in memory, whatever its block is made of, and ok -/
def IntsOkPostT (w : World) (l : List Int) (ok : Bool) (e : Ending) (w' : World) : Prop :=
  ∃ (T : TypeId) (a : Option Addr) (c : Nat), e = .returned (.tuple #[.slice a l.length c, .bool ok]) ∧ OwnAt w.heap.size w'.heap.size w' T a (M.encIs l) ∧ l.length ≤ c ∧ c ≤ 9223372036854775807 ∧ Below w.heap.size w w'
theorem markIntsT_any {T0 : TypeId} (w : World) (lo hi : Nat) (a : Option Addr) (c n k0 : Nat) (xs0 : List Value) (hn : xs0.length = n) (hl : n ≤ 1073741824) (hk0 : k0 ≤ 4294967296) (h : OwnAt lo hi w T0 a xs0) :
    Calls Try.prog 23 #[.slice a n c, .int .i64 k0] w fun e w' => e = .returned (.int .i64 ((k0 + n : Nat) : Int)) ∧ OwnAt lo hi w' T0 a (M.marks k0 n) ∧ Turned lo hi w w' := by
  have h' := Lib.hid h
  have HN0 := Lib.hid hn
  clear h hn
  go_enter Try.func23, Try.ntmps23
  go_wp2_with fail
  go_loopw [1, 5] (fun m i wr => ∃ (k : Nat) (xs : List Value), k ≤ n ∧ i = .int .i64 k ∧ m = .int .i64 ((k0 + k : Nat) : Int) ∧ xs.length = n ∧ xs.take k = M.marks k0 k ∧
      OwnAt lo hi wr T0 a xs ∧ Turned lo hi w wr) (fun _ i _ => n - (intOf i).toNat)
  case atStart => exact ⟨0, xs0, Nat.zero_le _, rfl, rfl, HN0.out, rfl, h'.out, Turned.refl _ _ _⟩
  case round =>
    obtain ⟨k, xs, hk, rfl, rfl, hxl, ht, hown, hnx⟩ := hrel
    have HT := Lib.hid ht
    have HX := Lib.hid hxl
    clear ht hxl
    by_cases hlt : k < n
    · have hkx : k < xs.length := by have := HX.out; omega
      obtain ⟨b, off, ha, h1, h2, hc⟩ := hown.row.at_ hkx
      subst ha
      obtain ⟨u, hu⟩ : ∃ u, xs[k]? = some u := ⟨_, List.getElem?_eq_getElem hkx⟩
      have hdst : wr.cell? ⟨b, off + k, none⟩ = some u := hc k u hu
      have hfr : wr.frozen? ⟨b, off + k, none⟩ = false := hown.free rfl hkx _
      have HS := Lib.hid (hown.set_ rfl k (.int .i64 ((k0 + k : Nat) : Int)))
      have HN := Lib.hid (hnx.trans (Turned.setCell wr b (off + k) (.int .i64 ((k0 + k : Nat) : Int)) h1 h2))
      clear hu hc hown hnx
      go_wp2_with fail
      go_roundw
      case rel =>
        refine ⟨k + 1, xs.set k (.int .i64 ((k0 + k : Nat) : Int)), by omega, by go_num, by go_num, by rw [List.length_set]; exact HX.out, ?_, HS.out, HN.out⟩
        rw [List.take_succ_eq_append_getElem (by simpa using hkx), List.take_set_of_le (Nat.le_refl _), HT.out, M.marks_succ, List.getElem_set_self]
      case measure => simp [intOf]; omega
    · obtain rfl : k = n := by omega
      have HO := Lib.hid hown
      have HN := Lib.hid hnx
      clear hown hnx
      go_wp2_with fail
      go_ret
      refine ⟨rfl, ?_, HN.out⟩
      have e : xs = M.marks k0 k := by
        have := HT.out
        rwa [List.take_of_length_le (by have := HX.out; omega)] at this
      rw [← e]
      exact HO.out

theorem upon_make {P : Program} {o : Oper} {a : Act} {next : Act → World → Prop} {Q : Exit → Act → World → Prop} (w : World) (base : Nat) (t e : TypeId) (i : TypeInfo) (z : Value) (size : Nat) (h1 : P.underlying t = some (.slice e)) (h2 : P.info? e = some i) (h3 : i.zero = some z) (h4 : i.size = size)
    (kl kc : IntKind) (L : Int) (n : Nat) (hL : L = (n : Int)) (b2 : i.bytes * n ≤ 281474976710656) (b3 : n ≤ maxLen) (b4 : base ≤ w.heap.size)
    (hK : ∀ w', w'.ownsRow base e size (.slice (some ⟨w.heap.size, 0, none⟩) n n) n (madeCells z.cells (n * size)).toList → w.grownBy w' none → next (a.put o.dst (.slice (some ⟨w.heap.size, 0, none⟩) n n)) w') :
    Oper.upon P o a next Q (((Instr.makeSlice t (.int kl L) (.int kc L)).run P w).andThen fun a w' => Result.ok (Next.value a) w') := by
  subst hL
  obtain ⟨w', hrun, r1, r2⟩ := run_make_full (P := P) w base t e i z size h1 h2 h3 h4 kl kc n b2 b3 b4
  rw [hrun]
  exact hK w' r1 r2
theorem sl8 (g n : Nat) (hn : n ≤ 8) (w : World) : (Instr.sliceAt 83 (.pointer (some ⟨g, 0, none⟩)) none (some (.int .i64 (n : Int))) none).run Try.prog w = .ok (.slice (some ⟨g, 0, none⟩) n 8) w := by
  rcases (by omega : n = 0 ∨ n = 1 ∨ n = 2 ∨ n = 3 ∨ n = 4 ∨ n = 5 ∨ n = 6 ∨ n = 7 ∨ n = 8) with rfl | rfl | rfl | rfl | rfl | rfl | rfl | rfl | rfl
  all_goals kernel_rfl
theorem box8_own {w : World} {g : Nat} {T : TypeId} {A : Nat → Int} (h : Box8 w g T A) (n : Nat) (hn : n ≤ 8) : OwnAt g (g + 1) w T (some ⟨g, 0, none⟩) (M.encIs ((List.range n).map A)) := by
  refine .inr ⟨g, 0, _, rfl, Nat.le_refl _, Nat.lt_succ_self _, h, fun i u hu => ?_⟩
  obtain ⟨hlt, _⟩ := List.getElem?_eq_some_iff.1 hu
  have hl := hlt
  rw [M.encIs_len] at hl
  rw [M.encIs_at hl] at hu
  injection hu with hu
  subst hu
  rw [List.length_map, List.length_range] at hl
  rw [List.getElem_map, List.getElem_range]
  rcases (by omega : i = 0 ∨ i = 1 ∨ i = 2 ∨ i = 3 ∨ i = 4 ∨ i = 5 ∨ i = 6 ∨ i = 7) with rfl | rfl | rfl | rfl | rfl | rfl | rfl | rfl
  all_goals rfl
/-- rows between two places -/
def LLH (l0 h0 : Nat) (w : World) (U : List Sl9) (ll : List (List Int)) : Prop := U.length = ll.length ∧ ∀ i (hi : i < ll.length) (hu : i < U.length), OwnAt l0 h0 w 3 U[i].1 (M.encIs ll[i]) ∧ U[i].2.1 = ll[i].length ∧ ll[i].length ≤ U[i].2.2 ∧ U[i].2.2 ≤ 9223372036854775807
theorem LLH.of {B : Nat} {w : World} {U : List Sl9} {ll : List (List Int)} (h : LL B w U ll) : LLH B w.heap.size w U ll := ⟨h.len, fun i hi hu => h.el i hi hu⟩
theorem LLH.turned {l0 h0 lo hi : Nat} {w w' : World} {U : List Sl9} {ll : List (List Int)} (h : LLH l0 h0 w U ll) (t : Turned lo hi w w') (hz : h0 ≤ w.heap.size) (hd : h0 ≤ lo ∨ hi ≤ l0) : LLH l0 h0 w' U ll := ⟨h.1, fun i hi hu => ⟨(h.2 i hi hu).1.turned t hz hd, (h.2 i hi hu).2⟩⟩
theorem LLH.below {l0 h0 : Nat} {w w' : World} {U : List Sl9} {ll : List (List Int)} (h : LLH l0 h0 w U ll) (t : Below w.heap.size w w') (hz : h0 ≤ w.heap.size) : LLH l0 h0 w' U ll := ⟨h.1, fun i hi hu => ⟨(h.2 i hi hu).1.below t hz, (h.2 i hi hu).2⟩⟩
theorem specNode_lw (w : World) (lo hi : Nat) (m : M.Mz) (a b : Option Addr) (c d : Nat) (h : MzIn lo hi w m a c b d) (hz : hi ≤ w.heap.size) (_h1 : m.doors.length ≤ 1048576) (_h2 : m.keys.length ≤ 1048576) (s : Int) (_s1 : -9223372036854775808 ≤ s) (_s2 : s ≤ 9223372036854775807) (x : Int) (_x1 : -9223372036854775808 ≤ x) (_x2 : x ≤ 9223372036854775807) :
    Calls Try.prog 38 #[.agg #[.int .i64 m.size, .slice a m.doors.length c, .slice b m.keys.length d], .int .i64 s, .int .i64 x] w (IntsOkPostT w (M.ncntW m s x) (M.ncntB m s x)) := by
  have H := Lib.hid h
  clear h
  obtain ⟨i0, hi0, hz0, hzz1, hz2⟩ := info_parts infoI
  go_enter Try.func38, Try.ntmps38
  go_wp2_with fail
  refine named ?_
  intro W hW
  have hb : Below w.heap.size w W := by rw [hW]; exact below_alloc _ _
  have x1 : Box3 W w.heap.size 27 (.int .i64 m.size) (.slice a m.doors.length c) (.slice b m.keys.length d) := by rw [hW]; exact Box3.new _ _ _ _ rfl
  clear hW
  have hzw := hb.size
  refine (few9_any W lo hi m a b c d (H.out.below hb hz) (by omega) s).mono ?_
  rintro e w1 ⟨rfl, hb1⟩
  have HB1 := Lib.hid (hb.trans (hb1.mono hzw))
  have X1 := Lib.hid (x1.below hb1)
  have hz1 := hb1.size
  clear hb hb1 x1
  obtain ⟨c0, c1, c2⟩ := X1.out.cells
  have hxl := X1.out.lt
  cases qf : M.fewB m s with
  | false =>
    have HV := Lib.hid (M.node_no (x := x) (.inl qf))
    clear qf
    go_wp2_with fail
    go_ret2
    rw [HV.out.1, HV.out.2]
    exact ⟨3, some ⟨w1.heap.size, 0, none⟩, 0, rfl, OwnAt.nil _ _ _ _ _, Nat.le_refl _, by omega, HB1.out.alloc (by omega) _⟩
  | true =>
    have HQ := Lib.hid qf
    have hwl := M.winL_len qf
    have hset := M.setB_iff.2 (M.ask_yes (M.few_yes qf).1).2
    have HCS := Lib.hid (fun W => colours9_any s hset W)
    have hm6 := M.many_le s
    have hcl6 : (M.colours s).length ≤ 1048576 := by unfold M.manyC at hm6; omega
    have v1 := (M.ask_yes (M.few_yes qf).1).1.size1
    have v12 := (M.ask_yes (M.few_yes qf).1).1.size12
    obtain ⟨n, hn⟩ : ∃ n : Nat, m.size = (n : Int) := ⟨m.size.toNat, by omega⟩
    have hn12 : n ≤ 12 := by omega
    have HN := Lib.hid hn
    clear qf hset hm6 v1 v12 hn
    go_wp2_with fail
    refine (HCS.out w1).mono ?_
    rintro e w2 ⟨ra, rc, rfl, hoc, hoc1, hoc2, hb2⟩
    have HOC := Lib.hid hoc
    have HB2 := Lib.hid (HB1.out.trans (hb2.mono (by omega)))
    have X2 := Lib.hid (X1.out.below hb2)
    have hz2' := hb2.size
    clear hoc hb2 X1 HB1 c0 c1 c2
    go_wp2_with fail
    refine (l1Has_any w2 _ _ ra rc (M.colours s) x HOC.out.row hcl6).mono ?_
    rintro e w3 ⟨rfl, rfl⟩
    cases qm : M.memB (M.colours s) x with
    | false =>
      have HV := Lib.hid (M.node_no (m := m) (.inr qm))
      clear qm
      go_wp2_with fail
      go_ret2
      rw [HV.out.1, HV.out.2]
      exact ⟨3, some ⟨w2.heap.size, 0, none⟩, 0, rfl, OwnAt.nil _ _ _ _ _, Nat.le_refl _, by omega, HB2.out.alloc (by omega) _⟩
    | true =>
      have HV := Lib.hid (M.node_yes HQ.out qm)
      have HM := Lib.hid (M.memB_true qm)
      obtain ⟨c0, c1, c2⟩ := X2.out.cells
      have hxl2 := X2.out.lt
      clear qm HOC
      go_upto_region 3 with fail
      go_cut [8, 9] (fun s8 s9 wx => ∃ (cb l0 h0 : Nat) (qa : Option Addr) (qc : Nat) (U : List Sl9), s8 = .slice (some ⟨cb, 0, none⟩) n n ∧ s9 = .slice qa (M.winL m s).length qc ∧ OwnAt cb (cb + 1) wx 3 (some ⟨cb, 0, none⟩) (M.encIs (List.replicate n 0)) ∧ cb < wx.heap.size ∧ w.heap.size ≤ cb ∧ (cb + 1 ≤ l0 ∨ h0 ≤ cb) ∧ RowIn l0 h0 wx qa (U.map hdrV) ∧ h0 ≤ wx.heap.size ∧ LLH l0 h0 wx U (M.winL m s) ∧ Box3 wx w.heap.size 27 (.int .i64 m.size) (.slice a m.doors.length c) (.slice b m.keys.length d) ∧ Below w.heap.size w wx)
      case first =>
        have HB2D := Lib.hid HB2.out.drew
        have X2D := Lib.hid (X2.out.below (Below.refl w2.heap.size w2).drew)
        go_region_with (first | (go_at_call 74; refine (winning9_any _ lo hi m a b c d (H.out.below (by first | exact HB2D.out | exact HB2D.out.grown hgrow7 (by simp; omega) (fun k e => by cases e)) hz) (by first | (simp; omega) | (have := hgrow7.size; simp at this; omega)) _h1 _h2 s HQ.out).mono ?_; rintro e w5 ⟨qa, qc, U, rfl, hqr, hql, hq1, hq2, hb5⟩; have y5 := Lib.hid (show Box3 w5 w.heap.size 27 (.int .i64 m.size) (.slice a m.doors.length c) (.slice b m.keys.length d) from by first | exact X2D.out.below hb5 | exact (X2D.out.grown hgrow7 (fun e => by cases e)).below hb5); obtain ⟨e0, e1, e2⟩ := y5.out.cells; have hyl5 := y5.out.lt) | (refine upon_make _ w.heap.size 23 3 i0 (.int .i64 0) 1 Try.underlying23 hi0 hz0 hzz1 .i64 .i64 m.size n HN.out (by rw [hz2]; omega) (by unfold maxLen; omega) (by first | (simp; omega) | (have := hb5.size; simp at this; omega)) ?_; intro w7 hown7 hgrow7; have y7 := Lib.hid (show Box3 w7 w.heap.size 27 (.int .i64 m.size) (.slice a m.doors.length c) (.slice b m.keys.length d) from by first | exact X2D.out.grown hgrow7 (fun e => by cases e) | exact (X2D.out.below hb5).grown hgrow7 (fun e => by cases e)); obtain ⟨f0, f1, f2⟩ := y7.out.cells; have hyl7 := y7.out.lt))
        all_goals
          rw [made_zero] at hown7
          go_wp2_with fail
          go_meet
          first
          | exact ⟨w5.heap.size, w2.heap.size, w5.heap.size, qa, qc, U, rfl, rfl, OwnAt.of_own0 hown7, (hown7.lt _ rfl).2, Nat.le_trans (by simp; omega) hb5.size, .inr (Nat.le_refl _), hqr.below ((Below.refl w5.heap.size w5).grown hgrow7 (Nat.le_refl _) (fun k e => by cases e)) (Nat.le_refl _), hgrow7.size, (LLH.of hql).below ((Below.refl w5.heap.size w5).grown hgrow7 (Nat.le_refl _) (fun k e => by cases e)) (Nat.le_refl _), (X2D.out.below hb5).grown hgrow7 (fun e => by cases e), (HB2D.out.trans (hb5.mono (by simp; omega))).grown hgrow7 (Nat.le_trans (by simp; omega) hb5.size) (fun k e => by cases e)⟩
          | exact ⟨w2.heap.size, w7.heap.size, w5.heap.size, qa, qc, U, rfl, rfl, (OwnAt.of_own0 hown7).below hb5 (hown7.lt _ rfl).2, Nat.lt_of_lt_of_le (hown7.lt _ rfl).2 hb5.size, by omega, .inl (hown7.lt _ rfl).2, hqr, Nat.le_refl _, LLH.of hql, (X2D.out.grown hgrow7 (fun e => by cases e)).below hb5, (HB2D.out.grown hgrow7 (by simp; omega) (fun k e => by cases e)).trans (hb5.mono (Nat.le_trans (by simp; omega) hgrow7.size))⟩
      case rest =>
        obtain ⟨cb, l0, h0, qa, qc, U, rfl, rfl, hcn, hcb, hcw, hdis, hqr, hh0, hll, hx, hlow⟩ := hcut
        have CN := Lib.hid hcn
        have QR := Lib.hid hqr
        have LU := Lib.hid hll
        have LO := Lib.hid hlow
        have hzc := hlow.size
        clear hcn hqr hll hx hlow c0 c1 c2 X2 HB2
        go_wp2_with fail
        refine (HCS.out wc).mono ?_
        rintro e w6 ⟨sa, sc, rfl, hod, _, _, hb6⟩
        have HOD := Lib.hid hod
        have CN6 := Lib.hid (CN.out.below hb6 (by omega))
        have QR6 := Lib.hid (QR.out.below hb6 hh0)
        have LU6 := Lib.hid (LU.out.below hb6 hh0)
        have LO6 := Lib.hid (LO.out.trans (hb6.mono hzc))
        have hz6 := hb6.size
        clear hod hb6 CN QR LU LO
        go_wp2_with fail
        refine (place9_any w6 _ _ sa sc (M.colours s) x HOD.out.row HM.out hcl6).mono ?_
        rintro e w8 ⟨rfl, rfl⟩
        have hpk : M.placeL (M.colours s) x < M.manyC s := M.place_in HM.out
        have HVV := Lib.hid HV.out
        rw [show m.size.toNat = n by rw [HN.out]; rfl] at HVV
        clear HOD
        generalize M.placeL (M.colours s) x = p at *
        go_wp2_with fail
        go_loopw [11] (fun v11 wr => ∃ (j : Nat), j ≤ (M.winL m s).length ∧ v11 = .int .i64 (j : Int) ∧ OwnAt cb (cb + 1) wr 3 (some ⟨cb, 0, none⟩) (M.encIs (M.cntsL n ((M.winL m s).take j) p)) ∧ cb < wr.heap.size ∧ RowIn l0 h0 wr qa (U.map hdrV) ∧ h0 ≤ wr.heap.size ∧ LLH l0 h0 wr U (M.winL m s) ∧ Below w.heap.size w wr) (fun v11 _ => (M.winL m s).length - (intOf v11).toNat)
        case atStart => exact ⟨0, Nat.zero_le _, rfl, by rw [List.take_zero, M.cntsL_nil]; exact CN6.out, by omega, QR6.out, by omega, LU6.out, LO6.out⟩
        case round =>
          clear CN6 QR6 LU6 LO6
          obtain ⟨j, hj, rfl, hcn, hcb', hqr, hh0', hll, hlow⟩ := hrel
          have CN := Lib.hid hcn
          have QR := Lib.hid hqr
          have LU := Lib.hid hll
          have LO := Lib.hid hlow
          have hzr := hlow.size
          clear hcn hqr hll hlow
          by_cases hjl : j < (M.winL m s).length
          · have hju : j < U.length := by rw [LU.out.1]; exact hjl
            obtain ⟨hel, hu1, hu2, hu3⟩ := LU.out.2 j hjl hju
            obtain ⟨y, hy, hyn, hpl⟩ := M.winL_at HQ.out (List.getElem_mem hjl) hpk
            rw [show m.size.toNat = n by rw [HN.out]; rfl] at hyn
            obtain ⟨qg, qo, rfl, hqg1, hqg2, hc0⟩ := QR.out.at_ (k := j) (by rw [List.length_map]; exact hju)
            have hcj := hc0 j _ (hdr_at hju)
            obtain ⟨rg, ro, hre, hrg1, hrg2, hr0⟩ := hel.row.at_ (k := p) (by rw [M.encIs_len]; exact hpl)
            have hrp := hr0 p (.int .i64 (y : Int)) (by rw [M.encIs_at hpl, ← hy, List.getD_eq_getElem?_getD, List.getElem?_eq_getElem hpl, Option.getD_some])
            rw [hre, hu1] at hcj
            have HSN := Lib.hid (show M.cntsL n ((M.winL m s).take (j + 1)) p = (M.cntsL n ((M.winL m s).take j) p).set y ((M.cntsL n ((M.winL m s).take j) p).getD y 0 + 1) by rw [M.take_snoc9 hjl]; exact M.cntsL_snoc _ hy hyn)
            have hcl : (M.cntsL n ((M.winL m s).take j) p).length = n := M.cntsL_len _ _ _
            have hle := M.cntsL_getD_le n ((M.winL m s).take j) p y
            have htl : ((M.winL m s).take j).length ≤ 4096 := by rw [List.length_take]; omega
            have hyl : y < (M.cntsL n ((M.winL m s).take j) p).length := by rw [hcl]; exact hyn
            obtain ⟨kg, ko, hke, _, _, hk0⟩ := CN.out.row.at_ (k := y) (by rw [M.encIs_len]; exact hyl)
            injection hke with hke
            injection hke with hk1 hk2
            subst hk1 hk2
            have hcy := hk0 y (.int .i64 ((M.cntsL n ((M.winL m s).take j) p).getD y 0)) (show (M.encIs _)[y]? = _ by rw [M.encIs_at hyl, List.getD_eq_getElem?_getD, List.getElem?_eq_getElem hyl, Option.getD_some])
            rw [Nat.zero_add] at hcy
            have hfr : wr.frozen? ⟨cb, y, none⟩ = false := CN.out.free rfl (k := y) (by rw [M.encIs_len]; exact hyl) _
            generalize hz : (M.cntsL n ((M.winL m s).take j) p).getD y 0 = z at *
            generalize (M.winL m s)[j] = fs at *
            generalize hu : U[j] = u at *
            have HCY := Lib.hid hcy
            clear hel hc0 hr0 hk0 hu hz hy
            go_wp2_with fail
            have hset := CN.out.set0 y (.int .i64 (z + 1))
            rw [← encIs_set9, ← HSN.out] at hset
            have ht := Turned.setCell (lo := cb) (hi := cb + 1) wr cb y (.int .i64 (z + 1)) (Nat.le_refl _) (Nat.lt_succ_self _)
            have HS := Lib.hid hset
            clear hset
            go_roundw
            case rel => exact ⟨j + 1, by omega, by go_num, HS.out, by simp only [World.size_setCell]; exact hcb', QR.out.turned ht hh0' (by omega), by simp only [World.size_setCell]; exact hh0', LU.out.turned ht hh0' (by omega), LO.out.setCell (p := ⟨cb, y, none⟩) hcw _⟩
            case measure => simp [intOf]; omega
          · obtain rfl : j = (M.winL m s).length := by omega
            have hcn := CN.out
            rw [List.take_length] at hcn
            have CN2 := Lib.hid hcn
            have hcl : (M.cntsL n (M.winL m s) p).length = n := M.cntsL_len _ _ _
            clear hcn CN
            go_wp2_with fail
            go_ret2
            rw [HVV.out.1, HVV.out.2]
            exact ⟨3, some ⟨cb, 0, none⟩, n, by rw [hcl]; rfl, CN2.out.mono hcw (by omega), by omega, by omega, LO.out⟩
theorem implNode_lw (w : World) (lo hi : Nat) (m : M.Mz) (a b : Option Addr) (c d : Nat) (h : MzIn lo hi w m a c b d) (hz : hi ≤ w.heap.size) (_h1 : m.doors.length ≤ 1048576) (_h2 : m.keys.length ≤ 1048576) (s : Int) (_s1 : -9223372036854775808 ≤ s) (_s2 : s ≤ 9223372036854775807) (x : Int) (_x1 : -9223372036854775808 ≤ x) (_x2 : x ≤ 9223372036854775807) :
    Calls Try.prog 39 #[.agg #[.int .i64 m.size, .slice a m.doors.length c, .slice b m.keys.length d], .int .i64 s, .int .i64 x] w (IntsOkPostT w (M.ncntW m s x) (M.ncntB m s x)) := by
  have H := Lib.hid h
  clear h
  go_enter Try.func39, Try.ntmps39
  go_wp2_with fail
  refine named ?_
  intro W hW
  have hb : Below w.heap.size w W := by rw [hW]; exact below_alloc _ _
  have x1 : Box3 W w.heap.size 27 (.int .i64 m.size) (.slice a m.doors.length c) (.slice b m.keys.length d) := by rw [hW]; exact Box3.new _ _ _ _ rfl
  clear hW
  have hzw := hb.size
  refine (placeOf_any s x W).mono ?_
  rintro e w1 ⟨rfl, hb1⟩
  have HB1 := Lib.hid (hb.trans (hb1.mono hzw))
  have X1 := Lib.hid (x1.below hb1)
  have hz1 := hb1.size
  clear hb hb1 x1
  cases qm : M.memB (M.colours s) x with
  | false =>
    have HV := Lib.hid (M.node_no (m := m) (.inr qm))
    rw [M.idxV_no qm]
    clear qm
    go_wp2_with fail
    go_ret2
    rw [HV.out.1, HV.out.2]
    exact ⟨3, _, 0, rfl, OwnAt.nil _ _ _ _ _, Nat.le_refl _, by omega, (HB1.out.alloc (by omega) _).alloc (by simp; omega) _⟩
  | true =>
    rw [M.idxV_yes qm]
    have hpk := M.place_in (M.memB_true qm)
    have hm6 := M.many_le s
    have hpk' : M.placeL (M.colours s) x < M.manyC s := hpk
    have HM := Lib.hid qm
    clear qm hpk
    generalize hp : M.placeL (M.colours s) x = p at *
    have HP := Lib.hid hp
    clear hp
    have hnp : ¬ ((p : Int) < 0) := by omega
    obtain ⟨c0, c1, c2⟩ := X1.out.cells
    have hxl := X1.out.lt
    go_wp2_with fail
    refine named ?_
    intro W3 hW3
    have hb3 : Below w.heap.size w W3 := by rw [hW3]; exact HB1.out.alloc (by omega) _
    have x3 : Box3 W3 w.heap.size 27 (.int .i64 m.size) (.slice a m.doors.length c) (.slice b m.keys.length d) := by rw [hW3]; exact X1.out.alloc _
    have pl : Boxed W3 w1.heap.size 3 (.int .i64 (p : Int)) := by rw [hW3]; exact Boxed.new _ _ _
    have hz13 : W3.heap.size = w1.heap.size + 1 := by rw [hW3]; simp
    clear hW3 c0 c1 c2
    refine (overC_any W3 lo hi m a b c d (H.out.below hb3 hz) (by omega) _h1 _h2 s _s1 _s2 w1.heap.size p pl hpk').mono ?_
    rintro e w4 ⟨rfl, hb4⟩
    have HB4 := Lib.hid (hb3.trans (hb4.mono (by omega)))
    have X4 := Lib.hid (x3.below hb4)
    have hz4 := hb4.size
    obtain ⟨c0, c1, c2⟩ := X4.out.cells
    clear hb3 hb4 x3 pl
    cases qf : M.fewB m s with
    | false =>
      have HV := Lib.hid (M.node_no (x := x) (.inl qf))
      clear qf
      generalize M.cnt8 m s p = A at *
      rw [show agg8 A = .agg #[.int .i64 (A 0), .int .i64 (A 1), .int .i64 (A 2), .int .i64 (A 3), .int .i64 (A 4), .int .i64 (A 5), .int .i64 (A 6), .int .i64 (A 7)] from rfl]
      go_wp2_with fail
      go_ret2
      rw [HV.out.1, HV.out.2]
      exact ⟨3, _, 0, rfl, OwnAt.nil _ _ _ _ _, Nat.le_refl _, by omega, (HB4.out.alloc (by omega) _).alloc (by simp; omega) _⟩
    | true =>
      have HV := Lib.hid (M.node_yes qf HM.out)
      have HC8 := Lib.hid (M.cnt8_yes (p := p) qf)
      have h8 := (M.few_yes qf).2.1
      have v1 := (M.ask_yes (M.few_yes qf).1).1.size1
      obtain ⟨n, hn⟩ : ∃ n : Nat, m.size = (n : Int) := ⟨m.size.toNat, by omega⟩
      have hn8 : n ≤ 8 := by omega
      have HN := Lib.hid hn
      rw [hn] at c0
      have hxl4 := X4.out.lt
      clear qf h8 v1 hn
      generalize hA : M.cnt8 m s p = A at *
      have HA := Lib.hid hA
      rw [show agg8 A = .agg #[.int .i64 (A 0), .int .i64 (A 1), .int .i64 (A 2), .int .i64 (A 3), .int .i64 (A 4), .int .i64 (A 5), .int .i64 (A 6), .int .i64 (A 7)] from rfl]
      have hsl := fun W => sl8 w4.heap.size n hn8 W
      have b8 := Lib.hid (box8_own (Box8.new (w := w4) 83 A rfl) n hn8)
      have hnn : m.size.toNat = n := by rw [HN.out]; rfl
      clear hA
      go_wp2_with fail
      go_ret2
      have hlen : (M.cntsL n (M.winL m s) p).length = n := M.cntsL_len _ _ _
      rw [HV.out.1, HV.out.2, hnn, HP.out]
      have b9 := b8.out
      rw [HC8.out, ← M.cntsL_atV] at b9
      refine ⟨83, some ⟨w4.heap.size, 0, none⟩, 8, by rw [hlen]; rfl, ?_, by omega, by omega, HB4.out.alloc (by omega) _⟩
      rw [HC8.out]
      exact b9.mono (by omega) (by simp)
end C
end Go.Proofs.Ytddpjjdncmokmaa
