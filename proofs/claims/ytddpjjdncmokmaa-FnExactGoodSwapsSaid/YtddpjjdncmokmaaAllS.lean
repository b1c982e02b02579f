/-
  CONTRACT of the model's l9All: all lists of some numbers, in order, each in memory of its own. Condition: at most four numbers, each below at most 8.
-/
import Derived.Test.YtddpjjdncmokmaaNumL
import Derived.Test.YtddpjjdncmokmaaOwnMazK
import Derived.Test.YtddpjjdncmokmaaP3I
import Derived.Test.YtddpjjdncmokmaaWCBefore
namespace Go.Proofs.Ytddpjjdncmokmaa
open Go.RowKit
namespace M
theorem allL_zero (n : Nat) : allL n 0 = [[]] := by unfold allL allTo; rfl
theorem allL_len (n k : Nat) : (allL n k).length = powN n k := by unfold allL; rw [allTo_len]; rfl
theorem allTo_all (n k : Nat) : allTo n (k + 1) (powN n k * n) = allL n (k + 1) := rfl
theorem allL_at {n k j : Nat} (h : j < (allL n k).length) : (allL n k)[j] = digL n k j := by simp [allL, allTo]
theorem allTo_at {n k q j : Nat} (h : j < (allTo n k q).length) : (allTo n k q)[j] = digL n k j := by simp [allTo]
theorem allTo_next {n k j x : Nat} (hx : x < n) : allTo n (k + 1) (j * n + x + 1) = allTo n (k + 1) (j * n + x) ++ [digL n k j ++ [(x : Int)]] := by rw [allTo_succ, digL_next hx]
theorem row_lt {n j N : Nat} (h : j + 1 ≤ N) : (j + 1) * n ≤ N * n := Nat.mul_le_mul_right n h
theorem row_next (n j : Nat) : (j + 1) * n = j * n + n := Nat.succ_mul j n
end M
namespace C
set_option linter.unusedVariables false
set_option maxHeartbeats 3200000
set_option maxRecDepth 20000
abbrev Sl9 := Option Addr × Nat × Nat
def hdrV (u : Sl9) : Value := .slice u.1 u.2.1 u.2.2
structure LL (B : Nat) (w : World) (U : List Sl9) (ll : List (List Int)) : Prop where
  len : U.length = ll.length
  el : ∀ i (h : i < ll.length) (hu : i < U.length), OwnAt B w.heap.size w 3 U[i].1 (M.encIs ll[i]) ∧ U[i].2.1 = ll[i].length ∧ ll[i].length ≤ U[i].2.2 ∧ U[i].2.2 ≤ 9223372036854775807
theorem LL.below {B : Nat} {w w' : World} {U : List Sl9} {ll : List (List Int)} (h : LL B w U ll) (t : Below w.heap.size w w') : LL B w' U ll :=
  ⟨h.len, fun i hi hu => ⟨((h.el i hi hu).1.below t (Nat.le_refl _)).mono (Nat.le_refl _) t.size, (h.el i hi hu).2⟩⟩
theorem LL.grown {B B' : Nat} {w w' : World} {U : List Sl9} {ll : List (List Int)} {e : TypeId} {size n : Nat} {v : Value} {ys : List Value} (h : LL B w U ll) (ho : w.ownsRow B' e size v n ys) (hne : e ≠ 3) (hg : w.grownBy w' v.ownBlock) : LL B w' U ll :=
  ⟨h.len, fun i hi hu => ⟨((h.el i hi hu).1.grownOther ho hne hg).mono (Nat.le_refl _) hg.size, (h.el i hi hu).2⟩⟩
theorem LL.push {B : Nat} {w : World} {U : List Sl9} {ll : List (List Int)} {u : Sl9} {l : List Int} (h : LL B w U ll) (ho : OwnAt B w.heap.size w 3 u.1 (M.encIs l)) (h1 : u.2.1 = l.length) (h2 : l.length ≤ u.2.2) (h3 : u.2.2 ≤ 9223372036854775807) : LL B w (U ++ [u]) (ll ++ [l]) := by
  refine ⟨by rw [List.length_append, List.length_append, h.len]; rfl, fun i hi hu => ?_⟩
  rw [List.length_append] at hi hu
  by_cases hlt : i < ll.length
  · rw [List.getElem_append_left hlt, List.getElem_append_left (by rw [h.len]; exact hlt)]
    exact h.el i hlt (by rw [h.len]; exact hlt)
  · have e1 : i = ll.length := by simp at hi; omega
    subst e1
    rw [List.getElem_append_right (Nat.le_refl _), List.getElem_append_right (by rw [h.len]; exact Nat.le_refl _)]
    simp only [h.len, Nat.sub_self, List.getElem_singleton]
    exact ⟨ho, h1, h2, h3⟩
theorem LL.mono {B B' : Nat} {w : World} {U : List Sl9} {ll : List (List Int)} (h : LL B w U ll) (hB : B' ≤ B) : LL B' w U ll := ⟨h.len, fun i hi hu => ⟨(h.el i hi hu).1.mono hB (Nat.le_refl _), (h.el i hi hu).2⟩⟩
theorem hdr_at {U : List Sl9} {i : Nat} (h : i < U.length) : (U.map hdrV)[i]? = some (.slice U[i].1 U[i].2.1 U[i].2.2) := by rw [List.getElem?_map, List.getElem?_eq_getElem h]; rfl
theorem infoII9 : (Try.prog.info? 23).map (fun i => (i.zero, i.size, i.bytes)) = some (some (.slice none 0 0), 1, 24) := by kernel_rfl
theorem RowIn.grownOff {w w' : World} {lo hi : Nat} {a : Option Addr} {xs : List Value} {row : Option Nat} (h : RowIn lo hi w a xs) (hg : w.grownBy w' row) (hz : hi ≤ w.heap.size) (hd : ∀ z, row = some z → hi ≤ z) : RowIn lo hi w' a xs := by
  rcases h with h | ⟨b, off, ha, h1, h2, hc⟩
  · exact .inl h
  · exact .inr ⟨b, off, ha, h1, h2, fun i u hu => (World.cell?_of_block (w := w) (hg.block b (by omega) (fun e => by have := hd b e.symm; omega))).trans (hc i u hu)⟩
/-- a list of lists in memory -/
def LLPost (w : World) (ll : List (List Int)) (e : Ending) (w' : World) : Prop :=
  ∃ a c U, e = .returned (.slice a ll.length c) ∧ RowIn w.heap.size w'.heap.size w' a (U.map hdrV) ∧ LL w.heap.size w' U ll ∧ ll.length ≤ c ∧ c ≤ 9223372036854775807 ∧ Below w.heap.size w w'
theorem all9_any (w : World) (n k : Nat) (hn1 : 1 ≤ n) (hn8 : n ≤ 8) (hk4 : k ≤ 4) : Calls Try.prog 110 #[.int .i64 (n : Int), .int .i64 (k : Int)] w (LLPost w (M.allL n k)) := by
  obtain ⟨i0, hi0, hz0, hz1, hz2⟩ := info_parts infoI
  obtain ⟨ii0, hii0, hiz0, hiz1, hiz2⟩ := info_parts infoII9
  go_enter Try.func110, Try.ntmps110
  go_wp2_with fail
  refine wp_named ?_
  intro W hW
  have hb : Below w.heap.size w W := by rw [hW]; exact (below_alloc _ _).alloc (by simp) _
  have r0 : RowIn w.heap.size W.heap.size W (some ⟨w.heap.size + 1, 0, none⟩) ([((some ⟨w.heap.size, 0, none⟩, 0, 0) : Sl9)].map hdrV) := by
    rw [hW]
    refine .inr ⟨w.heap.size + 1, 0, rfl, by omega, by simp, fun i u hu => ?_⟩
    rcases i with _ | i
    · have he : u = .slice (some ⟨w.heap.size, 0, none⟩) 0 0 := by
        have h : some (Value.slice (some ⟨w.heap.size, 0, none⟩) 0 0) = some u := hu
        injection h with h
        exact h.symm
      subst he
      have h := (Boxed.new (w.alloc (.cells #[] 3)) 23 (.slice (some ⟨w.heap.size, 0, none⟩) 0 0)).cell
      rw [World.size_alloc] at h
      exact h
    · exact absurd (show (none : Option Value) = some u from hu) (by simp)
  have l0 : LL w.heap.size W [((some ⟨w.heap.size, 0, none⟩, 0, 0) : Sl9)] (M.allL n 0) := by
    rw [M.allL_zero]
    exact LL.push (U := []) (ll := []) ⟨rfl, fun i hi => by cases hi⟩ (OwnAt.nil _ _ _ _ _) rfl (Nat.le_refl _) (by show (0 : Nat) ≤ _; omega)
  clear hW
  have HB := Lib.hid hb
  have R0 := Lib.hid r0
  have L0 := Lib.hid l0
  clear hb r0 l0
  go_loopw [5, 6, 7, 8, 9] (fun v5 v6 _ _ _ wr => ∃ (i : Nat) (a : Option Addr) (c : Nat) (U : List Sl9), i ≤ k ∧ v6 = .int .i64 (i : Int) ∧ v5 = .slice a U.length c ∧ U.length ≤ c ∧ c ≤ 9223372036854775807 ∧ RowIn w.heap.size wr.heap.size wr a (U.map hdrV) ∧ LL w.heap.size wr U (M.allL n i) ∧ Below w.heap.size w wr) (fun _ v6 _ _ _ _ => k - (intOf v6).toNat)
  case atStart => exact ⟨0, _, _, _, Nat.zero_le _, rfl, rfl, Nat.le_refl _, by show (1 : Nat) ≤ _; omega, R0.out, L0.out, HB.out⟩
  case round =>
    clear R0 L0 HB
    obtain ⟨i, a, c, U, hi, rfl, rfl, hc1, hc2, hr, hl, hlow⟩ := hrel
    have RR := Lib.hid hr
    have LR := Lib.hid hl
    have LO := Lib.hid hlow
    have hzr := hlow.size
    have hul : U.length = M.powN n i := by rw [hl.len, M.allL_len]
    clear hr hl hlow
    obtain ⟨wo, rfl⟩ : ∃ x, x = wr := ⟨_, rfl⟩
    by_cases hik : i < k
    · have hp1 := M.powN_le (j := i + 1) hn8 (by omega)
      have hps := M.powN_succ n i
      have hp0 := M.powN_le (j := i) hn8 (by omega)
      have HUL := Lib.hid hul
      have hq0 : U.length * n ≤ 4096 := by rw [hul, ← hps]; exact hp1
      clear hps hp1 hul
      go_wp2_with fail
      refine wp_named ?_
      intro W2 hW2
      have hb2 : Below wo.heap.size wo W2 := by rw [hW2]; exact below_alloc _ _
      have m0 : W2.ownsRow wo.heap.size 23 1 (.slice (some ⟨wo.heap.size, 0, none⟩) 0 0) 0 [] := by rw [hW2]; exact ownsRow_empty _ _ _ _ (Nat.le_refl _)
      clear hW2
      have M0 := Lib.hid m0
      have R2 := Lib.hid (RR.out.below hb2 (Nat.le_refl _))
      have L2 := Lib.hid (LR.out.below hb2)
      have B2 := Lib.hid (LO.out.trans (hb2.mono hzr))
      have hz2' := hb2.size
      have LM0 : Hid (LL w.heap.size W2 [] (M.allTo n (i + 1) (0 * n))) := Lib.hid (by rw [Nat.zero_mul]; exact ⟨rfl, fun i hi => by cases hi⟩)
      clear m0 hb2
      go_loopw [7, 8, 9] (fun v7 v8 _ wr => ∃ (j : Nat) (V : List Sl9), j ≤ U.length ∧ v8 = .int .i64 (j : Int) ∧ wr.ownsRow wo.heap.size 23 1 v7 (j * n) (V.map hdrV) ∧ LL w.heap.size wr V (M.allTo n (i + 1) (j * n)) ∧ RowIn w.heap.size wo.heap.size wr a (U.map hdrV) ∧ LL w.heap.size wr U (M.allL n i) ∧ wo.heap.size ≤ wr.heap.size ∧ Below w.heap.size w wr) (fun _ v8 _ _ => U.length - (intOf v8).toNat)
      case atStart => exact ⟨0, [], Nat.zero_le _, rfl, by rw [Nat.zero_mul]; exact M0.out, LM0.out, R2.out, L2.out, hz2', B2.out⟩
      case round =>
        clear M0 R2 L2 B2 LM0
        obtain ⟨j, V, hj, rfl, hm, hlm, hr, hl, hsz, hlow⟩ := hrel
        obtain ⟨ma, mc, hv, hm1, hm2, _⟩ := own_slice hm
        subst hv
        have MO := Lib.hid hm
        have LM := Lib.hid hlm
        have RR3 := Lib.hid hr
        have LR3 := Lib.hid hl
        have LO3 := Lib.hid hlow
        clear hm hlm hr hl hlow
        obtain ⟨wm, rfl⟩ : ∃ x, x = wr := ⟨_, rfl⟩
        by_cases hjl : j < U.length
        · have hrow := M.row_lt (n := n) (show j + 1 ≤ U.length by omega)
          have hrn := M.row_next n j
          have hall : j < (M.allL n i).length := by rw [← LR3.out.len]; exact hjl
          have hjn : j * n + n ≤ 4096 := by omega
          generalize hjq : j * n = q0 at *
          have HJQ := Lib.hid hjq
          clear hjq hrow hrn
          go_wp2_with fail
          go_loopw [7, 9] (fun v7 v9 wr => ∃ (x : Nat) (V : List Sl9), x ≤ n ∧ v9 = .int .i64 (x : Int) ∧ wr.ownsRow wo.heap.size 23 1 v7 (q0 + x) (V.map hdrV) ∧ LL w.heap.size wr V (M.allTo n (i + 1) (q0 + x)) ∧ RowIn w.heap.size wo.heap.size wr a (U.map hdrV) ∧ LL w.heap.size wr U (M.allL n i) ∧ wo.heap.size ≤ wr.heap.size ∧ Below w.heap.size w wr) (fun _ v9 _ => n - (intOf v9).toNat)
          case atStart => exact ⟨0, V, Nat.zero_le _, rfl, MO.out, LM.out, RR3.out, LR3.out, hsz, LO3.out⟩
          case round =>
            clear MO LM RR3 LR3 LO3 hm1 hm2 hsz
            obtain ⟨x, V', hx, rfl, hm, hlm, hr, hl, hsz, hlow⟩ := hrel
            obtain ⟨ma', mc', hv, hm1, hm2, _⟩ := own_slice hm
            subst hv
            have MO := Lib.hid hm
            have LM := Lib.hid hlm
            have RR3 := Lib.hid hr
            have LR3 := Lib.hid hl
            have LO3 := Lib.hid hlow
            have hzr3 := hlow.size
            clear hm hlm hr hl hlow
            by_cases hxn : x < n
            · obtain ⟨ho9, hu1, hu2, hu3⟩ := LR3.out.el j hall hjl
              have hal := M.allL_at hall
              rw [hal] at ho9 hu1 hu2
              rw [M.digL_len] at hu1 hu2
              obtain ⟨rg, ro, rfl, hrg1, hrg2, hc0⟩ := RR3.out.at_ (k := j) (by rw [List.length_map]; exact hjl)
              have hcj := hc0 j _ (hdr_at hjl)
              rw [hu1] at hcj
              have HNX := Lib.hid (M.allTo_next (n := n) (k := i) (j := j) hxn)
              rw [HJQ.out] at HNX
              have HL1 := Lib.hid (show Calls Try.prog 121 #[.slice U[j].1 i U[j].2.2] wr (IntsOwnPost wr (M.digL n i j)) from by
                have h := l1Own_row wr w.heap.size wr.heap.size U[j].1 U[j].2.2 (M.digL n i j) ho9.row (Nat.le_refl _) (by rw [M.digL_len]; omega)
                rw [M.digL_len] at h
                exact h)
              have HDL := Lib.hid (M.digL_len n i j)
              have HDN := Lib.hid (M.digL_len n (i + 1) (j * n + x))
              clear hc0 hal ho9
              generalize U[j] = u at *
              go_wp2_with fail
              refine HL1.out.mono ?_
              rintro e w4 ⟨ea, ec, he, heo, hb4⟩
              rw [HDL.out] at he heo
              subst he
              have hz4 := hb4.size
              have B4 := Lib.hid hb4
              have EO := Lib.hid heo
              have MO4 := Lib.hid (own_below MO.out B4.out)
              clear heo hb4 HL1 hcj
              go_wp2_with (first
                | (at_builtin; refine wpList_append_own _ rfl _ _ 23 rfl wr.heap.size 3 i0 (.int .i64 0) 1 8 Try.underlying23 hi0 hz0 hz1 hz2 rfl (by decide) _ _ _ rfl (EO.out.alloc _) ⟨w4.heap.size, 0, none⟩ 1 1 [.int .i64 (x : Int)] rfl rfl (cell_one_new _ _ _) (fun x hx => by simp at hx; subst hx; rfl) (by unfold maxLen; omega) (by omega) (by simp; omega) ?_; intro v9 w9 hown9 hgrow9 hnil9; obtain ⟨na, nc, hv9, hn1', hn2', hno9⟩ := own_slice hown9; subst hv9; have hb9 : Below wr.heap.size wr w9 := ((B4.out.alloc (by omega) _).grown hgrow9 (by simp; omega) (fun z hz => own_base EO.out z hz)); have MO9 := own_below MO.out hb9; have hs9 := hb9.size)
                | (at_builtin; refine wpList_append_own _ rfl _ _ 72 rfl wo.heap.size 23 ii0 (.slice none 0 0) 1 24 Try.underlying72 hii0 hiz0 hiz1 hiz2 rfl (by decide) (.slice ma' (q0 + x) mc') (q0 + x) (V'.map hdrV) rfl (MO9.alloc _) ⟨w9.heap.size, 0, none⟩ 1 1 [.slice na (i + 1) nc] rfl rfl (cell_one_new _ _ _) (fun x hx => by simp at hx; subst hx; rfl) (by unfold maxLen; omega) (by omega) (by simp; omega) ?_; intro v8 w8 hown8 hgrow8 hnil8))
              have hba := below_alloc w9 (.cells #[.slice na (i + 1) nc] 23)
              have hsa : (w9.alloc (.cells #[.slice na (i + 1) nc] 23)).heap.size = w9.heap.size + 1 := by simp
              have hs8 := hgrow8.size
              have hob := own_base MO9
              have hnw : OwnAt w.heap.size w8.heap.size w8 3 na (M.encIs (M.digL n i j ++ [(x : Int)])) := by
                have h1 : OwnAt wr.heap.size w9.heap.size w9 3 na (M.encIs (M.digL n i j ++ [(x : Int)])) := by rw [M.encIs_append]; exact hno9
                have h2 := h1.below hba (Nat.le_refl _)
                exact (h2.grownOther (MO9.alloc _) (by decide) hgrow8).mono (by omega) (by omega)
              have hLM := ((LM.out.below hb9).below hba).grown (MO9.alloc _) (by decide) hgrow8
              have hLR := ((LR3.out.below hb9).below hba).grown (MO9.alloc _) (by decide) hgrow8
              have hRR := ((RR3.out.below hb9 hsz).below hba (by omega)).grownOff hgrow8 (by omega) (fun z hz => hob z hz)
              have hLO := ((LO3.out.trans (hb9.mono hzr3)).trans (hba.mono (by omega))).grown hgrow8 (by omega) (fun z hz => by have := hob z hz; omega)
              have hpu := hLM.push (u := (na, i + 1, nc)) hnw (by rw [List.length_append, M.digL_len]; rfl) (by rw [List.length_append, M.digL_len]; exact hn1') hn2'
              rw [← HNX.out] at hpu
              have HPU := Lib.hid hpu
              have HLR := Lib.hid hLR
              have HRR := Lib.hid hRR
              have HLO := Lib.hid hLO
              have HM8 := Lib.hid hown8
              have hsz8 : wo.heap.size ≤ w8.heap.size := by omega
              clear hnw hLM hLR hRR hLO hpu hown8 hgrow8 hgrow9 hba hb9 hob hno9
              go_roundw
              case rel => exact ⟨x + 1, V' ++ [(na, i + 1, nc)], by omega, by go_num, by rw [List.map_append]; exact HM8.out, HPU.out, HRR.out, HLR.out, hsz8, HLO.out⟩
              case measure => simp [intOf]; omega
            · obtain rfl : x = n := by omega
              go_wp2_with fail
              go_roundw
              case rel => exact ⟨j + 1, V', by omega, by go_num, by rw [M.row_next, HJQ.out]; exact MO.out, by rw [M.row_next, HJQ.out]; exact LM.out, RR3.out, LR3.out, hsz, LO3.out⟩
              case measure => simp [intOf]; omega
        · obtain rfl : j = U.length := by omega
          have hvl := MO.out
          have hml : V.length = U.length * n := by have h := LM.out.len; rw [M.allTo_len] at h; exact h
          have LM' : Hid (LL w.heap.size wm V (M.allL n (i + 1))) := Lib.hid (by have h := LM.out; rw [HUL.out, M.allTo_all] at h; exact h)
          have hrw := (OwnAt.of_own MO.out).row.mono (show w.heap.size ≤ wo.heap.size from hzr) (Nat.le_refl _)
          have HRW := Lib.hid hrw
          have hm1' : V.length ≤ mc := by omega
          rw [← hml]
          clear hvl hrw hml
          go_wp2_with fail
          go_roundw
          case rel => exact ⟨i + 1, ma, mc, V, by omega, by go_num, rfl, hm1', hm2, HRW.out, LM'.out, LO3.out⟩
          case measure => simp [intOf]; omega
    · obtain rfl : i = k := by omega
      have hlen : (M.allL n i).length = U.length := LR.out.len.symm
      have HLN := Lib.hid hlen
      clear hlen
      go_wp2_with fail
      go_ret
      exact ⟨a, c, U, by rw [HLN.out]; rfl, RR.out, LR.out, by rw [HLN.out]; exact hc1, hc2, LO.out⟩
end C
end Go.Proofs.Ytddpjjdncmokmaa
