/-
  CONTRACT of slices.Compact at ints, where at most the last number is as the one before it: without that one, in place; what lay elsewhere stays. Condition: the row may be written, at most 1000 numbers.
  CONTRACT of impl.RoundsOf; what lay in memory stays. No condition but that the maze reads so.
-/
import Derived.Test.YtoiapfdlbkncaaaDel
import Derived.Test.YtoiapfdlbkncaaaSets
import Derived.Test.YtoiapfdlbkncaaaAP3
namespace Go.Proofs.Ytoiapfdlbkncaaa
open Go.RowKit
namespace M
/-- no number is as the one before it -/
def Apart (l : List Int) : Prop := ∀ k (h : k + 1 < l.length), l[k + 1] ≠ l[k]
/-- no number but perhaps the last one is as the one before it -/
def Once (l : List Int) : Prop := ∀ k (h : k + 1 < l.length), k + 2 < l.length → l[k + 1] ≠ l[k]
end M
namespace C
set_option maxHeartbeats 1600000
set_option maxRecDepth 20000
theorem zeroI0 (w : World) : (zeroValue 3).run Try.prog w = .ok (.int .i64 0) w := by kernel_rfl
theorem compact_no (w : World) (lo hi : Nat) (a : Option Addr) (c : Nat) (l : List Int) (h : RowIn lo hi w a (M.encIs l)) (hz : hi ≤ w.heap.size) (hl : l.length ≤ 1000) (hd : M.Apart l) :
    Calls Try.prog 74 #[.slice a l.length c] w fun e w' => e = .returned (.slice a l.length c) ∧ Below w.heap.size w w' := by
  have H := Lib.hid h
  have HD := Lib.hid hd
  clear h hd
  by_cases h2 : l.length < 2
  · go_enter Try.func74, Try.ntmps74
    go_wp2_with fail
    go_ret
    exact ⟨rfl, Below.refl _ _⟩
  · have h2' : ¬ (l.length : Int) < 2 := by omega
    go_enter Try.func74, Try.ntmps74
    go_wp2_with fail
    go_loopw [3] (fun v3 wr => ∃ (k : Nat), 1 ≤ k ∧ k ≤ l.length ∧ v3 = .int .i64 k ∧ Below w.heap.size w wr) (fun v3 _ => l.length - (intOf v3).toNat)
    case atStart => exact ⟨1, Nat.le_refl _, by omega, rfl, Below.refl _ _⟩
    case round =>
      obtain ⟨k, hk1, hk, rfl, hlow⟩ := hrel
      have LO := Lib.hid hlow
      have hzr := hlow.size
      by_cases hkl : k < l.length
      · obtain ⟨j, rfl⟩ : ∃ j, k = j + 1 := ⟨k - 1, by omega⟩
        obtain ⟨b, off, hb, _, hb2, hc⟩ := (H.out.below (hlow) hz).at_ (k := 0) (by rw [M.encIs_len]; omega)
        have x0 := hc _ _ (M.encIs_at (l := l) (k := j) (by omega))
        have x1 : wr.cell? ⟨b, off + (j + 1), none⟩ = some (.int .i64 l[j + 1]) := hc _ _ (M.encIs_at hkl)
        subst hb
        have hbw : b < wr.heap.size := by omega
        have E0 := cell_grown (a := ⟨b, off + j, none⟩) hbw x0
        have E1 := cell_grown (a := ⟨b, off + (j + 1), none⟩) hbw x1
        have hne := HD.out j hkl
        have hnb : (l[j + 1] == l[j]) = false := by rw [beq_eq_false_iff_ne]; exact hne
        have mixed : Try.prog.follows .mixedOrders = true := by kernel_rfl
        have hw1 : IntKind.i64.wrap ((j : Int) + 1 - 1) = (j : Int) := by rw [show (j : Int) + 1 - 1 = (j : Int) by omega]; exact IntWalk.i64_in _ (by omega)
        clear hc hlow
        go_wp2_with fail
        refine wp_region_quiet_grown (by assumption) (by kernel_rfl) ?_
        repeat (first | go_big_quiet_step (fail) | quiet_step (fail))
        refine wpQuiet_nil ?_
        intro _ hw'
        obtain ⟨⟨nq, osq⟩, hw''⟩ := hw'
        subst hw''
        clear hw1
        go_wp2_with fail
        go_roundw
        case rel => exact ⟨j + 1 + 1, by omega, by omega, by go_num, LO.out.trans ((below_grown wr nq osq).mono hzr)⟩
        case measure => simp [intOf]; omega
      · obtain rfl : k = l.length := by omega
        clear hlow
        go_wp2_with fail
        go_ret
        exact ⟨rfl, LO.out⟩
theorem compact_yes (w : World) (lo hi b off : Nat) (c : Nat) (l : List Int) (n : Nat) (hd : M.Once l) (he : ∀ h : n + 1 < l.length, l[n + 1] = l[n]) (hln : l.length = n + 2) (h : OwnAt lo hi w 3 (some ⟨b, off, none⟩) (M.encIs l)) (hz : hi ≤ w.heap.size) (hl : l.length ≤ 1000) (hc1 : l.length ≤ c) (hc2 : c ≤ 9223372036854775807):
    Calls Try.prog 74 #[.slice (some ⟨b, off, none⟩) l.length c] w fun e w' => e = .returned (.slice (some ⟨b, off, none⟩) (n + 1) c) ∧ OwnAt lo hi w' 3 (some ⟨b, off, none⟩) (M.encIs (l.take (n + 1))) ∧ Turned lo hi w w' := by
  obtain ⟨b', off', e, hb1, hb2, hcc⟩ := h.row.at_ (k := 0) (by rw [M.encIs_len]; omega)
  injection e with e
  injection e with e1 e2 _
  subst e1; subst e2
  have H := Lib.hid h
  have HD := Lib.hid hd
  have HC := Lib.hid hcc
  have HE := Lib.hid he
  clear h hd hcc he
  have h2' : ¬ (l.length : Int) < 2 := by omega
  have hbw0 : b < w.heap.size := by omega
  have HLN := Lib.hid hln
  have hn2 : n + 2 ≤ l.length := by omega
  clear hln
  go_enter Try.func74, Try.ntmps74
  go_wp2_with fail
  go_loopw [3] (fun v3 wr => ∃ (k : Nat), k ≤ n ∧ v3 = .int .i64 ((k : Int) + 1) ∧ Below w.heap.size w wr) (fun v3 _ => l.length - (intOf v3).toNat)
  case atStart => exact ⟨0, by omega, rfl, Below.refl _ _⟩
  case round =>
    obtain ⟨j, hk, rfl, hlow⟩ := hrel
    have LO := Lib.hid hlow
    have hzr := hlow.size
    have hjl : j + 1 < l.length := by omega
    have x0 := (hlow.cell (p := ⟨b, off + j, none⟩) hbw0).trans (HC.out _ _ (M.encIs_at (l := l) (k := j) (by omega)))
    have x1 := (hlow.cell (p := ⟨b, off + (j + 1), none⟩) hbw0).trans (HC.out _ _ (M.encIs_at (l := l) (k := j + 1) hjl))
    have hbw : b < wr.heap.size := by omega
    have E0 := cell_grown (a := ⟨b, off + j, none⟩) hbw x0
    have E1 := cell_grown (a := ⟨b, off + (j + 1), none⟩) hbw x1
    have mixed : Try.prog.follows .mixedOrders = true := by kernel_rfl
    have hw1 : IntKind.i64.wrap ((j : Int) + 1 - 1) = (j : Int) := by rw [show (j : Int) + 1 - 1 = (j : Int) by omega]; exact IntWalk.i64_in _ (by omega)
    have hj0 : (0 : Int) ≤ (j : Int) + 1 := by omega
    have hj1 : (j : Int) + 1 < (l.length : Int) := by omega
    have hj2 : ((j : Int) + 1).toNat = j + 1 := by omega
    clear hlow x0 x1
    by_cases hjn : j < n
    · have hne := HD.out j hjl (by have := HLN.out; omega)
      have hnb : (l[j + 1] == l[j]) = false := by rw [beq_eq_false_iff_ne]; exact hne
      have HNN := Lib.hid hjn
      clear hjn
      go_wp2_with fail
      refine wp_region_quiet_grown (by assumption) (by kernel_rfl) ?_
      repeat (first | go_big_quiet_step (fail) | quiet_step (fail))
      refine wpQuiet_nil ?_
      intro _ hw'
      obtain ⟨⟨nq, osq⟩, hw''⟩ := hw'
      subst hw''
      clear hnb hw1
      go_wp2_with fail
      go_roundw
      case rel => exact ⟨j + 1, HNN.out, by go_num, LO.out.trans ((below_grown wr nq osq).mono hzr)⟩
      case measure => simp [intOf]; omega
    · obtain rfl : j = n := by omega
      have hee := HE.out hjl
      rw [hee] at E1
      go_wp2_with fail
      refine wp_region_quiet_grown (by assumption) (by kernel_rfl) ?_
      repeat (first | go_big_quiet_step (fail) | quiet_step (fail))
      refine wpQuiet_nil ?_
      intro _ hw'
      obtain ⟨⟨nq, osq⟩, hw''⟩ := hw'
      subst hw''
      clear hw1
      obtain ⟨W1, hW1⟩ : ∃ W1, W1 = Sort.grow (wr.drewN nq) osq := ⟨_, rfl⟩
      have hbW : Below w.heap.size w W1 := by rw [hW1]; exact LO.out.trans ((below_grown wr nq osq).mono hzr)
      rw [← hW1]
      have hown := H.out.below hbW hz
      have hln := HLN.out
      obtain ⟨u, hu⟩ : ∃ u, (M.encIs l)[j + 1]? = some u := ⟨_, M.encIs_at hjl⟩
      have hcl := fun ty => Lib.run_clear_slice (P := Try.prog) W1 23 3 ty (.int .i64 0) Try.underlying23 zeroI0 rfl rfl b (off + (j + 1)) 1 (c - (j + 1)) (by omega)
        (fun i hi' => by
          obtain rfl : i = 0 := by omega
          rw [Nat.add_zero, (hbW.cell (p := ⟨b, off + (j + 1), none⟩) hbw0).trans (HC.out _ _ hu)]; rfl)
        (fun i _ => hown.free rfl (k := 0) (by rw [M.encIs_len]; omega) _)
      have hE := hown.setCells (List.replicate 1 (.int .i64 0)) (j + 1) W1
      have hT := (Turned.of_below hbW lo hi).trans (Turned.setCells b hb1 hb2 (List.replicate 1 (.int .i64 0)) (off + (j + 1)) W1)
      have hend : ∀ (i : Nat) v, (M.encIs (l.take (j + 1)))[i]? = some v → (M.over (M.encIs l) (j + 1) (List.replicate 1 (.int .i64 0)))[i]? = some v := by
        intro i v hv
        have hi' : i < j + 1 := by
          have := (List.getElem?_eq_some_iff.1 hv).1
          rw [M.encIs_len] at this
          simp at this
          omega
        rw [M.over_get _ _ _ _ (by rw [M.encIs_len]; simp; omega), if_pos hi']
        rw [M.encIs_take, List.getElem?_take, if_pos hi'] at hv
        exact hv
      have HEND := Lib.hid (hE.less hend)
      have HT := Lib.hid hT
      have hone : l.length - (j + 1) = 1 := by omega
      have hcne : ¬ c = j + 1 := by omega
      have hlow : (j : Int) + 1 ≤ (l.length : Int) := by omega
      have hlow2 : j + 1 ≤ l.length := by omega
      have hlow3 : j + 1 ≤ c := by omega
      clear hE hT hend hu E0 E1 hW1 hln hown HD HE
      generalize List.replicate 1 (Value.int .i64 0) = zs at *
      go_wp2_with fail
      go_loopw [3, 5] (fun v3 v5 wr => v3 = .int .i64 ((j : Int) + 1) ∧ v5 = .int .i64 1 ∧ wr = W1) (fun _ _ _ => 0)
      case atStart => exact ⟨rfl, rfl, rfl⟩
      case round =>
        obtain ⟨rfl, rfl, rfl⟩ := hrel
        go_wp2_with fail
        go_ret
        exact ⟨rfl, HEND.out, HT.out⟩
end C
end Go.Proofs.Ytoiapfdlbkncaaa
namespace Go.Proofs.Ytoiapfdlbkncaaa
open Go.RowKit
namespace M
theorem setsTo_get {m : Mz} {s : Int} {k i : Nat} (h : i < (setsTo m s k).length) : (setsTo m s k)[i]'h = it m s i := by
  have h' := h
  rw [setsTo_len] at h'
  have := setsTo_at (m := m) (s := s) h'
  rw [List.getElem?_eq_getElem h] at this
  exact Option.some.inj this
theorem sets_apart {m : Mz} (V : Valid m) {s : Int} (h : 0 ≤ s ∧ s < 64) : Apart (setsTo m s (lastK m s)) := by
  intro k hk
  rw [setsTo_get, setsTo_get]
  rw [setsTo_len] at hk
  exact (lastK_stop V h).2 k (by omega)
theorem sets_once {m : Mz} (V : Valid m) {s : Int} (h : 0 ≤ s ∧ s < 64) : Once (setsTo m s (lastK m s + 1)) := by
  intro k hk hk2
  rw [setsTo_get, setsTo_get]
  rw [setsTo_len] at hk2
  exact (lastK_stop V h).2 k (by omega)
theorem sets_same {m : Mz} (V : Valid m) {s : Int} (h : 0 ≤ s ∧ s < 64) : ∀ hk : lastK m s + 1 < (setsTo m s (lastK m s + 1)).length, (setsTo m s (lastK m s + 1))[lastK m s + 1] = (setsTo m s (lastK m s + 1))[lastK m s] := by
  intro hk
  rw [setsTo_get, setsTo_get]
  exact (lastK_stop V h).1
theorem sets_take (m : Mz) (s : Int) : (setsTo m s (lastK m s + 1)).take (lastK m s + 1) = setsTo m s (lastK m s) := by
  rw [setsTo_succ, List.take_append_of_le_length (by rw [setsTo_len]; omega), List.take_of_length_le (by rw [setsTo_len]; omega)]
theorem lastG_or (m : Mz) (s : Int) : lastG m s = lastK m s ∨ lastG m s = lastK m s + 1 := by
  unfold lastG
  split
  · exact .inl rfl
  · exact .inr rfl
end M
namespace C
set_option maxHeartbeats 3200000
set_option maxRecDepth 20000
theorem cell_one_new' (w : World) (o : Obj) (u : Value) (e : TypeId) : ∀ j v, ([u])[j]? = some v → ((w.alloc o).alloc (.cells #[u] e)).cell? ((⟨w.heap.size + 1, 0, none⟩ : Addr).add j) = some v := by
  have := cell_one_new (w.alloc o) u e
  rw [World.size_alloc] at this
  exact this
theorem implRounds_lw (w : World) (lo hi : Nat) (m : M.Mz) (a b : Option Addr) (c d : Nat) (h : MzIn lo hi w m a c b d) (hz : hi ≤ w.heap.size) (_h1 : m.doors.length ≤ 1048576) (_h2 : m.keys.length ≤ 1048576) (s : Int) (_s1 : -9223372036854775808 ≤ s) (_s2 : s ≤ 9223372036854775807) :
    Calls Try.prog 25 #[.agg #[.int .i64 m.size, .slice a m.doors.length c, .slice b m.keys.length d], .int .i64 s] w (IntsOkPost w (M.roundsV m s) (M.askB m s)) := by
  obtain ⟨ii0, hi0, hz0, hzz1, hz2⟩ := info_parts infoI
  have H := Lib.hid h
  clear h
  go_enter Try.func25, Try.ntmps25
  go_wp2_with fail
  refine named ?_
  intro W hW
  have hb : Below w.heap.size w W := by rw [hW]; exact below_alloc _ _
  have x1 : Box3 W w.heap.size 29 (.int .i64 m.size) (.slice a m.doors.length c) (.slice b m.keys.length d) := by rw [hW]; exact Box3.new _ _ _ _ rfl
  clear hW
  have hzw := hb.size
  refine (isMaze_any W lo hi m a b c d (H.out.below hb hz) (by omega)).mono ?_
  rintro e w1 ⟨rfl, hb1⟩
  have X1 := Lib.hid (x1.below hb1)
  have HB1 := Lib.hid (hb.trans (hb1.mono hzw))
  have hz1 := hb1.size
  have hbl := X1.out.lt
  clear hb hb1 x1
  obtain ⟨c0, c1, c2⟩ := X1.out.cells
  cases qm : M.mazeB m with
  | false =>
    have HF : Hid (M.askB m s = false) := Lib.hid (by unfold M.askB; rw [qm]; rfl)
    clear qm
    go_wp2_with fail
    go_ret2
    have HV : Hid (M.roundsV m s = []) := Lib.hid (M.ifAsk_no HF.out _ _)
    rw [HF.out, HV.out]
    exact intsOk_end (l := []) (ownsRow_empty _ _ _ _ (by omega)) (HB1.out.alloc (by omega) _)
  | true =>
    have HM := Lib.hid qm
    clear qm
    go_wp2_with fail
    refine (isSet_any _ _).mono ?_
    rintro e w2 ⟨rfl, rfl⟩
    cases qs : M.setB s with
    | false =>
      have HF : Hid (M.askB m s = false) := Lib.hid (by unfold M.askB; rw [qs, Bool.and_false])
      clear qs
      go_wp2_with fail
      go_ret2
      have HV : Hid (M.roundsV m s = []) := Lib.hid (M.ifAsk_no HF.out _ _)
      rw [HF.out, HV.out]
      exact intsOk_end (l := []) (ownsRow_empty _ _ _ _ (by omega)) (HB1.out.alloc (by omega) _)
    | true =>
      have q0 : M.askB m s = true := by unfold M.askB; rw [qs, HM.out]; rfl
      have HF := Lib.hid q0
      have HVA := Lib.hid (M.ask_yes q0).1
      obtain ⟨_, s0, s64⟩ := M.ask_yes q0
      have v1 := HVA.out.size1
      have v12 := HVA.out.size12
      clear q0 qs
      go_wp2_with fail
      have HV := Lib.hid (show M.roundsV m s = _ from M.ifAsk_yes HF.out _ _)
      have HAP := Lib.hid (M.sets_apart HVA.out ⟨s0, s64⟩)
      have HON := Lib.hid (M.sets_once HVA.out ⟨s0, s64⟩)
      have HSM := Lib.hid (M.sets_same HVA.out ⟨s0, s64⟩)
      refine named ?_
      intro W2 hW2
      have hb2 : Below w1.heap.size w1 W2 := by rw [hW2]; exact below_alloc _ _
      have o2 : W2.ownsRow w.heap.size 3 1 (.slice (some ⟨w1.heap.size, 0, none⟩) 0 0) 0 [] := by rw [hW2]; exact ownsRow_empty _ _ _ _ (by omega)
      have HB2 := Lib.hid (HB1.out.trans (hb2.mono (by omega)))
      have O2 := Lib.hid o2
      have hz2w := hb2.size
      clear hW2 hb2 o2 c0 c1 c2
      refine (gainsOf_any W2 lo hi m a b c d (H.out.below HB2.out hz) (by omega) HVA.out s s0 s64).mono ?_
      rintro e w4 ⟨ga, gc, rfl, ho, ho1, ho2, hb4⟩
      have hgl := M.gainsTo_len m s (M.lastG m s)
      rw [hgl] at ho1 ⊢
      have hg65 := M.lastG_le m s
      have HG := Lib.hid ho
      have HB4 := Lib.hid (HB2.out.trans (hb4.mono (by omega)))
      have O4 := Lib.hid (own_below O2.out hb4)
      have hz4 := hb4.size
      have HGO := Lib.hid (M.lastG_or m s)
      clear ho hb4 hgl
      generalize hG : M.lastG m s = G at *
      clear hG
      obtain ⟨R, hR⟩ : ∃ R : List Int, R = M.setsTo m s G := ⟨_, rfl⟩
      have hRl : R.length = G + 1 := by rw [hR, M.setsTo_len]
      have HRA := Lib.hid (show ∀ (k : Nat) (hk : k < R.length), R[k] = M.it m s k from fun k hk => by subst hR; exact M.setsTo_get hk)
      have HR := Lib.hid hR
      clear hR
      go_wp2_with fail
      go_loopw [6, 23] (fun v6 v23 wr => ∃ (k : Nat), k ≤ R.length ∧ v23 = .int .i64 k ∧ wr.ownsRow w.heap.size 3 1 v6 k (M.encIs (R.take k)) ∧ OwnAt W2.heap.size w4.heap.size wr 65 ga (M.encGs (M.gainsTo m s G)) ∧ Below w.heap.size w wr ∧ w4.heap.size ≤ wr.heap.size) (fun _ v23 _ => R.length - (intOf v23).toNat)
      case atStart => exact ⟨0, Nat.zero_le _, rfl, O4.out, HG.out, HB4.out, Nat.le_refl _⟩
      case round =>
        obtain ⟨k, hk, rfl, hso, hgo, hlow, hsz⟩ := hrel
        obtain ⟨la, lc, hv, hl1, hl2, _⟩ := own_slice hso
        subst hv
        have SO := Lib.hid hso
        have GO := Lib.hid hgo
        have LO := Lib.hid hlow
        have hzr := hlow.size
        clear hlow hgo hso
        by_cases hkl : k < R.length
        · have hkg : k < (M.gainsTo m s G).length := by rw [M.gainsTo_len]; omega
          obtain ⟨gb, goff, hga, hgb1, hgb2, hgcc⟩ := GO.out.row.at_ (k := k * 2) (by rw [M.encGs_len]; omega)
          have g0 := hgcc _ _ (M.encGs_at0 hkg)
          have g1 : wr.cell? ⟨gb, goff + k * 2 + 1, none⟩ = _ := hgcc _ _ (M.encGs_at1 hkg)
          rw [M.gainsTo_at] at g0 g1
          have e2 : (M.pairAt m s k).2 = R[k] := (HRA.out k hkl).symm
          rw [e2] at g1
          subst hga
          have htk : Hid (M.encIs (R.take (k + 1)) = M.encIs (R.take k) ++ [.int .i64 R[k]]) := Lib.hid (M.takeI_snoc hkl)
          generalize (M.pairAt m s k).1 = q1 at *
          clear e2 hgcc hkg
          generalize R[k] = u at *
          have hkG : (k : Int) < (G : Int) + 1 := by omega
          have nb := (Box2.new (w := wr) (g := wr.heap.size) 65 (.int .i64 q1) (.int .i64 u) rfl).cells
          obtain ⟨n0, n1⟩ := nb
          go_wp2_with (at_builtin; refine wpList_append_own _ rfl _ _ 23 rfl w.heap.size 3 ii0 (.int .i64 0) 1 8 Try.underlying23 hi0 hz0 hzz1 hz2 rfl (by decide) _ _ _ rfl ((SO.out.alloc _).alloc _) ⟨wr.heap.size + 1, 0, none⟩ 1 1 [.int .i64 u] rfl rfl (cell_one_new' _ _ _ _) (fun x hx => by simp at hx; subst hx; rfl) (by unfold maxLen; omega) (by omega) (by simp; omega) ?_; intro v' w3 hown' hgrow3 hnil3)
          go_roundw
          case rel =>
            refine ⟨k + 1, by omega, by go_num, ?_, ((GO.out.below (below_alloc _ _) hsz).below (below_alloc _ _) (by simp; omega)).grownOther ((SO.out.alloc _).alloc _) (by decide) hgrow3, ((LO.out.alloc (by omega) _).alloc (by simp; omega) _).grown hgrow3 (by simp; omega) (own_base SO.out), by have := hgrow3.size; simp at this; omega⟩
            rw [htk.out]
            exact hown'
          case measure => simp [intOf]; omega
        · obtain rfl : k = R.length := by omega
          have hkG : ¬ (R.length : Int) < (G : Int) + 1 := by omega
          have hfin := SO.out
          rw [List.take_of_length_le (Nat.le_refl _)] at hfin
          have hoa := OwnAt.of_own hfin
          rcases HGO.out with hg | hg
          · have CN := compact_no wr _ _ la lc R hoa.row (Nat.le_refl _) (by omega) (by have := HAP.out; rw [← hg, ← HR.out] at this; exact this)
            have HO := Lib.hid hoa
            have HE : Hid (R = M.setsTo m s (M.lastK m s)) := Lib.hid (by rw [HR.out, hg])
            clear hfin hoa hg
            rw [hRl] at CN
            go_wp2_with fail
            refine CN.mono ?_
            rintro e w5 ⟨rfl, hb5⟩
            have hz5 := hb5.size
            have HB5 := Lib.hid (LO.out.trans (hb5.mono hzr))
            have HO5 := Lib.hid (HO.out.below hb5 (Nat.le_refl _))
            clear hb5 CN
            go_wp2_with fail
            go_ret2
            rw [HF.out, HV.out, ← HE.out, ← hRl]
            exact ⟨_, _, rfl, HO5.out.mono (Nat.le_refl _) hz5, hl1, hl2, HB5.out⟩
          · obtain ⟨qb, qoff, hqa, _, _, _⟩ := hoa.row.at_ (k := 0) (by rw [M.encIs_len]; omega)
            subst hqa
            have CY := compact_yes wr _ _ qb qoff lc R (M.lastK m s) (by have := HON.out; rw [← hg, ← HR.out] at this; exact this) (by intro hx; have := HSM.out (by rw [M.setsTo_len]; omega); rw [HRA.out, HRA.out]; rw [M.setsTo_get, M.setsTo_get] at this; exact this) (by omega) hoa (Nat.le_refl _) (by omega) hl1 hl2
            have HE : Hid (R.take (M.lastK m s + 1) = M.setsTo m s (M.lastK m s)) := Lib.hid (by rw [HR.out, hg, M.sets_take])
            have hlk : Hid (M.lastK m s + 2 = R.length) := Lib.hid (by omega)
            clear hfin hoa hg
            rw [HE.out] at CY
            have hrl2 := hRl
            rw [hRl] at CY
            go_wp2_with fail
            refine CY.mono ?_
            rintro e w5 ⟨rfl, ho5, ht5⟩
            have hz5 := ht5.size
            have HB5 := Lib.hid (Below.thenTurned LO.out ht5 (Nat.le_refl _) hzr)
            have HO5 := Lib.hid ho5
            clear ho5 ht5 CY
            go_wp2_with fail
            go_ret2
            rw [HF.out, HV.out]
            have hsl := M.setsTo_len m s (M.lastK m s)
            exact ⟨_, _, by rw [hsl]; rfl, HO5.out.mono (Nat.le_refl _) hz5, by rw [hsl]; have := hlk.out; omega, hl2, HB5.out⟩
end C
end Go.Proofs.Ytoiapfdlbkncaaa
