/-
  CONTRACTS of spec.l1Put where the number is there already, and of spec.l7Near: the nodes that are near, in a new list; what lay in memory stays. Condition: a valid maze, a list that reads so.
  CONTRACT of spec.l7Left: the keys left of each colour, in a new list; what lay in memory stays. Condition: a valid maze, an opening.
  CONTRACT of spec.l7Next: the locks that can be opened next, in a new list; what lay in memory stays. Condition: a valid maze, an opening.
  CONTRACTS of spec.l7Opening, l7Ask and l7Wins: whether a list is an opening, whether it wins; what lay in memory stays. Condition: a valid maze with few locks (l7Ask: none).
  CONTRACTS of the model's IsOpening, NearNodes, KeysLeft, NextLocks and WinsBy; what lay in memory stays. No condition but that the arguments read so.
-/
import Derived.Test.YthgmkkkfhbjhoaaPutI
import Derived.Test.YthgmkkkfhbjhoaaLkS
import Derived.Deep.RegionWith
import Derived.Deep.DeepCutAuto
import Derived.Test.YthgmkkkfhbjhoaaVMath
import Derived.Test.YthgmkkkfhbjhoaaLate
import Derived.Test.YthgmkkkfhbjhoaaStep
import Derived.Deep.RegionHeld3
import Derived.OwnWalk
import Derived.Maps.AppendAt
import Derived.IntWalk
namespace Go.Proofs.Ythgmkkkfhbjhoaa
open Go.RowKit
namespace M
def sizeOfV : Value → Nat
  | .slice _ n _ => n
  | _ => 0
def flagOf : Value → Nat
  | .bool true => 1
  | _ => 0
theorem put_one {l : List Int} {b : Int} (ha : Asc ltI l) (hb : b ∉ l) : (put ltI l b).length = l.length + 1 := by
  have h1 : (put ltI l b).Nodup := asc_nodup (ha.put ordI b)
  have h2 := nodup_sub (b :: l) (put ltI l b) (List.nodup_cons.2 ⟨hb, asc_nodup ha⟩) fun x hx => mem_put.2 ((List.mem_cons.1 hx).elim .inr .inl)
  have h3 := nodup_sub (put ltI l b) (b :: l) h1 fun x hx => (mem_put.1 hx).elim (List.mem_cons_of_mem _) fun h => by rw [h]; exact List.mem_cons_self ..
  rw [List.length_cons] at h2 h3
  omega
/-- what the model's list is, on the way -/
structure NearS (m : Mz) (o : Op) (out : List Int) : Prop where
  asc : Asc ltI out
  reach : ∀ z ∈ out, Rch (oDoors m o) opZ 0 z
  zero : (0 : Int) ∈ out
theorem NearS.start (m : Mz) (o : Op) : NearS m o [0] := ⟨by unfold Asc; simp, fun z hz => by rw [List.mem_singleton] at hz; subst hz; exact .refl, by simp⟩
theorem NearS.len {m : Mz} (V : Valid m) {o : Op} {out : List Int} (h : NearS m o out) : out.length ≤ 12 := nodup_len (asc_nodup h.asc) fun z hz => by
  have := near_rng V (h.reach z hz)
  have := V.size12
  omega
theorem NearS.put_ {m : Mz} {o : Op} {out : List Int} (h : NearS m o out) {k : Nat} (hk : k < m.doors.length) (ho : o k = true) {x : Int} (hx : x = m.doors[k].1 ∨ x = m.doors[k].2.1) (hm : m.doors[k].1 ∈ out ∨ m.doors[k].2.1 ∈ out) : NearS m o (put ltI out x) := by
  have hb := near_both (m := m) hk ho (hm.elim (fun h' => .inl (h.reach _ h')) fun h' => .inr (h.reach _ h'))
  refine ⟨h.asc.put ordI x, fun z hz => ?_, mem_put.2 (.inl h.zero)⟩
  rcases mem_put.1 hz with hz | rfl
  · exact h.reach z hz
  · rcases hx with rfl | rfl
    · exact hb.1
    · exact hb.2
/-- the first doors lead nowhere more -/
def DoneS (m : Mz) (o : Op) (out : List Int) (k : Nat) : Prop := ∀ j (h : j < m.doors.length), j < k → o j = true → (m.doors[j].1 ∈ out ↔ m.doors[j].2.1 ∈ out)
theorem DoneS.step {m : Mz} {o : Op} {out : List Int} {k : Nat} (h : DoneS m o out k) (hk : ∀ (h : k < m.doors.length), o k = true → (m.doors[k].1 ∈ out ↔ m.doors[k].2.1 ∈ out)) : DoneS m o out (k + 1) := fun j hj hjk ho => by
  rcases Nat.lt_or_ge j k with h' | h'
  · exact h j hj h' ho
  · obtain rfl : j = k := by omega
    exact hk hj ho
theorem NearS.end_ {m : Mz} (V : Valid m) {o : Op} {out : List Int} (h : NearS m o out) (hd : DoneS m o out m.doors.length) : out = nearL m o := near_list V h.asc h.reach h.zero fun k hk ho => hd k hk hk ho
theorem beh_open {m : Mz} {l : List Int} {k : Nat} (hk : k < m.doors.length) : behO m l k = (decide (m.doors[k].2.2 = 0) || memB l (k : Int)) := by
  rw [behO_at]
  unfold o0 memB
  rw [decide_eq_true hk, Bool.true_and, need_at hk]
  congr 1
end M
namespace C
set_option maxHeartbeats 3200000
set_option maxRecDepth 20000
theorem l1PutIn_any (w : World) (lo hi : Nat) (b off c : Nat) (l : List Int) (n : Int) (h : RowIn lo hi w (some ⟨b, off, none⟩) (M.encIs l)) (ha : M.Asc M.ltI l) (hnm : n ∈ l) (hc1 : l.length ≤ c) (hc2 : c ≤ 9223372036854775807) :
    Calls Try.prog 92 #[.slice (some ⟨b, off, none⟩) l.length c, .int .i64 n] w fun e w' => e = .returned (.slice (some ⟨b, off, none⟩) l.length c) ∧ w = w' := by
  have H := Lib.hid h
  have HNM := Lib.hid hnm
  have HAS := Lib.hid ha
  clear h hnm ha
  go_enter Try.func92, Try.ntmps92
  go_wp2_with fail
  go_loop [5] (fun i => ∃ (k : Nat), k ≤ l.length ∧ i = .int .i64 k ∧ (∀ j (hj : j < l.length), j < k → l[j] < n)) (fun i => l.length - (intOf i).toNat)
  case atStart => exact ⟨0, Nat.zero_le _, rfl, fun j _ h => by omega⟩
  case round =>
    obtain ⟨k, hk, rfl, hall⟩ := hrel
    have HA := Lib.hid hall
    clear hall
    by_cases hlt : k < l.length
    · obtain ⟨b', off', e, _, _, hcc⟩ := H.out.at_ (k := k) (by rw [M.encIs_len]; exact hlt)
      injection e with e
      injection e with e1 e2 _
      subst e1; subst e2
      have p0 := hcc _ _ (M.encIs_at hlt)
      clear hcc
      by_cases hlk : l[k] < n
      · have HK := Lib.hid hlk
        go_wp2_with fail
        go_round
        case rel => exact ⟨k + 1, by omega, by go_num, fun j hj hjk => by
          rcases Nat.lt_or_ge j k with h | h
          · exact HA.out j hj h
          · obtain rfl : j = k := by omega
            exact HK.out⟩
        case measure => simp [intOf]; omega
      · have heq : l[k] = n := by
          obtain ⟨j, hj, he⟩ := List.mem_iff_getElem.1 HNM.out
          rcases Nat.lt_trichotomy j k with h | h | h
          · have := HA.out j hj h; omega
          · subst h; exact he
          · have := List.pairwise_iff_getElem.1 HAS.out k j hlt hj h
            unfold M.ltI at this
            rw [decide_eq_true_iff] at this
            omega
        have hlb : (l[k] == n) = true := by simpa using heq
        have hng : ¬ l[k] < n := hlk
        clear heq
        go_wp2_with fail
        go_ret
        exact ⟨rfl, rfl⟩
    · exfalso
      obtain ⟨j, hj, he⟩ := List.mem_iff_getElem.1 HNM.out
      have := HA.out j hj (by omega)
      omega
theorem near7_any (w : World) (lo hi : Nat) (m : M.Mz) (a b : Option Addr) (c d : Nat) (h : MzIn lo hi w m a c b d) (hz : hi ≤ w.heap.size) (V : M.Valid m) (lo' hi' : Nat) (wa : Option Addr) (wc : Nat) (walk : List Int) (hw : RowIn lo' hi' w wa (M.encIs walk)) (hz' : hi' ≤ w.heap.size) (hl : walk.length ≤ 1048576) :
    Calls Try.prog 62 #[.agg #[.int .i64 m.size, .slice a m.doors.length c, .slice b m.keys.length d], .slice wa walk.length wc] w (IntsPost w (M.nearL m (M.behO m walk))) := by
  have H := Lib.hid h
  have HW := Lib.hid hw
  have v30 := V.few
  have HV := Lib.hid V
  clear h V hw
  go_enter Try.func62, Try.ntmps62
  go_wp2_with fail
  refine wp_named ?_
  intro W hW
  have X1 := Lib.hid (show Box3 W w.heap.size 29 (.int .i64 m.size) (.slice a m.doors.length c) (.slice b m.keys.length d) by rw [hW]; exact (Box3.new _ _ _ _ rfl).alloc _)
  have HB := Lib.hid (show Below w.heap.size w W by rw [hW]; exact (below_alloc _ _).alloc (by simp) _)
  have O1 : Hid (OwnAt w.heap.size W.heap.size W 3 (some ⟨w.heap.size + 1, 0, none⟩) (M.encIs [0])) := Lib.hid (by
    rw [hW]
    refine .inr ⟨w.heap.size + 1, 0, #[.int .i64 0], rfl, by omega, by simp, ?_, fun i u hu => ?_⟩
    · have := heap_alloc_new (w.alloc (.cells #[.int .i64 m.size, .slice a m.doors.length c, .slice b m.keys.length d] 29)) (.cells #[.int .i64 0] 3)
      simpa using this
    · simpa [M.encIs] using hu)
  clear hW
  have hzw := HB.out.size
  go_loopw [5, 6, 7, 8, 9] (fun v bb _ _ _ wr => ∃ (out : List Int) (g off co : Nat) (fl : Bool), v = .slice (some ⟨g, off, none⟩) out.length co ∧ bb = .bool fl ∧ M.NearS m (M.behO m walk) out ∧ (fl = false → M.DoneS m (M.behO m walk) out m.doors.length) ∧ out.length ≤ co ∧ co ≤ 9223372036854775807 ∧ OwnAt w.heap.size wr.heap.size wr 3 (some ⟨g, off, none⟩) (M.encIs out) ∧ Below W.heap.size W wr) (fun v bb _ _ _ _ => 2 * (12 - M.sizeOfV v) + M.flagOf bb)
  case atStart => exact ⟨[0], _, 0, 1, true, rfl, rfl, M.NearS.start _ _, fun h => (by cases h), Nat.le_refl _, by omega, O1.out, Below.refl _ _⟩
  case round =>
    obtain ⟨out, g, off, co, fl, rfl, rfl, hns, hdn, hc1, hc2, hown, hb⟩ := hrel
    have HNS := Lib.hid hns
    have HDN := Lib.hid hdn
    have HO := Lib.hid hown
    have HB1 := Lib.hid hb
    have hzr := hb.size
    have hl12 := hns.len HV.out
    clear hns hdn hown hb
    cases fl with
    | false =>
      have HE := Lib.hid (HNS.out.end_ HV.out (HDN.out rfl))
      have HBE := Lib.hid (HB.out.trans (HB1.out.mono hzw))
      go_wp2_with fail
      go_ret
      exact ⟨_, co, by rw [← HE.out]; rfl, by rw [← HE.out]; exact HO.out, by rw [← HE.out]; exact hc1, hc2, HBE.out⟩
    | true =>
      obtain ⟨wo, hwo⟩ : ∃ x, x = wr := ⟨_, rfl⟩
      subst hwo
      clear HDN
      obtain ⟨n0, hn0⟩ : ∃ n0, n0 = out.length := ⟨_, rfl⟩
      have HN0 := Lib.hid hn0
      go_wp2_with fail
      go_loopw [5, 6, 7, 8, 9] (fun v bb i _ _ wr => ∃ (k : Nat) (out : List Int) (g off co : Nat) (fl : Bool), k ≤ m.doors.length ∧ i = .int .i64 (k : Int) ∧ v = .slice (some ⟨g, off, none⟩) out.length co ∧ bb = .bool fl ∧ M.NearS m (M.behO m walk) out ∧ (fl = false → M.DoneS m (M.behO m walk) out k ∧ out.length = n0) ∧ (fl = true → n0 < out.length) ∧ out.length ≤ co ∧ co ≤ 9223372036854775807 ∧ OwnAt w.heap.size wr.heap.size wr 3 (some ⟨g, off, none⟩) (M.encIs out) ∧ Below W.heap.size W wr) (fun _ _ i _ _ _ => m.doors.length - (intOf i).toNat)
      case atStart => exact ⟨0, out, g, off, co, false, Nat.zero_le _, rfl, rfl, rfl, HNS.out, fun _ => ⟨fun j _ h => by omega, HN0.out.symm⟩, fun h => (by cases h), hc1, hc2, HO.out, HB1.out⟩
      case round =>
        obtain ⟨k, out, g, off, co, fl, hk, rfl, rfl, rfl, hns, hdn, hgr, hc1, hc2, hown, hb⟩ := hrel
        have HNS := Lib.hid hns
        have HDN := Lib.hid hdn
        have HGR := Lib.hid hgr
        have HO := Lib.hid hown
        have HB1 := Lib.hid hb
        have hzr := hb.size
        have hl12 := hns.len HV.out
        have HX := Lib.hid (X1.out.below hb)
        have HBW := Lib.hid (HB.out.trans (hb.mono hzw))
        have hxl := HX.out.lt
        clear hns hdn hown hb hgr
        obtain ⟨c0, c1', c2'⟩ := HX.out.cells
        by_cases hkl : k < m.doors.length
        · have hrow := H.out.doors.below HBW.out hz
          obtain ⟨db, doff, rfl, _, hdb, hc0⟩ := hrow.at_ (k := k * 3) (by rw [M.encDs_len]; omega)
          have a0 := hc0 _ _ (M.encDs_at0 hkl)
          have a1 : wr.cell? ⟨db, doff + k * 3 + 1, none⟩ = some (.int .i64 m.doors[k].2.1) := hc0 _ _ (M.encDs_at1 hkl)
          have a2 : wr.cell? ⟨db, doff + k * 3 + 2, none⟩ = some (.int .i64 m.doors[k].2.2) := hc0 _ _ (M.encDs_at2 hkl)
          clear hc0 hrow
          go_upto_region 8 with fail
          obtain ⟨d1, d2, d3, d4, d5, d6, d7⟩ := HV.out.door k hkl
          have hdbw : db < wr.heap.size := by omega
          have E0 := cell_grown (a := ⟨db, doff + k * 3, none⟩) hdbw a0
          have E1 := cell_grown (a := ⟨db, doff + k * 3 + 1, none⟩) hdbw a1
          have F0 := cell_grown (a := ⟨w.heap.size, 0, none⟩) hxl c0
          have F1 := cell_grown (a := ⟨w.heap.size, 1, none⟩) hxl c1'
          have A2 := Lib.hid a2
          have mixed : Try.prog.follows .mixedOrders = true := by kernel_rfl
          clear a0 a1 a2 c0 c1' c2'
          refine wp_region_quiet_grown (by assumption) (by kernel_rfl) ?_
          repeat (first | go_big_quiet_step (fail) | quiet_step (fail))
          refine wpQuiet_nil ?_
          intro _ hw'
          obtain ⟨⟨nq, osq⟩, hw''⟩ := hw'
          subst hw''
          go_upto_region 9 with fail
          refine wp_named ?_
          intro W3 hW3
          have hb3 : Below wr.heap.size wr W3 := by rw [hW3]; exact below_grown wr _ _
          clear hW3 E0 E1 F0 F1
          have HB3 := Lib.hid (HB1.out.trans (hb3.mono hzr))
          have HO3 := Lib.hid (HO.out.below hb3 (Nat.le_refl _) |>.mono (Nat.le_refl _) hb3.size)
          have HW3 := Lib.hid (HW.out.below (HBW.out.trans (hb3.mono HBW.out.size)) hz')
          have hz3 := hb3.size
          obtain ⟨c0, c1', c2'⟩ := (HX.out.below hb3).cells
          have a2 := (hb3.cell (p := ⟨db, doff + k * 3 + 2, none⟩) hdbw).trans A2.out
          have HOP := Lib.hid (M.beh_open (m := m) (l := walk) hkl)
          clear hb3
          have HNXT : ∀ (out : List Int) (fl : Bool), True := fun _ _ => trivial
          clear HNXT
          cases q1 : M.behO m walk k with
          | false =>
            have hop := HOP.out
            rw [q1] at hop
            have hop2 := Bool.or_eq_false_iff.1 hop.symm
            have hn0 : (m.doors[k].2.2 != 0) = true := by simpa using hop2.1
            have hm0 := hop2.2
            have HDS := Lib.hid (fun h => (HDN.out h).1.step (fun _ ho => by rw [q1] at ho; cases ho))
            clear hop hop2 q1
            go_wp2_with fail
            refine (l1Has_any W3 _ _ _ wc walk (k : Int) HW3.out hl).mono ?_
            rw [hm0]
            rintro e w5 ⟨rfl, rfl⟩
            go_wp2_with fail
            go_roundw
            case rel => exact ⟨k + 1, out, g, off, co, fl, by omega, by go_num, rfl, rfl, HNS.out, fun h => ⟨HDS.out h, (HDN.out h).2⟩, HGR.out, hc1, hc2, HO3.out, HB3.out⟩
            case measure => simp [intOf]; omega
          | true =>
            have HQO := Lib.hid q1
            have hop := HOP.out
            rw [q1] at hop
            clear q1
            rcases Decidable.em (m.doors[k].2.2 = 0) with hq0 | hq0
            · have hn0 : (m.doors[k].2.2 != 0) = false := by simpa using hq0
              clear hop hq0
              go_wp2_with fail
              refine (l1Has_any W3 _ _ _ co out m.doors[k].1 HO3.out.row (by omega)).mono ?_
              rintro e w5 ⟨rfl, rfl⟩
              go_wp2_with fail
              refine (l1Has_any W3 _ _ _ co out m.doors[k].2.1 HO3.out.row (by omega)).mono ?_
              rintro e w5 ⟨rfl, rfl⟩
              cases qa : M.memB out m.doors[k].1 with
              | false =>
                have HQA := Lib.hid (M.memB_false qa)
                cases qb : M.memB out m.doors[k].2.1 with
                | false =>
                  have HQB := Lib.hid (M.memB_false qb)
                  clear qa qb
                  go_wp2_with fail
                  go_roundw
                  case rel => exact ⟨k + 1, out, g, off, co, fl, by omega, by go_num, rfl, rfl, HNS.out, fun h => ⟨(HDN.out h).1.step (fun _ _ => ⟨fun h => absurd h HQA.out, fun h => absurd h HQB.out⟩), (HDN.out h).2⟩, HGR.out, hc1, hc2, HO3.out, HB3.out⟩
                  case measure => simp [intOf]; omega
                | true =>
                  have HQB := Lib.hid (M.memB_true qb)
                  have HNP := Lib.hid (HNS.out.put_ hkl HQO.out (.inl rfl) (.inr HQB.out))
                  have HLN := Lib.hid (M.put_one HNS.out.asc HQA.out)
                  have HBM := Lib.hid ((M.mem_put (lt := M.ltI) (l := out) (d := m.doors[k].1) (x := m.doors[k].2.1)).2 (.inl HQB.out))
                  have hone : out ≠ [] := fun e => by have := HNS.out.zero; rw [e] at this; cases this
                  clear qa qb
                  go_wp2_with fail
                  refine (l1Put_any W3 _ _ g off co out m.doors[k].1 HO3.out.row hone HQA.out (Nat.le_refl _) (by omega) hc1 hc2).mono ?_
                  rintro e w6 ⟨pa, pc, rfl, hp, hp1, hp2, hb6⟩
                  have hpl : 0 < (M.put M.ltI out m.doors[k].1).length := by have := HLN.out; omega
                  obtain ⟨pg, poff, hpa, _, _, _⟩ := hp.row.at_ (k := 0) (by rw [M.encIs_len]; exact hpl)
                  subst hpa
                  have HPR := Lib.hid hp
                  have HB6 := Lib.hid (HB3.out.trans (hb6.mono (by omega)))
                  have hz6 := hb6.size
                  have hln := HLN.out
                  have HLL := Lib.hid hln
                  clear hp hb6 hone c0 c1' c2' a2 hln
                  generalize M.put M.ltI out m.doors[k].1 = out2 at *
                  go_wp2_with fail
                  refine (l1PutIn_any w6 _ _ pg poff pc out2 m.doors[k].2.1 HPR.out.row HNP.out.asc HBM.out hp1 hp2).mono ?_
                  rintro e w7 ⟨rfl, rfl⟩
                  go_wp2_with fail
                  go_roundw
                  case rel => exact ⟨k + 1, out2, pg, poff, pc, true, by omega, by go_num, rfl, rfl, HNP.out, fun h => (by cases h), fun _ => (by have := HLL.out; cases fl with
                    | false => have := (HDN.out rfl).2; omega
                    | true => have := HGR.out rfl; omega), hp1, hp2, HPR.out.mono (by omega) (Nat.le_refl _), HB6.out⟩
                  case measure => simp [intOf]; omega
              | true =>
                have HQA := Lib.hid (M.memB_true qa)
                cases qb : M.memB out m.doors[k].2.1 with
                | true =>
                  have HQB := Lib.hid (M.memB_true qb)
                  clear qa qb
                  go_wp2_with fail
                  go_roundw
                  case rel => exact ⟨k + 1, out, g, off, co, fl, by omega, by go_num, rfl, rfl, HNS.out, fun h => ⟨(HDN.out h).1.step (fun _ _ => ⟨fun _ => HQB.out, fun _ => HQA.out⟩), (HDN.out h).2⟩, HGR.out, hc1, hc2, HO3.out, HB3.out⟩
                  case measure => simp [intOf]; omega
                | false =>
                  have HQB := Lib.hid (M.memB_false qb)
                  have HNP := Lib.hid (HNS.out.put_ hkl HQO.out (.inr rfl) (.inl HQA.out))
                  have HLN := Lib.hid (M.put_one HNS.out.asc HQB.out)
                  have hone : out ≠ [] := fun e => by have := HNS.out.zero; rw [e] at this; cases this
                  clear qa qb
                  go_wp2_with fail
                  refine (l1PutIn_any W3 _ _ g off co out m.doors[k].1 HO3.out.row HNS.out.asc HQA.out hc1 hc2).mono ?_
                  rintro e w5 ⟨rfl, rfl⟩
                  go_wp2_with fail
                  refine (l1Put_any W3 _ _ g off co out m.doors[k].2.1 HO3.out.row hone HQB.out (Nat.le_refl _) (by omega) hc1 hc2).mono ?_
                  rintro e w6 ⟨pa, pc, rfl, hp, hp1, hp2, hb6⟩
                  have hpl : 0 < (M.put M.ltI out m.doors[k].2.1).length := by have := HLN.out; omega
                  obtain ⟨pg, poff, hpa, _, _, _⟩ := hp.row.at_ (k := 0) (by rw [M.encIs_len]; exact hpl)
                  subst hpa
                  have HPR := Lib.hid hp
                  have HB6 := Lib.hid (HB3.out.trans (hb6.mono (by omega)))
                  have hz6 := hb6.size
                  have hln := HLN.out
                  have HLL := Lib.hid hln
                  clear hp hb6 hone c0 c1' c2' a2 hln
                  generalize M.put M.ltI out m.doors[k].2.1 = out2 at *
                  go_wp2_with fail
                  go_roundw
                  case rel => exact ⟨k + 1, out2, pg, poff, pc, true, by omega, by go_num, rfl, rfl, HNP.out, fun h => (by cases h), fun _ => (by have := HLL.out; cases fl with
                    | false => have := (HDN.out rfl).2; omega
                    | true => have := HGR.out rfl; omega), hp1, hp2, HPR.out.mono (by omega) (Nat.le_refl _), HB6.out⟩
                  case measure => simp [intOf]; omega
            · have hn0 : (m.doors[k].2.2 != 0) = true := by simpa using hq0
              rw [decide_eq_false hq0, Bool.false_or] at hop
              have hm0 := hop.symm
              clear hop hq0
              go_wp2_with fail
              refine (l1Has_any W3 _ _ _ wc walk (k : Int) HW3.out hl).mono ?_
              rw [hm0]
              rintro e w5 ⟨rfl, rfl⟩
              go_wp2_with fail
              refine (l1Has_any W3 _ _ _ co out m.doors[k].1 HO3.out.row (by omega)).mono ?_
              rintro e w5 ⟨rfl, rfl⟩
              go_wp2_with fail
              refine (l1Has_any W3 _ _ _ co out m.doors[k].2.1 HO3.out.row (by omega)).mono ?_
              rintro e w5 ⟨rfl, rfl⟩
              cases qa : M.memB out m.doors[k].1 with
              | false =>
                have HQA := Lib.hid (M.memB_false qa)
                cases qb : M.memB out m.doors[k].2.1 with
                | false =>
                  have HQB := Lib.hid (M.memB_false qb)
                  clear qa qb
                  go_wp2_with fail
                  go_roundw
                  case rel => exact ⟨k + 1, out, g, off, co, fl, by omega, by go_num, rfl, rfl, HNS.out, fun h => ⟨(HDN.out h).1.step (fun _ _ => ⟨fun h => absurd h HQA.out, fun h => absurd h HQB.out⟩), (HDN.out h).2⟩, HGR.out, hc1, hc2, HO3.out, HB3.out⟩
                  case measure => simp [intOf]; omega
                | true =>
                  have HQB := Lib.hid (M.memB_true qb)
                  have HNP := Lib.hid (HNS.out.put_ hkl HQO.out (.inl rfl) (.inr HQB.out))
                  have HLN := Lib.hid (M.put_one HNS.out.asc HQA.out)
                  have HBM := Lib.hid ((M.mem_put (lt := M.ltI) (l := out) (d := m.doors[k].1) (x := m.doors[k].2.1)).2 (.inl HQB.out))
                  have hone : out ≠ [] := fun e => by have := HNS.out.zero; rw [e] at this; cases this
                  clear qa qb
                  go_wp2_with fail
                  refine (l1Put_any W3 _ _ g off co out m.doors[k].1 HO3.out.row hone HQA.out (Nat.le_refl _) (by omega) hc1 hc2).mono ?_
                  rintro e w6 ⟨pa, pc, rfl, hp, hp1, hp2, hb6⟩
                  have hpl : 0 < (M.put M.ltI out m.doors[k].1).length := by have := HLN.out; omega
                  obtain ⟨pg, poff, hpa, _, _, _⟩ := hp.row.at_ (k := 0) (by rw [M.encIs_len]; exact hpl)
                  subst hpa
                  have HPR := Lib.hid hp
                  have HB6 := Lib.hid (HB3.out.trans (hb6.mono (by omega)))
                  have hz6 := hb6.size
                  have hln := HLN.out
                  have HLL := Lib.hid hln
                  clear hp hb6 hone c0 c1' c2' a2 hln
                  generalize M.put M.ltI out m.doors[k].1 = out2 at *
                  go_wp2_with fail
                  refine (l1PutIn_any w6 _ _ pg poff pc out2 m.doors[k].2.1 HPR.out.row HNP.out.asc HBM.out hp1 hp2).mono ?_
                  rintro e w7 ⟨rfl, rfl⟩
                  go_wp2_with fail
                  go_roundw
                  case rel => exact ⟨k + 1, out2, pg, poff, pc, true, by omega, by go_num, rfl, rfl, HNP.out, fun h => (by cases h), fun _ => (by have := HLL.out; cases fl with
                    | false => have := (HDN.out rfl).2; omega
                    | true => have := HGR.out rfl; omega), hp1, hp2, HPR.out.mono (by omega) (Nat.le_refl _), HB6.out⟩
                  case measure => simp [intOf]; omega
              | true =>
                have HQA := Lib.hid (M.memB_true qa)
                cases qb : M.memB out m.doors[k].2.1 with
                | true =>
                  have HQB := Lib.hid (M.memB_true qb)
                  clear qa qb
                  go_wp2_with fail
                  go_roundw
                  case rel => exact ⟨k + 1, out, g, off, co, fl, by omega, by go_num, rfl, rfl, HNS.out, fun h => ⟨(HDN.out h).1.step (fun _ _ => ⟨fun _ => HQB.out, fun _ => HQA.out⟩), (HDN.out h).2⟩, HGR.out, hc1, hc2, HO3.out, HB3.out⟩
                  case measure => simp [intOf]; omega
                | false =>
                  have HQB := Lib.hid (M.memB_false qb)
                  have HNP := Lib.hid (HNS.out.put_ hkl HQO.out (.inr rfl) (.inl HQA.out))
                  have HLN := Lib.hid (M.put_one HNS.out.asc HQB.out)
                  have hone : out ≠ [] := fun e => by have := HNS.out.zero; rw [e] at this; cases this
                  clear qa qb
                  go_wp2_with fail
                  refine (l1PutIn_any W3 _ _ g off co out m.doors[k].1 HO3.out.row HNS.out.asc HQA.out hc1 hc2).mono ?_
                  rintro e w5 ⟨rfl, rfl⟩
                  go_wp2_with fail
                  refine (l1Put_any W3 _ _ g off co out m.doors[k].2.1 HO3.out.row hone HQB.out (Nat.le_refl _) (by omega) hc1 hc2).mono ?_
                  rintro e w6 ⟨pa, pc, rfl, hp, hp1, hp2, hb6⟩
                  have hpl : 0 < (M.put M.ltI out m.doors[k].2.1).length := by have := HLN.out; omega
                  obtain ⟨pg, poff, hpa, _, _, _⟩ := hp.row.at_ (k := 0) (by rw [M.encIs_len]; exact hpl)
                  subst hpa
                  have HPR := Lib.hid hp
                  have HB6 := Lib.hid (HB3.out.trans (hb6.mono (by omega)))
                  have hz6 := hb6.size
                  have hln := HLN.out
                  have HLL := Lib.hid hln
                  clear hp hb6 hone c0 c1' c2' a2 hln
                  generalize M.put M.ltI out m.doors[k].2.1 = out2 at *
                  go_wp2_with fail
                  go_roundw
                  case rel => exact ⟨k + 1, out2, pg, poff, pc, true, by omega, by go_num, rfl, rfl, HNP.out, fun h => (by cases h), fun _ => (by have := HLL.out; cases fl with
                    | false => have := (HDN.out rfl).2; omega
                    | true => have := HGR.out rfl; omega), hp1, hp2, HPR.out.mono (by omega) (Nat.le_refl _), HB6.out⟩
                  case measure => simp [intOf]; omega
        · obtain rfl : k = m.doors.length := by omega
          go_wp2_with fail
          go_roundw
          case rel => exact ⟨out, g, off, co, fl, rfl, rfl, HNS.out, fun h => (HDN.out h).1, hc1, hc2, HO.out, HB1.out⟩
          case measure =>
            cases fl with
            | false => have := (HDN.out rfl).2; have := HN0.out; simp [M.sizeOfV, M.flagOf]; omega
            | true => have := HGR.out rfl; have := HN0.out; simp [M.sizeOfV, M.flagOf]; omega
end C
end Go.Proofs.Ythgmkkkfhbjhoaa
namespace Go.Proofs.Ythgmkkkfhbjhoaa
open Go.RowKit
namespace C
set_option maxHeartbeats 3200000
set_option maxRecDepth 20000
theorem make_run7 {i : TypeInfo} (hi : Try.prog.info? 3 = some i) (hz : i.zero = some (.int .i64 0)) (hs : i.size = 1) (hb : i.bytes = 8) : ∃ zs : Array Value, zs.size = 6 ∧ zs.toList = M.encIs (M.vecL fun _ => 0) ∧ ∀ w : World,
    (Instr.makeSlice 23 (.int .i64 6) (.int .i64 6)).run Try.prog w = .ok (.slice (some ⟨w.heap.size, 0, none⟩) 6 6) (w.alloc (.cells zs 3)) := by
  have hsz : (madeCells (Value.int .i64 0).cells (6 * 1)).size = 6 := by rw [size_madeCells]
  refine ⟨madeCells (Value.int .i64 0).cells (6 * 1), hsz, ?_, fun w => ?_⟩
  · refine List.ext_getElem? fun k => ?_
    rcases Nat.lt_or_ge k 6 with h | h
    · rw [M.vecL_at _ h]
      unfold madeCells
      simp [h, Value.cells, Nat.mod_one]
    · rw [List.getElem?_eq_none (by rw [Array.length_toList, hsz]; exact h), List.getElem?_eq_none (by rw [M.encIs_len, M.vecL_len]; exact h)]
  · have := run_make (P := Try.prog) w 23 3 i (.int .i64 0) Try.underlying23 hi hz .i64 .i64 6 6 (by omega) (Int.le_refl _) (by rw [hb]; omega) (by omega)
    rw [show Int.toNat 6 = 6 from rfl, hs] at this
    exact this
theorem own_made7 {w : World} {B : Nat} {zs : Array Value} (hs : zs.size = 6) (hB : B ≤ w.heap.size) : (w.alloc (.cells zs 3)).ownsRow B 3 1 (.slice (some ⟨w.heap.size, 0, none⟩) 6 6) 6 zs.toList :=
  ⟨by simp [hs], .inr ⟨w.heap.size, 6, zs, rfl, hB, heap_alloc_new w _, Nat.le_refl _, by unfold maxLen; omega, by simp [hs], by rw [List.take_of_length_le (by simp [hs])]⟩⟩
theorem own_weak8 {w : World} {B B' : Nat} {e : TypeId} {size n : Nat} {v : Value} {xs : List Value} (h : w.ownsRow B e size v n xs) (hB : B' ≤ B) : w.ownsRow B' e size v n xs := by
  refine ⟨h.1, ?_⟩
  rcases h.2 with h' | ⟨g, cap, cur, hv, hb, r⟩
  · exact .inl h'
  · exact .inr ⟨g, cap, cur, hv, by omega, r⟩
theorem left7_any (w : World) (lo hi : Nat) (m : M.Mz) (a b : Option Addr) (c d : Nat) (h : MzIn lo hi w m a c b d) (hz : hi ≤ w.heap.size) (V : M.Valid m) (lo' hi' : Nat) (wa : Option Addr) (wc : Nat) (walk : List Int) (hw : RowIn lo' hi' w wa (M.encIs walk)) (hz' : hi' ≤ w.heap.size) (hl : walk.length ≤ 30) (hio : M.isO m walk = true) :
    Calls Try.prog 65 #[.agg #[.int .i64 m.size, .slice a m.doors.length c, .slice b m.keys.length d], .slice wa walk.length wc] w (IntsPost w (M.leftL m (M.behO m walk))) := by
  obtain ⟨ii0, hi0, hz0, hzz1, hz2⟩ := info_parts infoI
  have H := Lib.hid h
  have HW := Lib.hid hw
  have v30 := V.few
  have v12 := V.size12
  have HV := Lib.hid V
  have HLW := Lib.hid (M.left_walk V hio)
  have HOP := Lib.hid (M.isO_opn V _ walk rfl hio)
  have hnl := M.nearL_len m (M.behO m walk)
  have HNR := Lib.hid (fun (z : Int) hz => M.nearL_rng V (o := M.behO m walk) (y := z) hz)
  have HRES : Hid (M.leftL m (M.behO m walk) = M.vecL (M.leftC m (M.behO m walk))) := Lib.hid rfl
  have HN7 := Lib.hid (fun W' (hq : Below w.heap.size w W') => near7_any W' lo hi m a b c d (h.below hq hz) (by have := hq.size; omega) V lo' hi' wa wc walk (hw.below hq hz') (by have := hq.size; omega) (by omega))
  clear h V hw hio
  generalize M.leftC m (M.behO m walk) = F at *
  generalize M.nearL m (M.behO m walk) = L at *
  go_enter Try.func65, Try.ntmps65
  go_upto_region 1 with fail
  refine wp_named ?_
  intro W hW
  have X1 := Lib.hid (show Box3 W w.heap.size 29 (.int .i64 m.size) (.slice a m.doors.length c) (.slice b m.keys.length d) by rw [hW]; exact Box3.new _ _ _ _ rfl)
  have HB := Lib.hid (show Below w.heap.size w W by rw [hW]; exact below_alloc _ _)
  clear hW
  have hzw := HB.out.size
  obtain ⟨d0, d1, d2⟩ := X1.out.cells
  obtain ⟨zs, hzs1, hzs2, hmr⟩ := make_run7 hi0 hz0 hzz1 hz2
  go_cut [5, 6] (fun s5 s6 wx => ∃ g lo2 hi2 ra rc, s5 = .slice (some ⟨g, 0, none⟩) 6 6 ∧ s6 = .slice ra L.length rc ∧ wx.ownsRow W.heap.size 3 1 (.slice (some ⟨g, 0, none⟩) 6 6) 6 (M.encIs (M.vecL fun _ => 0)) ∧ RowIn lo2 hi2 wx ra (M.encIs L) ∧ (g < lo2 ∨ hi2 ≤ g) ∧ hi2 ≤ wx.heap.size ∧ L.length ≤ rc ∧ rc ≤ 9223372036854775807 ∧ Below W.heap.size W wx)
  case first =>
    go_region_held3 (fun wq => wq.cell? ⟨w.heap.size, 0, none⟩ = some (.int .i64 m.size) ∧ wq.cell? ⟨w.heap.size, 1, none⟩ = some (.slice a m.doors.length c) ∧ wq.cell? ⟨w.heap.size, 2, none⟩ = some (.slice b m.keys.length d)) (first | exact ⟨d0, d1, d2⟩ | go_keep) (first
      | (go_at_call 62; refine (HN7.out W.drew (HB.out.drew)).mono ?_; rintro e w5 ⟨ra, rc, rfl, ho, ho1, ho2, hb5⟩; have hb5' : Below W.heap.size W w5 := (Below.refl W.heap.size W).drew.trans hb5; obtain ⟨d0, d1, d2⟩ := (X1.out.below hb5').cells; have hz5 := hb5'.size)
      | (go_at_call 62; refine (HN7.out (W.drew.alloc (.cells zs 3)) ((HB.out.drew).alloc (by show w.heap.size ≤ W.heap.size; omega) _)).mono ?_; rintro e w5 ⟨ra, rc, rfl, ho, ho1, ho2, hb5⟩; have hb5' : Below W.heap.size W w5 := ((Below.refl W.heap.size W).drew.alloc (Nat.le_refl _) _).trans (hb5.mono (by simp)); obtain ⟨d0, d1, d2⟩ := (X1.out.below hb5').cells; have hz5 := hb5'.size))
    all_goals
      go_wp2_with fail
      go_meet
      rw [← hzs2]
      first
        | exact ⟨W.heap.size, W.heap.size + 1, w5.heap.size, ra, rc, rfl, rfl, own_below (own_made7 (w := W.drew) hzs1 (Nat.le_refl _)) hb5, ho.row.mono (by simp) (Nat.le_refl _), .inl (Nat.lt_succ_self _), Nat.le_refl _, ho1, ho2, hb5'⟩
        | exact ⟨w5.heap.size, W.heap.size, w5.heap.size, ra, rc, rfl, rfl, own_made7 (w := w5) hzs1 hz5, (ho.row.mono (by simp) (Nat.le_refl _)).below (below_alloc _ _) (Nat.le_refl _), .inr (Nat.le_refl _), by simp, ho1, ho2, hb5'.alloc hz5 _⟩
  case rest =>
    obtain ⟨g, lo2, hi2, ra, rc, rfl, rfl, hout, hset, hdis, hhi, hrc1, hrc2, hbc⟩ := hcut
    have X2 := Lib.hid (X1.out.below hbc)
    have HBC := Lib.hid (HB.out.trans (hbc.mono hzw))
    have hwc := hbc.size
    have OUT := Lib.hid hout
    have SET := Lib.hid hset
    have hgb := (hout.lt g rfl)
    have hgl := hgb.1
    have hgu := hgb.2
    have hwl := X1.out.lt
    clear hbc hout hset d0 d1 d2 hmr hzs2 hgb
    go_wp2_with fail
    go_loopw [7, 8, 9] (fun v7 _ _ wr => ∃ (p : Nat), p ≤ 6 ∧ v7 = .int .i64 (p : Int) ∧ wr.ownsRow W.heap.size 3 1 (.slice (some ⟨g, 0, none⟩) 6 6) 6 (M.encIs (M.vecL (M.atC F p 0))) ∧ Turned g (g + 1) wc wr) (fun v7 _ _ _ => 6 - (intOf v7).toNat)
    case atStart => exact ⟨0, Nat.zero_le _, rfl, by rw [M.atC_zero]; exact OUT.out, Turned.refl _ _ _⟩
    case round =>
      obtain ⟨p, hp, rfl, ho, ht⟩ := hrel
      have O1 := Lib.hid ho
      have T1 := Lib.hid ht
      have hz1 := ht.size
      clear ho ht
      by_cases hp6 : p < 6
      · have HLW2 := Lib.hid (HLW.out p)
        have hkb := M.smL_bnd (g := M.keyG m p) (fun _ => M.bt_01 _ _) L
        obtain ⟨wo, hwo⟩ : ∃ x, x = wr := ⟨_, rfl⟩
        subst hwo
        go_wp2_with fail
        go_loopw [8] (fun v8 wr => ∃ (i : Nat), i ≤ L.length ∧ v8 = .int .i64 (i : Int) ∧ wr.ownsRow W.heap.size 3 1 (.slice (some ⟨g, 0, none⟩) 6 6) 6 (M.encIs (M.vecL (M.atC F p (M.smL (M.keyG m p) (L.take i))))) ∧ Turned g (g + 1) wo wr) (fun v8 _ => L.length - (intOf v8).toNat)
        case atStart => exact ⟨0, Nat.zero_le _, rfl, O1.out, Turned.refl _ _ _⟩
        case round =>
          obtain ⟨i, hi', rfl, ho, ht⟩ := hrel
          have O2 := Lib.hid ho
          have T2 := Lib.hid (T1.out.trans ht)
          have TT := Lib.hid ht
          have hz2' := ht.size
          clear ho ht
          by_cases hil : i < L.length
          · obtain ⟨nb, noff, rfl, _, hnb, hnc⟩ := (SET.out.turned T2.out hhi (by omega)).at_ (k := i) (by rw [M.encIs_len]; exact hil)
            have p0 := hnc _ _ (M.encIs_at hil)
            have hrg := HNR.out _ (List.getElem_mem hil)
            have HST := Lib.hid (M.smL_take (M.keyG m p) hil)
            obtain ⟨x, hx⟩ : ∃ x : Nat, L[i] = (x : Int) := ⟨L[i].toNat, by omega⟩
            rw [hx] at p0 hrg HST
            have hxk : x < m.keys.length := by have := HV.out.keysLen; omega
            obtain ⟨kb, koff, rfl, _, hkb2, hkc⟩ := ((H.out.keys.below HBC.out hz).turned T2.out (by omega) (.inl (by omega))).at_ (k := x) (by rw [M.encIs_len]; exact hxk)
            have p1 := hkc _ _ (M.encIs_at hxk)
            have hky := HV.out.key x hxk
            obtain ⟨n, hn⟩ : ∃ n : Nat, m.keys[x] = (n : Int) := ⟨m.keys[x].toNat, by omega⟩
            rw [hn] at p1 hky
            have hn64 : n < 64 := by omega
            have hkg : M.keyG m p x = M.bt (n : Int) p := by
              unfold M.keyG
              rw [List.getD_eq_getElem?_getD, List.getElem?_eq_getElem hxk, ← hn]; rfl
            have HKG := Lib.hid hkg
            have hbb := M.bt_bits (c := p) hn64
            have hb01 := M.bt_01 (n : Int) p
            have hub := M.smL_bnd (g := M.keyG m p) (fun _ => M.bt_01 _ _) (L.take i)
            rw [List.length_take] at hub
            have q1 := O2.out.cellAt p (by omega)
            rw [M.atC_at _ hp6] at q1
            have q2 := O2.out.frozenAt p
            have HSO := Lib.hid (fun v => (World.ownsRow.stored (w := wr.drew) (show wr.drew.ownsRow W.heap.size 3 1 (.slice (some ⟨g, 0, none⟩) 6 6) 6 _ from O2.out) p v).1)
            obtain ⟨c0, c1, c2⟩ := (X2.out.turned T2.out (.inl (by omega))).cells
            rw [Int.toNat_natCast] at HST
            generalize M.smL (M.keyG m p) (L.take i) = u at *
            generalize M.bt (n : Int) p = v at *
            clear hnc hkc hx hn hky hkg
            go_upto_region 8 with fail
            refine wp_region_late2 (fun (wq : World) => wq.cell? ⟨w.heap.size, 2, none⟩ = some (.slice (some ⟨kb, koff, none⟩) m.keys.length d) ∧ wq.cell? ⟨nb, noff + i, none⟩ = some (.int .i64 (x : Int)) ∧ wq.cell? ⟨kb, koff + x, none⟩ = some (.int .i64 (n : Int)) ∧ wq.cell? ⟨g, p, none⟩ = some (.int .i64 u)) [19] 20 #[false, false, false, false, false, false, false, false, false, false, false, false, false, false, false, false, false, false, false, false] rfl rfl (by kernel_rfl) ?_
            have hS : (fun (wq : World) => wq.cell? ⟨w.heap.size, 2, none⟩ = some (.slice (some ⟨kb, koff, none⟩) m.keys.length d) ∧ wq.cell? ⟨nb, noff + i, none⟩ = some (.int .i64 (x : Int)) ∧ wq.cell? ⟨kb, koff + x, none⟩ = some (.int .i64 (n : Int)) ∧ wq.cell? ⟨g, p, none⟩ = some (.int .i64 u)) wr.drew := ⟨c2, p0, p1, q1⟩
            refine wpAnyL_take (i := 0) (oi := { dst := some 24, op := Go.Op.move (Go.Operand.tmp 5), type := 23, pos := "l7_spent.go:48", after := #[], guard := none }) (v := ?rv0) rfl (by kernel_rfl) (by kernel_rfl) (by kernel_rfl) (by kernel_rfl) (fun _ _ _ h => h) (Or.inl ⟨by rfl, ?rh0⟩) hS ?rr0
            case rh0 => (intro wS hSw; (try dsimp only at hSw); go_split_ands; go_simp; try with_reducible rfl)
            try simp only [Act.put, List.setIfInBounds_toArray, List.set_cons_zero, List.set_cons_succ]
            refine wpAnyL_take (i := 1) (oi := { dst := some 25, op := Go.Op.move (Go.Operand.tmp 7), type := 3, pos := "l7_spent.go:48", after := #[], guard := none }) (v := ?rv1) rfl (by kernel_rfl) (by kernel_rfl) (by kernel_rfl) (by kernel_rfl) (fun _ _ _ h => h) (Or.inl ⟨by rfl, ?rh1⟩) hS ?rr1
            case rh1 => (intro wS hSw; (try dsimp only at hSw); go_split_ands; go_simp; try with_reducible rfl)
            try simp only [Act.put, List.setIfInBounds_toArray, List.set_cons_zero, List.set_cons_succ]
            refine wpAnyL_take (i := 2) (oi := { dst := some 26, op := Go.Op.move (Go.Operand.tmp 5), type := 23, pos := "l7_spent.go:48", after := #[], guard := none }) (v := ?rv2) rfl (by kernel_rfl) (by kernel_rfl) (by kernel_rfl) (by kernel_rfl) (fun _ _ _ h => h) (Or.inl ⟨by rfl, ?rh2⟩) hS ?rr2
            case rh2 => (intro wS hSw; (try dsimp only at hSw); go_split_ands; go_simp; try with_reducible rfl)
            try simp only [Act.put, List.setIfInBounds_toArray, List.set_cons_zero, List.set_cons_succ]
            refine wpAnyL_take (i := 3) (oi := { dst := some 27, op := Go.Op.move (Go.Operand.tmp 7), type := 3, pos := "l7_spent.go:48", after := #[], guard := none }) (v := ?rv3) rfl (by kernel_rfl) (by kernel_rfl) (by kernel_rfl) (by kernel_rfl) (fun _ _ _ h => h) (Or.inl ⟨by rfl, ?rh3⟩) hS ?rr3
            case rh3 => (intro wS hSw; (try dsimp only at hSw); go_split_ands; go_simp; try with_reducible rfl)
            try simp only [Act.put, List.setIfInBounds_toArray, List.set_cons_zero, List.set_cons_succ]
            refine wpAnyL_take (i := 4) (oi := { dst := some 28, op := Go.Op.indexAddr 23 (Go.Operand.tmp 26) (Go.Operand.tmp 27), type := 0, pos := "l7_spent.go:48", after := #[{ on := 2, ground := Go.Ground.data }, { on := 3, ground := Go.Ground.data }], guard := none }) (v := ?rv4) rfl (by kernel_rfl) (by kernel_rfl) (by kernel_rfl) (by kernel_rfl) (fun _ _ _ h => h) (Or.inl ⟨by rfl, ?rh4⟩) hS ?rr4
            case rh4 => (intro wS hSw; (try dsimp only at hSw); go_split_ands; go_simp; try with_reducible rfl)
            try simp only [Act.put, List.setIfInBounds_toArray, List.set_cons_zero, List.set_cons_succ]
            refine wpAnyL_take (i := 5) (oi := { dst := some 29, op := Go.Op.load 3 (Go.Operand.tmp 28), type := 3, pos := "l7_spent.go:48", after := #[{ on := 4, ground := Go.Ground.data }], guard := none }) (v := ?rv5) rfl (by kernel_rfl) (by kernel_rfl) (by kernel_rfl) (by kernel_rfl) (fun _ _ _ h => h) (Or.inl ⟨by rfl, ?rh5⟩) hS ?rr5
            case rh5 => (intro wS hSw; (try dsimp only at hSw); go_split_ands; go_simp; try with_reducible rfl)
            try simp only [Act.put, List.setIfInBounds_toArray, List.set_cons_zero, List.set_cons_succ]
            refine wpAnyL_take (i := 6) (oi := { dst := some 30, op := Go.Op.fieldAddr 29 (Go.Operand.tmp 2) 2, type := 0, pos := "l7_spent.go:48", after := #[], guard := none }) (v := ?rv6) rfl (by kernel_rfl) (by kernel_rfl) (by kernel_rfl) (by kernel_rfl) (fun _ _ _ h => h) (Or.inl ⟨by rfl, ?rh6⟩) hS ?rr6
            case rh6 => (intro wS hSw; (try dsimp only at hSw); go_split_ands; go_simp; try with_reducible rfl)
            try simp only [Act.put, List.setIfInBounds_toArray, List.set_cons_zero, List.set_cons_succ]
            refine wpAnyL_take (i := 7) (oi := { dst := some 31, op := Go.Op.load 23 (Go.Operand.tmp 30), type := 23, pos := "l7_spent.go:48", after := #[{ on := 6, ground := Go.Ground.data }], guard := none }) (v := ?rv7) rfl (by kernel_rfl) (by kernel_rfl) (by kernel_rfl) (by kernel_rfl) (fun _ _ _ h => h) (Or.inl ⟨by rfl, ?rh7⟩) hS ?rr7
            case rh7 => (intro wS hSw; (try dsimp only at hSw); go_split_ands; go_simp; try with_reducible rfl)
            try simp only [Act.put, List.setIfInBounds_toArray, List.set_cons_zero, List.set_cons_succ]
            refine wpAnyL_take (i := 8) (oi := { dst := some 32, op := Go.Op.move (Go.Operand.tmp 6), type := 23, pos := "l7_spent.go:48", after := #[], guard := none }) (v := ?rv8) rfl (by kernel_rfl) (by kernel_rfl) (by kernel_rfl) (by kernel_rfl) (fun _ _ _ h => h) (Or.inl ⟨by rfl, ?rh8⟩) hS ?rr8
            case rh8 => (intro wS hSw; (try dsimp only at hSw); go_split_ands; go_simp; try with_reducible rfl)
            try simp only [Act.put, List.setIfInBounds_toArray, List.set_cons_zero, List.set_cons_succ]
            refine wpAnyL_take (i := 9) (oi := { dst := some 33, op := Go.Op.move (Go.Operand.tmp 8), type := 3, pos := "l7_spent.go:48", after := #[], guard := none }) (v := ?rv9) rfl (by kernel_rfl) (by kernel_rfl) (by kernel_rfl) (by kernel_rfl) (fun _ _ _ h => h) (Or.inl ⟨by rfl, ?rh9⟩) hS ?rr9
            case rh9 => (intro wS hSw; (try dsimp only at hSw); go_split_ands; go_simp; try with_reducible rfl)
            try simp only [Act.put, List.setIfInBounds_toArray, List.set_cons_zero, List.set_cons_succ]
            refine wpAnyL_take (i := 10) (oi := { dst := some 34, op := Go.Op.indexAddr 23 (Go.Operand.tmp 32) (Go.Operand.tmp 33), type := 0, pos := "l7_spent.go:48", after := #[{ on := 8, ground := Go.Ground.data }, { on := 9, ground := Go.Ground.data }], guard := none }) (v := ?rv10) rfl (by kernel_rfl) (by kernel_rfl) (by kernel_rfl) (by kernel_rfl) (fun _ _ _ h => h) (Or.inl ⟨by rfl, ?rh10⟩) hS ?rr10
            case rh10 => (intro wS hSw; (try dsimp only at hSw); go_split_ands; go_simp; try with_reducible rfl)
            try simp only [Act.put, List.setIfInBounds_toArray, List.set_cons_zero, List.set_cons_succ]
            refine wpAnyL_take (i := 11) (oi := { dst := some 35, op := Go.Op.load 3 (Go.Operand.tmp 34), type := 3, pos := "l7_spent.go:48", after := #[{ on := 10, ground := Go.Ground.data }], guard := none }) (v := ?rv11) rfl (by kernel_rfl) (by kernel_rfl) (by kernel_rfl) (by kernel_rfl) (fun _ _ _ h => h) (Or.inl ⟨by rfl, ?rh11⟩) hS ?rr11
            case rh11 => (intro wS hSw; (try dsimp only at hSw); go_split_ands; go_simp; try with_reducible rfl)
            try simp only [Act.put, List.setIfInBounds_toArray, List.set_cons_zero, List.set_cons_succ]
            refine wpAnyL_take (i := 12) (oi := { dst := some 36, op := Go.Op.indexAddr 23 (Go.Operand.tmp 31) (Go.Operand.tmp 35), type := 0, pos := "l7_spent.go:48", after := #[{ on := 7, ground := Go.Ground.data }, { on := 11, ground := Go.Ground.data }], guard := none }) (v := ?rv12) rfl (by kernel_rfl) (by kernel_rfl) (by kernel_rfl) (by kernel_rfl) (fun _ _ _ h => h) (Or.inl ⟨by rfl, ?rh12⟩) hS ?rr12
            case rh12 => (intro wS hSw; (try dsimp only at hSw); go_split_ands; go_simp; try with_reducible rfl)
            try simp only [Act.put, List.setIfInBounds_toArray, List.set_cons_zero, List.set_cons_succ]
            refine wpAnyL_take (i := 13) (oi := { dst := some 37, op := Go.Op.load 3 (Go.Operand.tmp 36), type := 3, pos := "l7_spent.go:48", after := #[{ on := 12, ground := Go.Ground.data }], guard := none }) (v := ?rv13) rfl (by kernel_rfl) (by kernel_rfl) (by kernel_rfl) (by kernel_rfl) (fun _ _ _ h => h) (Or.inl ⟨by rfl, ?rh13⟩) hS ?rr13
            case rh13 => (intro wS hSw; (try dsimp only at hSw); go_split_ands; go_simp; try with_reducible rfl)
            try simp only [Act.put, List.setIfInBounds_toArray, List.set_cons_zero, List.set_cons_succ]
            refine wpAnyL_take (i := 14) (oi := { dst := some 38, op := Go.Op.move (Go.Operand.tmp 7), type := 3, pos := "l7_spent.go:48", after := #[], guard := none }) (v := ?rv14) rfl (by kernel_rfl) (by kernel_rfl) (by kernel_rfl) (by kernel_rfl) (fun _ _ _ h => h) (Or.inl ⟨by rfl, ?rh14⟩) hS ?rr14
            case rh14 => (intro wS hSw; (try dsimp only at hSw); go_split_ands; go_simp; try with_reducible rfl)
            try simp only [Act.put, List.setIfInBounds_toArray, List.set_cons_zero, List.set_cons_succ]
            refine wpAnyL_take (i := 15) (oi := { dst := some 39, op := Go.Op.binOp Go.BinOp.shr 3 (Go.Operand.tmp 37) (Go.Operand.tmp 38) 3, type := 3, pos := "l7_spent.go:48", after := #[{ on := 13, ground := Go.Ground.data }, { on := 14, ground := Go.Ground.data }], guard := none }) (v := ?rv15) rfl (by kernel_rfl) (by kernel_rfl) (by kernel_rfl) (by kernel_rfl) (fun _ _ _ h => h) (Or.inl ⟨by rfl, ?rh15⟩) hS ?rr15
            case rh15 => (intro wS hSw; (try dsimp only at hSw); go_split_ands; go_simp; try with_reducible rfl)
            try simp only [Act.put, List.setIfInBounds_toArray, List.set_cons_zero, List.set_cons_succ]
            refine wpAnyL_take (i := 16) (oi := { dst := some 40, op := Go.Op.binOp Go.BinOp.and 3 (Go.Operand.tmp 39) (Go.Operand.const (Go.Value.int Go.IntKind.i64 1)) 3, type := 3, pos := "l7_spent.go:48", after := #[{ on := 15, ground := Go.Ground.data }], guard := none }) (v := ?rv16) rfl (by kernel_rfl) (by kernel_rfl) (by kernel_rfl) (by kernel_rfl) (fun _ _ _ h => h) (Or.inl ⟨by rfl, ?rh16⟩) hS ?rr16
            case rh16 => (intro wS hSw; (try dsimp only at hSw); go_split_ands; go_simp; try with_reducible rfl)
            try simp only [Act.put, List.setIfInBounds_toArray, List.set_cons_zero, List.set_cons_succ]
            refine wpAnyL_take (i := 17) (oi := { dst := some 41, op := Go.Op.binOp Go.BinOp.add 3 (Go.Operand.tmp 29) (Go.Operand.tmp 40) 3, type := 3, pos := "l7_spent.go:48", after := #[{ on := 5, ground := Go.Ground.data }, { on := 16, ground := Go.Ground.data }], guard := none }) (v := ?rv17) rfl (by kernel_rfl) (by kernel_rfl) (by kernel_rfl) (by kernel_rfl) (fun _ _ _ h => h) (Or.inl ⟨by rfl, ?rh17⟩) hS ?rr17
            case rh17 => (intro wS hSw; (try dsimp only at hSw); go_split_ands; go_simp; try with_reducible rfl)
            try simp only [Act.put, List.setIfInBounds_toArray, List.set_cons_zero, List.set_cons_succ]
            refine wpAnyL_take (i := 18) (oi := { dst := some 42, op := Go.Op.indexAddr 23 (Go.Operand.tmp 24) (Go.Operand.tmp 25), type := 0, pos := "l7_spent.go:48", after := #[{ on := 0, ground := Go.Ground.data }, { on := 1, ground := Go.Ground.data }, { on := 0, ground := Go.Ground.phase }, { on := 1, ground := Go.Ground.phase }, { on := 2, ground := Go.Ground.phase }, { on := 3, ground := Go.Ground.phase }, { on := 4, ground := Go.Ground.phase }, { on := 5, ground := Go.Ground.phase }, { on := 6, ground := Go.Ground.phase }, { on := 7, ground := Go.Ground.phase }, { on := 8, ground := Go.Ground.phase }, { on := 9, ground := Go.Ground.phase }, { on := 10, ground := Go.Ground.phase }, { on := 11, ground := Go.Ground.phase }, { on := 12, ground := Go.Ground.phase }, { on := 13, ground := Go.Ground.phase }, { on := 14, ground := Go.Ground.phase }, { on := 15, ground := Go.Ground.phase }, { on := 16, ground := Go.Ground.phase }, { on := 17, ground := Go.Ground.phase }], guard := none }) (v := ?rv18) rfl (by kernel_rfl) (by kernel_rfl) (by kernel_rfl) (by kernel_rfl) (fun _ _ _ h => h) (Or.inl ⟨by rfl, ?rh18⟩) hS ?rr18
            case rh18 => (intro wS hSw; (try dsimp only at hSw); go_split_ands; go_simp; try with_reducible rfl)
            try simp only [Act.put, List.setIfInBounds_toArray, List.set_cons_zero, List.set_cons_succ]
            refine wpAnyL_one (i := 19) (oi := { dst := none, op := Go.Op.store 3 (Go.Operand.tmp 42) (Go.Operand.tmp 41), type := 0, pos := "l7_spent.go:48", after := #[{ on := 18, ground := Go.Ground.data }, { on := 17, ground := Go.Ground.data }, { on := 0, ground := Go.Ground.phase }, { on := 1, ground := Go.Ground.phase }, { on := 2, ground := Go.Ground.phase }, { on := 3, ground := Go.Ground.phase }, { on := 4, ground := Go.Ground.phase }, { on := 5, ground := Go.Ground.phase }, { on := 6, ground := Go.Ground.phase }, { on := 7, ground := Go.Ground.phase }, { on := 8, ground := Go.Ground.phase }, { on := 9, ground := Go.Ground.phase }, { on := 10, ground := Go.Ground.phase }, { on := 11, ground := Go.Ground.phase }, { on := 12, ground := Go.Ground.phase }, { on := 13, ground := Go.Ground.phase }, { on := 14, ground := Go.Ground.phase }, { on := 15, ground := Go.Ground.phase }, { on := 16, ground := Go.Ground.phase }, { on := 17, ground := Go.Ground.phase }], guard := none }) (by kernel_rfl) rfl (fun Kr19 hKr19 => ?_)
            go_simp
            refine hKr19 _ _ (fun h => absurd h (by decide)) ?_
            refine wpAnyL_done (by kernel_rfl) ?_ _
            go_wp2_with fail
            go_roundw
            case rel =>
              refine ⟨i + 1, by omega, by go_num, ?_, TT.out.trans ((Turned.drewN wr 1 _ _).trans (Turned.setCell _ _ _ _ (Nat.le_refl _) (Nat.lt_succ_self _)))⟩
              rw [HST.out, HKG.out, ← M.atC_set F hp6 u]
              exact HSO.out _
            case measure => simp [intOf]; omega
          · obtain rfl : i = L.length := by omega
            have ho := O2.out
            rw [List.take_of_length_le (Nat.le_refl _)] at ho
            have O3 := Lib.hid ho
            clear ho O2
            obtain ⟨wo2, hwo2⟩ : ∃ x, x = wr := ⟨_, rfl⟩
            subst hwo2
            generalize M.smL (M.keyG m p) L = base at *
            go_wp2_with fail
            go_loopw [9] (fun v9 wr => ∃ (i : Nat), i ≤ walk.length ∧ v9 = .int .i64 (i : Int) ∧ wr.ownsRow W.heap.size 3 1 (.slice (some ⟨g, 0, none⟩) 6 6) 6 (M.encIs (M.vecL (M.atC F p (base - M.smL (M.needG m p) (walk.take i))))) ∧ Turned g (g + 1) wo2 wr) (fun v9 _ => walk.length - (intOf v9).toNat)
            case atStart => exact ⟨0, Nat.zero_le _, rfl, by have := O3.out; simpa [M.smL] using this, Turned.refl _ _ _⟩
            case round =>
              obtain ⟨i, hi', rfl, ho, ht⟩ := hrel
              have O2 := Lib.hid ho
              have T3 := Lib.hid (T2.out.trans ht)
              have TT3 := Lib.hid (TT.out.trans ht)
              have T4 := Lib.hid ht
              have hz3' := ht.size
              clear ho ht
              by_cases hil : i < walk.length
              · obtain ⟨wb, woff, rfl, _, hwb, hwc⟩ := ((HW.out.below HBC.out hz').turned T3.out (by omega) (.inl (by omega))).at_ (k := i) (by rw [M.encIs_len]; exact hil)
                have p0 := hwc _ _ (M.encIs_at hil)
                obtain ⟨hr0, hr1, _⟩ := HOP.out.rng (List.getElem_mem hil)
                have HST := Lib.hid (M.smL_take (M.needG m p) hil)
                obtain ⟨x, hx⟩ : ∃ x : Nat, walk[i] = (x : Int) := ⟨walk[i].toNat, by omega⟩
                rw [hx] at p0 hr0 hr1 HST
                have hxk : x < m.doors.length := by omega
                obtain ⟨db, doff, rfl, _, hdb2, hdc⟩ := ((H.out.doors.below HBC.out hz).turned T3.out (by omega) (.inl (by omega))).at_ (k := x * 3) (by rw [M.encDs_len]; omega)
                have p1 : wr.cell? ⟨db, doff + x * 3 + 2, none⟩ = some (.int .i64 m.doors[x].2.2) := hdc _ _ (M.encDs_at2 hxk)
                obtain ⟨_, _, _, _, _, d6, d7⟩ := HV.out.door x hxk
                obtain ⟨n, hn⟩ : ∃ n : Nat, m.doors[x].2.2 = (n : Int) := ⟨m.doors[x].2.2.toNat, by omega⟩
                have hkg : M.needG m p x = M.bt (n : Int) p := by
                  unfold M.needG
                  rw [M.need_at hxk, hn]
                rw [hn] at p1 d6 d7
                have hn64 : n < 64 := by omega
                have HKG := Lib.hid hkg
                have hbb := M.bt_bits (c := p) hn64
                have hb01 := M.bt_01 (n : Int) p
                have hub := M.smL_bnd (g := M.needG m p) (fun _ => M.bt_01 _ _) (walk.take i)
                rw [List.length_take] at hub
                have q1 := O2.out.cellAt p (by omega)
                rw [M.atC_at _ hp6] at q1
                have q2 := O2.out.frozenAt p
                have HSO := Lib.hid (fun v => (World.ownsRow.stored (w := wr.drew) (show wr.drew.ownsRow W.heap.size 3 1 (.slice (some ⟨g, 0, none⟩) 6 6) 6 _ from O2.out) p v).1)
                obtain ⟨c0, c1, c2⟩ := (X2.out.turned T3.out (.inl (by omega))).cells
                rw [Int.toNat_natCast] at HST
                obtain ⟨u, hu⟩ : ∃ u, u = base - M.smL (M.needG m p) (walk.take i) := ⟨_, rfl⟩
                have HU := Lib.hid hu
                have hu1 : -30 ≤ u ∧ u ≤ 12 := by omega
                rw [← hu] at q1 HSO
                generalize M.bt (n : Int) p = v at *
                clear hwc hdc hx hn hkg hu hub
                go_upto_region 12 with fail
                refine wp_region_late2 (fun (wq : World) => wq.cell? ⟨w.heap.size, 1, none⟩ = some (.slice (some ⟨db, doff, none⟩) m.doors.length c) ∧ wq.cell? ⟨wb, woff + i, none⟩ = some (.int .i64 (x : Int)) ∧ wq.cell? ⟨db, doff + x * 3 + 2, none⟩ = some (.int .i64 (n : Int)) ∧ wq.cell? ⟨g, p, none⟩ = some (.int .i64 u)) [20] 21 #[false, false, false, false, false, false, false, false, false, false, false, false, false, false, false, false, false, false, false, false, false] rfl rfl (by kernel_rfl) ?_
                have hS : (fun (wq : World) => wq.cell? ⟨w.heap.size, 1, none⟩ = some (.slice (some ⟨db, doff, none⟩) m.doors.length c) ∧ wq.cell? ⟨wb, woff + i, none⟩ = some (.int .i64 (x : Int)) ∧ wq.cell? ⟨db, doff + x * 3 + 2, none⟩ = some (.int .i64 (n : Int)) ∧ wq.cell? ⟨g, p, none⟩ = some (.int .i64 u)) wr.drew := ⟨c1, p0, p1, q1⟩
                refine wpAnyL_take (i := 0) (oi := { dst := some 49, op := Go.Op.move (Go.Operand.tmp 5), type := 23, pos := "l7_spent.go:51", after := #[], guard := none }) (v := ?tv0) rfl (by kernel_rfl) (by kernel_rfl) (by kernel_rfl) (by kernel_rfl) (fun _ _ _ h => h) (Or.inl ⟨by rfl, ?th0⟩) hS ?tr0
                case th0 => (intro wS hSw; (try dsimp only at hSw); go_split_ands; go_simp; try with_reducible rfl)
                try simp only [Act.put, List.setIfInBounds_toArray, List.set_cons_zero, List.set_cons_succ]
                refine wpAnyL_take (i := 1) (oi := { dst := some 50, op := Go.Op.move (Go.Operand.tmp 7), type := 3, pos := "l7_spent.go:51", after := #[], guard := none }) (v := ?tv1) rfl (by kernel_rfl) (by kernel_rfl) (by kernel_rfl) (by kernel_rfl) (fun _ _ _ h => h) (Or.inl ⟨by rfl, ?th1⟩) hS ?tr1
                case th1 => (intro wS hSw; (try dsimp only at hSw); go_split_ands; go_simp; try with_reducible rfl)
                try simp only [Act.put, List.setIfInBounds_toArray, List.set_cons_zero, List.set_cons_succ]
                refine wpAnyL_take (i := 2) (oi := { dst := some 51, op := Go.Op.move (Go.Operand.tmp 5), type := 23, pos := "l7_spent.go:51", after := #[], guard := none }) (v := ?tv2) rfl (by kernel_rfl) (by kernel_rfl) (by kernel_rfl) (by kernel_rfl) (fun _ _ _ h => h) (Or.inl ⟨by rfl, ?th2⟩) hS ?tr2
                case th2 => (intro wS hSw; (try dsimp only at hSw); go_split_ands; go_simp; try with_reducible rfl)
                try simp only [Act.put, List.setIfInBounds_toArray, List.set_cons_zero, List.set_cons_succ]
                refine wpAnyL_take (i := 3) (oi := { dst := some 52, op := Go.Op.move (Go.Operand.tmp 7), type := 3, pos := "l7_spent.go:51", after := #[], guard := none }) (v := ?tv3) rfl (by kernel_rfl) (by kernel_rfl) (by kernel_rfl) (by kernel_rfl) (fun _ _ _ h => h) (Or.inl ⟨by rfl, ?th3⟩) hS ?tr3
                case th3 => (intro wS hSw; (try dsimp only at hSw); go_split_ands; go_simp; try with_reducible rfl)
                try simp only [Act.put, List.setIfInBounds_toArray, List.set_cons_zero, List.set_cons_succ]
                refine wpAnyL_take (i := 4) (oi := { dst := some 53, op := Go.Op.indexAddr 23 (Go.Operand.tmp 51) (Go.Operand.tmp 52), type := 0, pos := "l7_spent.go:51", after := #[{ on := 2, ground := Go.Ground.data }, { on := 3, ground := Go.Ground.data }], guard := none }) (v := ?tv4) rfl (by kernel_rfl) (by kernel_rfl) (by kernel_rfl) (by kernel_rfl) (fun _ _ _ h => h) (Or.inl ⟨by rfl, ?th4⟩) hS ?tr4
                case th4 => (intro wS hSw; (try dsimp only at hSw); go_split_ands; go_simp; try with_reducible rfl)
                try simp only [Act.put, List.setIfInBounds_toArray, List.set_cons_zero, List.set_cons_succ]
                refine wpAnyL_take (i := 5) (oi := { dst := some 54, op := Go.Op.load 3 (Go.Operand.tmp 53), type := 3, pos := "l7_spent.go:51", after := #[{ on := 4, ground := Go.Ground.data }], guard := none }) (v := ?tv5) rfl (by kernel_rfl) (by kernel_rfl) (by kernel_rfl) (by kernel_rfl) (fun _ _ _ h => h) (Or.inl ⟨by rfl, ?th5⟩) hS ?tr5
                case th5 => (intro wS hSw; (try dsimp only at hSw); go_split_ands; go_simp; try with_reducible rfl)
                try simp only [Act.put, List.setIfInBounds_toArray, List.set_cons_zero, List.set_cons_succ]
                refine wpAnyL_take (i := 6) (oi := { dst := some 55, op := Go.Op.fieldAddr 29 (Go.Operand.tmp 2) 1, type := 0, pos := "l7_spent.go:51", after := #[], guard := none }) (v := ?tv6) rfl (by kernel_rfl) (by kernel_rfl) (by kernel_rfl) (by kernel_rfl) (fun _ _ _ h => h) (Or.inl ⟨by rfl, ?th6⟩) hS ?tr6
                case th6 => (intro wS hSw; (try dsimp only at hSw); go_split_ands; go_simp; try with_reducible rfl)
                try simp only [Act.put, List.setIfInBounds_toArray, List.set_cons_zero, List.set_cons_succ]
                refine wpAnyL_take (i := 7) (oi := { dst := some 56, op := Go.Op.load 22 (Go.Operand.tmp 55), type := 22, pos := "l7_spent.go:51", after := #[{ on := 6, ground := Go.Ground.data }], guard := none }) (v := ?tv7) rfl (by kernel_rfl) (by kernel_rfl) (by kernel_rfl) (by kernel_rfl) (fun _ _ _ h => h) (Or.inl ⟨by rfl, ?th7⟩) hS ?tr7
                case th7 => (intro wS hSw; (try dsimp only at hSw); go_split_ands; go_simp; try with_reducible rfl)
                try simp only [Act.put, List.setIfInBounds_toArray, List.set_cons_zero, List.set_cons_succ]
                refine wpAnyL_take (i := 8) (oi := { dst := some 57, op := Go.Op.move (Go.Operand.tmp 1), type := 23, pos := "l7_spent.go:51", after := #[], guard := none }) (v := ?tv8) rfl (by kernel_rfl) (by kernel_rfl) (by kernel_rfl) (by kernel_rfl) (fun _ _ _ h => h) (Or.inl ⟨by rfl, ?th8⟩) hS ?tr8
                case th8 => (intro wS hSw; (try dsimp only at hSw); go_split_ands; go_simp; try with_reducible rfl)
                try simp only [Act.put, List.setIfInBounds_toArray, List.set_cons_zero, List.set_cons_succ]
                refine wpAnyL_take (i := 9) (oi := { dst := some 58, op := Go.Op.move (Go.Operand.tmp 9), type := 3, pos := "l7_spent.go:51", after := #[], guard := none }) (v := ?tv9) rfl (by kernel_rfl) (by kernel_rfl) (by kernel_rfl) (by kernel_rfl) (fun _ _ _ h => h) (Or.inl ⟨by rfl, ?th9⟩) hS ?tr9
                case th9 => (intro wS hSw; (try dsimp only at hSw); go_split_ands; go_simp; try with_reducible rfl)
                try simp only [Act.put, List.setIfInBounds_toArray, List.set_cons_zero, List.set_cons_succ]
                refine wpAnyL_take (i := 10) (oi := { dst := some 59, op := Go.Op.indexAddr 23 (Go.Operand.tmp 57) (Go.Operand.tmp 58), type := 0, pos := "l7_spent.go:51", after := #[{ on := 8, ground := Go.Ground.data }, { on := 9, ground := Go.Ground.data }], guard := none }) (v := ?tv10) rfl (by kernel_rfl) (by kernel_rfl) (by kernel_rfl) (by kernel_rfl) (fun _ _ _ h => h) (Or.inl ⟨by rfl, ?th10⟩) hS ?tr10
                case th10 => (intro wS hSw; (try dsimp only at hSw); go_split_ands; go_simp; try with_reducible rfl)
                try simp only [Act.put, List.setIfInBounds_toArray, List.set_cons_zero, List.set_cons_succ]
                refine wpAnyL_take (i := 11) (oi := { dst := some 60, op := Go.Op.load 3 (Go.Operand.tmp 59), type := 3, pos := "l7_spent.go:51", after := #[{ on := 10, ground := Go.Ground.data }], guard := none }) (v := ?tv11) rfl (by kernel_rfl) (by kernel_rfl) (by kernel_rfl) (by kernel_rfl) (fun _ _ _ h => h) (Or.inl ⟨by rfl, ?th11⟩) hS ?tr11
                case th11 => (intro wS hSw; (try dsimp only at hSw); go_split_ands; go_simp; try with_reducible rfl)
                try simp only [Act.put, List.setIfInBounds_toArray, List.set_cons_zero, List.set_cons_succ]
                refine wpAnyL_take (i := 12) (oi := { dst := some 61, op := Go.Op.indexAddr 22 (Go.Operand.tmp 56) (Go.Operand.tmp 60), type := 0, pos := "l7_spent.go:51", after := #[{ on := 7, ground := Go.Ground.data }, { on := 11, ground := Go.Ground.data }], guard := none }) (v := ?tv12) rfl (by kernel_rfl) (by kernel_rfl) (by kernel_rfl) (by kernel_rfl) (fun _ _ _ h => h) (Or.inl ⟨by rfl, ?th12⟩) hS ?tr12
                case th12 => (intro wS hSw; (try dsimp only at hSw); go_split_ands; go_simp; try with_reducible rfl)
                try simp only [Act.put, List.setIfInBounds_toArray, List.set_cons_zero, List.set_cons_succ]
                refine wpAnyL_take (i := 13) (oi := { dst := some 62, op := Go.Op.indexAddr 48 (Go.Operand.tmp 61) (Go.Operand.const (Go.Value.int Go.IntKind.i64 2)), type := 0, pos := "l7_spent.go:51", after := #[{ on := 12, ground := Go.Ground.data }], guard := none }) (v := ?tv13) rfl (by kernel_rfl) (by kernel_rfl) (by kernel_rfl) (by kernel_rfl) (fun _ _ _ h => h) (Or.inl ⟨by rfl, ?th13⟩) hS ?tr13
                case th13 => (intro wS hSw; (try dsimp only at hSw); go_split_ands; go_simp; try with_reducible rfl)
                try simp only [Act.put, List.setIfInBounds_toArray, List.set_cons_zero, List.set_cons_succ]
                refine wpAnyL_take (i := 14) (oi := { dst := some 63, op := Go.Op.load 3 (Go.Operand.tmp 62), type := 3, pos := "l7_spent.go:51", after := #[{ on := 13, ground := Go.Ground.data }], guard := none }) (v := ?tv14) rfl (by kernel_rfl) (by kernel_rfl) (by kernel_rfl) (by kernel_rfl) (fun _ _ _ h => h) (Or.inl ⟨by rfl, ?th14⟩) hS ?tr14
                case th14 => (intro wS hSw; (try dsimp only at hSw); go_split_ands; go_simp; try with_reducible rfl)
                try simp only [Act.put, List.setIfInBounds_toArray, List.set_cons_zero, List.set_cons_succ]
                refine wpAnyL_take (i := 15) (oi := { dst := some 64, op := Go.Op.move (Go.Operand.tmp 7), type := 3, pos := "l7_spent.go:51", after := #[], guard := none }) (v := ?tv15) rfl (by kernel_rfl) (by kernel_rfl) (by kernel_rfl) (by kernel_rfl) (fun _ _ _ h => h) (Or.inl ⟨by rfl, ?th15⟩) hS ?tr15
                case th15 => (intro wS hSw; (try dsimp only at hSw); go_split_ands; go_simp; try with_reducible rfl)
                try simp only [Act.put, List.setIfInBounds_toArray, List.set_cons_zero, List.set_cons_succ]
                refine wpAnyL_take (i := 16) (oi := { dst := some 65, op := Go.Op.binOp Go.BinOp.shr 3 (Go.Operand.tmp 63) (Go.Operand.tmp 64) 3, type := 3, pos := "l7_spent.go:51", after := #[{ on := 14, ground := Go.Ground.data }, { on := 15, ground := Go.Ground.data }], guard := none }) (v := ?tv16) rfl (by kernel_rfl) (by kernel_rfl) (by kernel_rfl) (by kernel_rfl) (fun _ _ _ h => h) (Or.inl ⟨by rfl, ?th16⟩) hS ?tr16
                case th16 => (intro wS hSw; (try dsimp only at hSw); go_split_ands; go_simp; try with_reducible rfl)
                try simp only [Act.put, List.setIfInBounds_toArray, List.set_cons_zero, List.set_cons_succ]
                refine wpAnyL_take (i := 17) (oi := { dst := some 66, op := Go.Op.binOp Go.BinOp.and 3 (Go.Operand.tmp 65) (Go.Operand.const (Go.Value.int Go.IntKind.i64 1)) 3, type := 3, pos := "l7_spent.go:51", after := #[{ on := 16, ground := Go.Ground.data }], guard := none }) (v := ?tv17) rfl (by kernel_rfl) (by kernel_rfl) (by kernel_rfl) (by kernel_rfl) (fun _ _ _ h => h) (Or.inl ⟨by rfl, ?th17⟩) hS ?tr17
                case th17 => (intro wS hSw; (try dsimp only at hSw); go_split_ands; go_simp; try with_reducible rfl)
                try simp only [Act.put, List.setIfInBounds_toArray, List.set_cons_zero, List.set_cons_succ]
                refine wpAnyL_take (i := 18) (oi := { dst := some 67, op := Go.Op.binOp Go.BinOp.sub 3 (Go.Operand.tmp 54) (Go.Operand.tmp 66) 3, type := 3, pos := "l7_spent.go:51", after := #[{ on := 5, ground := Go.Ground.data }, { on := 17, ground := Go.Ground.data }], guard := none }) (v := ?tv18) rfl (by kernel_rfl) (by kernel_rfl) (by kernel_rfl) (by kernel_rfl) (fun _ _ _ h => h) (Or.inl ⟨by rfl, ?th18⟩) hS ?tr18
                case th18 => (intro wS hSw; (try dsimp only at hSw); go_split_ands; go_simp; try with_reducible rfl)
                try simp only [Act.put, List.setIfInBounds_toArray, List.set_cons_zero, List.set_cons_succ]
                refine wpAnyL_take (i := 19) (oi := { dst := some 68, op := Go.Op.indexAddr 23 (Go.Operand.tmp 49) (Go.Operand.tmp 50), type := 0, pos := "l7_spent.go:51", after := #[{ on := 0, ground := Go.Ground.data }, { on := 1, ground := Go.Ground.data }, { on := 0, ground := Go.Ground.phase }, { on := 1, ground := Go.Ground.phase }, { on := 2, ground := Go.Ground.phase }, { on := 3, ground := Go.Ground.phase }, { on := 4, ground := Go.Ground.phase }, { on := 5, ground := Go.Ground.phase }, { on := 6, ground := Go.Ground.phase }, { on := 7, ground := Go.Ground.phase }, { on := 8, ground := Go.Ground.phase }, { on := 9, ground := Go.Ground.phase }, { on := 10, ground := Go.Ground.phase }, { on := 11, ground := Go.Ground.phase }, { on := 12, ground := Go.Ground.phase }, { on := 13, ground := Go.Ground.phase }, { on := 14, ground := Go.Ground.phase }, { on := 15, ground := Go.Ground.phase }, { on := 16, ground := Go.Ground.phase }, { on := 17, ground := Go.Ground.phase }, { on := 18, ground := Go.Ground.phase }], guard := none }) (v := ?tv19) rfl (by kernel_rfl) (by kernel_rfl) (by kernel_rfl) (by kernel_rfl) (fun _ _ _ h => h) (Or.inl ⟨by rfl, ?th19⟩) hS ?tr19
                case th19 => (intro wS hSw; (try dsimp only at hSw); go_split_ands; go_simp; try with_reducible rfl)
                try simp only [Act.put, List.setIfInBounds_toArray, List.set_cons_zero, List.set_cons_succ]
                refine wpAnyL_one (i := 20) (oi := { dst := none, op := Go.Op.store 3 (Go.Operand.tmp 68) (Go.Operand.tmp 67), type := 0, pos := "l7_spent.go:51", after := #[{ on := 19, ground := Go.Ground.data }, { on := 18, ground := Go.Ground.data }, { on := 0, ground := Go.Ground.phase }, { on := 1, ground := Go.Ground.phase }, { on := 2, ground := Go.Ground.phase }, { on := 3, ground := Go.Ground.phase }, { on := 4, ground := Go.Ground.phase }, { on := 5, ground := Go.Ground.phase }, { on := 6, ground := Go.Ground.phase }, { on := 7, ground := Go.Ground.phase }, { on := 8, ground := Go.Ground.phase }, { on := 9, ground := Go.Ground.phase }, { on := 10, ground := Go.Ground.phase }, { on := 11, ground := Go.Ground.phase }, { on := 12, ground := Go.Ground.phase }, { on := 13, ground := Go.Ground.phase }, { on := 14, ground := Go.Ground.phase }, { on := 15, ground := Go.Ground.phase }, { on := 16, ground := Go.Ground.phase }, { on := 17, ground := Go.Ground.phase }, { on := 18, ground := Go.Ground.phase }], guard := none }) (by kernel_rfl) rfl (fun Kt20 hKt20 => ?_)
                go_simp
                refine hKt20 _ _ (fun h => absurd h (by decide)) ?_
                refine wpAnyL_done (by kernel_rfl) ?_ _
                go_wp2_with fail
                go_roundw
                case rel =>
                  refine ⟨i + 1, by omega, by go_num, ?_, T4.out.trans ((Turned.drewN wr 1 _ _).trans (Turned.setCell _ _ _ _ (Nat.le_refl _) (Nat.lt_succ_self _)))⟩
                  have he : base - M.smL (M.needG m p) (walk.take (i + 1)) = u - v := by rw [HST.out, HKG.out, HU.out]; omega
                  rw [he, ← M.atC_set F hp6 u]
                  exact HSO.out _
                case measure => simp [intOf]; omega
              · obtain rfl : i = walk.length := by omega
                have ho := O2.out
                rw [List.take_of_length_le (Nat.le_refl _), ← HLW2.out, M.atC_next] at ho
                have O4 := Lib.hid ho
                clear ho O2
                go_wp2_with fail
                go_roundw
                case rel => exact ⟨p + 1, by omega, by go_num, O4.out, T3.out⟩
                case measure => simp [intOf]; omega
      · obtain hpe : p = 6 := by omega
        have ho := O1.out
        rw [hpe, M.atC_end, ← HRES.out] at ho
        have O5 := Lib.hid ho
        have HBE := Lib.hid (Below.thenTurned HBC.out T1.out (by omega) (by omega))
        clear ho hpe
        go_wp2_with fail
        go_ret
        exact ints_end (l := M.leftL m (M.behO m walk)) (own_weak8 O5.out (by omega)) HBE.out
end C
end Go.Proofs.Ythgmkkkfhbjhoaa
namespace Go.Proofs.Ythgmkkkfhbjhoaa
open Go.RowKit
namespace C
set_option maxHeartbeats 3200000
set_option maxRecDepth 20000
theorem next7_any (w : World) (lo hi : Nat) (m : M.Mz) (a b : Option Addr) (c d : Nat) (h : MzIn lo hi w m a c b d) (hz : hi ≤ w.heap.size) (V : M.Valid m) (lo' hi' : Nat) (wa : Option Addr) (wcap : Nat) (walk : List Int) (hw : RowIn lo' hi' w wa (M.encIs walk)) (hz' : hi' ≤ w.heap.size) (hl : walk.length ≤ 30) (hio : M.isO m walk = true) :
    Calls Try.prog 67 #[.agg #[.int .i64 m.size, .slice a m.doors.length c, .slice b m.keys.length d], .slice wa walk.length wcap] w (IntsPost w (M.nextO m (M.behO m walk))) := by
  obtain ⟨i0, hi0, hz0, hz1, hz2⟩ := info_parts infoI
  have H := Lib.hid h
  have HW := Lib.hid hw
  have v30 := V.few
  have v12 := V.size12
  have HV := Lib.hid V
  have HPL := Lib.hid (fun k => M.pay_left (m := m) (o := M.behO m walk) (M.isO_opn V _ walk rfl hio).pos (k := k))
  have hnl := M.nearL_len m (M.behO m walk)
  have HN7 := Lib.hid (fun W' (hq : Below w.heap.size w W') => near7_any W' lo hi m a b c d (h.below hq hz) (by have := hq.size; omega) V lo' hi' wa wcap walk (hw.below hq hz') (by have := hq.size; omega) (by omega))
  have HL7 := Lib.hid (fun W' (hq : Below w.heap.size w W') => left7_any W' lo hi m a b c d (h.below hq hz) (by have := hq.size; omega) V lo' hi' wa wcap walk (hw.below hq hz') (by have := hq.size; omega) hl hio)
  have hl6 : (M.leftL m (M.behO m walk)).length = 6 := M.vecL_len _
  have HL6 := Lib.hid hl6
  clear h V hw hio hl6
  go_enter Try.func67, Try.ntmps67
  go_upto_region 1 with fail
  refine wp_named ?_
  intro W hW
  have X1 := Lib.hid (show Box3 W w.heap.size 29 (.int .i64 m.size) (.slice a m.doors.length c) (.slice b m.keys.length d) by rw [hW]; exact Box3.new _ _ _ _ rfl)
  have HB := Lib.hid (show Below w.heap.size w W by rw [hW]; exact below_alloc _ _)
  clear hW
  have hzw := HB.out.size
  have hwl := X1.out.lt
  obtain ⟨d0, d1, d2⟩ := X1.out.cells
  go_cut [5, 6, 7] (fun s5 s6 s7 wx => ∃ lo2 hi2 ra rc lo3 hi3 rb rd, s6 = .slice ra (M.nearL m (M.behO m walk)).length rc ∧ s7 = .slice rb 6 rd ∧ wx.ownsRow W.heap.size 3 1 s5 0 [] ∧ (∀ kb, s5.ownBlock = some kb → (kb < lo2 ∨ hi2 ≤ kb) ∧ (kb < lo3 ∨ hi3 ≤ kb)) ∧ RowIn lo2 hi2 wx ra (M.encIs (M.nearL m (M.behO m walk))) ∧ RowIn lo3 hi3 wx rb (M.encIs (M.leftL m (M.behO m walk))) ∧ hi2 ≤ wx.heap.size ∧ hi3 ≤ wx.heap.size ∧ 6 ≤ rd ∧ rd ≤ 9223372036854775807 ∧ Below W.heap.size W wx)
  case first =>
    go_region_held3 (fun wq => wq.cell? ⟨w.heap.size, 0, none⟩ = some (.int .i64 m.size) ∧ wq.cell? ⟨w.heap.size, 1, none⟩ = some (.slice a m.doors.length c) ∧ wq.cell? ⟨w.heap.size, 2, none⟩ = some (.slice b m.keys.length d)) (first | exact ⟨d0, d1, d2⟩ | go_keep) (first
      | (go_at_call 65; refine (HL7.out w5 (HB.out.trans (hb5'.mono (by omega)))).mono ?_; rintro e w6 ⟨rb, rd, rfl, hp, hp1, hp2, hb6⟩; have hb6' : Below W.heap.size W w6 := hb5'.trans (hb6.mono (by omega)); obtain ⟨d0, d1, d2⟩ := (X1.out.below hb6').cells; have hz6 := hb6.size)
      | (go_at_call 65; refine (HL7.out (w5.alloc (.cells #[] 3)) ((HB.out.trans (hb5'.mono (by omega))).alloc (by omega) _)).mono ?_; rintro e w6 ⟨rb, rd, rfl, hp, hp1, hp2, hb6⟩; have hb6' : Below W.heap.size W w6 := (hb5'.alloc (by omega) _).trans (hb6.mono (by simp; omega)); obtain ⟨d0, d1, d2⟩ := (X1.out.below hb6').cells; have hz6 := hb6.size)
      | (go_at_call 62; refine (HN7.out W.drew (HB.out.drew)).mono ?_; rintro e w5 ⟨ra, rc, rfl, ho, ho1, ho2, hb5⟩; have hb5' : Below W.heap.size W w5 := (Below.refl W.heap.size W).drew.trans hb5; obtain ⟨d0, d1, d2⟩ := (X1.out.below hb5').cells; have hz5 := hb5'.size)
      | (go_at_call 62; refine (HN7.out (W.drew.alloc (.cells #[] 3)) ((HB.out.drew).alloc (by show w.heap.size ≤ W.heap.size; omega) _)).mono ?_; rintro e w5 ⟨ra, rc, rfl, ho, ho1, ho2, hb5⟩; have hb5' : Below W.heap.size W w5 := ((Below.refl W.heap.size W).drew.alloc (Nat.le_refl _) _).trans (hb5.mono (by simp)); obtain ⟨d0, d1, d2⟩ := (X1.out.below hb5').cells; have hz5 := hb5'.size))
    all_goals
      go_wp2_with fail
      go_meet
      rw [HL6.out] at hp1
      first
        | exact ⟨W.heap.size + 1, w5.heap.size, ra, rc, w5.heap.size, w6.heap.size, rb, rd, rfl, by rw [HL6.out], own_below (own_below (ownsRow_empty W.drew W.heap.size 3 1 (Nat.le_refl _)) hb5) hb6, fun kb h => (by injection h with h; have hh : W.heap.size = kb := h; subst hh; exact ⟨.inl (Nat.lt_succ_self _), .inl (by have := hb5.size; simp at this; omega)⟩), (ho.row.mono (by simp) (Nat.le_refl _)).below hb6 (Nat.le_refl _), hp.row, hz6, Nat.le_refl _, hp1, hp2, hb6'⟩
        | exact ⟨W.heap.size, w5.heap.size, ra, rc, w5.heap.size + 1, w6.heap.size, rb, rd, rfl, by rw [HL6.out], own_below (ownsRow_empty w5 W.heap.size 3 1 (by omega)) hb6, fun kb h => (by injection h with h; have hh : w5.heap.size = kb := h; subst hh; exact ⟨.inr (Nat.le_refl _), .inl (Nat.lt_succ_self _)⟩), ((ho.row.mono (by simp) (Nat.le_refl _)).below (below_alloc w5 _) (Nat.le_refl _)).below hb6 (by simp), hp.row.mono (by simp) (Nat.le_refl _), by simp at hz6; omega, Nat.le_refl _, hp1, hp2, hb6'⟩
        | exact ⟨W.heap.size, w5.heap.size, ra, rc, w5.heap.size, w6.heap.size, rb, rd, rfl, by rw [HL6.out], ownsRow_empty w6 W.heap.size 3 1 (by omega), fun kb h => (by injection h with h; have hh : w6.heap.size = kb := h; subst hh; exact ⟨.inr hz6, .inr (Nat.le_refl _)⟩), ((ho.row.mono (by simp) (Nat.le_refl _)).below hb6 (Nat.le_refl _)).below (below_alloc w6 _) hz6, hp.row.below (below_alloc w6 _) (Nat.le_refl _), by simp; omega, by simp, hp1, hp2, hb6'.alloc (by omega) _⟩
  case rest =>
    obtain ⟨lo2, hi2, ra, rc, lo3, hi3, rb, rd, rfl, rfl, hout, hdis, hnr, hlr, hhi2, hhi3, hrd1, hrd2, hbc⟩ := hcut
    have hwc := hbc.size
    have X2 := Lib.hid (X1.out.below hbc)
    have HBC := Lib.hid (HB.out.trans (hbc.mono hzw))
    have OUT := Lib.hid hout
    have DIS := Lib.hid hdis
    have NR := Lib.hid hnr
    have LR := Lib.hid hlr
    clear hbc hout hdis hnr hlr d0 d1 d2
    go_wp2_with fail
    go_loopw [5, 8, 9, 10, 11] (fun v v8 _ _ _ wr => ∃ (k : Nat) (v0 : Value), k ≤ m.doors.length ∧ v8 = .int .i64 (k : Int) ∧ v = v0 ∧ wr.ownsRow W.heap.size 3 1 v0 (M.nextTo m (M.behO m walk) k).length (M.encIs (M.nextTo m (M.behO m walk) k)) ∧ (∀ kb, v0.ownBlock = some kb → (kb < lo2 ∨ hi2 ≤ kb) ∧ (kb < lo3 ∨ hi3 ≤ kb)) ∧ RowIn lo2 hi2 wr ra (M.encIs (M.nearL m (M.behO m walk))) ∧ RowIn lo3 hi3 wr rb (M.encIs (M.leftL m (M.behO m walk))) ∧ Box3 wr w.heap.size 29 (.int .i64 m.size) (.slice a m.doors.length c) (.slice b m.keys.length d) ∧ Below w.heap.size w wr ∧ wc.heap.size ≤ wr.heap.size) (fun _ v8 _ _ _ _ => m.doors.length - (intOf v8).toNat)
    case atStart => exact ⟨0, _, Nat.zero_le _, rfl, rfl, OUT.out, DIS.out, NR.out, LR.out, X2.out, HBC.out, Nat.le_refl _⟩
    case round =>
      obtain ⟨k, v, hk, rfl, rfl, hown, hdis, hnr, hlr, hbx, hb, hsz⟩ := hrel
      have O1 := Lib.hid hown
      have V1 := Lib.hid hdis
      have N1 := Lib.hid hnr
      have L1 := Lib.hid hlr
      have X3 := Lib.hid hbx
      have B1 := Lib.hid hb
      have hzr := hb.size
      have hxl := hbx.lt
      have hlen := M.nextTo_len m (M.behO m walk) k
      obtain ⟨c0, c1, c2⟩ := hbx.cells
      clear hown hdis hnr hlr hbx hb
      by_cases hkl : k < m.doors.length
      · have hrow := H.out.doors.below B1.out hz
        obtain ⟨db, doff, rfl, _, hdb, hc0⟩ := hrow.at_ (k := k * 3) (by rw [M.encDs_len]; omega)
        have a0 := hc0 _ _ (M.encDs_at0 hkl)
        have a1 : wr.cell? ⟨db, doff + k * 3 + 1, none⟩ = some (.int .i64 m.doors[k].2.1) := hc0 _ _ (M.encDs_at1 hkl)
        have a2 : wr.cell? ⟨db, doff + k * 3 + 2, none⟩ = some (.int .i64 m.doors[k].2.2) := hc0 _ _ (M.encDs_at2 hkl)
        obtain ⟨d1, d2, d3, d4, d5, d6, d7⟩ := HV.out.door k hkl
        clear hc0 hrow
        go_upto_region 6 with fail
        refine wp_named ?_
        intro W2 hW2
        have hb2 : Below wr.heap.size wr W2 := by rw [hW2]; exact below_alloc _ _
        have hd2 : Box3 W2 wr.heap.size 48 (.int .i64 m.doors[k].1) (.int .i64 m.doors[k].2.1) (.int .i64 m.doors[k].2.2) := by rw [hW2]; exact Box3.new _ _ _ _ rfl
        clear hW2 a0 a1 a2 c0 c1 c2
        have D2 := Lib.hid hd2
        have X2 := Lib.hid (X3.out.below hb2)
        have N2 := Lib.hid (N1.out.below hb2 (by omega))
        have L2 := Lib.hid (L1.out.below hb2 (by omega))
        have O2 := Lib.hid (own_below O1.out hb2)
        have B2' := Lib.hid (B1.out.trans (hb2.mono hzr))
        have hz2' := hb2.size
        have B2 := Lib.hid (show Below w.heap.size w W2 ∧ wc.heap.size ≤ W2.heap.size from ⟨B2'.out, by omega⟩)
        have W7 := Lib.hid (HW.out.below B2'.out hz')
        have hhi3' : hi3 ≤ W2.heap.size := by omega
        have hdl := hd2.lt
        obtain ⟨e0, e1, e2⟩ := hd2.cells
        have HOP := Lib.hid (M.beh_open (m := m) (l := walk) hkl)
        have HNDE := Lib.hid (show M.nearD m (M.behO m walk) k = (M.memB (M.nearL m (M.behO m walk)) m.doors[k].1 || M.memB (M.nearL m (M.behO m walk)) m.doors[k].2.1) by unfold M.nearD M.memB; rw [M.doorD hkl])
        clear hb2 hd2
        cases q1 : M.behO m walk k with
        | true =>
          have hop := HOP.out
          rw [q1] at hop
          have HS := Lib.hid (M.nextTo_no (m := m) (o := M.behO m walk) (k := k) (by unfold M.nextOB; rw [q1]; rfl))
          clear q1
          rcases Decidable.em (m.doors[k].2.2 = 0) with hq0 | hq0
          · have hn0 : (m.doors[k].2.2 == 0) = true := by simpa using hq0
            clear hop hq0
            go_wp2_with fail
            go_roundw
            case rel => exact ⟨k + 1, u5, by omega, by go_num, rfl, by rw [HS.out]; exact O2.out, V1.out, N2.out, L2.out, X2.out, B2.out.1, B2.out.2⟩
            case measure => simp [intOf]; omega
          · have hn0 : (m.doors[k].2.2 == 0) = false := by simpa using hq0
            rw [decide_eq_false hq0, Bool.false_or] at hop
            have hm0 := hop.symm
            clear hop hq0
            go_wp2_with fail
            refine (l1Has_any W2 _ _ _ wcap walk (k : Int) W7.out (by omega)).mono ?_
            rw [hm0]
            rintro e w5 ⟨rfl, rfl⟩
            go_wp2_with fail
            go_roundw
            case rel => exact ⟨k + 1, u5, by omega, by go_num, rfl, by rw [HS.out]; exact O2.out, V1.out, N2.out, L2.out, X2.out, B2.out.1, B2.out.2⟩
            case measure => simp [intOf]; omega
        | false =>
          have HQ1 := Lib.hid q1
          have hop := HOP.out
          rw [q1] at hop
          have hop2 := Bool.or_eq_false_iff.1 hop.symm
          have hn0 : (m.doors[k].2.2 == 0) = false := by have := hop2.1; simpa using this
          have hm0 := hop2.2
          clear q1 hop hop2
          go_wp2_with fail
          refine (l1Has_any W2 _ _ _ wcap walk (k : Int) W7.out (by omega)).mono ?_
          rw [hm0]
          rintro e w5 ⟨rfl, rfl⟩
          go_wp2_with fail
          refine (l1Has_any W2 _ _ _ rc (M.nearL m (M.behO m walk)) m.doors[k].1 N2.out (by omega)).mono ?_
          rintro e w5 ⟨rfl, rfl⟩
          cases qa : M.memB (M.nearL m (M.behO m walk)) m.doors[k].1 with
          | true =>
            have HND := Lib.hid (show M.nearD m (M.behO m walk) k = true by rw [HNDE.out, qa]; rfl)
            clear qa
            have HNB := Lib.hid (show M.nextOB m (M.behO m walk) k = M.payB m (M.behO m walk) k by unfold M.nextOB; rw [HQ1.out, HND.out]; rfl)
            have hnl := M.nextTo_len m (M.behO m walk) k
            obtain ⟨e0, e1, e2⟩ := D2.out.cells
            obtain ⟨wo, hwo⟩ : ∃ x, x = W2 := ⟨_, rfl⟩
            subst hwo
            go_wp2_with fail
            go_loopw [10, 11] (fun v10 v11 wr => ∃ (p : Nat), p ≤ 6 ∧ v11 = .int .i64 (p : Int) ∧ v10 = .bool ((List.range p).all fun q => decide (M.bt (M.need m k) q ≤ M.leftC m (M.behO m walk) q)) ∧ Below wo.heap.size wo wr) (fun _ v11 _ => 6 - (intOf v11).toNat)
            case atStart => exact ⟨0, Nat.zero_le _, rfl, rfl, Below.refl _ _⟩
            case round =>
              obtain ⟨p, hp, rfl, rfl, hb3⟩ := hrel
              have B3 := Lib.hid hb3
              have hz3 := hb3.size
              clear hb3 e0 e1 e2
              by_cases hp6 : p < 6
              · have HRS := Lib.hid (show ((List.range (p + 1)).all fun q => decide (M.bt (M.need m k) q ≤ M.leftC m (M.behO m walk) q)) = (((List.range p).all fun q => decide (M.bt (M.need m k) q ≤ M.leftC m (M.behO m walk) q)) && decide (M.bt (M.need m k) p ≤ M.leftC m (M.behO m walk) p)) by rw [List.range_succ, List.all_append]; simp)
                have hd3 := D2.out.below B3.out
                have hdl := hd3.lt
                obtain ⟨e0, e1, e2⟩ := hd3.cells
                have hlr := (L2.out.below B3.out hhi3')
                obtain ⟨lb, loff, rfl, hlb1, hlb, hlc⟩ := hlr.at_ (k := p) (by rw [show M.encIs (M.leftL m (M.behO m walk)) = M.encIs (M.vecL (M.leftC m (M.behO m walk))) from rfl, M.encIs_len, M.vecL_len]; exact hp6)
                have p0 := hlc p _ (M.vecL_at (M.leftC m (M.behO m walk)) hp6)
                obtain ⟨n, hn⟩ : ∃ n : Nat, m.doors[k].2.2 = (n : Int) := ⟨m.doors[k].2.2.toNat, by omega⟩
                have HND2 := Lib.hid (show M.need m k = (n : Int) by rw [M.need_at hkl, hn])
                rw [hn] at e2
                have hn64 : n < 64 := by omega
                have hbb := M.bt_bits (c := p) hn64
                have E2 := cell_grown hdl e2
                have P0 := cell_grown (a := ⟨lb, loff + p, none⟩) (show lb < _ by omega) p0
                have mixed : Try.prog.follows .mixedOrders = true := by kernel_rfl
                rw [HND2.out] at HRS
                rw [HND2.out]
                clear hd3 hlr hlc p0 e0 e1 e2 hn
                generalize M.leftC m (M.behO m walk) p = u at *
                generalize M.bt (n : Int) p = t at *
                cases q3 : ((List.range p).all fun q => decide (M.bt (n : Int) q ≤ M.leftC m (M.behO m walk) q)) with
                | false =>
                  rw [q3] at HRS
                  clear q3
                  go_wp2_with fail
                  refine wp_region_quiet_grown (by assumption) (by kernel_rfl) ?_
                  repeat (first | go_big_quiet_step (fail) | quiet_step (fail))
                  refine wpQuiet_nil ?_
                  intro _ hw'
                  obtain ⟨⟨nq, osq⟩, hw''⟩ := hw'
                  subst hw''
                  go_wp2_with fail
                  go_roundw
                  case rel => exact ⟨p + 1, by omega, by go_num, by rw [HRS.out]; rfl, B3.out.trans ((below_grown wr nq osq).mono hz3)⟩
                  case measure => simp [intOf]; omega
                | true =>
                  rw [q3] at HRS
                  clear q3
                  go_wp2_with fail
                  refine wp_region_quiet_grown (by assumption) (by kernel_rfl) ?_
                  repeat (first | go_big_quiet_step (fail) | quiet_step (fail))
                  refine wpQuiet_nil ?_
                  intro _ hw'
                  obtain ⟨⟨nq, osq⟩, hw''⟩ := hw'
                  subst hw''
                  go_wp2_with fail
                  go_roundw
                  case rel => exact ⟨p + 1, by omega, by go_num, by rw [HRS.out]; first | rfl | simp, B3.out.trans ((below_grown wr nq osq).mono hz3)⟩
                  case measure => simp [intOf]; omega
              · have hp6' : p = 6 := by omega
                have hpay : ((List.range p).all fun q => decide (M.bt (M.need m k) q ≤ M.leftC m (M.behO m walk) q)) = M.payB m (M.behO m walk) k := by rw [hp6']; exact HPL.out k
                rw [hpay]
                have hle6 : ¬ (p : Int) < 6 := by omega
                have X3 := Lib.hid (X2.out.below B3.out)
                have N3 := Lib.hid (N2.out.below B3.out (by omega))
                have L3 := Lib.hid (L2.out.below B3.out (by omega))
                have hbs := B2.out.2
                have B4 := Lib.hid (B2.out.1.trans (B3.out.mono (by have := B2.out.1.size; omega)))
                have O3 := Lib.hid (own_below O2.out B3.out)
                clear hpay hp6' e0 e1 e2
                cases q4 : M.payB m (M.behO m walk) k with
                | false =>
                  have HS := Lib.hid (M.nextTo_no (m := m) (o := M.behO m walk) (k := k) (by rw [HNB.out, q4]))
                  clear q4
                  go_wp2_with fail
                  go_roundw
                  case rel => exact ⟨k + 1, u5, by omega, by go_num, rfl, by rw [HS.out]; exact O3.out, V1.out, N3.out, L3.out, X3.out, B4.out, by omega⟩
                  case measure => simp [intOf]; omega
                | true =>
                  have HS := Lib.hid (M.nextTo_yes (m := m) (o := M.behO m walk) (k := k) (by rw [HNB.out, q4]))
                  have hown := O3.out
                  have hcn := cell_one_new wr (.int .i64 (k : Int)) 3
                  have HNE := Lib.hid (own_ne_box hown X3.out (by decide))
                  clear q4
                  go_wp2_with (at_builtin; refine wpList_append_own_at _ rfl _ _ 23 rfl W.heap.size 3 i0 (.int .i64 0) 1 8 Try.underlying23 hi0 hz0 hz1 hz2 rfl (by decide) _ _ _ rfl (hown.alloc _) ⟨wr.heap.size, 0, none⟩ 1 1 [.int .i64 (k : Int)] rfl rfl hcn (fun x hx => by simp at hx; subst hx; rfl) (by unfold maxLen; omega) (by omega) (by simp; omega) ?_; intro v' w3 hown' hgrow3 hnil3 hat3)
                  go_roundw
                  case rel =>
                    have hat4 : v'.ownBlock = u5.ownBlock ∨ v'.ownBlock = some (wr.alloc (.cells #[.int .i64 (k : Int)] 3)).heap.size := hat3
                    have hk3 : ∀ kb, v'.ownBlock = some kb → (kb < lo2 ∨ hi2 ≤ kb) ∧ (kb < lo3 ∨ hi3 ≤ kb) := fun kb hkb => by
                      rcases hat4 with h | h
                      · exact V1.out kb (by rw [← h]; exact hkb)
                      · rw [h] at hkb; injection hkb with hkb; rw [World.size_alloc] at hkb; omega
                    have hb5 : ∀ kb, kb < wr.heap.size → u5.ownBlock ≠ some kb → w3.heap[kb]? = wr.heap[kb]? := fun kb hkb hne => (hgrow3.block kb (by simp; omega) (fun e => hne e.symm)).trans (Below.heap_alloc wr _ kb hkb)
                    have hrow : ∀ {l h : Nat} {ad : Option Addr} {xs : List Int}, RowIn l h wr ad (M.encIs xs) → h ≤ wr.heap.size → (∀ kb, u5.ownBlock = some kb → kb < l ∨ h ≤ kb) → RowIn l h w3 ad (M.encIs xs) := fun hr hh hd => by
                      rcases hr with hr | ⟨b', off', ha, h1, h2, hc⟩
                      · exact .inl hr
                      · refine .inr ⟨b', off', ha, h1, h2, fun i u hu => (World.cell?_of_block (w := wr) (hb5 b' (by omega) fun e => ?_)).trans (hc i u hu)⟩
                        have := hd b' e
                        omega
                    refine ⟨k + 1, v', by omega, by go_num, rfl, ?_, hk3, hrow N3.out (by omega) (fun kb h => (V1.out kb h).1), hrow L3.out (by omega) (fun kb h => (V1.out kb h).2), (X3.out.alloc _).grown hgrow3 HNE.out, (B4.out.alloc (by have := B4.out.size; omega) _).grown hgrow3 (by have := B4.out.size; simp; omega) (fun kb hkb => by have := own_base hown kb hkb; omega), by have := hgrow3.size; simp at this; omega⟩
                    rw [HS.out]
                    simpa [M.encIs] using hown'
                  case measure => simp [intOf]; omega
          | false =>
            go_wp2_with fail
            refine (l1Has_any W2 _ _ _ rc (M.nearL m (M.behO m walk)) m.doors[k].2.1 N2.out (by omega)).mono ?_
            rintro e w5 ⟨rfl, rfl⟩
            cases qb : M.memB (M.nearL m (M.behO m walk)) m.doors[k].2.1 with
            | false =>
              have HS := Lib.hid (M.nextTo_no (m := m) (o := M.behO m walk) (k := k) (by unfold M.nextOB; rw [HNDE.out, qa, qb]; simp))
              clear qa qb
              go_wp2_with fail
              go_roundw
              case rel => exact ⟨k + 1, u5, by omega, by go_num, rfl, by rw [HS.out]; exact O2.out, V1.out, N2.out, L2.out, X2.out, B2.out.1, B2.out.2⟩
              case measure => simp [intOf]; omega
            | true =>
              have HND := Lib.hid (show M.nearD m (M.behO m walk) k = true by rw [HNDE.out, qa, qb]; rfl)
              clear qa qb
              have HNB := Lib.hid (show M.nextOB m (M.behO m walk) k = M.payB m (M.behO m walk) k by unfold M.nextOB; rw [HQ1.out, HND.out]; rfl)
              have hnl := M.nextTo_len m (M.behO m walk) k
              obtain ⟨e0, e1, e2⟩ := D2.out.cells
              obtain ⟨wo, hwo⟩ : ∃ x, x = W2 := ⟨_, rfl⟩
              subst hwo
              go_wp2_with fail
              go_loopw [10, 11] (fun v10 v11 wr => ∃ (p : Nat), p ≤ 6 ∧ v11 = .int .i64 (p : Int) ∧ v10 = .bool ((List.range p).all fun q => decide (M.bt (M.need m k) q ≤ M.leftC m (M.behO m walk) q)) ∧ Below wo.heap.size wo wr) (fun _ v11 _ => 6 - (intOf v11).toNat)
              case atStart => exact ⟨0, Nat.zero_le _, rfl, rfl, Below.refl _ _⟩
              case round =>
                obtain ⟨p, hp, rfl, rfl, hb3⟩ := hrel
                have B3 := Lib.hid hb3
                have hz3 := hb3.size
                clear hb3 e0 e1 e2
                by_cases hp6 : p < 6
                · have HRS := Lib.hid (show ((List.range (p + 1)).all fun q => decide (M.bt (M.need m k) q ≤ M.leftC m (M.behO m walk) q)) = (((List.range p).all fun q => decide (M.bt (M.need m k) q ≤ M.leftC m (M.behO m walk) q)) && decide (M.bt (M.need m k) p ≤ M.leftC m (M.behO m walk) p)) by rw [List.range_succ, List.all_append]; simp)
                  have hd3 := D2.out.below B3.out
                  have hdl := hd3.lt
                  obtain ⟨e0, e1, e2⟩ := hd3.cells
                  have hlr := (L2.out.below B3.out hhi3')
                  obtain ⟨lb, loff, rfl, hlb1, hlb, hlc⟩ := hlr.at_ (k := p) (by rw [show M.encIs (M.leftL m (M.behO m walk)) = M.encIs (M.vecL (M.leftC m (M.behO m walk))) from rfl, M.encIs_len, M.vecL_len]; exact hp6)
                  have p0 := hlc p _ (M.vecL_at (M.leftC m (M.behO m walk)) hp6)
                  obtain ⟨n, hn⟩ : ∃ n : Nat, m.doors[k].2.2 = (n : Int) := ⟨m.doors[k].2.2.toNat, by omega⟩
                  have HND2 := Lib.hid (show M.need m k = (n : Int) by rw [M.need_at hkl, hn])
                  rw [hn] at e2
                  have hn64 : n < 64 := by omega
                  have hbb := M.bt_bits (c := p) hn64
                  have E2 := cell_grown hdl e2
                  have P0 := cell_grown (a := ⟨lb, loff + p, none⟩) (show lb < _ by omega) p0
                  have mixed : Try.prog.follows .mixedOrders = true := by kernel_rfl
                  rw [HND2.out] at HRS
                  rw [HND2.out]
                  clear hd3 hlr hlc p0 e0 e1 e2 hn
                  generalize M.leftC m (M.behO m walk) p = u at *
                  generalize M.bt (n : Int) p = t at *
                  cases q3 : ((List.range p).all fun q => decide (M.bt (n : Int) q ≤ M.leftC m (M.behO m walk) q)) with
                  | false =>
                    rw [q3] at HRS
                    clear q3
                    go_wp2_with fail
                    refine wp_region_quiet_grown (by assumption) (by kernel_rfl) ?_
                    repeat (first | go_big_quiet_step (fail) | quiet_step (fail))
                    refine wpQuiet_nil ?_
                    intro _ hw'
                    obtain ⟨⟨nq, osq⟩, hw''⟩ := hw'
                    subst hw''
                    go_wp2_with fail
                    go_roundw
                    case rel => exact ⟨p + 1, by omega, by go_num, by rw [HRS.out]; rfl, B3.out.trans ((below_grown wr nq osq).mono hz3)⟩
                    case measure => simp [intOf]; omega
                  | true =>
                    rw [q3] at HRS
                    clear q3
                    go_wp2_with fail
                    refine wp_region_quiet_grown (by assumption) (by kernel_rfl) ?_
                    repeat (first | go_big_quiet_step (fail) | quiet_step (fail))
                    refine wpQuiet_nil ?_
                    intro _ hw'
                    obtain ⟨⟨nq, osq⟩, hw''⟩ := hw'
                    subst hw''
                    go_wp2_with fail
                    go_roundw
                    case rel => exact ⟨p + 1, by omega, by go_num, by rw [HRS.out]; first | rfl | simp, B3.out.trans ((below_grown wr nq osq).mono hz3)⟩
                    case measure => simp [intOf]; omega
                · have hp6' : p = 6 := by omega
                  have hpay : ((List.range p).all fun q => decide (M.bt (M.need m k) q ≤ M.leftC m (M.behO m walk) q)) = M.payB m (M.behO m walk) k := by rw [hp6']; exact HPL.out k
                  rw [hpay]
                  have hle6 : ¬ (p : Int) < 6 := by omega
                  have X3 := Lib.hid (X2.out.below B3.out)
                  have N3 := Lib.hid (N2.out.below B3.out (by omega))
                  have L3 := Lib.hid (L2.out.below B3.out (by omega))
                  have hbs := B2.out.2
                  have B4 := Lib.hid (B2.out.1.trans (B3.out.mono (by have := B2.out.1.size; omega)))
                  have O3 := Lib.hid (own_below O2.out B3.out)
                  clear hpay hp6' e0 e1 e2
                  cases q4 : M.payB m (M.behO m walk) k with
                  | false =>
                    have HS := Lib.hid (M.nextTo_no (m := m) (o := M.behO m walk) (k := k) (by rw [HNB.out, q4]))
                    clear q4
                    go_wp2_with fail
                    go_roundw
                    case rel => exact ⟨k + 1, u5, by omega, by go_num, rfl, by rw [HS.out]; exact O3.out, V1.out, N3.out, L3.out, X3.out, B4.out, by omega⟩
                    case measure => simp [intOf]; omega
                  | true =>
                    have HS := Lib.hid (M.nextTo_yes (m := m) (o := M.behO m walk) (k := k) (by rw [HNB.out, q4]))
                    have hown := O3.out
                    have hcn := cell_one_new wr (.int .i64 (k : Int)) 3
                    have HNE := Lib.hid (own_ne_box hown X3.out (by decide))
                    clear q4
                    go_wp2_with (at_builtin; refine wpList_append_own_at _ rfl _ _ 23 rfl W.heap.size 3 i0 (.int .i64 0) 1 8 Try.underlying23 hi0 hz0 hz1 hz2 rfl (by decide) _ _ _ rfl (hown.alloc _) ⟨wr.heap.size, 0, none⟩ 1 1 [.int .i64 (k : Int)] rfl rfl hcn (fun x hx => by simp at hx; subst hx; rfl) (by unfold maxLen; omega) (by omega) (by simp; omega) ?_; intro v' w3 hown' hgrow3 hnil3 hat3)
                    go_roundw
                    case rel =>
                      have hat4 : v'.ownBlock = u5.ownBlock ∨ v'.ownBlock = some (wr.alloc (.cells #[.int .i64 (k : Int)] 3)).heap.size := hat3
                      have hk3 : ∀ kb, v'.ownBlock = some kb → (kb < lo2 ∨ hi2 ≤ kb) ∧ (kb < lo3 ∨ hi3 ≤ kb) := fun kb hkb => by
                        rcases hat4 with h | h
                        · exact V1.out kb (by rw [← h]; exact hkb)
                        · rw [h] at hkb; injection hkb with hkb; rw [World.size_alloc] at hkb; omega
                      have hb5 : ∀ kb, kb < wr.heap.size → u5.ownBlock ≠ some kb → w3.heap[kb]? = wr.heap[kb]? := fun kb hkb hne => (hgrow3.block kb (by simp; omega) (fun e => hne e.symm)).trans (Below.heap_alloc wr _ kb hkb)
                      have hrow : ∀ {l h : Nat} {ad : Option Addr} {xs : List Int}, RowIn l h wr ad (M.encIs xs) → h ≤ wr.heap.size → (∀ kb, u5.ownBlock = some kb → kb < l ∨ h ≤ kb) → RowIn l h w3 ad (M.encIs xs) := fun hr hh hd => by
                        rcases hr with hr | ⟨b', off', ha, h1, h2, hc⟩
                        · exact .inl hr
                        · refine .inr ⟨b', off', ha, h1, h2, fun i u hu => (World.cell?_of_block (w := wr) (hb5 b' (by omega) fun e => ?_)).trans (hc i u hu)⟩
                          have := hd b' e
                          omega
                      refine ⟨k + 1, v', by omega, by go_num, rfl, ?_, hk3, hrow N3.out (by omega) (fun kb h => (V1.out kb h).1), hrow L3.out (by omega) (fun kb h => (V1.out kb h).2), (X3.out.alloc _).grown hgrow3 HNE.out, (B4.out.alloc (by have := B4.out.size; omega) _).grown hgrow3 (by have := B4.out.size; simp; omega) (fun kb hkb => by have := own_base hown kb hkb; omega), by have := hgrow3.size; simp at this; omega⟩
                      rw [HS.out]
                      simpa [M.encIs] using hown'
                    case measure => simp [intOf]; omega
      · obtain rfl : k = m.doors.length := by omega
        go_wp2_with fail
        go_ret
        exact ints_end (l := M.nextO m (M.behO m walk)) (own_weak8 O1.out (by omega)) B1.out
end C
end Go.Proofs.Ythgmkkkfhbjhoaa
namespace Go.Proofs.Ythgmkkkfhbjhoaa
open Go.RowKit
namespace M
theorem isO_no7 {m : Mz} {l : List Int} {k : Nat} (hk : k < l.length) (h : isO m (l.take k) = true) (hn : memB (nextO m (behO m (l.take k))) l[k] = false) : isO m l = false := by
  rw [Bool.eq_false_iff]
  intro ht
  have h2 := isO_pre (m := m) (l := l.take (k + 1)) (l.drop (k + 1)) (by rw [List.take_append_drop]; exact ht)
  rw [isO_take hk, h, Bool.true_and] at h2
  unfold memB at hn
  rw [hn] at h2
  cases h2
theorem isO_yes7 {m : Mz} {l : List Int} {k : Nat} (hk : k < l.length) (h : isO m (l.take k) = true) (hn : memB (nextO m (behO m (l.take k))) l[k] = true) : isO m (l.take (k + 1)) = true := by
  rw [isO_take hk, h, Bool.true_and]; exact hn
end M
namespace C
set_option maxHeartbeats 3200000
set_option maxRecDepth 20000
theorem RowIn.take7 {lo hi : Nat} {w : World} {a : Option Addr} {l : List Int} (h : RowIn lo hi w a (M.encIs l)) (k : Nat) : RowIn lo hi w a (M.encIs (l.take k)) := by
  have e : M.encIs (l.take k) = (M.encIs l).take k := by unfold M.encIs; rw [List.map_take]
  rw [e]
  rcases h with h | ⟨b, off, ha, h1, h2, hc⟩
  · exact .inl (by rw [h]; simp)
  · refine .inr ⟨b, off, ha, h1, h2, fun i u hu => hc i u ?_⟩
    rw [List.getElem?_take] at hu
    split at hu
    · exact hu
    · cases hu
theorem opening7_any (w : World) (lo hi : Nat) (m : M.Mz) (a b : Option Addr) (c d : Nat) (h : MzIn lo hi w m a c b d) (hz : hi ≤ w.heap.size) (V : M.Valid m) (hf : (M.lockL m).length ≤ 10) (lo' hi' : Nat) (wa : Option Addr) (wcap : Nat) (walk : List Int) (hw : RowIn lo' hi' w wa (M.encIs walk)) (hz' : hi' ≤ w.heap.size) (_hl : walk.length ≤ 1048576) (hcap : walk.length ≤ wcap) :
    Calls Try.prog 58 #[.agg #[.int .i64 m.size, .slice a m.doors.length c, .slice b m.keys.length d], .slice wa walk.length wcap] w (BoolPost w (M.isO m walk)) := by
  have v30 := V.few
  have HV := Lib.hid V
  have HW := Lib.hid hw
  have HN7 := Lib.hid (fun W' (hq : Below w.heap.size w W') k (hk : k ≤ walk.length) hio => by
    have h1 := next7_any W' lo hi m a b c d (h.below hq hz) (by have := hq.size; omega) V lo' hi' wa wcap (walk.take k) ((hw.below hq hz').take7 k) (by have := hq.size; omega) (by have := M.isO_len (m := m) V hio; omega) hio
    have h2 : (walk.take k).length = k := by rw [List.length_take]; omega
    rw [h2] at h1
    exact h1)
  have HLN := Lib.hid (fun k (hk : k ≤ walk.length) hio => show k ≤ 10 by
    have h1 := M.isO_len (m := m) (l := walk.take k) V hio
    rw [List.length_take] at h1
    omega)
  clear h V hw
  go_enter Try.func58, Try.ntmps58
  go_wp2_with fail
  refine wp_named ?_
  intro W hW
  have X1 := Lib.hid (show Box3 W w.heap.size 29 (.int .i64 m.size) (.slice a m.doors.length c) (.slice b m.keys.length d) by rw [hW]; exact Box3.new _ _ _ _ rfl)
  have HB := Lib.hid (show Below w.heap.size w W by rw [hW]; exact below_alloc _ _)
  clear hW
  have hzw := HB.out.size
  have hwl := X1.out.lt
  go_loopw [5] (fun v5 wr => ∃ (k : Nat), k ≤ walk.length ∧ v5 = .int .i64 (k : Int) ∧ M.isO m (walk.take k) = true ∧ Below W.heap.size W wr) (fun v5 _ => walk.length - (intOf v5).toNat)
  case atStart => exact ⟨0, Nat.zero_le _, rfl, rfl, Below.refl _ _⟩
  case round =>
    obtain ⟨k, hk, rfl, hio, hb⟩ := hrel
    have HIO := Lib.hid hio
    have HBK := Lib.hid hb
    have hzr := hb.size
    have B1 := Lib.hid (HB.out.trans (hb.mono hzw))
    have k10 := HLN.out k hk hio
    have HX0 := X1
    clear hb hio
    by_cases hkl : k < walk.length
    · have X1 := Lib.hid (HX0.out.below HBK.out)
      have hb1 := B1.out.size
      obtain ⟨wb, woff, rfl, _, hwb, hwc⟩ := (HW.out.below B1.out hz').at_ (k := k) (by rw [M.encIs_len]; exact hkl)
      have p0 := hwc _ _ (M.encIs_at hkl)
      have HNO := Lib.hid (M.isO_no7 (m := m) hkl HIO.out)
      have HYES := Lib.hid (M.isO_yes7 (m := m) hkl HIO.out)
      have hkc : k ≤ wcap := by omega
      have hnx := M.nextO_len m (M.behO m (walk.take k))
      obtain ⟨x, hx⟩ : ∃ x, walk[k] = x := ⟨_, rfl⟩
      rw [hx] at p0 HNO HYES
      have P0 := Lib.hid p0
      obtain ⟨c0, c1, c2⟩ := X1.out.cells
      clear hwc hx HX0
      go_upto_region 4 with fail
      refine wp_region_late2 (fun (wq : World) => wq.cell? ⟨w.heap.size, 0, none⟩ = some (.int .i64 m.size) ∧ wq.cell? ⟨w.heap.size, 1, none⟩ = some (.slice a m.doors.length c) ∧ wq.cell? ⟨w.heap.size, 2, none⟩ = some (.slice b m.keys.length d) ∧ wq.cell? ⟨wb, woff + k, none⟩ = some (.int .i64 x)) [] 11 #[false, false, false, false, false, false, false, false, false, false, false] rfl rfl (by kernel_rfl) ?_
      have hS : (fun (wq : World) => wq.cell? ⟨w.heap.size, 0, none⟩ = some (.int .i64 m.size) ∧ wq.cell? ⟨w.heap.size, 1, none⟩ = some (.slice a m.doors.length c) ∧ wq.cell? ⟨w.heap.size, 2, none⟩ = some (.slice b m.keys.length d) ∧ wq.cell? ⟨wb, woff + k, none⟩ = some (.int .i64 x)) wr.drew := ⟨c0, c1, c2, p0⟩
      refine wpAnyL_take (i := 0) (oi := { dst := some 12, op := Go.Op.load 29 (Go.Operand.tmp 2), type := 29, pos := "l7_spent.go:79", after := #[], guard := none }) (v := ?rv0) rfl (by kernel_rfl) (by kernel_rfl) (by kernel_rfl) (by kernel_rfl) (fun _ _ _ h => h) (Or.inl ⟨by rfl, ?rh0⟩) hS ?rr0
      case rh0 => (intro wS hSw; (try dsimp only at hSw); go_split_ands; go_simp; try with_reducible rfl)
      try simp only [Act.put, List.setIfInBounds_toArray, List.set_cons_zero, List.set_cons_succ]
      refine wpAnyL_take (i := 1) (oi := { dst := some 13, op := Go.Op.move (Go.Operand.tmp 1), type := 23, pos := "l7_spent.go:79", after := #[], guard := none }) (v := ?rv1) rfl (by kernel_rfl) (by kernel_rfl) (by kernel_rfl) (by kernel_rfl) (fun _ _ _ h => h) (Or.inl ⟨by rfl, ?rh1⟩) hS ?rr1
      case rh1 => (intro wS hSw; (try dsimp only at hSw); go_split_ands; go_simp; try with_reducible rfl)
      try simp only [Act.put, List.setIfInBounds_toArray, List.set_cons_zero, List.set_cons_succ]
      refine wpAnyL_take (i := 2) (oi := { dst := some 14, op := Go.Op.move (Go.Operand.tmp 5), type := 3, pos := "l7_spent.go:79", after := #[], guard := none }) (v := ?rv2) rfl (by kernel_rfl) (by kernel_rfl) (by kernel_rfl) (by kernel_rfl) (fun _ _ _ h => h) (Or.inl ⟨by rfl, ?rh2⟩) hS ?rr2
      case rh2 => (intro wS hSw; (try dsimp only at hSw); go_split_ands; go_simp; try with_reducible rfl)
      try simp only [Act.put, List.setIfInBounds_toArray, List.set_cons_zero, List.set_cons_succ]
      refine wpAnyL_take (i := 3) (oi := { dst := some 15, op := Go.Op.slice 23 (Go.Operand.tmp 13) none (some (Go.Operand.tmp 14)) none, type := 23, pos := "l7_spent.go:79", after := #[{ on := 1, ground := Go.Ground.data }, { on := 2, ground := Go.Ground.data }], guard := none }) (v := ?rv3) rfl (by kernel_rfl) (by kernel_rfl) (by kernel_rfl) (by kernel_rfl) (fun _ _ _ h => h) (Or.inl ⟨by rfl, ?rh3⟩) hS ?rr3
      case rh3 => (intro wS hSw; (try dsimp only at hSw); go_split_ands; go_simp; try with_reducible rfl)
      try simp only [Act.put, List.setIfInBounds_toArray, List.set_cons_zero, List.set_cons_succ]
      refine wpAnyL_take (i := 5) (oi := { dst := some 17, op := Go.Op.move (Go.Operand.tmp 1), type := 23, pos := "l7_spent.go:79", after := #[], guard := none }) (v := ?rv5) rfl (by kernel_rfl) (by kernel_rfl) (by kernel_rfl) (by kernel_rfl) (fun _ _ _ h => h) (Or.inl ⟨by rfl, ?rh5⟩) hS ?rr5
      case rh5 => (intro wS hSw; (try dsimp only at hSw); go_split_ands; go_simp; try with_reducible rfl)
      try simp only [Act.put, List.setIfInBounds_toArray, List.set_cons_zero, List.set_cons_succ]
      refine wpAnyL_take (i := 6) (oi := { dst := some 18, op := Go.Op.move (Go.Operand.tmp 5), type := 3, pos := "l7_spent.go:79", after := #[], guard := none }) (v := ?rv6) rfl (by kernel_rfl) (by kernel_rfl) (by kernel_rfl) (by kernel_rfl) (fun _ _ _ h => h) (Or.inl ⟨by rfl, ?rh6⟩) hS ?rr6
      case rh6 => (intro wS hSw; (try dsimp only at hSw); go_split_ands; go_simp; try with_reducible rfl)
      try simp only [Act.put, List.setIfInBounds_toArray, List.set_cons_zero, List.set_cons_succ]
      refine wpAnyL_take (i := 7) (oi := { dst := some 19, op := Go.Op.indexAddr 23 (Go.Operand.tmp 17) (Go.Operand.tmp 18), type := 0, pos := "l7_spent.go:79", after := #[{ on := 5, ground := Go.Ground.data }, { on := 6, ground := Go.Ground.data }], guard := none }) (v := ?rv7) rfl (by kernel_rfl) (by kernel_rfl) (by kernel_rfl) (by kernel_rfl) (fun _ _ _ h => h) (Or.inl ⟨by rfl, ?rh7⟩) hS ?rr7
      case rh7 => (intro wS hSw; (try dsimp only at hSw); go_split_ands; go_simp; try with_reducible rfl)
      try simp only [Act.put, List.setIfInBounds_toArray, List.set_cons_zero, List.set_cons_succ]
      refine wpAnyL_take (i := 8) (oi := { dst := some 20, op := Go.Op.load 3 (Go.Operand.tmp 19), type := 3, pos := "l7_spent.go:79", after := #[{ on := 7, ground := Go.Ground.data }], guard := none }) (v := ?rv8) rfl (by kernel_rfl) (by kernel_rfl) (by kernel_rfl) (by kernel_rfl) (fun _ _ _ h => h) (Or.inl ⟨by rfl, ?rh8⟩) hS ?rr8
      case rh8 => (intro wS hSw; (try dsimp only at hSw); go_split_ands; go_simp; try with_reducible rfl)
      try simp only [Act.put, List.setIfInBounds_toArray, List.set_cons_zero, List.set_cons_succ]
      refine wpAnyL_one (i := 4) (oi := { dst := some 16, op := Go.Op.call { callee := Go.Callee.value (Go.Operand.func 67), args := #[Go.Operand.tmp 12, Go.Operand.tmp 15], argTypes := #[29, 23] }, type := 23, pos := "l7_spent.go:79", after := #[{ on := 0, ground := Go.Ground.data }, { on := 3, ground := Go.Ground.data }], guard := none }) (by kernel_rfl) rfl (fun Kr4 hKr4 => ?_)
      refine step_call (by rfl) 67 #[.agg #[.int .i64 m.size, .slice a m.doors.length c, .slice b m.keys.length d], .slice (some ⟨wb, woff, none⟩) k wcap] (by go_simp; try rfl) (HN7.out wr.drew (B1.out.drew) k (by omega) HIO.out) ?_
      rintro e w5 ⟨la, lc, rfl, hr, hr1, hr2, hb5⟩
      refine ⟨_, rfl, ?_⟩
      have hb5x : Below wr.heap.size wr w5 := (Below.refl wr.heap.size wr).drew.trans hb5
      have X5 := Lib.hid (X1.out.below hb5x)
      have B5 := Lib.hid (B1.out.trans (hb5x.mono (by omega)))
      have hz5 := hb5x.size
      have HLR := Lib.hid hr.row
      have hs5 : (fun (wq : World) => wq.cell? ⟨w.heap.size, 0, none⟩ = some (.int .i64 m.size) ∧ wq.cell? ⟨w.heap.size, 1, none⟩ = some (.slice a m.doors.length c) ∧ wq.cell? ⟨w.heap.size, 2, none⟩ = some (.slice b m.keys.length d) ∧ wq.cell? ⟨wb, woff + k, none⟩ = some (.int .i64 x)) w5 := ⟨X5.out.cells.1, X5.out.cells.2.1, X5.out.cells.2.2, (hb5x.cell (p := ⟨wb, woff + k, none⟩) (show wb < _ by omega)).trans P0.out⟩
      refine hKr4 _ _ (fun _ => hs5) ?_
      clear hS
      have hS := hs5
      try simp only [Act.put, List.setIfInBounds_toArray, List.set_cons_zero, List.set_cons_succ]
      refine wpAnyL_one (i := 9) (oi := { dst := some 21, op := Go.Op.call { callee := Go.Callee.value (Go.Operand.func 83), args := #[Go.Operand.tmp 16, Go.Operand.tmp 20], argTypes := #[23, 3] }, type := 4, pos := "l7_spent.go:79", after := #[{ on := 4, ground := Go.Ground.data }, { on := 8, ground := Go.Ground.data }, { on := 4, ground := Go.Ground.chain }], guard := none }) (by kernel_rfl) rfl (fun Kr9 hKr9 => ?_)
      refine step_call (by rfl) 83 #[.slice la (M.nextO m (M.behO m (walk.take k))).length lc, .int .i64 x] (by go_simp; try rfl) (l1Has_any w5 _ _ la lc _ x HLR.out (by omega)) ?_
      rintro e w6 ⟨rfl, rfl⟩
      refine ⟨_, rfl, ?_⟩
      have hs6 := hs5
      refine hKr9 _ _ (fun _ => hs6) ?_
      clear hS
      have hS := hs6
      try simp only [Act.put, List.setIfInBounds_toArray, List.set_cons_zero, List.set_cons_succ]
      refine wpAnyL_take (i := 10) (oi := { dst := some 22, op := Go.Op.unOp Go.UnOp.not 4 (Go.Operand.tmp 21), type := 4, pos := "l7_spent.go:79", after := #[{ on := 9, ground := Go.Ground.data }], guard := none }) (v := ?rv10) rfl (by kernel_rfl) (by kernel_rfl) (by kernel_rfl) (by kernel_rfl) (fun _ _ _ h => h) (Or.inl ⟨by rfl, ?rh10⟩) hS ?rr10
      case rh10 => (intro wS hSw; (try dsimp only at hSw); go_split_ands; go_simp; try with_reducible rfl)
      try simp only [Act.put, List.setIfInBounds_toArray, List.set_cons_zero, List.set_cons_succ]
      refine wpAnyL_done (by kernel_rfl) ?_ _
      cases q1 : M.memB (M.nextO m (M.behO m (walk.take k))) x with
      | false =>
        have HF := Lib.hid (HNO.out q1)
        clear q1
        go_wp2_with fail
        go_ret
        exact ⟨by rw [HF.out]; rfl, B5.out⟩
      | true =>
        have HI2 := Lib.hid (HYES.out q1)
        have B6 := Lib.hid (HBK.out.trans (hb5x.mono hzr))
        clear q1
        go_wp2_with fail
        go_roundw
        case rel => exact ⟨k + 1, by omega, by go_num, HI2.out, B6.out⟩
        case measure => simp [intOf]; omega
    · obtain rfl : k = walk.length := by omega
      have hio := HIO.out
      rw [List.take_of_length_le (Nat.le_refl _)] at hio
      have HF := Lib.hid hio
      clear hio
      go_wp2_with fail
      go_ret
      exact ⟨by rw [HF.out]; rfl, B1.out⟩
theorem ask7_any (w : World) (lo hi : Nat) (m : M.Mz) (a b : Option Addr) (c d : Nat) (h : MzIn lo hi w m a c b d) (hz : hi ≤ w.heap.size) (lo' hi' : Nat) (wa : Option Addr) (wcap : Nat) (walk : List Int) (hw : RowIn lo' hi' w wa (M.encIs walk)) (hz' : hi' ≤ w.heap.size) (hl : walk.length ≤ 1048576) (hcap : walk.length ≤ wcap) :
    Calls Try.prog 61 #[.agg #[.int .i64 m.size, .slice a m.doors.length c, .slice b m.keys.length d], .slice wa walk.length wcap] w (BoolPost w (M.askB m walk)) := by
  have H := Lib.hid h
  have HW := Lib.hid hw
  clear h hw
  go_enter Try.func61, Try.ntmps61
  go_upto_region 1 with fail
  refine wp_named ?_
  intro W hW
  have X1 := Lib.hid (show Box3 W w.heap.size 29 (.int .i64 m.size) (.slice a m.doors.length c) (.slice b m.keys.length d) by rw [hW]; exact Box3.new _ _ _ _ rfl)
  have HB := Lib.hid (show Below w.heap.size w W by rw [hW]; exact below_alloc _ _)
  clear hW
  have hzw := HB.out.size
  have hwl := X1.out.lt
  obtain ⟨c0, c1, c2⟩ := X1.out.cells
  go_wp2_with fail
  refine (l7Good_any W lo hi m a b c d (H.out.below HB.out hz) (by omega)).mono ?_
  rintro e w1 ⟨rfl, hb1⟩
  have X2 := Lib.hid (X1.out.below hb1)
  have B2 := Lib.hid (HB.out.trans (hb1.mono hzw))
  have hz1 := hb1.size
  have HAE : Hid (M.askB m walk = (M.goodB m && M.isO m walk)) := Lib.hid rfl
  clear hb1 c0 c1 c2
  cases q0 : M.goodB m with
  | false =>
    have HA := Lib.hid (show M.askB m walk = false by rw [HAE.out, q0]; rfl)
    clear q0
    go_wp2_with fail
    go_ret
    exact ⟨by rw [HA.out]; rfl, B2.out⟩
  | true =>
    have HV := Lib.hid (M.valid_of (M.good_maze q0))
    have hf := M.good_few q0
    have HA := Lib.hid (show M.askB m walk = M.isO m walk by rw [HAE.out, q0]; rfl)
    obtain ⟨c0, c1, c2⟩ := X2.out.cells
    clear q0
    go_wp2_with fail
    refine (opening7_any w1 lo hi m a b c d (H.out.below B2.out hz) (by omega) HV.out hf lo' hi' wa wcap walk (HW.out.below B2.out hz') (by omega) hl hcap).mono ?_
    rintro e w2 ⟨rfl, hb2⟩
    have B3 := Lib.hid (B2.out.trans (hb2.mono (by omega)))
    clear hb2 c0 c1 c2
    go_wp2_with fail
    go_ret
    exact ⟨by rw [HA.out]; rfl, B3.out⟩
theorem wins7_any (w : World) (lo hi : Nat) (m : M.Mz) (a b : Option Addr) (c d : Nat) (h : MzIn lo hi w m a c b d) (hz : hi ≤ w.heap.size) (V : M.Valid m) (lo' hi' : Nat) (wa : Option Addr) (wcap : Nat) (walk : List Int) (hw : RowIn lo' hi' w wa (M.encIs walk)) (hz' : hi' ≤ w.heap.size) (hl : walk.length ≤ 1048576) (_hcap : walk.length ≤ wcap) :
    Calls Try.prog 69 #[.agg #[.int .i64 m.size, .slice a m.doors.length c, .slice b m.keys.length d], .slice wa walk.length wcap] w (BoolPost w (M.winsB m walk)) := by
  have H := Lib.hid h
  have HW := Lib.hid hw
  have v12 := V.size12
  have v1 := V.size1
  have HV := Lib.hid V
  clear h hw V
  go_enter Try.func69, Try.ntmps69
  go_upto_region 1 with fail
  refine wp_named ?_
  intro W hW
  have X1 := Lib.hid (show Box3 W w.heap.size 29 (.int .i64 m.size) (.slice a m.doors.length c) (.slice b m.keys.length d) by rw [hW]; exact Box3.new _ _ _ _ rfl)
  have HB := Lib.hid (show Below w.heap.size w W by rw [hW]; exact below_alloc _ _)
  clear hW
  have hzw := HB.out.size
  have hwl := X1.out.lt
  have hw1 : IntKind.i64.wrap (m.size - 1) = m.size - 1 := IntWalk.i64_in _ (by omega)
  refine wp_region_late2 (fun (wq : World) => wq.cell? ⟨w.heap.size, 0, none⟩ = some (.int .i64 m.size) ∧ wq.cell? ⟨w.heap.size, 1, none⟩ = some (.slice a m.doors.length c) ∧ wq.cell? ⟨w.heap.size, 2, none⟩ = some (.slice b m.keys.length d)) [] 8 #[false, false, false, false, false, false, false, false] rfl rfl (by kernel_rfl) ?_
  have hS : (fun (wq : World) => wq.cell? ⟨w.heap.size, 0, none⟩ = some (.int .i64 m.size) ∧ wq.cell? ⟨w.heap.size, 1, none⟩ = some (.slice a m.doors.length c) ∧ wq.cell? ⟨w.heap.size, 2, none⟩ = some (.slice b m.keys.length d)) W.drew := ⟨X1.out.cells.1, X1.out.cells.2.1, X1.out.cells.2.2⟩
  refine wpAnyL_take (i := 0) (oi := { dst := some 5, op := Go.Op.load 29 (Go.Operand.tmp 2), type := 29, pos := "l7_spent.go:118", after := #[], guard := none }) (v := ?gv0) rfl (by kernel_rfl) (by kernel_rfl) (by kernel_rfl) (by kernel_rfl) (fun _ _ _ h => h) (Or.inl ⟨by rfl, ?gh0⟩) hS ?gr0
  case gh0 => (intro wS hSw; (try dsimp only at hSw); go_split_ands; go_simp; try with_reducible rfl)
  try simp only [Act.put, List.setIfInBounds_toArray, List.set_cons_zero, List.set_cons_succ]
  refine wpAnyL_take (i := 1) (oi := { dst := some 6, op := Go.Op.move (Go.Operand.tmp 1), type := 23, pos := "l7_spent.go:118", after := #[], guard := none }) (v := ?gv1) rfl (by kernel_rfl) (by kernel_rfl) (by kernel_rfl) (by kernel_rfl) (fun _ _ _ h => h) (Or.inl ⟨by rfl, ?gh1⟩) hS ?gr1
  case gh1 => (intro wS hSw; (try dsimp only at hSw); go_split_ands; go_simp; try with_reducible rfl)
  try simp only [Act.put, List.setIfInBounds_toArray, List.set_cons_zero, List.set_cons_succ]
  refine wpAnyL_take (i := 3) (oi := { dst := some 8, op := Go.Op.fieldAddr 29 (Go.Operand.tmp 2) 0, type := 0, pos := "l7_spent.go:118", after := #[], guard := none }) (v := ?gv3) rfl (by kernel_rfl) (by kernel_rfl) (by kernel_rfl) (by kernel_rfl) (fun _ _ _ h => h) (Or.inl ⟨by rfl, ?gh3⟩) hS ?gr3
  case gh3 => (intro wS hSw; (try dsimp only at hSw); go_split_ands; go_simp; try with_reducible rfl)
  try simp only [Act.put, List.setIfInBounds_toArray, List.set_cons_zero, List.set_cons_succ]
  refine wpAnyL_take (i := 4) (oi := { dst := some 9, op := Go.Op.load 3 (Go.Operand.tmp 8), type := 3, pos := "l7_spent.go:118", after := #[{ on := 3, ground := Go.Ground.data }], guard := none }) (v := ?gv4) rfl (by kernel_rfl) (by kernel_rfl) (by kernel_rfl) (by kernel_rfl) (fun _ _ _ h => h) (Or.inl ⟨by rfl, ?gh4⟩) hS ?gr4
  case gh4 => (intro wS hSw; (try dsimp only at hSw); go_split_ands; go_simp; try with_reducible rfl)
  try simp only [Act.put, List.setIfInBounds_toArray, List.set_cons_zero, List.set_cons_succ]
  refine wpAnyL_take (i := 5) (oi := { dst := some 10, op := Go.Op.binOp Go.BinOp.sub 3 (Go.Operand.tmp 9) (Go.Operand.const (Go.Value.int Go.IntKind.i64 1)) 3, type := 3, pos := "l7_spent.go:118", after := #[{ on := 4, ground := Go.Ground.data }], guard := none }) (v := ?gv5) rfl (by kernel_rfl) (by kernel_rfl) (by kernel_rfl) (by kernel_rfl) (fun _ _ _ h => h) (Or.inl ⟨by rfl, ?gh5⟩) hS ?gr5
  case gh5 => (intro wS hSw; (try dsimp only at hSw); go_split_ands; go_simp; try with_reducible rfl)
  try simp only [Act.put, List.setIfInBounds_toArray, List.set_cons_zero, List.set_cons_succ]
  refine wpAnyL_one (i := 2) (oi := { dst := some 7, op := Go.Op.call { callee := Go.Callee.value (Go.Operand.func 62), args := #[Go.Operand.tmp 5, Go.Operand.tmp 6], argTypes := #[29, 23] }, type := 23, pos := "l7_spent.go:118", after := #[{ on := 0, ground := Go.Ground.data }, { on := 1, ground := Go.Ground.data }], guard := none }) (by kernel_rfl) rfl (fun Kg2 hKg2 => ?_)
  refine step_call (by rfl) 62 #[.agg #[.int .i64 m.size, .slice a m.doors.length c, .slice b m.keys.length d], .slice wa walk.length wcap] (by go_simp; try rfl) (near7_any W.drew lo hi m a b c d (H.out.below (Below.drawnN HB.out 1) hz) (by show hi ≤ W.heap.size; omega) HV.out lo' hi' wa wcap walk (HW.out.below (Below.drawnN HB.out 1) hz') (by show hi' ≤ W.heap.size; omega) hl) ?_
  rintro e w5 ⟨la, lc, rfl, hr, hr1, hr2, hb5⟩
  refine ⟨_, rfl, ?_⟩
  have hb5x : Below W.heap.size W w5 := (Below.refl W.heap.size W).drew.trans hb5
  have X5 := Lib.hid (X1.out.below hb5x)
  have B5 := Lib.hid (HB.out.trans (hb5x.mono (by omega)))
  have HLR := Lib.hid hr.row
  have hnl := M.nearL_len m (M.behO m walk)
  have hs5 : (fun (wq : World) => wq.cell? ⟨w.heap.size, 0, none⟩ = some (.int .i64 m.size) ∧ wq.cell? ⟨w.heap.size, 1, none⟩ = some (.slice a m.doors.length c) ∧ wq.cell? ⟨w.heap.size, 2, none⟩ = some (.slice b m.keys.length d)) w5 := ⟨X5.out.cells.1, X5.out.cells.2.1, X5.out.cells.2.2⟩
  refine hKg2 _ _ (fun _ => hs5) ?_
  clear hS
  have hS := hs5
  try simp only [Act.put, List.setIfInBounds_toArray, List.set_cons_zero, List.set_cons_succ]
  refine wpAnyL_one (i := 6) (oi := { dst := some 11, op := Go.Op.call { callee := Go.Callee.value (Go.Operand.func 83), args := #[Go.Operand.tmp 7, Go.Operand.tmp 10], argTypes := #[23, 3] }, type := 4, pos := "l7_spent.go:118", after := #[{ on := 2, ground := Go.Ground.data }, { on := 5, ground := Go.Ground.data }, { on := 2, ground := Go.Ground.chain }], guard := none }) (by kernel_rfl) rfl (fun Kg6 hKg6 => ?_)
  refine step_call (by rfl) 83 #[.slice la (M.nearL m (M.behO m walk)).length lc, .int .i64 (m.size - 1)] (by go_simp; try rfl) (l1Has_any w5 _ _ la lc _ (m.size - 1) HLR.out (by omega)) ?_
  rintro e w6 ⟨rfl, rfl⟩
  refine ⟨_, rfl, ?_⟩
  have hs6 := hs5
  refine hKg6 _ _ (fun _ => hs6) ?_
  clear hS
  have hS := hs6
  try simp only [Act.put, List.setIfInBounds_toArray, List.set_cons_zero, List.set_cons_succ]
  refine wpAnyL_take (i := 7) (oi := { dst := some 4, op := Go.Op.assign (Go.Operand.tmp 11), type := 4, pos := "l7_spent.go:118", after := #[{ on := 6, ground := Go.Ground.data }, { on := 6, ground := Go.Ground.chain }, { on := 0, ground := Go.Ground.phase }, { on := 1, ground := Go.Ground.phase }, { on := 2, ground := Go.Ground.phase }, { on := 3, ground := Go.Ground.phase }, { on := 4, ground := Go.Ground.phase }, { on := 5, ground := Go.Ground.phase }, { on := 6, ground := Go.Ground.phase }], guard := none }) (v := ?gv7) rfl (by kernel_rfl) (by kernel_rfl) (by kernel_rfl) (by kernel_rfl) (fun _ _ _ h => h) (Or.inl ⟨by rfl, ?gh7⟩) hS ?gr7
  case gh7 => (intro wS hSw; (try dsimp only at hSw); go_split_ands; go_simp; try with_reducible rfl)
  try simp only [Act.put, List.setIfInBounds_toArray, List.set_cons_zero, List.set_cons_succ]
  refine wpAnyL_done (by kernel_rfl) ?_ _
  go_wp2_with fail
  go_ret
  exact ⟨rfl, B5.out⟩
end C
end Go.Proofs.Ythgmkkkfhbjhoaa
namespace Go.Proofs.Ythgmkkkfhbjhoaa
open Go.RowKit
namespace M
theorem ask_good7 {m : Mz} {l : List Int} (h : askB m l = true) : goodB m = true := by unfold askB at h; rw [Bool.and_eq_true] at h; exact h.1
theorem ask_isO7 {m : Mz} {l : List Int} (h : askB m l = true) : isO m l = true := by unfold askB at h; rw [Bool.and_eq_true] at h; exact h.2
end M
namespace C
set_option maxHeartbeats 3200000
set_option maxRecDepth 20000
theorem specIsOpn_lw (w : World) (lo hi : Nat) (m : M.Mz) (a b : Option Addr) (c d : Nat) (h : MzIn lo hi w m a c b d) (hz : hi ≤ w.heap.size) (_h1 : m.doors.length ≤ 1048576) (_h2 : m.keys.length ≤ 1048576) (lo' hi' : Nat) (wa : Option Addr) (wcap : Nat) (walk : List Int) (hw : RowIn lo' hi' w wa (M.encIs walk)) (hz' : hi' ≤ w.heap.size) (hl : walk.length ≤ 1048576) (hcap : walk.length ≤ wcap) (_u2 : wcap ≤ 9223372036854775807) (_u3 : ∀ z ∈ walk, -9223372036854775808 ≤ z ∧ z ≤ 9223372036854775807) :
    Calls Try.prog 25 #[.agg #[.int .i64 m.size, .slice a m.doors.length c, .slice b m.keys.length d], .slice wa walk.length wcap] w (BoolOkPost w (M.askB m walk) (M.goodB m)) := by
  have H := Lib.hid h
  have HW := Lib.hid hw
  clear h hw _u3
  go_enter Try.func25, Try.ntmps25
  go_upto_region 1 with fail
  refine wp_named ?_
  intro W hW
  have X1 := Lib.hid (show Box3 W w.heap.size 29 (.int .i64 m.size) (.slice a m.doors.length c) (.slice b m.keys.length d) by rw [hW]; exact Box3.new _ _ _ _ rfl)
  have HB := Lib.hid (show Below w.heap.size w W by rw [hW]; exact below_alloc _ _)
  clear hW
  have hzw := HB.out.size
  have hwl := X1.out.lt
  obtain ⟨c0, c1, c2⟩ := X1.out.cells
  go_wp2_with fail
  refine (l7Good_any W lo hi m a b c d (H.out.below HB.out hz) (by omega)).mono ?_
  rintro e w1 ⟨rfl, hb1⟩
  have X2 := Lib.hid (X1.out.below hb1)
  have B2 := Lib.hid (HB.out.trans (hb1.mono hzw))
  have hz1 := hb1.size
  clear hb1 c0 c1 c2
  have HAE : Hid (M.askB m walk = (M.goodB m && M.isO m walk)) := Lib.hid rfl
  cases q0 : M.goodB m with
  | false =>
    have HA := Lib.hid (show M.askB m walk = false by rw [HAE.out, q0]; rfl)
    have HG := Lib.hid q0
    clear q0
    go_wp2_with fail
    go_ret2
    exact ⟨by rw [HA.out, HG.out]; rfl, B2.out⟩
  | true =>
    have HV := Lib.hid (M.valid_of (M.good_maze q0))
    have hf := M.good_few q0
    have HA := Lib.hid (show M.askB m walk = M.isO m walk by rw [HAE.out, q0]; rfl)
    have HG := Lib.hid q0
    obtain ⟨c0, c1, c2⟩ := X2.out.cells
    clear q0
    go_wp2_with fail
    refine (opening7_any w1 lo hi m a b c d (H.out.below B2.out hz) (by omega) HV.out hf lo' hi' wa wcap walk (HW.out.below B2.out hz') (by omega) hl hcap).mono ?_
    rintro e w2 ⟨rfl, hb2⟩
    have B3 := Lib.hid (B2.out.trans (hb2.mono (by omega)))
    clear hb2 c0 c1 c2
    go_wp2_with fail
    go_ret2
    exact ⟨by rw [HA.out, HG.out]; rfl, B3.out⟩
theorem specNear_lw (w : World) (lo hi : Nat) (m : M.Mz) (a b : Option Addr) (c d : Nat) (h : MzIn lo hi w m a c b d) (hz : hi ≤ w.heap.size) (_h1 : m.doors.length ≤ 1048576) (_h2 : m.keys.length ≤ 1048576) (lo' hi' : Nat) (wa : Option Addr) (wcap : Nat) (walk : List Int) (hw : RowIn lo' hi' w wa (M.encIs walk)) (hz' : hi' ≤ w.heap.size) (hl : walk.length ≤ 1048576) (hcap : walk.length ≤ wcap) (_u2 : wcap ≤ 9223372036854775807) (_u3 : ∀ z ∈ walk, -9223372036854775808 ≤ z ∧ z ≤ 9223372036854775807) :
    Calls Try.prog 28 #[.agg #[.int .i64 m.size, .slice a m.doors.length c, .slice b m.keys.length d], .slice wa walk.length wcap] w (IntsOkPost w (M.nearV m walk) (M.askB m walk)) := by
  have H := Lib.hid h
  have HW := Lib.hid hw
  clear h hw _u3
  go_enter Try.func28, Try.ntmps28
  go_upto_region 1 with fail
  refine wp_named ?_
  intro W hW
  have X1 := Lib.hid (show Box3 W w.heap.size 29 (.int .i64 m.size) (.slice a m.doors.length c) (.slice b m.keys.length d) by rw [hW]; exact Box3.new _ _ _ _ rfl)
  have HB := Lib.hid (show Below w.heap.size w W by rw [hW]; exact below_alloc _ _)
  clear hW
  have hzw := HB.out.size
  have hwl := X1.out.lt
  obtain ⟨c0, c1, c2⟩ := X1.out.cells
  go_wp2_with fail
  refine (ask7_any W lo hi m a b c d (H.out.below HB.out hz) (by omega) lo' hi' wa wcap walk (HW.out.below HB.out hz') (by omega) hl hcap).mono ?_
  rintro e w1 ⟨rfl, hb1⟩
  have X2 := Lib.hid (X1.out.below hb1)
  have B2 := Lib.hid (HB.out.trans (hb1.mono hzw))
  have hz1 := hb1.size
  clear hb1 c0 c1 c2
  cases q0 : M.askB m walk with
  | false =>
    have HA := Lib.hid q0
    clear q0
    go_wp2_with fail
    go_ret2
    rw [HA.out, show M.nearV m walk = [] by unfold M.nearV; rw [HA.out]; rfl]
    exact intsOk_end (l := []) (ownsRow_empty _ _ _ _ (by omega)) (B2.out.alloc (by omega) _)
  | true =>
    have HA := Lib.hid q0
    have HV := Lib.hid (M.valid_of (M.good_maze (M.ask_good7 q0)))
    have HIO := Lib.hid (M.ask_isO7 q0)
    have hl30 : walk.length ≤ 30 := by have h1 := M.isO_len HV.out (M.ask_isO7 q0); have h2 := M.good_few (M.ask_good7 q0); omega
    obtain ⟨c0, c1, c2⟩ := X2.out.cells
    clear q0
    go_wp2_with fail
    refine (near7_any w1 lo hi m a b c d (H.out.below B2.out hz) (by omega) HV.out lo' hi' wa wcap walk (HW.out.below B2.out hz') (by omega) hl).mono ?_
    rintro e w3 ⟨ra, rc, rfl, hr, hr1, hr2, hb3⟩
    have HR := Lib.hid hr
    have B5 := Lib.hid (B2.out.trans (hb3.mono (by omega)))
    clear hr hb3 c0 c1 c2
    go_wp2_with fail
    go_ret2
    rw [HA.out, show M.nearV m walk = M.nearL m (M.behO m walk) by unfold M.nearV; rw [if_pos HA.out]]
    exact ⟨ra, rc, rfl, HR.out.mono (by omega) (Nat.le_refl _), hr1, hr2, B5.out⟩
theorem specLeft_lw (w : World) (lo hi : Nat) (m : M.Mz) (a b : Option Addr) (c d : Nat) (h : MzIn lo hi w m a c b d) (hz : hi ≤ w.heap.size) (_h1 : m.doors.length ≤ 1048576) (_h2 : m.keys.length ≤ 1048576) (lo' hi' : Nat) (wa : Option Addr) (wcap : Nat) (walk : List Int) (hw : RowIn lo' hi' w wa (M.encIs walk)) (hz' : hi' ≤ w.heap.size) (hl : walk.length ≤ 1048576) (hcap : walk.length ≤ wcap) (_u2 : wcap ≤ 9223372036854775807) (_u3 : ∀ z ∈ walk, -9223372036854775808 ≤ z ∧ z ≤ 9223372036854775807) :
    Calls Try.prog 30 #[.agg #[.int .i64 m.size, .slice a m.doors.length c, .slice b m.keys.length d], .slice wa walk.length wcap] w (IntsOkPost w (M.leftV m walk) (M.askB m walk)) := by
  have H := Lib.hid h
  have HW := Lib.hid hw
  clear h hw _u3
  go_enter Try.func30, Try.ntmps30
  go_upto_region 1 with fail
  refine wp_named ?_
  intro W hW
  have X1 := Lib.hid (show Box3 W w.heap.size 29 (.int .i64 m.size) (.slice a m.doors.length c) (.slice b m.keys.length d) by rw [hW]; exact Box3.new _ _ _ _ rfl)
  have HB := Lib.hid (show Below w.heap.size w W by rw [hW]; exact below_alloc _ _)
  clear hW
  have hzw := HB.out.size
  have hwl := X1.out.lt
  obtain ⟨c0, c1, c2⟩ := X1.out.cells
  go_wp2_with fail
  refine (ask7_any W lo hi m a b c d (H.out.below HB.out hz) (by omega) lo' hi' wa wcap walk (HW.out.below HB.out hz') (by omega) hl hcap).mono ?_
  rintro e w1 ⟨rfl, hb1⟩
  have X2 := Lib.hid (X1.out.below hb1)
  have B2 := Lib.hid (HB.out.trans (hb1.mono hzw))
  have hz1 := hb1.size
  clear hb1 c0 c1 c2
  cases q0 : M.askB m walk with
  | false =>
    have HA := Lib.hid q0
    clear q0
    go_wp2_with fail
    go_ret2
    rw [HA.out, show M.leftV m walk = [] by unfold M.leftV; rw [HA.out]; rfl]
    exact intsOk_end (l := []) (ownsRow_empty _ _ _ _ (by omega)) (B2.out.alloc (by omega) _)
  | true =>
    have HA := Lib.hid q0
    have HV := Lib.hid (M.valid_of (M.good_maze (M.ask_good7 q0)))
    have HIO := Lib.hid (M.ask_isO7 q0)
    have hl30 : walk.length ≤ 30 := by have h1 := M.isO_len HV.out (M.ask_isO7 q0); have h2 := M.good_few (M.ask_good7 q0); omega
    obtain ⟨c0, c1, c2⟩ := X2.out.cells
    clear q0
    go_wp2_with fail
    refine (left7_any w1 lo hi m a b c d (H.out.below B2.out hz) (by omega) HV.out lo' hi' wa wcap walk (HW.out.below B2.out hz') (by omega) hl30 HIO.out).mono ?_
    rintro e w3 ⟨ra, rc, rfl, hr, hr1, hr2, hb3⟩
    have HR := Lib.hid hr
    have B5 := Lib.hid (B2.out.trans (hb3.mono (by omega)))
    clear hr hb3 c0 c1 c2
    go_wp2_with fail
    go_ret2
    rw [HA.out, show M.leftV m walk = M.leftL m (M.behO m walk) by unfold M.leftV; rw [if_pos HA.out]]
    exact ⟨ra, rc, rfl, HR.out.mono (by omega) (Nat.le_refl _), hr1, hr2, B5.out⟩
theorem specNext7_lw (w : World) (lo hi : Nat) (m : M.Mz) (a b : Option Addr) (c d : Nat) (h : MzIn lo hi w m a c b d) (hz : hi ≤ w.heap.size) (_h1 : m.doors.length ≤ 1048576) (_h2 : m.keys.length ≤ 1048576) (lo' hi' : Nat) (wa : Option Addr) (wcap : Nat) (walk : List Int) (hw : RowIn lo' hi' w wa (M.encIs walk)) (hz' : hi' ≤ w.heap.size) (hl : walk.length ≤ 1048576) (hcap : walk.length ≤ wcap) (_u2 : wcap ≤ 9223372036854775807) (_u3 : ∀ z ∈ walk, -9223372036854775808 ≤ z ∧ z ≤ 9223372036854775807) :
    Calls Try.prog 32 #[.agg #[.int .i64 m.size, .slice a m.doors.length c, .slice b m.keys.length d], .slice wa walk.length wcap] w (IntsOkPost w (M.nextV m walk) (M.askB m walk)) := by
  have H := Lib.hid h
  have HW := Lib.hid hw
  clear h hw _u3
  go_enter Try.func32, Try.ntmps32
  go_upto_region 1 with fail
  refine wp_named ?_
  intro W hW
  have X1 := Lib.hid (show Box3 W w.heap.size 29 (.int .i64 m.size) (.slice a m.doors.length c) (.slice b m.keys.length d) by rw [hW]; exact Box3.new _ _ _ _ rfl)
  have HB := Lib.hid (show Below w.heap.size w W by rw [hW]; exact below_alloc _ _)
  clear hW
  have hzw := HB.out.size
  have hwl := X1.out.lt
  obtain ⟨c0, c1, c2⟩ := X1.out.cells
  go_wp2_with fail
  refine (ask7_any W lo hi m a b c d (H.out.below HB.out hz) (by omega) lo' hi' wa wcap walk (HW.out.below HB.out hz') (by omega) hl hcap).mono ?_
  rintro e w1 ⟨rfl, hb1⟩
  have X2 := Lib.hid (X1.out.below hb1)
  have B2 := Lib.hid (HB.out.trans (hb1.mono hzw))
  have hz1 := hb1.size
  clear hb1 c0 c1 c2
  cases q0 : M.askB m walk with
  | false =>
    have HA := Lib.hid q0
    clear q0
    go_wp2_with fail
    go_ret2
    rw [HA.out, show M.nextV m walk = [] by unfold M.nextV; rw [HA.out]; rfl]
    exact intsOk_end (l := []) (ownsRow_empty _ _ _ _ (by omega)) (B2.out.alloc (by omega) _)
  | true =>
    have HA := Lib.hid q0
    have HV := Lib.hid (M.valid_of (M.good_maze (M.ask_good7 q0)))
    have HIO := Lib.hid (M.ask_isO7 q0)
    have hl30 : walk.length ≤ 30 := by have h1 := M.isO_len HV.out (M.ask_isO7 q0); have h2 := M.good_few (M.ask_good7 q0); omega
    obtain ⟨c0, c1, c2⟩ := X2.out.cells
    clear q0
    go_wp2_with fail
    refine (next7_any w1 lo hi m a b c d (H.out.below B2.out hz) (by omega) HV.out lo' hi' wa wcap walk (HW.out.below B2.out hz') (by omega) hl30 HIO.out).mono ?_
    rintro e w3 ⟨ra, rc, rfl, hr, hr1, hr2, hb3⟩
    have HR := Lib.hid hr
    have B5 := Lib.hid (B2.out.trans (hb3.mono (by omega)))
    clear hr hb3 c0 c1 c2
    go_wp2_with fail
    go_ret2
    rw [HA.out, show M.nextV m walk = M.nextO m (M.behO m walk) by unfold M.nextV; rw [if_pos HA.out]]
    exact ⟨ra, rc, rfl, HR.out.mono (by omega) (Nat.le_refl _), hr1, hr2, B5.out⟩
theorem specWins_lw (w : World) (lo hi : Nat) (m : M.Mz) (a b : Option Addr) (c d : Nat) (h : MzIn lo hi w m a c b d) (hz : hi ≤ w.heap.size) (_h1 : m.doors.length ≤ 1048576) (_h2 : m.keys.length ≤ 1048576) (lo' hi' : Nat) (wa : Option Addr) (wcap : Nat) (walk : List Int) (hw : RowIn lo' hi' w wa (M.encIs walk)) (hz' : hi' ≤ w.heap.size) (hl : walk.length ≤ 1048576) (hcap : walk.length ≤ wcap) (_u2 : wcap ≤ 9223372036854775807) (_u3 : ∀ z ∈ walk, -9223372036854775808 ≤ z ∧ z ≤ 9223372036854775807) :
    Calls Try.prog 34 #[.agg #[.int .i64 m.size, .slice a m.doors.length c, .slice b m.keys.length d], .slice wa walk.length wcap] w (BoolOkPost w (M.winV m walk) (M.askB m walk)) := by
  have H := Lib.hid h
  have HW := Lib.hid hw
  clear h hw _u3
  go_enter Try.func34, Try.ntmps34
  go_upto_region 1 with fail
  refine wp_named ?_
  intro W hW
  have X1 := Lib.hid (show Box3 W w.heap.size 29 (.int .i64 m.size) (.slice a m.doors.length c) (.slice b m.keys.length d) by rw [hW]; exact Box3.new _ _ _ _ rfl)
  have HB := Lib.hid (show Below w.heap.size w W by rw [hW]; exact below_alloc _ _)
  clear hW
  have hzw := HB.out.size
  have hwl := X1.out.lt
  obtain ⟨c0, c1, c2⟩ := X1.out.cells
  go_wp2_with fail
  refine (ask7_any W lo hi m a b c d (H.out.below HB.out hz) (by omega) lo' hi' wa wcap walk (HW.out.below HB.out hz') (by omega) hl hcap).mono ?_
  rintro e w1 ⟨rfl, hb1⟩
  have X2 := Lib.hid (X1.out.below hb1)
  have B2 := Lib.hid (HB.out.trans (hb1.mono hzw))
  have hz1 := hb1.size
  clear hb1 c0 c1 c2
  cases q0 : M.askB m walk with
  | false =>
    have HA := Lib.hid q0
    clear q0
    go_wp2_with fail
    go_ret2
    exact ⟨by rw [HA.out, show M.winV m walk = false by unfold M.winV; rw [HA.out]; rfl]; rfl, B2.out⟩
  | true =>
    have HA := Lib.hid q0
    have HV := Lib.hid (M.valid_of (M.good_maze (M.ask_good7 q0)))
    have HIO := Lib.hid (M.ask_isO7 q0)
    have hl30 : walk.length ≤ 30 := by have h1 := M.isO_len HV.out (M.ask_isO7 q0); have h2 := M.good_few (M.ask_good7 q0); omega
    obtain ⟨c0, c1, c2⟩ := X2.out.cells
    clear q0
    go_wp2_with fail
    refine (wins7_any w1 lo hi m a b c d (H.out.below B2.out hz) (by omega) HV.out lo' hi' wa wcap walk (HW.out.below B2.out hz') (by omega) hl hcap).mono ?_
    rintro e w3 ⟨rfl, hb3⟩
    have B5 := Lib.hid (B2.out.trans (hb3.mono (by omega)))
    clear hb3 c0 c1 c2
    go_wp2_with fail
    go_ret2
    exact ⟨by rw [HA.out, show M.winV m walk = M.winsB m walk by unfold M.winV; rw [HA.out]; rfl]; rfl, B5.out⟩
end C
end Go.Proofs.Ythgmkkkfhbjhoaa
