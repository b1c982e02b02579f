/-
  CONTRACTS of impl.joinSets and keysFor: sets joined, the keys of some nodes that belong to a world; what lay in memory stays. Condition: valid worlds, numbers of nodes below 4096.
-/
import Derived.Test.YtbcobheiofajeaaWrdM
import Derived.Test.YtbcobheiofajeaaWlS
import Derived.Test.YtbcobheiofajeaaWDIntSO
import Derived.Maps.AppendAt
namespace Go.Proofs.Ytbcobheiofajeaa
open Go.RowKit
namespace M
theorem orF_take {l : List Int} {k : Nat} (h : k < l.length) (z : Int) : orF z (l.take (k + 1)) = bits .or .i64 (orF z (l.take k)) l[k] := by
  rw [List.take_succ_eq_append_getElem h, orF_append, orF_one]
/-- the keys of the first p nodes of a list that belong to world i -/
noncomputable def partK (w : Wl) (i : Int) (j : Nat) (l : List Int) (p : Nat) : List Int := ((l.take p).filter fun x => decide ((wo w j).getD x.toNat 0 = i)).map fun x => (wm w j).keys.getD x.toNat 0
theorem partK_zero (w : Wl) (i : Int) (j : Nat) (l : List Int) : partK w i j l 0 = [] := by unfold partK; rw [List.take_zero]; rfl
theorem partK_yes {w : Wl} {i : Int} {j : Nat} {l : List Int} {p : Nat} (h : p < l.length) (he : (wo w j).getD l[p].toNat 0 = i) : partK w i j l (p + 1) = partK w i j l p ++ [(wm w j).keys.getD l[p].toNat 0] := by
  unfold partK
  rw [List.take_succ_eq_append_getElem h, List.filter_append, List.map_append, List.filter_cons, if_pos (decide_eq_true he), List.filter_nil]
  rfl
theorem partK_no {w : Wl} {i : Int} {j : Nat} {l : List Int} {p : Nat} (h : p < l.length) (he : (wo w j).getD l[p].toNat 0 ≠ i) : partK w i j l (p + 1) = partK w i j l p := by
  unfold partK
  rw [List.take_succ_eq_append_getElem h, List.filter_append, List.map_append, List.filter_cons, if_neg (by rw [decide_eq_false he]; decide), List.filter_nil, List.map_nil, List.append_nil]
theorem partK_all (w : Wl) (i : Int) (j N : Nat) : partK w i j (digsTo N 12) (digsTo N 12).length = keysJ9 w i j N 12 := by unfold partK keysJ9; rw [List.take_length]
theorem partK_len (w : Wl) (i : Int) (j : Nat) (l : List Int) (p : Nat) : (partK w i j l p).length ≤ l.length := by
  unfold partK
  rw [List.length_map]
  exact Nat.le_trans (List.length_filter_le ..) (by rw [List.length_take]; omega)
end M
namespace C
set_option linter.unusedVariables false
set_option maxHeartbeats 3200000
set_option maxRecDepth 20000
theorem own_ne_b2 {w : World} {B g : Nat} {e T : TypeId} {size : Nat} {v x y : Value} {n : Nat} {xs : List Value} (h : w.ownsRow B e size v n xs) (hb : Box2 w g T x y) (hne : e ≠ T) : v.ownBlock ≠ some g := by
  rcases h.2 with ⟨rfl, _⟩ | ⟨g', cap, cur, rfl, _, hh, _⟩
  · simp [Value.ownBlock]
  · intro he
    have : g' = g := by simpa [Value.ownBlock] using he
    subst this
    unfold Box2 at hb
    rw [hh] at hb
    injection hb with hb
    injection hb with _ ht
    exact hne ht
theorem joinSets_any (w : World) (lo hi : Nat) (a : Option Addr) (c : Nat) (l : List Int) (h : RowIn lo hi w a (M.encIs l)) (hl : l.length ≤ 1048576) :
    Calls Try.prog 110 #[.slice a l.length c] w fun e w' => e = .returned (.int .i64 (M.orF 0 l)) ∧ w = w' := by
  have H := Lib.hid h
  clear h
  have HS := Lib.hid (fun k (hk : k < l.length) => M.orF_take (l := l) hk 0)
  go_enter Try.func110, Try.ntmps110
  go_wp2_with fail
  go_loop [3, 5, 8] (fun v3 _ v8 => ∃ (k : Nat), k ≤ l.length ∧ v8 = .int .i64 (k : Int) ∧ v3 = .int .i64 (M.orF 0 (l.take k))) (fun _ _ v8 => l.length - (intOf v8).toNat)
  case atStart => exact ⟨0, Nat.zero_le _, rfl, rfl⟩
  case round =>
    obtain ⟨k, hk, rfl, rfl⟩ := hrel
    by_cases hlt : k < l.length
    · obtain ⟨b, off, rfl, _, _, hc0⟩ := H.out.at_ (k := k) (by rw [M.encIs_len]; exact hlt)
      have p0 := hc0 _ _ (M.encIs_at hlt)
      have hs := HS.out k hlt
      have HSK := Lib.hid hs
      clear hc0 hs
      generalize M.orF 0 (l.take k) = sk at *
      go_wp2_with fail
      go_round
      case rel => exact ⟨k + 1, by omega, by go_num, by rw [HSK.out]⟩
      case measure => simp [intOf]; omega
    · obtain rfl : k = l.length := by omega
      have HF : Hid (M.orF 0 (l.take l.length) = M.orF 0 l) := Lib.hid (by rw [List.take_length])
      rw [HF.out]
      go_wp2_with fail
      go_ret
      exact ⟨rfl, rfl⟩
theorem keysFor_any (w : World) (lo hi : Nat) (m : M.Wl) (a b : Option Addr) (c d : Nat) (h : WlIn lo hi w m a c b d) (hz : hi ≤ w.heap.size) (W : M.WlOK m) (i : Int) (lo' hi' : Nat) (ta : Option Addr) (tc : Nat) (T : List Int) (hT : RowIn lo' hi' w ta (M.encIs T)) (hz' : hi' ≤ w.heap.size) (hTl : T.length = m.mazes.length) (hTb : ∀ z ∈ T, 0 ≤ z ∧ z < 4096) (hTd : ∀ (j : Nat), j < m.mazes.length → ∀ x ∈ M.digsTo (T.getD j 0).toNat 12, x < (M.wm m j).size) :
    Calls Try.prog 79 #[.agg #[.slice a m.mazes.length c, .slice b m.owners.length d], .int .i64 i, .slice ta m.mazes.length tc] w fun e w' => e = .returned (.int .i64 (M.orF 0 (M.keysL m i T m.mazes.length))) ∧ Below w.heap.size w w' := by
  obtain ⟨i0, hi0, hz0, hzz1, hz2⟩ := info_parts infoI
  obtain ⟨⟨L, O, r⟩, q1, q2, q3, q4⟩ := h
  have R := Lib.hid r
  have HL1 := Lib.hid r.lenM
  have HL2 := Lib.hid (r.lenO.trans W.same)
  have HWW := Lib.hid W.world
  have n3 := W.n3
  have HT := Lib.hid hT
  have HTL := Lib.hid hTl
  have HTB := Lib.hid hTb
  have HTD := Lib.hid hTd
  have HKL := Lib.hid (fun j => M.keysL_len m i T j)
  clear r hT hTl hTb hTd
  have hsame := W.same
  generalize hnm : m.mazes.length = n at *
  generalize m.owners.length = no at *
  clear hnm
  subst hsame
  go_enter Try.func79, Try.ntmps79
  go_wp2_with fail
  go_loopw [7, 8, 9, 11, 16] (fun v7 _ _ _ v16 wr => ∃ (j : Nat), j ≤ no ∧ v16 = .int .i64 (j : Int) ∧ wr.ownsRow w.heap.size 3 1 v7 (M.keysL m i T j).length (M.encIs (M.keysL m i T j)) ∧ Box2 wr w.heap.size 30 (.slice a no c) (.slice b no d) ∧ Below w.heap.size w wr) (fun _ _ _ _ v16 _ => no - (intOf v16).toNat)
  case atStart => exact ⟨0, Nat.zero_le _, rfl, (by have h9 := ownsRow_empty (w.alloc (.cells #[.slice a no c, .slice b no d] 30)) w.heap.size 3 1 (Below.size (below_alloc _ _)); rw [World.size_alloc] at h9; exact h9), (Box2.new _ _ _ rfl).alloc _, (below_alloc _ _).alloc (by simp) _⟩
  case round =>
    obtain ⟨wo, rfl⟩ : ∃ W, W = wr := ⟨_, rfl⟩
    obtain ⟨j, hj, rfl, hown, hbox, hnx⟩ := hrel
    have HO := Lib.hid hown
    have HN := Lib.hid hnx
    have HBX := Lib.hid hbox
    have hzr := hnx.size
    have hbl := hbox.lt
    obtain ⟨bx0, bx1⟩ := hbox.cells
    clear hown hnx hbox
    by_cases hjn : j < no
    · have hkl : j < L.length := by rw [HL1.out]; exact hjn
      have hkl' : j < O.length := by rw [HL2.out]; exact hjn
      have hkt : j < T.length := by rw [HTL.out]; exact hjn
      obtain ⟨mb, mo, ea, _, hmb, hc0⟩ := (R.out.mazes.turned (Turned.of_below HN.out 0 0) hz (.inr (Nat.zero_le _))).at_ (k := j * 3) (by rw [encMs_len]; omega)
      obtain ⟨ob, oo, eb, _, hob, hd0⟩ := (R.out.owners.turned (Turned.of_below HN.out 0 0) hz (.inr (Nat.zero_le _))).at_ (k := j) (by rw [encOs_len]; omega)
      obtain ⟨tb, to', et, _, htb, ht0⟩ := (HT.out.turned (Turned.of_below HN.out 0 0) hz' (.inr (Nat.zero_le _))).at_ (k := j) (by rw [M.encIs_len]; omega)
      have c0 := hc0 _ _ (encMs_at0 hkl)
      have c1 : wo.cell? ⟨mb, mo + j * 3 + 1, none⟩ = some (.slice L[j].2.1 L[j].1.doors.length L[j].2.2.1) := hc0 _ _ (encMs_at1 hkl)
      have c2 : wo.cell? ⟨mb, mo + j * 3 + 2, none⟩ = some (.slice L[j].2.2.2.1 L[j].1.keys.length L[j].2.2.2.2) := hc0 _ _ (encMs_at2 hkl)
      have d0 := hd0 _ _ (encOs_at hkl')
      have t0 := ht0 _ _ (M.encIs_at hkt)
      obtain ⟨nT, hnT⟩ : ∃ nT : Nat, T[j] = (nT : Int) := ⟨T[j].toNat, by have := HTB.out _ (List.getElem_mem hkt); omega⟩
      have hnT2 : nT < 4096 := by have := HTB.out _ (List.getElem_mem hkt); omega
      have hTj : (T.getD j 0).toNat = nT := by rw [List.getD_eq_getElem?_getD, List.getElem?_eq_getElem hkt, Option.getD_some, hnT]; rfl
      rw [hnT] at t0
      have hwm : Hid (M.wm m j = L[j].1) := Lib.hid (R.out.wm hkl)
      have hwo : Hid (M.wo m j = O[j].1) := Lib.hid (R.out.wo hkl')
      have HMZ := Lib.hid (show MzIn lo hi w L[j].1 L[j].2.1 L[j].2.2.1 L[j].2.2.2.1 L[j].2.2.2.2 from R.out.maze _ (List.getElem_mem hkl))
      have HOW := Lib.hid (R.out.owner _ (List.getElem_mem hkl')).row
      have hwj := HWW.out j hjn
      rw [hwm.out, hwo.out] at hwj
      have HV := Lib.hid (M.valid_of hwj.1)
      have HOL := Lib.hid hwj.2.1
      have HDG := Lib.hid (show ∀ x ∈ M.digsTo nT 12, x < L[j].1.size from by have := HTD.out j hjn; rw [hTj, hwm.out] at this; exact this)
      have HKS : Hid (M.keysL m i T (j + 1) = M.keysL m i T j ++ M.partK m i j (M.digsTo nT 12) (M.digsTo nT 12).length) := Lib.hid (by rw [M.partK_all, ← hTj]; rfl)
      have HPY := Lib.hid (fun (p : Nat) (hp : p < (M.digsTo nT 12).length) (he : (M.wo m j).getD ((M.digsTo nT 12)[p]'hp).toNat 0 = i) => M.partK_yes (w := m) (i := i) (j := j) (l := M.digsTo nT 12) hp he)
      have HPN := Lib.hid (fun (p : Nat) (hp : p < (M.digsTo nT 12).length) (he : (M.wo m j).getD ((M.digsTo nT 12)[p]'hp).toNat 0 ≠ i) => M.partK_no (w := m) (i := i) (j := j) (l := M.digsTo nT 12) hp he)
      have HPL := Lib.hid (fun p => M.partK_len m i j (M.digsTo nT 12) p)
      have hdl := M.digsTo_len nT 12
      rw [hwo.out] at HPY HPN
      rw [hwm.out] at HPY
      have hkl3 := HKL.out j
      have HPZ := Lib.hid (M.partK_zero m i j (M.digsTo nT 12))
      have HDD := Lib.hid (fun p (hp : p < (M.digsTo nT 12).length) => M.mem_digsTo.1 (List.getElem_mem hp))
      subst ea
      subst eb
      subst et
      clear hc0 hd0 ht0 hwj hnT hTj
      generalize L[j].1 = mk at *
      generalize L[j].2.1 = x1 at *
      generalize L[j].2.2.1 = x2 at *
      generalize L[j].2.2.2.1 = x3 at *
      generalize L[j].2.2.2.2 = x4 at *
      generalize O[j].1 = ok at *
      generalize O[j].2.1 = y1 at *
      generalize O[j].2.2 = y2 at *
      go_upto_region 5 with fail
      refine wp_named ?_
      intro W1 hW
      have hbW : Below wo.heap.size wo W1 := by
        rw [hW]
        refine ⟨rfl, rfl, rfl, by simp, fun i hi => ?_⟩
        exact Below.heap_alloc wo _ i hi
      have y3 := Lib.hid (show Box3 W1 wo.heap.size 55 (.int .i64 mk.size) (.slice x1 mk.doors.length x2) (.slice x3 mk.keys.length x4) from by rw [hW]; exact Box3.new _ _ _ _ rfl)
      clear hW
      have HBW := Lib.hid (HN.out.trans (hbW.mono hzr))
      have hbox2 := Lib.hid (HBX.out.below hbW)
      have t1 : W1.cell? ⟨tb, to' + j, none⟩ = some (.int .i64 (nT : Int)) := (hbW.cell (p := ⟨tb, to' + j, none⟩) (show tb < wo.heap.size by omega)).trans t0
      have hzW := hbW.size
      have HO1 := Lib.hid (own_below HO.out hbW)
      have HBR := Lib.hid (own_base HO.out)
      clear bx0 bx1 c0 c1 c2 t0 hbW
      go_wp2_with fail
      refine (digits_any nT hnT2 W1).mono ?_
      rintro e w5 ⟨da, dc, rfl, hod, hod1, hod2, hb5⟩
      have HD5 := Lib.hid hod
      have hz5 := hb5.size
      have HB5 := Lib.hid (HBW.out.trans (hb5.mono (Nat.le_trans hzr hzW)))
      have hbox5 := Lib.hid (hbox2.out.below hb5)
      have y5 := Lib.hid (y3.out.below hb5)
      have HO5 := Lib.hid (own_below HO1.out hb5)
      have d5 : w5.cell? ⟨ob, oo + j, none⟩ = some (.slice y1 ok.length y2) := (HB5.out.cell (p := ⟨ob, oo + j, none⟩) (show ob < w.heap.size by omega)).trans ((HN.out.cell (p := ⟨ob, oo + j, none⟩) (show ob < w.heap.size by omega)).symm.trans d0)
      clear hod hb5 hbox2 y3 HO1 t1 d0
      go_wp2_with fail
      go_loopw [7, 11, 27] (fun v7 _ v27 wr => ∃ (p : Nat), p ≤ (M.digsTo nT 12).length ∧ v27 = .int .i64 (p : Int) ∧ wr.ownsRow w.heap.size 3 1 v7 (M.keysL m i T j ++ M.partK m i j (M.digsTo nT 12) p).length (M.encIs (M.keysL m i T j ++ M.partK m i j (M.digsTo nT 12) p)) ∧ (∀ z, v7.ownBlock = some z → z < W1.heap.size ∨ w5.heap.size ≤ z) ∧ Box2 wr w.heap.size 30 (.slice (some ⟨mb, mo, none⟩) no c) (.slice (some ⟨ob, oo, none⟩) no d) ∧ Box3 wr wo.heap.size 55 (.int .i64 mk.size) (.slice x1 mk.doors.length x2) (.slice x3 mk.keys.length x4) ∧ OwnAt W1.heap.size w5.heap.size wr 3 da (M.encIs (M.digsTo nT 12)) ∧ w5.heap.size ≤ wr.heap.size ∧ Below w.heap.size w wr) (fun _ _ v27 _ => (M.digsTo nT 12).length - (intOf v27).toNat)
      case atStart => exact ⟨0, Nat.zero_le _, rfl, by rw [HPZ.out, List.append_nil]; exact HO5.out, fun z hzq => .inl (by have := (HO.out.lt z hzq).2; omega), hbox5.out, y5.out, HD5.out, Nat.le_refl _, HB5.out⟩
      case round =>
        obtain ⟨p, hp, rfl, hown6, hblk6, hbox6, hy6, hd6, hz6, hn6⟩ := hrel
        have HO6 := Lib.hid hown6
        have HK6 := Lib.hid hblk6
        have HX6 := Lib.hid hbox6
        have HY6 := Lib.hid hy6
        have HD6 := Lib.hid hd6
        have HN6 := Lib.hid hn6
        have hzr6 := hn6.size
        obtain ⟨bx0, bx1⟩ := hbox6.cells
        obtain ⟨m0, m1, m2⟩ := hy6.cells
        have hbl6 := hbox6.lt
        have hyl6 := hy6.lt
        clear hown6 hblk6 hbox6 hy6 hd6 hn6
        by_cases hpl : p < (M.digsTo nT 12).length
        · obtain ⟨xp, hxp, hxp12, _⟩ := HDD.out p hpl
          have hxs := HDG.out _ (List.getElem_mem hpl)
          have HPYp := HPY.out p hpl
          have HPNp := HPN.out p hpl
          obtain ⟨gb, go', eg, hg1, hg2, hg0⟩ := HD6.out.row.at_ (k := p) (by rw [M.encIs_len]; exact hpl)
          have g0 := hg0 _ _ (M.encIs_at hpl)
          rw [hxp] at g0 hxs HPYp HPNp
          have hV := HV.out
          have hkeyl := hV.keysLen
          have hxo : xp < ok.length := by have := HOL.out; omega
          have hxk : xp < mk.keys.length := by omega
          obtain ⟨yb, yo, ey, _, hyb, hy0⟩ := (HOW.out.turned (Turned.of_below HN6.out 0 0) hz (.inr (Nat.zero_le _))).at_ (k := xp) (by rw [M.encIs_len]; exact hxo)
          have u0 := hy0 _ _ (M.encIs_at hxo)
          obtain ⟨kb, ko, ek, _, hkb, hk0⟩ := (HMZ.out.keys.turned (Turned.of_below HN6.out 0 0) hz (.inr (Nat.zero_le _))).at_ (k := xp) (by rw [M.encIs_len]; exact hxk)
          have v0 := hk0 _ _ (M.encIs_at hxk)
          have e6 : wr.cell? ⟨ob, oo + j, none⟩ = some (.slice y1 ok.length y2) := (HN6.out.cell (p := ⟨ob, oo + j, none⟩) (show ob < w.heap.size by omega)).trans ((HB5.out.cell (p := ⟨ob, oo + j, none⟩) (show ob < w.heap.size by omega)).symm.trans d5)
          have hgo : ok.getD ((xp : Nat) : Int).toNat 0 = ok[xp] := by rw [Int.toNat_natCast, List.getD_eq_getElem?_getD, List.getElem?_eq_getElem hxo]; rfl
          have hgk : mk.keys.getD ((xp : Nat) : Int).toNat 0 = mk.keys[xp] := by rw [Int.toNat_natCast, List.getD_eq_getElem?_getD, List.getElem?_eq_getElem hxk]; rfl
          rw [hgo] at HPYp HPNp
          rw [hgk] at HPYp
          have hpl2 := HPL.out p
          subst eg
          subst ey
          subst ek
          clear hg0 hy0 hk0 hgo hgk hV hkeyl hxs hxp
          generalize ok[xp] = op at *
          generalize mk.keys[xp] = kp at *
          by_cases he : op = i
          · have HP1 := Lib.hid (HPYp he)
            have hbq : (op == i) = true := by simpa using he
            clear HPYp HPNp he
            have hll : (M.keysL m i T j ++ M.partK m i j (M.digsTo nT 12) p).length ≤ 48 := by rw [List.length_append]; omega
            generalize hKK : M.keysL m i T j ++ M.partK m i j (M.digsTo nT 12) p = KK at *
            have HKK := Lib.hid hKK
            clear hKK
            go_wp2_with (at_builtin; refine wpList_append_own_at _ rfl _ _ 39 rfl w.heap.size 3 i0 (.int .i64 0) 1 8 Try.underlying39 hi0 hz0 hzz1 hz2 rfl (by decide) _ _ _ rfl (HO6.out.alloc _) ⟨wr.heap.size, 0, none⟩ 1 1 [.int .i64 kp] rfl rfl (cell_one_new _ _ _) (fun x hx => by simp at hx; subst hx; rfl) (by unfold maxLen; omega) (by omega) (by simp; omega) ?_; intro v' w8 hown' hgrow8 hnil8 hblk8)
            go_roundw
            case rel =>
              have hb8 : Below w.heap.size w w8 := (HN6.out.alloc (by omega) _).grown hgrow8 (by simp; omega) (own_base HO6.out)
              refine ⟨p + 1, by omega, by go_num, ?_, fun z hzq => ?_, ?_, ?_, ?_, ?_, hb8⟩
              · rw [HP1.out, ← List.append_assoc, HKK.out]
                simpa [M.encIs] using hown'
              · rcases hblk8 with e | e
                · rw [e] at hzq; exact HK6.out z hzq
                · rw [e] at hzq; injection hzq with hzq; rw [← hzq]; right; simp; omega
              · exact (HX6.out.alloc (.cells #[.int .i64 kp] 3)).grown hgrow8 (own_ne_b2 (HO6.out.alloc (.cells #[.int .i64 kp] 3)) (HX6.out.alloc (.cells #[.int .i64 kp] 3)) (by decide))
              · exact ((HY6.out.alloc (.cells #[.int .i64 kp] 3)).grown hgrow8 (own_ne_box (HO6.out.alloc (.cells #[.int .i64 kp] 3)) (HY6.out.alloc (.cells #[.int .i64 kp] 3)) (by decide)))
              · exact OwnAt.grownRow (HD6.out.below (below_alloc _ (.cells #[.int .i64 kp] 3)) hz6) hgrow8 (by simp; omega) (fun z hzq => HK6.out z hzq)
              · have := hgrow8.size; simp at this; omega
            case measure => simp [intOf]; omega
          · have HP1 := Lib.hid (HPNp he)
            have hbq : (op == i) = false := by simpa using he
            clear HPYp HPNp he
            go_wp2_with fail
            go_roundw
            case rel => exact ⟨p + 1, by omega, by go_num, by rw [HP1.out]; exact HO6.out, HK6.out, HX6.out, HY6.out, HD6.out, hz6, HN6.out⟩
            case measure => simp [intOf]; omega
        · obtain rfl : p = (M.digsTo nT 12).length := by omega
          go_wp2_with fail
          go_roundw
          case rel => exact ⟨j + 1, by omega, by go_num, by rw [HKS.out]; exact HO6.out, HX6.out, HN6.out⟩
          case measure => simp [intOf]; omega
    · obtain rfl : j = no := by omega
      obtain ⟨ra, rc, rfl, ho1, ho2, hoo⟩ := own_slice HO.out
      have hkl3 := HKL.out j
      go_wp2_with fail
      refine (joinSets_any wo _ _ ra rc _ hoo.row (by omega)).mono ?_
      rintro e w7 ⟨rfl, rfl⟩
      go_wp2_with fail
      go_ret
      exact ⟨rfl, HN.out⟩
end C
end Go.Proofs.Ytbcobheiofajeaa
