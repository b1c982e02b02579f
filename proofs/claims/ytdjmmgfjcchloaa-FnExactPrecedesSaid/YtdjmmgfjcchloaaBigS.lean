/-
  CONTRACT of spec.l5Largest: the number of the largest entry set of some nodes; what lay in memory stays. Condition: a valid maze, a number below 4096.
-/
import Derived.Test.YtdjmmgfjcchloaaNextS
import Derived.Test.YtdjmmgfjcchloaaBigM
namespace Go.Proofs.Ytdjmmgfjcchloaa
open Go.RowKit
namespace M
def accA (a : Nat) (n : Nat) (l : List Int) : Nat := l.foldl (fun acc x => if digB a x.toNat = true then acc ||| 2 ^ x.toNat else acc) n
theorem accA_snoc (a n : Nat) (l : List Int) (x : Int) : accA a n (l ++ [x]) = if digB a x.toNat = true then accA a n l ||| 2 ^ x.toNat else accA a n l := by unfold accA; rw [List.foldl_append]; rfl
theorem accA_take {a n : Nat} {l : List Int} {k : Nat} (h : k < l.length) : accA a n (l.take (k + 1)) = if digB a l[k].toNat = true then accA a n (l.take k) ||| 2 ^ l[k].toNat else accA a n (l.take k) := by rw [List.take_succ_eq_append_getElem h, accA_snoc]
theorem accA_ok {m : Mz} (V : Valid m) {a n : Nat} (h : EntS m a n) : ∀ k, k ≤ (nextL m n).length → EntS m a (accA a n ((nextL m n).take k)) ∧ SubN n (accA a n ((nextL m n).take k)) ∧ n ≤ accA a n ((nextL m n).take k)
  | 0, _ => ⟨h, fun _ hp => hp, Nat.le_refl _⟩
  | k + 1, hk => by
    obtain ⟨h1, h2, h3⟩ := accA_ok V h k (by omega)
    rw [accA_take (by omega)]
    obtain ⟨p, e, _, hb⟩ := mem_nextL.1 (List.getElem_mem (show k < (nextL m n).length by omega))
    rw [e, Int.toNat_natCast]
    split
    · rename_i ha
      refine ⟨EntS.more V h1 h2 hb ha, fun q hq => by rw [digB_or, h2 q hq]; rfl, ?_⟩
      have : accA a n ((nextL m n).take k) ≤ accA a n ((nextL m n).take k) ||| 2 ^ p := Nat.left_le_or
      omega
    · exact ⟨h1, h2, h3⟩
theorem accA_has {a n : Nat} {l : List Int} {x : Int} (hx : x ∈ l) (ha : digB a x.toNat = true) : digB (accA a n l) x.toNat = true := by
  have mono : ∀ (l : List Int) (n p : Nat), digB n p = true → digB (accA a n l) p = true := by
    intro l
    induction l with
    | nil => intro n p h; exact h
    | cons y l ih =>
      intro n p h
      show digB (accA a (if digB a y.toNat = true then n ||| 2 ^ y.toNat else n) l) p = true
      refine ih _ p ?_
      split
      · rw [digB_or, h]; rfl
      · exact h
  induction l generalizing n with
  | nil => cases hx
  | cons y l ih =>
    show digB (accA a (if digB a y.toNat = true then n ||| 2 ^ y.toNat else n) l) x.toNat = true
    rcases List.mem_cons.1 hx with rfl | hx
    · refine mono l _ _ ?_
      rw [if_pos ha, digB_or, digB_pow]
      simp
    · exact ih hx
theorem accA_closed {m : Mz} (V : Valid m) {a n : Nat} (h : accA a n (nextL m n) = n) : ClosedA m a n := fun y hy => by
  cases ha : digB a y with
  | false => rfl
  | true =>
    have := V.size12
    have hl := nextB_lt V hy
    have h1 := accA_has (n := n) (mem_nextL.2 ⟨y, rfl, by omega, hy⟩) (by rw [Int.toNat_natCast]; exact ha)
    rw [h, Int.toNat_natCast] at h1
    rw [nextB_in h1] at hy
    cases hy
end M
namespace C
set_option maxHeartbeats 3200000
set_option maxRecDepth 20000
theorem l5Largest_any (w : World) (lo hi : Nat) (m : M.Mz) (a b : Option Addr) (c d : Nat) (h : MzIn lo hi w m a c b d) (hz : hi ≤ w.heap.size) (V : M.Valid m) (al : Nat) (hal : al < 4096) :
    Calls Try.prog 73 #[.agg #[.int .i64 m.size, .slice a m.doors.length c, .slice b m.keys.length d], .int .i64 (al : Int)] w fun e w' => e = .returned (.int .i64 ((M.bigN m al : Nat) : Int)) ∧ Below w.heap.size w w' := by
  have H := Lib.hid h
  have HV := Lib.hid V
  have v12 := V.size12
  clear h V
  go_enter Try.func73, Try.ntmps73
  go_wp2_with fail
  refine wp_named ?_
  intro W1 hW1
  have HB1 := Lib.hid (show Below w.heap.size w W1 by rw [hW1]; exact below_alloc _ _)
  have X1 := Lib.hid (show Box3 W1 w.heap.size 29 (.int .i64 m.size) (.slice a m.doors.length c) (.slice b m.keys.length d) by rw [hW1]; exact Box3.new _ _ _ _ rfl)
  clear hW1
  have hz1 := HB1.out.size
  go_loopw [5, 6, 7, 8] (fun v _ _ _ wr => ∃ (n : Nat), v = .int .i64 (n : Int) ∧ M.EntS m al n ∧ Below W1.heap.size W1 wr) (fun v _ _ _ _ => 4096 - (intOf v).toNat)
  case atStart => exact ⟨1, rfl, .one, Below.refl _ _⟩
  case round =>
    obtain ⟨n, rfl, hent, hni⟩ := hrel
    have HI := Lib.hid hni
    have HE := Lib.hid hent
    have hzi := hni.size
    obtain ⟨hn4, hnk⟩ := hent.lt HV.out
    have HNK := Lib.hid hnk
    have HBI := Lib.hid (HB1.out.trans (hni.mono hz1))
    have XI := Lib.hid (X1.out.below hni)
    have hbl := XI.out.lt
    obtain ⟨c0, c1, c2⟩ := XI.out.cells
    clear hni hent hnk
    go_wp2_with fail
    refine (l5Next_any wr lo hi m a b c d (H.out.below HBI.out hz) (by omega) HV.out n hn4 HNK.out).mono ?_
    rintro e w4 ⟨ra, rc, rfl, ho, hq1, hq2, hb4⟩
    have HO := Lib.hid ho
    have HB4 := Lib.hid (HI.out.trans (hb4.mono (by omega)))
    have hz4 := hb4.size
    have hll := M.nextL_len m n
    have HAK := Lib.hid (fun k hk => M.accA_ok HV.out HE.out k hk)
    have HAT := Lib.hid (fun k (hk : k < (M.nextL m n).length) => M.accA_take (a := al) (n := n) hk)
    have HCL := Lib.hid (fun h => M.accA_closed (a := al) (n := n) HV.out h)
    have HIN := Lib.hid (fun k (hk : k < (M.nextL m n).length) => M.mem_nextL.1 (List.getElem_mem hk))
    clear ho hb4 c0 c1 c2
    generalize M.nextL m n = L at *
    go_wp2_with fail
    go_loop [5, 8] (fun v i => ∃ (j : Nat), j ≤ L.length ∧ i = .int .i64 j ∧ v = .int .i64 ((M.accA al n (L.take j) : Nat) : Int)) (fun _ i => L.length - (intOf i).toNat)
    case atStart => exact ⟨0, Nat.zero_le _, rfl, rfl⟩
    case round =>
      obtain ⟨j, hj, rfl, rfl⟩ := hrel
      obtain ⟨hae, _, hge⟩ := HAK.out j hj
      have hac := (hae.lt HV.out).1
      clear hae
      by_cases hjl : j < L.length
      · obtain ⟨lb, off, rfl, _, hdb, hc0⟩ := HO.out.row.at_ (k := j) (by rw [M.encIs_len]; exact hjl)
        have a0 := hc0 _ _ (M.encIs_at hjl)
        have HA1 := Lib.hid (HAT.out j hjl)
        obtain ⟨q, hq, hq12, _⟩ := HIN.out j hjl
        rw [hq] at a0 HA1
        rw [Int.toNat_natCast] at HA1
        have hq0 : ¬ (q : Int) < 0 := by omega
        have hbt := M.bit_test (p := q) hal
        obtain ⟨hpw, hpw2⟩ := M.wrapsP (p := q) hq12
        have hor := M.orP (n := M.accA al n (L.take j)) (q := q) hac hq12
        clear hc0 hq
        cases hd : M.digB al q with
        | true =>
          rw [hd] at hbt
          have HA2 : Hid (M.accA al n (L.take (j + 1)) = M.accA al n (L.take j) ||| 2 ^ q) := Lib.hid (by rw [HA1.out, if_pos hd])
          clear hd
          generalize M.accA al n (L.take j) = t at *
          go_wp2_with fail
          go_round
          case rel => exact ⟨j + 1, by omega, by go_num, by rw [HA2.out]⟩
          case measure => simp [intOf]; omega
        | false =>
          rw [hd] at hbt
          have HA2 : Hid (M.accA al n (L.take (j + 1)) = M.accA al n (L.take j)) := Lib.hid (by rw [HA1.out, if_neg (by rw [hd]; decide)])
          clear hd
          generalize M.accA al n (L.take j) = t at *
          go_wp2_with fail
          go_round
          case rel => exact ⟨j + 1, by omega, by go_num, by rw [HA2.out]⟩
          case measure => simp [intOf]; omega
      · obtain rfl : j = L.length := by omega
        have hcl := HCL.out
        have hae := (HAK.out L.length (Nat.le_refl _)).1
        rw [List.take_of_length_le (Nat.le_refl _)] at hge hac hae ⊢
        have HAE := Lib.hid hae
        rcases Decidable.em (M.accA al n L = n) with hs | hs
        · have HR : Hid (M.bigN m al = n) := Lib.hid (M.big_eq HV.out ⟨HE.out, hcl hs⟩)
          rw [hs]
          clear hs hcl hae
          go_wp2_with fail
          go_ret
          exact ⟨by rw [HR.out]; rfl, HB1.out.trans (HB4.out.mono (by omega))⟩
        · clear hcl hae
          generalize M.accA al n L = t at *
          have hb : ((t : Int) == (n : Int)) = false := by rw [beq_eq_false_iff_ne]; omega
          have hne : ¬ (t : Int) = (n : Int) := by omega
          go_wp2_with fail
          go_roundw
          case rel => exact ⟨t, rfl, HAE.out, HB4.out⟩
          case measure => simp [intOf]; omega
end C
end Go.Proofs.Ytdjmmgfjcchloaa
