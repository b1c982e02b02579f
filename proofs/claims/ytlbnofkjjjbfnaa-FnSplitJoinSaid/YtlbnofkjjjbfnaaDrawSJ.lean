/-
  CONTRACTS of the drawing functions DrawSplitString, DrawLessString and DrawJoinStrings: short strings, and a slice of at most four strings in a row of its own; what lay in memory stays. Condition: the code reads as bytes and has at most 65536 of them.
-/
import Derived.Test.YtlbnofkjjjbfnaaAny
import Derived.Test.YtlbnofkjjjbfnaaJoin3
import Derived.Laws.IdiomStrings
import Derived.Laws.MakeOwn
import Derived.RangeFuncBox
import Derived.WalkKit
import Derived.WalkSpells
import Derived.WalkLawsBesides
import Derived.Lib.Hide
namespace Go.Proofs.Ytlbnofkjjjbfnaa
open Go.RowKit
namespace C
def DrawnTwo (w : World) (e : Ending) (w' : World) : Prop := ∃ s t : ByteArray, e = .returned (.tuple #[.string s, .string t]) ∧ s.size ≤ 10 ∧ t.size ≤ 10 ∧ Below w.heap.size w w'
def fiveS : List ByteArray := [⟨#[44]⟩, ⟨#[44]⟩, ⟨#[32]⟩, ⟨#[]⟩, ⟨#[44, 44]⟩]
theorem fiveS_size : ∀ s ∈ fiveS, s.size ≤ 10 := by decide
def fiveJ : List ByteArray := [⟨#[44]⟩, ⟨#[59]⟩, ⟨#[59]⟩, ⟨#[]⟩, ⟨#[97, 98]⟩]
theorem fiveJ_size : ∀ s ∈ fiveJ, s.size ≤ 10 := by decide

set_option maxHeartbeats 800000 in
theorem drawSplit_any (w : World) (a : Option Addr) (len cap : Nat) (hl : len ≤ 65536) (hc : CodeAt w.heap.size w a len) :
    Calls Try.prog 9 #[.slice a len cap] w (DrawnTwo w) := by
  have h0 := cur_new w a len cap hl hc
  have c1 := Lib.hid (any1_any _ _ _ _ _ _ _ h0 (by omega))
  clear hc h0
  go_enter Try.func9, Try.ntmps9
  go_wp2_with fail
  refine c1.out.mono ?_
  rintro e w1 ⟨s, rfl, hs, hc1, hg1⟩
  have c2 := Lib.hid (of_new _ w1 _ _ _ _ _ fiveS hc1 (by omega) (by decide) (by decide) 9)
  have hb1 := Lib.hid (nine_size s hs)
  have hg1' := Lib.hid hg1
  clear hs hc1 hg1
  go_wp2_with fail
  refine c2.out.mono ?_
  rintro e w2 ⟨t, rfl, ht, hc2, hg2⟩
  have hb2 := Lib.hid (fiveS_size t ht)
  have hg2' := Lib.hid hg2
  clear ht hc2 hg2
  go_wp2_with fail
  go_ret2
  exact ⟨s, t, rfl, hb1.out, hb2.out, grown_to_below (grown_trans hg1'.out hg2'.out)⟩
set_option maxHeartbeats 800000 in
theorem drawLess_any (w : World) (a : Option Addr) (len cap : Nat) (hl : len ≤ 65536) (hc : CodeAt w.heap.size w a len) :
    Calls Try.prog 14 #[.slice a len cap] w (DrawnTwo w) := by
  have h0 := cur_new w a len cap hl hc
  have c1 := Lib.hid (any1_any _ _ _ _ _ _ _ h0 (by omega))
  clear hc h0
  go_enter Try.func14, Try.ntmps14
  go_wp2_with fail
  refine c1.out.mono ?_
  rintro e w1 ⟨s, rfl, hs, hc1, hg1⟩
  have c2 := Lib.hid (any1_any _ w1 _ _ _ _ _ hc1 (by omega))
  have hb1 := Lib.hid (nine_size s hs)
  have hg1' := Lib.hid hg1
  clear hs hc1 hg1
  go_wp2_with fail
  refine c2.out.mono ?_
  rintro e w2 ⟨t, rfl, ht, hc2, hg2⟩
  have hb2 := Lib.hid (nine_size t ht)
  have hg2' := Lib.hid hg2
  clear ht hc2 hg2
  go_wp2_with fail
  go_ret2
  exact ⟨s, t, rfl, hb1.out, hb2.out, grown_to_below (grown_trans hg1'.out hg2'.out)⟩

def DrawnList (w : World) (e : Ending) (w' : World) : Prop := ∃ (g cap : Nat) (ss : List ByteArray) (t : ByteArray), e = .returned (.tuple #[.slice (some ⟨g, 0, none⟩) ss.length cap, .string t]) ∧ ss.length ≤ cap ∧ ss.length ≤ 4 ∧ (∀ s ∈ ss, s.size ≤ 4009) ∧ t.size ≤ 10 ∧
  StrsAt w'.heap.size w' (some ⟨g, 0, none⟩) ss ∧ Below w.heap.size w w'
theorem infoB : (Try.prog.info? 5).map (fun i => (i.zero, i.size, i.bytes)) = some (some (.int .u8 0), 1, 1) := by kernel_rfl
theorem made_zeroB (n j : Nat) (h : j < n) : (madeCells #[Value.int .u8 0] n)[j]? = some (.int .u8 0) := by
  have e : j % 1 = 0 := by omega
  simp [madeCells, h, e]
theorem run_make_bytesB (k : Nat) (hk : k < 100) (W : World) :
    (Instr.makeSlice 22 (.int .i64 (3990 + (k : Int))) (.int .i64 (3990 + (k : Int)))).run Try.prog W = .ok (.slice (some ⟨W.heap.size, 0, none⟩) (3990 + k) (3990 + k)) (W.alloc (.cells (madeCells #[Value.int .u8 0] (3990 + k)) 5)) := by
  obtain ⟨i0, hi, hz0, hz1, hz2⟩ := info_parts infoB
  have h := run_make (P := Try.prog) W 22 5 i0 (.int .u8 0) Try.underlying22 hi hz0 .i64 .i64 (3990 + (k : Int)) (3990 + (k : Int)) (by omega) (by omega) (by rw [hz2]; omega) (by omega)
  rw [hz1] at h
  have e : (3990 + (k : Int)).toNat = 3990 + k := by omega
  rw [e, Nat.mul_one] at h
  exact h
theorem run_back_zerosB (n : Nat) (W : World) :
    (convert 22 9 (.slice (some ⟨W.heap.size, 0, none⟩) n n)).run Try.prog (W.alloc (.cells (madeCells #[Value.int .u8 0] n) 5)) =
      .ok (.string ⟨(List.replicate n (0 : UInt8)).toArray⟩) (W.alloc (.cells (madeCells #[Value.int .u8 0] n) 5)) := by
  have h := run_convert_bytes_back (P := Try.prog) (W.alloc (.cells (madeCells #[Value.int .u8 0] n) 5)) 22 9 5 ⟨W.heap.size, 0, none⟩ n (List.replicate n (0 : UInt8)) Try.underlying22 Try.underlying5 Try.underlying9 (fun j hj => by
    have hj' : j < n := by simpa using hj
    have e : (⟨W.heap.size, 0, none⟩ : Addr).add j = ⟨W.heap.size, j, none⟩ := by
      unfold Addr.add
      split
      · rename_i h; subst h; rfl
      · simp
    rw [e, World.cell?_alloc_new, made_zeroB n j hj']
    simp)
  simpa using h
/-- a row of one's own and a cursor beside it -/
theorem row_ne_cur {w : World} {B n g0 : Nat} {xs : List Value} {e : TypeId} {v : Value} (h : w.ownsRow B e 1 v n xs) (hB : g0 < B) : v.ownBlock ≠ some g0 := fun e => by
  have := own_base h _ e
  omega
theorem all_snoc10 {ss : List ByteArray} {s : ByteArray} {m : Nat} (h : ∀ x ∈ ss, x.size ≤ m) (hs : s.size ≤ m) : ∀ x ∈ ss ++ [s], x.size ≤ m := by
  intro x hx
  rw [List.mem_append, List.mem_singleton] at hx
  rcases hx with hx | rfl
  · exact h x hx
  · exact hs
theorem row_cap {w : World} {B g n cap : Nat} {e : TypeId} {xs : List Value} (h : w.ownsRow B e 1 (.slice (some ⟨g, 0, none⟩) n cap) n xs) : n ≤ cap := by
  rcases h.2 with ⟨h1, _⟩ | ⟨g', cap', cur, hv, _, _, hnc, _⟩
  · cases h1
  · injection hv with _ _ h3
    omega
theorem own_below {w : World} {B n : Nat} {xs : List Value} {e : TypeId} {v : Value} (h : w.ownsRow (B + 1) e 1 v n xs) : ∀ j, v.ownBlock = some j → B ≤ j := fun j e => by
  have := own_base h j e
  omega
def Here (v : Value) (k : Nat) : Prop := ∃ g cp, v = .slice (some ⟨g, 0, none⟩) k cp
set_option maxHeartbeats 800000 in
theorem drawJoin_any (w : World) (a : Option Addr) (len cap : Nat) (hl : len ≤ 65536) (hc : CodeAt w.heap.size w a len) :
    Calls Try.prog 11 #[.slice a len cap] w (DrawnList w) := by
  have h0 := cur_new w a len cap hl hc
  have h1 := h0.other (grown_alloc _ (.cells #[] 9) none) (fun k e => by cases e) (by simp)
  have c1 := Lib.hid (pick_any _ _ _ _ _ _ _ 4 h1 (by omega) (by omega) (by omega))
  clear hc h0 h1
  go_enter Try.func11, Try.ntmps11
  go_wp2_with fail
  refine c1.out.mono ?_
  rintro e w1 ⟨r, rfl, hr0, hr1, hc1, hg1⟩
  obtain ⟨n, rfl⟩ : ∃ n : Nat, r = n := ⟨r.toNat, by omega⟩
  obtain ⟨i0, hi, hz0, hz1, hz2⟩ := info_parts info9
  have ho1 := Lib.hid ((ownsRow_empty (w.alloc (.cells #[.slice a len cap, .int .i64 0, .int .u64 0] 44)) (w.heap.size + 1) 9 1 (by simp)).kept hg1 (.inr (row_ne_cur (ownsRow_empty (w.alloc (.cells #[.slice a len cap, .int .i64 0, .int .u64 0] 44)) (w.heap.size + 1) 9 1 (by simp)) (Nat.lt_succ_self _))))
  have hb1 := Lib.hid (grown_to_below (grown_trans (grown_alloc (w.alloc (.cells #[.slice a len cap, .int .i64 0, .int .u64 0] 44)) (.cells #[] 9) _) hg1))
  have hc1' := Lib.hid hc1
  clear hc1 hg1
  go_wp2_with fail
  go_loopw [5, 7] (fun v i wr => ∃ (k : Nat) (ss : List ByteArray), k ≤ n ∧ i = .int .i64 k ∧ ss.length = k ∧ Here v k ∧ (∀ s ∈ ss, s.size ≤ 10) ∧
      wr.ownsRow (w.heap.size + 1) 9 1 v k (ss.map Value.string) ∧ CurAt w.heap.size wr w.heap.size a len cap (2 + 2 * k) ∧ Below w.heap.size w wr) (fun _ i _ => n - (intOf i).toNat)
  case atStart => exact ⟨0, [], Nat.zero_le _, rfl, rfl, ⟨_, _, rfl⟩, by simp, by simpa using ho1.out, hc1'.out, hb1.out⟩
  case round =>
    obtain ⟨k, ss, hk, rfl, hsl, hhere, hsz, hown, hcur, hnx⟩ := hrel
    have HH := Lib.hid hhere
    have HSL := Lib.hid hsl
    have HSZ := Lib.hid hsz
    have HO := Lib.hid hown
    have HC := Lib.hid hcur
    have HN := Lib.hid hnx
    have hgt := hcur.lt
    clear hsl hhere hsz hown hcur hnx
    by_cases hlt : k < n
    · have CA := Lib.hid (any1_any _ _ _ _ _ _ _ HC.out (by omega))
      go_wp2_with fail
      refine CA.out.mono ?_
      rintro e w2 ⟨s, rfl, hs, hc2, hg2⟩
      have ho2 := HO.out.kept hg2 (.inr (row_ne_cur HO.out (Nat.lt_succ_self _)))
      have HS := Lib.hid (nine_size s hs)
      have HG2 := Lib.hid hg2
      have HC2 := Lib.hid hc2
      have hlt2 := hc2.lt
      clear hs hg2 hc2
      go_wp2_with (at_builtin; refine wpList_append_own _ rfl _ _ 26 rfl (w.heap.size + 1) 9 i0 (.string ByteArray.empty) 1 16 Try.underlying26 hi hz0 hz1 hz2 rfl (by decide) _ _ _ rfl (ho2.alloc _) ⟨w2.heap.size, 0, none⟩ 1 1 [.string s] rfl rfl (cell_one_new _ _ _) (fun x hx => by simp at hx; subst hx; rfl) (by unfold maxLen; omega) (by omega) (by simp; omega) ?_; intro v' w3 hown' hgrow3 hnil3; obtain ⟨g', cp', rfl⟩ := ownsRow_succ hown'; have HG3 := Lib.hid hgrow3; have HO3 := Lib.hid hown'; clear hgrow3 hown' hnil3)
      have HC3 : Hid (CurAt w.heap.size w3 w.heap.size a len cap (2 + 2 * (k + 1))) := Lib.hid ((HC2.out.other (grown_trans (grown_alloc w2 _ _) HG3.out) (fun j e => by have := own_base HO.out j (by rw [← e]; rfl); omega) (row_ne_cur HO.out (Nat.lt_succ_self _)).symm).mono (by omega))
      have HN3 := Lib.hid (((HN.out.grown HG2.out (by omega) (fun j e => by cases e; omega)).alloc (by omega) (.cells #[.string s] 9)).grown HG3.out (by simp; omega) (fun j e => by have := own_base HO.out j (by rw [← e]; rfl); omega))
      go_roundw
      case rel => exact ⟨k + 1, ss ++ [s], by omega, by go_num, by simp [HSL.out], ⟨_, _, rfl⟩, all_snoc10 HSZ.out HS.out, by simpa using HO3.out, HC3.out, HN3.out⟩
      case measure => simp [intOf]; omega
    · obtain rfl : k = n := by omega
      have CO := Lib.hid (one_any _ _ _ _ _ _ _ 20 HC.out (by omega) (by omega) (by omega))
      go_wp2_with fail
      refine CO.out.mono ?_
      rintro e w2 ⟨b, rfl, hc2, hg2⟩
      have HO2 := Lib.hid (HO.out.kept hg2 (.inr (row_ne_cur HO.out (Nat.lt_succ_self _))))
      have HN2 := Lib.hid (HN.out.grown hg2 (by omega) (fun j e => by cases e; omega))
      have hlt2 := hc2.lt
      have HC2 := Lib.hid hc2
      clear hc2 hg2
      cases b
      · have CF := Lib.hid (of_new _ w2 _ _ _ _ _ fiveJ HC2.out (by omega) (by decide) (by decide) 9)
        obtain ⟨g, cp, rfl⟩ := HH.out
        go_wp2_with fail
        refine CF.out.mono ?_
        rintro e w3 ⟨t, rfl, ht, hc3, hg3⟩
        have HT := Lib.hid (fiveJ_size t ht)
        have HO3 := Lib.hid (HO2.out.kept hg3 (.inr (row_ne_cur HO2.out (Nat.lt_succ_self _))))
        have HN3 := Lib.hid (HN2.out.grown hg3 (by omega) (fun j e => by cases e; omega))
        clear ht hc3 hg3
        go_wp2_with fail
        go_ret2
        refine ⟨g, cp, ss, t, by rw [HSL.out]; rfl, by rw [HSL.out]; exact row_cap HO3.out, by rw [HSL.out]; omega, fun x hx => Nat.le_trans (HSZ.out x hx) (by omega), HT.out, strs_of_own HO3.out (own_lt HO3.out), HN3.out⟩
      · have CP := Lib.hid (pick_any _ _ _ _ _ _ _ 20 HC2.out (by omega) (by omega) (by omega))
        go_wp2_with fail
        refine CP.out.mono ?_
        rintro e w3 ⟨r, rfl, hr2, hr3, hc3, hg3⟩
        obtain ⟨m, rfl⟩ : ∃ m : Nat, r = m := ⟨r.toNat, by omega⟩
        have HO3 := Lib.hid (HO2.out.kept hg3 (.inr (row_ne_cur HO2.out (Nat.lt_succ_self _))))
        have HN3 := Lib.hid (HN2.out.grown hg3 (by omega) (fun j e => by cases e; omega))
        have hlt3 := hc3.lt
        have HC3 := Lib.hid hc3
        have hmk := run_make_bytesB m (by omega)
        have hbk := run_back_zerosB (3990 + m)
        have hcn := cell_one_new (w3.alloc (.cells (madeCells #[Value.int .u8 0] (3990 + m)) 5)) (.string ⟨Array.replicate (3990 + m) 0⟩) 9
        rw [World.size_alloc] at hcn
        have HCN := Lib.hid hcn
        clear hc3 hg3 hcn
        go_wp2_with (at_builtin; refine wpList_append_own _ rfl _ _ 26 rfl (w.heap.size + 1) 9 i0 (.string ByteArray.empty) 1 16 Try.underlying26 hi hz0 hz1 hz2 rfl (by decide) _ _ _ rfl ((HO3.out.alloc _).alloc _) ⟨w3.heap.size + 1, 0, none⟩ 1 1 [.string ⟨Array.replicate (3990 + m) 0⟩] rfl rfl HCN.out (fun x hx => by simp at hx; subst hx; rfl) (by unfold maxLen; omega) (by omega) (by simp; omega) ?_; intro v' w4 hown' hgrow4 hnil4; obtain ⟨g', cp', rfl⟩ := ownsRow_succ hown'; have HG4 := Lib.hid hgrow4; have HO4 := Lib.hid hown'; clear hgrow4 hown' hnil4)
        have hrow := own_below HO3.out
        have HC4 := Lib.hid ((HC3.out.other (grown_trans (grown_alloc w3 _ _) (grown_trans (grown_alloc _ _ _) HG4.out)) hrow (row_ne_cur HO3.out (Nat.lt_succ_self _)).symm).mono (p' := 100) (by omega))
        have HN4 := Lib.hid ((HN3.out.grown (grown_trans (grown_alloc w3 _ _) (grown_trans (grown_alloc _ _ _) HG4.out)) (by omega) hrow))
        have CF := Lib.hid (of_new _ w4 _ _ _ _ _ fiveJ HC4.out (by omega) (by decide) (by decide) 9)
        refine CF.out.mono ?_
        rintro e w5 ⟨t, rfl, ht, hc5, hg5⟩
        have HT := Lib.hid (fiveJ_size t ht)
        have HO5 := Lib.hid (HO4.out.kept hg5 (.inr (row_ne_cur HO4.out (Nat.lt_succ_self _))))
        have hlt4 := HC4.out.lt
        have HN5 := Lib.hid (HN4.out.grown hg5 (by omega) (fun j e => by cases e; omega))
        clear ht hc5 hg5
        go_wp2_with fail
        go_ret2
        have hl5 : (ss ++ [(⟨Array.replicate (3990 + m) 0⟩ : ByteArray)]).length = k + 1 := by rw [List.length_append, HSL.out]; rfl
        have ho5 : w5.ownsRow (w.heap.size + 1) 9 1 (.slice (some ⟨g', 0, none⟩) (k + 1) cp') (k + 1) ((ss ++ [(⟨Array.replicate (3990 + m) 0⟩ : ByteArray)]).map Value.string) := by simpa using HO5.out
        refine ⟨g', cp', ss ++ [⟨Array.replicate (3990 + m) 0⟩], t, by rw [hl5]; rfl, by rw [hl5]; exact row_cap ho5, by rw [hl5]; omega, all_snoc10 (fun x hx => Nat.le_trans (HSZ.out x hx) (by omega)) (by simp [ByteArray.size]; omega), HT.out, strs_of_own ho5 (own_lt ho5), HN5.out⟩
end C
end Go.Proofs.Ytlbnofkjjjbfnaa
