/-
  CONTRACTS of the library's strconv.Atoi at this program: at a numeral of an int that number and no error; at every other string an error that is not nil; what lay in memory stays. Condition: the library's two sentinel errors hold values of an interface's type.
-/
import Derived.Test.YtlbnofkjjjbfnaaDoorForm
import Derived.Test.YtlbnofkjjjbfnaaDoorReadMath
import Derived.Shelf.Strconv.ErrVarAll
import Derived.Lib.AtoiTie
namespace Go.Proofs.YtlbnofkjjjbfnaaDoor
open Go.RowKit Go.Shelf
namespace M
theorem decFrom_snoc (l : List UInt8) (c : UInt8) (d : Nat) (hc : Lib.digitVal c = some d) : ∀ acc n, Lib.decFrom acc l = some n → Lib.decFrom acc (l ++ [c]) = some (n * 10 + d) := by
  induction l with
  | nil => intro acc n h; simp [Lib.decFrom] at h; subst h; simp [Lib.decFrom, hc]
  | cons b r ih =>
    intro acc n h
    simp only [Lib.decFrom, List.cons_append] at h ⊢
    cases hb : Lib.digitVal b with
    | none => simp [hb] at h
    | some x =>
      simp only [hb] at h ⊢
      exact ih _ _ h
theorem digitVal_dg (u : Nat) (h : u < 10) : Lib.digitVal (UInt8.ofNat (48 + u)) = some u := by
  unfold Lib.digitVal
  rw [dg_toNat u h, if_pos (by omega)]
  congr 1
  omega
theorem decFrom_dd (u : Nat) : Lib.decFrom 0 (Lib.decDigits u) = some u := by
  induction u using Nat.strongRecOn with
  | _ u ih =>
    rw [Lib.decDigits]
    by_cases h : u < 10
    · rw [dif_pos h]
      rw [Lib.decFrom, digitVal_dg u h]
      simp [Lib.decFrom]
    · rw [dif_neg h, decFrom_snoc _ _ _ (digitVal_dg (u % 10) (by omega)) _ _ (ih (u / 10) (by omega))]
      congr 1
      omega
theorem decNat_dd (u : Nat) : Lib.decNat (Lib.decDigits u) = some u := by
  unfold Lib.decNat
  rw [if_neg, decFrom_dd]
  have := dd_len_pos u
  intro h
  rw [List.isEmpty_iff] at h
  simp [h] at this
theorem atoi_itoa (x : Int) : Lib.atoi (Lib.itoa x) = some x := by
  unfold Lib.itoa
  by_cases h : x < 0
  · rw [if_pos h]
    simp [Lib.atoi, decNat_dd]
    omega
  · rw [if_neg h]
    have hp := dd_len_pos x.toNat
    have hd := dd_isD x.toNat
    have hn := decNat_dd x.toNat
    cases hl : Lib.decDigits x.toNat with
    | nil => simp [hl] at hp
    | cons c r =>
      rw [hl] at hd hn
      have hc := isD_bd (hd c (by simp))
      have h1 : (c == 45) = false := by
        simp
        intro e
        subst e
        simp at hc
      have h2 : (c == 43) = false := by
        simp
        intro e
        subst e
        simp at hc
      simp only [Lib.atoi, h1, h2, hn]
      simp
      omega
theorem atoiAll_itoa (x : Int) (h0 : -999999 ≤ x) (h1 : x ≤ 999999) : Lib.atoiAll (Lib.itoa x) = .ok x := by
  have hl : (Lib.itoa x).length ≤ 18 := by
    unfold Lib.itoa
    have := dd_len x.natAbs (by omega)
    have h2 := dd_len x.toNat (by omega)
    split <;> simp <;> omega
  rw [Lib.atoiAll_short _ hl, atoi_itoa]
  rfl
end M
namespace C
/-- what the library's variables read as, the two sentinel errors too -/
def Env5 (w : World) : Prop := Env w ∧ (∃ t p, w.var? Tryd.prog "strconv.ErrSyntax" = some #[.iface t p]) ∧ (∃ t p, w.var? Tryd.prog "strconv.ErrRange" = some #[.iface t p])
theorem Env5.keep {w w' : World} (h : Env5 w) (hb : Below w.heap.size w w') : Env5 w' :=
  ⟨h.1.keep hb, h.2.1.imp fun _ h => h.imp fun _ h => var_keep h hb, h.2.2.imp fun _ h => h.imp fun _ h => var_keep h hb⟩

theorem atoi_ok (s : ByteArray) (hs : s.size ≤ 281474976710656) (v : Int) (h : Lib.atoiAll s.data.toList = .ok v) (w : World) :
    Calls Tryd.prog 28 #[.string s] w fun e w' => e = .returned (.tuple #[.int .i64 v, .nilIface]) ∧ Below w.heap.size w w' :=
  (Tryd.strconv_Atoi_ok s (by omega) v h w).mono fun e w' ⟨he, hw⟩ => ⟨he, by
    rcases hw with rfl | ⟨t, rfl⟩
    · exact Below.refl _ _
    · exact Lib.bytesWorld_below _ _ _⟩

theorem atoi_bad (s : ByteArray) (hs : s.size ≤ 281474976710656) (h : ∀ v, Lib.atoiAll s.data.toList ≠ .ok v) (w : World) (he : Env5 w) :
    Calls Tryd.prog 28 #[.string s] w fun e w' => ∃ n N, e = .returned (.tuple #[.int .i64 n, .iface 65 (.pointer (some ⟨N, 0, none⟩))]) ∧ Below w.heap.size w w' := by
  obtain ⟨_, ⟨t1, p1, h1⟩, ⟨t2, p2, h2⟩⟩ := he
  cases hx : Lib.atoiAll s.data.toList with
  | ok v => exact absurd hx (h v)
  | range => exact (Any.strconv_Atoi_range_var Tryd.laysC172 s hs hx t2 p2 w h2).mono fun e w' ⟨N, he, _, _, hb⟩ => ⟨_, N, he, hb⟩
  | _ => exact (Any.strconv_Atoi_syntax_var Tryd.laysC172 s hs hx t1 p1 w h1).mono fun e w' ⟨N, he, _, _, hb⟩ => ⟨_, N, he, hb⟩
end C
end Go.Proofs.YtlbnofkjjjbfnaaDoor
