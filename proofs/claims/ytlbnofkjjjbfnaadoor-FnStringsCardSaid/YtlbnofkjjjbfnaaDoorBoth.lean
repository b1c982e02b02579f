/-
  CONTRACTS in pairs: FormatInt, ParseInt and AppendChecksum of the program and of the model give one and the same answer; vAt gives a number within 0..255 that hangs on the code alone; a byte exclusive-or a number within 1..255 is another byte. Conditions: the library's listed variables read as laid.
-/
import Derived.Test.YtlbnofkjjjbfnaaDoorDrawApp
import Derived.Test.YtlbnofkjjjbfnaaDoorParse
import Derived.Test.YtlbnofkjjjbfnaaDoorVerify
import Derived.Test.YtlbnofkjjjbfnaaDoorDetect
import Derived.Laws.BitsAllLaws
import Derived.WalkKit
import Derived.WalkSpells
import Derived.WalkLawsBesides
import Derived.Lib.Hide
namespace Go.Proofs.YtlbnofkjjjbfnaaDoor
open Go.RowKit
namespace C

def TwoB (v : Value) (W : World) (e : Ending) (w' : World) : Prop := e = .returned v ∧ Below W.heap.size W w'

theorem form_both (n : Int) (h0 : -1000000 ≤ n) (h1 : n ≤ 1000000) : ∃ (sv : ByteArray) (okv : Bool), (∀ W, Env W → Calls Tryd.prog 10 #[.int .i64 n] W (TwoB (.tuple #[.string sv, .bool okv]) W)) ∧
    (∀ W, Calls Tryd.prog 11 #[.int .i64 n] W (TwoB (.tuple #[.string sv, .bool okv]) W)) ∧ sv.size ≤ 21 ∧ (okv = true → sv = decB n ∧ -999999 ≤ n ∧ n ≤ 999999) := by
  by_cases h : -999999 ≤ n ∧ n ≤ 999999
  · exact ⟨decB n, true, fun W he => implForm_ok n W h.1 h.2 he, fun W => specForm_ok n W h.1 h.2, decB_size n (by omega) (by omega), fun _ => ⟨rfl, h.1, h.2⟩⟩
  · exact ⟨⟨#[]⟩, false, fun W _ => implForm_no n W (by omega), fun W => specForm_no n W (by omega), by decide, fun h => by cases h⟩

theorem parse_both (t : ByteArray) (ht : t.size ≤ 1048576) : ∃ (mv : Int) (fv : Bool), (∀ W, Env5 W → Calls Tryd.prog 13 #[.string t] W (TwoB (.tuple #[.int .i64 mv, .bool fv]) W)) ∧
    (∀ W, Calls Tryd.prog 14 #[.string t] W (TwoB (.tuple #[.int .i64 mv, .bool fv]) W)) ∧ (∀ n : Int, -999999 ≤ n → n ≤ 999999 → t = decB n → mv = n ∧ fv = true) := by
  by_cases hr : M.rdOk t.data.toList
  · obtain ⟨x, h0, h1, hx⟩ := (M.rdOk_iff _).1 hr
    refine ⟨x, true, fun W he => implParse_ok t x W hx h0 h1 ht he, fun W => (specParse_any t W (by unfold maxLen; omega)).mono ?_, ?_⟩
    · rintro e w' ⟨hp, hb⟩
      rcases hp with ⟨_, hp⟩ | ⟨hp, _⟩
      · rw [hx, M.sg_itoa] at hp; exact ⟨hp, hb⟩
      · exact absurd hr hp
    · rintro n _ _ rfl
      have hd : (decB n).data.toList = Lib.itoa n := by simp [decB]
      rw [hd] at hx
      exact ⟨(M.itoa_inj hx).symm, rfl⟩
  · refine ⟨0, false, fun W he => implParse_no t W hr ht he, fun W => (specParse_any t W (by unfold maxLen; omega)).mono ?_, ?_⟩
    · rintro e w' ⟨hp, hb⟩
      rcases hp with ⟨hp, _⟩ | ⟨_, hp⟩
      · exact absurd hp hr
      · exact ⟨hp, hb⟩
    · rintro n h0 h1 rfl
      exact absurd ((M.rdOk_iff _).2 ⟨n, h0, h1, by simp [decB]⟩) hr

theorem app_both (x : ByteArray) : ∃ (yv : ByteArray) (zv : Bool), (∀ W, Env W → Calls Tryd.prog 16 #[.string x] W (TwoB (.tuple #[.string yv, .bool zv]) W)) ∧
    (∀ W, Calls Tryd.prog 17 #[.string x] W (TwoB (.tuple #[.string yv, .bool zv]) W)) ∧ (zv = true → yv = sealB x ∧ M.has x.data.toList 35 = false ∧ (sealB x).size ≤ 4000) ∧ (zv = false → yv = ⟨#[]⟩) := by
  rcases app_cases x with h | ⟨h1, h2, h3⟩
  · exact ⟨⟨#[]⟩, false, fun W he => implApp_no x W h he, fun W => specApp_no x W h, (fun h => by cases h), fun _ => rfl⟩
  · exact ⟨sealB x, true, fun W he => implApp_ok x W h1 h2 h3 he, fun W => specApp_ok x W h1 h2 h3, (fun _ => ⟨rfl, h2, by rw [sealB_size]; exact h3⟩), (fun h => by cases h)⟩

/-! ### what is verified -/
theorem sealB_list (s : ByteArray) : (sealB s).data.toList = M.sealL s.data.toList := by
  simp [sealB, M.sealL, sumB, decB]
theorem fstB_list (s : ByteArray) : (M.fstB 35 s).data.toList = M.fstL 35 s.data.toList := by simp [M.fstB]
theorem byteArray_eq {a b : ByteArray} (h : a.data.toList = b.data.toList) : a = b := ByteArray.ext (Array.toList_inj.1 h)
theorem ver_sealed (x : ByteArray) (hx : M.has x.data.toList 35 = false) (hz : (sealB x).size ≤ 4000) : verOf (sealB x) = .tuple #[.string x, .bool true] := by
  have hm : (35 : UInt8) ∉ x.data.toList := fun h => by rw [M.has_mem.2 h] at hx; cases hx
  have hf : M.fstB 35 (sealB x) = x := by
    apply byteArray_eq
    rw [fstB_list, sealB_list]
    exact M.fst_append_cons hm
  simp [verOf, verE, hf, hz]
theorem ver_changed (x : ByteArray) (hx : M.has x.data.toList 35 = false) (k : Nat) (c' : UInt8) (hk : k < (sealB x).size) (hc : (sealB x)[k] ≠ c') :
    verOf ⟨((sealB x).data.toList.set k c').toArray⟩ = .tuple #[.string ⟨#[]⟩, .bool false] := by
  have hm : (35 : UInt8) ∉ x.data.toList := fun h => by rw [M.has_mem.2 h] at hx; cases hx
  have hk' : k < (M.sealL x.data.toList).length := by rw [← sealB_list]; simpa using hk
  have hne : sealB (M.fstB 35 ⟨((sealB x).data.toList.set k c').toArray⟩) ≠ ⟨((sealB x).data.toList.set k c').toArray⟩ := by
    intro e
    have e2 := congrArg (fun b : ByteArray => b.data.toList) e
    simp only [sealB_list, fstB_list] at e2
    refine M.seal_detects x.data.toList hm k c' hk' ?_ e2
    intro e3
    apply hc
    rw [← e3]
    have h1 : (sealB x)[k] = (sealB x).data.toList[k]'(by simpa using hk) := rfl
    rw [h1]
    congr 1
    exact sealB_list x
  have hb := textB_other hne
  unfold verOf verE
  rw [hb, Bool.and_false]
  rfl

/-! ### the number that hangs on the code -/
theorem vAt_val (B : Nat) (w : World) (a : Option Addr) (len cap i : Nat) (hi : i ≤ 1000) (hl : len ≤ 65536) (hc : CodeAt B w a len) :
    ∃ v : Int, 0 ≤ v ∧ v ≤ 255 ∧ ∀ W, (∀ p : Addr, p.block < B → W.cell? p = w.cell? p) → Calls Tryd.prog 19 #[.slice a len cap, .int .i64 i] W fun e w' => e = .returned (.int .i64 v) ∧ W = w' := by
  by_cases h : i < len
  · rcases hc with h0 | ⟨b, off, rfl, hb, hz⟩
    · omega
    · obtain ⟨z, hz, hz0, hz1⟩ := hz i h
      refine ⟨z, hz0, hz1, fun W hW => ?_⟩
      have hcell : W.cell? ⟨b, off + i, none⟩ = some (.int .u8 z) := (hW ⟨b, off + i, none⟩ hb).trans hz
      clear hW hz
      go_enter Tryd.func19, Tryd.ntmps19
      go_wp2
      go_ret
      exact ⟨rfl, rfl⟩
  · refine ⟨((i : Int) * 7 + len) % 256, Int.emod_nonneg _ (by omega), by have := Int.emod_lt_of_pos ((i : Int) * 7 + len) (b := 256) (by omega); omega, fun W hW => ?_⟩
    clear hW hc
    go_enter Tryd.func19, Tryd.ntmps19
    go_wp2
    go_ret
    exact ⟨rfl, rfl⟩

/-- a byte and a number within 1..255: another byte -/
theorem xor_byte (c : UInt8) (d : Int) (h0 : 1 ≤ d) (h1 : d ≤ 255) : ∃ c' : UInt8, bits .xor .u8 (c.toNat : Int) d = (c'.toNat : Int) ∧ c ≠ c' := by
  obtain ⟨n, rfl⟩ : ∃ n : Nat, d = n := ⟨d.toNat, by omega⟩
  have hn : n < 256 := by omega
  refine ⟨c ^^^ UInt8.ofNat n, ?_, ?_⟩
  · have h := u8_xor (c.toNat : Int) (n : Int) (by omega) (by have := UInt8.toNat_lt c; omega) (by omega) (by omega)
    rw [h]
    simp [UInt8.toNat_xor, Nat.mod_eq_of_lt hn]
  · intro e
    have h2 := congrArg (c ^^^ ·) e
    simp only [UInt8.xor_self, ← UInt8.xor_assoc, UInt8.zero_xor] at h2
    have h3 := congrArg UInt8.toNat h2
    simp at h3
    omega
end C
end Go.Proofs.YtlbnofkjjjbfnaaDoor
