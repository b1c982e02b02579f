/-
  THE WALK of laws.FnStrings: it returns true, and what lay in memory stays. Conditions: the code reads as bytes; the library's listed variables read as laid.
-/
import Derived.Test.YtlbnofkjjjbfnaaDoorBoth
import Derived.Lib.ConvBytes
import Derived.Lib.AtoiErrMem
import Derived.Deep.RegionHeld3
import Derived.WalkKit
import Derived.WalkSpells
import Derived.WalkLawsBesides
import Derived.Lib.Hide
namespace Go.Proofs.YtlbnofkjjjbfnaaDoor
open Go.RowKit
namespace C

theorem row_cell (w : World) (e : TypeId) (s : ByteArray) (j : Nat) (hj : j < s.size) : (Lib.bytesWorld w e s).cell? ⟨w.heap.size, j, none⟩ = some (.int .u8 (s[j].toNat : Int)) := by
  rw [Lib.bytesWorld_cell w e s j hj]
  have h : s.data.toList.getD j 0 = s[j] := by
    have h1 : s[j] = s.data.toList[j]'(by simpa using hj) := rfl
    rw [h1, List.getD_eq_getElem?_getD, List.getElem?_eq_getElem (by simpa using hj)]
    rfl
  rw [h]
theorem row_free (w : World) (e : TypeId) (s : ByteArray) (j : Nat) (hj : j < s.size) : (Lib.bytesWorld w e s).frozen? ⟨w.heap.size, j, none⟩ = false := by
  have h := Lib.bytesWorld_at_new w e s
  have hz : s.size ≤ (Lib.bytesCells w e s).size := by
    unfold Lib.bytesCells
    simp
  simp [World.frozen?, h]
  omega
theorem add_zero (b j : Nat) : (⟨b, 0, none⟩ : Addr).add j = ⟨b, j, none⟩ := by
  unfold Addr.add
  split
  · rename_i h; subst h; rfl
  · simp
theorem back_row (w : World) (s : ByteArray) (k : Nat) (c : UInt8) (hk : k < s.size) :
    (convert 22 9 (.slice (some ⟨w.heap.size, 0, none⟩) s.size (grownCap w s.size 0 5))).run Tryd.prog (((Lib.bytesWorld w 5 s).setCell ⟨w.heap.size, k, none⟩ (.int .u8 (c.toNat : Int))).drew) =
      .ok (.string ⟨(s.data.toList.set k c).toArray⟩) (((Lib.bytesWorld w 5 s).setCell ⟨w.heap.size, k, none⟩ (.int .u8 (c.toNat : Int))).drew) := by
  have h := run_convert_bytes_back (P := Tryd.prog) (((Lib.bytesWorld w 5 s).setCell ⟨w.heap.size, k, none⟩ (.int .u8 (c.toNat : Int))).drew) 22 9 5 ⟨w.heap.size, 0, none⟩ (grownCap w s.size 0 5) (s.data.toList.set k c) Tryd.underlying22 Tryd.underlying5 Tryd.underlying9 (by
    intro j hj
    have hj' : j < s.size := by simpa using hj
    rw [add_zero]
    show ((Lib.bytesWorld w 5 s).setCell ⟨w.heap.size, k, none⟩ (.int .u8 (c.toNat : Int))).cell? ⟨w.heap.size, j, none⟩ = _
    by_cases hjk : j = k
    · subst hjk
      rw [World.cell?_setCell_same' _ _ _ (by rw [row_cell w 5 s j hj']; rfl)]
      simp
    · rw [World.cell?_setCell_other _ _ _ _ (by first | (simp; omega) | simp), row_cell w 5 s j hj']
      have h2 : (s.data.toList.set k c)[j] = s[j] := by
        rw [List.getElem_set_ne (by omega)]
        rfl
      rw [h2])
  have hl : (s.data.toList.set k c).length = s.size := by simp
  rw [hl] at h
  exact h
theorem set_size (s : ByteArray) (k : Nat) (c : UInt8) (h : s.size ≤ 1048576) : (⟨(s.data.toList.set k c).toArray⟩ : ByteArray).size ≤ 1048576 := by
  have e : (⟨(s.data.toList.set k c).toArray⟩ : ByteArray).size = (s.data.toList.set k c).length := rfl
  have e2 : s.data.toList.length = s.size := Array.length_toList
  rw [e, List.length_set, e2]
  exact h
theorem code_below {w w' : World} {a : Option Addr} {len : Nat} (h : CodeAt w.heap.size w a len) (hb : Below w.heap.size w w') : CodeAt w'.heap.size w' a len := by
  rcases h with h | ⟨b, off, ha, hlt, hc⟩
  · exact .inl h
  · refine .inr ⟨b, off, ha, Nat.lt_of_lt_of_le hlt hb.size, fun i hi => ?_⟩
    obtain ⟨z, hz, h0, h1⟩ := hc i hi
    exact ⟨z, (hb.cell (p := ⟨b, off + i, none⟩) hlt).trans hz, h0, h1⟩

set_option maxRecDepth 100000 in
set_option maxHeartbeats 2000000 in
theorem strings_walk (w : World) (a : Option Addr) (len cap : Nat) (hl : len ≤ 65536) (hc : CodeAt w.heap.size w a len) (he : Env5 w) :
    Calls Tryd.prog 3 #[.slice a len cap] w fun e w' => e = .returned (.bool true) ∧ Below w.heap.size w w' := by
  have hc' := Lib.hid hc
  have he' := Lib.hid he
  have hl' : ¬ 65536 < (len : Int) := by omega
  clear hc he
  go_enter Tryd.func3, Tryd.ntmps3
  go_wp2_with (go_at_call 8; go_in)
  refine (drawInt_any w a len cap hl hc'.out).mono ?_
  rintro e w1 ⟨n, rfl, hn0, hn1, hb1⟩
  have B1 := Lib.hid hb1
  obtain ⟨sv, okv, cf1, cf2, hsv, hok⟩ := form_both n hn0 hn1
  have CF1 := Lib.hid (cf1 w1 (he'.out.1.keep hb1))
  have CF2 := Lib.hid cf2
  have HOK := Lib.hid hok
  clear hb1 cf1 cf2 hok
  go_wp2_with fail
  refine CF1.out.mono ?_
  rintro e w2 ⟨rfl, hb2⟩
  have B2 := Lib.hid (Below.more B1.out hb2)
  clear hb2
  go_wp2_with fail
  refine (CF2.out _).mono ?_
  rintro e w3 ⟨rfl, hb3⟩
  have B3 := Lib.hid (Below.more B2.out hb3)
  clear hb3
  go_wp2_with fail
  -- the text to be parsed
  refine (drawParse_any w3 a len cap hl (code_below hc'.out B3.out)).mono ?_
  rintro e w4 ⟨tx, rfl, htx, hb4⟩
  have B4 := Lib.hid (Below.more B3.out hb4)
  obtain ⟨mv, fv, cp1, cp2, hpn⟩ := parse_both tx (by omega)
  have CP1 := Lib.hid cp1
  have CP2 := Lib.hid cp2
  clear hb4 cp1 cp2 hpn
  go_wp2_with fail
  refine (CP1.out _ (he'.out.keep B4.out)).mono ?_
  rintro e w5 ⟨rfl, hb5⟩
  have B5 := Lib.hid (Below.more B4.out hb5)
  clear hb5
  go_wp2_with fail
  refine (CP2.out _).mono ?_
  rintro e w6 ⟨rfl, hb6⟩
  have B6 := Lib.hid (Below.more B5.out hb6)
  clear hb6
  go_wp2_with fail
  -- the text to be sealed
  refine (drawApp_any w6 a len cap hl (code_below hc'.out B6.out)).mono ?_
  rintro e w7 ⟨x, rfl, hx, hb7⟩
  have B7 := Lib.hid (Below.more B6.out hb7)
  obtain ⟨yv, zv, ca1, ca2, hz1, hz0⟩ := app_both x
  have CA1 := Lib.hid ca1
  have CA2 := Lib.hid ca2
  have HZ1 := Lib.hid hz1
  have HZ0 := Lib.hid hz0
  clear hb7 ca1 ca2 hz1 hz0
  go_wp2_with fail
  refine (CA1.out _ (he'.out.1.keep B7.out)).mono ?_
  rintro e w8 ⟨rfl, hb8⟩
  have B8 := Lib.hid (Below.more B7.out hb8)
  clear hb8
  go_wp2_with fail
  refine (CA2.out _).mono ?_
  rintro e w9 ⟨rfl, hb9⟩
  have B9 := Lib.hid (Below.more B8.out hb9)
  clear hb9
  obtain ⟨bv, tv, cb1, _, hbn⟩ := parse_both sv (by omega)
  have CB1 := Lib.hid cb1
  have HB : Hid (okv = true → bv = n ∧ tv = true) := Lib.hid fun h => hbn n (HOK.out h).2.1 (HOK.out h).2.2 (HOK.out h).1
  clear cb1 hbn
  go_wp2_with fail
  refine (CB1.out _ (he'.out.keep B9.out)).mono ?_
  rintro e w10 ⟨rfl, hb10⟩
  have B10 := Lib.hid (Below.more B9.out hb10)
  clear hb10
  cases okv
  · cases zv
    · obtain rfl := HZ0.out rfl
      go_wp2_with fail
      go_ret
      exact ⟨rfl, B10.out⟩
    · obtain ⟨rfl, hx35, hxz⟩ := HZ1.out rfl
      have HX := Lib.hid hx35
      have cv := implVer_any (sealB x) w10 (by omega) (he'.out.1.keep B10.out)
      rw [ver_sealed x hx35 hxz] at cv
      have CV := Lib.hid cv
      have hsz := sealB_size x
      have hpos : 1 ≤ (sealB x).size := by omega
      clear hx35 cv hsz
      go_wp2_with fail
      refine CV.out.mono ?_
      rintro e w11 ⟨rfl, hb11⟩
      have B11 := Lib.hid (Below.more B10.out hb11)
      clear hb11
      have hcv := fun W : World => Lib.run_convert_string_bytes (P := Tryd.prog) W 9 22 5 (sealB x) Tryd.underlying9 Tryd.underlying22 Tryd.underlying5
      obtain ⟨v9, h90, h91, c9⟩ := vAt_val w.heap.size w a len cap 9 (by omega) hl hc'.out
      obtain ⟨v10, h100, h101, c10⟩ := vAt_val w.heap.size w a len cap 10 (by omega) hl hc'.out
      have hbb := Lib.bytesWorld_below w11 5 (sealB x)
      have hbw : Below w.heap.size w (Lib.bytesWorld w11 5 (sealB x)) := Below.more B11.out hbb
      have C9 := Lib.hid (c9 (Lib.bytesWorld w11 5 (sealB x)) (fun p hp => hbw.cell hp))
      have C10 := Lib.hid c10
      have BW := Lib.hid hbw
      obtain ⟨kk, hkk⟩ : ∃ kk : Nat, v9 % ((sealB x).size : Int) = (kk : Int) := ⟨(v9 % ((sealB x).size : Int)).toNat, by have := Int.emod_nonneg v9 (b := ((sealB x).size : Int)) (by omega); omega⟩
      have hk : kk < (sealB x).size := by have := Int.emod_lt_of_pos v9 (b := ((sealB x).size : Int)) (by omega); omega
      have hk0 : (0 : Int) ≤ (kk : Int) := by omega
      have hk1 : (kk : Int) < ((sealB x).size : Int) := by omega
      have hcell : (Lib.bytesWorld w11 5 (sealB x)).cell? ⟨w11.heap.size, kk, none⟩ = some (.int .u8 ((sealB x)[kk].toNat : Int)) := row_cell w11 5 (sealB x) kk hk
      have hfrz : (Lib.bytesWorld w11 5 (sealB x)).frozen? ⟨w11.heap.size, kk, none⟩ = false := row_free w11 5 (sealB x) kk hk
      have hm0 := Int.emod_nonneg v10 (b := 255) (by omega)
      have hm1 := Int.emod_lt_of_pos v10 (b := 255) (by omega)
      obtain ⟨c', hxor0, hcne⟩ := xor_byte (sealB x)[kk] (1 + v10 % 255) (by omega) (by omega)
      have hxor : bits .xor .u8 ((sealB x)[kk].toNat : Int) (IntKind.u8.wrap (IntKind.i64.wrap (1 + v10.tmod 255))) = (c'.toNat : Int) := by
        rw [← hxor0, Int.tmod_eq_emod_of_nonneg h100, IntKind.wrap_i64, IntKind.wrap_u8]
        congr 1
        omega
      clear hxor0
      have hback := back_row w11 (sealB x) kk c' hk
      have BS : Hid (Below w.heap.size w (((Lib.bytesWorld w11 5 (sealB x)).setCell ⟨w11.heap.size, kk, none⟩ (.int .u8 (c'.toNat : Int))).drew)) := Lib.hid ((hbw.setCell (p := ⟨w11.heap.size, kk, none⟩) B11.out.size _).drew)
      have cz := implVer_any ⟨((sealB x).data.toList.set kk c').toArray⟩ _ (set_size (sealB x) kk c' (by omega)) (he'.out.1.keep BS.out)
      rw [ver_changed x HX.out kk c' hk hcne] at cz
      have CZ := Lib.hid cz
      clear cz
      clear c9 c10 hbb hbw hcne
      go_wp2_with fail
      refine C9.out.mono ?_
      rintro e w12 ⟨rfl, rfl⟩
      go_wp2_with fail
      go_region_with (go_at_call 19; refine (C10.out _ ?_).mono ?_; exact (fun p hp => BW.out.cell hp); rintro e w13 ⟨rfl, rfl⟩)
      all_goals go_wp2_with fail
      all_goals (refine CZ.out.mono ?_; rintro e w15 ⟨rfl, hb15⟩)
      all_goals go_wp2_with fail
      all_goals go_ret
      all_goals exact ⟨rfl, Below.more BS.out hb15⟩
  · obtain ⟨rfl, rfl⟩ := HB.out rfl
    cases zv
    · obtain rfl := HZ0.out rfl
      go_wp2_with fail
      go_ret
      exact ⟨rfl, B10.out⟩
    · obtain ⟨rfl, hx35, hxz⟩ := HZ1.out rfl
      have HX := Lib.hid hx35
      have cv := implVer_any (sealB x) w10 (by omega) (he'.out.1.keep B10.out)
      rw [ver_sealed x hx35 hxz] at cv
      have CV := Lib.hid cv
      have hsz := sealB_size x
      have hpos : 1 ≤ (sealB x).size := by omega
      clear hx35 cv hsz
      go_wp2_with fail
      refine CV.out.mono ?_
      rintro e w11 ⟨rfl, hb11⟩
      have B11 := Lib.hid (Below.more B10.out hb11)
      clear hb11
      have hcv := fun W : World => Lib.run_convert_string_bytes (P := Tryd.prog) W 9 22 5 (sealB x) Tryd.underlying9 Tryd.underlying22 Tryd.underlying5
      obtain ⟨v9, h90, h91, c9⟩ := vAt_val w.heap.size w a len cap 9 (by omega) hl hc'.out
      obtain ⟨v10, h100, h101, c10⟩ := vAt_val w.heap.size w a len cap 10 (by omega) hl hc'.out
      have hbb := Lib.bytesWorld_below w11 5 (sealB x)
      have hbw : Below w.heap.size w (Lib.bytesWorld w11 5 (sealB x)) := Below.more B11.out hbb
      have C9 := Lib.hid (c9 (Lib.bytesWorld w11 5 (sealB x)) (fun p hp => hbw.cell hp))
      have C10 := Lib.hid c10
      have BW := Lib.hid hbw
      obtain ⟨kk, hkk⟩ : ∃ kk : Nat, v9 % ((sealB x).size : Int) = (kk : Int) := ⟨(v9 % ((sealB x).size : Int)).toNat, by have := Int.emod_nonneg v9 (b := ((sealB x).size : Int)) (by omega); omega⟩
      have hk : kk < (sealB x).size := by have := Int.emod_lt_of_pos v9 (b := ((sealB x).size : Int)) (by omega); omega
      have hk0 : (0 : Int) ≤ (kk : Int) := by omega
      have hk1 : (kk : Int) < ((sealB x).size : Int) := by omega
      have hcell : (Lib.bytesWorld w11 5 (sealB x)).cell? ⟨w11.heap.size, kk, none⟩ = some (.int .u8 ((sealB x)[kk].toNat : Int)) := row_cell w11 5 (sealB x) kk hk
      have hfrz : (Lib.bytesWorld w11 5 (sealB x)).frozen? ⟨w11.heap.size, kk, none⟩ = false := row_free w11 5 (sealB x) kk hk
      have hm0 := Int.emod_nonneg v10 (b := 255) (by omega)
      have hm1 := Int.emod_lt_of_pos v10 (b := 255) (by omega)
      obtain ⟨c', hxor0, hcne⟩ := xor_byte (sealB x)[kk] (1 + v10 % 255) (by omega) (by omega)
      have hxor : bits .xor .u8 ((sealB x)[kk].toNat : Int) (IntKind.u8.wrap (IntKind.i64.wrap (1 + v10.tmod 255))) = (c'.toNat : Int) := by
        rw [← hxor0, Int.tmod_eq_emod_of_nonneg h100, IntKind.wrap_i64, IntKind.wrap_u8]
        congr 1
        omega
      clear hxor0
      have hback := back_row w11 (sealB x) kk c' hk
      have BS : Hid (Below w.heap.size w (((Lib.bytesWorld w11 5 (sealB x)).setCell ⟨w11.heap.size, kk, none⟩ (.int .u8 (c'.toNat : Int))).drew)) := Lib.hid ((hbw.setCell (p := ⟨w11.heap.size, kk, none⟩) B11.out.size _).drew)
      have cz := implVer_any ⟨((sealB x).data.toList.set kk c').toArray⟩ _ (set_size (sealB x) kk c' (by omega)) (he'.out.1.keep BS.out)
      rw [ver_changed x HX.out kk c' hk hcne] at cz
      have CZ := Lib.hid cz
      clear cz
      clear c9 c10 hbb hbw hcne
      go_wp2_with fail
      refine C9.out.mono ?_
      rintro e w12 ⟨rfl, rfl⟩
      go_wp2_with fail
      go_region_with (go_at_call 19; refine (C10.out _ ?_).mono ?_; exact (fun p hp => BW.out.cell hp); rintro e w13 ⟨rfl, rfl⟩)
      all_goals go_wp2_with fail
      all_goals (refine CZ.out.mono ?_; rintro e w15 ⟨rfl, hb15⟩)
      all_goals go_wp2_with fail
      all_goals go_ret
      all_goals exact ⟨rfl, Below.more BS.out hb15⟩
end C
end Go.Proofs.YtlbnofkjjjbfnaaDoor
