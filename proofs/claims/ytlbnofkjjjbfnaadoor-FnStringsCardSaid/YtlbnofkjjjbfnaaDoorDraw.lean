/-
  CONTRACTS of the drawing functions of this seat: DrawFormatInt gives a number within -1000000..1000000, DrawParseInt a short string, DrawAppendChecksum a string of at most 3999 bytes; what lay in memory stays. Condition: the code reads as bytes and has at most 65536 of them.
-/
import Derived.Test.YtlbnofkjjjbfnaaDoorAny
import Derived.Test.YtlbnofkjjjbfnaaDoorNum
import Derived.WalkKit
import Derived.WalkSpells
import Derived.WalkLawsBesides
import Derived.Lib.Hide
namespace Go.Proofs.YtlbnofkjjjbfnaaDoor
open Go.RowKit
namespace C

/-- the post of an element of a list of numbers -/
def AmongPost (B : Nat) (w : World) (g : Nat) (a : Option Addr) (len cap p : Nat) (l : List Int) (e : Ending) (w' : World) : Prop :=
  ∃ s : Int, e = .returned (.int .i64 s) ∧ s ∈ l ∧ CurAt B w' g a len cap (p + 2) ∧ w.grownBy w' (some g)
set_option maxHeartbeats 800000 in
theorem among_any (B : Nat) (w : World) (g : Nat) (a : Option Addr) (len cap p : Nat) (gl : Nat) (l : List Int) (h : CurAt B w g a len cap p) (hp : p ≤ 1073741000) (hl : 0 < l.length) (hl2 : l.length ≤ 100)
    (hne : gl ≠ g) (hgl : gl < w.heap.size) (hc : ∀ j s, l[j]? = some s → w.cell? ⟨gl, j, none⟩ = some (.int .i64 s)) :
    Calls Tryd.prog 21 #[.pointer (some ⟨g, 0, none⟩), .slice (some ⟨gl, 0, none⟩) l.length l.length] w (AmongPost B w g a len cap p l) := by
  have c := Lib.hid (pick_any B w g a len cap p l.length h hp (by omega) (by omega))
  have hc' := Lib.hid hc
  clear h hc
  go_enter Tryd.func21, Tryd.ntmps21
  go_wp2_with fail
  refine c.out.mono ?_
  rintro e w1 ⟨r, rfl, hr0, hr1, hc1, hg1⟩
  obtain ⟨k, rfl⟩ : ∃ k : Nat, r = k := ⟨r.toNat, by omega⟩
  have hk : k < l.length := by omega
  have hcell : w1.cell? ⟨gl, k, none⟩ = some (.int .i64 l[k]) := (hg1.cell_far ⟨gl, k, none⟩ hgl (fun e => hne (Option.some.inj e))).trans (hc'.out k _ (List.getElem?_eq_getElem hk))
  have hg1' := Lib.hid hg1
  have hc1' := Lib.hid hc1
  have hm := Lib.hid (List.getElem_mem hk)
  clear hc1 hg1
  go_wp2_with fail
  go_ret
  exact ⟨_, rfl, hm.out, hc1'.out, hg1'.out⟩
theorem among_new (B : Nat) (w : World) (g : Nat) (a : Option Addr) (len cap p : Nat) (l : List Int) (h : CurAt B w g a len cap p) (hp : p ≤ 1073741000) (hl : 0 < l.length) (hl2 : l.length ≤ 100) (T : TypeId) :
    Calls Tryd.prog 21 #[.pointer (some ⟨g, 0, none⟩), .slice (some ⟨w.heap.size, 0, none⟩) l.length l.length] (w.alloc (.cells (l.map (Value.int .i64)).toArray T)) (AmongPost B w g a len cap p l) := by
  have hlt := h.lt
  refine (among_any B (w.alloc (.cells (l.map (Value.int .i64)).toArray T)) g a len cap p w.heap.size l (h.other (grown_alloc w _ none) (fun k e => by cases e) (by simp)) hp hl hl2 (by omega) (by simp) (new_cells w (Value.int .i64) l T)).mono ?_
  rintro e w' ⟨s, he, hs, hc, hg⟩
  exact ⟨s, he, hs, hc, grown_trans (grown_alloc w _ _) hg⟩

def drawnInts (x : Int) : List Int := [0, 1, -1, 10, 999999, -999999, 1000000, -1000000, x]
theorem drawnInts_bd (x : Int) (h0 : -1000000 ≤ x) (h1 : x ≤ 1000000) : ∀ s ∈ drawnInts x, -1000000 ≤ s ∧ s ≤ 1000000 := by
  intro s hs
  simp [drawnInts] at hs
  omega

def DrawnInt (w : World) (e : Ending) (w' : World) : Prop := ∃ n : Int, e = .returned (.int .i64 n) ∧ -1000000 ≤ n ∧ n ≤ 1000000 ∧ Below w.heap.size w w'
def DrawnText (m : Nat) (w : World) (e : Ending) (w' : World) : Prop := ∃ t : ByteArray, e = .returned (.string t) ∧ t.size ≤ m ∧ Below w.heap.size w w'

set_option maxHeartbeats 800000 in
theorem drawInt_any (w : World) (a : Option Addr) (len cap : Nat) (hl : len ≤ 65536) (hc : CodeAt w.heap.size w a len) :
    Calls Tryd.prog 9 #[.slice a len cap] w (DrawnInt w) := by
  have h0 := cur_new w a len cap hl hc
  have c1 := Lib.hid (pick_any _ _ _ _ _ _ _ 1000 h0 (by omega) (by omega) (by omega))
  clear hc h0
  go_enter Tryd.func9, Tryd.ntmps9
  go_wp2_with fail
  refine c1.out.mono ?_
  rintro e w1 ⟨r, rfl, hr0, hr1, hc1, hg1⟩
  have c2 := Lib.hid (among_new _ w1 _ _ _ _ _ (drawnInts (r - 500)) hc1 (by omega) (by simp [drawnInts]) (by simp [drawnInts]) 3)
  have hd := Lib.hid (drawnInts_bd (r - 500) (by omega) (by omega))
  have hg1' := Lib.hid hg1
  clear hc1 hg1
  go_wp2_with fail
  refine c2.out.mono ?_
  rintro e w2 ⟨s, rfl, hs, hc2, hg2⟩
  have hb : Hid (-1000000 ≤ s ∧ s ≤ 1000000) := Lib.hid (hd.out s hs)
  have hg2' := Lib.hid hg2
  clear hs hc2 hg2
  go_wp2_with fail
  go_ret
  exact ⟨s, rfl, hb.out.1, hb.out.2, grown_to_below (grown_trans hg1'.out hg2'.out)⟩

def eleven : List ByteArray := [⟨#[]⟩, ⟨#[45]⟩, ⟨#[45, 48]⟩, ⟨#[48, 48]⟩, ⟨#[48, 49]⟩, ⟨#[45, 45, 49]⟩, ⟨#[49, 120]⟩, ⟨#[57, 57, 57, 57, 57, 57]⟩, ⟨#[49, 48, 48, 48, 48, 48, 48]⟩, ⟨#[45, 57, 57, 57, 57, 57, 57]⟩, ⟨#[49, 56, 52, 52, 54, 55, 52, 52, 48, 55, 51, 55, 48, 57, 53, 53, 49, 54, 49, 55]⟩]
theorem eleven_size : ∀ s ∈ eleven, s.size ≤ 21 := by decide

set_option maxHeartbeats 800000 in
theorem drawParse_any (w : World) (a : Option Addr) (len cap : Nat) (hl : len ≤ 65536) (hc : CodeAt w.heap.size w a len) :
    Calls Tryd.prog 12 #[.slice a len cap] w (DrawnText 21 w) := by
  have h0 := cur_new w a len cap hl hc
  have c1 := Lib.hid (one_any _ _ _ _ _ _ _ 2 h0 (by omega) (by omega) (by omega))
  clear hc h0
  go_enter Tryd.func12, Tryd.ntmps12
  go_wp2_with fail
  refine c1.out.mono ?_
  rintro e w1 ⟨b, rfl, hc1, hg1⟩
  have hg1' := Lib.hid hg1
  cases b
  · have c2 := Lib.hid (pick_any _ _ _ _ _ _ _ 2000 hc1 (by omega) (by omega) (by omega))
    clear hc1 hg1
    go_wp2_with fail
    refine c2.out.mono ?_
    rintro e w2 ⟨r, rfl, hr0, hr1, hc2, hg2⟩
    have hg2' := Lib.hid hg2
    have hz := Lib.hid (decB_size (r - 1000) (by omega) (by omega))
    clear hc2 hg2
    go_wp2_with fail
    refine (l1Num_any (r - 1000) _ (by omega) (by omega)).mono ?_
    rintro e w3 ⟨rfl, k, rfl⟩
    go_wp2_with fail
    go_ret
    exact ⟨_, rfl, hz.out, grown_to_below (grown_trans hg1'.out (grown_trans hg2'.out (grown_drewN _ _ _)))⟩
  · have c2 := Lib.hid (of_new _ w1 _ _ _ _ _ eleven hc1 (by omega) (by decide) (by decide) 9)
    clear hc1 hg1
    go_wp2_with fail
    refine c2.out.mono ?_
    rintro e w2 ⟨s, rfl, hs, hc2, hg2⟩
    have hb := Lib.hid (eleven_size s hs)
    have hg2' := Lib.hid hg2
    clear hs hc2 hg2
    go_wp2_with fail
    go_ret
    exact ⟨s, rfl, hb.out, grown_to_below (grown_trans hg1'.out hg2'.out)⟩
end C
end Go.Proofs.YtlbnofkjjjbfnaaDoor
