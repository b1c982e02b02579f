/-
  CONTRACT of impl.Maze.withSets: a copy in which each need and each set of keys is replaced by what a function value gives; what lay in memory stays. Condition: at most 1048576 doors and keys; all needs and sets of keys meet a condition under which the function value answers f and leaves memory as it is.
-/
import Derived.Test.YtmccpjdgnenmeaaStep
import Derived.Test.YtmccpjdgnenmeaaOwnMaz3
import Derived.Test.YtmccpjdgnenmeaaDoorsAt
import Derived.Test.YtmccpjdgnenmeaaMzEnd
import Derived.Test.YtmccpjdgnenmeaaPutW
import Derived.Deep.RegionHeld3
import Derived.Deep.RegionLaw
import Derived.Deep.RegionWith
namespace Go.Proofs.Ytmccpjdgnenmeaa
open Go.RowKit
namespace M
def repD (f : Int → Int) (d : Dr) : Dr := (d.1, d.2.1, f d.2.2)
def repDs (f : Int → Int) (l : List Dr) (k : Nat) : List Dr := (l.take k).map (repD f) ++ l.drop k
def repIs (f : Int → Int) (l : List Int) (k : Nat) : List Int := (l.take k).map f ++ l.drop k
def replaced (f : Int → Int) (m : Mz) : Mz := ⟨m.size, m.doors.map (repD f), m.keys.map f⟩
theorem repDs_len (f : Int → Int) (l : List Dr) (k : Nat) : (repDs f l k).length = l.length := by unfold repDs; rw [List.length_append, List.length_map, List.length_take, List.length_drop]; omega
theorem repIs_len (f : Int → Int) (l : List Int) (k : Nat) : (repIs f l k).length = l.length := by unfold repIs; rw [List.length_append, List.length_map, List.length_take, List.length_drop]; omega
theorem repDs_zero (f : Int → Int) (l : List Dr) : repDs f l 0 = l := by unfold repDs; simp
theorem repIs_zero (f : Int → Int) (l : List Int) : repIs f l 0 = l := by unfold repIs; simp
theorem repDs_all (f : Int → Int) (l : List Dr) : repDs f l l.length = l.map (repD f) := by unfold repDs; simp
theorem repIs_all (f : Int → Int) (l : List Int) : repIs f l l.length = l.map f := by unfold repIs; simp
theorem repDs_at {f : Int → Int} {l : List Dr} {k : Nat} (h : k < l.length) : repDs f l k = (l.take k).map (repD f) ++ l[k] :: l.drop (k + 1) := by unfold repDs; rw [List.drop_eq_getElem_cons h]
theorem repDs_next {f : Int → Int} {l : List Dr} {k : Nat} (h : k < l.length) : repDs f l (k + 1) = (l.take k).map (repD f) ++ repD f l[k] :: l.drop (k + 1) := by
  unfold repDs
  rw [List.take_succ_eq_append_getElem h, List.map_append, List.map_cons, List.map_nil, List.append_assoc]
  rfl
theorem repIs_at {f : Int → Int} {l : List Int} {k : Nat} (h : k < l.length) : repIs f l k = (l.take k).map f ++ l[k] :: l.drop (k + 1) := by unfold repIs; rw [List.drop_eq_getElem_cons h]
theorem repIs_next {f : Int → Int} {l : List Int} {k : Nat} (h : k < l.length) : repIs f l (k + 1) = (l.take k).map f ++ f l[k] :: l.drop (k + 1) := by
  unfold repIs
  rw [List.take_succ_eq_append_getElem h, List.map_append, List.map_cons, List.map_nil, List.append_assoc]
  rfl
theorem repDs_set {f : Int → Int} {l : List Dr} {k : Nat} (h : k < l.length) : (encDs (repDs f l k)).set (k * 3 + 2) (.int .i64 (f l[k].2.2)) = encDs (repDs f l (k + 1)) := by
  rw [repDs_at h, repDs_next h, encDs_append, encDs_append, encDs_cons, encDs_cons]
  have hA : (encDs ((l.take k).map (repD f))).length = k * 3 := by rw [encDs_len, List.length_map, List.length_take]; omega
  rw [List.set_append, if_neg (by omega), hA, show k * 3 + 2 - k * 3 = 2 by omega]
  rfl
theorem repIs_set {f : Int → Int} {l : List Int} {k : Nat} (h : k < l.length) : (encIs (repIs f l k)).set k (.int .i64 (f l[k])) = encIs (repIs f l (k + 1)) := by
  rw [repIs_at h, repIs_next h, encIs_append, encIs_append]
  have hA : (encIs ((l.take k).map f)).length = k := by rw [encIs_len, List.length_map, List.length_take]; omega
  rw [List.set_append, if_neg (by omega), hA, Nat.sub_self]
  rfl
theorem repDs_get {f : Int → Int} {l : List Dr} {k : Nat} (h : k < l.length) : (encDs (repDs f l k))[k * 3 + 2]? = some (.int .i64 l[k].2.2) := by
  have h' : k < (repDs f l k).length := by rw [repDs_len]; exact h
  rw [encDs_at2 h']
  have : (repDs f l k)[k] = l[k] := by
    have e := repDs_at (f := f) h
    have hA : ((l.take k).map (repD f)).length = k := by rw [List.length_map, List.length_take]; omega
    have h2 : (repDs f l k)[k]? = some l[k] := by rw [e, List.getElem?_append_right (by omega), hA, Nat.sub_self]; rfl
    rw [List.getElem?_eq_getElem h'] at h2
    injection h2
  rw [this]
theorem repIs_get {f : Int → Int} {l : List Int} {k : Nat} (h : k < l.length) : (encIs (repIs f l k))[k]? = some (.int .i64 l[k]) := by
  have hA : (encIs ((l.take k).map f)).length = k := by rw [encIs_len, List.length_map, List.length_take]; omega
  rw [repIs_at h, encIs_append, List.getElem?_append_right (by omega), hA, Nat.sub_self]
  rfl
end M
namespace C
set_option maxHeartbeats 16000000
set_option maxRecDepth 20000
/-- what is asked of a function value from numbers that meet a condition to numbers -/
def FnOkP (g : Nat) (lb : Array Value) (f : Int → Int) (Pn : Int → Prop) (w : World) : Prop :=
  ∀ W x, Pn x → Below w.heap.size w W → Calls Try.prog g (#[.int .i64 x] ++ lb) W fun e w' => e = .returned (.int .i64 (f x)) ∧ Below W.heap.size W w'
structure WSt (w : World) (m : M.Mz) (B Hh : Nat) (pa ka : Option Addr) (pc kc : Nat) (wr : World) (ds : List M.Dr) (ks : List Int) : Prop where
  bx : Box3 wr Hh 27 (.int .i64 m.size) (.slice pa m.doors.length pc) (.slice ka m.keys.length kc)
  dm : OwnAt B Hh wr 60 pa (M.encDs ds)
  km : OwnAt B Hh wr 3 ka (M.encIs ks)
  res : Box3 wr (w.heap.size + 1) 27 (.int .i64 0) (.slice none 0 0) (.slice none 0 0)
  below : Below w.heap.size w wr
theorem WSt.later {w wr wr' : World} {m : M.Mz} {B Hh : Nat} {pa ka : Option Addr} {pc kc : Nat} {ds : List M.Dr} {ks : List Int} (h : WSt w m B Hh pa ka pc kc wr ds ks) (hH : Hh ≤ wr.heap.size) (hb : Below wr.heap.size wr wr') : WSt w m B Hh pa ka pc kc wr' ds ks :=
  ⟨h.bx.below hb, h.dm.below hb hH, h.km.below hb hH, h.res.below hb, h.below.trans (hb.mono h.below.size)⟩
theorem cell_set_away (w : World) {b g : Nat} (h : b ≠ g) (i : Nat) (u : Value) (o : Nat) : (w.setCell ⟨b, i, none⟩ u).cell? ⟨g, o, none⟩ = w.cell? ⟨g, o, none⟩ := World.cell?_of_block (Below.heap_setCell w ⟨b, i, none⟩ u g (Ne.symm h))
theorem withSetsP_any (g : Nat) (lb : Array Value) (f : Int → Int) (Pn : Int → Prop) (eg : ∀ args w, (callFunc g args).run Try.prog w = .ok (.enter g args) w) (w : World) (lo hi : Nat) (m : M.Mz) (a b : Option Addr) (c d : Nat) (hp : FnOkP g lb f Pn w) (hPd : ∀ k (h : k < m.doors.length), Pn m.doors[k].2.2) (hPk : ∀ k (h : k < m.keys.length), Pn m.keys[k]) (h : MzIn lo hi w m a c b d) (hz : hi ≤ w.heap.size) (h1 : m.doors.length ≤ 1048576) (h2 : m.keys.length ≤ 1048576) :
    Calls Try.prog 79 #[.agg #[.int .i64 m.size, .slice a m.doors.length c, .slice b m.keys.length d], .func (.func g) #[] lb] w (MzPost w (M.replaced f m)) := by
  have H := Lib.hid h
  have HP := Lib.hid hp
  have HPD := Lib.hid hPd
  have HPK := Lib.hid hPk
  clear h hp hPd hPk
  go_enter Try.func79, Try.ntmps79
  go_wp2_with (fail)
  refine named ?_
  intro W hW
  have hb : Below w.heap.size w W := by rw [hW]; exact (below_alloc _ _).alloc (by simp) _
  have y1 : Box3 W (w.heap.size + 1) 27 (.int .i64 0) (.slice none 0 0) (.slice none 0 0) := by rw [hW]; exact Box3.new _ _ _ _ (by simp)
  clear hW
  have hzw := hb.size
  refine (clone_any W lo hi m a b c d (H.out.below hb hz) (by omega) (by omega) (by omega)).mono ?_
  rintro e w3 ⟨pa, pc, ka, kc, rfl, ho, hb3⟩
  have hz3 := hb3.size
  have hy := y1.lt
  have HB3 := Lib.hid (hb.trans (hb3.mono hzw))
  have Y3 := Lib.hid (y1.below hb3)
  have HO := Lib.hid ho
  clear hb hb3 ho y1
  go_wp2_with fail
  refine wp_named ?_
  intro W4 hW4
  have hb4 : Below w3.heap.size w3 W4 := by rw [hW4]; exact below_alloc _ _
  have st4 : WSt w m W.heap.size w3.heap.size pa ka pc kc W4 (M.repDs f m.doors 0) (M.repIs f m.keys 0) := by
    have HO4 := HO.out.below hb4 (Nat.le_refl _)
    rw [M.repDs_zero, M.repIs_zero]
    exact ⟨by rw [hW4]; exact Box3.new _ _ _ _ rfl, HO4.doors, HO4.keys, Y3.out.below hb4, HB3.out.trans (hb4.mono (by omega))⟩
  have ST4 := Lib.hid st4
  have hz4 := hb4.size
  have hc1 := HO.out.c1
  have hc2 := HO.out.c2
  have hd1 := HO.out.d1
  have hd2 := HO.out.d2
  obtain ⟨b0, b1, b2⟩ := st4.bx.cells
  clear hW4 hb4 st4
  go_wp2_with fail
  go_loopw [6, 13] (fun _ i wr => ∃ (k : Nat), k ≤ m.doors.length ∧ i = .int .i64 k ∧ w3.heap.size < wr.heap.size ∧ WSt w m W.heap.size w3.heap.size pa ka pc kc wr (M.repDs f m.doors k) (M.repIs f m.keys 0)) (fun _ i _ => m.doors.length - (intOf i).toNat)
  case atStart => exact ⟨0, Nat.zero_le _, rfl, ST4.out.bx.lt, ST4.out⟩
  case round =>
    obtain ⟨k, hk, rfl, hsz, hst⟩ := hrel
    have ST := Lib.hid hst
    obtain ⟨b0, b1, b2⟩ := hst.bx.cells
    have hgl := hst.bx.lt
    clear hst
    by_cases hlt : k < m.doors.length
    · obtain ⟨pb, poff, hpa, hpb1, hpb2, hcc⟩ := ST.out.dm.row.at_ (k := k * 3 + 2) (by rw [M.encDs_len, M.repDs_len]; omega)
      subst hpa
      have p2 : wr.cell? ⟨pb, poff + k * 3 + 2, none⟩ = some (.int .i64 m.doors[k].2.2) := by
        have := hcc _ _ (M.repDs_get hlt)
        rwa [← Nat.add_assoc] at this
      have hlti : (k : Int) < (m.doors.length : Int) := by omega
      have CP := Lib.hid (HP.out wr.drew m.doors[k].2.2 (HPD.out k hlt) ST.out.below.drew)
      have hpg : pb ≠ w3.heap.size := by omega
      clear hcc
      go_wp2_with fail
      go_region_with (go_at_fn g; refine CP.out.mono ?_; rintro e w5 ⟨rfl, hb5⟩; have hb5' : Below wr.heap.size wr w5 := (Below.refl wr.heap.size wr).drew.trans hb5; have st5 := ST.out.later (by omega) hb5'; obtain ⟨b0, b1, b2⟩ := st5.bx.cells; have p2 := (hb5'.cell (p := ⟨pb, poff + k * 3 + 2, none⟩) (show pb < _ by omega)).trans p2; have f2 : w5.frozen? ⟨pb, poff + k * 3 + 2, none⟩ = false := st5.dm.free rfl (k := k * 3 + 2) (by rw [M.encDs_len, M.repDs_len]; omega) _)
      all_goals
        go_wp2_with fail
        go_roundw
        case rel =>
          have hd5 := st5.dm.set_ rfl (k * 3 + 2) (.int .i64 (f m.doors[k].2.2))
          rw [M.repDs_set hlt, ← Nat.add_assoc] at hd5
          refine ⟨k + 1, by omega, by go_num, by have := hb5'.size; simp [World.setCell]; omega, ⟨st5.bx.other (Ne.symm hpg) _ _, hd5, st5.km.far st5.dm (by decide) rfl (k := k * 3 + 2) (by rw [M.encDs_len, M.repDs_len]; omega) _ _, st5.res.other (by omega) _ _, st5.below.setCell (p := ⟨pb, poff + k * 3 + 2, none⟩) (by show w.heap.size ≤ pb; omega) _⟩⟩
        case measure => simp [intOf]; omega
    · obtain rfl : k = m.doors.length := by omega
      go_wp2_with fail
      go_loopw [7, 33] (fun _ i wr => ∃ (k : Nat), k ≤ m.keys.length ∧ i = .int .i64 k ∧ w3.heap.size < wr.heap.size ∧ WSt w m W.heap.size w3.heap.size pa ka pc kc wr (M.repDs f m.doors m.doors.length) (M.repIs f m.keys k)) (fun _ i _ => m.keys.length - (intOf i).toNat)
      case atStart => exact ⟨0, Nat.zero_le _, rfl, hsz, ST.out⟩
      case round =>
        obtain ⟨k, hk, rfl, hsz, hst⟩ := hrel
        have ST2 := Lib.hid hst
        obtain ⟨b0, b1, b2⟩ := hst.bx.cells
        have hgl := hst.bx.lt
        clear hst
        by_cases hlt : k < m.keys.length
        · obtain ⟨kb, koff, hka, hkb1, hkb2, hcc⟩ := ST2.out.km.row.at_ (k := k) (by rw [M.encIs_len, M.repIs_len]; omega)
          subst hka
          have p2 : wr.cell? ⟨kb, koff + k, none⟩ = some (.int .i64 m.keys[k]) := hcc _ _ (M.repIs_get hlt)
          have hlti : (k : Int) < (m.keys.length : Int) := by omega
          have CP := Lib.hid (HP.out wr.drew m.keys[k] (HPK.out k hlt) ST2.out.below.drew)
          have hkg : kb ≠ w3.heap.size := by omega
          clear hcc
          go_wp2_with fail
          go_region_with (go_at_fn g; refine CP.out.mono ?_; rintro e w5 ⟨rfl, hb5⟩; have hb5' : Below wr.heap.size wr w5 := (Below.refl wr.heap.size wr).drew.trans hb5; have st5 := ST2.out.later (by omega) hb5'; obtain ⟨b0, b1, b2⟩ := st5.bx.cells; have p2 := (hb5'.cell (p := ⟨kb, koff + k, none⟩) (show kb < _ by omega)).trans p2; have f2 : w5.frozen? ⟨kb, koff + k, none⟩ = false := st5.km.free rfl (k := k) (by rw [M.encIs_len, M.repIs_len]; omega) _)
          all_goals
            go_wp2_with fail
            go_roundw
            case rel =>
              have hd5 := st5.km.set_ rfl k (.int .i64 (f m.keys[k]))
              rw [M.repIs_set hlt] at hd5
              refine ⟨k + 1, by omega, by go_num, by have := hb5'.size; simp [World.setCell]; omega, ⟨st5.bx.other (Ne.symm hkg) _ _, st5.dm.far st5.km (by decide) rfl (k := k) (by rw [M.encIs_len, M.repIs_len]; omega) _ _, hd5, st5.res.other (by omega) _ _, st5.below.setCell (p := ⟨kb, koff + k, none⟩) (by show w.heap.size ≤ kb; omega) _⟩⟩
            case measure => simp [intOf]; omega
        · obtain rfl : k = m.keys.length := by omega
          obtain ⟨k0, k1, k2⟩ := ST2.out.res.cells
          obtain ⟨f0, f1, f2⟩ := ST2.out.res.free
          have hyl := ST2.out.res.lt
          have hdm := ST2.out.dm
          have hkm := ST2.out.km
          rw [M.repDs_all] at hdm
          rw [M.repIs_all] at hkm
          have HDM := Lib.hid hdm
          have HKM := Lib.hid hkm
          clear hdm hkm
          go_wp2_with fail
          refine bodyPost_ret (v := .agg #[.int .i64 m.size, .slice pa m.doors.length pc, .slice ka m.keys.length kc]) (by simp [results, Try.results79, go_sem, k0, k1, k2]) rfl ?_
          have e1 : (M.replaced f m).doors.length = m.doors.length := List.length_map ..
          have e2 : (M.replaced f m).keys.length = m.keys.length := List.length_map ..
          have := mz_end (m := M.replaced f m) (da := pa) (ia := ka) (dc := pc) (ic := kc) (u0 := .int .i64 m.size) (u1 := .slice pa m.doors.length pc) (u2 := .slice ka m.keys.length kc) ST2.out.below (HDM.out.mono (by omega) (by omega)) (HKM.out.mono (by omega) (by omega)) (by rw [e1]; exact hc1) hc2 (by rw [e2]; exact hd1) hd2 (by omega)
          rw [e1, e2] at this
          exact this
end C
end Go.Proofs.Ytmccpjdgnenmeaa
