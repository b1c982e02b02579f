/-
  CONTRACT of impl.leastSteps: a map of the least numbers of steps, in memory of its own; what lay in memory stays. Condition: the function value answers with the states to which one step leads, of which there are at most 100000.
-/
import Derived.Test.YtdgfceiobpnchaaQueV
import Derived.Deep.DeepCutAuto
import Derived.StillTailTactics
import Derived.IntWalk
namespace Go.Proofs.Ytdgfceiobpnchaa
open Go.RowKit
namespace C
set_option maxHeartbeats 3200000
set_option maxRecDepth 20000
/-- what the function value answers -/
def NextOk (g : Nat) (pre post : Array Value) (N : M.St → List M.St) (S : M.St → Prop) (w : World) : Prop :=
  ∀ W s, Below w.heap.size w W → S s → Calls Try.prog g (pre.push (.agg #[.int .i64 s.1, .int .i64 s.2]) ++ post) W fun e w' =>
    ∃ a c lo hi, e = .returned (.slice a (N s).length c) ∧ RowIn lo hi w' a (M.encSs (N s)) ∧ hi ≤ w'.heap.size ∧ (hi ≤ w.heap.size ∨ W.heap.size ≤ lo) ∧ Below W.heap.size W w'
/-- a map of numbers of steps -/
def MapPost (w : World) (f : M.St → Option Nat) (e : Ending) (w' : World) : Prop :=
  ∃ b L, e = .returned (.map (some b)) ∧ w.heap.size ≤ b ∧ MapP w' b L f ∧ L.length ≤ 100000 ∧ Below w.heap.size w w'
/-- what leastSteps asks of the steps -/
structure StepsOk (N : M.St → List M.St) (S : M.St → Prop) (F : List M.St) : Prop where
  nodup : F.Nodup
  first : ∀ s ∈ F, S s
  inside : ∀ s, S s → ∀ t ∈ N s, S t
  st64 : ∀ s, S s → St64 s
  few : ∀ s, S s → (N s).length ≤ 100000
  id : ∃ (B : Nat) (g : M.St → Int), B ≤ 100000 ∧ (∀ s, S s → 0 ≤ g s ∧ g s < B) ∧ ∀ s t, S s → S t → g s = g t → s = t
theorem StepsOk.len {N : M.St → List M.St} {S : M.St → Prop} {F L : List M.St} {n : Nat} {f : M.St → Option Nat} (h : StepsOk N S F) (hb : M.Bfs N F L n f) : L.length ≤ 100000 := by
  obtain ⟨B, g, h1, h2, h3⟩ := h.id
  exact Nat.le_trans (hb.len h.first h.inside h2 h3) h1
theorem StepsOk.inL {N : M.St → List M.St} {S : M.St → Prop} {F L : List M.St} {n : Nat} {f : M.St → Option Nat} (h : StepsOk N S F) (hb : M.Bfs N F L n f) {s : M.St} (hs : s ∈ L) : S s := by
  obtain ⟨k, hk⟩ := (hb.mem s).1 hs
  exact (hb.val s k hk).inside h.first h.inside
theorem take_notin {F : List M.St} (h : F.Nodup) {k : Nat} (hk : k < F.length) : F[k] ∉ F.take k := by
  intro hm
  obtain ⟨i, hi, e⟩ := List.mem_iff_getElem.1 hm
  rw [List.length_take] at hi
  rw [List.getElem_take] at e
  have := (List.pairwise_iff_getElem.1 h) i k (by omega) hk (by omega)
  exact this e
def startF (F : List M.St) (k : Nat) : M.St → Option Nat := fun s => if s ∈ F.take k then some 0 else none
theorem startF_zero (F : List M.St) : startF F 0 = fun _ => none := by unfold startF; funext s; simp
theorem startF_succ {F : List M.St} {k : Nat} (hk : k < F.length) : M.upd (startF F k) F[k] 0 = startF F (k + 1) := by
  funext s
  unfold M.upd startF
  simp only [List.take_succ_eq_append_getElem hk]
  by_cases h : s = F[k]
  · rw [if_pos h, if_pos (by rw [h, List.mem_append]; exact .inr (List.mem_singleton.2 rfl))]
  · rw [if_neg h]
    simp only [List.mem_append, List.mem_singleton, h, or_false]
theorem bfs_congr {N : M.St → List M.St} {F L : List M.St} {n : Nat} {f f' : M.St → Option Nat} (h : M.Bfs N F L n f) (e : ∀ s, f s = f' s) : M.Bfs N F L n f' := (funext e : f = f') ▸ h
theorem startF_bfs {N : M.St → List M.St} {F : List M.St} (h : F.Nodup) : M.Bfs N F F 0 (startF F F.length) :=
  bfs_congr (M.Bfs.start h) fun s => by
    unfold startF
    rw [List.take_length]
    by_cases hs : s ∈ F <;> simp [hs]
def sliceN : Value → Nat
  | .slice _ n _ => n
  | _ => 0
theorem leastSteps_any (g : Nat) (pre post : Array Value) (eg : ∀ args w, (callFunc g args).run Try.prog w = .ok (.enter g args) w) (N : M.St → List M.St) (S : M.St → Prop) (w : World) (lo hi : Nat) (a : Option Addr) (c : Nat) (F : List M.St)
    (h : RowIn lo hi w a (M.encSs F)) (hz : hi ≤ w.heap.size) (hS : StepsOk N S F) (hn : NextOk g pre post N S w) :
    Calls Try.prog 92 #[.slice a F.length c, .func (.func g) pre post] w (MapPost w (M.dst N F)) := by
  obtain ⟨i0, hi0, hz0, hz1, hz2⟩ := info_parts infoS
  have H := Lib.hid h
  have HS := Lib.hid hS
  have HX := Lib.hid hn
  have hFl : F.length ≤ 100000 := hS.len (M.Bfs.start hS.nodup)
  clear h hS hn
  have hmm := @run_makeMap Try.prog
  go_enter Try.func92, Try.ntmps92
  go_upto_region 2 with fail
  refine wp_named ?_
  intro W hW
  have hb : Below w.heap.size w W := by rw [hW]; exact below_alloc _ _
  have m1 : MapP W w.heap.size (F.take 0) (startF F 0) := by rw [hW, startF_zero]; exact MapP.made _
  clear hW hmm
  have M1 := Lib.hid m1
  have HB := Lib.hid hb
  clear m1 hb
  go_wp2_with fail
  go_loopw [7, 17] (fun _ v17 wr => ∃ (k : Nat), k ≤ F.length ∧ v17 = .int .i64 (k : Int) ∧ MapP wr w.heap.size (F.take k) (startF F k) ∧ Below w.heap.size w wr) (fun _ v17 _ => F.length - (intOf v17).toNat)
  case atStart => exact ⟨0, Nat.zero_le _, rfl, M1.out, HB.out⟩
  case round =>
    obtain ⟨k, hk, rfl, hm, hlow⟩ := hrel
    have MP := Lib.hid hm
    have LO := Lib.hid hlow
    have hzr := hlow.size
    have hbl := hm.lt
    clear hm hlow
    by_cases hkl : k < F.length
    · obtain ⟨db, off, hda, _, hdb, hc0⟩ := H.out.at_ (k := k * 2) (by rw [M.encSs_len]; omega)
      subst hda
      have a0 : wr.cell? ⟨db, off + k * 2, none⟩ = some (.int .i64 F[k].1) := (LO.out.cell (p := ⟨db, off + k * 2, none⟩) (show db < _ by omega)).trans (hc0 _ _ (M.encSs_at0 hkl))
      have a1 : wr.cell? ⟨db, off + k * 2 + 1, none⟩ = some (.int .i64 F[k].2) := (LO.out.cell (p := ⟨db, off + k * 2 + 1, none⟩) (show db < _ by omega)).trans (hc0 _ _ (M.encSs_at1 hkl))
      have h64 := Lib.hid (HS.out.st64 _ (HS.out.first _ (List.getElem_mem hkl)))
      have HT := Lib.hid (startF_succ hkl)
      have HA : Hid (addK (F.take k) F[k] = F.take (k + 1)) := Lib.hid (by rw [addK_new (take_notin HS.out.nodup hkl), List.take_succ_eq_append_getElem hkl])
      have hdw : db < wr.heap.size := by omega
      clear hc0
      generalize F[k] = t at *
      go_wp2_with (at_mapUpdate; refine wpList_putS rfl _ _ _ rfl w.heap.size _ _ rfl (MP.out.below (below_alloc _ _) hbl) t h64.out 0 (by decide) (by rw [List.length_take]; unfold maxLen; omega) rfl rfl ?_; intro w2 mp2 tb2)
      go_roundw
      case rel => exact ⟨k + 1, by omega, by go_num, by rw [HA.out, HT.out] at mp2; exact mp2, Below.thenTurned (LO.out.alloc (by omega) _) tb2 (Nat.le_refl _) (by simp; omega)⟩
      case measure => simp [intOf]; omega
    · obtain rfl : k = F.length := by omega
      have hcl := cloneSts_any wr lo hi a c F (H.out.below LO.out hz) (by omega) (by omega)
      have MF := MP.out
      rw [List.take_length] at MF
      have MP1 := Lib.hid MF
      clear MF
      go_wp2_with fail
      refine hcl.mono ?_
      rintro e w3 ⟨v8, rfl, ho3, hb3⟩
      have Q3 := Lib.hid ((OwnQ.of_own ho3).mono (B' := w.heap.size + 1) (by omega))
      have M3 := Lib.hid (MP1.out.below hb3 hbl)
      have LO3 := Lib.hid (LO.out.trans (hb3.mono hzr))
      have hz3 := hb3.size
      clear hcl ho3 hb3
      go_wp2_with fail
      go_loopw [8, 9, 11, 12, 13] (fun v8 _ _ _ _ wr => ∃ (L : List M.St) (n : Nat) (f : M.St → Option Nat), M.Bfs N F L n f ∧ OwnQ (w.heap.size + 1) wr 71 2 v8 (L.length - n) (M.encSs (L.drop n)) ∧ MapP wr w.heap.size L f ∧ Below w.heap.size w wr) (fun v8 _ _ _ _ wr => 100000 - mapN wr w.heap.size + sliceN v8)
      case atStart => exact ⟨F, 0, _, startF_bfs HS.out.nodup, Q3.out, M3.out, LO3.out⟩
      case round =>
        obtain ⟨L, n, f, hb, hq, hm, hlow⟩ := hrel
        have hLl := HS.out.len hb
        have hle := hb.le
        have MP := Lib.hid hm
        have LO := Lib.hid hlow
        have hzr := hlow.size
        have hbl := hm.lt
        have HMN := Lib.hid hm.size
        have BF := Lib.hid hb
        clear hm hlow hb
        by_cases hnl : n < L.length
        · obtain ⟨k, hmid, hkn⟩ := BF.out.enter hnl
          obtain ⟨q, hq1⟩ : ∃ q, L.length - n = q + 1 := ⟨L.length - n - 1, by omega⟩
          have hdrop : M.encSs (L.drop n) = M.encS L[n] ++ M.encSs (L.drop (n + 1)) := by rw [List.drop_eq_getElem_cons hnl]; exact M.encSs_cons _ _
          rw [hq1, hdrop] at hq
          obtain ⟨a8, c8, hv, hc8, hc8m⟩ := hq.shape
          subst hv
          obtain ⟨g8, off8, hg8, _, hg8l, hcell⟩ := (hq.row rfl).at_ (k := 0) (by simp [M.encS])
          subst hg8
          have x0 := hcell 0 (.int .i64 L[n].1) rfl
          have x1 := hcell 1 (.int .i64 L[n].2) rfl
          have HSx := Lib.hid (HS.out.inL BF.out (List.getElem_mem hnl))
          have MI := Lib.hid hmid
          have Q8 := Lib.hid hq
          have HQ1 := Lib.hid hq1
          rw [Nat.add_zero] at x0
          clear hcell hq hdrop hmid hq1
          generalize L[n] = x at *
          go_wp2_with (refine wpList_tailS rfl _ rfl (w.heap.size + 1) q _ (M.encS x) (M.encSs (L.drop (n + 1))) rfl (Q8.out.below (below_alloc _ _)) rfl ?_; intro a9 c9 q9 hob9)
          have HC := HX.out (wr.alloc (.cells #[.int .i64 x.1, .int .i64 x.2] 71)) x (LO.out.alloc (by omega) _) HSx.out
          have Z4 := Lib.hid (Box2.new (w := wr) (g := wr.heap.size) 71 (.int .i64 x.1) (.int .i64 x.2) rfl)
          have Q9 := Lib.hid q9
          have hq9 : ∀ z, (Value.slice a9 q c9).ownBlock = some z → z < wr.heap.size := fun z hz => by rw [hob9] at hz; exact (Q8.out.base z hz).2
          have HQ9 := Lib.hid hq9
          obtain ⟨a', c', e9, hc9, hc9m⟩ := q9.shape
          cases e9
          clear hob9 q9 hq9 x0 x1
          refine HC.mono ?_
          rintro e w5 ⟨a5, c5, lo5, hi5, rfl, hr5, hz5, hd5, hb5⟩
          have hsz5 := hb5.size
          rw [World.size_alloc] at hsz5 hd5
          have R5 := Lib.hid hr5
          have Z5 := Lib.hid (Z4.out.below hb5)
          have Q5 := Lib.hid (Q9.out.below hb5)
          have M5 := Lib.hid ((MP.out.below (below_alloc wr (.cells #[.int .i64 x.1, .int .i64 x.2] 71)) hbl).below hb5 (by simp; omega))
          have LO5 := Lib.hid ((LO.out.alloc (by omega) (.cells #[.int .i64 x.1, .int .i64 x.2] 71)).trans (hb5.mono (by simp; omega)))
          have hfew := HS.out.few x HSx.out
          have HIN := Lib.hid (fun t (ht : t ∈ N x) => HS.out.inside x HSx.out t ht)
          clear HC hr5 hb5
          generalize hNx : N x = T at *
          have HNX := Lib.hid hNx
          clear hNx
          generalize wr.heap.size = g9 at *
          go_wp2_with fail
          go_loopw [8, 11, 12, 13, 38] (fun v8 _ _ _ v38 ws => ∃ (j : Nat) (L' : List M.St) (f' : M.St → Option Nat), j ≤ T.length ∧ v38 = .int .i64 (j : Int) ∧ M.Mid N F L' n j f' x k ∧ OwnQ (w.heap.size + 1) ws 71 2 v8 (L'.length - (n + 1)) (M.encSs (L'.drop (n + 1))) ∧ (∀ z, v8.ownBlock = some z → z < g9 ∨ w5.heap.size ≤ z) ∧
            MapP ws w.heap.size L' f' ∧ Box2 ws g9 71 (.int .i64 x.1) (.int .i64 x.2) ∧ RowIn lo5 hi5 ws a5 (M.encSs T) ∧ Below w.heap.size w ws ∧ w5.heap.size ≤ ws.heap.size) (fun _ _ _ _ v38 _ => T.length - (intOf v38).toNat)
          case atStart => exact ⟨0, L, f, Nat.zero_le _, rfl, MI.out, by rw [show L.length - (n + 1) = q by have := HQ1.out; omega]; exact Q5.out, fun z hz => .inl (HQ9.out z hz), M5.out, Z5.out, R5.out, LO5.out, Nat.le_refl _⟩
          case round =>
            obtain ⟨j, L', f', hj, rfl, hmj, hqj, hzone, hmp, hbx, hrow, hlow, hsz⟩ := hrel
            have MJ := Lib.hid hmj
            have QJ := Lib.hid hqj
            have ZO := Lib.hid hzone
            have PJ := Lib.hid hmp
            have BJ := Lib.hid hbx
            have RJ := Lib.hid hrow
            have LJ := Lib.hid hlow
            have hLj := HS.out.len hmj.base
            have hnj := hmj.lt
            obtain ⟨a8, c8, hv8, hc8j, hc8k⟩ := hqj.shape
            subst hv8
            have hbj := hmp.lt
            have hxj := hbx.lt
            have hzj := hlow.size
            clear hmj hqj hzone hmp hbx hrow hlow
            by_cases hjl : j < T.length
            · obtain ⟨rb, roff, hra, hrb1, hrb2, hrc⟩ := RJ.out.at_ (k := j * 2) (by rw [M.encSs_len]; omega)
              subst hra
              have y0 := hrc _ _ (M.encSs_at0 hjl)
              have y1 : wr.cell? ⟨rb, roff + j * 2 + 1, none⟩ = _ := hrc _ _ (M.encSs_at1 hjl)
              have HSt := Lib.hid (HIN.out _ (List.getElem_mem hjl))
              have HT64 := Lib.hid (HS.out.st64 _ HSt.out)
              have HX64 := Lib.hid (HS.out.st64 _ HSx.out)
              have HOLD := Lib.hid (fun k' (hf : f' T[j] = some k') => MJ.out.old (by rw [HNX.out]; exact hjl) (k' := k') (by simp only [HNX.out]; exact hf))
              have HNEW := Lib.hid (fun (hf : f' T[j] = none) => MJ.out.new (by rw [HNX.out]; exact hjl) (by simp only [HNX.out]; exact hf))
              simp only [HNX.out] at HNEW
              have hrbl : rb < wr.heap.size := by omega
              clear hrc
              generalize T[j] = t at *
              go_upto_region 14 with fail
              refine wp_named ?_
              intro W1 hW1
              have hb1 : Below wr.heap.size wr W1 := by rw [hW1]; exact below_alloc _ _
              have b11 : Box2 W1 wr.heap.size 71 (.int .i64 t.1) (.int .i64 t.2) := by rw [hW1]; exact Box2.new _ _ _ rfl
              clear hW1 y0 y1
              have QK := Lib.hid (QJ.out.below hb1)
              have PK := Lib.hid (PJ.out.below hb1 hbj)
              have BK := Lib.hid (BJ.out.below hb1)
              have RK := Lib.hid (RJ.out.turned (Turned.of_below hb1 0 0) (by omega) (.inr (Nat.zero_le _)))
              have LK := Lib.hid (LJ.out.trans (hb1.mono hzj))
              have TK := Lib.hid b11
              have hzk := hb1.size
              obtain ⟨y0, y1⟩ := b11.cells
              have hyl := b11.lt
              clear b11 hb1
              cases hft : f' t with
              | some k' =>
                have HF := Lib.hid (HOLD.out k' hft)
                have HE := Lib.hid hft
                clear hft
                go_wp2_with (refine wpList_lookS rfl _ _ rfl w.heap.size _ _ rfl PK.out t HT64.out _ HE.out rfl ?_)
                go_roundw
                case rel => exact ⟨j + 1, L', f', by omega, by go_num, HF.out, QK.out, ZO.out, PK.out, BK.out, RK.out, LK.out, by omega⟩
                case measure => simp [intOf]; omega
              | none =>
                have HF := Lib.hid (HNEW.out hft)
                have HE := Lib.hid hft
                have HKX := Lib.hid MJ.out.has
                obtain ⟨z0, z1⟩ := BK.out.cells
                clear hft
                go_wp2_with (refine wpList_lookS rfl _ _ rfl w.heap.size _ _ rfl PK.out t HT64.out _ HE.out rfl ?_)
                have q1 : (Instr.lookup 84 (.map (some w.heap.size)) (.agg #[.int .i64 x.1, .int .i64 x.2]) false).run Try.prog W1.drew = .ok (.int .i64 (k : Int)) W1.drew := by
                  have := MapP.look1 (w := W1.drew) PK.out HX64.out
                  rw [HKX.out] at this
                  exact this
                go_still_tail 6, (by kernel_rfl)
                have hfull := HS.out.len HF.out.base
                rw [List.length_append, List.length_singleton] at hfull
                have hnot : t ∉ L' := fun hm => by
                  obtain ⟨v, hv⟩ := (MJ.out.base.mem t).1 hm
                  rw [HE.out] at hv
                  cases hv
                refine wpList_putS (w := W1.drew) rfl _ _ _ rfl w.heap.size _ _ rfl PK.out t HT64.out (k + 1) (by omega) (by unfold maxLen; omega) rfl ?hu ?_
                case hu => show Value.int .i64 (IntKind.i64.wrap ((k : Int) + 1)) = _; rw [show IntKind.i64.wrap ((k : Int) + 1) = (k : Int) + 1 from IntWalk.i64_in _ (by omega)]; rfl
                intro w2 mp2 tb2
                rw [addK_new hnot] at mp2
                have hs2 : W1.heap.size ≤ w2.heap.size := tb2.size
                have P2 := Lib.hid mp2
                have QK1 : OwnQ (w.heap.size + 1) W1.drew 71 2 (.slice a8 (L'.length - (n + 1)) c8) (L'.length - (n + 1)) (M.encSs (L'.drop (n + 1))) := QK.out
                have QB := Lib.hid QK1.base
                have Q2 := Lib.hid (QK1.turned tb2 fun z hz => .inr (QK1.base z hz).1)
                have BK1 : Box2 W1.drew g9 71 (.int .i64 x.1) (.int .i64 x.2) := BK.out
                have B2 := Lib.hid (BK1.turned tb2 (.inr (by omega)))
                have TK1 : Box2 W1.drew wr.heap.size 71 (.int .i64 t.1) (.int .i64 t.2) := TK.out
                have t2 := TK1.turned tb2 (.inr (by omega))
                have RK1 : RowIn lo5 hi5 W1.drew _ (M.encSs T) := RK.out
                have R2 := Lib.hid (RK1.turned tb2 (by show hi5 ≤ W1.heap.size; omega) (by omega))
                have L2 := Lib.hid (Below.thenTurned (Below.drawnN LK.out 1) tb2 (Nat.le_refl _) (by show w.heap.size ≤ W1.heap.size; omega))
                obtain ⟨t0, t1⟩ := t2.cells
                clear q1 mp2 tb2 QK1 BK1 TK1 RK1 t2 y0 y1 z0 z1 hnot
                go_wp2_with (at_builtin; refine wpList_append_q rfl _ _ 92 rfl (w.heap.size + 1) 71 i0 (.agg #[.int .i64 0, .int .i64 0]) 2 16 Try.underlying92 hi0 hz0 hz1 hz2 rfl _ _ _ rfl (Q2.out.below (below_alloc _ _)) ⟨w2.heap.size, 0, none⟩ 1 [.int .i64 t.1, .int .i64 t.2] rfl rfl (newsS (Box2.new _ _ _ rfl)) (fun x hx => by simp at hx; rcases hx with rfl | rfl <;> rfl) (by unfold maxLen; omega) (by omega) (by simp; omega) ?_; intro v' w7 q7 hgr7 hloc7)
                go_roundw
                case rel =>
                  have hsz7 := hgr7.size
                  rw [World.size_alloc] at hsz7 hloc7
                  refine ⟨j + 1, L' ++ [t], _, by omega, by go_num, HF.out, ?_, fun z hz => ?_, ?_, ?_, ?_, ?_, by omega⟩
                  · rw [List.length_append, List.length_singleton, List.drop_append_of_le_length (by omega), M.encSs_append, show L'.length + 1 - (n + 1) = L'.length - (n + 1) + 1 by omega]
                    exact q7
                  · rcases hloc7 with e | e
                    · rw [e] at hz; exact ZO.out z hz
                    · rw [e] at hz; injection hz with hz; omega
                  · exact (P2.out.below (below_alloc _ _) P2.out.lt).grown hgr7 fun e => by have := (QB.out _ e.symm).1; omega
                  · exact (B2.out.alloc _).grown hgr7 fun e => by have := ZO.out _ e; omega
                  · refine (R2.out.turned (Turned.of_below (below_alloc _ _) 0 0) (by omega) (.inr (Nat.zero_le _))).grown hgr7 (by rw [World.size_alloc]; omega) fun z hz => ?_
                    have h1 := (QB.out z hz).1
                    have h2 := ZO.out z hz
                    omega
                  · exact (L2.out.alloc (by omega) _).grown hgr7 (by simp; omega) fun z hz => by have := (QB.out z hz).1; omega
                case measure => simp [intOf]; omega
            · obtain rfl : j = T.length := by omega
              have hlv := MJ.out
              rw [← HNX.out] at hlv
              have HLV := Lib.hid hlv.leave
              have HMJ := Lib.hid PJ.out.size
              clear hlv
              go_wp2_with fail
              go_roundw
              case rel => exact ⟨L', n + 1, f', HLV.out, QJ.out, PJ.out, LJ.out⟩
              case measure => rw [HMJ.out, HMN.out]; simp [sliceN]; have := HQ1.out; omega
        · obtain rfl : n = L.length := by omega
          have hfd : f = M.dst N F := funext BF.out.done
          have HFD := Lib.hid hfd
          obtain ⟨a8, c8, hv, hc8, hc8m⟩ := hq.shape
          subst hv
          rw [Nat.sub_self] at *
          clear hfd hq
          go_wp2_with fail
          go_ret
          exact ⟨_, L, rfl, Nat.le_refl _, by rw [← HFD.out]; exact MP.out, hLl, LO.out⟩
end C
end Go.Proofs.Ytdgfceiobpnchaa
