/-
  CONTRACT of spec.l2Put at no door, and in full. Condition: the doors lie in memory of the caller's own, at most 1000 of them.
-/
import Derived.Test.YtmccpjdgnenmeaaPut
import Derived.Laws.AppendOwnNone
namespace Go.Proofs.Ytmccpjdgnenmeaa
open Go.RowKit
namespace C
set_option maxHeartbeats 32000000
set_option maxRecDepth 20000
theorem run_app_zero {P : Program} (w : World) (base : Nat) (t ty e : TypeId) (i : TypeInfo) (size : Nat) (ht : P.underlying t = some (.slice e)) (hi : P.info? e = some i) (v : Value) (n : Nat) (xs : List Value) (hown : w.ownsRow base e size v n xs) (o : Option Addr) (c : Nat) :
    (Builtin.append_ #[t, t] ty #[v, .slice o 0 c]).run P w = .ok v w := by
  rcases hown.2 with ⟨hv, hn⟩ | ⟨g, cap, cur, hv, _, _, hnc, _⟩
  · subst hv; subst hn
    rcases o with _ | ad <;> simp [Builtin.append_, run_underlying ht, sizeOf, typeInfo, hi, Builtin.lenOf, Builtin.firstCells, loadCells, loadCellsFrom]
  · subst hv
    rcases o with _ | ad <;> simp [Builtin.append_, run_underlying ht, sizeOf, typeInfo, hi, Builtin.lenOf, Builtin.firstCells, hnc, storeCells, loadCells, loadCellsFrom]
theorem step_append_zero {P : Program} {w : World} {ops : Array Oper} {o : Oper} {a : Act} {K : Act → World → Prop} {Q : Exit → Act → World → Prop} {E : Prop} (hgd : o.guard = none) (s x : Operand) (t : TypeId)
    (ho : o.op = .call { callee := .builtin .append, args := #[s, x], argTypes := #[t, t] })
    (base : Nat) (e : TypeId) (i : TypeInfo) (size : Nat) (ht : P.underlying t = some (.slice e)) (hi : P.info? e = some i)
    (v : Value) (n : Nat) (xs : List Value) (hown : w.ownsRow base e size v n xs) (hs : a.eval s = v)
    (ad : Option Addr) (c : Nat) (hx : a.eval x = .slice ad 0 c)
    (h : K (a.put o.dst v) w) :
    if Region.wanted o (yielded ops a.tmps) = true then Oper.wp P o a w K Q else E := by
  have hw : Region.wanted o (yielded ops a.tmps) = true := by simp [Region.wanted, hgd]
  rw [if_pos hw]
  have hr := run_app_zero (P := P) w base t o.type e i size ht hi v n xs hown ad c
  unfold Oper.wp execOp
  simp only [ho, resolve, invoke, builtin, Sem.run_bind, Sem.run_pure, Result.andThen_ok, List.map_toArray, List.map_cons, List.map_nil, hs, hx, hr]
  exact h
theorem put_nil (w : World) (B : Nat) (o : Option Addr) (c : Nat) (x y n : Int) (hB : B ≤ w.heap.size) :
    Calls Try.prog 76 #[.slice o 0 c, .int .i64 x, .int .i64 y, .int .i64 n] w (PutPost B w [(min x y, max x y, n)]) := by
  obtain ⟨i0, hi0, hz0, hz1, hz2⟩ := info_parts infoD
  generalize hd : (min x y, max x y, n) = d
  have hd1 : min x y = d.1 := by rw [← hd]
  have hd2 : max x y = d.2.1 := by rw [← hd]
  have hd3 : n = d.2.2 := by rw [← hd]
  subst hd3
  clear hd
  rcases o with _ | ad
  all_goals
    go_enter Try.func76, Try.ntmps76
    go_wp2_with fail
    refine (l1Least_any _ _ _).mono ?_
    rintro e w1 ⟨rfl, rfl⟩
    go_wp2_with fail
    refine (l1Most_any _ _ _).mono ?_
    rintro e w1 ⟨rfl, rfl⟩
    rw [hd2]
    go_wp2_with fail
    refine wp_loop_rounds 1 ?_
    rw [rounds_succ]
    have mixed : Try.prog.follows .mixedOrders = true := by kernel_rfl
    refine wp_named ?_
    intro W hW
    have hbW : Below w.heap.size w W := by rw [hW]; exact below_alloc _ _
    have hbox : Box3 W w.heap.size 60 (.int .i64 d.1) (.int .i64 d.2.1) (.int .i64 d.2.2) := by rw [hW]; exact Box3.new _ _ _ _ rfl
    clear hW
    have HBX := Lib.hid hbox
    have HBW := Lib.hid hbW
    have hzW := hbW.size
    clear hbox hbW
    go_wp2_with fail
    refine wp_region_quiet_grown (by assumption) (by kernel_rfl) ?_
    repeat (first | go_big_quiet_step (fail) | quiet_step (fail))
    refine wpQuiet_nil ?_
    intro _ hw'
    obtain ⟨⟨nq, osq⟩, hw''⟩ := hw'
    subst hw''
    go_wp2_with fail
    refine wp_region_quiet_grown (by assumption) (by kernel_rfl) ?_
    repeat (first | go_big_quiet_step (fail) | quiet_step (fail))
    refine wpQuiet_nil ?_
    intro _ hw'
    obtain ⟨⟨nq2, osq2⟩, hw''⟩ := hw'
    subst hw''
    go_wp2_with fail
    refine wp_named ?_
    intro W7 hW7
    have hbW7 : Below W.heap.size W W7 := by rw [hW7]; exact Below.more (below_grown W _ _) (below_grown _ _ _)
    clear hW7
    have x7 := HBX.out.below hbW7
    have HB7 := Lib.hid (HBW.out.trans (hbW7.mono hzW))
    have hz7 := hbW7.size
    have hl7 := x7.lt
    have X7 := Lib.hid x7
    obtain ⟨d0, d1, d2⟩ := x7.cells
    clear hbW7 x7
    have oa2 : ((W7.drew.alloc (.cells #[] 60)).alloc (.cells #[.int .i64 d.1, .int .i64 d.2.1, .int .i64 d.2.2] 60)).ownsRow W7.heap.size 60 3 (.slice (some ⟨W7.heap.size, 0, none⟩) 0 0) 0 [] := (ownsRow_empty W7.drew W7.heap.size 60 3 (Nat.le_refl _)).alloc _
    have oa3 : ((W7.drew.alloc (.cells #[.int .i64 d.1, .int .i64 d.2.1, .int .i64 d.2.2] 60)).alloc (.cells #[] 60)).ownsRow W7.heap.size 60 3 (.slice (some ⟨W7.heap.size + 1, 0, none⟩) 0 0) 0 [] := by
      have := ownsRow_empty (W7.drew.alloc (.cells #[.int .i64 d.1, .int .i64 d.2.1, .int .i64 d.2.2] 60)) W7.heap.size 60 3 (by simp)
      simpa using this
    have cc2 : Box3 ((W7.drew.alloc (.cells #[] 60)).alloc (.cells #[.int .i64 d.1, .int .i64 d.2.1, .int .i64 d.2.2] 60)) (W7.heap.size + 1) 60 (.int .i64 d.1) (.int .i64 d.2.1) (.int .i64 d.2.2) := Box3.new _ _ _ _ (by simp)
    have cc3 : Box3 ((W7.drew.alloc (.cells #[.int .i64 d.1, .int .i64 d.2.1, .int .i64 d.2.2] 60)).alloc (.cells #[] 60)) W7.heap.size 60 (.int .i64 d.1) (.int .i64 d.2.1) (.int .i64 d.2.2) := (Box3.new _ _ _ _ rfl).alloc _
    have OA2 := Lib.hid oa2
    have OA3 := Lib.hid oa3
    have CC2 := Lib.hid cc2
    have CC3 := Lib.hid cc3
    have hdrew : W7.drew.heap.size = W7.heap.size := rfl
    clear oa2 oa3 cc2 cc3
  · go_region_held3 (fun wq => wq.cell? ⟨w.heap.size, 0, none⟩ = some (.int .i64 d.1) ∧ wq.cell? ⟨w.heap.size, 1, none⟩ = some (.int .i64 d.2.1) ∧ wq.cell? ⟨w.heap.size, 2, none⟩ = some (.int .i64 d.2.2)) (first | exact ⟨d0, d1, d2⟩ | go_keep) (first
      | (refine step_append_zero rfl (.tmp 53) (.tmp 56) 24 rfl W7.heap.size 60 i0 3 Try.underlying24 hi0 _ _ _ o9 (by first | (simp [Act.eval]; done) | simp [Act.eval, Act.put]) none c (by first | (simp [Act.eval]; done) | simp [Act.eval, Act.put]) ?_)
      | (refine step_append_own rfl (.tmp 50) (.tmp 52) 24 rfl W7.heap.size 60 i0 (.agg #[.int .i64 0, .int .i64 0, .int .i64 0]) 3 24 Try.underlying24 hi0 hz0 hz1 hz2 rfl (by decide) _ _ _ OA2.out (by simp [Act.eval]) ⟨W7.heap.size + 1, 0, none⟩ 1 1 (M.encD d) (by simp [Act.eval]) (show (M.encD d).length = 1 * 3 from rfl) (news3 CC2.out) (encD_one _) (by unfold maxLen; omega) (by omega) (by simp; omega) ?_; intro v2 w9 hownw9 hgroww9 hnilw9; have hb9 : Below W7.heap.size W7 w9 := (((Below.refl W7.heap.size W7).drew.alloc (Nat.le_refl _) _).alloc (by simp) _).grown hgroww9 (by simp; omega) (own_base OA2.out); have o9 : w9.ownsRow W7.heap.size 60 3 v2 1 (M.encDs [d]) := (by rw [encDs_single]; simpa using hownw9); obtain ⟨d0, d1, d2⟩ := (X7.out.below hb9).cells; have hs9 := hb9.size)
      | (refine step_append_own rfl (.tmp 50) (.tmp 52) 24 rfl W7.heap.size 60 i0 (.agg #[.int .i64 0, .int .i64 0, .int .i64 0]) 3 24 Try.underlying24 hi0 hz0 hz1 hz2 rfl (by decide) _ _ _ OA3.out (by simp [Act.eval]) ⟨W7.heap.size, 0, none⟩ 1 1 (M.encD d) (by simp [Act.eval]) (show (M.encD d).length = 1 * 3 from rfl) (news3 CC3.out) (encD_one _) (by unfold maxLen; omega) (by omega) (by simp; omega) ?_; intro v2 w9 hownw9 hgroww9 hnilw9; have hb9 : Below W7.heap.size W7 w9 := (((Below.refl W7.heap.size W7).drew.alloc (Nat.le_refl _) _).alloc (by simp) _).grown hgroww9 (by simp; omega) (own_base OA3.out); have o9 : w9.ownsRow W7.heap.size 60 3 v2 1 (M.encDs [d]) := (by rw [encDs_single]; simpa using hownw9); obtain ⟨d0, d1, d2⟩ := (X7.out.below hb9).cells; have hs9 := hb9.size)
      | (refine step_append_zero rfl (.tmp 46) (.tmp 49) 24 rfl W7.heap.size 60 i0 3 Try.underlying24 hi0 _ _ _ (ownsRow_empty W7.drew W7.heap.size 60 3 (Nat.le_refl _)) (by first | (simp [Act.eval]; done) | simp [Act.eval, Act.put]) none c (by first | (simp [Act.eval]; done) | simp [Act.eval, Act.put]) ?_)
      | (refine step_append_zero rfl (.tmp 46) (.tmp 49) 24 rfl W7.heap.size 60 i0 3 Try.underlying24 hi0 _ _ _ OA2.out (by first | (simp [Act.eval]; done) | simp [Act.eval, Act.put]) none c (by first | (simp [Act.eval]; done) | simp [Act.eval, Act.put]) ?_)
      | (refine step_append_zero rfl (.tmp 46) (.tmp 49) 24 rfl W7.heap.size 60 i0 3 Try.underlying24 hi0 _ _ _ OA3.out (by first | (simp [Act.eval]; done) | simp [Act.eval, Act.put]) none c (by first | (simp [Act.eval]; done) | simp [Act.eval, Act.put]) ?_))
    all_goals
      go_wp2_with fail
      go_ret
      exact put_end HB7.out hB o9 rfl rfl hb9
  · go_region_held3 (fun wq => wq.cell? ⟨w.heap.size, 0, none⟩ = some (.int .i64 d.1) ∧ wq.cell? ⟨w.heap.size, 1, none⟩ = some (.int .i64 d.2.1) ∧ wq.cell? ⟨w.heap.size, 2, none⟩ = some (.int .i64 d.2.2)) (first | exact ⟨d0, d1, d2⟩ | go_keep) (first
      | (refine step_append_zero rfl (.tmp 53) (.tmp 56) 24 rfl W7.heap.size 60 i0 3 Try.underlying24 hi0 _ _ _ o9 (by first | (simp [Act.eval]; done) | simp [Act.eval, Act.put]) (some ad) c (by first | (simp [Act.eval]; done) | simp [Act.eval, Act.put]) ?_)
      | (refine step_append_own rfl (.tmp 50) (.tmp 52) 24 rfl W7.heap.size 60 i0 (.agg #[.int .i64 0, .int .i64 0, .int .i64 0]) 3 24 Try.underlying24 hi0 hz0 hz1 hz2 rfl (by decide) _ _ _ OA2.out (by simp [Act.eval]) ⟨W7.heap.size + 1, 0, none⟩ 1 1 (M.encD d) (by simp [Act.eval]) (show (M.encD d).length = 1 * 3 from rfl) (news3 CC2.out) (encD_one _) (by unfold maxLen; omega) (by omega) (by simp; omega) ?_; intro v2 w9 hownw9 hgroww9 hnilw9; have hb9 : Below W7.heap.size W7 w9 := (((Below.refl W7.heap.size W7).drew.alloc (Nat.le_refl _) _).alloc (by simp) _).grown hgroww9 (by simp; omega) (own_base OA2.out); have o9 : w9.ownsRow W7.heap.size 60 3 v2 1 (M.encDs [d]) := (by rw [encDs_single]; simpa using hownw9); obtain ⟨d0, d1, d2⟩ := (X7.out.below hb9).cells; have hs9 := hb9.size)
      | (refine step_append_own rfl (.tmp 50) (.tmp 52) 24 rfl W7.heap.size 60 i0 (.agg #[.int .i64 0, .int .i64 0, .int .i64 0]) 3 24 Try.underlying24 hi0 hz0 hz1 hz2 rfl (by decide) _ _ _ OA3.out (by simp [Act.eval]) ⟨W7.heap.size, 0, none⟩ 1 1 (M.encD d) (by simp [Act.eval]) (show (M.encD d).length = 1 * 3 from rfl) (news3 CC3.out) (encD_one _) (by unfold maxLen; omega) (by omega) (by simp; omega) ?_; intro v2 w9 hownw9 hgroww9 hnilw9; have hb9 : Below W7.heap.size W7 w9 := (((Below.refl W7.heap.size W7).drew.alloc (Nat.le_refl _) _).alloc (by simp) _).grown hgroww9 (by simp; omega) (own_base OA3.out); have o9 : w9.ownsRow W7.heap.size 60 3 v2 1 (M.encDs [d]) := (by rw [encDs_single]; simpa using hownw9); obtain ⟨d0, d1, d2⟩ := (X7.out.below hb9).cells; have hs9 := hb9.size)
      | (refine step_append_zero rfl (.tmp 46) (.tmp 49) 24 rfl W7.heap.size 60 i0 3 Try.underlying24 hi0 _ _ _ (ownsRow_empty W7.drew W7.heap.size 60 3 (Nat.le_refl _)) (by first | (simp [Act.eval]; done) | simp [Act.eval, Act.put]) (some ad) c (by first | (simp [Act.eval]; done) | simp [Act.eval, Act.put]) ?_)
      | (refine step_append_zero rfl (.tmp 46) (.tmp 49) 24 rfl W7.heap.size 60 i0 3 Try.underlying24 hi0 _ _ _ OA2.out (by first | (simp [Act.eval]; done) | simp [Act.eval, Act.put]) (some ad) c (by first | (simp [Act.eval]; done) | simp [Act.eval, Act.put]) ?_)
      | (refine step_append_zero rfl (.tmp 46) (.tmp 49) 24 rfl W7.heap.size 60 i0 3 Try.underlying24 hi0 _ _ _ OA3.out (by first | (simp [Act.eval]; done) | simp [Act.eval, Act.put]) (some ad) c (by first | (simp [Act.eval]; done) | simp [Act.eval, Act.put]) ?_))
    all_goals
      go_wp2_with fail
      go_ret
      exact put_end HB7.out hB o9 rfl rfl hb9
theorem put_empty (d : M.Dr) : M.put M.ltD [] d = [d] := by
  rw [M.put_new (k := 0) (by unfold M.place; rfl) (by simp)]
  rfl
theorem put_any (w : World) (B hi : Nat) (a : Option Addr) (c : Nat) (l : List M.Dr) (x y n : Int) (h : OwnAt B hi w 60 a (M.encDs l)) (hz : hi ≤ w.heap.size) (hB : B ≤ w.heap.size) (hl : l.length ≤ 1000) (hc1 : l.length ≤ c) (hc2 : c ≤ 9223372036854775807) :
    Calls Try.prog 76 #[.slice a l.length c, .int .i64 x, .int .i64 y, .int .i64 n] w (PutPost B w (M.put M.ltD l (min x y, max x y, n))) := by
  rcases hll : l with _ | ⟨d0, l0⟩
  · rw [put_empty]
    exact put_nil w B a c x y n hB
  · rw [← hll]
    obtain ⟨b, off, ha, _, _, _⟩ := h.row.at_ (k := 0) (by rw [M.encDs_len, hll]; simp)
    subst ha
    exact put_cons w B hi b off c l x y n h (by rw [hll]; simp) hz hB hl hc1 hc2
end C
end Go.Proofs.Ytmccpjdgnenmeaa
