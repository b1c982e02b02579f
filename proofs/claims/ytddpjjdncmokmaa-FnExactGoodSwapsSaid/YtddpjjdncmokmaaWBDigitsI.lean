/-
  CONTRACT of impl.digitsOf: the places of the binary digits 1, in a new list, ascending; what lay in memory stays. Condition: a number below 4096 (64 for colours).
  CLOSED FACTS on arrays of two and three numbers: '==', a slice turned to an array. No condition.
  MATHEMATICS of sorting doors, own to these proofs: a list sorted has the same members, and ascends where none stands twice; what numbering and painting make of doors. No condition.
  CONTRACT of spec.l1Has: whether a number is in a list; memory stays. Condition: the list reads so.
  WORDS for a struct of two fields in a block of its own, own to these proofs. No condition.
  LAW for a region that draws its order, own to these proofs: loads may be taken first under a condition S on the world that the region's last writers need not keep: a writer waits for each operation that is taken so. No condition.
  WORDS for steps of drawn regions and for boxes beside rows, own to these proofs. No condition.
  MATHEMATICS, own to these proofs: a list whose first k elements are replaced. No condition.
  MATHEMATICS of mazes without a part, own to these proofs: without the doors at a node, without a colour, without the keys at a node: a valid maze stays one. No condition.
  MATHEMATICS of clutters, own to these proofs: the least ones of some sets of colours, as the program keeps them of a sorted list and as the model picks them. No condition.
  WORDS for a queue of the call's own, own to these proofs: a slice that lies anywhere in a row that the call owns; what is taken off its head, what is appended to it. No condition.
  CONTRACTS of impl.SetOf and spec.SetOf: both hand back the set of a list of colours, or fail at another number; the world is as it was. Condition: a list of at most 1048576 numbers.
-/
import Derived.Test.YtddpjjdncmokmaaWAMem
import Derived.Laws.StructEq
import Derived.ProofKit
import Derived.OrdersHeld
import Derived.Deep.RegionHeld
import Derived.Deep.RegionHeld3
import Derived.Deep.RegionLaw
import Derived.OwnWalk
import Derived.WalkKit
import Derived.Deep.AppendSrc
namespace Go.Proofs.Ytddpjjdncmokmaa
open Go.RowKit
namespace M
theorem wraps_i64 (n : Int) (h0 : 0 ≤ n) (h1 : n < 2 ^ 62) : IntKind.i64.wrap n = n := by rw [IntKind.wrap_i64]; omega
theorem and1 (n : Nat) (h : n < 4096) : bits .and .i64 (n : Int) 1 = ((n % 2 : Nat) : Int) := by
  have := (bits_nat .i64 62 (by decide) wraps_i64 n 1 (by omega) (by decide)).1
  rw [Nat.and_one_is_mod] at this
  exact this
theorem shr_nat (n p : Nat) : (n : Int) / 2 ^ p = ((n / 2 ^ p : Nat) : Int) := by simp
theorem bit_test {n p : Nat} (h : n < 4096) : (bits .and .i64 ((n : Int) / 2 ^ p) 1 == 1) = digB n p := by
  rw [shr_nat, and1 _ (Nat.lt_of_le_of_lt (Nat.div_le_self _ _) h)]
  unfold digB
  rw [Bool.eq_iff_iff]
  simp only [beq_iff_eq, decide_eq_true_eq]
  exact ⟨fun h => by exact_mod_cast h, fun h => by exact_mod_cast h⟩
def colours (s : Int) : List Int := if setB s then digsTo s.toNat 6 else []
end M
namespace C
set_option maxHeartbeats 800000
set_option maxRecDepth 20000
theorem digits_any (n : Nat) (hn : n < 4096) (w : World) : Calls Try.prog 58 #[.int .i64 (n : Int)] w (IntsPost w (M.digsTo n 12)) := by
  obtain ⟨i0, hi0, hz0, hz1, hz2⟩ := info_parts infoI
  have h12 : Hid (n / 2 ^ 12 = 0) := Lib.hid (Nat.div_eq_of_lt hn)
  go_enter Try.func58, Try.ntmps58
  go_wp2_with fail
  go_loopw [3, 4] (fun v i wr => ∃ (k : Nat), k ≤ 12 ∧ i = .int .i64 k ∧ wr.ownsRow w.heap.size 3 1 v (M.digsTo n k).length (M.encIs (M.digsTo n k)) ∧ Below w.heap.size w wr) (fun _ i _ => 12 - (intOf i).toNat)
  case atStart => exact ⟨0, Nat.zero_le _, rfl, ownsRow_empty _ _ _ _ (Nat.le_refl _), below_alloc _ _⟩
  case round =>
    obtain ⟨k, hk, rfl, hown, hnx⟩ := hrel
    have HN := Lib.hid hnx
    have HO := Lib.hid hown
    have hzr := hnx.size
    have hlen := M.digsTo_len n k
    clear hnx
    have hsh := M.shr_nat n k
    by_cases hp : 0 < n / 2 ^ k
    · have hk12 : k < 12 := by
        rcases Nat.lt_or_ge k 12 with h | h
        · exact h
        · have : k = 12 := by omega
          subst this
          rw [h12.out] at hp
          omega
      have hpt : 0 < (n : Int) / 2 ^ k := by rw [hsh]; exact_mod_cast hp
      have hbt := M.bit_test (p := k) hn
      clear hsh hp
      cases hd : M.digB n k with
      | true =>
        rw [hd] at hbt
        have HD := Lib.hid (M.digsTo_yes hd)
        clear hd
        go_wp2_with (at_builtin; refine wpList_append_own _ rfl _ _ 23 rfl w.heap.size 3 i0 (.int .i64 0) 1 8 Try.underlying23 hi0 hz0 hz1 hz2 rfl (by decide) _ _ _ rfl (hown.alloc _) ⟨wr.heap.size, 0, none⟩ 1 1 [.int .i64 (k : Int)] rfl rfl (cell_one_new _ _ _) (fun x hx => by simp at hx; subst hx; rfl) (by unfold maxLen; omega) (by omega) (by simp; omega) ?_; intro v' w3 hown' hgrow3 hnil3)
        go_roundw
        case rel =>
          refine ⟨k + 1, by omega, by go_num, ?_, (HN.out.alloc hzr _).grown hgrow3 (by simp; omega) (own_base hown)⟩
          rw [HD.out]
          simpa [M.encIs] using hown'
        case measure => simp [intOf]; omega
      | false =>
        rw [hd] at hbt
        have HD := Lib.hid (M.digsTo_no hd)
        clear hd hown
        go_wp2_with fail
        go_roundw
        case rel => exact ⟨k + 1, by omega, by go_num, by rw [HD.out]; exact HO.out, HN.out⟩
        case measure => simp [intOf]; omega
    · have hz : n / 2 ^ k = 0 := Nat.eq_zero_of_not_pos hp
      have hpt : ¬ 0 < (n : Int) / 2 ^ k := by rw [hsh, hz]; simp
      have HE : Hid (M.digsTo n 12 = M.digsTo n k) := Lib.hid (M.digsTo_eq hz hk)
      clear hsh hz hp hown
      go_wp2_with fail
      go_ret
      exact ints_end (by rw [HE.out]; exact HO.out) HN.out
end C
end Go.Proofs.Ytddpjjdncmokmaa
namespace Go.Proofs.Ytddpjjdncmokmaa
open Go.RowKit
namespace C
theorem eqA2 (a b c d : Int) (w : World) : (Op.equalIn 10000 94 (.agg #[.int .i64 a, .int .i64 b]) (.agg #[.int .i64 c, .int .i64 d])).run Try.prog w = .ok (a == c && b == d) w := by
  have u3 := Try.underlying3
  have a3 := Try.isAgg3
  have z3 := Try.sizeOf3
  rw [show (10000 : Nat) = 9999 + 1 from rfl, Op.equalIn]
  simp only [Sem.run_bind, run_underlying Try.underlying94, Result.andThen_ok]
  simp only [Std.Legacy.Range.forIn_eq_forIn_range', Std.Legacy.Range.size, Nat.sub_zero, Nat.add_sub_cancel, Nat.div_one, List.range'_succ, List.range'_zero, List.forIn_cons, List.forIn_nil]
  go_simp
  by_cases h1 : a = c <;> by_cases h2 : b = d <;> simp [h1, h2]
theorem eqA3 (a b e c d f : Int) (w : World) : (Op.equalIn 10000 97 (.agg #[.int .i64 a, .int .i64 b, .int .i64 e]) (.agg #[.int .i64 c, .int .i64 d, .int .i64 f])).run Try.prog w = .ok (a == c && b == d && e == f) w := by
  have u3 := Try.underlying3
  have a3 := Try.isAgg3
  have z3 := Try.sizeOf3
  rw [show (10000 : Nat) = 9999 + 1 from rfl, Op.equalIn]
  simp only [Sem.run_bind, run_underlying Try.underlying97, Result.andThen_ok]
  simp only [Std.Legacy.Range.forIn_eq_forIn_range', Std.Legacy.Range.size, Nat.sub_zero, Nat.add_sub_cancel, Nat.div_one, List.range'_succ, List.range'_zero, List.forIn_cons, List.forIn_nil]
  go_simp
  by_cases h1 : a = c <;> by_cases h2 : b = d <;> by_cases h3 : e = f <;> simp [h1, h2, h3]
theorem sl23 (g : Nat) (w : World) : (Instr.sliceAt 97 (.pointer (some ⟨g, 0, none⟩)) none (some (.int .i64 2)) none).run Try.prog w = .ok (.slice (some ⟨g, 0, none⟩) 2 3) w := by kernel_rfl
theorem ar2 (g : Nat) (w : World) : (Instr.arrayAt 94 (.slice (some ⟨g, 0, none⟩) 2 3)).run Try.prog w = .ok (.pointer (some ⟨g, 0, none⟩)) w := by kernel_rfl
theorem eqT2 : Try.prog.eqGuardType Try.prog.depth 94 = false := by kernel_rfl
theorem eqT3 : Try.prog.eqGuardType Try.prog.depth 97 = false := by kernel_rfl
end C
end Go.Proofs.Ytddpjjdncmokmaa
namespace Go.Proofs.Ytddpjjdncmokmaa
open Go.RowKit
namespace M

def leD (x y : Dr) : Bool := !ltD y x
/-- the doors sorted -/
def srt (l : List Dr) : List Dr := l.mergeSort leD
theorem srt_perm (l : List Dr) : (srt l).Perm l := List.mergeSort_perm l leD
theorem srt_len (l : List Dr) : (srt l).length = l.length := (srt_perm l).length_eq
theorem mem_srt {l : List Dr} {x : Dr} : x ∈ srt l ↔ x ∈ l := (srt_perm l).mem_iff
theorem leD_trans (a b c : Dr) (h1 : leD a b = true) (h2 : leD b c = true) : leD a c = true := by
  unfold leD ltD at *
  simp only [Bool.not_eq_true', decide_eq_false_iff_not] at *
  omega
theorem leD_total (a b : Dr) : (leD a b || leD b a) = true := by
  unfold leD
  cases h1 : ltD b a with
  | false => rfl
  | true =>
    cases h2 : ltD a b with
    | false => rfl
    | true =>
      have := ltD_trans h1 h2
      rw [ltD_irrefl] at this
      cases this
theorem srt_sorted (l : List Dr) : (srt l).Pairwise fun a b => leD a b = true := List.pairwise_mergeSort leD_trans leD_total l
theorem srt_asc {l : List Dr} (h : l.Nodup) : Asc ltD (srt l) := by
  have h1 := srt_sorted l
  have h2 : (srt l).Nodup := (srt_perm l).nodup_iff.2 h
  unfold Asc
  have h3 := h1.and h2
  refine h3.imp fun {a b} hab => ?_
  obtain ⟨hle, hne⟩ := hab
  unfold leD at hle
  cases h : ltD a b with
  | true => rfl
  | false =>
    have : ltD b a = false := by simpa using hle
    exact absurd (ltD_tri h this) hne
/-- sorted or put one by one: the same, where none stands twice -/
theorem putAll_srt {l : List Dr} (h : l.Nodup) : putAll ltD [] l = srt l :=
  putAll_eq ordD Asc.nil (srt_asc h) fun x => by rw [mem_srt]; simp
theorem putAll_srt_on {l ds : List Dr} (hl : Asc ltD l) (h : (l ++ ds).Nodup) : putAll ltD l ds = srt (l ++ ds) :=
  putAll_eq ordD hl (srt_asc h) fun x => by rw [mem_srt, List.mem_append]
theorem Asc.nodup {l : List Dr} (h : Asc ltD l) : l.Nodup := by
  unfold Asc at h
  refine h.imp fun {a b} hab => ?_
  rintro rfl
  rw [ltD_irrefl] at hab
  cases hab
/-- where one stands twice, the sorted list does not ascend -/
theorem srt_not {l : List Dr} (h : ¬ l.Nodup) : ¬ Asc ltD (srt l) := fun ha => h ((srt_perm l).nodup_iff.1 ha.nodup)

/-- whether a maze whose doors stand in any order is valid but for that order -/
def doorsOk (n : Int) (l : List Dr) : Prop := ∀ d ∈ l, doorB n d = true
theorem doorsB_iff {n : Int} {l : List Dr} : doorsB n l = true ↔ doorsOk n l ∧ Asc ltD l := by
  unfold doorsB
  rw [all_range_take]
  constructor
  · intro h
    refine ⟨fun d hd => ?_, asc_of_sorted ordD fun k hk => ?_⟩
    · obtain ⟨k, hk, rfl⟩ := List.mem_iff_getElem.1 hd
      exact ((stepB_iff hk).1 (h k hk)).1
    · have := ((stepB_iff hk).1 (h (k + 1) hk)).2 (by omega)
      rw [Nat.add_sub_cancel, List.getD_eq_getElem?_getD, List.getElem?_eq_getElem (by omega)] at this
      exact this
  · rintro ⟨h1, h2⟩ k hk
    refine (stepB_iff hk).2 ⟨h1 _ (List.getElem_mem hk), fun h0 => ?_⟩
    obtain ⟨j, rfl⟩ : ∃ j, k = j + 1 := ⟨k - 1, by omega⟩
    rw [Nat.add_sub_cancel, List.getD_eq_getElem?_getD, List.getElem?_eq_getElem (by omega)]
    exact h2.sorted j hk
theorem doorsOk_mem {n : Int} {l l' : List Dr} (h : ∀ x, x ∈ l ↔ x ∈ l') : doorsOk n l ↔ doorsOk n l' :=
  ⟨fun k d hd => k d ((h d).2 hd), fun k d hd => k d ((h d).1 hd)⟩
theorem doorB_iff {n : Int} {d : Dr} : doorB n d = true ↔ 0 ≤ d.1 ∧ d.1 < n ∧ 0 ≤ d.2.1 ∧ d.2.1 < n ∧ d.1 < d.2.1 ∧ 0 ≤ d.2.2 ∧ d.2.2 < 64 := by
  unfold doorB; rw [decide_eq_true_iff]
theorem Valid.ok {m : Mz} (h : Valid m) : doorsOk m.size m.doors := fun d hd => by
  obtain ⟨k, hk, rfl⟩ := List.mem_iff_getElem.1 hd
  exact doorB_iff.2 (h.door k hk)
theorem valid_mk {m : Mz} (h1 : 1 ≤ m.size) (h2 : m.size ≤ 12) (h3 : m.doors.length ≤ 30) (h4 : (m.keys.length : Int) = m.size) (h5 : doorsOk m.size m.doors) (h6 : Asc ltD m.doors) (h7 : ∀ s ∈ m.keys, 0 ≤ s ∧ s < 64) : mazeB m = true :=
  of_valid ⟨h1, h2, h3, h4, fun _ hk => doorB_iff.1 (h5 _ (List.getElem_mem hk)), h6.sorted, fun _ hk => h7 _ (List.getElem_mem hk)⟩
theorem Valid.sets {m : Mz} (h : Valid m) : ∀ s ∈ m.keys, 0 ≤ s ∧ s < 64 := fun s hs => by
  obtain ⟨k, hk, rfl⟩ := List.mem_iff_getElem.1 hs
  exact h.key k hk
end M
end Go.Proofs.Ytddpjjdncmokmaa
namespace Go.Proofs.Ytddpjjdncmokmaa
open Go.RowKit
namespace M
def memB (l : List Int) (n : Int) : Bool := l.contains n
theorem memB_true {l : List Int} {n : Int} (h : memB l n = true) : n ∈ l := by unfold memB at h; exact List.contains_iff_mem.1 h
theorem memB_false {l : List Int} {n : Int} (h : memB l n = false) : n ∉ l := fun hm => by
  have : memB l n = true := by unfold memB; exact List.contains_iff_mem.2 hm
  rw [h] at this; cases this
end M
namespace C
set_option maxHeartbeats 3200000
set_option maxRecDepth 20000
theorem l1Has_any (w : World) (lo hi : Nat) (a : Option Addr) (c : Nat) (l : List Int) (n : Int) (h : RowIn lo hi w a (M.encIs l)) (hl : l.length ≤ 1048576) :
    Calls Try.prog 79 #[.slice a l.length c, .int .i64 n] w fun e w' => e = .returned (.bool (M.memB l n)) ∧ w = w' := by
  have H := Lib.hid h
  clear h
  go_enter Try.func79, Try.ntmps79
  go_wp2_with fail
  go_loop [5] (fun i => ∃ (k : Nat), k ≤ l.length ∧ i = .int .i64 k ∧ (∀ j (hj : j < l.length), j < k → l[j] ≠ n)) (fun i => l.length - (intOf i).toNat)
  case atStart => exact ⟨0, Nat.zero_le _, rfl, fun j _ h => by omega⟩
  case round =>
    obtain ⟨k, hk, rfl, hall⟩ := hrel
    have HA := Lib.hid hall
    clear hall
    by_cases hlt : k < l.length
    · obtain ⟨b, off, rfl, _, _, hc0⟩ := H.out.at_ (k := k) (by rw [M.encIs_len]; exact hlt)
      have p0 := hc0 _ _ (M.encIs_at hlt)
      clear hc0
      rcases Decidable.em (l[k] = n) with hlk | hlk
      · have HF : Hid (M.memB l n = true) := Lib.hid (by unfold M.memB; rw [List.contains_iff_mem, ← hlk]; exact List.getElem_mem hlt)
        have hb : (l[k] == n) = true := by simpa using hlk
        clear hlk
        go_wp2_with fail
        go_ret
        exact ⟨by rw [HF.out]; rfl, rfl⟩
      · have HK := Lib.hid hlk
        have hb : (l[k] == n) = false := by simpa using hlk
        clear hlk
        go_wp2_with fail
        go_round
        case rel => exact ⟨k + 1, by omega, by go_num, fun j hj hjk => by
          rcases Nat.lt_or_ge j k with h | h
          · exact HA.out j hj h
          · obtain rfl : j = k := by omega
            exact HK.out⟩
        case measure => simp [intOf]; omega
    · have HF : Hid (M.memB l n = false) := Lib.hid (by
        unfold M.memB
        rw [Bool.eq_false_iff, ne_eq, List.contains_iff_mem]
        intro hm
        obtain ⟨j, hj, he⟩ := List.mem_iff_getElem.1 hm
        exact HA.out j hj (by omega) he)
      go_wp2_with fail
      go_ret
      exact ⟨by rw [HF.out]; rfl, rfl⟩
end C
end Go.Proofs.Ytddpjjdncmokmaa
namespace Go.Proofs.Ytddpjjdncmokmaa
open Go.RowKit
namespace C
def Box2 (w : World) (g : Nat) (T : TypeId) (x y : Value) : Prop := w.heap[g]? = some (.cells #[x, y] T (0, 0))
section
variable {w w' : World} {g : Nat} {T : TypeId} {x y : Value}
theorem Box2.lt (h : Box2 w g T x y) : g < w.heap.size := heap_lt h
theorem Box2.new (T : TypeId) (x y : Value) (hg : g = w.heap.size) : Box2 (w.alloc (.cells #[x, y] T)) g T x y := by subst hg; exact heap_alloc_new w _
theorem Box2.alloc (h : Box2 w g T x y) (o : Obj) : Box2 (w.alloc o) g T x y := (Below.heap_alloc w o g h.lt).trans h
theorem Box2.cells (h : Box2 w g T x y) : w.cell? ⟨g, 0, none⟩ = some x ∧ w.cell? ⟨g, 1, none⟩ = some y := ⟨cell_of_row w g 0 _ _ _ h, cell_of_row w g 1 _ _ _ h⟩
theorem Box2.free (h : Box2 w g T x y) : w.frozen? ⟨g, 0, none⟩ = false ∧ w.frozen? ⟨g, 1, none⟩ = false := by
  unfold Box2 at h
  exact ⟨by simp [World.frozen?, h], by simp [World.frozen?, h]⟩
theorem Box2.turned {lo hi : Nat} (h : Box2 w g T x y) (t : Turned lo hi w w') (hd : g < lo ∨ hi ≤ g) : Box2 w' g T x y := (t.block g h.lt hd).trans h
theorem Box2.below (h : Box2 w g T x y) (t : Below w.heap.size w w') : Box2 w' g T x y := (t.block g h.lt).trans h
theorem Box2.grown {row : Option Nat} (h : Box2 w g T x y) (hg : w.grownBy w' row) (hne : row ≠ some g) : Box2 w' g T x y := (hg.block g h.lt (fun e => hne e.symm)).trans h
theorem Box2.set0 (h : Box2 w g T x y) (u : Value) : Box2 (w.setCell ⟨g, 0, none⟩ u) g T u y := by
  unfold Box2 at h ⊢
  simp [World.setCell, Array.getElem?_modify, h]
theorem Box2.set1 (h : Box2 w g T x y) (u : Value) : Box2 (w.setCell ⟨g, 1, none⟩ u) g T x u := by
  unfold Box2 at h ⊢
  simp [World.setCell, Array.getElem?_modify, h]
theorem Box2.other {b : Nat} (h : Box2 w g T x y) (hne : g ≠ b) (i : Nat) (u : Value) : Box2 (w.setCell ⟨b, i, none⟩ u) g T x y := (Below.heap_setCell w ⟨b, i, none⟩ u g hne).trans h
end
theorem Turned.set2 {w : World} (r : Nat) (u0 u1 : Value) : Turned r (r + 1) w ((w.setCell ⟨r, 0, none⟩ u0).setCell ⟨r, 1, none⟩ u1) :=
  (Turned.setCell _ _ _ _ (Nat.le_refl _) (Nat.lt_succ_self _)).trans (Turned.setCell _ _ _ _ (Nat.le_refl _) (Nat.lt_succ_self _))
theorem Box2.setAll {w : World} {g : Nat} {T : TypeId} {x y : Value} (h : Box2 w g T x y) (u0 u1 : Value) : Box2 ((w.setCell ⟨g, 0, none⟩ u0).setCell ⟨g, 1, none⟩ u1) g T u0 u1 := (h.set0 u0).set1 u1
end C
end Go.Proofs.Ytddpjjdncmokmaa
namespace Go.Proofs.Ytddpjjdncmokmaa
open Go
namespace C
section
variable {P : Program} {ops : Array Oper} {Q : Exit → Act → World → Prop} {md : Region.Mode} {S : World → Prop} {Wr : Nat → Bool}
/-- whatever order is picked from here on; S holds behind every operation that is no writer -/
def wpAnyL (P : Program) (md : Region.Mode) (ops : Array Oper) (Q : Exit → Act → World → Prop) (S : World → Prop) (Wr : Nat → Bool) : Nat → Array Bool → Act → World → Prop
  | 0, listed, a, w => Region.ready md ops listed = [] ∧ Q .normal a w
  | fuel + 1, listed, a, w =>
    (Region.ready md ops listed = [] → Q .normal a w) ∧
    ∀ i ∈ Region.ready md ops listed, wpOp P ops Q i (fun a' w' => (Wr i = false → S w') ∧ wpAnyL P md ops Q S Wr fuel (listed.setIfInBounds i true) a' w') a w
theorem wpAny_of_late : ∀ (fuel : Nat) (listed : Array Bool) (a : Act) (w : World), wpAnyL P md ops Q S Wr fuel listed a w → wpAny P md ops Q fuel listed a w
  | 0, _, _, _, h => h
  | fuel + 1, _, _, _, h => ⟨h.1, fun i hi => wpOp_mono (fun a' w' h' => wpAny_of_late fuel _ a' w' h'.2) (h.2 i hi)⟩
/-- each writer waits for operation i -/
def waits (md : Region.Mode) (ops : Array Oper) (Wr : Nat → Bool) (i : Nat) : Prop := ∀ j oj, ops[j]? = some oj → Wr j = true → ∃ e ∈ oj.after, Region.binds md e = true ∧ e.on = i
theorem wpAnyL_first {i : Nat} {oi : Oper} {v : Value} (hi : ops[i]? = some oi) (hsel : ∀ (j : Nat) (o : Oper) cs b, ops[j]? = some o → o.op ≠ .select cs b)
    (hQ : ∀ c a w, Q (.panic c) (a.put oi.dst v) w → Q (.panic c) a w) (hW : waits md ops Wr i) :
    ∀ (fuel : Nat) (listed : Array Bool) (a : Act) (w : World),
      (∀ j oj, ops[j]? = some oj → j ≠ i → listed.getD j true = false → (∀ e ∈ oj.after, Region.binds md e = true → e.on ≠ i) → oi.apart ops oj = true) →
      i ∈ Region.ready md ops listed → YieldsIf P ops S oi v a → S w →
      wpAnyL P md ops Q S Wr fuel (listed.setIfInBounds i true) (a.put oi.dst v) w → wpAnyL P md ops Q S Wr (fuel + 1) listed a w := by
  intro fuel
  induction fuel with
  | zero =>
    intro listed a w _ hr hy hS H
    refine ⟨fun h => (by rw [h] at hr; cases hr), fun j hj => ?_⟩
    by_cases hji : j = i
    · subst hji; exact hy.wpOp hi hS ⟨fun _ => hS, H⟩
    · have := ready_mono hj hji
      rw [H.1] at this
      cases this
  | succ fuel ih =>
    intro listed a w hfree hr hy hS H
    refine ⟨fun h => (by rw [h] at hr; cases hr), fun j hj => ?_⟩
    by_cases hji : j = i
    · subst hji; exact hy.wpOp hi hS ⟨fun _ => hS, H⟩
    · have h1 := H.2 j (ready_mono hj hji)
      obtain ⟨hjun, oj, hoj, hall⟩ := mem_ready.1 hj
      have hnot : ∀ e ∈ oj.after, Region.binds md e = true → e.on ≠ i := fun e he hb heq => by
        have h1 := hall e he hb
        have h0 := (mem_ready.1 hr).1
        rw [heq] at h1
        rcases Nat.lt_or_ge i listed.size with h' | h'
        · simp [h'] at h0 h1; rw [h0] at h1; cases h1
        · simp [Array.getElem?_eq_none h'] at h1
      have hwj : Wr j = false := by
        cases hw : Wr j with
        | false => rfl
        | true =>
          obtain ⟨e, he, hb, heq⟩ := hW j oj hoj hw
          exact absurd heq (hnot e he hb)
      have h2 := wpOp_putIf hoj (hfree j oj hoj hji hjun hnot) (fun cs b => hsel i oi cs b hi) (fun cs b => hsel j oj cs b hoj) hQ hy h1
      have hfree' : ∀ k ok, ops[k]? = some ok → k ≠ i → (listed.setIfInBounds j true).getD k true = false →
          (∀ e ∈ ok.after, Region.binds md e = true → e.on ≠ i) → oi.apart ops ok = true := fun k ok hk hki hun hno => by
        refine hfree k ok hk hki ?_ hno
        by_cases hjk : j = k
        · subst hjk; exact hjun
        · rw [getD_set_ne true hjk] at hun; exact hun
      refine wpOp_mono (fun a' w' h3 => ⟨fun _ => h3.2.1 hwj, ih (listed.setIfInBounds j true) a' w' hfree' (ready_mono hr (Ne.symm hji)) h3.1 (h3.2.1 hwj) ?_⟩) h2
      rw [Array.setIfInBounds_comm _ _ hji]
      exact h3.2.2
/-- whether each writer waits for i, as a Bool -/
def waitsB (md : Region.Mode) (ops : Array Oper) (wr : List Nat) (i : Nat) : Bool := wr.all fun j => ((ops[j]?).map fun oj => oj.after.any fun e => Region.binds md e && (e.on == i)).getD true
theorem waits_of {wr : List Nat} {i : Nat} (h : waitsB md ops wr i = true) : waits md ops (fun j => wr.contains j) i := by
  intro j oj hj hw
  have := List.all_eq_true.1 h j (List.contains_iff_mem.1 hw)
  rw [hj] at this
  simp only [Option.map_some, Option.getD_some, Array.any_eq_true', Bool.and_eq_true, beq_iff_eq] at this
  exact this
theorem wpAnyL_take {wr : List Nat} {i : Nat} {oi : Oper} {v : Value} {fuel : Nat} {listed : Array Bool} {a : Act} {w : World} (hi : ops[i]? = some oi)
    (hs : Region.noSelect ops = true) (hf : Region.free md ops listed i = true) (hr : (Region.ready md ops listed).contains i = true) (hw : waitsB md ops wr i = true)
    (hQ : ∀ c a w, Q (.panic c) (a.put oi.dst v) w → Q (.panic c) a w) (hy : YieldsIf P ops S oi v a) (hS : S w)
    (h : wpAnyL P md ops Q S (fun j => wr.contains j) fuel (listed.setIfInBounds i true) (a.put oi.dst v) w) : wpAnyL P md ops Q S (fun j => wr.contains j) (fuel + 1) listed a w :=
  wpAnyL_first hi (Region.noSelect_spec hs) hQ (waits_of hw) fuel listed a w (Region.free_spec hi hf) (by simpa using hr) hy hS h
theorem wpAnyL_all {rs : List Nat} {fuel : Nat} {listed : Array Bool} {a : Act} {w : World} (hr : Region.ready md ops listed = rs) (hne : rs ≠ [])
    (h : ∀ i ∈ rs, wpOp P ops Q i (fun a' w' => (Wr i = false → S w') ∧ wpAnyL P md ops Q S Wr fuel (listed.setIfInBounds i true) a' w') a w) : wpAnyL P md ops Q S Wr (fuel + 1) listed a w :=
  ⟨fun h0 => absurd (hr ▸ h0) hne, hr ▸ h⟩
/-- one operation may come up alone -/
theorem wpAnyL_one {i : Nat} {oi : Oper} {fuel : Nat} {listed : Array Bool} {a : Act} {w : World} (hr : Region.ready md ops listed = [i]) (hi : ops[i]? = some oi)
    (h : ∀ K : Act → World → Prop, (∀ a' w', (Wr i = false → S w') → wpAnyL P md ops Q S Wr fuel (listed.setIfInBounds i true) a' w' → K a' w') → if Region.wanted oi (yielded ops a.tmps) = true then Oper.wp P oi a w K Q else K (a.put oi.dst undef) w) :
    wpAnyL P md ops Q S Wr (fuel + 1) listed a w := by
  refine wpAnyL_all hr (by simp) fun j hj => ?_
  have hj' : j = i := by simpa using hj
  subst hj'
  unfold wpOp
  rw [hi]
  have := h (fun a' w' => (Wr j = false → S w') ∧ wpAnyL P md ops Q S Wr fuel (listed.setIfInBounds j true) a' w') (fun _ _ h1 h2 => ⟨h1, h2⟩)
  show if Region.wanted oi (yielded ops a.tmps) = true then _ else _
  split
  · rename_i hw
    rw [if_pos hw] at this
    exact .inl this
  · rename_i hw
    rw [if_neg hw] at this
    exact this
theorem wpAnyL_done {listed : Array Bool} {a : Act} {w : World} (hr : Region.ready md ops listed = []) (h : Q .normal a w) :
    ∀ fuel, wpAnyL P md ops Q S Wr fuel listed a w
  | 0 => ⟨hr, h⟩
  | _ + 1 => ⟨fun _ => h, by rw [hr]; simp⟩
theorem wp_region_late (S : World → Prop) (wr : List Nat) {id : Nat} {a : Act} {w : World} (hm : P.follows .mixedOrders = true)
    (h : wpAnyL P .any ops Q S (fun j => wr.contains j) ops.size (Array.replicate ops.size false) a { w with drawn := w.drawn + 1 }) : (Code.region id ops true).wp P Q a w :=
  wp_region_any hm (wpAny_of_late _ _ _ _ h)
theorem wp_region_late2 (S : World → Prop) (wr : List Nat) (n : Nat) (l : Array Bool) {id : Nat} {a : Act} {w : World} (hn : ops.size = n) (hl : Array.replicate n false = l) (hm : P.follows .mixedOrders = true)
    (h : wpAnyL P .any ops Q S (fun j => wr.contains j) n l a w.drew) : (Code.region id ops true).wp P Q a w := by
  subst hl
  subst hn
  exact wp_region_late S wr hm h
end
end C
end Go.Proofs.Ytddpjjdncmokmaa
namespace Go.Proofs.Ytddpjjdncmokmaa
open Go.RowKit
namespace C
theorem step_call {P : Program} {w : World} {ops : Array Oper} {o : Oper} {a : Act} {K : Act → World → Prop} {Q : Exit → Act → World → Prop} {E : Prop} (hgd : o.guard = none) (f : FuncId) (args : Array Value)
    (hr : (execOp a.eval o).run P w = .ok (.enter f args) w) {R : Ending → World → Prop} (hc : Calls P f args w R) (hR : ∀ e w', R e w' → ∃ v, e = .returned v ∧ K (a.put o.dst v) w') :
    if Region.wanted o (yielded ops a.tmps) = true then Oper.wp P o a w K Q else E := by
  have hw : Region.wanted o (yielded ops a.tmps) = true := by simp [Region.wanted, hgd]
  rw [if_pos hw]
  unfold Oper.wp
  rw [hr, Oper.upon_enter]
  refine hc.mono fun e w' h => ?_
  obtain ⟨v, rfl, hk⟩ := hR e w' h
  exact hk
theorem step_callG {P : Program} {w : World} {ops : Array Oper} {o : Oper} {a : Act} {K : Act → World → Prop} {Q : Exit → Act → World → Prop} {E : Prop} (hw : Region.wanted o (yielded ops a.tmps) = true) (f : FuncId) (args : Array Value)
    (hr : (execOp a.eval o).run P w = .ok (.enter f args) w) {R : Ending → World → Prop} (hc : Calls P f args w R) (hR : ∀ e w', R e w' → ∃ v, e = .returned v ∧ K (a.put o.dst v) w') :
    if Region.wanted o (yielded ops a.tmps) = true then Oper.wp P o a w K Q else E := by
  rw [if_pos hw]
  unfold Oper.wp
  rw [hr, Oper.upon_enter]
  refine hc.mono fun e w' h => ?_
  obtain ⟨v, rfl, hk⟩ := hR e w' h
  exact hk
theorem own_ne_own {w : World} {B B' : Nat} {e e' : TypeId} {size size' : Nat} {v v' : Value} {n n' : Nat} {xs xs' : List Value} (h : w.ownsRow B e size v n xs) (h' : w.ownsRow B' e' size' v' n' xs') (hne : e ≠ e') : v'.ownBlock = none ∨ v.ownBlock ≠ v'.ownBlock := by
  rcases h'.2 with ⟨rfl, _⟩ | ⟨g', cap', cur', rfl, _, hh', _⟩
  · exact .inl rfl
  · right
    rcases h.2 with ⟨rfl, _⟩ | ⟨g, cap, cur, rfl, _, hh, _⟩
    · simp [Value.ownBlock]
    · intro he
      have : g = g' := by simpa [Value.ownBlock] using he
      subst this
      rw [hh] at hh'
      injection hh' with hh'
      injection hh' with _ ht
      exact hne ht
theorem own_ne_own2 {w : World} {B B' : Nat} {e e' : TypeId} {size size' : Nat} {v v' : Value} {n n' : Nat} {xs xs' : List Value} (h : w.ownsRow B e size v n xs) (h' : w.ownsRow B' e' size' v' n' xs') (hne : e ≠ e') : v'.ownBlock = none ∨ v'.ownBlock ≠ v.ownBlock := (own_ne_own h h' hne).imp id Ne.symm
theorem own_setBox {w : World} {B g : Nat} {e T : TypeId} {size : Nat} {v x y z : Value} {n : Nat} {xs : List Value} (h : w.ownsRow B e size v n xs) (hb : Box3 w g T x y z) (hne : e ≠ T) (i : Nat) (u : Value) : (w.setCell ⟨g, i, none⟩ u).ownsRow B e size v n xs := by
  have hn := own_ne_box h hb hne
  rcases h with ⟨hl, h | ⟨g', cap, cur, hv, hB, hh, hr⟩⟩
  · exact ⟨hl, .inl h⟩
  · refine ⟨hl, .inr ⟨g', cap, cur, hv, hB, ?_, hr⟩⟩
    rw [Below.heap_setCell w ⟨g, i, none⟩ u g' (by rintro rfl; exact hn (by rw [hv]; rfl))]
    exact hh
theorem Box3.set1 {X : World} {g : Nat} {T : TypeId} {x y z : Value} (h : Box3 X g T x y z) (u : Value) : Box3 (X.setCell ⟨g, 1, none⟩ u) g T x u z := by
  unfold Box3 at h ⊢
  simp [World.setCell, Array.getElem?_modify, h]
theorem Box3.other {X : World} {g g' : Nat} {T : TypeId} {x y z : Value} (h : Box3 X g T x y z) (hne : g ≠ g') (i : Nat) (u : Value) : Box3 (X.setCell ⟨g', i, none⟩ u) g T x y z := (Below.heap_setCell X ⟨g', i, none⟩ u g hne).trans h
theorem OwnAt.boxed {lo hi : Nat} {w : World} {T S : TypeId} {a : Option Addr} {xs : List Value} {g : Nat} {x y z : Value} (h : OwnAt lo hi w T a xs) (hb : Box3 w g S x y z) (hne : T ≠ S) (i : Nat) (u : Value) : OwnAt lo hi (w.setCell ⟨g, i, none⟩ u) T a xs := by
  rcases h with h | ⟨b, off, cur, ha, h1, h2, hh, hc⟩
  · exact .inl h
  · refine .inr ⟨b, off, cur, ha, h1, h2, ?_, hc⟩
    rw [Below.heap_setCell w ⟨g, i, none⟩ u b (by
      rintro rfl
      have hb' : w.heap[b]? = some (.cells #[x, y, z] S (0, 0)) := hb
      rw [hh] at hb'
      injection hb' with e
      injection e with _ e2
      exact hne e2)]
    exact hh
end C
end Go.Proofs.Ytddpjjdncmokmaa
namespace Go.Proofs.Ytddpjjdncmokmaa
open Go.RowKit
namespace M
def repT {α : Type} (f : α → α) (l : List α) (k : Nat) : List α := (l.take k).map f ++ l.drop k
section
variable {α : Type} {f : α → α} {l : List α} {k : Nat}
theorem repT_len (f : α → α) (l : List α) (k : Nat) : (repT f l k).length = l.length := by unfold repT; rw [List.length_append, List.length_map, List.length_take, List.length_drop]; omega
theorem repT_zero (f : α → α) (l : List α) : repT f l 0 = l := by unfold repT; simp
theorem repT_all (f : α → α) (l : List α) : repT f l l.length = l.map f := by unfold repT; simp
theorem repT_at (h : k < l.length) : repT f l k = (l.take k).map f ++ l[k] :: l.drop (k + 1) := by unfold repT; rw [List.drop_eq_getElem_cons h]
theorem repT_next (h : k < l.length) : repT f l (k + 1) = (l.take k).map f ++ f l[k] :: l.drop (k + 1) := by
  unfold repT
  rw [List.take_succ_eq_append_getElem h, List.map_append, List.append_assoc]
  rfl
theorem repT_set (h : k < l.length) : (repT f l k).set k (f l[k]) = repT f l (k + 1) := by
  rw [repT_at h, repT_next h, List.set_append_right _ _ (by rw [List.length_map, List.length_take]; omega)]
  have : k - ((l.take k).map f).length = 0 := by rw [List.length_map, List.length_take]; omega
  rw [this]
  rfl
theorem repT_get (h : k < l.length) : (repT f l k)[k]? = some l[k] := by
  rw [repT_at h, List.getElem?_append_right (by rw [List.length_map, List.length_take]; omega)]
  have : k - ((l.take k).map f).length = 0 := by rw [List.length_map, List.length_take]; omega
  rw [this]
  rfl
end
end M
end Go.Proofs.Ytddpjjdncmokmaa
namespace Go.Proofs.Ytddpjjdncmokmaa
open Go.RowKit
namespace M
theorem Valid.doorB {m : Mz} (V : Valid m) {d : Dr} (h : d ∈ m.doors) : 0 ≤ d.1 ∧ d.1 < m.size ∧ 0 ≤ d.2.1 ∧ d.2.1 < m.size ∧ d.1 < d.2.1 ∧ 0 ≤ d.2.2 ∧ d.2.2 < 64 := by
  obtain ⟨k, hk, rfl⟩ := List.mem_iff_getElem.1 h
  exact V.door k hk
theorem Valid.keyB {m : Mz} (V : Valid m) {s : Int} (h : s ∈ m.keys) : 0 ≤ s ∧ s < 64 := by
  obtain ⟨k, hk, rfl⟩ := List.mem_iff_getElem.1 h
  exact V.key k hk
/-- a maze of some of the doors, in their order, and other keys -/
theorem Valid.part {m : Mz} (V : Valid m) {ds : List Dr} {ks : List Int} (h1 : ds.Sublist m.doors) (h2 : ks.length = m.keys.length) (h3 : ∀ s ∈ ks, 0 ≤ s ∧ s < 64) : Valid ⟨m.size, ds, ks⟩ where
  size1 := V.size1
  size12 := V.size12
  few := Nat.le_trans h1.length_le V.few
  keysLen := by show ((ks.length : Nat) : Int) = m.size; rw [h2]; exact V.keysLen
  door := fun _ hk => V.doorB (h1.subset (List.getElem_mem hk))
  sorted := (show Asc ltD ds from List.Pairwise.sublist h1 V.asc).sorted
  key := fun _ hk => h3 _ (List.getElem_mem hk)
def atB (d : Dr) (x : Int) : Bool := decide (d.1 = x ∨ d.2.1 = x)
def noNode (m : Mz) (x : Int) : Mz := ⟨m.size, m.doors.filter fun d => !atB d x, m.keys⟩
theorem noNode_valid {m : Mz} (V : Valid m) (x : Int) : Valid (noNode m x) := V.part List.filter_sublist rfl fun _ h => V.keyB h
def lessS (s : Int) (t : Int) : Int := bits .andNot .i64 s t
theorem less_fin : ∀ s t : Fin 64, 0 ≤ lessS (s.val : Int) (t.val : Int) ∧ lessS (s.val : Int) (t.val : Int) < 64 := by decide +kernel
theorem less_set {s t : Int} (h0 : 0 ≤ s) (h1 : s < 64) (h2 : 0 ≤ t) (h3 : t < 64) : 0 ≤ lessS s t ∧ lessS s t < 64 := by
  have := less_fin ⟨s.toNat, by omega⟩ ⟨t.toNat, by omega⟩
  simp only at this
  rwa [Int.toNat_of_nonneg h0, Int.toNat_of_nonneg h2] at this
def noSet (m : Mz) (t : Int) : Mz := ⟨m.size, m.doors, m.keys.map fun s => lessS s t⟩
theorem noSet_valid {m : Mz} (V : Valid m) {t : Int} (h2 : 0 ≤ t) (h3 : t < 64) : Valid (noSet m t) := V.part (List.Sublist.refl _) (by simp) fun s h => by
  obtain ⟨u, hu, rfl⟩ := List.mem_map.1 h
  have := V.keyB hu
  exact less_set this.1 this.2 h2 h3
def noKeys (m : Mz) (x : Nat) : Mz := ⟨m.size, m.doors, m.keys.set x 0⟩
theorem noKeys_valid {m : Mz} (V : Valid m) (x : Nat) : Valid (noKeys m x) := V.part (List.Sublist.refl _) (by simp) fun s h => by
  rcases List.mem_or_eq_of_mem_set h with h | rfl
  · exact V.keyB h
  · exact ⟨by decide, by decide⟩
def noDoor (m : Mz) (k : Nat) : Mz := ⟨m.size, m.doors.take k ++ m.doors.drop (k + 1), m.keys⟩
theorem noDoor_valid {m : Mz} (V : Valid m) (k : Nat) : Valid (noDoor m k) := V.part (by rw [← List.eraseIdx_eq_take_drop_succ]; exact List.eraseIdx_sublist ..) rfl fun _ h => V.keyB h
/-- the first k doors without those at a node -/
theorem noNode_take_yes {l : List Dr} {x : Int} {k : Nat} (hk : k < l.length) (h : atB l[k] x = false) : (l.take (k + 1)).filter (fun d => !atB d x) = (l.take k).filter (fun d => !atB d x) ++ [l[k]] := by
  rw [List.take_succ_eq_append_getElem hk, List.filter_append, List.filter_cons_of_pos (p := fun d => !atB d x) (by show (!atB l[k] x) = true; rw [h]; rfl)]
  rfl
theorem noNode_take_no {l : List Dr} {x : Int} {k : Nat} (hk : k < l.length) (h : atB l[k] x = true) : (l.take (k + 1)).filter (fun d => !atB d x) = (l.take k).filter (fun d => !atB d x) := by
  rw [List.take_succ_eq_append_getElem hk, List.filter_append, List.filter_cons_of_neg (p := fun d => !atB d x) (by show ¬ (!atB l[k] x) = true; rw [h]; decide)]
  simp
end M
end Go.Proofs.Ytddpjjdncmokmaa
namespace Go.Proofs.Ytddpjjdncmokmaa
open Go.RowKit
namespace M
-- sets of colours
abbrev St6 := Fin 64
def cnt (a : St6) : Nat := (List.range 6).countP fun c => a.val.testBit c
def subF (a b : St6) : Bool := b.val &&& a.val == a.val
def ltS (a b : St6) : Bool := decide (cnt a < cnt b ∨ cnt a = cnt b ∧ a.val < b.val)
theorem subF_refl (a : St6) : subF a a = true := by unfold subF; rw [Nat.and_self, beq_self_eq_true]
theorem subF_trans {a b c : St6} (h1 : subF a b = true) (h2 : subF b c = true) : subF a c = true := by
  unfold subF at *
  rw [beq_iff_eq] at *
  rw [← h1, ← Nat.and_assoc, h2]
theorem subF_antisymm {a b : St6} (h1 : subF a b = true) (h2 : subF b a = true) : a = b := by
  unfold subF at *
  rw [beq_iff_eq] at *
  exact Fin.ext (by rw [← h1, Nat.and_comm, h2])
theorem sub_lt_fin : ∀ a b : St6, subF a b = true → a = b ∨ ltS a b = true := by decide +kernel
theorem ordS : Ord ltS := ⟨fun a => by simp [ltS], fun h1 h2 => by unfold ltS at *; simp only [decide_eq_true_eq] at *; omega, fun h1 h2 => by
  unfold ltS at *; simp only [decide_eq_false_iff_not] at *; exact Fin.ext (by omega)⟩
/-- the least ones of some sets -/
def Least (P : St6 → Prop) (s : St6) : Prop := P s ∧ ∀ t, P t → subF t s = true → t = s
theorem snoc_ind {α : Type} {p : List α → Prop} (h0 : p []) (h1 : ∀ l x, p l → p (l ++ [x])) (l : List α) : p l := by
  have : ∀ r : List α, p r.reverse := fun r => by
    induction r with
    | nil => exact h0
    | cons x r ih => rw [List.reverse_cons]; exact h1 _ _ ih
  have h := this l.reverse
  rwa [List.reverse_reverse] at h
/-- what the program keeps of a sorted list -/
def keep1 (cl : List St6) (s : St6) : List St6 := if cl.any (fun t => subF t s) then cl else cl ++ [s]
def keepAll (l : List St6) : List St6 := l.foldl keep1 []
theorem keepAll_snoc (l : List St6) (s : St6) : keepAll (l ++ [s]) = keep1 (keepAll l) s := by unfold keepAll; rw [List.foldl_append]; rfl
theorem keepAll_take {l : List St6} {k : Nat} (h : k < l.length) : keepAll (l.take (k + 1)) = keep1 (keepAll (l.take k)) l[k] := by rw [List.take_succ_eq_append_getElem h, keepAll_snoc]
structure KeepOk (l cl : List St6) : Prop where
  asc : Asc ltS cl
  mem : ∀ x ∈ cl, x ∈ l
  all : ∀ x ∈ l, ∃ y ∈ cl, subF y x = true
  anti : ∀ x ∈ cl, ∀ y ∈ cl, subF x y = true → x = y
def leS (a b : St6) : Bool := !ltS b a
theorem keep_ok : ∀ (l : List St6), (l.Pairwise fun a b => leS a b = true) → KeepOk l (keepAll l) := by
  intro l
  induction l using snoc_ind with
  | h0 => exact fun _ => ⟨Asc.nil, fun x hx => (by cases hx), fun x hx => (by cases hx), fun x hx => (by cases hx)⟩
  | h1 l s ih =>
    intro hs
    rw [List.pairwise_append] at hs
    have K := ih hs.1
    have hle : ∀ x ∈ l, leS x s = true := fun x hx => hs.2.2 x hx s (List.mem_singleton.2 rfl)
    rw [keepAll_snoc]
    unfold keep1
    split
    · rename_i ha
      obtain ⟨y, hy, hys⟩ := List.any_eq_true.1 ha
      refine ⟨K.asc, fun x hx => List.mem_append_left _ (K.mem x hx), fun x hx => ?_, K.anti⟩
      rcases List.mem_append.1 hx with h | h
      · exact K.all x h
      · rw [List.mem_singleton] at h; subst h; exact ⟨y, hy, hys⟩
    · rename_i ha
      have hno : ∀ y ∈ keepAll l, subF y s = false := fun y hy => by
        rw [Bool.eq_false_iff]; exact fun h => ha (List.any_eq_true.2 ⟨y, hy, h⟩)
      have hlt : ∀ y ∈ keepAll l, ltS y s = true := fun y hy => by
        have h1 := hle y (K.mem y hy)
        unfold leS at h1
        rw [Bool.not_eq_true'] at h1
        cases h : ltS y s with
        | true => rfl
        | false =>
          have := ordS.tri h h1
          subst this
          have := hno y hy
          rw [subF_refl] at this
          cases this
      refine ⟨?_, fun x hx => ?_, fun x hx => ?_, fun x hx y hy hxy => ?_⟩
      · unfold Asc
        rw [List.pairwise_append]
        exact ⟨K.asc, List.pairwise_singleton _ _, fun x hx y hy => by rw [List.mem_singleton] at hy; subst hy; exact hlt x hx⟩
      · rcases List.mem_append.1 hx with h | h
        · exact List.mem_append_left _ (K.mem x h)
        · exact List.mem_append_right _ h
      · rcases List.mem_append.1 hx with h | h
        · obtain ⟨y, h1, h2⟩ := K.all x h
          exact ⟨y, List.mem_append_left _ h1, h2⟩
        · rw [List.mem_singleton] at h; subst h
          exact ⟨x, List.mem_append_right _ (List.mem_singleton.2 rfl), subF_refl x⟩
      · rcases List.mem_append.1 hx with h | h <;> rcases List.mem_append.1 hy with h' | h'
        · exact K.anti x h y h' hxy
        · rw [List.mem_singleton] at h'; subst h'
          rw [hno x h] at hxy; cases hxy
        · rw [List.mem_singleton] at h; subst h
          rcases sub_lt_fin _ _ hxy with e | e
          · exact e
          · have := ordS.trans e (hlt y h')
            rw [ordS.irrefl] at this; cases this
        · rw [List.mem_singleton] at h h'; rw [h, h']
theorem keep_mem {l : List St6} {cl : List St6} (K : KeepOk l cl) (x : St6) : x ∈ cl ↔ Least (· ∈ l) x := by
  constructor
  · intro hx
    refine ⟨K.mem x hx, fun t ht hs => ?_⟩
    obtain ⟨y, hy, hyt⟩ := K.all t ht
    have := K.anti y hy x hx (subF_trans hyt hs)
    subst this
    exact subF_antisymm hs hyt
  · rintro ⟨hx, hm⟩
    obtain ⟨y, hy, hyx⟩ := K.all x hx
    have := hm y (K.mem y hy) hyx
    subst this
    exact hy
def srtS (l : List St6) : List St6 := l.mergeSort leS
theorem leS_trans (a b c : St6) (h1 : leS a b = true) (h2 : leS b c = true) : leS a c = true := by
  unfold leS ltS at *; simp only [Bool.not_eq_true', decide_eq_false_iff_not] at *; omega
theorem leS_total (a b : St6) : (leS a b || leS b a) = true := by
  unfold leS ltS; rw [Bool.or_eq_true]; simp only [Bool.not_eq_true', decide_eq_false_iff_not]; omega
theorem srtS_perm (l : List St6) : (srtS l).Perm l := List.mergeSort_perm l leS
theorem srtS_sorted (l : List St6) : (srtS l).Pairwise fun a b => leS a b = true := List.pairwise_mergeSort leS_trans leS_total l
/-- the clutter of a list of sets -/
def cluF (l : List St6) : List St6 := keepAll (srtS l)
theorem cluF_ok (l : List St6) : KeepOk (srtS l) (cluF l) := keep_ok _ (srtS_sorted l)
theorem mem_cluF {l : List St6} {x : St6} : x ∈ cluF l ↔ Least (· ∈ l) x := by
  rw [keep_mem (cluF_ok l)]
  unfold Least
  simp only [(srtS_perm l).mem_iff]
theorem cluF_asc (l : List St6) : Asc ltS (cluF l) := (cluF_ok l).asc
/-- all sets in the order of a clutter -/
def allS : List St6 := (List.range 7).flatMap fun n => (List.finRange 64).filter fun a => cnt a == n
theorem allS_asc : Asc ltS allS := by
  have h : allS.Pairwise (fun a b => ltS a b = true) := by decide +kernel
  exact h
theorem mem_allS : ∀ a : St6, a ∈ allS := by decide +kernel
/-- what the model keeps -/
def bit6 (c : Nat) (a : St6) : St6 := ⟨a.val ^^^ (if c < 6 then 1 <<< c else 0), by
  have ha : a.val < 2 ^ 6 := a.isLt
  show _ < 2 ^ 6
  refine Nat.xor_lt_two_pow ha ?_
  split
  · rename_i h
    rw [Nat.one_shiftLeft]
    exact Nat.pow_lt_pow_right (by decide) h
  · decide⟩
def leastB (P : St6 → Bool) (a : St6) : Bool := P a && (List.range 6).all fun c => !(a.val.testBit c && P (bit6 c a))
def leastF (P : St6 → Bool) : List St6 := allS.filter (leastB P)
theorem less_bit : ∀ a t : St6, subF t a = true → t = a ∨ ∃ c : Fin 6, a.val.testBit c.val = true ∧ subF t (bit6 c.val a) = true := by decide +kernel
theorem bit_less : ∀ a : St6, ∀ c : Fin 6, a.val.testBit c.val = true → subF (bit6 c.val a) a = true ∧ bit6 c.val a ≠ a := by decide +kernel
theorem leastB_iff {P : St6 → Bool} (hP : ∀ a b, subF a b = true → P a = true → P b = true) (a : St6) : leastB P a = true ↔ Least (fun t => P t = true) a := by
  unfold leastB Least
  rw [Bool.and_eq_true, List.all_eq_true]
  constructor
  · rintro ⟨h1, h2⟩
    refine ⟨h1, fun t ht hs => ?_⟩
    rcases less_bit a t hs with e | ⟨c, hc, hsc⟩
    · exact e
    · have h3 := h2 c.val (List.mem_range.2 c.isLt)
      rw [hc, hP _ _ hsc ht] at h3
      simp at h3
  · rintro ⟨h1, h2⟩
    refine ⟨h1, fun c hc => ?_⟩
    rw [List.mem_range] at hc
    cases hb : a.val.testBit c with
    | false => rfl
    | true =>
      cases hp : P (bit6 c a) with
      | false => rfl
      | true =>
        obtain ⟨h3, h4⟩ := bit_less a ⟨c, hc⟩ hb
        exact absurd (h2 _ hp h3) h4
/-- both keep the same -/
theorem least_same {P : St6 → Bool} (hP : ∀ a b, subF a b = true → P a = true → P b = true) {l : List St6} (hl : ∀ a, Least (fun t => P t = true) a ↔ Least (· ∈ l) a) : leastF P = cluF l := by
  refine Asc.ext ordS (List.Pairwise.sublist List.filter_sublist allS_asc) (cluF_asc l) fun x => ?_
  rw [mem_cluF, ← hl, ← leastB_iff hP]
  unfold leastF
  rw [List.mem_filter]
  exact ⟨fun h => h.2, fun h => ⟨mem_allS x, h⟩⟩
/-- of a list that has just the sets of a kind -/
theorem least_all {P : St6 → Bool} (hP : ∀ a b, subF a b = true → P a = true → P b = true) {l : List St6} (hl : ∀ a, a ∈ l ↔ P a = true) : leastF P = cluF l :=
  least_same hP fun a => by unfold Least; simp only [hl]
/-- of any list -/
def hasOneB (l : List St6) (a : St6) : Bool := l.any fun t => subF t a
theorem hasOne_up (l : List St6) (a b : St6) (h : subF a b = true) (ha : hasOneB l a = true) : hasOneB l b = true := by
  obtain ⟨t, ht, hs⟩ := List.any_eq_true.1 ha
  exact List.any_eq_true.2 ⟨t, ht, subF_trans hs h⟩
theorem least_list (l : List St6) : leastF (hasOneB l) = cluF l :=
  least_same (hasOne_up l) fun a => by
    unfold Least
    constructor
    · rintro ⟨h1, h2⟩
      obtain ⟨t, ht, hs⟩ := List.any_eq_true.1 h1
      have : t = a := h2 t (List.any_eq_true.2 ⟨t, ht, subF_refl t⟩) hs
      subst this
      exact ⟨ht, fun u hu hs => h2 u (List.any_eq_true.2 ⟨u, hu, subF_refl u⟩) hs⟩
    · rintro ⟨h1, h2⟩
      refine ⟨List.any_eq_true.2 ⟨a, h1, subF_refl a⟩, fun t ht hs => ?_⟩
      obtain ⟨u, hu, hus⟩ := List.any_eq_true.1 ht
      have := h2 u hu (subF_trans hus hs)
      subst this
      exact subF_antisymm hs hus
/-- when a list is its own clutter -/
theorem cluF_self {l : List St6} : cluF l = l ↔ Asc ltS l ∧ ∀ x ∈ l, ∀ y ∈ l, subF x y = true → x = y := by
  constructor
  · intro h
    rw [← h]
    refine ⟨cluF_asc l, (cluF_ok l).anti⟩
  · rintro ⟨h1, h2⟩
    refine Asc.ext ordS (cluF_asc l) h1 fun x => ?_
    rw [mem_cluF]
    exact ⟨fun h => h.1, fun h => ⟨h, fun t ht hs => h2 t ht x h hs⟩⟩
end M
end Go.Proofs.Ytddpjjdncmokmaa
namespace Go.Proofs.Ytddpjjdncmokmaa
open Go.RowKit
namespace C
def OwnQ (B : Nat) (w : World) (T : TypeId) (size : Nat) (v : Value) (n : Nat) (xs : List Value) : Prop :=
  xs.length = n * size ∧ ((v = .slice none 0 0 ∧ n = 0) ∨ ∃ g off cap cur, v = .slice (some ⟨g, off, none⟩) n cap ∧ B ≤ g ∧ w.heap[g]? = some (.cells cur T (0, 0)) ∧ n ≤ cap ∧ cap ≤ maxLen ∧ off + cap * size ≤ cur.size ∧ ∀ j u, xs[j]? = some u → cur[off + j]? = some u)
section
variable {B size n : Nat} {w w' : World} {T : TypeId} {v : Value} {xs : List Value}
theorem OwnQ.of_own (h : w.ownsRow B T size v n xs) : OwnQ B w T size v n xs := by
  refine ⟨h.1, ?_⟩
  rcases h.2 with h' | ⟨g, cap, cur, hv, hb, hh, hn, hm, hs, ht⟩
  · exact .inl h'
  · refine .inr ⟨g, 0, cap, cur, hv, hb, hh, hn, hm, by omega, fun j u hu => ?_⟩
    rw [← ht, List.getElem?_take] at hu
    split at hu
    · simpa using hu
    · cases hu
theorem OwnQ.mono {B' : Nat} (h : OwnQ B w T size v n xs) (hB : B' ≤ B) : OwnQ B' w T size v n xs := by
  refine ⟨h.1, ?_⟩
  rcases h.2 with h' | ⟨g, off, cap, cur, hv, hb, r⟩
  · exact .inl h'
  · exact .inr ⟨g, off, cap, cur, hv, by omega, r⟩
theorem OwnQ.shape (h : OwnQ B w T size v n xs) : ∃ a c, v = .slice a n c ∧ n ≤ c ∧ c ≤ maxLen := by
  rcases h.2 with ⟨rfl, rfl⟩ | ⟨g, off, cap, cur, rfl, _, _, hn, hm, _⟩
  · exact ⟨none, 0, rfl, Nat.le_refl _, Nat.zero_le _⟩
  · exact ⟨_, _, rfl, hn, hm⟩
theorem OwnQ.base (h : OwnQ B w T size v n xs) : ∀ k, v.ownBlock = some k → B ≤ k ∧ k < w.heap.size := by
  rcases h.2 with ⟨rfl, rfl⟩ | ⟨g, off, cap, cur, rfl, hb, hh, _⟩
  · intro k hk; cases hk
  · intro k hk
    have : g = k := by simpa [Value.ownBlock] using hk
    subst this
    exact ⟨hb, heap_lt hh⟩
/-- where no other type's cells lie -/
theorem OwnQ.ne {b : Nat} (h : OwnQ B w T size v n xs) (hb : ∀ cur f, w.heap[b]? ≠ some (.cells cur T f)) : v.ownBlock ≠ some b := by
  rcases h.2 with ⟨rfl, rfl⟩ | ⟨g, off, cap, cur, rfl, _, hh, _⟩
  · intro e; cases e
  · intro e
    have : g = b := by simpa [Value.ownBlock] using e
    subst this
    exact hb _ _ hh
theorem OwnQ.row (h : OwnQ B w T size v n xs) {a : Option Addr} {c : Nat} (hv : v = .slice a n c) : RowIn B w.heap.size w a xs := by
  subst hv
  rcases h.2 with ⟨_, rfl⟩ | ⟨g, off, cap, cur, e, hb, hh, _, _, _, hc⟩
  · exact .inl (List.eq_nil_of_length_eq_zero (by simpa using h.1))
  · injection e with e _ _
    exact .inr ⟨g, off, e, hb, heap_lt hh, fun i u hu => (cell_of_row w g (off + i) cur T (0, 0) hh).trans (hc i u hu)⟩
theorem OwnQ.turned {lo hi : Nat} (h : OwnQ B w T size v n xs) (t : Turned lo hi w w') (hd : ∀ k, v.ownBlock = some k → k < lo ∨ hi ≤ k) : OwnQ B w' T size v n xs := by
  refine ⟨h.1, ?_⟩
  rcases h.2 with h' | ⟨g, off, cap, cur, rfl, hb, hh, r⟩
  · exact .inl h'
  · exact .inr ⟨g, off, cap, cur, rfl, hb, (t.block g (heap_lt hh) (hd g rfl)).trans hh, r⟩
theorem OwnQ.below (h : OwnQ B w T size v n xs) (t : Below w.heap.size w w') : OwnQ B w' T size v n xs := h.turned (Turned.of_below t 0 0) fun _ _ => .inr (Nat.zero_le _)
/-- x[1:] -/
theorem OwnQ.tail {g off cap : Nat} {ys : List Value} (h : OwnQ B w T size (.slice (some ⟨g, off, none⟩) (n + 1) (cap + 1)) (n + 1) (xs ++ ys)) (hx : xs.length = size) :
    OwnQ B w T size (.slice (some ⟨g, if cap = 0 then off else off + size, none⟩) n cap) n ys := by
  obtain ⟨h1, h2⟩ := h
  rw [List.length_append, hx, Nat.succ_mul] at h1
  refine ⟨by omega, ?_⟩
  rcases h2 with ⟨e, _⟩ | ⟨g', off', cap', cur, e, hb, hh, hn, hm, hs, hc⟩
  · cases e
  · injection e with e1 _ e3
    injection e1 with e1
    injection e1 with e4 e5 _
    subst e4; subst e5; subst e3
    rw [Nat.succ_mul] at hs
    by_cases h0 : cap = 0
    · subst h0
      rw [if_pos rfl]
      refine .inr ⟨g, off, 0, cur, rfl, hb, hh, by omega, by omega, by omega, fun j u hu => ?_⟩
      have hy : ys = [] := List.eq_nil_of_length_eq_zero (by have : n = 0 := by omega
                                                             subst this; omega)
      rw [hy] at hu
      cases hu
    · rw [if_neg h0]
      refine .inr ⟨g, off + size, cap, cur, rfl, hb, hh, by omega, by omega, by omega, fun j u hu => ?_⟩
      have := hc (size + j) u (by rw [List.getElem?_append_right (by omega), hx, Nat.add_sub_cancel_left]; exact hu)
      rw [Nat.add_assoc]
      exact this
theorem heap_setCells (g : Nat) : ∀ (vs : List Value) (o : Nat) (w : World) (cur : Array Value), w.heap[g]? = some (.cells cur T (0, 0)) →
    ∃ cur', (w.setCells g o vs).heap[g]? = some (.cells cur' T (0, 0)) ∧ cur'.size = cur.size ∧ (∀ j, j < o ∨ o + vs.length ≤ j → cur'[j]? = cur[j]?) ∧ (∀ j u, vs[j]? = some u → o + j < cur.size → cur'[o + j]? = some u) ∧ w.grownBy (w.setCells g o vs) (some g)
  | [], o, w, cur, h => ⟨cur, h, rfl, fun _ _ => rfl, fun j u hu _ => (by cases hu), ⟨rfl, rfl, rfl, Nat.le_refl _, fun _ _ _ => rfl⟩⟩
  | v :: vs, o, w, cur, h => by
    have h1 : (w.setCell ⟨g, o, none⟩ v).heap[g]? = some (.cells (cur.setIfInBounds o v) T (0, 0)) := by simp [World.setCell, Array.getElem?_modify, h]
    obtain ⟨cur', e1, e2, e3, e4, e5⟩ := heap_setCells g vs (o + 1) (w.setCell ⟨g, o, none⟩ v) _ h1
    refine ⟨cur', e1, by rw [e2, Array.size_setIfInBounds], fun j hj => ?_, fun j u hu hlt => ?_, ?_⟩
    · rw [List.length_cons] at hj
      rw [e3 j (by omega), Array.getElem?_setIfInBounds_ne (by omega)]
    · cases j with
      | zero =>
        rw [List.getElem?_cons_zero] at hu
        injection hu with hu
        rw [Nat.add_zero] at hlt ⊢
        rw [e3 o (by omega), Array.getElem?_setIfInBounds_self_of_lt hlt, hu]
      | succ j =>
        rw [List.getElem?_cons_succ] at hu
        have := e4 j u hu (by rw [Array.size_setIfInBounds]; omega)
        rw [show o + (j + 1) = o + 1 + j by omega]
        exact this
    · have hsz : (w.setCell ⟨g, o, none⟩ v).heap.size = w.heap.size := by simp [World.setCell]
      exact ⟨e5.os, e5.tape, e5.output, hsz ▸ e5.size, fun k hk hne => (e5.block k (by rw [hsz]; exact hk) hne).trans (Below.heap_setCell w ⟨g, o, none⟩ v k fun e => hne (by rw [e]))⟩
theorem run_append_q {P : Program} (t ty : TypeId) (i : TypeInfo) (z : Value) (bytes : Nat) (ht : P.underlying t = some (.slice T)) (hi : P.info? T = some i) (hz : i.zero = some z) (hsize : i.size = size) (hby : i.bytes = bytes) (hzs : z.cells.size = size)
    (h : OwnQ B w T size v n xs) (hB : B ≤ w.heap.size) (ad : Addr) (c : Nat) (news : List Value) (hl : news.length = size) (hnews : ∀ j u, news[j]? = some u → w.cell? (ad.add j) = some u) (h1 : ∀ u ∈ news, u.oneCell' = true) (hn : n + 1 ≤ maxLen) (hbytes : (n + 1) * bytes ≤ 140737488355328) :
    ∃ v' w', (Builtin.append_ #[t, t] ty #[v, .slice (some ad) 1 c]).run P w = .ok v' w' ∧ OwnQ B w' T size v' (n + 1) (xs ++ news) ∧ w.grownBy w' v.ownBlock ∧ (v'.ownBlock = v.ownBlock ∨ v'.ownBlock = some w.heap.size) := by
  subst hsize
  subst hby
  have hs : Src P i.size t (.slice (some ad) 1 c) 1 news w := Src.ofSlice w ht ad 1 c news (by omega) hnews h1
  have hlen : (xs ++ news).length = (n + 1) * i.size := by rw [List.length_append, h.1, hl, Nat.succ_mul]
  have hsmall : ((n + 1 : Nat) : Int) ≤ 9223372036854775807 := by simp only [maxLen] at hn; omega
  have grown : ∀ (old : Nat) (row : Option Nat), old < n + 1 →
      OwnQ B (w.drew.alloc (.cells ((xs ++ news).toArray ++ Builtin.zeroCells z.cells (grownCap w (n + 1) old T - (n + 1))) T)) T i.size (.slice (some ⟨w.heap.size, 0, none⟩) (n + 1) (grownCap w (n + 1) old T)) (n + 1) (xs ++ news) ∧
      w.grownBy (w.drew.alloc (.cells ((xs ++ news).toArray ++ Builtin.zeroCells z.cells (grownCap w (n + 1) old T - (n + 1))) T)) row := by
    intro old row ho
    have hge := grownCap_ge w (n + 1) old T
    refine ⟨⟨hlen, .inr ⟨w.heap.size, 0, _, _, rfl, hB, heap_alloc_new w.drew _, hge, grownCap_le_maxLen w (n + 1) old T hn, ?_, fun j u hu => ?_⟩⟩, ⟨rfl, rfl, rfl, by simp, fun k hk _ => Below.heap_alloc w.drew _ k hk⟩⟩
    · rw [Array.size_append, size_zeroCells, List.size_toArray, hlen, hzs, ← Nat.add_mul, Nat.zero_add]
      exact Nat.mul_le_mul_right _ (by omega)
    · rw [Nat.zero_add, Array.getElem?_append_left (by rw [List.size_toArray]; exact (List.getElem?_eq_some_iff.1 hu).1)]
      simpa using hu
  rcases h.2 with ⟨rfl, rfl⟩ | ⟨g, off, cap, cur, rfl, hb, hh, hnc, hcm, hcs, hc⟩
  · have hx : xs = [] := List.eq_nil_of_length_eq_zero (by simpa using h.1)
    subst hx
    have hr := run_append_grow_src (P := P) w t t ty T i z ht hi hz none 0 0 [] (by simpa using run_firstCells_none (P := P) w.drew i.size 0 0 0) (.slice (some ad) 1 c) 1 news hs (by omega) hsmall (growslice_fits (by omega) hbytes)
    obtain ⟨g1, g2⟩ := grown 0 (Value.ownBlock (.slice none 0 0)) (by omega)
    exact ⟨_, _, hr, g1, g2, .inr rfl⟩
  · by_cases hroom : n + 1 ≤ cap
    · have hfit : off + n * i.size + news.length ≤ cur.size := by
        have := Nat.mul_le_mul_right i.size hroom
        rw [Nat.succ_mul] at this
        omega
      have hr := run_append_room_src (P := P) w t t ty T i ht hi g off n cap (.slice (some ad) 1 c) 1 news hs hroom
        (fun j hj => by rw [cell_of_row w g _ cur T (0, 0) hh, Array.getElem?_eq_getElem (by omega)]; rfl) (fun j hj => by simp [World.frozen?, hh])
      obtain ⟨cur', e1, e2, e3, e4, e5⟩ := heap_setCells g news (off + n * i.size) w cur hh
      refine ⟨_, _, hr, ⟨hlen, .inr ⟨g, off, cap, cur', rfl, hb, e1, hroom, hcm, by omega, fun j u hu => ?_⟩⟩, e5, .inl rfl⟩
      rcases Nat.lt_or_ge j xs.length with hj | hj
      · rw [List.getElem?_append_left hj] at hu
        rw [e3 _ (by have := h.1; omega)]
        exact hc j u hu
      · rw [List.getElem?_append_right hj] at hu
        have h0 := h.1
        have := e4 (j - xs.length) u hu (by have := (List.getElem?_eq_some_iff.1 hu).1; omega)
        rw [show off + j = off + n * i.size + (j - xs.length) by omega]
        exact this
    · have hr := run_append_grow_src (P := P) w t t ty T i z ht hi hz (some ⟨g, off, none⟩) n cap xs
        (by
          refine run_firstCells_some (P := P) w.drew i.size n ⟨g, off, none⟩ n cap xs h.1 fun j u hu => ?_
          have hadd : (⟨g, off, none⟩ : Addr).add j = ⟨g, off + j, none⟩ := Addr.add_lit ..
          rw [hadd]
          exact (cell_of_row w g (off + j) cur T (0, 0) hh).trans (hc j u hu)) (.slice (some ad) 1 c) 1 news hs (by omega) hsmall (growslice_fits (by omega) hbytes)
      obtain ⟨g1, g2⟩ := grown cap (Value.ownBlock (.slice (some ⟨g, off, none⟩) n cap)) (by omega)
      exact ⟨_, _, hr, g1, g2, .inr rfl⟩
end
theorem wpList_append_q {P : Program} {w : World} {ops : Array Oper} {rest : List Oper} {o : Oper} {a : Act} {Q : Exit → Act → World → Prop} (hgd : o.guard = none) (s x : Operand) (t : TypeId)
    (ho : o.op = .call { callee := .builtin .append, args := #[s, x], argTypes := #[t, t] }) (B : Nat) (T : TypeId) (i : TypeInfo) (z : Value) (size bytes : Nat) (ht : P.underlying t = some (.slice T)) (hi : P.info? T = some i) (hz : i.zero = some z) (hsize : i.size = size) (hby : i.bytes = bytes) (hzs : z.cells.size = size)
    (v : Value) (n : Nat) (xs : List Value) (hs : a.eval s = v) (h : OwnQ B w T size v n xs) (ad : Addr) (c : Nat) (news : List Value) (hx : a.eval x = .slice (some ad) 1 c) (hl : news.length = size) (hnews : ∀ j u, news[j]? = some u → w.cell? (ad.add j) = some u) (h1 : ∀ u ∈ news, u.oneCell' = true)
    (hn : n + 1 ≤ maxLen) (hbytes : (n + 1) * bytes ≤ 140737488355328) (hB : B ≤ w.heap.size) (hK : ∀ v' w', OwnQ B w' T size v' (n + 1) (xs ++ news) → w.grownBy w' v.ownBlock → (v'.ownBlock = v.ownBlock ∨ v'.ownBlock = some w.heap.size) → wpList P ops Q rest (a.put o.dst v') w') : wpList P ops Q (o :: rest) a w := by
  refine wpList_plain hgd fun K' hK' => ?_
  obtain ⟨v', w', hr, h2, h3, h4⟩ := run_append_q (P := P) t o.type i z bytes ht hi hz hsize hby hzs h hB ad c news hl hnews h1 hn hbytes
  unfold Oper.wp execOp
  simp only [ho, resolve, invoke, builtin, Sem.run_bind, Sem.run_pure, Result.andThen_ok, List.map_toArray, List.map_cons, List.map_nil, hs, hx, hr]
  exact hK' _ _ (hK v' w' h2 h3 h4)
theorem RowIn.grown {w w' : World} {lo hi : Nat} {a : Option Addr} {xs : List Value} {row : Option Nat} (h : RowIn lo hi w a xs) (hg : w.grownBy w' row) (hz : hi ≤ w.heap.size) (hd : ∀ z, row = some z → z < lo ∨ hi ≤ z) : RowIn lo hi w' a xs := by
  rcases h with h | ⟨b, off, ha, h1, h2, hc⟩
  · exact .inl h
  · refine .inr ⟨b, off, ha, h1, h2, fun i u hu => (World.cell?_of_block (w := w) (hg.block b (by omega) fun e => ?_)).trans (hc i u hu)⟩
    have := hd b e.symm
    omega
theorem OwnQ.own {B size n : Nat} {w : World} {T : TypeId} {v : Value} {xs : List Value} (h : OwnQ B w T size v n xs) {a : Option Addr} {c : Nat} (hv : v = .slice a n c) : OwnAt B w.heap.size w T a xs := by
  subst hv
  rcases h.2 with ⟨_, rfl⟩ | ⟨g, off, cap, cur, e, hb, hh, _, _, _, hc⟩
  · exact .inl (List.eq_nil_of_length_eq_zero (by simpa using h.1))
  · injection e with e _ _
    exact .inr ⟨g, off, cur, e, hb, heap_lt hh, hh, hc⟩
theorem OwnAt.grownRow {lo hi : Nat} {w w' : World} {T : TypeId} {a : Option Addr} {xs : List Value} {row : Option Nat} (h : OwnAt lo hi w T a xs) (hg : w.grownBy w' row) (_hz : hi ≤ w.heap.size) (hd : ∀ z, row = some z → z < lo ∨ hi ≤ z) : OwnAt lo hi w' T a xs := by
  rcases h with h | ⟨b, off, cur, ha, h1, h2, hh, hc⟩
  · exact .inl h
  · refine .inr ⟨b, off, cur, ha, h1, h2, (hg.block b (heap_lt hh) fun e => ?_).trans hh, hc⟩
    have := hd b e.symm
    omega
end C
end Go.Proofs.Ytddpjjdncmokmaa
namespace Go.Proofs.Ytddpjjdncmokmaa
open Go.RowKit
namespace M
/-- the number of one colour, as the model reckons 1 << c -/
def bitI (c : Int) : Int := wrap64 (2 ^ c.toNat)
/-- the set of a list of colours -/
def setI (l : List Int) : Int := l.foldl (fun s c => bits .or .i64 s (bitI c)) 0
def colB (c : Int) : Bool := decide (0 ≤ c ∧ c < 6)
def colsB (l : List Int) : Bool := l.all colB
theorem setI_snoc {l : List Int} {k : Nat} (h : k < l.length) : setI (l.take (k + 1)) = bits .or .i64 (setI (l.take k)) (bitI l[k]) := by
  unfold setI; rw [List.take_succ_eq_append_getElem h, List.foldl_append]; rfl
theorem all_take_no {α : Type} {f : α → Bool} {l : List α} {k : Nat} (h : k < l.length) (hf : f l[k] = false) : l.all f = false := by
  rw [Bool.eq_false_iff]
  intro h'
  have := List.all_eq_true.1 h' _ (List.getElem_mem h)
  rw [hf] at this
  cases this
theorem all_of_take {α : Type} {f : α → Bool} {l : List α} (h : ∀ k (h : k < l.length), f l[k] = true) : l.all f = true := by
  rw [List.all_eq_true]
  intro x hx
  obtain ⟨k, hk, rfl⟩ := List.mem_iff_getElem.1 hx
  exact h k hk
end M
namespace C
/-- a set handed back, or 0 and false -/
def SetPost (w : World) (l : List Int) (e : Ending) (w' : World) : Prop := e = .returned (.tuple #[.int .i64 (if M.colsB l then M.setI l else 0), .bool (M.colsB l)]) ∧ w = w'
set_option maxHeartbeats 800000
set_option maxRecDepth 20000
end C
end Go.Proofs.Ytddpjjdncmokmaa
