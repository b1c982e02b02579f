/-
  CONTRACT of the iterator that impl.partsOf gives: for every loop body that keeps the byte's box the parts of the string come in their order. Conditions: the string and the byte lie in their boxes; the string has at most 4000 bytes.
-/
import Derived.RangeFuncBox
import Derived.RangeFuncLeaves
import Derived.Shelf.Abstract
import Derived.WalkKit
import Derived.OwnWalkIn
import Derived.TacticsInMore
import Derived.LoopNIn
import Derived.LoopIn
import Derived.Maps.AppendAt
import Derived.Test.YtlbnofkjjjbfnaaSplit
import Derived.Test.YtlbnofkjjjbfnaaFirst
import Derived.Test.YtlbnofkjjjbfnaaStand
import Derived.Lib.Hide
import Derived.Sort.LoopGhostIn
import Derived.RegionIn
import Derived.BigRegionIn
import Derived.WalkMore
import Derived.Test.YtlbnofkjjjbfnaaScopeIn
namespace Go.Proofs.Ytlbnofkjjjbfnaa
open Go.RowKit Go.Shelf
attribute [local go_sem] Oper.semAt_some
namespace M
theorem not_mem_of_has {l : List UInt8} {c : UInt8} (h : has l c = false) : c ∉ l := fun hm => by rw [has_mem.2 hm] at h; cases h
theorem take_size (rest : ByteArray) : rest.data.toList.take rest.size = rest.data.toList := List.take_of_length_le (Nat.le_of_eq (by rw [Array.length_toList]; rfl))
theorem split_at {rest : ByteArray} {k : Nat} {c : UInt8} (hlt : k < rest.size) (hno : has (rest.data.toList.take k) c = false) (hc : rest[k] = c) :
    splitL c rest.data.toList = rest.data.toList.take k :: splitL c (rest.extract (k + 1) rest.size).data.toList := by
  have e : rest.data.toList = rest.data.toList.take k ++ c :: rest.data.toList.drop (k + 1) := by
    have h1 := take_snoc rest k hlt
    rw [hc] at h1
    have h2 := (List.take_append_drop (k + 1) rest.data.toList).symm
    rw [h1, List.append_assoc] at h2
    exact h2
  have e2 : (rest.extract (k + 1) rest.size).data.toList = rest.data.toList.drop (k + 1) := by
    rw [extract_mk, take_size]
  rw [e2]
  conv => lhs; rw [e]
  exact split_cons c _ _ (not_mem_of_has hno)
theorem strV_take (rest : ByteArray) (k : Nat) : Value.string (rest.extract 0 k) = strV (rest.data.toList.take k) := by
  rw [extract_mk]; rfl
theorem strV_all (rest : ByteArray) : Value.string rest = strV rest.data.toList := rfl
theorem split_end {rest : ByteArray} {c : UInt8} (hno : has (rest.data.toList.take rest.size) c = false) : splitL c rest.data.toList = [rest.data.toList] := by
  rw [take_size] at hno
  exact split_free c _ (not_mem_of_has hno)
end M
namespace C
def BoxKept (B : Nat) (t : TypeId) (v : Value) (W W' : World) : Prop := Boxed W B t v → Boxed W' B t v

set_option maxRecDepth 100000 in
set_option maxHeartbeats 1000000 in
theorem parts_in (F : Fence) (n : Nat) (hF : F.fn 36) (hro : F.round = none) (hn : 1 ≤ n) (l Bs Bc : Nat) (s : ByteArray) (c : UInt8) (hs : s.size ≤ 4000) (J Jx : List (List UInt8) → World → Prop)
    (hY : ∀ pre x W, J pre W → pre.length < (M.splitL c s.data.toList).length → YieldAt F (n - 1) Try.prog l #[M.strV x] W fun e W' =>
      (e = .returned (.bool true) ∧ J (pre ++ [x]) W' ∧ BoxKept Bc 5 (.int .u8 c.toNat) W W') ∨ (e = .returned (.bool false) ∧ Jx (pre ++ [x]) W'))
    (W : World) (hJ : AbidesFrom W.heap.size J) (hs0 : W.cell? ⟨Bs, 0, none⟩ = some (.string s)) (hc0 : Boxed W Bc 5 (.int .u8 c.toNat)) (h0 : J [] W) :
    CallsIn F n Try.prog 36 #[.func (.yield l) #[] #[], .pointer (some ⟨Bs, 0, none⟩), .pointer (some ⟨Bc, 0, none⟩)] W fun e W' => (∃ v, e = .returned v) ∧
      ((∃ ys, ys = M.splitL c s.data.toList ∧ J ys W') ∨ (∃ pre, pre <+: M.splitL c s.data.toList ∧ Jx pre W')) := by
  refine callsIn_of_wp Try.func36 rfl hF ?_ hro
  simp only [Try.ntmps36, List.size_toArray, List.length_cons, List.length_nil, Nat.reduceAdd, Nat.reduceSub, Array.replicate_succ, Array.replicate_zero, List.push_toArray, List.append_toArray, List.nil_append, List.cons_append]
  refine wpIn_scope_straight ?_
  gi_wp2
  refine wpIn_label ?_
  gi_wp2
  gi_loopg [4] s.size (fun g v wr => ∃ (rest : ByteArray) (pre : List (List UInt8)), v = .string rest ∧ rest.size = g ∧ rest.size ≤ 4000 ∧ M.splitL c s.data.toList = pre ++ M.splitL c rest.data.toList ∧ J pre wr ∧ Boxed wr Bc 5 (.int .u8 c.toNat))
  case atStart => exact ⟨s, [], rfl, rfl, hs, rfl, h0, hc0⟩
  case round =>
    obtain ⟨rest, pre, rfl, rfl, hr4, hsp, hJ1, hcb⟩ := hrel
    have HSP := Lib.hid hsp
    clear hsp
    gi_wp2
    gi_loopg [4, 9] rest.size (fun g2 v i wy => ∃ k : Nat, v = .string rest ∧ k + g2 = rest.size ∧ i = .int .i64 k ∧ M.has (rest.data.toList.take k) c = false ∧ J pre wy ∧ Boxed wy Bc 5 (.int .u8 c.toNat))
    case atStart => exact ⟨0, rfl, by omega, rfl, rfl, hJ1, hcb⟩
    case round =>
      obtain ⟨k, rfl, hkg, rfl, hno, hJ2, hbx2⟩ := hrel
      have hcb2 := hbx2.cell
      have HNO := Lib.hid hno
      clear hno hcb
      by_cases hlt : k < rest.size
      · have HT := Lib.hid (M.take_snoc rest k hlt)
        have hk1 : (k : Int) < (rest.size : Int) := by omega
        have hk0 : (0 : Int) ≤ (k : Int) := by omega
        by_cases hc : rest[k] = c
        · have hb : ((rest[k].toNat : Int) == (c.toNat : Int)) = true := by rw [hc]; simp
          have HA := Lib.hid (M.split_at hlt HNO.out hc)
          have HZ : Hid ((rest.extract (k + 1) rest.size).size = rest.size - (k + 1)) := Lib.hid (by simp [ByteArray.size_extract])
          clear hc
          have hJd : J pre wr.drew := hJ pre wr wr.drew none hJ2 ⟨rfl, rfl, rfl, Nat.le_refl _, fun _ _ _ => rfl⟩ (fun _ e => by cases e)
          have hlen : pre.length < (M.splitL c s.data.toList).length := by rw [HSP.out, HA.out]; simp
          obtain ⟨fn, tmps, assign, body, hy, hR⟩ := hY pre _ _ hJd hlen
          rw [← M.strV_take rest k] at hy
          gi_wp2
          gi_region
          all_goals
            gi_wp2
            refine hR.mono ?_
            rintro e W3 (⟨rfl, hJ3, hk3⟩ | ⟨rfl, hJx3⟩)
            · have hbx3 := hk3 hbx2
              gi_wp2
              gi_roundg (rest.extract (k + 1) rest.size).size
              case rel => exact ⟨_, _, rfl, rfl, by rw [HZ.out]; omega, by rw [HSP.out, HA.out]; simp, hJ3, hbx3⟩
              case measure => rw [HZ.out]; omega
            · gi_wp2
              rw [Exit.noGoto_ret]
              refine bodyPost_ret (results_none rfl _ _ _) rfl ?_
              exact ⟨⟨_, rfl⟩, .inr ⟨_, ⟨M.splitL c (rest.extract (k + 1) rest.size).data.toList, by rw [HSP.out, HA.out]; simp⟩, hJx3⟩⟩
        · have hb : ((rest[k].toNat : Int) == (c.toNat : Int)) = false := by
            simp
            intro h
            exact hc (UInt8.toNat.inj (by exact_mod_cast h))
          have HS := Lib.hid (M.has_snoc_no HNO.out hc)
          clear hc
          have hJd : J pre wr.drew := hJ pre wr wr.drew none hJ2 ⟨rfl, rfl, rfl, Nat.le_refl _, fun _ _ _ => rfl⟩ (fun _ e => by cases e)
          gi_wp2
          gi_region
          all_goals
            gi_wp2
            gi_roundg (gk - 1)
            case rel => exact ⟨k + 1, rfl, by omega, by simp, by rw [HT.out]; exact HS.out, hJd, hbx2⟩
            case measure => omega
      · obtain rfl : k = rest.size := by omega
        have HA := Lib.hid (M.split_end HNO.out)
        have hlen : pre.length < (M.splitL c s.data.toList).length := by rw [HSP.out, HA.out]; simp
        obtain ⟨fn, tmps, assign, body, hy, hR⟩ := hY pre _ _ hJ2 hlen
        rw [← M.strV_all rest] at hy
        gi_wp2
        refine hR.mono ?_
        rintro e W3 (⟨rfl, hJ3, hk3⟩ | ⟨rfl, hJx3⟩)
        · gi_wp2
          rw [Exit.noGoto_ret]
          refine bodyPost_ret (results_none rfl _ _ _) rfl ?_
          exact ⟨⟨_, rfl⟩, .inl ⟨_, by rw [HSP.out, HA.out], hJ3⟩⟩
        · gi_wp2
          rw [Exit.noGoto_ret]
          refine bodyPost_ret (results_none rfl _ _ _) rfl ?_
          exact ⟨⟨_, rfl⟩, .inr ⟨_, by rw [HSP.out, HA.out]; exact List.prefix_refl _, hJx3⟩⟩
end C
end Go.Proofs.Ytlbnofkjjjbfnaa
