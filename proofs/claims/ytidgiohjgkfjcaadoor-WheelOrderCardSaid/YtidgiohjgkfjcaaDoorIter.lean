/- numbers: what a mask has, told by a function over which one ranges. -/
import Derived.Test.YtidgiohjgkfjcaaDoorFold
import Derived.RangeFuncNested
import Derived.RangeFuncBound
import Derived.RangeFuncCalls
import Derived.RangeFuncLeaves
import Derived.RangeFuncBox
import Derived.Shelf.Abstract
import Derived.Shelf.RegionOpen
import Derived.OwnWalkIn
import Derived.TacticsInMore
import Derived.LoopNIn
import Derived.LoopIn
namespace Go.Proofs.YtidgiohjgkfjcaaDoor
open Go.RowKit Go.Shelf

attribute [local go_sem] Oper.semAt_some

/-- Its own measure: how many are left. -/
def leftOf (v : Value) : Nat := pop (BitVec.ofInt 64 (intOf v))
theorem leftOf_U (y : BitVec 64) : leftOf (.int .u64 (U y)) = pop y := by
  unfold leftOf intOf
  simp only
  rw [U_ofInt]
theorem Tab.below {w w' : World} (h : Tab w) {B : Nat} (hB : 0 < B) (hb : Below B w w') : Tab w' := fun j hj => (hb.cell (p := ⟨0, j, none⟩) hB).trans (h j hj)

set_option maxRecDepth 100000 in
set_option maxHeartbeats 2000000 in
theorem numbers1_in (n : Nat) (hn : 1 ≤ n) (l B n₀ : Nat) (x : BitVec 64) (J Jx : List Nat → World → Prop) (hb0 : 0 < n₀)
    (hY : ∀ pre k W, J pre W → pre.length < 64 → YieldAt Fence.wide (n - 1) Tryd.prog l #[.int .i64 ((k : Nat) : Int)] W fun e W' =>
      (e = .returned (.bool true) ∧ J (pre ++ [k]) W' ∧ Below n₀ W W') ∨ (e = .returned (.bool false) ∧ Jx (pre ++ [k]) W'))
    (W : World) (hB : W.cell? ⟨B, 0, none⟩ = some (.int .u64 (U x))) (hT : Tab W) (h0 : J [] W) :
    CallsIn Fence.wide n Tryd.prog 65 #[.func (.yield l) #[] #[], .pointer (some ⟨B, 0, none⟩)] W fun e W' => (∃ v, e = .returned v) ∧
      ((∃ ys, ys = elems x ∧ J ys W') ∨ (∃ pre, pre <+: elems x ∧ Jx pre W')) := by
  refine callsIn_of_wp Tryd.func65 rfl trivial ?_ rfl
  simp only [Tryd.ntmps65, List.size_toArray, List.length_cons, List.length_nil, Nat.reduceAdd, Nat.reduceSub, Array.replicate_succ, Array.replicate_zero, List.push_toArray, List.append_toArray, List.nil_append, List.cons_append]
  gi_wp2
  gi_loopw [3] (fun p wr => ∃ (pre : List Nat) (y : BitVec 64), p = .int .u64 (U y) ∧ elems x = pre ++ elems y ∧ J pre wr ∧ Tab wr)
    (fun p _ => leftOf p)
  case atStart => exact ⟨[], x, rfl, rfl, h0, hT⟩
  case round =>
    obtain ⟨pre, y, rfl, hx, hJs, hTs⟩ := hrel
    by_cases hy : y = 0#64
    · subst hy
      have hz : (U 0#64 != 0) = false := by rw [U_zero]; rfl
      have Hx := Lib.hid hx; clear hx
      gi_wp2
      go_end0
      exact ⟨⟨_, rfl⟩, .inl ⟨pre, by have := Hx.out; rw [elems_zero] at this; simpa using this.symm, hJs⟩⟩
    · have hz : (U y != 0) = true := by rw [bne_iff_ne, ← U_zero]; exact fun e => hy (U_inj.1 e)
      have Hx := Lib.hid (hx.trans (by rw [elems_low y hy])); clear hx
      have hlen : pre.length < 64 := by
        have h := congrArg List.length Hx.out
        have := pop_le x
        rw [← pop_eq] at this
        simp at h
        omega
      obtain ⟨fn, tmps, assign, body, hyy, hR⟩ := hY pre (Lib.ctz 64 y.toNat) wr hJs hlen
      have Hp := Lib.hid (pop_low y hy)
      have Ha := Lib.hid (show bits .and .u64 (U y) (IntKind.u64.wrap (U y - 1)) = U (y &&& (y - 1#64)) by rw [U_sub_one]; exact U_and y (y - 1#64))
      have hy' := Lib.hid hy; clear hy
      gi_wp2_with (refine ⟨trivial, ?_⟩; gi_at_call 66; refine (callsIn_wide.2 (tz_any y _ hy'.out hTs)).mono ?_; rintro e w' ⟨rfl, rfl⟩)
      refine hR.mono ?_
      rintro e W3 (⟨rfl, hJ3, hk3⟩ | ⟨rfl, hJx3⟩)
      · gi_wp2
        go_roundw
        case rel => exact ⟨pre ++ [Lib.ctz 64 y.toNat], y &&& (y - 1#64), by rw [← Ha.out], by rw [Hx.out]; simp, hJ3, hTs.below hb0 hk3⟩
        case measure => rw [Ha.out, leftOf_U, leftOf_U, Hp.out]; omega
      · gi_wp2
        refine bodyPost_ret (results_none rfl _ _ _) rfl ?_
        exact ⟨⟨_, rfl⟩, .inr ⟨_, ⟨elems (y &&& (y - 1#64)), by rw [Hx.out]; simp⟩, hJx3⟩⟩

set_option maxHeartbeats 1000000 in
theorem numbers_in (n : Nat) (x : BitVec 64) (w : World) :
    CallsIn Fence.wide n Tryd.prog 61 #[.int .u64 (U x)] w fun e w' => e = .returned (.func (.func 65) #[] #[.pointer (some ⟨w.heap.size, 0, none⟩)]) ∧ w' = w.alloc (.cells #[.int .u64 (U x)] 107) := by
  refine callsIn_of_wp Tryd.func61 rfl trivial ?_ rfl
  simp only [Tryd.ntmps61, List.size_toArray, List.length_cons, List.length_nil, Nat.reduceAdd, Nat.reduceSub, Array.replicate_succ, Array.replicate_zero, List.push_toArray, List.append_toArray, List.nil_append, List.cons_append]
  gi_wp2
  go_ret
  exact ⟨rfl, rfl⟩
/-- What it hands back tells just these numbers, whatever the loop's body does above n₀. -/
theorem numbers_stops (n : Nat) (hn : 1 ≤ n) (B n₀ : Nat) (x : BitVec 64) (w : World) (hb0 : 0 < n₀) (hn0 : n₀ ≤ w.heap.size) (hBl : B < w.heap.size) (hB : w.cell? ⟨B, 0, none⟩ = some (.int .u64 (U x))) (hT : Tab w) :
    SeqStopsK Fence.wide n Tryd.prog 65 #[.pointer (some ⟨B, 0, none⟩)] (fun k : Nat => #[.int .i64 (k : Int)]) (Below n₀) (fun ys => ys = elems x) (fun pre => pre <+: elems x) 64 w :=
  fun l J Jx W hW _ _ hY h0 => numbers1_in n hn l B n₀ x J Jx hb0 hY W ((hW.cell (p := ⟨B, 0, none⟩) hBl).trans hB) (hT.below (Nat.lt_of_lt_of_le hb0 hn0) hW) h0
end Go.Proofs.YtidgiohjgkfjcaaDoor
