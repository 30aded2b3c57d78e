/- own; tapes, and what is told, that are the same. -/
import Derived.Test.YtnppkobckabpcaaTAsk0
import Derived.Test.YtnppkobckabpcaaTWakes
import Derived.Test.YtnppkobckabpcaaTRes
namespace Go.Proofs.Ytnppkobckabpcaa
open Go.RowKit

set_option maxRecDepth 100000 in
set_option maxHeartbeats 4000000 in
theorem own_any (A : Option Addr) (n c : Nat) (t err : Int) (bs : List Nat) (w : World) (h : RowB w w.heap.size A n c bs) :
    Calls Try.prog 20 #[tv A n c t err] w fun e w' => ∃ A' c', e = .returned (tv A' (bs.take 16385).length c' t err) ∧ OwnB w' w.heap.size (.slice A' (bs.take 16385).length c') (bs.take 16385) ∧ Below w.heap.size w w' := by
  have hB : Below w.heap.size w ((w.alloc (.cells #[.slice A n c, .int .i64 t, .int .i64 err] 40)).alloc (.cells #[.slice none 0 0, .int .i64 0, .int .i64 0] 40)) := gr_alloc (b_alloc _ _) _
  have hF := few_any A n c 16385 bs _ ((h.below hB).mono hB.size) (by omega)
  rw [show ((16385 : Nat) : Int) = 16385 from rfl] at hF
  generalize bs.take 16385 = ys at *
  have HF := Lib.hid hF
  clear hF h hB
  unfold tv
  go_enter Try.func20, Try.ntmps20
  go_wp2_with fail
  refine HF.out.mono ?_; rintro e w1 ⟨v, rfl, ho, hb⟩
  obtain ⟨A2, c2, rfl, _⟩ := ho.row
  have hs1 : w.heap.size + 1 < ((w.alloc (.cells #[.slice A n c, .int .i64 t, .int .i64 err] 40)).alloc (.cells #[.slice none 0 0, .int .i64 0, .int .i64 0] 40)).heap.size := by simp
  have st := Two.new hb (OwnB.nil _ _)
  obtain ⟨c0, c1, c2', f0, f1, f2⟩ := st.b0.three
  obtain ⟨d0, d1, d2, g0, g1, g2⟩ := st.b1.three
  have St := Lib.hid st; have HO := Lib.hid ho; have HS := Lib.hid hs1
  clear st ho hb HF hs1
  go_wp2_with fail
  have st := (St.out.set0 (.slice A2 ys.length c2)).out (.slice A2 ys.length c2) (.int .i64 t) (.int .i64 err)
  clear c0 c1 c2' f0 f1 f2 d0 d1 d2 g0 g1 g2
  obtain ⟨c0, c1, c2', _, _, _⟩ := st.b1.three
  refine bodyPost_ret (v := .agg #[.slice A2 ys.length c2, .int .i64 t, .int .i64 err]) (by simp [results, Try.results20, go_sem, c0, c1, c2']) rfl ?_
  have hs := HS.out
  exact ⟨A2, c2, rfl, OwnB.mono ((OwnB.set HO.out (by omega) _).set3 hs _ _ _) (by omega), st.bel⟩
set_option maxRecDepth 100000 in
set_option maxHeartbeats 4000000 in
theorem same_tape (A B : Option Addr) (n c d : Nat) (t err : Int) (bs : List Nat) (w : World) (ha : RowB w w.heap.size A n c bs) (hb : RowB w w.heap.size B n d bs) :
    Calls Try.prog 27 #[tv A n c t err, tv B n d t err] w fun e w' => e = .returned (.bool true) ∧ Below w.heap.size w w' := by
  have hn : n ≤ 9223372036854775807 := by have := ha.cap; have := ha.top; unfold maxLen at this; omega
  have hB : Below w.heap.size w ((w.alloc (.cells #[.slice A n c, .int .i64 t, .int .i64 err] 40)).alloc (.cells #[.slice B n d, .int .i64 t, .int .i64 err] 40)) := gr_alloc (b_alloc _ _) _
  have Hca := Lib.hid (ha.below hB).at_; have Hcb := Lib.hid (hb.below hB).at_
  have HB := Lib.hid hB
  clear ha hb hB
  unfold tv
  go_enter Try.func27, Try.ntmps27
  go_wp2_with fail
  go_loop [31] (fun s31 => ∃ i : Nat, i ≤ n ∧ s31 = .int .i64 (i : Int)) (fun s31 => n - (intOf s31).toNat)
  case atStart => exact ⟨0, by omega, rfl⟩
  case round =>
    obtain ⟨i, hi, rfl⟩ := hrel
    by_cases hlt : i < n
    · obtain ⟨b1, o1, rfl, _, q1⟩ := Hca.out i hlt
      obtain ⟨b2, o2, rfl, _, q2⟩ := Hcb.out i hlt
      unfold bv at q1 q2
      generalize nthB bs i = x at *
      go_wp2_with fail
      go_round
      case rel => exact ⟨i + 1, by omega, by go_num⟩
      case measure => simp [intOf]; omega
    · obtain rfl : i = n := by omega
      go_wp2_with fail
      go_ret
      exact ⟨rfl, HB.out⟩
set_option maxRecDepth 100000 in
set_option maxHeartbeats 4000000 in
theorem same_told (A B P Q : Option Addr) (n c d m p q : Nat) (t err z i : Int) (f : Bool) (bs xs : List Nat) (w : World) (ha : RowB w w.heap.size A n c bs) (hb : RowB w w.heap.size B n d bs)
    (hp : RowB w w.heap.size P m p xs) (hq : RowB w w.heap.size Q m q xs) :
    Calls Try.prog 26 #[toldV (.slice A n c) t err z i f (.slice P m p), toldV (.slice B n d) t err z i f (.slice Q m q)] w fun e w' => e = .returned (.bool true) ∧ Below w.heap.size w w' := by
  have hB : Below w.heap.size w ((w.alloc (.cells #[.slice A n c, .int .i64 t, .int .i64 err, .int .u64 z, .int .i64 i, .bool f, .slice P m p] 48)).alloc (.cells #[.slice B n d, .int .i64 t, .int .i64 err, .int .u64 z, .int .i64 i, .bool f, .slice Q m q] 48)) := gr_alloc (b_alloc _ _) _
  have HS := Lib.hid (same_tape A B n c d t err bs _ ((ha.below hB).mono hB.size) ((hb.below hB).mono hB.size))
  have HP := Lib.hid ((hp.below hB).mono hB.size); have HQ := Lib.hid ((hq.below hB).mono hB.size)
  have HB := Lib.hid hB
  clear ha hb hp hq hB
  unfold toldV tv at *
  go_enter Try.func26, Try.ntmps26
  go_wp2_with fail
  refine HS.out.mono ?_; rintro e w1 ⟨rfl, hb1⟩
  obtain ⟨hc, hf⟩ := below_cell hb1
  have HB1 := Lib.hid hb1
  clear hb1
  go_wp2_with fail
  refine (same_bytes P Q m p q _ _ xs _ (HP.out.below HB1.out) (HQ.out.below HB1.out)).mono ?_; rintro e w2 ⟨rfl, q2, rfl⟩
  go_wp2_with fail
  go_ret
  exact ⟨rfl, below_drew (gr_trans HB.out HB1.out) _⟩
end Go.Proofs.Ytnppkobckabpcaa
