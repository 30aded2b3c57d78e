/- What the document says of TakeBytes. -/
import Derived.Test.YtnppkobckabpcaaTRFlag
import Derived.Test.YtnppkobckabpcaaTReadB
import Derived.Deep.RegionHeld3
namespace Go.Proofs.Ytnppkobckabpcaa
open Go.RowKit

set_option maxRecDepth 100000 in
set_option maxHeartbeats 4000000 in
theorem rbytes_off (A : Option Addr) (n c : Nat) (t err m t2 err2 z : Int) (w : World) (he : err2 ≠ 0)
    (hc : ∀ W, Below w.heap.size w W → Calls Try.prog 44 #[tv A n c t err, .int .u64 18446744073709551615] W (RIs W A n c t2 err2 (.num .u64 z))) :
    Calls Try.prog 47 #[tv A n c t err, .int .i64 m] w (RIs w A n c t2 err2 (.bytes [])) := by
  have hB : Below w.heap.size w ((w.alloc (.cells #[.slice A n c, .int .i64 t, .int .i64 err] 40)).alloc (.cells #[.slice none 0 0, .int .i64 0, .int .i64 0] 40)) := gr_alloc ((Below.refl _ w).alloc (Nat.le_refl _) _) _
  have HC := Lib.hid (hc _ hB)
  have hd : (err2 != 0) = true := by simpa using he
  clear hc hB he
  unfold RIs tv at *
  go_enter Try.func47, Try.ntmps47
  go_wp2_with fail
  refine HC.out.mono ?_; rintro e w1 ⟨x, rfl, hx, hb⟩
  obtain rfl : x = .int .u64 z := hx
  have st := (off_two hb).call ((Below.refl _ w1).alloc (Nat.le_refl _) (.cells #[.slice A n c, .int .i64 t2, .int .i64 err2] 40))
  obtain ⟨c0, c1, c2, f0, f1, f2⟩ := st.b0.three
  obtain ⟨d0, d1, d2, g0, g1, g2⟩ := st.b1.three
  have St := Lib.hid st
  clear st hb HC
  go_wp2_with fail
  have st := St.out.out (.slice A n c) (.int .i64 t2) (.int .i64 err2)
  clear c0 c1 c2 f0 f1 f2 d0 d1 d2 g0 g1 g2
  obtain ⟨c0, c1, c2, _, _, _⟩ := st.b1.three
  refine bodyPost_ret (v := .tuple #[.agg #[.slice A n c, .int .i64 t2, .int .i64 err2], .slice none 0 0]) (by simp [results, Try.results47, go_sem, c0, c1, c2]) rfl ?_
  exact ⟨_, rfl, OwnB.nil _ _, st.bel⟩
set_option maxRecDepth 100000 in
set_option maxHeartbeats 4000000 in
theorem rbytes_neg (A : Option Addr) (n c : Nat) (t m t2 z : Int) (w : World) (hm : m < 0)
    (hc : ∀ W, Below w.heap.size w W → Calls Try.prog 44 #[tv A n c t 0, .int .u64 18446744073709551615] W (RIs W A n c t2 0 (.num .u64 z))) :
    Calls Try.prog 47 #[tv A n c t 0, .int .i64 m] w (RIs w A n c t 3 (.bytes [])) := by
  have hB : Below w.heap.size w ((w.alloc (.cells #[.slice A n c, .int .i64 t, .int .i64 0] 40)).alloc (.cells #[.slice none 0 0, .int .i64 0, .int .i64 0] 40)) := gr_alloc ((Below.refl _ w).alloc (Nat.le_refl _) _) _
  have HC := Lib.hid (hc _ hB)
  have hd : decide (m < 0) = true := by simpa using hm
  clear hc hB hm
  unfold RIs tv at *
  go_enter Try.func47, Try.ntmps47
  go_wp2_with fail
  refine HC.out.mono ?_; rintro e w1 ⟨x, rfl, hx, hb⟩
  obtain rfl : x = .int .u64 z := hx
  have st := (off_two hb).call ((Below.refl _ w1).alloc (Nat.le_refl _) (.cells #[.slice A n c, .int .i64 t2, .int .i64 0] 40))
  obtain ⟨c0, c1, c2, f0, f1, f2⟩ := st.b0.three
  obtain ⟨d0, d1, d2, g0, g1, g2⟩ := st.b1.three
  have St := Lib.hid st
  clear st hb HC
  go_wp2_with fail
  have st := (St.out.set2 (.int .i64 3)).out (.slice A n c) (.int .i64 t) (.int .i64 3)
  clear c0 c1 c2 f0 f1 f2 d0 d1 d2 g0 g1 g2
  obtain ⟨c0, c1, c2, _, _, _⟩ := st.b1.three
  refine bodyPost_ret (v := .tuple #[.agg #[.slice A n c, .int .i64 t, .int .i64 3], .slice none 0 0]) (by simp [results, Try.results47, go_sem, c0, c1, c2]) rfl ?_
  exact ⟨_, rfl, OwnB.nil _ _, st.bel⟩
set_option maxRecDepth 100000 in
set_option maxHeartbeats 4000000 in
theorem rbytes_long (A : Option Addr) (n c m x : Nat) (t t2 : Int) (w : World) (hm : m < x) (hm2 : m ≤ 9223372036854775807)
    (hc : ∀ W, Below w.heap.size w W → Calls Try.prog 44 #[tv A n c t 0, .int .u64 18446744073709551615] W (RIs W A n c t2 0 (.num .u64 (x : Int)))) :
    Calls Try.prog 47 #[tv A n c t 0, .int .i64 (m : Int)] w (RIs w A n c t 3 (.bytes [])) := by
  have hB : Below w.heap.size w ((w.alloc (.cells #[.slice A n c, .int .i64 t, .int .i64 0] 40)).alloc (.cells #[.slice none 0 0, .int .i64 0, .int .i64 0] 40)) := gr_alloc ((Below.refl _ w).alloc (Nat.le_refl _) _) _
  have HC := Lib.hid (hc _ hB)
  have hw : IntKind.u64.wrap (m : Int) = (m : Int) := by rw [IntKind.wrap_u64]; omega
  have hd0 : decide ((m : Int) < 0) = false := by simp
  have hd : decide ((m : Int) < (x : Int)) = true := by simp; omega
  have hd' : decide (m < x) = true := by simp; omega
  clear hc hB hm hm2
  unfold RIs tv at *
  go_enter Try.func47, Try.ntmps47
  go_wp2_with fail
  refine HC.out.mono ?_; rintro e w1 ⟨y, rfl, hx, hb⟩
  obtain rfl : y = .int .u64 (x : Int) := hx
  have st := (off_two hb).call ((Below.refl _ w1).alloc (Nat.le_refl _) (.cells #[.slice A n c, .int .i64 t2, .int .i64 0] 40))
  obtain ⟨c0, c1, c2, f0, f1, f2⟩ := st.b0.three
  obtain ⟨d0, d1, d2, g0, g1, g2⟩ := st.b1.three
  have St := Lib.hid st
  clear st hb HC
  go_wp2_with fail
  have st := (St.out.set2 (.int .i64 3)).out (.slice A n c) (.int .i64 t) (.int .i64 3)
  clear c0 c1 c2 f0 f1 f2 d0 d1 d2 g0 g1 g2
  obtain ⟨c0, c1, c2, _, _, _⟩ := st.b1.three
  refine bodyPost_ret (v := .tuple #[.agg #[.slice A n c, .int .i64 t, .int .i64 3], .slice none 0 0]) (by simp [results, Try.results47, go_sem, c0, c1, c2]) rfl ?_
  exact ⟨_, rfl, OwnB.nil _ _, st.bel⟩
set_option maxRecDepth 100000 in
set_option maxHeartbeats 4000000 in
theorem rbytes_short (A : Option Addr) (n c m x k : Nat) (t : Int) (w : World) (hm : x ≤ m) (hm2 : m ≤ 9223372036854775807) (hk : k ≤ n) (hn : n ≤ 16384) (hx : n - k < x)
    (hc : ∀ W, Below w.heap.size w W → Calls Try.prog 44 #[tv A n c t 0, .int .u64 18446744073709551615] W (RIs W A n c (k : Int) 0 (.num .u64 (x : Int)))) :
    Calls Try.prog 47 #[tv A n c t 0, .int .i64 (m : Int)] w (RIs w A n c t 7 (.bytes [])) := by
  have hB : Below w.heap.size w ((w.alloc (.cells #[.slice A n c, .int .i64 t, .int .i64 0] 40)).alloc (.cells #[.slice none 0 0, .int .i64 0, .int .i64 0] 40)) := gr_alloc ((Below.refl _ w).alloc (Nat.le_refl _) _) _
  have HC := Lib.hid (hc _ hB)
  have hw : IntKind.u64.wrap (m : Int) = (m : Int) := by rw [IntKind.wrap_u64]; omega
  have hd0 : decide ((m : Int) < 0) = false := by simp
  have hd : decide ((m : Int) < (x : Int)) = false := by simp; omega
  have hd' : decide (m < x) = false := by simp; omega
  have hw2 : wrap64 ((n : Int) - (k : Int)) = (n : Int) - (k : Int) := by unfold wrap64; omega
  have hw3 : IntKind.u64.wrap ((n : Int) - (k : Int)) = (n : Int) - (k : Int) := by rw [IntKind.wrap_u64]; omega
  have hd2 : decide ((n : Int) - (k : Int) < (x : Int)) = true := by simp; omega
  clear hc hB hm hm2
  unfold RIs tv at *
  go_enter Try.func47, Try.ntmps47
  go_wp2_with fail
  refine HC.out.mono ?_; rintro e w1 ⟨y, rfl, hx, hb⟩
  obtain rfl : y = .int .u64 (x : Int) := hx
  have st := (off_two hb).call ((Below.refl _ w1).alloc (Nat.le_refl _) (.cells #[.slice A n c, .int .i64 (k : Int), .int .i64 0] 40))
  obtain ⟨c0, c1, c2, f0, f1, f2⟩ := st.b0.three
  obtain ⟨d0, d1, d2, g0, g1, g2⟩ := st.b1.three
  have St := Lib.hid st
  clear st hb HC
  go_wp2_with fail
  have st := (St.out.set2 (.int .i64 7)).out (.slice A n c) (.int .i64 t) (.int .i64 7)
  clear c0 c1 c2 f0 f1 f2 d0 d1 d2 g0 g1 g2
  obtain ⟨c0, c1, c2, _, _, _⟩ := st.b1.three
  refine bodyPost_ret (v := .tuple #[.agg #[.slice A n c, .int .i64 t, .int .i64 7], .slice none 0 0]) (by simp [results, Try.results47, go_sem, c0, c1, c2]) rfl ?_
  exact ⟨_, rfl, OwnB.nil _ _, st.bel⟩
end Go.Proofs.Ytnppkobckabpcaa
