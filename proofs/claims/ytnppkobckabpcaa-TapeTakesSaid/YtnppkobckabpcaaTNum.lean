/- Size, Turn, Back, and the document's Turn and Back. -/
import Derived.Test.YtnppkobckabpcaaTMath
import Derived.Test.YtnppkobckabpcaaTLen
import Derived.Test.YtnppkobckabpcaaChecked
import Derived.WalkKit
import Derived.Lib.Hide
import Derived.Laws.BitsAll
import Derived.Laws.BitsAllLaws
namespace Go.Proofs.Ytnppkobckabpcaa
open Go.RowKit

theorem len_any (n L : Nat) (w : World) (h : n < 2 ^ 64) (hL : Lib.bitLen n = L) : Calls Try.prog 41 #[.int .u64 (n : Int)] w fun e w' => e = .returned (.int .i64 (L : Int)) ∧ w = w' :=
  (len64 (n : Int) w (by omega) (by omega)).mono fun e w' ⟨a, b⟩ => ⟨by rw [a, Int.toNat_natCast, hL], b.symm⟩
set_option maxHeartbeats 400000 in
theorem size_walk (n m L : Nat) (w : World) (hor : bits .or .u64 (n : Int) 1 = (m : Int)) (hl : Calls Try.prog 41 #[.int .u64 (m : Int)] w fun e w' => e = .returned (.int .i64 (L : Int)) ∧ w = w') (hb : L ≤ 64) :
    Calls Try.prog 13 #[.int .u64 (n : Int)] w fun e w' => e = .returned (.int .i64 (((L + 7 - 1) / 7 : Nat) : Int)) ∧ w = w' := by
  have Hl := Lib.hid hl; clear hl
  go_enter Try.func13, Try.ntmps13
  go_wp2_with fail
  refine Hl.out.mono ?_; rintro e w' ⟨rfl, rfl⟩
  go_wp2_with fail
  go_ret
  exact ⟨congrArg (fun z => Ending.returned (.int .i64 z)) (by omega), rfl⟩
theorem size_any (n : Nat) (w : World) (h : n < 18446744073709551616) :
    Calls Try.prog 13 #[.int .u64 (n : Int)] w fun e w' => e = .returned (.int .i64 ((sh n).length : Int)) ∧ w = w' := by
  have h2 : n ||| 1 < 2 ^ 64 := Nat.or_lt_two_pow h (by decide)
  have := size_walk n (n ||| 1) (Lib.bitLen (n ||| 1)) w (u64_or_nat n 1 h (by omega)) (len_any _ _ w h2 rfl) (Lib.bitLen_le (n ||| 1) 64 (by omega) h2)
  rw [size_eq h] at this
  exact this

theorem not_u64 (x : Nat) (h : x < 18446744073709551616) : x ^^^ 18446744073709551615 = 18446744073709551615 - x := by
  have e := congrArg BitVec.toNat (BitVec.xor_allOnes (x := BitVec.ofNat 64 x))
  rw [BitVec.toNat_xor, BitVec.toNat_not, BitVec.toNat_ofNat, BitVec.toNat_allOnes, Nat.mod_eq_of_lt h] at e
  simpa using e
theorem turn_eq (n : Int) (h0 : -9223372036854775808 ≤ n) (h1 : n ≤ 9223372036854775807) : bits .xor .u64 (IntKind.u64.wrap (IntKind.u64.wrap n * 2)) (IntKind.u64.wrap (n / 9223372036854775808)) = turnZ n := by
  simp only [IntKind.wrap_u64]
  have e2 : n % 18446744073709551616 * 2 % 18446744073709551616 = if 0 ≤ n then 2 * n else 2 * n + 18446744073709551616 := by split <;> omega
  have e1 : n / 9223372036854775808 % 18446744073709551616 = if 0 ≤ n then 0 else 18446744073709551615 := by split <;> omega
  rw [e1, e2]
  unfold turnZ
  by_cases h : 0 ≤ n
  · rw [if_pos h, if_pos h, if_pos h, u64_xor _ _ (by omega) (by omega) (by omega) (by omega)]
    simp; omega
  · rw [if_neg h, if_neg h, if_neg h, u64_xor _ _ (by omega) (by omega) (by omega) (by omega)]
    rw [show (18446744073709551615 : Int).toNat = 18446744073709551615 by rfl, not_u64 _ (by omega)]
    omega
theorem and_one (n : Int) (h0 : 0 ≤ n) (h1 : n ≤ 18446744073709551615) : bits .and .u64 n 1 = n % 2 := by
  rw [u64_and n 1 h0 (by omega) (by omega) (by omega), show (1 : Int).toNat = 1 by rfl, nat_mask1]
  omega
theorem back_eq (n : Int) (h0 : 0 ≤ n) (h1 : n ≤ 18446744073709551615) : bits .xor .i64 (n / 2) (wrap64 (-wrap64 (bits .and .u64 n 1))) = backZ n := by
  rw [and_one n h0 h1]
  have ha : BitVec.ofInt 64 (n / 2) = BitVec.ofNat 64 (n / 2).toNat := by rw [← BitVec.ofInt_natCast, Int.toNat_of_nonneg (by omega)]
  have hn : (BitVec.ofNat 64 (n / 2).toNat).toNat = (n / 2).toNat := by rw [BitVec.toNat_ofNat]; exact Nat.mod_eq_of_lt (by omega)
  unfold backZ
  show IntKind.i64.wrap ((BitVec.ofInt 64 (n / 2) ^^^ BitVec.ofInt 64 _).toNat : Int) = _
  rw [ha, IntKind.wrap_i64]
  by_cases h : n % 2 = 0
  · have e : wrap64 (-wrap64 (n % 2)) = 0 := by rw [h]; unfold wrap64; omega
    rw [if_pos h, e, show BitVec.ofInt 64 0 = 0#64 by rfl, BitVec.xor_zero, hn]
    omega
  · have h2 : n % 2 = 1 := by omega
    have e : wrap64 (-wrap64 (n % 2)) = -1 := by rw [h2]; unfold wrap64; omega
    rw [if_neg h, e, show BitVec.ofInt 64 (-1) = BitVec.allOnes 64 by decide, BitVec.xor_allOnes, BitVec.toNat_not, hn]
    omega
theorem turn_any (n : Int) (w : World) (h0 : -9223372036854775808 ≤ n) (h1 : n ≤ 9223372036854775807) :
    Calls Try.prog 15 #[.int .i64 n] w fun e w' => e = .returned (.int .u64 (turnZ n)) ∧ w = w' := by
  go_enter Try.func15, Try.ntmps15
  go_wp2_with fail
  go_ret
  exact ⟨congrArg (fun z => Ending.returned (.int .u64 z)) (turn_eq n h0 h1), rfl⟩
theorem back_any (n : Int) (w : World) (h0 : 0 ≤ n) (h1 : n ≤ 18446744073709551615) :
    Calls Try.prog 17 #[.int .u64 n] w fun e w' => e = .returned (.int .i64 (backZ n)) ∧ w = w' := by
  go_enter Try.func17, Try.ntmps17
  go_wp2_with fail
  go_ret
  exact ⟨congrArg (fun z => Ending.returned (.int .i64 z)) (back_eq n h0 h1), rfl⟩
theorem rturn_any (n : Int) (w : World) (h0 : -9223372036854775808 ≤ n) (h1 : n ≤ 9223372036854775807) :
    Calls Try.prog 16 #[.int .i64 n] w fun e w' => e = .returned (.int .u64 (turnZ n)) ∧ w = w' := by
  by_cases h : 0 ≤ n
  · have e : turnZ n = 2 * n := by unfold turnZ; rw [if_pos h]
    go_enter Try.func16, Try.ntmps16
    go_wp2_with fail
    go_ret
    exact ⟨congrArg (fun z => Ending.returned (.int .u64 z)) (by omega), rfl⟩
  · have e : turnZ n = -2 * n - 1 := by unfold turnZ; rw [if_neg h]
    have hd : decide (0 ≤ n) = false := by simp; omega
    have Hh := Lib.hid h; clear h
    go_enter Try.func16, Try.ntmps16
    go_wp2_with fail
    go_ret
    exact ⟨congrArg (fun z => Ending.returned (.int .u64 z)) (by have := Hh.out; simp only [IntKind.wrap_u64, wrap64]; omega), rfl⟩
theorem rback_any (n : Int) (w : World) (h0 : 0 ≤ n) (h1 : n ≤ 18446744073709551615) :
    Calls Try.prog 18 #[.int .u64 n] w fun e w' => e = .returned (.int .i64 (backZ n)) ∧ w = w' := by
  by_cases h : n % 2 = 0
  · have e : backZ n = n / 2 := by unfold backZ; rw [if_pos h]
    have hd : (n % 2 == 0) = true := by simp [h]
    have He := Lib.hid e; clear e h
    go_enter Try.func18, Try.ntmps18
    go_wp2_with fail
    go_ret
    exact ⟨congrArg (fun z => Ending.returned (.int .i64 z)) (by rw [He.out]), rfl⟩
  · have e : backZ n = -(n / 2) - 1 := by unfold backZ; rw [if_neg h]
    have hd : (n % 2 == 0) = false := by simp [h]
    have He := Lib.hid e; clear e h
    go_enter Try.func18, Try.ntmps18
    go_wp2_with fail
    go_ret
    exact ⟨congrArg (fun z => Ending.returned (.int .i64 z)) (by rw [He.out]), rfl⟩
end Go.Proofs.Ytnppkobckabpcaa
