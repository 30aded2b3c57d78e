/- digits: a number in so many digits. -/
import Derived.Test.YtnhbkfmaaannnaaDoorERefs
import Derived.Test.YtnhbkfmaaannnaaDoorEParse
namespace Go.Proofs.YtnhbkfmaaannnaaDoor
open Go.RowKit

/-- The last j digits. -/
def lowD (n : Nat) : Nat → List UInt8
  | 0 => []
  | j + 1 => dg (n / 10 ^ j) :: lowD n j
theorem lowD_two (n : Nat) : lowD n 2 = d2 n := by simp [lowD, d2]
theorem lowD_four (n : Nat) : lowD n 4 = d4 n := by simp [lowD, d4]
theorem lowD_len (n : Nat) : ∀ j, (lowD n j).length = j
  | 0 => rfl
  | j + 1 => by simp [lowD, lowD_len n j]
theorem ten_at (r : Nat) (hr : r < 10) : (⟨#[48, 49, 50, 51, 52, 53, 54, 55, 56, 57]⟩ : ByteArray).extract r (r + 1) = ⟨#[UInt8.ofNat (48 + r)]⟩ := by
  have hc : r = 0 ∨ r = 1 ∨ r = 2 ∨ r = 3 ∨ r = 4 ∨ r = 5 ∨ r = 6 ∨ r = 7 ∨ r = 8 ∨ r = 9 := by omega
  rcases hc with rfl | rfl | rfl | rfl | rfl | rfl | rfl | rfl | rfl | rfl <;> rfl
theorem str_add (a b : List UInt8) : (⟨a.toArray⟩ : ByteArray) ++ ⟨b.toArray⟩ = ⟨(a ++ b).toArray⟩ := by
  apply ByteArray.ext
  simp
theorem put_digit (q : Nat) (l : List UInt8) : (⟨#[48, 49, 50, 51, 52, 53, 54, 55, 56, 57]⟩ : ByteArray).extract (q % 10) (q % 10 + 1) ++ ⟨l.toArray⟩ = ⟨(dg q :: l).toArray⟩ := by
  rw [ten_at (q % 10) (by omega)]
  exact str_add [dg q] l
set_option maxRecDepth 100000 in
theorem digits_any (N many : Nat) (w : World) (hN : N < 10000) (hm : many ≤ 10) :
    Calls Tryd.prog 41 #[.int .i64 (N : Int), .int .i64 (many : Int)] w fun e w' => e = .returned (strV (lowD N many)) ∧ w = w' := by
  go_enter Tryd.func41, Tryd.ntmps41
  go_wp2_with fail
  go_loop [0, 5, 7] (fun v out i => ∃ j : Nat, j ≤ many ∧ i = .int .i64 j ∧ v = .int .i64 ((N / 10 ^ j : Nat) : Int) ∧ out = strV (lowD N j)) (fun _ _ i => many - (intOf i).toNat)
  case atStart => exact ⟨0, by omega, rfl, by simp, rfl⟩
  case round =>
    obtain ⟨j, hj, rfl, rfl, rfl⟩ := hrel
    by_cases hlt : j < many
    · have hq : N / 10 ^ j < 10000 := Nat.lt_of_le_of_lt (Nat.div_le_self _ _) hN
      generalize hqe : N / 10 ^ j = q at *
      have q0 : (0 : Int) ≤ (q : Int) := by omega
      have q1 : (q : Int) < 10000 := by omega
      have q2 : (0 : Int) ≤ (q : Int) % 10 := by omega
      have q3 : (q : Int) % 10 < 10 := by omega
      have hll : (lowD N j).length = j := lowD_len N j
      have hf : ¬ (9223372036854775807 < min (q % 10 + 1) 10 - q % 10 + (lowD N j).length) := by rw [hll]; omega
      have HQ := Lib.hid hqe
      have hnx : lowD N (j + 1) = dg q :: lowD N j := by rw [← hqe]; rfl
      have HNX := Lib.hid hnx
      clear hll hqe hnx
      generalize lowD N j = l at *
      unfold strV
      go_wp2_with fail
      go_round
      case rel =>
        refine ⟨j + 1, by omega, by go_num, ?_, ?_⟩
        · rw [Nat.pow_succ, ← Nat.div_div_eq_div_mul, HQ.out]; go_num
        · rw [HNX.out, put_digit]
      case measure => simp [intOf]; omega
    · obtain rfl : j = many := by omega
      unfold strV
      go_wp2_with fail
      go_ret
      exact ⟨rfl, rfl⟩
end Go.Proofs.YtnhbkfmaaannnaaDoor
