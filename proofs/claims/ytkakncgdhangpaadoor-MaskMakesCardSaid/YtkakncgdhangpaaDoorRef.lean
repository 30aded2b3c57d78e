/- The plain answers of layer 1: power, Has, Of, All. -/
import Derived.Test.YtkakncgdhangpaaDoorSpans
import Derived.Test.YtkakncgdhangpaaDoorRuns
import Derived.Test.YtkakncgdhangpaaDoorBackM
namespace Go.Proofs.YtkakncgdhangpaaDoor
open Go.RowKit

/-- 2 to the power k. -/
def P2 (k : Nat) : Int := ((2 ^ k : Nat) : Int)
theorem P2_zero : P2 0 = 1 := rfl
theorem P2_succ (k : Nat) (h : k < 63) : IntKind.u64.wrap (P2 k * 2) = P2 (k + 1) := by
  unfold P2
  have h2 : 2 ^ (k + 1) < 2 ^ 64 := Nat.pow_lt_pow_right (by decide) (by omega)
  rw [IntKind.wrap_u64]
  rw [Nat.pow_succ] at h2 ⊢
  generalize 2 ^ k = t at *
  omega
theorem P2_bd (k : Nat) (h : k ≤ 63) : 1 ≤ P2 k ∧ P2 k ≤ 9223372036854775808 := by
  unfold P2
  have h1 := Nat.two_pow_pos k
  have h2 : 2 ^ k ≤ 2 ^ 63 := Nat.pow_le_pow_right (by decide) h
  generalize 2 ^ k = t at *
  omega
set_option maxHeartbeats 400000 in
theorem power_any (n : Nat) (w : World) (h : n ≤ 63) :
    Calls Tryd.prog 41 #[.int .i64 n] w fun e w' => e = .returned (.int .u64 (P2 n)) ∧ w = w' := by
  go_enter Tryd.func41, Tryd.ntmps41
  go_wp2
  go_loop [3, 5] (fun v i => ∃ k : Nat, k ≤ n ∧ i = .int .i64 k ∧ v = .int .u64 (P2 k)) (fun _ i => n - (intOf i).toNat)
  case atStart => exact ⟨0, Nat.zero_le _, rfl, rfl⟩
  case round =>
    obtain ⟨k, hk, rfl, rfl⟩ := hrel
    by_cases hlt : k < n
    · have H := Lib.hid (P2_succ k (by omega))
      go_wp2
      go_round
      case rel => exact ⟨k + 1, by omega, by go_num, by rw [H.out]⟩
      case measure => simp [intOf]; omega
    · obtain rfl : k = n := by omega
      go_wp2
      go_ret
      exact ⟨rfl, rfl⟩
theorem bit_div (x : BitVec 64) (n : Nat) : ((U x / P2 n).tmod 2 == 1) = hasB x n := by
  have h0 : 0 ≤ U x / P2 n := Int.ediv_nonneg (U_nonneg x) (by unfold P2; exact Int.natCast_nonneg _)
  rw [Int.tmod_eq_emod_of_nonneg h0]
  unfold hasB
  rw [decide_eq_true (by omega), Bool.true_and, Int.toNat_natCast]
  unfold U P2
  have e : ((x.toNat : Int) / ((2 ^ n : Nat) : Int) % 2) = ((x.toNat / 2 ^ n % 2 : Nat) : Int) := by simp
  rw [e, BitVec.getLsbD, Nat.testBit_eq_decide_div_mod_eq]
  rw [Bool.eq_iff_iff, beq_iff_eq, decide_eq_true_eq]
  generalize x.toNat / 2 ^ n % 2 = t
  omega
theorem rhas_yes (x : BitVec 64) (n : Nat) (w : World) (h : n ≤ 63) :
    Calls Tryd.prog 29 #[.int .u64 (U x), .int .i64 n] w fun e w' => e = .returned (.bool (hasB x n)) ∧ w = w' := by
  have hb := bit_div x n
  obtain ⟨p1, p2⟩ := P2_bd n h
  have u0 := U_nonneg x
  have u1 := U_lt x
  generalize hasB x n = b at *
  go_enter Tryd.func29, Tryd.ntmps29
  go_wp2_with (go_at_call 41; refine (power_any n _ h).mono ?_; rintro e w' ⟨rfl, rfl⟩)
  go_ret
  exact ⟨rfl, rfl⟩
theorem rhas_no (x : BitVec 64) (n : Int) (w : World) (h : n < 0 ∨ 63 < n) :
    Calls Tryd.prog 29 #[.int .u64 (U x), .int .i64 n] w fun e w' => e = .returned (.bool false) ∧ w = w' := by
  rcases h with h | h
  · have d0 : decide (0 ≤ n) = false := by simp; omega
    go_enter Tryd.func29, Tryd.ntmps29
    go_wp2
    go_ret
    exact ⟨rfl, rfl⟩
  · have h0 : 0 ≤ n := by omega
    have d0 : decide (n ≤ 63) = false := by simp; omega
    go_enter Tryd.func29, Tryd.ntmps29
    go_wp2
    go_ret
    exact ⟨rfl, rfl⟩
theorem hasB_far (x : BitVec 64) (n : Int) (h : n < 0 ∨ 63 < n) : hasB x n = false := by
  unfold hasB
  rcases h with h | h
  · rw [decide_eq_false (by omega)]; rfl
  · rw [BitVec.getLsbD_of_ge _ _ (by omega)]; simp
theorem rhas_any (x : BitVec 64) (n : Int) (w : World) :
    Calls Tryd.prog 29 #[.int .u64 (U x), .int .i64 n] w fun e w' => e = .returned (.bool (hasB x n)) ∧ w = w' := by
  by_cases h : n < 0 ∨ 63 < n
  · rw [hasB_far x n h]; exact rhas_no x n w h
  · obtain ⟨k, rfl⟩ := Int.eq_ofNat_of_zero_le (show 0 ≤ n by omega)
    exact rhas_yes x k w (by omega)

/-! Of -/
theorem add_bit (m : BitVec 64) (k : Nat) (hk : k ≤ 63) (h : hasB m k = false) : IntKind.u64.wrap (U m + P2 k) = U (m ||| BitVec.twoPow 64 k) := by
  have hb : m.getLsbD k = false := by
    unfold hasB at h
    simpa using h
  have h2 : 2 ^ k < 2 ^ 64 := Nat.pow_lt_pow_right (by decide) (by omega)
  have e : m ||| BitVec.twoPow 64 k = m + BitVec.twoPow 64 k := by
    rw [BitVec.add_eq_or_of_and_eq_zero]
    apply BitVec.eq_of_getLsbD_eq
    intro i hi
    rw [BitVec.getLsbD_and, BitVec.getLsbD_twoPow]
    by_cases hik : k = i
    · subst hik; simp [hb]
    · simp [hik]
  rw [e, IntKind.wrap_u64]
  unfold U P2
  rw [BitVec.toNat_add, BitVec.toNat_twoPow, Nat.mod_eq_of_lt h2]
  omega
theorem or_same (m : BitVec 64) (k : Nat) (h : hasB m k = true) : m ||| BitVec.twoPow 64 k = m := by
  have hb : m.getLsbD k = true := by
    unfold hasB at h
    simpa using h
  apply BitVec.eq_of_getLsbD_eq
  intro i hi
  rw [BitVec.getLsbD_or, BitVec.getLsbD_twoPow]
  by_cases hik : k = i
  · subst hik; simp [hb]
  · simp [hik]
/-- A mask, and true; or 0, and false. -/
def maskOk : Option (BitVec 64) → Value
  | some m => .tuple #[.int .u64 (U m), .bool true]
  | none => .tuple #[.int .u64 0, .bool false]

set_option maxHeartbeats 1000000 in
theorem rof_any (A : Option Addr) (n c : Nat) (zs : List Int) (w : World) (hx : zs.length = n) (hn : n ≤ maxLen) (hc : Arr w A n (fun k => .int .i64 (nthI zs k))) :
    Calls Tryd.prog 13 #[.slice A n c] w fun e w' => e = .returned (maskOk (ofs zs 0#64)) ∧ w = w' := by
  unfold maxLen at hn
  have Hx := Lib.hid hx; clear hx
  go_enter Tryd.func13, Tryd.ntmps13
  go_wp2
  go_loop [4, 9] (fun v i => ∃ (k : Nat) (m : BitVec 64), k ≤ n ∧ i = .int .i64 k ∧ v = .int .u64 (U m) ∧ ofs zs 0#64 = ofs (zs.drop k) m) (fun _ i => n - (intOf i).toNat)
  case atStart => exact ⟨0, 0#64, Nat.zero_le _, rfl, rfl, rfl⟩
  case round =>
    obtain ⟨k, m, hk, rfl, rfl, ho⟩ := hrel
    by_cases hlt : k < n
    · obtain ⟨b, off, rfl, hcell⟩ := hc k hlt
      rw [drop_nthI zs k (by rw [Hx.out]; exact hlt), ofs] at ho
      clear hc
      dsimp only at hcell
      generalize nthI zs k = z at *
      by_cases hz : inside z
      · rw [if_pos hz] at ho
        obtain ⟨z0, z1⟩ := hz
        obtain ⟨j, rfl⟩ := Int.eq_ofNat_of_zero_le z0
        rw [Int.toNat_natCast] at ho
        have hj : j ≤ 63 := by omega
        have d0 : decide ((j : Int) < 0) = false := by simp
        have d1 : decide (63 < (j : Int)) = false := by simp; omega
        rcases hb : hasB m j with _ | _
        · have Hp := Lib.hid (add_bit m j hj hb)
          have Ho := Lib.hid ho; clear ho
          go_wp2_with (first | (go_at_call 29; refine (rhas_any m j _).mono ?_; rintro e w' ⟨rfl, rfl⟩) | (go_at_call 41; refine (power_any j _ hj).mono ?_; rintro e w' ⟨rfl, rfl⟩))
          go_round
          case rel => exact ⟨k + 1, _, by omega, by go_num, by rw [Hp.out], Ho.out⟩
          case measure => simp [intOf]; omega
        · rw [or_same m j hb] at ho
          have Ho := Lib.hid ho; clear ho
          go_wp2_with (first | (go_at_call 29; refine (rhas_any m j _).mono ?_; rintro e w' ⟨rfl, rfl⟩) | (go_at_call 41; refine (power_any j _ hj).mono ?_; rintro e w' ⟨rfl, rfl⟩))
          go_round
          case rel => exact ⟨k + 1, m, by omega, by go_num, rfl, Ho.out⟩
          case measure => simp [intOf]; omega
      · rw [if_neg hz] at ho
        have Ho := Lib.hid ho; clear ho
        by_cases hz0 : z < 0
        · clear hz
          go_wp2
          go_ret2
          exact ⟨by rw [Ho.out]; rfl, rfl⟩
        · have hz1 : 63 < z := by unfold inside at hz; omega
          have d0 : decide (z < 0) = false := by simp; omega
          clear hz
          go_wp2
          go_ret2
          exact ⟨by rw [Ho.out]; rfl, rfl⟩
    · obtain rfl : k = n := by omega
      have Ho := Lib.hid ho; clear ho
      clear hc
      go_wp2
      go_ret2
      exact ⟨by rw [Ho.out, List.drop_of_length_le (by rw [Hx.out]; exact Nat.le_refl _)]; rfl, rfl⟩
end Go.Proofs.YtkakncgdhangpaaDoor
