/- Plain facts on words of 64 bits: of no program. -/
import Derived.Laws.Bits64b
import Derived.Lib.TrailingZeros
namespace Go.Proofs.YtidgiohjgkfjcaaDoor
open Go

/-- The number that a word of 64 bits is. -/
def U (x : BitVec 64) : Int := (x.toNat : Int)
theorem U_nonneg (x : BitVec 64) : 0 ≤ U x := by unfold U; omega
theorem U_lt (x : BitVec 64) : U x ≤ 18446744073709551615 := by have := x.isLt; unfold U; omega
theorem U_inj {x y : BitVec 64} : U x = U y ↔ x = y := by
  unfold U
  constructor
  · intro h; exact BitVec.eq_of_toNat_eq (by omega)
  · intro h; rw [h]
theorem U_beq (x y : BitVec 64) : (U x == U y) = (x == y) := by
  rw [Bool.eq_iff_iff, beq_iff_eq, beq_iff_eq]; exact U_inj
theorem U_zero : U 0#64 = 0 := rfl
theorem U_of (n : Int) (h0 : 0 ≤ n) (h1 : n ≤ 18446744073709551615) : ∃ x : BitVec 64, n = U x := by
  refine ⟨BitVec.ofNat 64 n.toNat, ?_⟩
  unfold U
  rw [BitVec.toNat_ofNat]
  omega
theorem U_or (x y : BitVec 64) : bits .or .u64 (U x) (U y) = U (x ||| y) := by
  unfold U; rw [bits_or_u64_nat _ _ (by have := x.isLt; omega) (by have := y.isLt; omega), BitVec.toNat_or]
theorem U_and (x y : BitVec 64) : bits .and .u64 (U x) (U y) = U (x &&& y) := by
  unfold U; rw [bits_and_u64_nat _ _ (by have := x.isLt; omega) (by have := y.isLt; omega), BitVec.toNat_and]
theorem U_ofInt (x : BitVec 64) : BitVec.ofInt 64 (U x) = x := by
  unfold U; rw [BitVec.ofInt_natCast]; simp
theorem U_andNot (x y : BitVec 64) : bits .andNot .u64 (U x) (U y) = U (x &&& ~~~y) := by
  show IntKind.u64.wrap ((BitVec.ofInt 64 (U x) &&& ~~~(BitVec.ofInt 64 (U y))).toNat : Int) = _
  rw [U_ofInt, U_ofInt, IntKind.wrap_u64]
  have := (x &&& ~~~y).isLt
  unfold U
  omega
theorem U_bit (n : Nat) (h : n ≤ 63) : IntKind.u64.wrap (2 ^ n) = U (BitVec.twoPow 64 n) := by
  rw [IntKind.wrap_u64]
  have h2 : 2 ^ n < 2 ^ 64 := Nat.pow_lt_pow_right (by decide) (by omega)
  unfold U
  rw [BitVec.toNat_twoPow, Nat.mod_eq_of_lt h2]
  have e : (2 : Int) ^ n = ((2 ^ n : Nat) : Int) := by simp
  rw [e]
  generalize 2 ^ n = t at *
  omega
theorem U_sub_one (x : BitVec 64) : IntKind.u64.wrap (U x - 1) = U (x - 1) := by
  rw [IntKind.wrap_u64]
  unfold U
  rw [BitVec.toNat_sub]
  have := x.isLt
  simp
  omega
theorem U_shl (x : BitVec 64) : IntKind.u64.wrap (U x * 2) = U (x <<< 1) := by
  rw [IntKind.wrap_u64]
  unfold U
  rw [BitVec.toNat_shiftLeft, Nat.shiftLeft_eq]
  omega
theorem U_shr (x : BitVec 64) : U x / (2 : Int) = U (x >>> 1) := by
  unfold U
  rw [BitVec.toNat_ushiftRight, Nat.shiftRight_eq_div_pow]
  omega

/-- What a mask has, rising. -/
def elems (x : BitVec 64) : List Nat := (List.range 64).filter x.getLsbD
/-- How many it has. -/
def pop (x : BitVec 64) : Nat := (List.range 64).countP x.getLsbD
theorem pop_eq (x : BitVec 64) : (elems x).length = pop x := by
  unfold elems pop; rw [List.countP_eq_length_filter]
theorem pop_le (x : BitVec 64) : pop x ≤ 64 := by
  unfold pop; have := List.countP_le_length (p := x.getLsbD) (l := List.range 64); simpa using this
theorem elems_lt {x : BitVec 64} {n : Nat} (h : n ∈ elems x) : n < 64 := by
  unfold elems at h; simp at h; exact h.1
theorem mem_elems {x : BitVec 64} {n : Nat} : n ∈ elems x ↔ x.getLsbD n = true := by
  unfold elems; simp
  intro h
  exact BitVec.lt_of_getLsbD h

/-! the lowest number -/
theorem low (x : BitVec 64) (h : x ≠ 0#64) : ∃ k, Lib.ctz 64 x.toNat = k ∧ k < 64 ∧ x.getLsbD k = true ∧ (∀ i, i < k → x.getLsbD i = false) ∧
    ∀ i, (x &&& (x - 1#64)).getLsbD i = (x.getLsbD i && decide (i ≠ k)) := by
  have h0 : x.toNat ≠ 0 := fun e => h (BitVec.eq_of_toNat_eq e)
  obtain ⟨m, hm, hk⟩ := Lib.ctzFrom_spec 64 x.toNat (by omega) x.isLt
  refine ⟨Lib.ctzFrom 64 x.toNat, by unfold Lib.ctz; rw [if_neg h0], hk, ?_, ?_, ?_⟩
  all_goals generalize Lib.ctzFrom 64 x.toNat = k at hm hk
  · rw [BitVec.getLsbD, hm, Nat.mul_comm, Nat.testBit_mul_two_pow]; simp
  · intro i hi
    rw [BitVec.getLsbD, hm, Nat.mul_comm, Nat.testBit_mul_two_pow]
    simp; omega
  · intro i
    rw [BitVec.getLsbD_and]
    by_cases hi : i < 64
    · have e1 : (x - 1#64).toNat = 2 ^ k * (2 * m) + (2 ^ k - 1) := by
        have hp : 0 < 2 ^ k := Nat.two_pow_pos k
        rw [BitVec.toNat_sub]
        have := x.isLt
        have e2 : 2 ^ k * (2 * m + 1) = 2 ^ k * (2 * m) + 2 ^ k := by rw [Nat.mul_add, Nat.mul_one]
        simp
        omega
      have a1 : x.getLsbD i = (decide (k ≤ i) && (2 * m + 1).testBit (i - k)) := by
        rw [BitVec.getLsbD, hm, Nat.mul_comm, Nat.testBit_mul_two_pow]
      have a2 : (x - 1#64).getLsbD i = (if i < k then (2 ^ k - 1).testBit i else (2 * m).testBit (i - k)) := by
        rw [BitVec.getLsbD, e1, Nat.testBit_two_pow_mul_add _ (by have := Nat.two_pow_pos k; omega)]
      rw [a1, a2]
      by_cases hik : i < k
      · have : ¬ k ≤ i := by omega
        simp [this]
      · rw [if_neg hik]
        have hle : k ≤ i := by omega
        by_cases he : i = k
        · subst he; simp
        · obtain ⟨j, hj⟩ : ∃ j, i - k = j + 1 := ⟨i - k - 1, by omega⟩
          rw [hj, Nat.testBit_succ, Nat.testBit_succ]
          have d1 : (2 * m + 1) / 2 = m := by omega
          have d2 : 2 * m / 2 = m := by omega
          rw [d1, d2]
          simp [he, hle]
    · rw [BitVec.getLsbD_of_ge _ _ (by omega)]; simp

theorem range_split (k : Nat) (h : k < 64) : List.range 64 = List.range' 0 k ++ k :: List.range' (k + 1) (63 - k) := by
  rw [List.range_eq_range']
  have e1 : (64 : Nat) = k + (1 + (63 - k)) := by omega
  conv => lhs; rw [e1]
  rw [← List.range'_append_1, ← List.range'_append_1]
  simp

/-- The least one, and the others behind it. -/
theorem elems_low (x : BitVec 64) (h : x ≠ 0#64) : elems x = Lib.ctz 64 x.toNat :: elems (x &&& (x - 1#64)) := by
  obtain ⟨k, hk, hk64, h1, h2, h3⟩ := low x h
  rw [hk]
  unfold elems
  rw [range_split k hk64, List.filter_append, List.filter_cons, List.filter_append, List.filter_cons]
  have f1 : (List.range' 0 k).filter x.getLsbD = [] := by
    rw [List.filter_eq_nil_iff]; intro i hi; simp at hi; simp [h2 i hi]
  have f2 : (List.range' 0 k).filter (x &&& (x - 1#64)).getLsbD = [] := by
    rw [List.filter_eq_nil_iff]; intro i hi; simp at hi; rw [h3]; simp [h2 i hi]
  have f3 : (List.range' (k + 1) (63 - k)).filter (x &&& (x - 1#64)).getLsbD = (List.range' (k + 1) (63 - k)).filter x.getLsbD := by
    apply List.filter_congr; intro i hi; simp [List.mem_range'] at hi; obtain ⟨j, _, rfl⟩ := hi
    rw [h3]; have : k + 1 + j ≠ k := by omega
    simp [this]
  rw [f1, f2, f3, if_pos h1, if_neg (by rw [h3]; simp)]
  simp
theorem elems_zero : elems 0#64 = [] := by
  unfold elems; rw [List.filter_eq_nil_iff]; intro i _; simp
theorem pop_low (x : BitVec 64) (h : x ≠ 0#64) : pop x = pop (x &&& (x - 1#64)) + 1 := by
  rw [← pop_eq, ← pop_eq, elems_low x h]; simp
end Go.Proofs.YtidgiohjgkfjcaaDoor
