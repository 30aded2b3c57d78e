/- Eras, plain: what cuts of years come to, and cuts of days. -/
import Derived.Test.YtnhbkfmaaannnaaDoorDCheck
namespace Go.Proofs.YtnhbkfmaaannnaaDoor

def ofE (sw : Bool) (k : Nat) : Int := eraC (3 * k + if sw then 1 else 0)
def moE (k : Nat) : Int := eraC (3 * k + 2)
def cnE (sw : Bool) (l : Int) (k : Nat) : Int := min (l / ofE sw k) (moE k)
def lfE (sw : Bool) (x : Int) : Nat → Int
  | 0 => x
  | k + 1 => lfE sw x k - cnE sw (lfE sw x k) k * ofE sw k
def whE (sw : Bool) (x : Int) : Nat → Int
  | 0 => 0
  | k + 1 => whE sw x k + cnE sw (lfE sw x k) k * ofE (!sw) k
theorem four_k {k : Nat} (hk : k < 4) : k = 0 ∨ k = 1 ∨ k = 2 ∨ k = 3 := by omega
theorem ofE_in (sw : Bool) {k : Nat} (hk : k < 4) : 0 < ofE sw k ∧ ofE sw k ≤ 146097 := by
  rcases four_k hk with rfl | rfl | rfl | rfl <;> cases sw <;> decide
theorem moE_in {k : Nat} (hk : k < 4) : 3 ≤ moE k ∧ moE k ≤ 24 := by
  rcases four_k hk with rfl | rfl | rfl | rfl <;> decide
theorem cnE_in (sw : Bool) {k : Nat} (hk : k < 4) {l : Int} (h : 0 ≤ l) : 0 ≤ cnE sw l k ∧ cnE sw l k ≤ 24 ∧ 0 ≤ cnE sw l k * ofE sw k ∧ cnE sw l k * ofE sw k ≤ l ∧ 0 ≤ cnE sw l k * ofE (!sw) k ∧ cnE sw l k * ofE (!sw) k ≤ 24 * 146097 := by
  have h1 := ofE_in sw hk
  have h2 := moE_in hk
  have h3 := ofE_in (!sw) hk
  have h4 : 0 ≤ l / ofE sw k := Int.ediv_nonneg h (by omega)
  have a : 0 ≤ cnE sw l k := by unfold cnE; omega
  have b : cnE sw l k ≤ 24 := by unfold cnE; omega
  have c : cnE sw l k ≤ l / ofE sw k := by unfold cnE; omega
  refine ⟨a, b, Int.mul_nonneg a (by omega), ?_, Int.mul_nonneg a (by omega), ?_⟩
  · exact Int.le_trans (Int.mul_le_mul_of_nonneg_right c (by omega)) (Int.ediv_mul_le l (by omega))
  · exact Int.mul_le_mul b h3.2 (by omega) (by omega)
theorem lfE_in (sw : Bool) {x : Int} (h0 : 0 ≤ x) (h1 : x ≤ 4000000) : ∀ k, k ≤ 4 → 0 ≤ lfE sw x k ∧ lfE sw x k ≤ 4000000
  | 0, _ => ⟨h0, h1⟩
  | k + 1, hk => by
    have := lfE_in sw h0 h1 k (by omega)
    have h2 := cnE_in sw (show k < 4 by omega) this.1
    unfold lfE; omega
theorem whE_in (sw : Bool) {x : Int} (h0 : 0 ≤ x) (h1 : x ≤ 4000000) : ∀ k, k ≤ 4 → 0 ≤ whE sw x k ∧ whE sw x k ≤ 4000000 * k
  | 0, _ => ⟨Int.le_refl _, by simp [whE]⟩
  | k + 1, hk => by
    have := whE_in sw h0 h1 k (by omega)
    have h3 := lfE_in sw h0 h1 k (by omega)
    have h2 := cnE_in sw (show k < 4 by omega) h3.1
    unfold whE; omega
theorem years_cut (x : Int) (h0 : 0 ≤ x) (h1 : x ≤ 8398) : whE false x 4 = 365 * x + x / 4 - x / 100 + x / 400 := by
  simp only [whE, lfE, cnE, ofE, moE, eraC]
  simp
  omega
theorem ylZ_of {y r : Int} (h : r ≤ 365) (hl : r = 365 → (y % 4 = 0 ∧ ¬ y % 100 = 0) ∨ y % 400 = 0) : r < ylZ y := by
  unfold ylZ
  by_cases hr : r = 365
  · rw [if_pos ((leapZ_iff y).2 (hl hr))]; omega
  · split <;> omega
theorem days_plain (m a b c d m1 m2 m3 r : Int) (h0 : 0 ≤ m) (h1 : m ≤ 3067670) (ha : a = min (m / 146097) 20) (e1 : m1 = m - a * 146097)
    (hb : b = min (m1 / 36524) 3) (e2 : m2 = m1 - b * 36524) (hc : c = min (m2 / 1461) 24) (e3 : m3 = m2 - c * 1461) (hd : d = min (m3 / 365) 3) (e4 : r = m3 - d * 365) :
    0 ≤ a * 400 + b * 100 + c * 4 + d ∧ a * 400 + b * 100 + c * 4 + d ≤ 8398 ∧ 0 ≤ r ∧ r < ylZ (1601 + (a * 400 + b * 100 + c * 4 + d)) ∧ 365 * (a * 400 + b * 100 + c * 4 + d) + (a * 400 + b * 100 + c * 4 + d) / 4 - (a * 400 + b * 100 + c * 4 + d) / 100 + (a * 400 + b * 100 + c * 4 + d) / 400 + r = m := by
  have a0 : 0 ≤ a ∧ a ≤ 20 ∧ 0 ≤ m1 ∧ m1 < 146097 ∧ (a = 20 → m1 ≤ 145730) := by omega
  clear ha
  have b0 : 0 ≤ b ∧ b ≤ 3 ∧ 0 ≤ m2 ∧ m2 ≤ 36524 ∧ (b < 3 → m2 < 36524) ∧ (a = 20 → b = 3 → m2 ≤ 36158) := by omega
  clear hb
  have c0 : 0 ≤ c ∧ c ≤ 24 ∧ 0 ≤ m3 ∧ m3 ≤ 1460 ∧ (c = 24 → m3 = 1460 → b = 3) ∧ (a = 20 → b = 3 → c = 24 → m3 ≤ 1094) := by omega
  clear hc
  have d0 : 0 ≤ d ∧ d ≤ 3 ∧ 0 ≤ r ∧ r ≤ 365 ∧ (r = 365 → d = 3 ∧ m3 = 1460) ∧ (a = 20 → b = 3 → c = 24 → d ≤ 2) := by omega
  clear hd
  have q4 : (a * 400 + b * 100 + c * 4 + d) / 400 = a := by omega
  have q1 : (a * 400 + b * 100 + c * 4 + d) / 100 = a * 4 + b := by omega
  have q2 : (a * 400 + b * 100 + c * 4 + d) / 4 = a * 100 + b * 25 + c := by omega
  refine ⟨by omega, by omega, by omega, ylZ_of (by omega) (fun hr => ?_), by rw [q4, q1, q2]; omega⟩
  obtain ⟨hd3, hm3⟩ := d0.2.2.2.2.1 hr
  by_cases h24 : c = 24
  · right
    have := c0.2.2.2.2.1 h24 hm3
    omega
  · left
    omega
theorem days_cut (m : Int) (h0 : 0 ≤ m) (h1 : m ≤ 3067670) : ∃ q r, whE true m 4 = q ∧ lfE true m 4 = r ∧ 0 ≤ q ∧ q ≤ 8398 ∧ 0 ≤ r ∧ r < ylZ (1601 + q) ∧ 365 * q + q / 4 - q / 100 + q / 400 + r = m := by
  have h := days_plain m _ _ _ _ _ _ _ _ h0 h1 rfl rfl rfl rfl rfl rfl rfl rfl
  refine ⟨_, _, rfl, rfl, ?_⟩
  simp only [whE, lfE, cnE, ofE, moE, eraC]
  simp at h ⊢
  exact h
end Go.Proofs.YtnhbkfmaaannnaaDoor
