/- The calendar, plain: leap years, months, numbers of dates, and back. -/
namespace Go.Proofs.YtnhbkfmaaannnaaDoor

/-- Is it a leap year? -/
def leapZ (y : Int) : Bool := (y % 4 == 0 && !(y % 100 == 0)) || y % 400 == 0
def ylZ (y : Int) : Int := if leapZ y then 366 else 365
/-- How long a month is. -/
def mlZ (y m : Int) : Int :=
  if m < 1 ∨ 12 < m then 0 else if m = 2 then (if leapZ y then 29 else 28) else if m = 4 ∨ m = 6 ∨ m = 9 ∨ m = 11 then 30 else 31
/-- Days ahead of the year 1970 + k, and ahead of the month 1 + k. -/
def dyZ : Nat → Int
  | 0 => 0
  | k + 1 => dyZ k + ylZ (1970 + k)
def dmZ (y : Int) : Nat → Int
  | 0 => 0
  | k + 1 => dmZ y k + mlZ y (k + 1)
/-- A date that may be. -/
def RightZ (y m d : Int) : Prop := 1970 ≤ y ∧ y ≤ 9999 ∧ 1 ≤ d ∧ d ≤ mlZ y m
def numZ (y m d : Int) : Int := dyZ (y - 1970).toNat + dmZ y (m - 1).toNat + (d - 1)

theorem leapZ_iff (y : Int) : leapZ y = true ↔ (y % 4 = 0 ∧ ¬ y % 100 = 0) ∨ y % 400 = 0 := by
  unfold leapZ; simp
theorem dyZ_form (k : Nat) : dyZ k = 365 * (k : Int) + (1969 + (k : Int)) / 4 - (1969 + (k : Int)) / 100 + (1969 + (k : Int)) / 400 - 477 := by
  induction k with
  | zero => decide
  | succ k ih =>
    unfold dyZ ylZ
    rw [ih]
    have h := leapZ_iff (1970 + (k : Int))
    by_cases hl : leapZ (1970 + (k : Int)) = true
    · rw [if_pos hl]
      have := h.1 hl
      omega
    · rw [if_neg hl]
      have : ¬ (((1970 + (k : Int)) % 4 = 0 ∧ ¬ (1970 + (k : Int)) % 100 = 0) ∨ (1970 + (k : Int)) % 400 = 0) := fun x => hl (h.2 x)
      omega
theorem dyZ_last : dyZ 8030 = 2932897 := by rw [dyZ_form]; decide
theorem ylZ_pos (y : Int) : 365 ≤ ylZ y ∧ ylZ y ≤ 366 := by unfold ylZ; split <;> omega
theorem dyZ_le {a b : Nat} (h : a ≤ b) : dyZ a ≤ dyZ b := by
  rw [dyZ_form, dyZ_form]; omega
theorem dyZ_lt {a b : Nat} (h : a < b) : dyZ a < dyZ b := by
  rw [dyZ_form, dyZ_form]; omega
theorem mlZ_in {y m : Int} (h1 : 1 ≤ m) (h2 : m ≤ 12) : 28 ≤ mlZ y m ∧ mlZ y m ≤ 31 := by
  unfold mlZ
  rw [if_neg (by omega)]
  split
  · split <;> omega
  · split <;> omega
theorem mlZ_out {y m : Int} (h : m < 1 ∨ 12 < m) : mlZ y m = 0 := by unfold mlZ; rw [if_pos h]
theorem mlZ_top (y m : Int) : 0 ≤ mlZ y m ∧ mlZ y m ≤ 31 := by
  by_cases h : m < 1 ∨ 12 < m
  · rw [mlZ_out h]; omega
  · have := mlZ_in (y := y) (m := m) (by omega) (by omega); omega
theorem RightZ.month {y m d : Int} (h : RightZ y m d) : 1 ≤ m ∧ m ≤ 12 := by
  obtain ⟨_, _, h3, h4⟩ := h
  by_cases hm : m < 1 ∨ 12 < m
  · rw [mlZ_out hm] at h4; omega
  · omega
theorem dmZ_succ (y : Int) (k : Nat) : dmZ y (k + 1) = dmZ y k + mlZ y (k + 1) := rfl
theorem dmZ_le {y : Int} {a b : Nat} (h : a ≤ b) : dmZ y a ≤ dmZ y b := by
  induction b with
  | zero => obtain rfl : a = 0 := by omega
            exact Int.le_refl _
  | succ b ih =>
    by_cases hb : a ≤ b
    · have := ih hb
      have h2 := (mlZ_top y ((b : Int) + 1)).1
      rw [dmZ_succ]; omega
    · obtain rfl : a = b + 1 := by omega
      exact Int.le_refl _
theorem dmZ_year (y : Int) : dmZ y 12 = ylZ y := by
  unfold ylZ
  by_cases h : leapZ y = true <;> simp [dmZ, mlZ, h]
theorem dmZ_nonneg (y : Int) (k : Nat) : 0 ≤ dmZ y k := by have := dmZ_le (y := y) (Nat.zero_le k); simpa [dmZ] using this
/-- The number lies within its year, and its month. -/
theorem num_in {y m d : Int} (h : RightZ y m d) : dyZ (y - 1970).toNat ≤ numZ y m d ∧ numZ y m d < dyZ ((y - 1970).toNat + 1) ∧ dmZ y (m - 1).toNat ≤ numZ y m d - dyZ (y - 1970).toNat ∧ numZ y m d - dyZ (y - 1970).toNat < dmZ y ((m - 1).toNat + 1) := by
  obtain ⟨m1, m2⟩ := h.month
  obtain ⟨h1, h2, h3, h4⟩ := h
  have e1 : dmZ y ((m - 1).toNat + 1) = dmZ y (m - 1).toNat + mlZ y m := by
    rw [dmZ_succ]; congr 2; omega
  have e2 : dyZ ((y - 1970).toNat + 1) = dyZ (y - 1970).toNat + ylZ y := by
    show dyZ (y - 1970).toNat + ylZ (1970 + ((y - 1970).toNat : Int)) = _
    congr 2; omega
  have e3 := dmZ_le (y := y) (a := (m - 1).toNat + 1) (b := 12) (by omega)
  rw [dmZ_year, e1] at e3
  have e4 := dmZ_nonneg y (m - 1).toNat
  unfold numZ
  rw [e1, e2]
  omega
theorem num_range {y m d : Int} (h : RightZ y m d) : 0 ≤ numZ y m d ∧ numZ y m d ≤ 2932896 := by
  have h1 := num_in h
  obtain ⟨a, b, _, _⟩ := h
  have h2 := dyZ_le (show 0 ≤ (y - 1970).toNat by omega)
  have h3 := dyZ_le (show (y - 1970).toNat + 1 ≤ 8030 by omega)
  rw [dyZ_last] at h3
  have h4 : dyZ 0 = 0 := rfl
  omega
/-- The order of dates. -/
def cmpZ (y m d y' m' d' : Int) : Int :=
  if y < y' then -1 else if y' < y then 1 else if m < m' then -1 else if m' < m then 1 else if d < d' then -1 else if d' < d then 1 else 0
theorem cmpZ_lt {y m d y' m' d' : Int} : cmpZ y m d y' m' d' = -1 ↔ y < y' ∨ y = y' ∧ (m < m' ∨ m = m' ∧ d < d') := by
  unfold cmpZ
  repeat' split
  all_goals omega
theorem cmpZ_gt {y m d y' m' d' : Int} : cmpZ y m d y' m' d' = 1 ↔ y' < y ∨ y' = y ∧ (m' < m ∨ m' = m ∧ d' < d) := by
  unfold cmpZ
  repeat' split
  all_goals omega
theorem cmpZ_eq {y m d y' m' d' : Int} : cmpZ y m d y' m' d' = 0 ↔ y = y' ∧ m = m' ∧ d = d' := by
  unfold cmpZ
  repeat' split
  all_goals omega
theorem cmpZ_three (y m d y' m' d' : Int) : cmpZ y m d y' m' d' = -1 ∨ cmpZ y m d y' m' d' = 0 ∨ cmpZ y m d y' m' d' = 1 := by
  unfold cmpZ
  repeat' split
  all_goals omega
/-- Who stands ahead has the lower number. -/
theorem num_lt {y m d y' m' d' : Int} (h : RightZ y m d) (h' : RightZ y' m' d') (hc : y < y' ∨ y = y' ∧ (m < m' ∨ m = m' ∧ d < d')) : numZ y m d < numZ y' m' d' := by
  obtain ⟨a1, a2, a3, a4⟩ := num_in h
  obtain ⟨b1, b2, b3, b4⟩ := num_in h'
  have hm := h.month
  have hm' := h'.month
  rcases hc with hy | ⟨rfl, hm2 | ⟨rfl, hd⟩⟩
  · have := dyZ_le (show (y - 1970).toNat + 1 ≤ (y' - 1970).toNat by have := h.1; omega)
    omega
  · have := dmZ_le (y := y) (show (m - 1).toNat + 1 ≤ (m' - 1).toNat by omega)
    omega
  · unfold numZ; omega
theorem num_inj {y m d y' m' d' : Int} (h : RightZ y m d) (h' : RightZ y' m' d') (he : numZ y m d = numZ y' m' d') : y = y' ∧ m = m' ∧ d = d' := by
  by_cases h1 : y < y' ∨ y = y' ∧ (m < m' ∨ m = m' ∧ d < d')
  · have := num_lt h h' h1; omega
  · by_cases h2 : y' < y ∨ y' = y ∧ (m' < m ∨ m' = m ∧ d' < d)
    · have := num_lt h' h h2; omega
    · omega
theorem cmp_num {y m d y' m' d' : Int} (h : RightZ y m d) (h' : RightZ y' m' d') : cmpZ y m d y' m' d' = if numZ y m d < numZ y' m' d' then -1 else if numZ y m d = numZ y' m' d' then 0 else 1 := by
  rcases cmpZ_three y m d y' m' d' with hc | hc | hc
  · rw [hc, if_pos (num_lt h h' (cmpZ_lt.1 hc))]
  · obtain ⟨rfl, rfl, rfl⟩ := cmpZ_eq.1 hc
    rw [hc, if_neg (by omega), if_pos rfl]
  · have := num_lt h' h (cmpZ_gt.1 hc)
    rw [hc, if_neg (by omega), if_neg (by omega)]
/-- The day behind. -/
theorem num_next {y m d : Int} (h : RightZ y m d) :
    (d < mlZ y m → RightZ y m (d + 1) ∧ numZ y m (d + 1) = numZ y m d + 1) ∧
    (d = mlZ y m → m < 12 → RightZ y (m + 1) 1 ∧ numZ y (m + 1) 1 = numZ y m d + 1) ∧
    (d = mlZ y m → m = 12 → numZ (y + 1) 1 1 = numZ y m d + 1 ∧ (y < 9999 → RightZ (y + 1) 1 1)) := by
  obtain ⟨m1, m2⟩ := h.month
  obtain ⟨h1, h2, h3, h4⟩ := h
  refine ⟨fun hd => ⟨⟨h1, h2, by omega, by omega⟩, by unfold numZ; omega⟩, fun hd hm => ⟨⟨h1, h2, by omega, ?_⟩, ?_⟩, fun hd hm => ⟨?_, fun hy => ⟨by omega, by omega, by omega, ?_⟩⟩⟩
  · have := (mlZ_in (y := y) (m := m + 1) (by omega) (by omega)).1; omega
  · unfold numZ
    have e : dmZ y (m + 1 - 1).toNat = dmZ y (m - 1).toNat + mlZ y m := by
      rw [show (m + 1 - 1).toNat = (m - 1).toNat + 1 by omega, dmZ_succ]; congr 2; omega
    rw [e]; omega
  · subst hm
    unfold numZ
    have e : dyZ (y + 1 - 1970).toNat = dyZ (y - 1970).toNat + ylZ y := by
      rw [show (y + 1 - 1970).toNat = (y - 1970).toNat + 1 by omega]
      show dyZ (y - 1970).toNat + ylZ (1970 + ((y - 1970).toNat : Int)) = _
      congr 2; omega
    have e2 := dmZ_year y
    rw [show (12 : Nat) = 11 + 1 from rfl, dmZ_succ] at e2
    rw [e, show ((12 : Int) - 1).toNat = 11 by decide, show ((1 : Int) - 1).toNat = 0 by decide]
    have e3 : dmZ (y + 1) 0 = 0 := rfl
    have e4 : mlZ y (((11 : Nat) : Int) + 1) = mlZ y 12 := rfl
    rw [e4] at e2
    omega
  · have := (mlZ_in (y := y + 1) (m := 1) (by omega) (by omega)).1; omega
/-- Each number from 0 to the last one is a date's. -/
theorem num_surj (n : Nat) (hn : n ≤ 2932896) : ∃ y m d : Int, RightZ y m d ∧ numZ y m d = (n : Int) := by
  induction n with
  | zero => exact ⟨1970, 1, 1, ⟨by decide, by decide, by decide, by decide⟩, by decide⟩
  | succ n ih =>
    obtain ⟨y, m, d, hr, he⟩ := ih (by omega)
    obtain ⟨a, b, c⟩ := num_next hr
    have hm := hr.month
    have h4 := hr.2.2.2
    by_cases hd : d < mlZ y m
    · exact ⟨y, m, d + 1, (a hd).1, by rw [(a hd).2, he]; omega⟩
    · by_cases hm12 : m < 12
      · exact ⟨y, m + 1, 1, (b (by omega) hm12).1, by rw [(b (by omega) hm12).2, he]; omega⟩
      · obtain ⟨c1, c2⟩ := c (by omega) (by omega)
        have hy : y < 9999 := by
          by_cases hy : y < 9999
          · exact hy
          · have h5 := hr.2.1
            obtain rfl : y = 9999 := by omega
            have h6 : numZ (9999 + 1) 1 1 = 2932897 := by
              unfold numZ
              rw [show ((9999 : Int) + 1 - 1970).toNat = 8030 by decide, dyZ_last]; decide
            omega
        exact ⟨y + 1, 1, 1, c2 hy, by rw [c1, he]; omega⟩
/-- Four hundred years on. -/
theorem leap_era (y : Int) : leapZ (y + 400) = leapZ y := by
  rw [Bool.eq_iff_iff, leapZ_iff, leapZ_iff]; omega
theorem ml_era (y m : Int) : mlZ (y + 400) m = mlZ y m := by unfold mlZ; rw [leap_era]
theorem dm_era (y : Int) (k : Nat) : dmZ (y + 400) k = dmZ y k := by
  induction k with
  | zero => rfl
  | succ k ih => rw [dmZ_succ, dmZ_succ, ih, ml_era]
theorem num_era {y m d : Int} (h : RightZ y m d) : numZ (y + 400) m d = numZ y m d + 146097 ∧ (numZ y m d ≤ 2786799 → RightZ (y + 400) m d) := by
  have h1 := h.1
  constructor
  · unfold numZ
    rw [dm_era, show (y + 400 - 1970).toNat = (y - 1970).toNat + 400 by omega, dyZ_form, dyZ_form]
    omega
  · intro hn
    have h2 := (num_in h).1
    have hy : y ≤ 9599 := by
      by_cases hy : y ≤ 9599
      · exact hy
      · have h3 := dyZ_le (show 7630 ≤ (y - 1970).toNat by omega)
        have h4 : dyZ 7630 = 2786800 := by rw [dyZ_form]; decide
        omega
    exact ⟨by omega, by omega, h.2.2.1, by rw [ml_era]; exact h.2.2.2⟩
end Go.Proofs.YtnhbkfmaaannnaaDoor
