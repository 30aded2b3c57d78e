/- Days that recur, plain: within each horizon of 2922 days there is each day of a month, and each weekday of a month. -/
import Derived.Test.YtkimbmifabpppaaDoorK3
namespace Go.Proofs.YtkimbmifabpppaaDoor
open D

/-- Dates from year to year. -/
theorem dy_year (y : Int) (h : 1970 ≤ y) : dyZ (y - 1970).toNat = 365 * (y - 1970) + (y - 1) / 4 - (y - 1) / 100 + (y - 1) / 400 - 477 := by
  rw [dyZ_form]
  omega
theorem num_year {y m d : Int} (h : RightZ y m d) : dyZ (y - 1970).toNat ≤ numZ y m d ∧ numZ y m d < dyZ (y - 1970).toNat + 366 := by
  obtain ⟨a, b, c, e⟩ := num_in h
  obtain ⟨m1, m2⟩ := h.month
  have h1 := dmZ_le (y := y) (show (m - 1).toNat + 1 ≤ 12 by omega)
  rw [dmZ_year] at h1
  have := (ylZ_pos y).2
  omega
/-- The year that a number lies in. -/
theorem year_of (n : Int) (h0 : 0 ≤ n) (h1 : n ≤ 2932896) : ∃ y : Int, 1970 ≤ y ∧ y ≤ 9999 ∧ dyZ (y - 1970).toNat ≤ n ∧ n < dyZ (y - 1970).toNat + 366 ∧ (y < 9999 → n < dyZ (y + 1 - 1970).toNat) := by
  obtain ⟨y, m, d, hr, hn⟩ := num_surj n.toNat (by omega)
  have hn' : numZ y m d = n := by omega
  obtain ⟨a, b⟩ := num_year hr
  obtain ⟨_, c, _, _⟩ := num_in hr
  refine ⟨y, hr.1, hr.2.1, by omega, by omega, fun hy => ?_⟩
  have e : (y - 1970).toNat + 1 = (y + 1 - 1970).toNat := by have := hr.1; omega
  rw [e] at c
  omega
theorem max_year {y : Int} {n : Int} (h : 1970 ≤ y) (hn : n + 2922 ≤ 2932896) (hy : dyZ (y - 1970).toNat ≤ n) : y + 8 ≤ 9999 := by
  apply Int.not_lt.1
  intro hlt
  have e := dy_year y h
  omega
theorem dy_two {y : Int} (h : 1970 ≤ y) : dyZ (y + 1 - 1970).toNat ≤ dyZ (y - 1970).toNat + 366 ∧ dyZ (y - 1970).toNat + 365 ≤ dyZ (y + 1 - 1970).toNat := by
  have e1 := dy_year y h
  have e2 := dy_year (y + 1) (by omega)
  omega
/-- A day of a month, but for the 29th of February, comes each year. -/
theorem day_window {m d n : Int} (hn0 : 0 ≤ n) (hn : n + 2922 ≤ 2932896) (h : ∀ y, 1970 ≤ y → y ≤ 9999 → RightZ y m d) : ∃ y, RightZ y m d ∧ n < numZ y m d ∧ numZ y m d ≤ n + 2921 := by
  obtain ⟨y, y0, y1, a, b, c⟩ := year_of n hn0 (by omega)
  have hy := max_year y0 hn a
  have hr := h (y + 1) (by omega) (by omega)
  obtain ⟨p, q⟩ := num_year hr
  have c' := c (by omega)
  have e := dy_two y0
  exact ⟨y + 1, hr, by omega, by omega⟩
theorem right_day {y m d : Int} (y0 : 1970 ≤ y) (y1 : y ≤ 9999) (m1 : 1 ≤ m) (m2 : m ≤ 12) (d1 : 1 ≤ d) (_h : d ≤ 28 ∨ (m ≠ 2 ∧ d ≤ 30) ∨ (m ≠ 2 ∧ m ≠ 4 ∧ m ≠ 6 ∧ m ≠ 9 ∧ m ≠ 11 ∧ d ≤ 31)) : RightZ y m d := by
  refine ⟨y0, y1, d1, ?_⟩
  have hc : m = 1 ∨ m = 2 ∨ m = 3 ∨ m = 4 ∨ m = 5 ∨ m = 6 ∨ m = 7 ∨ m = 8 ∨ m = 9 ∨ m = 10 ∨ m = 11 ∨ m = 12 := by omega
  rcases hc with rfl | rfl | rfl | rfl | rfl | rfl | rfl | rfl | rfl | rfl | rfl | rfl
  case inr.inl =>
    have := (mlZ_in (y := y) (m := 2) (by omega) (by omega)).1
    omega
  all_goals
    simp [mlZ]
    omega
theorem leap_of {y : Int} (h4 : y % 4 = 0) (h : y % 100 ≠ 0 ∨ y % 400 = 0) : leapZ y = true := by
  rw [leapZ_iff]
  omega
theorem right_leap {y : Int} (y0 : 1970 ≤ y) (y1 : y ≤ 9999) (h : leapZ y = true) : RightZ y 2 29 := by
  refine ⟨y0, y1, by omega, ?_⟩
  simp [mlZ, h]
theorem num_leap (y : Int) : numZ y 2 29 = dyZ (y - 1970).toNat + 59 := by
  unfold numZ
  have : dmZ y ((2 : Int) - 1).toNat = 31 := by
    show dmZ y 1 = 31
    simp [dmZ, mlZ]
  rw [this]
  omega
/-- The 29th of February comes within eight years. -/
theorem leap_window {n : Int} (hn0 : 0 ≤ n) (hn : n + 2922 ≤ 2932896) : ∃ y, RightZ y 2 29 ∧ n < numZ y 2 29 ∧ numZ y 2 29 ≤ n + 2921 := by
  obtain ⟨y, y0, y1, a, b, c⟩ := year_of n hn0 (by omega)
  have hy := max_year y0 hn a
  have e0 := dy_year y y0
  have c' := c (by omega)
  have e1 := dy_year (y + 1) (by omega)
  have pick : ∀ y', y ≤ y' → y' ≤ y + 8 → y' % 4 = 0 → (y' % 100 ≠ 0 ∨ y' % 400 = 0) → n < dyZ (y' - 1970).toNat + 59 → dyZ (y' - 1970).toNat + 59 ≤ n + 2921 → ∃ y, RightZ y 2 29 ∧ n < numZ y 2 29 ∧ numZ y 2 29 ≤ n + 2921 := by
    intro y' h1 h2 h3 h4 h5 h6
    have hl := leap_of h3 h4
    exact ⟨y', right_leap (by omega) (by omega) hl, by rw [num_leap]; exact h5, by rw [num_leap]; exact h6⟩
  by_cases hl : y % 4 = 0 ∧ (y % 100 ≠ 0 ∨ y % 400 = 0) ∧ n < dyZ (y - 1970).toNat + 59
  · exact pick y (by omega) (by omega) hl.1 hl.2.1 hl.2.2 (by omega)
  · have e4 := dy_year (y + 4 - y % 4) (by omega)
    have e8 := dy_year (y + 8 - y % 4) (by omega)
    by_cases h4 : (y + 4 - y % 4) % 100 ≠ 0 ∨ (y + 4 - y % 4) % 400 = 0
    · refine pick (y + 4 - y % 4) (by omega) (by omega) (by omega) h4 ?_ ?_
      · omega
      · omega
    · obtain ⟨c0, hc0⟩ : ∃ c0 : Int, y = 100 * c0 - 4 + y % 4 := ⟨(y + 4 - y % 4) / 100, by omega⟩
      have hr : y % 4 = 0 ∨ y % 4 = 1 ∨ y % 4 = 2 ∨ y % 4 = 3 := by omega
      obtain ⟨j0, hj⟩ : ∃ j0 : Int, c0 = 4 * j0 + c0 % 4 := ⟨c0 / 4, by omega⟩
      have ht : c0 % 4 = 1 ∨ c0 % 4 = 2 ∨ c0 % 4 = 3 := by omega
      refine pick (y + 8 - y % 4) (by omega) (by omega) (by omega) (.inl (by omega)) (by omega) ?_
      have hnl : ¬ (y % 4 = 0 ∧ n < dyZ (y - 1970).toNat + 59) := fun q => hl ⟨q.1, .inl (by omega), q.2⟩
      clear pick hl h4 e4 e1 c c' hy b
      generalize dyZ (y - 1970).toNat = D0 at *
      generalize dyZ (y + 8 - y % 4 - 1970).toNat = D8 at *
      rcases hr with hr | hr | hr | hr <;> rw [hr] at hc0 e8 hnl <;> rcases ht with ht | ht | ht <;> rw [ht] at hj <;> subst hj <;> subst hc0 <;> omega
/-- Each weekday of each month comes. -/
theorem week_window {m w n : Int} (hn0 : 0 ≤ n) (hn : n + 2922 ≤ 2932896) (m1 : 1 ≤ m) (m2 : m ≤ 12) (w0 : 0 ≤ w) (w1 : w ≤ 6) : ∃ y d, RightZ y m d ∧ (numZ y m d + 4) % 7 = w ∧ n < numZ y m d ∧ numZ y m d ≤ n + 2921 := by
  obtain ⟨y, y0, y1, a, b, c⟩ := year_of n hn0 (by omega)
  have hy := max_year y0 hn a
  have c' := c (by omega)
  have e := dy_two y0
  have e2 := dy_two (y := y + 1) (by omega)
  have hd : ∀ d : Int, 1 ≤ d → d ≤ 7 → RightZ (y + 1) m d := fun d d1 d2 => right_day (by omega) (by omega) m1 m2 d1 (.inl (by omega))
  have hnum : ∀ d : Int, numZ (y + 1) m d = numZ (y + 1) m 1 + (d - 1) := fun d => by unfold numZ; omega
  have hr := num_year (hd 1 (by omega) (by omega))
  have h7 := num_year (hd 7 (by omega) (by omega))
  have hk : ∃ k : Int, 0 ≤ k ∧ k ≤ 6 ∧ (numZ (y + 1) m 1 + k + 4) % 7 = w := ⟨(w - (numZ (y + 1) m 1 + 4)) % 7, by omega, by omega, by omega⟩
  obtain ⟨k, k0, k6, hw⟩ := hk
  refine ⟨y + 1, k + 1, hd _ (by omega) (by omega), ?_, ?_, ?_⟩
  · rw [hnum, show numZ (y + 1) m 1 + (k + 1 - 1) + 4 = numZ (y + 1) m 1 + k + 4 by omega]; exact hw
  · rw [hnum]; omega
  · rw [hnum]; omega
/-- What a cron asks of a day: months, days, weekdays; whether days, or weekdays, are all. -/
structure Asks where
  mo : Int → Bool
  da : Int → Bool
  we : Int → Bool
  dw : Bool
  ww : Bool
/-- It may be. -/
structure Asks.Ok (c : Asks) : Prop where
  we : ∃ w, 0 ≤ w ∧ w ≤ 6 ∧ c.we w = true
  dw : c.dw = true → ∀ d, 1 ≤ d → d ≤ 31 → c.da d = true
  ww : c.ww = true → ∀ w, 0 ≤ w → w ≤ 6 → c.we w = true
/-- The day of the date fits. -/
def Asks.fit (c : Asks) (y m d : Int) : Bool := c.mo m && (if c.dw || c.ww then c.da d && c.we ((numZ y m d + 4) % 7) else c.da d || c.we ((numZ y m d + 4) % 7))
/-- Where one day fits at all, one does within each horizon. -/
theorem ever_window {c : Asks} (hc : c.Ok) {y0 m0 d0 : Int} (hr : RightZ y0 m0 d0) (hf : c.fit y0 m0 d0 = true) {n : Int} (hn0 : 0 ≤ n) (hn : n + 2922 ≤ 2932896) :
    ∃ y m d, RightZ y m d ∧ c.fit y m d = true ∧ n < numZ y m d ∧ numZ y m d ≤ n + 2921 := by
  unfold Asks.fit at hf
  rw [Bool.and_eq_true] at hf
  obtain ⟨hm, hd⟩ := hf
  obtain ⟨m1, m2⟩ := hr.month
  have hw7 : ∀ y m d : Int, 0 ≤ (numZ y m d + 4) % 7 ∧ (numZ y m d + 4) % 7 ≤ 6 := fun y m d => by omega
  have h31 : ∀ {y m d : Int}, RightZ y m d → 1 ≤ d ∧ d ≤ 31 := fun {y m d} h => ⟨h.2.2.1, by have := (mlZ_top y m).2; have := h.2.2.2; omega⟩
  have week : ∀ w : Int, 0 ≤ w → w ≤ 6 → c.we w = true → (c.dw = true ∨ (c.dw || c.ww) = false) → ∃ y m d, RightZ y m d ∧ c.fit y m d = true ∧ n < numZ y m d ∧ numZ y m d ≤ n + 2921 := by
    intro w w0 w1 hw hcase
    obtain ⟨y, d, h1, h2, h3, h4⟩ := week_window (m := m0) (w := w) hn0 hn m1 m2 w0 w1
    refine ⟨y, m0, d, h1, ?_, h3, h4⟩
    unfold Asks.fit
    rw [hm, h2, hw, Bool.true_and]
    rcases hcase with hdw | hno
    · rw [hdw, hc.dw hdw d (h31 h1).1 (h31 h1).2]; rfl
    · rw [hno]; simp
  cases hww : c.ww with
  | true =>
    rw [hww, Bool.or_true, if_pos rfl, Bool.and_eq_true] at hd
    have done : ∀ y d : Int, d = d0 → RightZ y m0 d → n < numZ y m0 d → numZ y m0 d ≤ n + 2921 → ∃ y m d, RightZ y m d ∧ c.fit y m d = true ∧ n < numZ y m d ∧ numZ y m d ≤ n + 2921 := by
      intro y d e h1 h2 h3
      subst e
      refine ⟨y, m0, d, h1, ?_, h2, h3⟩
      unfold Asks.fit
      rw [hm, hww, Bool.or_true, if_pos rfl, hd.1, hc.ww hww _ (hw7 _ _ _).1 (hw7 _ _ _).2]; rfl
    by_cases hleap : m0 = 2 ∧ d0 = 29
    · obtain ⟨rfl, rfl⟩ := hleap
      obtain ⟨y, h1, h2, h3⟩ := leap_window hn0 hn
      exact done y 29 rfl h1 h2 h3
    · have hday : d0 ≤ 28 ∨ (m0 ≠ 2 ∧ d0 ≤ 30) ∨ (m0 ≠ 2 ∧ m0 ≠ 4 ∧ m0 ≠ 6 ∧ m0 ≠ 9 ∧ m0 ≠ 11 ∧ d0 ≤ 31) := by
        have hlen := hr.2.2.2
        have hcm : m0 = 1 ∨ m0 = 2 ∨ m0 = 3 ∨ m0 = 4 ∨ m0 = 5 ∨ m0 = 6 ∨ m0 = 7 ∨ m0 = 8 ∨ m0 = 9 ∨ m0 = 10 ∨ m0 = 11 ∨ m0 = 12 := by omega
        rcases hcm with rfl | rfl | rfl | rfl | rfl | rfl | rfl | rfl | rfl | rfl | rfl | rfl
        case inr.inl =>
          have : mlZ y0 2 ≤ 29 := by simp [mlZ]; split <;> omega
          omega
        all_goals
          simp [mlZ] at hlen
          omega
      obtain ⟨y, h1, h2, h3⟩ := day_window (m := m0) (d := d0) hn0 hn (fun y a b => right_day a b m1 m2 hr.2.2.1 hday)
      exact done y d0 rfl h1 h2 h3
  | false =>
    cases hdw : c.dw with
    | true =>
      rw [hdw, Bool.true_or, if_pos rfl, Bool.and_eq_true] at hd
      exact week _ (hw7 _ _ _).1 (hw7 _ _ _).2 hd.2 (.inl hdw)
    | false =>
      obtain ⟨w, w0, w1, hw⟩ := hc.we
      exact week w w0 w1 hw (.inr (by rw [hdw, hww]; rfl))
end Go.Proofs.YtkimbmifabpppaaDoor
