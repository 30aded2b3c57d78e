/- Texts of this seat, one behind the other: HEver, HNext, HTimes, HDay, HIter, HStops, HFit, HSearch, HWindow, HNextP, HLift, HSomeP, HRFit, HROn, HRDays, HRNext, HRLast, HRSome, HWakes, HTurns, HTellsW, HSomeW, HOpen. -/
import Derived.Test.YthghcffibljclaaDoorR1
import Derived.Test.YthghcffibljclaaDoorR3
import Derived.Test.YthghcffibljclaaDoorR5
import Derived.Test.YthghcffibljclaaDoorRows
import Derived.Test.YthghcffibljclaaDoorTie
import Derived.Test.YthghcffibljclaaDoorCards
import Derived.ProofKit
import Derived.LaidMore
import Derived.OpenShut
import Derived.Stop.Joined
import Derived.SevenTiedAt
import Derived.Lay
import Derived.HandedShaped
import Derived.Shelf.Vars
import Derived.Lib.SmallJoins
import Derived.Deep.Strs
import Derived.Deep.Grids
import Derived.Deep.Slices
import Derived.Deep.Matrix
import Derived.Deep.Fields
/- Days that recur, plain: within each horizon of 2922 days there is each day of a month, and each weekday of a month. -/
namespace Go.Proofs.YthghcffibljclaaDoor
open D

/-- Dates from year to year. -/
theorem dy_year (y : Int) (h : 1970 ≤ y) : dyZ (y - 1970).toNat = 365 * (y - 1970) + (y - 1) / 4 - (y - 1) / 100 + (y - 1) / 400 - 477 := by
  rw [dyZ_form]
  omega
theorem num_year {y m d : Int} (h : RightZ y m d) : dyZ (y - 1970).toNat ≤ numZ y m d ∧ numZ y m d < dyZ (y - 1970).toNat + 366 := by
  obtain ⟨a, b, c, e⟩ := num_in h
  obtain ⟨m1, m2⟩ := h.month
  have h1 := dmZ_le (y := y) (show (m - 1).toNat + 1 ≤ 12 by omega)
  rw [dmZ_year] at h1
  have := (ylZ_pos y).2
  omega
/-- The year that a number lies in. -/
theorem year_of (n : Int) (h0 : 0 ≤ n) (h1 : n ≤ 2932896) : ∃ y : Int, 1970 ≤ y ∧ y ≤ 9999 ∧ dyZ (y - 1970).toNat ≤ n ∧ n < dyZ (y - 1970).toNat + 366 ∧ (y < 9999 → n < dyZ (y + 1 - 1970).toNat) := by
  obtain ⟨y, m, d, hr, hn⟩ := num_surj n.toNat (by omega)
  have hn' : numZ y m d = n := by omega
  obtain ⟨a, b⟩ := num_year hr
  obtain ⟨_, c, _, _⟩ := num_in hr
  refine ⟨y, hr.1, hr.2.1, by omega, by omega, fun hy => ?_⟩
  have e : (y - 1970).toNat + 1 = (y + 1 - 1970).toNat := by have := hr.1; omega
  rw [e] at c
  omega
theorem max_year {y : Int} {n : Int} (h : 1970 ≤ y) (hn : n + 2922 ≤ 2932896) (hy : dyZ (y - 1970).toNat ≤ n) : y + 8 ≤ 9999 := by
  apply Int.not_lt.1
  intro hlt
  have e := dy_year y h
  omega
theorem dy_two {y : Int} (h : 1970 ≤ y) : dyZ (y + 1 - 1970).toNat ≤ dyZ (y - 1970).toNat + 366 ∧ dyZ (y - 1970).toNat + 365 ≤ dyZ (y + 1 - 1970).toNat := by
  have e1 := dy_year y h
  have e2 := dy_year (y + 1) (by omega)
  omega
/-- A day of a month, but for the 29th of February, comes each year. -/
theorem day_window {m d n : Int} (hn0 : 0 ≤ n) (hn : n + 2922 ≤ 2932896) (h : ∀ y, 1970 ≤ y → y ≤ 9999 → RightZ y m d) : ∃ y, RightZ y m d ∧ n < numZ y m d ∧ numZ y m d ≤ n + 2921 := by
  obtain ⟨y, y0, y1, a, b, c⟩ := year_of n hn0 (by omega)
  have hy := max_year y0 hn a
  have hr := h (y + 1) (by omega) (by omega)
  obtain ⟨p, q⟩ := num_year hr
  have c' := c (by omega)
  have e := dy_two y0
  exact ⟨y + 1, hr, by omega, by omega⟩
theorem right_day {y m d : Int} (y0 : 1970 ≤ y) (y1 : y ≤ 9999) (m1 : 1 ≤ m) (m2 : m ≤ 12) (d1 : 1 ≤ d) (_h : d ≤ 28 ∨ (m ≠ 2 ∧ d ≤ 30) ∨ (m ≠ 2 ∧ m ≠ 4 ∧ m ≠ 6 ∧ m ≠ 9 ∧ m ≠ 11 ∧ d ≤ 31)) : RightZ y m d := by
  refine ⟨y0, y1, d1, ?_⟩
  have hc : m = 1 ∨ m = 2 ∨ m = 3 ∨ m = 4 ∨ m = 5 ∨ m = 6 ∨ m = 7 ∨ m = 8 ∨ m = 9 ∨ m = 10 ∨ m = 11 ∨ m = 12 := by omega
  rcases hc with rfl | rfl | rfl | rfl | rfl | rfl | rfl | rfl | rfl | rfl | rfl | rfl
  case inr.inl =>
    have := (mlZ_in (y := y) (m := 2) (by omega) (by omega)).1
    omega
  all_goals
    simp [mlZ]
    omega
theorem leap_of {y : Int} (h4 : y % 4 = 0) (h : y % 100 ≠ 0 ∨ y % 400 = 0) : leapZ y = true := by
  rw [leapZ_iff]
  omega
theorem right_leap {y : Int} (y0 : 1970 ≤ y) (y1 : y ≤ 9999) (h : leapZ y = true) : RightZ y 2 29 := by
  refine ⟨y0, y1, by omega, ?_⟩
  simp [mlZ, h]
theorem num_leap (y : Int) : numZ y 2 29 = dyZ (y - 1970).toNat + 59 := by
  unfold numZ
  have : dmZ y ((2 : Int) - 1).toNat = 31 := by
    show dmZ y 1 = 31
    simp [dmZ, mlZ]
  rw [this]
  omega
/-- The 29th of February comes within eight years. -/
theorem leap_window {n : Int} (hn0 : 0 ≤ n) (hn : n + 2922 ≤ 2932896) : ∃ y, RightZ y 2 29 ∧ n < numZ y 2 29 ∧ numZ y 2 29 ≤ n + 2921 := by
  obtain ⟨y, y0, y1, a, b, c⟩ := year_of n hn0 (by omega)
  have hy := max_year y0 hn a
  have e0 := dy_year y y0
  have c' := c (by omega)
  have e1 := dy_year (y + 1) (by omega)
  have pick : ∀ y', y ≤ y' → y' ≤ y + 8 → y' % 4 = 0 → (y' % 100 ≠ 0 ∨ y' % 400 = 0) → n < dyZ (y' - 1970).toNat + 59 → dyZ (y' - 1970).toNat + 59 ≤ n + 2921 → ∃ y, RightZ y 2 29 ∧ n < numZ y 2 29 ∧ numZ y 2 29 ≤ n + 2921 := by
    intro y' h1 h2 h3 h4 h5 h6
    have hl := leap_of h3 h4
    exact ⟨y', right_leap (by omega) (by omega) hl, by rw [num_leap]; exact h5, by rw [num_leap]; exact h6⟩
  by_cases hl : y % 4 = 0 ∧ (y % 100 ≠ 0 ∨ y % 400 = 0) ∧ n < dyZ (y - 1970).toNat + 59
  · exact pick y (by omega) (by omega) hl.1 hl.2.1 hl.2.2 (by omega)
  · have e4 := dy_year (y + 4 - y % 4) (by omega)
    have e8 := dy_year (y + 8 - y % 4) (by omega)
    by_cases h4 : (y + 4 - y % 4) % 100 ≠ 0 ∨ (y + 4 - y % 4) % 400 = 0
    · refine pick (y + 4 - y % 4) (by omega) (by omega) (by omega) h4 ?_ ?_
      · omega
      · omega
    · obtain ⟨c0, hc0⟩ : ∃ c0 : Int, y = 100 * c0 - 4 + y % 4 := ⟨(y + 4 - y % 4) / 100, by omega⟩
      have hr : y % 4 = 0 ∨ y % 4 = 1 ∨ y % 4 = 2 ∨ y % 4 = 3 := by omega
      obtain ⟨j0, hj⟩ : ∃ j0 : Int, c0 = 4 * j0 + c0 % 4 := ⟨c0 / 4, by omega⟩
      have ht : c0 % 4 = 1 ∨ c0 % 4 = 2 ∨ c0 % 4 = 3 := by omega
      refine pick (y + 8 - y % 4) (by omega) (by omega) (by omega) (.inl (by omega)) (by omega) ?_
      have hnl : ¬ (y % 4 = 0 ∧ n < dyZ (y - 1970).toNat + 59) := fun q => hl ⟨q.1, .inl (by omega), q.2⟩
      clear pick hl h4 e4 e1 c c' hy b
      generalize dyZ (y - 1970).toNat = D0 at *
      generalize dyZ (y + 8 - y % 4 - 1970).toNat = D8 at *
      rcases hr with hr | hr | hr | hr <;> rw [hr] at hc0 e8 hnl <;> rcases ht with ht | ht | ht <;> rw [ht] at hj <;> subst hj <;> subst hc0 <;> omega
/-- Each weekday of each month comes. -/
theorem week_window {m w n : Int} (hn0 : 0 ≤ n) (hn : n + 2922 ≤ 2932896) (m1 : 1 ≤ m) (m2 : m ≤ 12) (w0 : 0 ≤ w) (w1 : w ≤ 6) : ∃ y d, RightZ y m d ∧ (numZ y m d + 4) % 7 = w ∧ n < numZ y m d ∧ numZ y m d ≤ n + 2921 := by
  obtain ⟨y, y0, y1, a, b, c⟩ := year_of n hn0 (by omega)
  have hy := max_year y0 hn a
  have c' := c (by omega)
  have e := dy_two y0
  have e2 := dy_two (y := y + 1) (by omega)
  have hd : ∀ d : Int, 1 ≤ d → d ≤ 7 → RightZ (y + 1) m d := fun d d1 d2 => right_day (by omega) (by omega) m1 m2 d1 (.inl (by omega))
  have hnum : ∀ d : Int, numZ (y + 1) m d = numZ (y + 1) m 1 + (d - 1) := fun d => by unfold numZ; omega
  have hr := num_year (hd 1 (by omega) (by omega))
  have h7 := num_year (hd 7 (by omega) (by omega))
  have hk : ∃ k : Int, 0 ≤ k ∧ k ≤ 6 ∧ (numZ (y + 1) m 1 + k + 4) % 7 = w := ⟨(w - (numZ (y + 1) m 1 + 4)) % 7, by omega, by omega, by omega⟩
  obtain ⟨k, k0, k6, hw⟩ := hk
  refine ⟨y + 1, k + 1, hd _ (by omega) (by omega), ?_, ?_, ?_⟩
  · rw [hnum, show numZ (y + 1) m 1 + (k + 1 - 1) + 4 = numZ (y + 1) m 1 + k + 4 by omega]; exact hw
  · rw [hnum]; omega
  · rw [hnum]; omega
/-- What a cron asks of a day: months, days, weekdays; whether days, or weekdays, are all. -/
structure Asks where
  mo : Int → Bool
  da : Int → Bool
  we : Int → Bool
  dw : Bool
  ww : Bool
/-- It may be. -/
structure Asks.Ok (c : Asks) : Prop where
  we : ∃ w, 0 ≤ w ∧ w ≤ 6 ∧ c.we w = true
  dw : c.dw = true → ∀ d, 1 ≤ d → d ≤ 31 → c.da d = true
  ww : c.ww = true → ∀ w, 0 ≤ w → w ≤ 6 → c.we w = true
/-- The day of the date fits. -/
def Asks.fit (c : Asks) (y m d : Int) : Bool := c.mo m && (if c.dw || c.ww then c.da d && c.we ((numZ y m d + 4) % 7) else c.da d || c.we ((numZ y m d + 4) % 7))
/-- Where one day fits at all, one does within each horizon. -/
theorem ever_window {c : Asks} (hc : c.Ok) {y0 m0 d0 : Int} (hr : RightZ y0 m0 d0) (hf : c.fit y0 m0 d0 = true) {n : Int} (hn0 : 0 ≤ n) (hn : n + 2922 ≤ 2932896) :
    ∃ y m d, RightZ y m d ∧ c.fit y m d = true ∧ n < numZ y m d ∧ numZ y m d ≤ n + 2921 := by
  unfold Asks.fit at hf
  rw [Bool.and_eq_true] at hf
  obtain ⟨hm, hd⟩ := hf
  obtain ⟨m1, m2⟩ := hr.month
  have hw7 : ∀ y m d : Int, 0 ≤ (numZ y m d + 4) % 7 ∧ (numZ y m d + 4) % 7 ≤ 6 := fun y m d => by omega
  have h31 : ∀ {y m d : Int}, RightZ y m d → 1 ≤ d ∧ d ≤ 31 := fun {y m d} h => ⟨h.2.2.1, by have := (mlZ_top y m).2; have := h.2.2.2; omega⟩
  have week : ∀ w : Int, 0 ≤ w → w ≤ 6 → c.we w = true → (c.dw = true ∨ (c.dw || c.ww) = false) → ∃ y m d, RightZ y m d ∧ c.fit y m d = true ∧ n < numZ y m d ∧ numZ y m d ≤ n + 2921 := by
    intro w w0 w1 hw hcase
    obtain ⟨y, d, h1, h2, h3, h4⟩ := week_window (m := m0) (w := w) hn0 hn m1 m2 w0 w1
    refine ⟨y, m0, d, h1, ?_, h3, h4⟩
    unfold Asks.fit
    rw [hm, h2, hw, Bool.true_and]
    rcases hcase with hdw | hno
    · rw [hdw, hc.dw hdw d (h31 h1).1 (h31 h1).2]; rfl
    · rw [hno]; simp
  cases hww : c.ww with
  | true =>
    rw [hww, Bool.or_true, if_pos rfl, Bool.and_eq_true] at hd
    have done : ∀ y d : Int, d = d0 → RightZ y m0 d → n < numZ y m0 d → numZ y m0 d ≤ n + 2921 → ∃ y m d, RightZ y m d ∧ c.fit y m d = true ∧ n < numZ y m d ∧ numZ y m d ≤ n + 2921 := by
      intro y d e h1 h2 h3
      subst e
      refine ⟨y, m0, d, h1, ?_, h2, h3⟩
      unfold Asks.fit
      rw [hm, hww, Bool.or_true, if_pos rfl, hd.1, hc.ww hww _ (hw7 _ _ _).1 (hw7 _ _ _).2]; rfl
    by_cases hleap : m0 = 2 ∧ d0 = 29
    · obtain ⟨rfl, rfl⟩ := hleap
      obtain ⟨y, h1, h2, h3⟩ := leap_window hn0 hn
      exact done y 29 rfl h1 h2 h3
    · have hday : d0 ≤ 28 ∨ (m0 ≠ 2 ∧ d0 ≤ 30) ∨ (m0 ≠ 2 ∧ m0 ≠ 4 ∧ m0 ≠ 6 ∧ m0 ≠ 9 ∧ m0 ≠ 11 ∧ d0 ≤ 31) := by
        have hlen := hr.2.2.2
        have hcm : m0 = 1 ∨ m0 = 2 ∨ m0 = 3 ∨ m0 = 4 ∨ m0 = 5 ∨ m0 = 6 ∨ m0 = 7 ∨ m0 = 8 ∨ m0 = 9 ∨ m0 = 10 ∨ m0 = 11 ∨ m0 = 12 := by omega
        rcases hcm with rfl | rfl | rfl | rfl | rfl | rfl | rfl | rfl | rfl | rfl | rfl | rfl
        case inr.inl =>
          have : mlZ y0 2 ≤ 29 := by simp [mlZ]; split <;> omega
          omega
        all_goals
          simp [mlZ] at hlen
          omega
      obtain ⟨y, h1, h2, h3⟩ := day_window (m := m0) (d := d0) hn0 hn (fun y a b => right_day a b m1 m2 hr.2.2.1 hday)
      exact done y d0 rfl h1 h2 h3
  | false =>
    cases hdw : c.dw with
    | true =>
      rw [hdw, Bool.true_or, if_pos rfl, Bool.and_eq_true] at hd
      exact week _ (hw7 _ _ _).1 (hw7 _ _ _).2 hd.2 (.inl hdw)
    | false =>
      obtain ⟨w, w0, w1, hw⟩ := hc.we
      exact week w w0 w1 hw (.inr (by rw [hdw, hww]; rfl))
end Go.Proofs.YthghcffibljclaaDoor
/- Next and last times, plain: of any set of times. -/
namespace Go.Proofs.YthghcffibljclaaDoor

/-- The day of a time, as far as there is one. -/
def dayOf (t : Int) : Int := if t < 0 then 0 else if 253402300799 < t then 2932896 else t / 86400
/-- A set of times. -/
def TimesOf (T : Int → Prop) : Prop := ∀ u, T u → 0 ≤ u ∧ u ≤ 253402300799
def IsNext (T : Int → Prop) (a t : Int) : Prop := T t ∧ a < t ∧ t / 86400 ≤ dayOf a + 2922 ∧ ∀ u, T u → a < u → t ≤ u
def NoNext (T : Int → Prop) (a : Int) : Prop := ∀ u, T u → a < u → dayOf a + 2922 < u / 86400
def IsLast (T : Int → Prop) (b t : Int) : Prop := T t ∧ t ≤ b ∧ dayOf b - 2922 ≤ t / 86400 ∧ ∀ u, T u → u ≤ b → u ≤ t
def NoLast (T : Int → Prop) (b : Int) : Prop := ∀ u, T u → u ≤ b → u / 86400 < dayOf b - 2922
theorem next_one {T : Int → Prop} {a t t' : Int} (h : IsNext T a t) (h' : IsNext T a t') : t = t' := by
  have h1 := h.2.2.2 t' h'.1 h'.2.1
  have h2 := h'.2.2.2 t h.1 h.2.1
  omega
theorem next_none {T : Int → Prop} {a t : Int} (h : IsNext T a t) (h' : NoNext T a) : False := by
  have h1 := h' t h.1 h.2.1
  have h2 := h.2.2.1
  omega
theorem last_one {T : Int → Prop} {a t t' : Int} (h : IsLast T a t) (h' : IsLast T a t') : t = t' := by
  have h1 := h.2.2.2 t' h'.1 h'.2.1
  have h2 := h'.2.2.2 t h.1 h.2.1
  omega
theorem last_none {T : Int → Prop} {a t : Int} (h : IsLast T a t) (h' : NoLast T a) : False := by
  have h1 := h' t h.1 h.2.1
  have h2 := h.2.2.1
  omega
theorem dayOf_time {t : Int} (h0 : 0 ≤ t) (h1 : t ≤ 253402300799) : dayOf t = t / 86400 := by
  unfold dayOf
  rw [if_neg (by omega), if_neg (by omega)]
/-- Last of Next is it, Next of what is one less is it again. -/
theorem next_turns {T : Int → Prop} (hT : TimesOf T) {a n : Int} (h : IsNext T a n) : IsLast T n n ∧ IsNext T (n - 1) n := by
  obtain ⟨h0, h1⟩ := hT n h.1
  have hd := dayOf_time h0 h1
  refine ⟨⟨h.1, by omega, by omega, fun u _ hu => hu⟩, h.1, by omega, ?_, fun u _ hu => by omega⟩
  unfold dayOf
  split
  · omega
  · split <;> omega
theorem last_turns {T : Int → Prop} (hT : TimesOf T) {b l : Int} (h : IsLast T b l) : IsNext T (l - 1) l ∧ IsLast T l l := by
  obtain ⟨h0, h1⟩ := hT l h.1
  have hd := dayOf_time h0 h1
  refine ⟨⟨h.1, by omega, ?_, fun u _ hu => by omega⟩, h.1, by omega, by omega, fun u _ hu => hu⟩
  unfold dayOf
  split
  · omega
  · split <;> omega
/-- Within each horizon there is one, if there is one at all. -/
def Window (T : Int → Prop) : Prop := (∃ u, T u) → ∀ n : Int, 0 ≤ n → n + 2922 ≤ 2932896 → ∃ u, T u ∧ n < u / 86400 ∧ u / 86400 ≤ n + 2921
/-- Where Next finds none, there is none behind. -/
theorem none_behind {T : Int → Prop} (hT : TimesOf T) (hw : Window T) {a : Int} (h : NoNext T a) (u : Int) (hu : T u) : u ≤ a := by
  apply Int.not_lt.1
  intro hlt
  have h1 := h u hu hlt
  obtain ⟨u0, u1⟩ := hT u hu
  have hday : u / 86400 ≤ 2932896 := by omega
  have hd0 : 0 ≤ dayOf a := by
    unfold dayOf
    split
    · omega
    · split <;> omega
  obtain ⟨x, hx, x1, x2⟩ := hw ⟨u, hu⟩ (dayOf a) hd0 (by omega)
  obtain ⟨x0, x3⟩ := hT x hx
  have hax : a < x := by
    unfold dayOf at x1
    split at x1
    · omega
    · split at x1 <;> omega
  have := h x hx hax
  omega
/-- NextEver: ahead and behind. -/
theorem ever_next {T : Int → Prop} (hw : Window T) {u : Int} (hu : T u) {t : Int} (h0 : 0 ≤ t) (h1 : t < (2932896 - 2922) * 86400) : ¬ NoNext T t ∧ ¬ NoLast T (t + 2922 * 86400) := by
  have hd := dayOf_time h0 (by omega)
  have hd2 := dayOf_time (t := t + 2922 * 86400) (by omega) (by omega)
  constructor
  · intro h
    obtain ⟨x, hx, x1, x2⟩ := hw ⟨u, hu⟩ (t / 86400) (by omega) (by omega)
    have := h x hx (by omega)
    omega
  · intro h
    by_cases hz : t / 86400 = 0
    · obtain ⟨x, hx, x1, x2⟩ := hw ⟨u, hu⟩ 0 (by omega) (by omega)
      have := h x hx (by omega)
      omega
    · obtain ⟨x, hx, x1, x2⟩ := hw ⟨u, hu⟩ (t / 86400 - 1) (by omega) (by omega)
      have := h x hx (by omega)
      omega
theorem ever_first {T : Int → Prop} (hw : Window T) {u : Int} (hu : T u) : ∃ x, T x ∧ x / 86400 ≤ 2922 := by
  obtain ⟨x, hx, _, h⟩ := hw ⟨u, hu⟩ 0 (by omega) (by omega)
  exact ⟨x, hx, by omega⟩
/-! the first so many of a span -/
def IsMin (T : Int → Prop) (a t : Int) : Prop := T t ∧ a < t ∧ ∀ u, T u → a < u → t ≤ u
def NoIn (T : Int → Prop) (a b : Int) : Prop := ∀ u, T u → a < u → b < u
def Chain (T : Int → Prop) : Int → Int → Nat → List Int → Prop
  | _, _, 0, l => l = []
  | a, b, n + 1, l => (NoIn T a b ∧ l = []) ∨ ∃ t r, IsMin T a t ∧ t ≤ b ∧ l = t :: r ∧ Chain T t b n r
theorem chain_one {T : Int → Prop} : ∀ (n : Nat) (a b : Int) (l r : List Int), Chain T a b n l → Chain T a b n r → l = r
  | 0, _, _, _, _, h, h' => by rw [Chain] at h h'; rw [h, h']
  | n + 1, a, b, l, r, h, h' => by
    rw [Chain] at h h'
    rcases h with ⟨h, rfl⟩ | ⟨t, s, ht, hb, rfl, h⟩
    · rcases h' with ⟨_, rfl⟩ | ⟨t, s, ht, hb, rfl, _⟩
      · rfl
      · have := h t ht.1 ht.2.1; omega
    · rcases h' with ⟨h', rfl⟩ | ⟨t', s', ht', hb', rfl, h'⟩
      · have := h' t ht.1 ht.2.1; omega
      · have e : t = t' := by
          have h1 := ht.2.2 t' ht'.1 ht'.2.1
          have h2 := ht'.2.2 t ht.1 ht.2.1
          omega
        subst e
        rw [chain_one n t b s s' h h']
theorem chain_len {T : Int → Prop} : ∀ (n : Nat) (a b : Int) (l : List Int), Chain T a b n l → l.length ≤ n
  | 0, _, _, l, h => by rw [Chain] at h; rw [h]; simp
  | n + 1, a, b, l, h => by
    rw [Chain] at h
    rcases h with ⟨_, rfl⟩ | ⟨t, s, _, _, rfl, h⟩
    · simp
    · have := chain_len n t b s h; simp; omega
theorem chain_from {T : Int → Prop} {a b c : Int} (hab : a ≤ b) (h : NoIn T a b) : ∀ (n : Nat) (l : List Int), Chain T b c n l → Chain T a c n l
  | 0, l, hl => hl
  | n + 1, l, hl => by
    rw [Chain] at hl ⊢
    rcases hl with ⟨hn, rfl⟩ | ⟨t, s, ht, hc, rfl, hs⟩
    · left; exact ⟨fun u hu ha => hn u hu (h u hu ha), rfl⟩
    · right
      exact ⟨t, s, ⟨ht.1, by have := ht.2.1; omega, fun u hu ha => ht.2.2 u hu (h u hu ha)⟩, hc, rfl, hs⟩
/-- Two spans, one behind the other. -/
theorem chain_append {T : Int → Prop} : ∀ (n : Nat) (a b c : Int) (l r : List Int), a ≤ b → b ≤ c → Chain T a b n l → Chain T b c (n - l.length) r → Chain T a c n (l ++ r)
  | 0, a, b, c, l, r, _, _, h, h' => by
    rw [Chain] at h
    subst h
    simp at h'
    rw [Chain] at h' ⊢
    simp [h']
  | n + 1, a, b, c, l, r, hab, hbc, h, h' => by
    rw [Chain] at h
    rcases h with ⟨hn, rfl⟩ | ⟨t, s, ht, hb, rfl, h⟩
    · simp at h'
      simpa using chain_from hab hn (n + 1) r h'
    · rw [Chain, List.cons_append]
      right
      refine ⟨t, s ++ r, ht, by omega, rfl, ?_⟩
      rw [show n + 1 - (t :: s).length = n - s.length by simp] at h'
      exact chain_append n t b c s r hb hbc h h'
/-- From one to the next one by Next: the first so many. -/
theorem chain_next {T : Int → Prop} {a b t : Int} {n : Nat} {r : List Int} (h : IsNext T a t) (hb : t ≤ b) (hr : Chain T t b n r) : Chain T a b (n + 1) (t :: r) := by
  rw [Chain]
  exact .inr ⟨t, r, ⟨h.1, h.2.1, h.2.2.2⟩, hb, rfl, hr⟩
theorem chain_past {T : Int → Prop} {a b t : Int} {n : Nat} (h : IsNext T a t) (hb : b < t) : Chain T a b (n + 1) [] := by
  rw [Chain]
  exact .inl ⟨fun u hu ha => by have := h.2.2.2 u hu ha; omega, rfl⟩
theorem chain_stop {T : Int → Prop} (hT : TimesOf T) (hw : Window T) {a b : Int} {n : Nat} (h : NoNext T a) : Chain T a b (n + 1) [] := by
  rw [Chain]
  exact .inl ⟨fun u hu ha => by have := none_behind hT hw h u hu; omega, rfl⟩
end Go.Proofs.YthghcffibljclaaDoor
/- The times of a cron, plain: its days, the times of a day, rising. -/
namespace Go.Proofs.YthghcffibljclaaDoor

/-- The days that fit. -/
def fitN (L : List (BitVec 64)) (n : Int) : Prop := ∃ y m d : Int, D.RightZ y m d ∧ D.numZ y m d = n ∧ fitD L y m d = true
theorem fitN_is {L : List (BitVec 64)} {y m d : Int} (h : D.RightZ y m d) : fitN L (D.numZ y m d) ↔ fitD L y m d = true := by
  constructor
  · rintro ⟨y', m', d', h', hn, hf⟩
    obtain ⟨rfl, rfl, rfl⟩ := D.num_inj h' h hn
    exact hf
  · exact fun hf => ⟨y, m, d, h, rfl, hf⟩
/-- The times of a day, by hours and minutes. -/
def onW (hs ms : List Int) (n : Int) : List Int := hs.flatMap fun h => ms.map fun m => n * 86400 + h * 3600 + m * 60
def ints (x : BitVec 64) : List Int := (elems x).map fun k : Nat => (k : Int)
def hourL (L : List (BitVec 64)) : List Int := ints (L.getD 1 0#64)
def minL (L : List (BitVec 64)) : List Int := ints (L.getD 0 0#64)
def dayL (L : List (BitVec 64)) (n : Int) : List Int := onW (hourL L) (minL L) n
theorem mem_onW {hs ms : List Int} {n u : Int} : u ∈ onW hs ms n ↔ ∃ h ∈ hs, ∃ m ∈ ms, u = n * 86400 + h * 3600 + m * 60 := by
  unfold onW
  rw [List.mem_flatMap]
  constructor
  · rintro ⟨h, hh, hu⟩
    obtain ⟨m, hm, rfl⟩ := List.mem_map.1 hu
    exact ⟨h, hh, m, hm, rfl⟩
  · rintro ⟨h, hh, m, hm, rfl⟩
    exact ⟨h, hh, List.mem_map.2 ⟨m, hm, rfl⟩⟩
theorem onW_rev (hs ms : List Int) (n : Int) : onW hs.reverse ms.reverse n = (onW hs ms n).reverse := by
  unfold onW
  rw [List.reverse_flatMap]
  congr 1
  funext h
  simp
theorem ints_sorted (x : BitVec 64) : (ints x).Pairwise (· < ·) := by
  unfold ints
  rw [List.pairwise_map]
  exact (elems_sorted x).imp (by intro a b h; omega)
theorem mem_ints {x : BitVec 64} {k : Int} : k ∈ ints x ↔ hasB x k = true := by
  unfold ints
  rw [List.mem_map]
  constructor
  · rintro ⟨i, hi, rfl⟩
    rw [hasB_nat]; exact mem_elems.1 hi
  · intro h
    unfold hasB at h
    rw [Bool.and_eq_true, decide_eq_true_iff] at h
    exact ⟨k.toNat, mem_elems.2 h.2, by omega⟩
theorem ints_in {L : List (BitVec 64)} (hk : crB L = true) {k : Nat} (h5 : k < 5) {i : Int} (h : i ∈ ints (L.getD k 0#64)) : (loK k : Int) ≤ i ∧ i ≤ hiK k := by
  have hf := ((fieldB_iff _ _).1 (crB_at hk h5)).2
  unfold ints at h
  obtain ⟨j, hj, rfl⟩ := List.mem_map.1 h
  have := hf j (mem_elems.1 hj)
  omega
theorem ints_some {L : List (BitVec 64)} (hk : crB L = true) {k : Nat} (h5 : k < 5) : ∃ i, i ∈ ints (L.getD k 0#64) := by
  have hf := ((fieldB_iff _ _).1 (crB_at hk h5)).1
  generalize L.getD k 0#64 = x at *
  cases he : (elems x)[0]? with
  | none => exact absurd (elems_nil he) hf
  | some j => exact ⟨(j : Int), List.mem_map.2 ⟨j, List.mem_of_getElem? he, rfl⟩⟩
theorem hour_in {L : List (BitVec 64)} (hk : crB L = true) {h : Int} (hh : h ∈ hourL L) : 0 ≤ h ∧ h ≤ 23 := by
  have := ints_in hk (k := 1) (by omega) hh
  simpa [loK, hiK] using this
theorem min_in {L : List (BitVec 64)} (hk : crB L = true) {m : Int} (hm : m ∈ minL L) : 0 ≤ m ∧ m ≤ 59 := by
  have := ints_in hk (k := 0) (by omega) hm
  simpa [loK, hiK] using this
theorem dayL_in {L : List (BitVec 64)} (hk : crB L = true) {n u : Int} (hu : u ∈ dayL L n) : u / 86400 = n := by
  obtain ⟨h, hh, m, hm, rfl⟩ := mem_onW.1 hu
  have := hour_in hk hh
  have := min_in hk hm
  omega
theorem dayL_some {L : List (BitVec 64)} (hk : crB L = true) (n : Int) : ∃ u, u ∈ dayL L n := by
  obtain ⟨h, hh⟩ := ints_some hk (k := 1) (by omega)
  obtain ⟨m, hm⟩ := ints_some hk (k := 0) (by omega)
  exact ⟨_, mem_onW.2 ⟨h, hh, m, hm, rfl⟩⟩
theorem dayL_sorted {L : List (BitVec 64)} (hk : crB L = true) (n : Int) : (dayL L n).Pairwise (· < ·) := by
  unfold dayL onW
  rw [List.pairwise_flatMap]
  constructor
  · intro h _
    rw [List.pairwise_map]
    exact (ints_sorted _).imp (by intro a b h; omega)
  · refine (ints_sorted (L.getD 1 0#64)).imp_of_mem ?_
    intro a b _ _ hab x hx y hy
    obtain ⟨m, hm, rfl⟩ := List.mem_map.1 hx
    obtain ⟨m', hm', rfl⟩ := List.mem_map.1 hy
    have := min_in hk hm
    have := min_in hk hm'
    omega
theorem ints_64 (x : BitVec 64) : (ints x).length ≤ 64 := by unfold ints; rw [List.length_map]; rw [pop_eq]; exact pop_le x
/-- The cron's times. -/
def TC (L : List (BitVec 64)) (u : Int) : Prop := crB L = true ∧ D.TimeZ u ∧ fitN L (u / 86400) ∧ u ∈ dayL L (u / 86400)
theorem TC_times (L : List (BitVec 64)) : TimesOf (TC L) := fun _ h => h.2.1
/-- A day there is, that fits. -/
def DayOk (L : List (BitVec 64)) (n : Int) : Prop := 0 ≤ n ∧ n ≤ 2932896 ∧ fitN L n
theorem DayOk.times {L : List (BitVec 64)} (hk : crB L = true) {n : Int} (h : DayOk L n) {u : Int} (hu : u ∈ dayL L n) : TC L u := by
  have hn := dayL_in hk hu
  have hin : n * 86400 ≤ u ∧ u ≤ n * 86400 + 86399 := by omega
  refine ⟨hk, ⟨by have := h.1; omega, by have := h.2.1; omega⟩, by rw [hn]; exact h.2.2, by rw [hn]; exact hu⟩
theorem TC.day {L : List (BitVec 64)} {u : Int} (h : TC L u) : DayOk L (u / 86400) := by
  obtain ⟨_, ⟨h0, h1⟩, hf, _⟩ := h
  exact ⟨by omega, by omega, hf⟩
theorem dayOf_in (t : Int) : 0 ≤ dayOf t ∧ dayOf t ≤ 2932896 := by
  unfold dayOf
  split
  · omega
  · split <;> omega
/-- None of so many days has a time that is sought. -/
def NoneTo (L : List (BitVec 64)) (first way : Int) (P : Int → Prop) (k : Nat) : Prop := ∀ j : Nat, j < k → DayOk L (first + way * j) → ∀ u ∈ dayL L (first + way * j), ¬ P u
/-- The day's times, in the order of the way. -/
def wayL (way : Int) (l : List Int) : List Int := if way = -1 then l.reverse else l
/-- The first that is sought. -/
def Hit (L : List (BitVec 64)) (first way : Int) (P : Int → Prop) (k : Nat) (t : Int) : Prop :=
  DayOk L (first + way * k) ∧ P t ∧ ∃ pre post, wayL way (dayL L (first + way * k)) = pre ++ t :: post ∧ ∀ x ∈ pre, ¬ P x
theorem NoneTo.zero {L : List (BitVec 64)} {first way : Int} {P : Int → Prop} : NoneTo L first way P 0 := fun j hj => absurd hj (by omega)
theorem NoneTo.succ {L : List (BitVec 64)} {first way : Int} {P : Int → Prop} {k : Nat} (h : NoneTo L first way P k) (hk : DayOk L (first + way * k) → ∀ u ∈ dayL L (first + way * k), ¬ P u) : NoneTo L first way P (k + 1) := by
  intro j hj
  by_cases e : j = k
  · subst e; exact hk
  · exact h j (by omega)
theorem mem_wayL {way : Int} {l : List Int} {u : Int} : u ∈ wayL way l ↔ u ∈ l := by unfold wayL; split <;> simp
theorem next_hit {L : List (BitVec 64)} (hk : crB L = true) {a t : Int} {k : Nat} (hk2 : k ≤ 2922) (hn : NoneTo L (dayOf a) 1 (fun u => a < u) k) (h : Hit L (dayOf a) 1 (fun u => a < u) k t) : IsNext (TC L) a t := by
  obtain ⟨hd, hp, pre, post, he, hpre⟩ := h
  have he' : dayL L (dayOf a + 1 * k) = pre ++ t :: post := by simpa [wayL] using he
  have hmem : t ∈ dayL L (dayOf a + 1 * k) := by rw [he']; simp
  have hday := dayL_in hk hmem
  refine ⟨hd.times hk hmem, hp, by omega, fun u hu hau => ?_⟩
  have hud := hu.day
  have hz := dayOf_in a
  have hge : dayOf a ≤ u / 86400 := by
    obtain ⟨_, ⟨u0, u1⟩, _⟩ := hu
    unfold dayOf
    split
    · omega
    · split <;> omega
  obtain ⟨j, hj⟩ : ∃ j : Nat, u / 86400 = dayOf a + 1 * (j : Int) := ⟨(u / 86400 - dayOf a).toNat, by omega⟩
  rcases Nat.lt_trichotomy j k with h1 | h1 | h1
  · exact absurd hau (hn j h1 (hj ▸ hud) u (hj ▸ hu.2.2.2))
  · subst h1
    have hm : u ∈ dayL L (dayOf a + 1 * (j : Int)) := hj ▸ hu.2.2.2
    rw [he'] at hm
    have hs := dayL_sorted hk (dayOf a + 1 * (j : Int))
    rw [he', List.pairwise_append] at hs
    rcases List.mem_append.1 hm with hm | hm
    · exact absurd hau (hpre u hm)
    · rcases List.mem_cons.1 hm with rfl | hm
      · exact Int.le_refl _
      · exact Int.le_of_lt (List.rel_of_pairwise_cons hs.2.1 hm)
  · omega
theorem next_miss {L : List (BitVec 64)} {a : Int} (hn : NoneTo L (dayOf a) 1 (fun u => a < u) 2923) : NoNext (TC L) a := by
  intro u hu hau
  apply Int.not_le.1
  intro hle
  have hge : dayOf a ≤ u / 86400 := by
    obtain ⟨_, ⟨u0, u1⟩, _⟩ := hu
    unfold dayOf
    split
    · omega
    · split <;> omega
  obtain ⟨j, hj⟩ : ∃ j : Nat, u / 86400 = dayOf a + 1 * (j : Int) := ⟨(u / 86400 - dayOf a).toNat, by omega⟩
  exact hn j (by omega) (hj ▸ hu.day) u (hj ▸ hu.2.2.2) hau
theorem last_hit {L : List (BitVec 64)} (hk : crB L = true) {b t : Int} {k : Nat} (hk2 : k ≤ 2922) (hn : NoneTo L (dayOf b) (-1) (fun u => u ≤ b) k) (h : Hit L (dayOf b) (-1) (fun u => u ≤ b) k t) : IsLast (TC L) b t := by
  obtain ⟨hd, hp, pre, post, he, hpre⟩ := h
  have he' : (dayL L (dayOf b + -1 * k)).reverse = pre ++ t :: post := by simpa [wayL] using he
  have hmem : t ∈ dayL L (dayOf b + -1 * k) := by rw [← List.mem_reverse, he']; simp
  have hday := dayL_in hk hmem
  refine ⟨hd.times hk hmem, hp, by omega, fun u hu hub => ?_⟩
  have hud := hu.day
  have hge : u / 86400 ≤ dayOf b := by
    obtain ⟨_, ⟨u0, u1⟩, _⟩ := hu
    unfold dayOf
    split
    · omega
    · split <;> omega
  obtain ⟨j, hj⟩ : ∃ j : Nat, u / 86400 = dayOf b + -1 * (j : Int) := ⟨(dayOf b - u / 86400).toNat, by omega⟩
  rcases Nat.lt_trichotomy j k with h1 | h1 | h1
  · exact absurd hub (hn j h1 (hj ▸ hud) u (hj ▸ hu.2.2.2))
  · subst h1
    have hm : u ∈ (dayL L (dayOf b + -1 * (j : Int))).reverse := by rw [List.mem_reverse]; exact hj ▸ hu.2.2.2
    rw [he'] at hm
    have hs := List.pairwise_reverse.2 (dayL_sorted hk (dayOf b + -1 * (j : Int)))
    rw [he', List.pairwise_append] at hs
    rcases List.mem_append.1 hm with hm | hm
    · exact absurd hub (hpre u hm)
    · rcases List.mem_cons.1 hm with rfl | hm
      · exact Int.le_refl _
      · exact Int.le_of_lt (List.rel_of_pairwise_cons hs.2.1 hm)
  · omega
theorem last_miss {L : List (BitVec 64)} {b : Int} (hn : NoneTo L (dayOf b) (-1) (fun u => u ≤ b) 2923) : NoLast (TC L) b := by
  intro u hu hub
  apply Int.not_le.1
  intro hle
  have hge : u / 86400 ≤ dayOf b := by
    obtain ⟨_, ⟨u0, u1⟩, _⟩ := hu
    unfold dayOf
    split
    · omega
    · split <;> omega
  obtain ⟨j, hj⟩ : ∃ j : Nat, u / 86400 = dayOf b + -1 * (j : Int) := ⟨(dayOf b - u / 86400).toNat, by omega⟩
  exact hn j (by omega) (hj ▸ hu.day) u (hj ▸ hu.2.2.2) hub
end Go.Proofs.YthghcffibljclaaDoor
/- The day of a time; the functions that tell what is sought: walked, of program and document. -/
namespace Go.Proofs.YthghcffibljclaaDoor
open Go.RowKit

set_option maxRecDepth 100000 in
theorem dayOf_any (t : Int) (w : World) :
    Calls Tryd.prog 65 #[.int .i64 t] w fun e w' => e = .returned (.int .i64 (dayOf t)) ∧ w' = w := by
  by_cases h0 : t < 0
  · have e : dayOf t = 0 := by unfold dayOf; rw [if_pos h0]
    rw [e]
    go_enter Tryd.func65, Tryd.ntmps65
    go_wp2_with fail
    go_ret
    refine ⟨?_, rfl⟩
    first | rfl | (show Ending.returned (Value.int .i64 (min (max t 0) 253402300799 / 86400)) = _; rw [show min (max t 0) 253402300799 / 86400 = 0 by omega])
  · by_cases h1 : 253402300799 < t
    · have e : dayOf t = 2932896 := by unfold dayOf; rw [if_neg h0, if_pos h1]
      rw [e]
      go_enter Tryd.func65, Tryd.ntmps65
      go_wp2_with fail
      go_ret
      refine ⟨?_, rfl⟩
      first | rfl | (show Ending.returned (Value.int .i64 (min (max t 0) 253402300799 / 86400)) = _; rw [show min (max t 0) 253402300799 / 86400 = 2932896 by omega])
    · have e : dayOf t = t / 86400 := by unfold dayOf; rw [if_neg h0, if_neg h1]
      have e2 : t.tdiv 86400 = t / 86400 := Int.tdiv_eq_ediv_of_nonneg (by omega)
      rw [e]
      have hb : 0 ≤ t / 86400 ∧ t / 86400 ≤ 2932896 := by omega
      obtain ⟨d, hd⟩ : ∃ d, d = t / 86400 := ⟨_, rfl⟩
      have HD := Lib.hid hd
      rw [← hd] at hb e2 ⊢
      clear hd
      obtain ⟨h2, h3⟩ := hb
      go_enter Tryd.func65, Tryd.ntmps65
      go_wp2_with fail
      go_ret
      refine ⟨?_, rfl⟩
      have hd := HD.out
      first | rfl | (show Ending.returned (Value.int .i64 (min (max t 0) 253402300799 / 86400)) = _; rw [show min (max t 0) 253402300799 / 86400 = d by omega])
theorem sought_next (u a : Int) (b : Nat) (w : World) (hb : w.cell? ⟨b, 0, none⟩ = some (.int .i64 a)) :
    Calls Tryd.prog 60 #[.int .i64 u, .pointer (some ⟨b, 0, none⟩)] w fun e w' => e = .returned (.bool (decide (a < u))) ∧ w' = w := by
  go_enter Tryd.func60, Tryd.ntmps60
  go_wp2_with fail
  go_ret
  exact ⟨rfl, rfl⟩
theorem sought_last (u a : Int) (b : Nat) (w : World) (hb : w.cell? ⟨b, 0, none⟩ = some (.int .i64 a)) :
    Calls Tryd.prog 61 #[.int .i64 u, .pointer (some ⟨b, 0, none⟩)] w fun e w' => e = .returned (.bool (decide (u ≤ a))) ∧ w' = w := by
  go_enter Tryd.func61, Tryd.ntmps61
  go_wp2_with fail
  go_ret
  exact ⟨rfl, rfl⟩
theorem fitting_any (a b c d e : BitVec 64) (w : World) :
    Calls Tryd.prog 66 #[cronV [a, b, c, d, e]] w fun x w' => x = .returned (.func (.func 69) #[] #[.pointer (some ⟨w.heap.size, 0, none⟩)]) ∧ w' = w.alloc (.cells #[.int .u64 (U a), .int .u64 (U b), .int .u64 (U c), .int .u64 (U d), .int .u64 (U e)] 26) := by
  rw [cronV_five]
  unfold fiveV
  go_enter Tryd.func66, Tryd.ntmps66
  go_wp2_with fail
  go_ret
  exact ⟨rfl, rfl⟩
end Go.Proofs.YthghcffibljclaaDoor
/- The times of a day, told one by one: timesOf, walked, of the program. -/
namespace Go.Proofs.YthghcffibljclaaDoor
open Go.RowKit

/-- A slice of ints that reads l. -/
def ArrT (w : World) (A : Option Addr) (n : Nat) (l : List Int) : Prop := l.length = n ∧ ∀ (i : Nat) (x : Int), l[i]? = some x → ∃ b off, A = some ⟨b, off, none⟩ ∧ b < w.heap.size ∧ w.cell? ⟨b, off + i, none⟩ = some (.int .i64 x)
theorem ArrT.on {w w' : World} {A : Option Addr} {n : Nat} {l : List Int} (h : ArrT w A n l) (hb : Below w.heap.size w w') : ArrT w' A n l :=
  ⟨h.1, fun i x hx => by
    obtain ⟨b, off, rfl, hlt, hc⟩ := h.2 i x hx
    exact ⟨b, off, rfl, Nat.lt_of_lt_of_le hlt hb.size, (hb.cell (p := ⟨b, off + i, none⟩) hlt).trans hc⟩⟩
theorem all_ints (x : BitVec 64) (w : World) (hL : LaidC w) :
    Calls Tryd.prog 73 #[.int .u64 (U x)] w fun e W' => ∃ v, e = .returned v ∧ W'.ownsRow w.heap.size 3 1 v (ints x).length ((ints x).map int1) ∧ Below w.heap.size w W' := by
  refine (all_any x w hL.fld.tab (by have := hL.fld.lt; show 3 < w.heap.size; omega)).mono ?_
  rintro e w' ⟨v, rfl, hv, hb⟩
  refine ⟨v, rfl, ?_, hb⟩
  have e1 : (ints x).map int1 = (elems x).map ienc := by unfold ints; rw [List.map_map]; rfl
  have e2 : (ints x).length = (elems x).length := by unfold ints; rw [List.length_map]
  rw [e1, e2]
  exact hv
theorem bx1 {Z w' : World} {t : TypeId} {cs : Array Value} (hb : Below (Z.alloc (.cells cs t)).heap.size (Z.alloc (.cells cs t)) w') : D.Box w' Z.heap.size t cs := D.Box.belowAll (D.Box.new _ _ _) hb
theorem bx1d {Z w' : World} {t : TypeId} {cs : Array Value} (hb : Below (Z.alloc (.cells cs t)).drew.heap.size (Z.alloc (.cells cs t)).drew w') : D.Box w' Z.heap.size t cs := D.Box.belowAll (w := (Z.alloc (.cells cs t)).drew) (show D.Box (Z.alloc (.cells cs t)).drew _ _ _ from D.Box.new Z t cs) hb
theorem bx2 {Z w' : World} {t t' : TypeId} {cs cs' : Array Value} (hb : Below ((Z.alloc (.cells cs t)).alloc (.cells cs' t')).heap.size ((Z.alloc (.cells cs t)).alloc (.cells cs' t')) w') : D.Box w' Z.heap.size t cs ∧ D.Box w' (Z.heap.size + 1) t' cs' := by
  refine ⟨D.Box.belowAll ((D.Box.new _ _ _).alloc _) hb, ?_⟩
  have := bx1 hb
  rwa [World.size_alloc] at this
theorem bx2d {Z w' : World} {t t' : TypeId} {cs cs' : Array Value} (hb : Below ((Z.alloc (.cells cs t)).alloc (.cells cs' t')).drew.heap.size ((Z.alloc (.cells cs t)).alloc (.cells cs' t')).drew w') : D.Box w' Z.heap.size t cs ∧ D.Box w' (Z.heap.size + 1) t' cs' := bx2 (Z := Z) (cs := cs) (t := t) (cs' := cs') (t' := t') ⟨hb.os, hb.tape, hb.output, hb.size, hb.block⟩
theorem bxo {Z w' : World} {g : Nat} {o : Obj} {t : TypeId} {cs : Array Value} (h : D.Box Z g t cs) (hb : Below (Z.alloc o).heap.size (Z.alloc o) w') : D.Box w' g t cs := D.Box.belowAll (h.alloc o) hb
theorem own_low {W : World} {B B' n size : Nat} {e : TypeId} {v : Value} {xs : List Value} (h : W.ownsRow B' e size v n xs) (hB : B ≤ B') : W.ownsRow B e size v n xs := by
  refine ⟨h.1, ?_⟩
  rcases h.2 with hn | ⟨g, c, cur, h1, h2, h3⟩
  · exact .inl hn
  · exact .inr ⟨g, c, cur, h1, Nat.le_trans hB h2, h3⟩
theorem apart_of {a b : Option Nat} {N : Nat} (h1 : ∀ k, a = some k → k < N) (h2 : ∀ k, b = some k → N ≤ k) : a = none ∨ a ≠ b := by
  cases a with
  | none => exact .inl rfl
  | some k =>
    right
    intro e
    have := h1 k rfl
    have := h2 k e.symm
    omega
/-- Two own rows of ints. -/
structure RowsI (B : Nat) (W0 W : World) (vh vm : Value) (hs ms : List Int) : Prop where
  h : W.ownsRow B 3 1 vh hs.length (hs.map int1)
  m : W.ownsRow B 3 1 vm ms.length (ms.map int1)
  b : Below B W0 W
  ap : vh.ownBlock = none ∨ vh.ownBlock ≠ vm.ownBlock
theorem RowsI.alloc {B : Nat} {W0 W : World} {vh vm : Value} {hs ms : List Int} (h : RowsI B W0 W vh vm hs ms) (hB : B ≤ W0.heap.size) (o : Obj) : RowsI B W0 (W.alloc o) vh vm hs ms :=
  ⟨h.h.alloc o, h.m.alloc o, h.b.alloc (Nat.le_trans hB h.b.size) o, h.ap⟩
theorem own_box {W : World} {B n H : Nat} {v : Value} {xs cs : List Value} (h : W.ownsRow B 3 1 v n xs) (hX : D.Box W H 130 cs.toArray) : v.ownBlock = none ∨ v.ownBlock ≠ some H := by
  rcases h.2 with ⟨rfl, _⟩ | ⟨g, c, cur, rfl, _, hg, _⟩
  · exact .inl rfl
  · right
    intro he
    simp only [Value.ownBlock, Option.some.injEq] at he
    subst he
    unfold D.Box at hX
    rw [hg] at hX
    cases hX
theorem grown_set (W : World) (H : Nat) (u : Value) : W.grownBy (W.setCell ⟨H, 0, none⟩ u) (some H) :=
  ⟨rfl, rfl, rfl, by simp, fun k _ hne => Below.heap_setCell W ⟨H, 0, none⟩ u k (fun e => hne (by rw [e]))⟩
theorem RowsI.set {B H : Nat} {W0 W : World} {vh vm x : Value} {hs ms : List Int} (h : RowsI B W0 W vh vm hs ms) (hX : D.Box W H 130 #[x]) (hH : B ≤ H) (u : Value) : RowsI B W0 (W.setCell ⟨H, 0, none⟩ u) vh vm hs ms :=
  ⟨h.h.kept (grown_set W H u) (own_box (cs := [x]) h.h hX), h.m.kept (grown_set W H u) (own_box (cs := [x]) h.m hX), h.b.setCell (p := ⟨H, 0, none⟩) hH u, h.ap⟩
/-- What timesOf has laid. -/
structure Twin (B : Nat) (W0 W : World) (vh vm : Value) (hs ms : List Int) (H M : Nat) : Prop where
  r : RowsI B W0 W vh vm hs ms
  xh : D.Box W H 130 #[vh]
  xm : D.Box W M 130 #[vm]
  lh : B ≤ H
  lm : B ≤ M
theorem box_far {W : World} {H M : Nat} {t : TypeId} {cs : Array Value} (h : D.Box W H t cs) (hn : H ≠ M) (u : Value) : D.Box (W.setCell ⟨M, 0, none⟩ u) H t cs := (Below.heap_setCell W ⟨M, 0, none⟩ u H hn).trans h
theorem box_one {W : World} {H : Nat} {t : TypeId} {x : Value} (h : D.Box W H t #[x]) (u : Value) : D.Box (W.setCell ⟨H, 0, none⟩ u) H t #[u] := D.Box.set h 0 u
theorem twin_aa {B : Nat} {W0 W : World} {vh vm : Value} {hs ms : List Int} (h : RowsI B W0 W vh vm hs ms) (hB : B ≤ W0.heap.size) : Twin B W0 ((W.alloc (.cells #[vh] 130)).alloc (.cells #[vm] 130)) vh vm hs ms W.heap.size (W.heap.size + 1) :=
  have hs := Nat.le_trans hB h.b.size
  ⟨(h.alloc hB _).alloc hB _, (D.Box.new _ _ _).alloc _, by have := D.Box.new (W.alloc (.cells #[vh] 130)) 130 #[vm]; rwa [World.size_alloc] at this, hs, by omega⟩
theorem twin_aa' {B : Nat} {W0 W : World} {vh vm : Value} {hs ms : List Int} (h : RowsI B W0 W vh vm hs ms) (hB : B ≤ W0.heap.size) : Twin B W0 ((W.alloc (.cells #[vm] 130)).alloc (.cells #[vh] 130)) vh vm hs ms (W.heap.size + 1) W.heap.size :=
  have hs := Nat.le_trans hB h.b.size
  ⟨(h.alloc hB _).alloc hB _, by have := D.Box.new (W.alloc (.cells #[vm] 130)) 130 #[vh]; rwa [World.size_alloc] at this, (D.Box.new _ _ _).alloc _, by omega, hs⟩
theorem twin_sa {B P : Nat} {W0 W : World} {vh vm x : Value} {hs ms : List Int} (h : RowsI B W0 W vh vm hs ms) (hB : B ≤ W0.heap.size) (hX : D.Box W P 130 #[x]) (hP : B ≤ P) : Twin B W0 ((W.setCell ⟨P, 0, none⟩ vh).alloc (.cells #[vm] 130)) vh vm hs ms P W.heap.size :=
  ⟨(h.set hX hP vh).alloc hB _, (box_one hX vh).alloc _, by have := D.Box.new (W.setCell ⟨P, 0, none⟩ vh) 130 #[vm]; simpa using this, hP, Nat.le_trans hB h.b.size⟩
theorem twin_sa' {B P : Nat} {W0 W : World} {vh vm x : Value} {hs ms : List Int} (h : RowsI B W0 W vh vm hs ms) (hB : B ≤ W0.heap.size) (hX : D.Box W P 130 #[x]) (hP : B ≤ P) : Twin B W0 ((W.setCell ⟨P, 0, none⟩ vm).alloc (.cells #[vh] 130)) vh vm hs ms W.heap.size P :=
  ⟨(h.set hX hP vm).alloc hB _, by have := D.Box.new (W.setCell ⟨P, 0, none⟩ vm) 130 #[vh]; simpa using this, (box_one hX vm).alloc _, Nat.le_trans hB h.b.size, hP⟩
theorem twin_ss {B P Q : Nat} {W0 W : World} {vh vm x y : Value} {hs ms : List Int} (h : RowsI B W0 W vh vm hs ms) (hX : D.Box W P 130 #[x]) (hY : D.Box W Q 130 #[y]) (hn : P ≠ Q) (hP : B ≤ P) (hQ : B ≤ Q) : Twin B W0 ((W.setCell ⟨P, 0, none⟩ vh).setCell ⟨Q, 0, none⟩ vm) vh vm hs ms P Q :=
  ⟨(h.set hX hP vh).set (box_far hY hn.symm vh) hQ vm, box_far (box_one hX vh) hn vm, box_one (box_far hY hn.symm vh) vm, hP, hQ⟩
theorem box_grown {W W' : World} {B n H : Nat} {v : Value} {xs cs : List Value} (h : W.ownsRow B 3 1 v n xs) (hX : D.Box W H 130 cs.toArray) (hg : W.grownBy W' v.ownBlock) : D.Box W' H 130 cs.toArray := by
  refine (hg.block H (D.Box.lt hX) ?_).trans hX
  rcases own_box h hX with h1 | h1
  · rw [h1]; simp
  · exact fun e => h1 e.symm
theorem Twin.rev1 {B : Nat} {W0 W W' : World} {vh vm : Value} {hs ms : List Int} {H M : Nat} (h : Twin B W0 W vh vm hs ms H M) (hB : B ≤ W0.heap.size) (hr : W'.ownsRow B 3 1 vh hs.length (hs.reverse.map int1)) (hg : W.grownBy W' vh.ownBlock) : Twin B W0 W' vh vm hs.reverse ms H M :=
  ⟨⟨by rw [List.length_reverse]; exact hr, h.r.m.kept hg (by
      rcases h.r.ap with e | e
      · rw [e]
        cases vm.ownBlock with
        | none => exact .inl rfl
        | some k => exact .inr (fun q => by cases q)
      · exact .inr (fun q => e q.symm)), h.r.b.grown hg (Nat.le_trans hB h.r.b.size) (fun j e => (h.r.h.lt j e).1), h.r.ap⟩,
   box_grown (cs := [vh]) h.r.h h.xh hg, box_grown (cs := [vm]) h.r.h h.xm hg, h.lh, h.lm⟩
theorem Twin.rev2 {B : Nat} {W0 W W' : World} {vh vm : Value} {hs ms : List Int} {H M : Nat} (h : Twin B W0 W vh vm hs ms H M) (hB : B ≤ W0.heap.size) (hr : W'.ownsRow B 3 1 vm ms.length (ms.reverse.map int1)) (hg : W.grownBy W' vm.ownBlock) : Twin B W0 W' vh vm hs ms.reverse H M :=
  ⟨⟨h.r.h.kept hg h.r.ap, by rw [List.length_reverse]; exact hr, h.r.b.grown hg (Nat.le_trans hB h.r.b.size) (fun j e => (h.r.m.lt j e).1), h.r.ap⟩,
   box_grown (cs := [vh]) h.r.m h.xh hg, box_grown (cs := [vm]) h.r.m h.xm hg, h.lh, h.lm⟩
set_option maxRecDepth 100000 in
set_option maxHeartbeats 2000000 in
theorem timesOf_any (a b c d e : BitVec 64) (y m n way : Int) (w : World) (hL : LaidC w) :
    Calls Tryd.prog 67 #[cronV [a, b, c, d, e], .agg #[.int .i64 y, .int .i64 m, .int .i64 n], .int .i64 way] w fun x w' => ∃ (H M : Nat) (vh vm : Value), x = .returned (.func (.func 75) #[] #[.pointer (some ⟨w.heap.size + 1, 0, none⟩), .pointer (some ⟨H, 0, none⟩), .pointer (some ⟨M, 0, none⟩)]) ∧ Twin (w.heap.size + 2) w' w' vh vm (wayL way (ints b)) (wayL way (ints a)) H M ∧ D.Box w' (w.heap.size + 1) 120 #[.int .i64 y, .int .i64 m, .int .i64 n] ∧ Below w.heap.size w w' := by
  obtain ⟨WB, hWB, hb0, hc0, hd0⟩ := five_cells w a b c d e y m n
  have hsz : WB.heap.size = w.heap.size + 2 := by rw [hWB]; simp
  have HL := Lib.hid (hL.on hb0)
  have HB0 := Lib.hid hb0; have HD0 := Lib.hid hd0; have HC0 := Lib.hid hc0
  rw [cronV_five]
  unfold fiveV
  have HH := Lib.hid (fun W hW => all_ints b W hW)
  have HM := Lib.hid (fun W hW => all_ints a W hW)
  have hia := ints_64 a
  have hib := ints_64 b
  generalize ints a = la at *
  generalize ints b = lb at *
  go_enter Tryd.func67, Tryd.ntmps67
  go_wp2_with fail
  rw [← hWB]
  go_cut [7, 8] from 9 to 14 (fun s7 s8 wx => ∃ (H M : Nat) (A4 A5 : Option Addr) (n4 n5 : Nat), s7 = .pointer (some ⟨H, 0, none⟩) ∧ s8 = .pointer (some ⟨M, 0, none⟩) ∧ Twin WB.heap.size WB wx (.slice A4 lb.length n4) (.slice A5 la.length n5) lb la H M)
  case first =>
    clear hWB
    obtain ⟨c0, c1, c2, c3, c4⟩ := hc0.five
    have hBE := Below.refl WB.heap.size WB
    have hwB := hc0.lt
    have hwN := Nat.ne_of_lt hwB
    have HALL := Lib.hid (fun (W : World) (hW : Below WB.heap.size WB W) => (⟨by
      obtain ⟨c0, c1, _, _, _⟩ := (HC0.out.on hW).five
      exact ⟨c0, c1⟩⟩ : PLift (W.cell? ⟨w.heap.size, 0, none⟩ = some (.int .u64 (U a)) ∧ W.cell? ⟨w.heap.size, 1, none⟩ = some (.int .u64 (U b)))).down)
    clear hL hb0 hd0 hc0 hsz hia hib
    go_region_held3 (fun W => W.cell? ⟨w.heap.size, 0, none⟩ = some (.int .u64 (U a)) ∧ W.cell? ⟨w.heap.size, 1, none⟩ = some (.int .u64 (U b))) ((refine HALL.out _ ?_; repeat (first | exact hBE | refine Below.drew ?_ | refine Below.setCell ?_ (by first | (have := hBE.size; have := hBD.size; first | omega | (simp; done) | (simp; omega)) | (have := hBE.size; first | omega | (simp; done) | (simp; omega))) _ | refine Below.alloc ?_ (by first | (have := hBE.size; have := hBD.size; first | omega | (simp; done) | (simp; omega)) | (have := hBE.size; first | omega | (simp; done) | (simp; omega))) _))) (first
      | (go_at_call 73; (with_reducible refine (HH.out _ (HL.out.on (by repeat (first | exact hBE | refine Below.drew ?_ | refine Below.alloc ?_ (by have := hBE.size; first | omega | (simp; done) | (simp; omega)) _)))).mono ?_); rintro x w4 ⟨v, rfl, hv, hb⟩; obtain ⟨A4, n4, rfl⟩ := own_slice0 hv; have hBD : Below WB.heap.size WB w4 := Below.trans (by repeat (first | exact hBE | refine Below.drew ?_ | refine Below.alloc ?_ (by have := hBE.size; first | omega | (simp; done) | (simp; omega)) _)) (hb.mono (by first | exact Nat.le_refl _ | (simp; done) | (simp; omega))); replace hBE := hBD; have hS4 := hb.size; obtain ⟨e0, e1⟩ := HALL.out _ hBE; have k4 := Nat.lt_of_lt_of_le hwB hBE.size; have j4 := Nat.ne_of_lt k4; first | (have hX0 := bx2 hb; obtain ⟨hX1, hX2⟩ := hX0; obtain ⟨p1, p2⟩ := hX1.one; have l1 := hX1.lt; have m1 := Nat.ne_of_lt hX1.lt; obtain ⟨p3, p4⟩ := hX2.one; have l2 := hX2.lt; have m2 := Nat.ne_of_lt hX2.lt) | (have hX0 := bx2d hb; obtain ⟨hX1, hX2⟩ := hX0; obtain ⟨p1, p2⟩ := hX1.one; have l1 := hX1.lt; have m1 := Nat.ne_of_lt hX1.lt; obtain ⟨p3, p4⟩ := hX2.one; have l2 := hX2.lt; have m2 := Nat.ne_of_lt hX2.lt) | (have hX1 := bx1 hb; obtain ⟨p1, p2⟩ := hX1.one; have l1 := hX1.lt; have m1 := Nat.ne_of_lt hX1.lt) | (have hX1 := bx1d hb; obtain ⟨p1, p2⟩ := hX1.one; have l1 := hX1.lt; have m1 := Nat.ne_of_lt hX1.lt) | skip)
      | (go_at_call 73; (with_reducible refine (HM.out _ (HL.out.on (by repeat (first | exact hBE | refine Below.drew ?_ | refine Below.alloc ?_ (by have := hBE.size; first | omega | (simp; done) | (simp; omega)) _)))).mono ?_); rintro x w5 ⟨v', rfl, hv', hb'⟩; obtain ⟨A5, n5, rfl⟩ := own_slice0 hv'; have hBD' : Below WB.heap.size WB w5 := Below.trans (by repeat (first | exact hBE | refine Below.drew ?_ | refine Below.alloc ?_ (by have := hBE.size; first | omega | (simp; done) | (simp; omega)) _)) (hb'.mono (by have := hBE.size; first | exact this | (simp; done) | (simp; omega))); have hS5 := hb'.size; replace hBE := hBD'; obtain ⟨f0, f1⟩ := HALL.out _ hBE; have k5 := Nat.lt_of_lt_of_le hwB hBE.size; have j5 := Nat.ne_of_lt k5; first | (have hX3 := D.Box.belowAll hX1 hb'; have hX4 := D.Box.belowAll hX2 hb'; obtain ⟨q1, q2⟩ := hX3.one; have l3 := hX3.lt; have m3 := Nat.ne_of_lt hX3.lt; obtain ⟨q3, q4⟩ := hX4.one; have l4 := hX4.lt; have m4 := Nat.ne_of_lt hX4.lt) | (have hX3 := bxo hX1 hb'; have hX4 := bx1 hb'; obtain ⟨q1, q2⟩ := hX3.one; have l3 := hX3.lt; have m3 := Nat.ne_of_lt hX3.lt; obtain ⟨q3, q4⟩ := hX4.one; have l4 := hX4.lt; have m4 := Nat.ne_of_lt hX4.lt) | (have hX3 := D.Box.belowAll hX1 hb'; obtain ⟨q1, q2⟩ := hX3.one; have l3 := hX3.lt; have m3 := Nat.ne_of_lt hX3.lt) | (have hX0 := bx2 hb'; obtain ⟨hX3, hX4⟩ := hX0; obtain ⟨q1, q2⟩ := hX3.one; have l3 := hX3.lt; have m3 := Nat.ne_of_lt hX3.lt; obtain ⟨q3, q4⟩ := hX4.one; have l4 := hX4.lt; have m4 := Nat.ne_of_lt hX4.lt) | (have hX3 := bx1 hb'; obtain ⟨q1, q2⟩ := hX3.one; have l3 := hX3.lt; have m3 := Nat.ne_of_lt hX3.lt) | skip))
    all_goals
      go_wp2_with fail
      go_meet
      have hlo := hBD.size
      have hlo' := hBE.size
      have hv5 := own_below (by first | exact hv | exact hv.alloc _ | exact (hv.alloc _).alloc _) hb'
      have hR : RowsI WB.heap.size WB w5 (.slice A4 lb.length n4) (.slice A5 la.length n5) lb la := ⟨own_low hv5 (by first | exact Nat.le_refl _ | omega | (simp; done) | (simp; omega)), own_low hv' (by first | exact hlo | omega | (simp; done) | (simp; omega)), hBE, apart_of (N := w4.heap.size) (fun k hk => (hv.lt k hk).2) (fun k hk => Nat.le_trans (by first | exact Nat.le_refl _ | (simp; done) | (simp; omega)) (hv'.lt k hk).1)⟩
      refine ⟨_, _, A4, A5, n4, n5, rfl, rfl, ?_⟩
      first
        | exact twin_aa hR (Nat.le_refl _)
        | exact twin_aa' hR (Nat.le_refl _)
        | exact twin_sa hR (Nat.le_refl _) hX3 (by omega)
        | exact twin_sa' hR (Nat.le_refl _) hX3 (by omega)
        | exact twin_ss hR hX3 hX4 (by omega) (by omega) (by omega)
        | exact twin_ss hR hX4 hX3 (by omega) (by omega) (by omega)
  case rest =>
    obtain ⟨H, M, A4, A5, n4, n5, rfl, rfl, hT⟩ := hcut
    have HT := Lib.hid (show Twin (w.heap.size + 2) WB wc (.slice A4 lb.length n4) (.slice A5 la.length n5) lb la H M from hsz ▸ hT)
    have hBW : Hid (∀ W : World, Below WB.heap.size WB W → D.Box W (w.heap.size + 1) 120 #[.int .i64 y, .int .i64 m, .int .i64 n] ∧ Below w.heap.size w W) := Lib.hid (fun W hW => ⟨D.Box.belowAll HD0.out hW, HB0.out.trans (hW.mono HB0.out.size)⟩)
    clear hWB hL hb0 hc0 hd0 HH HM hT HL
    by_cases hw : way = -1
    · subst hw
      obtain ⟨c0, f0⟩ := HT.out.xh.one
      go_wp2_with fail
      refine (reverse_any (w.heap.size + 2) lb.length (.slice A4 lb.length n4) lb wc rfl (by unfold maxLen; omega) HT.out.r.h).mono ?_
      rintro e w6 ⟨rfl, hr, hg⟩
      have HT1 := Lib.hid (HT.out.rev1 (Nat.le_of_eq hsz.symm) hr hg)
      clear hr hg HT c0 f0
      obtain ⟨c0, f0⟩ := HT1.out.xm.one
      go_wp2_with fail
      refine (reverse_any (w.heap.size + 2) la.length (.slice A5 la.length n5) la w6 rfl (by unfold maxLen; omega) HT1.out.r.m).mono ?_
      rintro e w7 ⟨rfl, hr, hg⟩
      have HT2 := Lib.hid (HT1.out.rev2 (Nat.le_of_eq hsz.symm) hr hg)
      clear hr hg HT1 c0 f0
      go_wp2_with fail
      go_ret
      have e1 : wayL (-1) lb = lb.reverse := if_pos rfl
      have e2 : wayL (-1) la = la.reverse := if_pos rfl
      obtain ⟨h1, h2⟩ := hBW.out w7 (by rw [hsz]; exact HT2.out.r.b)
      rw [e1, e2]
      exact ⟨H, M, _, _, rfl, ⟨⟨HT2.out.r.h, HT2.out.r.m, Below.refl _ _, HT2.out.r.ap⟩, HT2.out.xh, HT2.out.xm, HT2.out.lh, HT2.out.lm⟩, h1, h2⟩
    · have hd : (way == -1) = false := by simpa using hw
      go_wp2_with fail
      go_ret
      have e1 : wayL way lb = lb := if_neg hw
      have e2 : wayL way la = la := if_neg hw
      obtain ⟨h1, h2⟩ := hBW.out wc (by rw [hsz]; exact HT.out.r.b)
      rw [e1, e2]
      exact ⟨H, M, _, _, rfl, ⟨⟨HT.out.r.h, HT.out.r.m, Below.refl _ _, HT.out.r.ap⟩, HT.out.xh, HT.out.xm, HT.out.lh, HT.out.lm⟩, h1, h2⟩
end Go.Proofs.YthghcffibljclaaDoor
/- The times of a day, told one by one: the iterator, walked, of the program. -/
namespace Go.Proofs.YthghcffibljclaaDoor
open Go.RowKit

attribute [local go_sem] Oper.semAt_some

theorem on_next {hs ms : List Int} {n h : Int} {k : Nat} (hk : hs[k]? = some h) : onW (hs.take k) ms n ++ (ms.map fun m => n * 86400 + h * 3600 + m * 60) = onW (hs.take (k + 1)) ms n := by
  unfold onW
  rw [List.take_add_one, hk, List.flatMap_append]
  simp
theorem on_pre {hs ms : List Int} {n h : Int} {k j : Nat} (hk : hs[k]? = some h) : onW (hs.take k) ms n ++ ((ms.take j).map fun m => n * 86400 + h * 3600 + m * 60) <+: onW hs ms n := by
  have e : onW hs ms n = onW (hs.take k) ms n ++ ((ms.map fun m => n * 86400 + h * 3600 + m * 60) ++ onW (hs.drop (k + 1)) ms n) := by
    rw [← List.append_assoc, on_next hk]
    unfold onW
    rw [← List.flatMap_append, List.take_append_drop]
  rw [e, List.prefix_append_right_inj, List.map_take]
  exact List.IsPrefix.trans (List.take_prefix _ _) (List.prefix_append _ _)
theorem on_step {ms : List Int} {n h m : Int} {P : List Int} {j : Nat} (hj : ms[j]? = some m) : (P ++ ((ms.take j).map fun m => n * 86400 + h * 3600 + m * 60)) ++ [n * 86400 + h * 3600 + m * 60] = P ++ ((ms.take (j + 1)).map fun m => n * 86400 + h * 3600 + m * 60) := by
  rw [List.take_add_one, hj]
  simp
theorem on_len {hs ms : List Int} {n : Int} (h1 : hs.length ≤ 64) (h2 : ms.length ≤ 64) : (onW hs ms n).length ≤ 4096 := by
  have : ∀ hs : List Int, (onW hs ms n).length = hs.length * ms.length := by
    intro hs
    induction hs with
    | nil => simp [onW]
    | cons h hs ih =>
      unfold onW at ih ⊢
      rw [List.flatMap_cons, List.length_append, ih, List.length_map, List.length_cons, Nat.succ_mul, Nat.add_comm]
  rw [this]
  exact Nat.le_trans (Nat.mul_le_mul h1 h2) (by omega)
theorem own_arr {w : World} {B n c : Nat} {e : TypeId} {A : Option Addr} {l : List Int} (h : w.ownsRow B e 1 (.slice A n c) n (l.map int1)) : ArrT w A n l := by
  have hl : l.length = n := by have := h.1; rw [List.length_map] at this; omega
  refine ⟨hl, fun i x hx => ?_⟩
  rcases h.2 with ⟨h1, h2⟩ | ⟨g, cp, cur, h1, _, hg, _⟩
  · subst h2
    rw [List.length_eq_zero_iff] at hl
    subst hl
    cases hx
  · cases h1
    refine ⟨g, 0, rfl, (Array.getElem?_eq_some_iff.1 hg).1, ?_⟩
    rw [Nat.zero_add, h.cellAt i (by have := (List.getElem?_eq_some_iff.1 hx).1; omega), List.getElem?_map, hx]
    rfl
/-- What the iterator reads. -/
structure ItAt (w : World) (Dp H M : Nat) (y m d : Int) (hs ms : List Int) : Prop where
  date : D.Box w Dp 120 #[.int .i64 y, .int .i64 m, .int .i64 d]
  hour : ∃ A c, D.Box w H 130 #[.slice A hs.length c] ∧ ArrT w A hs.length hs
  min : ∃ A c, D.Box w M 130 #[.slice A ms.length c] ∧ ArrT w A ms.length ms
theorem ItAt.on {w w' : World} {Dp H M : Nat} {y m d : Int} {hs ms : List Int} (h : ItAt w Dp H M y m d hs ms) (hb : Below w.heap.size w w') : ItAt w' Dp H M y m d hs ms := by
  obtain ⟨h1, ⟨A, c, h2, h3⟩, A', c', h4, h5⟩ := h
  exact ⟨D.Box.belowAll h1 hb, ⟨A, c, D.Box.belowAll h2 hb, h3.on hb⟩, A', c', D.Box.belowAll h4 hb, h5.on hb⟩
theorem Twin.at_ {B H M Dp : Nat} {W0 W : World} {vh vm : Value} {y m d : Int} {hs ms : List Int} (h : Twin B W0 W vh vm hs ms H M) (hd : D.Box W Dp 120 #[.int .i64 y, .int .i64 m, .int .i64 d]) : ItAt W Dp H M y m d hs ms := by
  obtain ⟨A, c, e⟩ := own_slice0 h.r.h
  obtain ⟨A', c', e'⟩ := own_slice0 h.r.m
  have h1 := h.xh; have h2 := h.xm; have h3 := h.r.h; have h4 := h.r.m
  rw [e] at h1 h3; rw [e'] at h2 h4
  exact ⟨hd, ⟨A, c, h1, own_arr h3⟩, A', c', h2, own_arr h4⟩
theorem grown_of {w w' : World} (h : Below w.heap.size w w') : w.grownBy w' none := ⟨h.os, h.tape, h.output, h.size, fun k hk _ => h.block k hk⟩
set_option maxRecDepth 100000 in
set_option maxHeartbeats 2000000 in
theorem times1_in (n : Nat) (hn : 1 ≤ n) (l Dp H M : Nat) (y m d : Int) (hs ms : List Int) (w0 : World) (hI : ItAt w0 Dp H M y m d hs ms) (hL : D.Laid w0) (hr : D.RightZ y m d)
    (hh : ∀ h ∈ hs, 0 ≤ h ∧ h ≤ 23) (hm : ∀ h ∈ ms, 0 ≤ h ∧ h ≤ 59) (h64 : hs.length ≤ 64) (m64 : ms.length ≤ 64) (J Jx : List Int → World → Prop)
    (hY : ∀ pre (x : Int) W, J pre W → pre.length < 4097 → YieldAt Fence.wide (n - 1) Tryd.prog l #[.int .i64 x] W fun e W' =>
      (e = .returned (.bool true) ∧ J (pre ++ [x]) W' ∧ Below w0.heap.size W W') ∨ (e = .returned (.bool false) ∧ Jx (pre ++ [x]) W'))
    (W : World) (hW : Below w0.heap.size w0 W) (hJ : AbidesFrom W.heap.size J) (h0 : J [] W) :
    CallsIn Fence.wide n Tryd.prog 75 #[.func (.yield l) #[] #[], .pointer (some ⟨Dp, 0, none⟩), .pointer (some ⟨H, 0, none⟩), .pointer (some ⟨M, 0, none⟩)] W fun e W' => (∃ v, e = .returned v) ∧
      ((∃ ys, ys = onW hs ms (D.numZ y m d) ∧ J ys W') ∨ (∃ pre, pre <+: onW hs ms (D.numZ y m d) ∧ Jx pre W')) := by
  have HO := Lib.hid (fun W hW => D.tof_ok y m d 0 0 0 W hW ⟨hr, by omega, by omega, by omega, by omega, by omega, by omega⟩)
  unfold D.civV at HO
  obtain ⟨n0, n1⟩ := D.num_range hr
  have ht : D.timeZ y m d 0 0 0 = D.numZ y m d * 86400 := by unfold D.timeZ; omega
  rw [ht] at HO
  clear ht hr
  generalize D.numZ y m d = N at *
  have HI := Lib.hid hI; have HL := Lib.hid hL
  have HIW := Lib.hid (hI.on hW)
  have HLW := Lib.hid (hL.on hW)
  obtain ⟨d0, d1, d2, _, _, _⟩ := D.Box.three HIW.out.date
  clear hI hL
  refine callsIn_of_wp Tryd.func75 rfl trivial ?_ rfl
  simp only [Tryd.ntmps75, List.size_toArray, List.length_cons, List.length_nil, Nat.reduceAdd, Nat.reduceSub, Array.replicate_succ, Array.replicate_zero, List.push_toArray, List.append_toArray, List.nil_append, List.cons_append]
  gi_wp2_with fail
  refine ⟨trivial, (callsIn_wide.2 (HO.out _ HLW.out)).mono ?_⟩
  rintro e w1 ⟨rfl, hb⟩
  have hJ1 := hJ [] _ _ none h0 (grown_of hb) (fun r e => by cases e)
  have hW1 : Below w0.heap.size w0 w1 := hW.trans (hb.mono hW.size)
  obtain ⟨_, ⟨Ah, ch, hbh, harh⟩, Am, cm, hbm, harm⟩ := HI.out
  have HBH := Lib.hid hbh; have HBM := Lib.hid hbm; have HAH := Lib.hid harh; have HAM := Lib.hid harm
  have HJ1 := Lib.hid hJ1; have HW1 := Lib.hid hW1
  obtain ⟨e0, _⟩ := (D.Box.belowAll HBH.out HW1.out).one
  have hhl : hs.length ≤ maxLen := by unfold maxLen; omega
  have hml : ms.length ≤ maxLen := by unfold maxLen; omega
  clear hb hJ1 hW1 d0 d1 d2 HO HIW HLW HL hbh hbm harh harm hJ h0
  gi_wp2_with fail
  gi_loopw [19] (fun i wr => ∃ (k : Nat) (pre : List Int), k ≤ hs.length ∧ i = .int .i64 (k : Int) ∧ pre = onW (hs.take k) ms N ∧ J pre wr ∧ Below w0.heap.size w0 wr) (fun i _ => hs.length - (intOf i).toNat)
  case atStart => exact ⟨0, [], Nat.zero_le _, rfl, rfl, HJ1.out, HW1.out⟩
  case round =>
    clear HJ1 HW1 e0
    obtain ⟨k, pre, hk, rfl, hpre, hj, hx⟩ := hrel
    by_cases hlt : k < hs.length
    · obtain ⟨h, hkk⟩ : ∃ h, hs[k]? = some h := ⟨_, List.getElem?_eq_getElem hlt⟩
      obtain ⟨hh0, hh1⟩ := hh h (List.mem_of_getElem? hkk)
      obtain ⟨b, off, hA, hlb, hc⟩ := (HAH.out.on hx).2 k h hkk
      subst hA
      obtain ⟨e0, _⟩ := (D.Box.belowAll HBM.out hx).one
      have HJ := Lib.hid hj; have HB := Lib.hid hx; have HP := Lib.hid hpre; have HKK := Lib.hid hkk
      clear hj hx hpre hkk
      gi_wp2_with fail
      generalize hwe : wr = we at *
      gi_loopw [25] (fun i wr => ∃ (j : Nat) (pre : List Int), j ≤ ms.length ∧ i = .int .i64 (j : Int) ∧ pre = onW (hs.take k) ms N ++ ((ms.take j).map fun m => N * 86400 + h * 3600 + m * 60) ∧ J pre wr ∧ Below w0.heap.size w0 wr) (fun i _ => ms.length - (intOf i).toNat)
      case atStart => exact ⟨0, pre, Nat.zero_le _, rfl, by rw [HP.out]; simp, HJ.out, HB.out⟩
      case round =>
        clear HJ HP HB e0 hc
        obtain ⟨j, pre', hj, rfl, hpre, hjj, hx⟩ := hrel
        by_cases hlt2 : j < ms.length
        · obtain ⟨mi, hmm⟩ : ∃ mi, ms[j]? = some mi := ⟨_, List.getElem?_eq_getElem hlt2⟩
          obtain ⟨hm0, hm1⟩ := hm mi (List.mem_of_getElem? hmm)
          obtain ⟨b2, off2, hA2, hlb2, hc2⟩ := (HAM.out.on hx).2 j mi hmm
          subst hA2
          have HJ := Lib.hid hjj; have HB := Lib.hid hx; have HMM := Lib.hid hmm
          have HP := Lib.hid hpre
          have hpl : pre'.length < 4097 := by
            have h1 := (on_pre (hs := hs) (ms := ms) (n := N) (j := j) HKK.out).length_le
            have h2 := on_len (n := N) h64 m64
            rw [hpre]; omega
          clear hjj hx hpre hmm
          obtain ⟨fn, tmps, assign, body, hy, hR⟩ := hY pre' (N * 86400 + h * 3600 + mi * 60) wr HJ.out hpl
          gi_wp2_with fail
          refine hR.mono ?_
          rintro e W3 (⟨rfl, hJ3, hk3⟩ | ⟨rfl, hJx3⟩)
          · have H3 := Lib.hid hJ3
            have HB3 := Lib.hid (HB.out.trans hk3)
            clear hJ3 hk3
            gi_wp2_with fail
            go_roundw
            case rel => exact ⟨j + 1, pre' ++ [N * 86400 + h * 3600 + mi * 60], by omega, by go_num, by rw [HP.out]; exact on_step HMM.out, H3.out, HB3.out⟩
            case measure => simp [intOf]; omega
          · gi_wp2_with fail
            refine bodyPost_ret (results_none rfl _ _ _) rfl ?_
            refine ⟨⟨_, rfl⟩, .inr ⟨pre' ++ [N * 86400 + h * 3600 + mi * 60], ?_, hJx3⟩⟩
            rw [HP.out, on_step HMM.out]
            exact on_pre HKK.out
        · have hj2 : j = ms.length := by omega
          have HJ := Lib.hid hjj; have HB := Lib.hid hx; have HP := Lib.hid hpre
          clear hjj hx hpre
          gi_wp2_with fail
          go_roundw
          case rel => exact ⟨k + 1, pre', by omega, by go_num, by rw [HP.out, hj2, List.take_length]; exact on_next HKK.out, HJ.out, HB.out⟩
          case measure => simp [intOf]; omega
    · have hk2 : k = hs.length := by omega
      have HJ := Lib.hid hj
      have HP := Lib.hid (show pre = onW hs ms N by rw [hpre, hk2, List.take_length])
      clear hj hx hpre
      gi_wp2_with fail
      go_end0
      exact ⟨⟨_, rfl⟩, .inl ⟨pre, HP.out, HJ.out⟩⟩
/-- It tells just the day's times, whatever the loop's body does above. -/
theorem times_stops (n : Nat) (hn : 1 ≤ n) (Dp H M : Nat) (y m d : Int) (hs ms : List Int) (w0 : World) (hI : ItAt w0 Dp H M y m d hs ms) (hL : D.Laid w0) (hr : D.RightZ y m d)
    (hh : ∀ h ∈ hs, 0 ≤ h ∧ h ≤ 23) (hm : ∀ h ∈ ms, 0 ≤ h ∧ h ≤ 59) (h64 : hs.length ≤ 64) (m64 : ms.length ≤ 64) :
    SeqStopsK Fence.wide n Tryd.prog 75 #[.pointer (some ⟨Dp, 0, none⟩), .pointer (some ⟨H, 0, none⟩), .pointer (some ⟨M, 0, none⟩)] (fun x : Int => #[.int .i64 x]) (Below w0.heap.size) (fun ys => ys = onW hs ms (D.numZ y m d)) (fun pre => pre <+: onW hs ms (D.numZ y m d)) 4097 w0 :=
  fun l J Jx W hW hJ _ hY h0 => times1_in n hn l Dp H M y m d hs ms w0 hI hL hr hh hm h64 m64 J Jx hY W hW hJ h0
end Go.Proofs.YthghcffibljclaaDoor
/- What tells the date of a number that fits: walked, of the program. -/
namespace Go.Proofs.YthghcffibljclaaDoor
open Go.RowKit

theorem Sole.drew {g B : Nat} {a b : World} (h : Sole g B a b) : Sole g B a b.drew := ⟨h.os, h.tape, h.output, h.size, h.block⟩
/-- The result's cells are written last. -/
theorem three_out {w W : World} {g : Nat} {t : TypeId} {a b c : Value} (hX : D.Box W g t #[a, b, c]) (hB : Below w.heap.size w W) (hg : w.heap.size ≤ g) (u0 u1 u2 : Value) :
    ((((W.setCell ⟨g, 0, none⟩ u0).setCell ⟨g, 1, none⟩ u1).setCell ⟨g, 2, none⟩ u2).cell? ⟨g, 0, none⟩ = some u0 ∧ (((W.setCell ⟨g, 0, none⟩ u0).setCell ⟨g, 1, none⟩ u1).setCell ⟨g, 2, none⟩ u2).cell? ⟨g, 1, none⟩ = some u1 ∧ (((W.setCell ⟨g, 0, none⟩ u0).setCell ⟨g, 1, none⟩ u1).setCell ⟨g, 2, none⟩ u2).cell? ⟨g, 2, none⟩ = some u2) ∧
    Below w.heap.size w (((W.setCell ⟨g, 0, none⟩ u0).setCell ⟨g, 1, none⟩ u1).setCell ⟨g, 2, none⟩ u2) := by
  obtain ⟨e0, e1, e2, _, _, _⟩ := D.Box.three (D.Box.onDate hX u0 u1 u2)
  exact ⟨⟨e0, e1, e2⟩, ((hB.setCell (p := ⟨g, 0, none⟩) hg u0).setCell (p := ⟨g, 1, none⟩) hg u1).setCell (p := ⟨g, 2, none⟩) hg u2⟩
set_option maxRecDepth 100000 in
set_option maxHeartbeats 1000000 in
theorem fit1_no (n : Int) (g : Nat) (w : World) (hn : n < 0 ∨ 2932896 < n) :
    Calls Tryd.prog 69 #[.int .i64 n, .pointer (some ⟨g, 0, none⟩)] w fun x w' => x = .returned (.tuple #[.agg #[.int .i64 0, .int .i64 0, .int .i64 0], .bool false]) ∧ Below w.heap.size w w' := by
  have HA := Lib.hid (fun W => D.at_no n W hn)
  unfold D.dateV at HA
  have hB0 : Below w.heap.size w (w.alloc (.cells #[.int .i64 0, .int .i64 0, .int .i64 0] 120)) := (Below.refl _ w).alloc (Nat.le_refl _) _
  have hX0 := D.Box.new w 120 #[.int .i64 0, .int .i64 0, .int .i64 0]
  clear hn
  go_enter Tryd.func69, Tryd.ntmps69
  go_wp2_with fail
  refine (HA.out _).mono ?_
  rintro x w1 ⟨rfl, hb⟩
  have hX1 := D.Box.belowAll hX0 hb
  have hlt := D.Box.lt hX1
  have HB1 := Lib.hid (hB0.trans (hb.mono hB0.size))
  have HX1 := Lib.hid hX1
  obtain ⟨x0, x1, x2, _, _, _⟩ := D.Box.three hX1
  clear hb hB0 hX0 HA hX1
  go_wp2_with fail
  go_region
  have hz := three_out HX1.out HB1.out (Nat.le_refl _) (.int .i64 0) (.int .i64 0) (.int .i64 0)
  have hs : w.heap.size < (((w1.setCell ⟨w.heap.size, 0, none⟩ (.int .i64 0)).setCell ⟨w.heap.size, 1, none⟩ (.int .i64 0)).setCell ⟨w.heap.size, 2, none⟩ (.int .i64 0)).heap.size := by simpa using hlt
  generalize (((w1.setCell ⟨w.heap.size, 0, none⟩ (.int .i64 0)).setCell ⟨w.heap.size, 1, none⟩ (.int .i64 0)).setCell ⟨w.heap.size, 2, none⟩ (.int .i64 0)) = w2 at *
  obtain ⟨⟨z0, z1, z2⟩, hB2⟩ := hz
  clear x0 x1 x2 HX1 HB1
  go_wp2_with fail
  refine bodyPost_ret (v := .tuple #[.agg #[.int .i64 0, .int .i64 0, .int .i64 0], .bool false]) (by simp [results, Tryd.results69, go_sem, z0, z1, z2, hs]) rfl ⟨rfl, ?_⟩
  exact (hB2.alloc (Nat.le_of_lt hs) _).drew
set_option maxRecDepth 100000 in
set_option maxHeartbeats 1000000 in
theorem fit1_yes (L : List (BitVec 64)) (n : Int) (g : Nat) (w : World) (hL : LaidC w) (hC : CronAt w g L) (hk : crB L = true) (h0 : 0 ≤ n) (h1 : n ≤ 2932896) :
    Calls Tryd.prog 69 #[.int .i64 n, .pointer (some ⟨g, 0, none⟩)] w fun x w' => ∃ (y m d : Int) (z : Bool), x = .returned (.tuple #[.agg #[.int .i64 y, .int .i64 m, .int .i64 d], .bool z]) ∧ Below w.heap.size w w' ∧ D.RightZ y m d ∧ D.numZ y m d = n ∧ z = fitD L y m d := by
  have HA := Lib.hid (fun W hW => D.at_ok n W hW h0 h1)
  unfold D.dateV at HA
  have hB0 : Below w.heap.size w (w.alloc (.cells #[.int .i64 0, .int .i64 0, .int .i64 0] 120)) := (Below.refl _ w).alloc (Nat.le_refl _) _
  have hX0 := D.Box.new w 120 #[.int .i64 0, .int .i64 0, .int .i64 0]
  have HL0 := Lib.hid (hL.on hB0)
  have HC0 := Lib.hid (hC.on hB0)
  have hgw := hC.lt
  clear h0 h1 hL hC
  go_enter Tryd.func69, Tryd.ntmps69
  go_wp2_with fail
  refine (HA.out _ HL0.out.days).mono ?_
  rintro x w0 ⟨y, m, d, rfl, hr, hn, hb⟩
  have hX1 := D.Box.belowAll hX0 hb
  obtain ⟨w1, hw1, hsz, hbw⟩ : ∃ w1 : World, w1 = w0.alloc (.cells #[.int .i64 y, .int .i64 m, .int .i64 d] 120) ∧ w1.heap.size = w0.heap.size + 1 ∧ Below w0.heap.size w0 w1 := ⟨_, rfl, by simp, (Below.refl _ w0).alloc (Nat.le_refl _) _⟩
  have HB1 := Lib.hid ((hB0.trans (hb.mono hB0.size)).trans (hbw.mono (Nat.le_trans (Nat.le_of_lt hX0.lt) hb.size)))
  have hlt : w.heap.size < w0.heap.size := D.Box.lt hX1
  have HX1 := Lib.hid (D.Box.belowAll hX1 hbw)
  have HL1 := Lib.hid ((HL0.out.on hb).on hbw)
  have HC1 := Lib.hid ((HC0.out.on hb).on hbw)
  have hD1 : D.Box w1 w0.heap.size 120 #[.int .i64 y, .int .i64 m, .int .i64 d] := by rw [hw1]; exact D.Box.new _ _ _
  have hrb := (rightB_iff y m d).2 hr
  have hdz : Hid (dayZ L y m d = fitD L y m d) := Lib.hid (by unfold dayZ; rw [hk, hrb]; rfl)
  have HR := Lib.hid hr; have HN := Lib.hid hn
  have hmz : Hid (fitD L y m d = (hasB (L.getD 3 0#64) m && fitD L y m d)) := Lib.hid (by
    have hm := (right_in hr).1
    rw [hasB_pos (by omega)]
    unfold fitD dayF
    cases (L.getD 3 0#64).getLsbD m.toNat <;> simp)
  clear hb hB0 hX0 HA hr hn hrb hk HL0 HC0 hbw
  have h5 := HC1.out.1
  have HD := Lib.hid (fun W hW => cday_any L y m d W hW h5)
  rw [hdz.out] at HD
  obtain ⟨ma, mb, mc, md, me, rfl⟩ := list_five h5
  rw [cronV_five] at HD
  unfold fiveV at HD
  simp only [show ([ma, mb, mc, md, me] : List (BitVec 64)).getD 3 0#64 = md from rfl] at hmz
  have HM := Lib.hid (fun W => has_any md m W)
  have HD1 := Lib.hid hD1
  clear hD1 hX1
  generalize hz : fitD [ma, mb, mc, md, me] y m d = z at *
  have HZ := Lib.hid hz
  clear h5 hdz hz
  cases hm : hasB md m with
  | false =>
    have hz2 : z = false := by rw [hmz.out, hm]; rfl
    subst hz2
    rw [hm] at HM
    clear hm hmz HD
    go_wp2_with fail
    rw [← hw1]
    obtain ⟨x0, x1, x2, x3, x4, x5⟩ := D.Box.three HX1.out
    obtain ⟨d0, d1, d2, d3, d4, d5⟩ := D.Box.three HD1.out
    obtain ⟨c0, c1, c2, c3, c4⟩ := HC1.out.five
    clear hw1
    go_region_with ((go_at_call 71; (with_reducible refine (HM.out _).mono ?_); rintro x w4 ⟨rfl, rfl⟩))
    all_goals
      obtain ⟨⟨z0, z1, z2⟩, hB2⟩ := three_out HX1.out HB1.out (Nat.le_refl _) (.int .i64 y) (.int .i64 m) (.int .i64 d)
      generalize (((w1.setCell ⟨w.heap.size, 0, none⟩ (.int .i64 y)).setCell ⟨w.heap.size, 1, none⟩ (.int .i64 m)).setCell ⟨w.heap.size, 2, none⟩ (.int .i64 d)) = w2 at *
      clear x0 x1 x2 x3 x4 x5 d0 d1 d2 d3 d4 d5 c0 c1 c2 c3 c4 HX1 HB1 HM HD1
      go_wp2_with fail
      refine bodyPost_ret (v := .tuple #[.agg #[.int .i64 y, .int .i64 m, .int .i64 d], .bool false]) (by simp [results, Tryd.results69, go_sem, z0, z1, z2, Act.put]) rfl ⟨y, m, d, false, rfl, hB2.drew, HR.out, HN.out, HZ.out.symm⟩
  | true =>
    rw [hm] at HM
    clear hm hmz
    go_wp2_with fail
    rw [← hw1]
    obtain ⟨x0, x1, x2, x3, x4, x5⟩ := D.Box.three HX1.out
    obtain ⟨d0, d1, d2, d3, d4, d5⟩ := D.Box.three HD1.out
    obtain ⟨c0, c1, c2, c3, c4⟩ := HC1.out.five
    have hgw2 : g ≠ w.heap.size := by omega
    have hgw3 : w0.heap.size ≠ w.heap.size := by omega
    have HALL := Lib.hid (fun (W : World) (hW : Sole w.heap.size w1.heap.size w1 W) => (⟨by
      have hc : CronAt W g [ma, mb, mc, md, me] := HC1.out.block hW hgw2
      obtain ⟨c0, c1, c2, c3, c4⟩ := hc.five
      have hd : D.Box W w0.heap.size 120 #[.int .i64 y, .int .i64 m, .int .i64 d] := (hW.block _ HD1.out.lt hgw3).trans HD1.out
      obtain ⟨d0, d1, d2, _, _, _⟩ := D.Box.three hd
      exact ⟨c0, c1, c2, c3, c4, d0, d1, d2⟩⟩ : PLift (W.cell? ⟨g, 0, none⟩ = some (.int .u64 (U ma)) ∧ W.cell? ⟨g, 1, none⟩ = some (.int .u64 (U mb)) ∧ W.cell? ⟨g, 2, none⟩ = some (.int .u64 (U mc)) ∧ W.cell? ⟨g, 3, none⟩ = some (.int .u64 (U md)) ∧ W.cell? ⟨g, 4, none⟩ = some (.int .u64 (U me)) ∧ W.cell? ⟨w0.heap.size, 0, none⟩ = some (.int .i64 y) ∧ W.cell? ⟨w0.heap.size, 1, none⟩ = some (.int .i64 m) ∧ W.cell? ⟨w0.heap.size, 2, none⟩ = some (.int .i64 d))).down)
    have hBE : Sole w.heap.size w1.heap.size w1 w1 := Sole.of (Below.refl _ _)
    have hBX := Below.refl w1.heap.size w1
    clear hw1
    go_region_held3 (fun W => W.cell? ⟨g, 0, none⟩ = some (.int .u64 (U ma)) ∧ W.cell? ⟨g, 1, none⟩ = some (.int .u64 (U mb)) ∧ W.cell? ⟨g, 2, none⟩ = some (.int .u64 (U mc)) ∧ W.cell? ⟨g, 3, none⟩ = some (.int .u64 (U md)) ∧ W.cell? ⟨g, 4, none⟩ = some (.int .u64 (U me)) ∧ W.cell? ⟨w0.heap.size, 0, none⟩ = some (.int .i64 y) ∧ W.cell? ⟨w0.heap.size, 1, none⟩ = some (.int .i64 m) ∧ W.cell? ⟨w0.heap.size, 2, none⟩ = some (.int .i64 d)) ((refine HALL.out _ ?_; repeat (first | exact hBE | refine Sole.drew ?_ | refine Sole.set ?_ _))) (first
      | (go_at_call 71; (with_reducible refine (HM.out _).mono ?_); rintro x w4 ⟨rfl, rfl⟩)
      | (go_at_call 72; (with_reducible refine (HD.out _ (HL1.out.on hBX.drew)).mono ?_); rintro x w4 ⟨rfl, hb⟩; replace hBE : Sole w.heap.size w1.heap.size w1 w4 := Sole.of (hBX.drew.trans hb); have HX4 := Lib.hid (D.Box.belowAll HX1.out (hBX.drew.trans hb)); have HB4 := Lib.hid (HB1.out.drew.trans (hb.mono HB1.out.size)); obtain ⟨q0, q1, q2, q3, q4, q5⟩ := D.Box.three HX4.out; clear hb))
    rename_i hheld
    clear hheld
    obtain ⟨⟨z0, z1, z2⟩, hB2⟩ := three_out HX4.out HB4.out (Nat.le_refl _) (.int .i64 y) (.int .i64 m) (.int .i64 d)
    generalize (((w4.setCell ⟨w.heap.size, 0, none⟩ (.int .i64 y)).setCell ⟨w.heap.size, 1, none⟩ (.int .i64 m)).setCell ⟨w.heap.size, 2, none⟩ (.int .i64 d)) = w2 at *
    clear x0 x1 x2 x3 x4 x5 d0 d1 d2 d3 d4 d5 c0 c1 c2 c3 c4 HX1 HB1 HM HD1 HALL hBE hBX HX4 HB4 q0 q1 q2 q3 q4 q5
    go_wp2_with fail
    refine bodyPost_ret (v := .tuple #[.agg #[.int .i64 y, .int .i64 m, .int .i64 d], .bool z]) (by simp [results, Tryd.results69, go_sem, z0, z1, z2]) rfl ⟨y, m, d, z, rfl, hB2, HR.out, HN.out, HZ.out.symm⟩
/-- A date, and whether it fits. -/
theorem fit1_any (L : List (BitVec 64)) (n : Int) (g : Nat) (w : World) (hL : LaidC w) (hC : CronAt w g L) (hk : crB L = true) :
    Calls Tryd.prog 69 #[.int .i64 n, .pointer (some ⟨g, 0, none⟩)] w fun x w' => ∃ (y m d : Int) (z : Bool), x = .returned (.tuple #[.agg #[.int .i64 y, .int .i64 m, .int .i64 d], .bool z]) ∧ Below w.heap.size w w' ∧ ((z = true ∧ D.RightZ y m d ∧ D.numZ y m d = n ∧ DayOk L n) ∨ (z = false ∧ ¬ DayOk L n)) := by
  by_cases hn : n < 0 ∨ 2932896 < n
  · refine (fit1_no n g w hn).mono ?_
    rintro x w' ⟨rfl, hb⟩
    exact ⟨0, 0, 0, false, rfl, hb, .inr ⟨rfl, fun h => by have := h.1; have := h.2.1; omega⟩⟩
  · refine (fit1_yes L n g w hL hC hk (by omega) (by omega)).mono ?_
    rintro x w' ⟨y, m, d, z, rfl, hb, hr, hnum, hz⟩
    refine ⟨y, m, d, z, rfl, hb, ?_⟩
    have hf := fitN_is (L := L) hr
    rw [hnum] at hf
    cases z with
    | true => exact .inl ⟨rfl, hr, hnum, by omega, by omega, hf.2 hz.symm⟩
    | false => exact .inr ⟨rfl, fun h => by have := hf.1 h.2.2; rw [← hz] at this; cases this⟩
end Go.Proofs.YthghcffibljclaaDoor
/- search: walked, of the program. -/
namespace Go.Proofs.YthghcffibljclaaDoor
open Go.RowKit

attribute [local go_sem] Oper.semAt_some

/-- The marks of rounds that have ended. -/
def mark (D : Nat) : Deferred := { target := .collected D, args := #[] }
def Marks (B : Nat) (ls : List Nat) (w : World) : Prop := ls.Nodup ∧ ∀ D ∈ ls, B ≤ D ∧ w.heap[D]? = some (.deferred (some []))
theorem Marks.on {B : Nat} {ls : List Nat} {w w' : World} (h : Marks B ls w) (hb : Below w.heap.size w w') : Marks B ls w' :=
  ⟨h.1, fun D hD => ⟨(h.2 D hD).1, (hb.block D (Array.getElem?_eq_some_iff.1 (h.2 D hD).2).1).trans (h.2 D hD).2⟩⟩
theorem Marks.cons {B D : Nat} {ls : List Nat} {w w' : World} (h : Marks B ls w) (hk : ∀ i ∈ ls, w'.heap[i]? = w.heap[i]?) (hD : w.heap.size ≤ D) (hB : B ≤ D) (hw : w'.heap[D]? = some (.deferred (some []))) : Marks B (D :: ls) w' := by
  refine ⟨List.nodup_cons.2 ⟨fun hm => ?_, h.1⟩, ?_⟩
  · have := (Array.getElem?_eq_some_iff.1 (h.2 D hm).2).1
    omega
  · intro i hi
    rcases List.mem_cons.1 hi with rfl | hi
    · exact ⟨hB, hw⟩
    · exact ⟨(h.2 i hi).1, (hk i hi).trans (h.2 i hi).2⟩
theorem leaves_marks {F : Fence} {n M : Nat} {fn : Func} {tmps : Array Value} {R : Ending → World → Prop} {w0 : World} (hM : w0.heap.size ≤ M) : ∀ (ls : List Nat) (w : World), Marks M ls w → Below w0.heap.size w0 w →
    (∀ w', Below w0.heap.size w0 w' → LeavesIn F n Tryd.prog fn tmps R [] .returning w') → LeavesInM F n Tryd.prog fn tmps R (ls.map mark) .returning w
  | [], w, _, hb, hR => hR w hb
  | D :: ls, w, hm, hb, hR => by
    obtain ⟨hlD, hD⟩ := hm.2 D List.mem_cons_self
    have hb2 : Below w0.heap.size w0 (w.putObj D (.deferred none)) := hb.trans (belowK_b (w := w0) (Nat.le_refl _) w D _ _ (by omega) hD rfl rfl)
    refine ⟨by simp, .inl ⟨D, _, rfl, run_takeDeferred hD, leaves_marks hM ls _ ⟨(List.nodup_cons.1 hm.1).2, fun i hi => ⟨(hm.2 i (List.mem_cons_of_mem _ hi)).1, ?_⟩⟩ hb2 hR⟩⟩
    have hne : i ≠ D := fun e => (List.nodup_cons.1 hm.1).1 (e ▸ hi)
    refine Eq.trans ?_ (hm.2 i (List.mem_cons_of_mem _ hi)).2
    simp [World.putObj, Ne.symm hne]
/-- What search comes to. -/
def SearchIs (L : List (BitVec 64)) (first way : Int) (P : Int → Prop) (x : Ending) : Prop :=
  (∃ (k : Nat) (u : Int), k ≤ 2922 ∧ NoneTo L first way P k ∧ Hit L first way P k u ∧ x = .returned (.tuple #[.int .i64 u, .bool true])) ∨
  (NoneTo L first way P 2923 ∧ x = .returned (.tuple #[.int .i64 0, .bool false]))
theorem wayL_on (way : Int) (hs ms : List Int) (n : Int) : onW (wayL way hs) (wayL way ms) n = wayL way (onW hs ms n) := by
  unfold wayL
  split
  · exact onW_rev hs ms n
  · rfl
theorem wayL_len (way : Int) (l : List Int) : (wayL way l).length = l.length := by unfold wayL; split <;> simp
/-- All but two blocks are as they were. -/
structure Duo (g h B : Nat) (w w' : World) : Prop where
  os : w'.os = w.os
  tape : w'.tape = w.tape
  output : w'.output = w.output
  size : w.heap.size ≤ w'.heap.size
  block : ∀ k, k < B → k ≠ g → k ≠ h → w'.heap[k]? = w.heap[k]?
theorem ownFrom_duo {β : Type} {g h B C : Nat} {w : World} (hB : B ≤ w.heap.size) (hC : B ≤ C) : OwnFrom C (fun (_ : β) W => Duo g h B w W) :=
  fun _ W _ _ hs hg hr => ⟨hg.os.trans hs.os, hg.tape.trans hs.tape, hg.output.trans hs.output, Nat.le_trans hs.size hg.size, fun k hk h1 h2 => (hg.block k (by have := hs.size; omega) (fun e => by have := (hr k e.symm).1; omega)).trans (hs.block k hk h1 h2)⟩
theorem Duo.of {g h B : Nat} {w W : World} (hb : Below B w W) (u v : Value) : Duo g h B w ((W.setCell ⟨g, 0, none⟩ u).setCell ⟨h, 0, none⟩ v) :=
  ⟨hb.os, hb.tape, hb.output, by simpa using hb.size, fun k hk h1 h2 => ((Below.heap_setCell _ ⟨h, 0, none⟩ v k h2).trans (Below.heap_setCell _ ⟨g, 0, none⟩ u k h1)).trans (hb.block k hk)⟩
theorem Duo.below {g h B C : Nat} {w0 w W : World} (hd : Duo g h B w W) (hb : Below C w0 w) (hC : C ≤ B) (hg : C ≤ g) (hh : C ≤ h) : Below C w0 W :=
  ⟨hd.os.trans hb.os, hd.tape.trans hb.tape, hd.output.trans hb.output, Nat.le_trans hb.size hd.size, fun k hk => (hd.block k (by omega) (by omega) (by omega)).trans (hb.block k hk)⟩
set_option maxRecDepth 100000 in
set_option maxHeartbeats 2000000 in
theorem search_no (L : List (BitVec 64)) (t way : Int) (f p : Nat) (w : World) (hL : LaidC w) (h5 : L.length = 5) (hk : crB L = false) :
    Calls Tryd.prog 59 #[cronV L, .int .i64 t, .int .i64 way, .func (.func f) #[] #[.pointer (some ⟨p, 0, none⟩)]] w fun x w' => x = .returned (.tuple #[.int .i64 0, .bool false]) ∧ Below w.heap.size w w' := by
  have HK := Lib.hid (fun W hW => ccheck_any L W hW h5)
  have he : crE L = 170 := by unfold crE; rw [hk]; rfl
  rw [he] at HK
  obtain ⟨a, b, c, d, e, rfl⟩ := list_five h5
  have HL := Lib.hid hL
  clear hk he hL
  rw [cronV_five] at *
  unfold fiveV at *
  obtain ⟨WB, hWB, hBB, hCB, hFB⟩ : ∃ W : World, W = (w.alloc (.cells #[.int .u64 (U a), .int .u64 (U b), .int .u64 (U c), .int .u64 (U d), .int .u64 (U e)] 26)).alloc (.cells #[.func (.func f) #[] #[.pointer (some ⟨p, 0, none⟩)]] 65) ∧ Below w.heap.size w W ∧ CronAt W w.heap.size [a, b, c, d, e] ∧ D.Box W (w.heap.size + 1) 65 #[.func (.func f) #[] #[.pointer (some ⟨p, 0, none⟩)]] := ⟨_, rfl, ((Below.refl _ w).alloc (Nat.le_refl _) _).alloc (by simp) _, (CronAt.new w a b c d e).alloc _, by have := D.Box.new (w.alloc (.cells #[.int .u64 (U a), .int .u64 (U b), .int .u64 (U c), .int .u64 (U d), .int .u64 (U e)] 26)) 65 #[.func (.func f) #[] #[.pointer (some ⟨p, 0, none⟩)]]; rwa [World.size_alloc] at this⟩
  have HLB := Lib.hid (HL.out.on hBB)
  clear HL
  go_enter Tryd.func59, Tryd.ntmps59
  go_wp2_with fail
  rw [← hWB]
  clear hWB
  obtain ⟨c0, c1, c2, c3, c4⟩ := hCB.five
  go_step3
  go_wp2_with fail
  have HB := Lib.hid hBB
  clear hBB
  refine (HK.out _ HLB.out.fld).mono ?_
  rintro x w1 ⟨rfl, hb⟩
  have HB1 := Lib.hid (HB.out.trans (hb.mono HB.out.size))
  clear hb
  go_wp2_with fail
  rw [Exit.noGoto_ret]
  exact bodyPost_ret (v := .tuple #[.int .i64 0, .bool false]) (by simp [results, Tryd.results59, go_sem]) rfl ⟨rfl, HB1.out⟩
set_option maxRecDepth 100000 in
set_option maxHeartbeats 2000000 in
theorem search_in (n : Nat) (hn : 3 ≤ n) (L : List (BitVec 64)) (t way : Int) (f p : Nat) (P : Int → Bool) (w : World) (hL : LaidC w) (h5 : L.length = 5) (hk : crB L = true) (hway : way = 1 ∨ way = -1)
    (hE : ∀ (args : Array Value) (W : World), (callFunc f args).run Tryd.prog W = .ok (.enter f args) W)
    (hS : ∀ (u : Int) (W : World), Below w.heap.size w W → Calls Tryd.prog f #[.int .i64 u, .pointer (some ⟨p, 0, none⟩)] W fun e w' => e = .returned (.bool (P u)) ∧ w' = W) :
    CallsIn Fence.wide n Tryd.prog 59 #[cronV L, .int .i64 t, .int .i64 way, .func (.func f) #[] #[.pointer (some ⟨p, 0, none⟩)]] w fun x w' => SearchIs L (dayOf t) way (fun u => P u = true) x ∧ Below w.heap.size w w' := by
  have HK := Lib.hid (fun W hW => ccheck_any L W hW h5)
  have he : crE L = 0 := by unfold crE; rw [hk]; rfl
  rw [he] at HK
  obtain ⟨a, b, c, d, e, rfl⟩ := list_five h5
  have HF := Lib.hid (fun W => fitting_any a b c d e W)
  have HL := Lib.hid hL
  have HD := Lib.hid (fun W => dayOf_any t W)
  have hd0 := dayOf_in t
  clear he hL
  rw [cronV_five] at *
  unfold fiveV at *
  generalize dayOf t = first at *
  obtain ⟨WB, hWB, hBB, hCB, hFB⟩ : ∃ W : World, W = (w.alloc (.cells #[.int .u64 (U a), .int .u64 (U b), .int .u64 (U c), .int .u64 (U d), .int .u64 (U e)] 26)).alloc (.cells #[.func (.func f) #[] #[.pointer (some ⟨p, 0, none⟩)]] 65) ∧ Below w.heap.size w W ∧ CronAt W w.heap.size [a, b, c, d, e] ∧ D.Box W (w.heap.size + 1) 65 #[.func (.func f) #[] #[.pointer (some ⟨p, 0, none⟩)]] := ⟨_, rfl, ((Below.refl _ w).alloc (Nat.le_refl _) _).alloc (by simp) _, (CronAt.new w a b c d e).alloc _, by have := D.Box.new (w.alloc (.cells #[.int .u64 (U a), .int .u64 (U b), .int .u64 (U c), .int .u64 (U d), .int .u64 (U e)] 26)) 65 #[.func (.func f) #[] #[.pointer (some ⟨p, 0, none⟩)]]; rwa [World.size_alloc] at this⟩
  have HLB := Lib.hid (HL.out.on hBB)
  refine callsIn_of_wp_marks Tryd.func59 rfl trivial ?_ rfl
  simp only [Tryd.ntmps59, List.size_toArray, List.length_cons, List.length_nil, Nat.reduceAdd, Nat.reduceSub, Array.replicate_succ, Array.replicate_zero, List.push_toArray, List.append_toArray, List.nil_append, List.cons_append]
  gi_wp2_with fail
  rw [← hWB]
  have hsz : WB.heap.size = w.heap.size + 2 := by rw [hWB]; simp
  clear hWB
  have HB := Lib.hid hBB; have HC := Lib.hid hCB; have HX := Lib.hid hFB
  obtain ⟨c0, c1, c2, c3, c4⟩ := hCB.five
  clear hBB hCB hFB h5
  refine scopeIn ?_
  gi_wp2_with fail
  refine ⟨trivial, (fun _ => by omega), (callsIn_wide.2 (HK.out _ HLB.out.fld)).mono ?_⟩
  rintro x w1 ⟨rfl, hb⟩
  have HB1 := Lib.hid (HB.out.trans (hb.mono HB.out.size))
  have HC1 := Lib.hid (HC.out.on hb); have HX1 := Lib.hid (D.Box.belowAll HX.out hb); have HL1 := Lib.hid (HLB.out.on hb)
  have hsz1 : w.heap.size + 2 ≤ w1.heap.size := by have := hb.size; omega
  clear hb HB HC HX HLB HL HK hsz
  gi_wp2_with fail
  refine wpIn_wide.2 ?_
  obtain ⟨c0, c1, c2, c3, c4⟩ := HC1.out.five
  have HALL := Lib.hid (fun (W : World) (hW : Below w1.heap.size w1 W) => (HC1.out.on hW).five)
  have hBE := Below.refl w1.heap.size w1
  go_region_held3 (fun W => W.cell? ⟨w.heap.size, 0, none⟩ = some (.int .u64 (U a)) ∧ W.cell? ⟨w.heap.size, 1, none⟩ = some (.int .u64 (U b)) ∧ W.cell? ⟨w.heap.size, 2, none⟩ = some (.int .u64 (U c)) ∧ W.cell? ⟨w.heap.size, 3, none⟩ = some (.int .u64 (U d)) ∧ W.cell? ⟨w.heap.size, 4, none⟩ = some (.int .u64 (U e))) (first | exact HALL.out _ hBE | exact HALL.out _ hBE.drew | exact HALL.out _ (hBE.alloc hBE.size _) | exact HALL.out _ (hBE.drew.alloc hBE.size _)) (first
    | (go_at_call 65; (with_reducible refine (HD.out _).mono ?_); rintro x w4 ⟨rfl, rfl⟩)
    | (go_at_call 66; (with_reducible refine (HF.out _).mono ?_); rintro x w4 ⟨rfl, rfl⟩))
  all_goals (rename_i hheld; clear hheld)
  clear c0 c1 c2 c3 c4 HALL hBE HF HD
  gi_wp2_with fail
  refine labelIn ?_
  gi_wp2_with fail
  obtain ⟨w2, hw2, hB2, hbf, hbo, hbc, hs2⟩ : ∃ W : World, W = (((w1.alloc (.cells #[.int .u64 (U a), .int .u64 (U b), .int .u64 (U c), .int .u64 (U d), .int .u64 (U e)] 26)).alloc (.cells #[.int .i64 0] 2)).alloc (.cells #[.bool false] 4)).drew ∧ Below w1.heap.size w1 W ∧ D.Box W (w1.heap.size + 1) 2 #[.int .i64 0] ∧ D.Box W (w1.heap.size + 1 + 1) 4 #[.bool false] ∧ CronAt W w1.heap.size [a, b, c, d, e] ∧ W.heap.size = w1.heap.size + 3 := by
    refine ⟨_, rfl, ((((Below.refl _ w1).alloc (Nat.le_refl _) _).alloc (by simp) _).alloc (by simp; omega) _).drew, ?_, ?_, ?_, by simp⟩
    · show D.Box ((w1.alloc _).alloc _ |>.alloc _) _ _ _
      have := (D.Box.new (w1.alloc (.cells #[.int .u64 (U a), .int .u64 (U b), .int .u64 (U c), .int .u64 (U d), .int .u64 (U e)] 26)) 2 #[.int .i64 0]).alloc (.cells #[.bool false] 4)
      rwa [World.size_alloc] at this
    · have := (D.Box.new ((w1.alloc (.cells #[.int .u64 (U a), .int .u64 (U b), .int .u64 (U c), .int .u64 (U d), .int .u64 (U e)] 26)).alloc (.cells #[.int .i64 0] 2)) 4 #[.bool false])
      rwa [World.size_alloc, World.size_alloc] at this
    · exact ((CronAt.new w1 a b c d e).alloc _).alloc _
  rw [← hw2]
  have HB2 := Lib.hid (HB1.out.trans (hB2.mono HB1.out.size)); have HBF := Lib.hid hbf; have HBO := Lib.hid hbo; have HCF := Lib.hid hbc
  have HC2 := Lib.hid (HC1.out.on hB2); have HX2 := Lib.hid (D.Box.belowAll HX1.out hB2); have HL2 := Lib.hid (HL1.out.on hB2)
  have hlo : w.heap.size + 2 + 3 ≤ w2.heap.size := by omega
  have hsz2 : w1.heap.size + 1 + 1 < w2.heap.size := by omega
  clear hw2 hB2 hbf hbo hbc HC1 HX1 HL1 HB1 hs2 c0 c1 c2 c3 c4
  refine wpIn_loop (fun a' wr => ∃ u14 u15 u16 u17 u26 u27 u28 u29 u30 u31 u32 u33 u34 u35 u36 u37 u38 u39 u40 u41 u42 u43 u44 u45 u46 u47 u48 u49 : Value, ∃ (k : Nat) (ls : List Nat), (k ≤ 2923 ∧ NoneTo [a, b, c, d, e] first way (fun u => P u = true) k ∧ Marks w2.heap.size ls wr ∧ Below w2.heap.size w2 wr) ∧ a' = { tmps := #[(.agg #[.int .u64 (U a), .int .u64 (U b), .int .u64 (U c), .int .u64 (U d), .int .u64 (U e)]), .int .i64 t, .int .i64 way, (.func (.func f) #[] #[.pointer (some ⟨p, 0, none⟩)]), .pointer (some ⟨w.heap.size, 0, none⟩), undef, undef, .pointer (some ⟨w.heap.size + 1, 0, none⟩), .int .i64 0, .bool false, .int .i64 first, (.func (.func 69) #[] #[.pointer (some ⟨w1.heap.size, 0, none⟩)]), .pointer (some ⟨w1.heap.size + 1, 0, none⟩), .pointer (some ⟨w1.heap.size + 1 + 1, 0, none⟩), u14, u15, u16, u17, (.agg #[.int .u64 (U a), .int .u64 (U b), .int .u64 (U c), .int .u64 (U d), .int .u64 (U e)]), .int .i64 0, .bool false, .int .i64 t, .int .i64 first, (.agg #[.int .u64 (U a), .int .u64 (U b), .int .u64 (U c), .int .u64 (U d), .int .u64 (U e)]), (.func (.func 69) #[] #[.pointer (some ⟨w1.heap.size, 0, none⟩)]), .int .i64 (k : Int), u26, u27, u28, u29, u30, u31, u32, u33, u34, u35, u36, u37, u38, u39, u40, u41, u42, u43, u44, u45, u46, u47, u48, u49, undef, undef], defers := ls.map mark }) (fun a' _ => 2923 - (intOf (a'.tmps.getD 25 undef)).toNat) ?start ?round
  case start => exact ⟨_, _, _, _, _, _, _, _, _, _, _, _, _, _, _, _, _, _, _, _, _, _, _, _, _, _, _, _, 0, [], ⟨by omega, NoneTo.zero, ⟨List.nodup_nil, fun D hD => by cases hD⟩, Below.refl _ _⟩, rfl⟩
  case round =>
    rintro a' wr ⟨u14, u15, u16, u17, u26, u27, u28, u29, u30, u31, u32, u33, u34, u35, u36, u37, u38, u39, u40, u41, u42, u43, u44, u45, u46, u47, u48, u49, k, ls, ⟨hk1, hnone, hmarks, hx⟩, rfl⟩
    by_cases hlt : k < 2923
    · have hq : ∃ q : Int, way * (k : Int) = q ∧ -2922 ≤ q ∧ q ≤ 2922 := ⟨way * k, rfl, by rcases hway with rfl | rfl <;> omega, by rcases hway with rfl | rfl <;> omega⟩
      obtain ⟨q, hq, hq0, hq1⟩ := hq
      have HN := Lib.hid hnone; have HMK := Lib.hid hmarks; have HX := Lib.hid hx
      have HFIT := Lib.hid (fit1_any [a, b, c, d, e] (first + q) w1.heap.size wr (HL2.out.on hx) (HCF.out.on hx) hk)
      obtain ⟨c0, c1, c2, c3, c4⟩ := (HC2.out.on hx).five
      clear hnone hmarks hx
      gi_wp2_with fail
      refine ⟨trivial, (fun _ => by omega), (callsIn_wide.2 HFIT.out).mono ?_⟩
      rintro x w3 ⟨y, m, dd, z, rfl, hb, hz⟩
      have HX3 := Lib.hid (HX.out.trans (hb.mono HX.out.size)); have HMK3 := Lib.hid (HMK.out.on hb)
      clear hb HFIT c0 c1 c2 c3 c4 HMK HX
      obtain ⟨w4, hw4, hb4, hbd⟩ : ∃ W : World, W = w3.alloc (.cells #[.int .i64 y, .int .i64 m, .int .i64 dd] 120) ∧ Below w3.heap.size w3 W ∧ D.Box W w3.heap.size 120 #[.int .i64 y, .int .i64 m, .int .i64 dd] := ⟨_, rfl, (Below.refl _ w3).alloc (Nat.le_refl _) _, D.Box.new _ _ _⟩
      have HX4 := Lib.hid (HX3.out.trans (hb4.mono HX3.out.size)); have HMK4 := Lib.hid (HMK3.out.on hb4); have HBD := Lib.hid hbd
      have HL4 := Lib.hid (HL2.out.on HX4.out)
      obtain ⟨c0, c1, c2, c3, c4⟩ := (HC2.out.on HX3.out).five
      have hn3 : w.heap.size < w3.heap.size := by have := HX3.out.size; omega
      have hm3 := Nat.ne_of_lt hn3
      clear hb4 hbd HX3 HMK3
      rcases hz with ⟨rfl, hr, hnum, hok⟩ | ⟨rfl, hno⟩
      · have HT := Lib.hid (timesOf_any a b c d e y m dd way w4 HL4.out)
        gi_wp2_with fail
        rw [← hw4]
        refine ⟨trivial, (fun _ => by omega), (callsIn_wide.2 HT.out).mono ?_⟩
        rintro x w5 ⟨H, M, vh, vm, rfl, htw, hdt, hb⟩
        have HX5 := Lib.hid (HX4.out.trans (hb.mono HX4.out.size)); have HMK5 := Lib.hid (HMK4.out.on hb)
        have HIT := Lib.hid (htw.at_ hdt)
        have HL5 := Lib.hid (HL4.out.on hb)
        clear htw hdt hb HT HMK4 HX4 HL4 HBD hw4 c0 c1 c2 c3 c4 hn3 hm3
        gi_wp2_with fail
        have h1 : 1 ≤ n := by omega
        have hLL : ∀ z : Int, dayL [a, b, c, d, e] z = onW (ints b) (ints a) z := fun z => rfl
        have hw5 : w2.heap.size ≤ w5.heap.size := HX5.out.size
        refine wpIn_rangeFunc_ownF rfl h1 (gf := 75) (lb := #[.pointer (some ⟨w4.heap.size + 1, 0, none⟩), .pointer (some ⟨H, 0, none⟩), .pointer (some ⟨M, 0, none⟩)]) rfl trivial (enters_of Tryd.func75 (by kernel_rfl) rfl)
          (times_stops (n - 1) (by omega) (w4.heap.size + 1) H M y m dd (wayL way (ints b)) (wayL way (ints a)) w5 HIT.out HL5.out.days hr (fun h hh => hour_in hk (mem_wayL.1 hh)) (fun h hh => min_in hk (mem_wayL.1 hh)) (by rw [wayL_len]; exact ints_64 b) (by rw [wayL_len]; exact ints_64 a)) belowK_t (belowK_b (Nat.le_refl _)) (Below.refl _ _) (fun _ => rfl)
          (fun (pre : List Int) W => (∀ u ∈ pre, ¬ P u = true) ∧ Below w5.heap.size w5 W)
          (fun c (pre : List Int) W => (c = .exit 0 ∧ ∃ (pre' : List Int) (u : Int), pre = pre' ++ [u] ∧ (∀ v ∈ pre', ¬ P v = true) ∧ P u = true ∧ D.Box W (w1.heap.size + 1) 2 #[.int .i64 u] ∧ D.Box W (w1.heap.size + 1 + 1) 4 #[.bool true]) ∧ Duo (w1.heap.size + 1) (w1.heap.size + 1 + 1) w5.heap.size w5 W)
          (OwnFrom.and (Own.from (fun s A B row hs hg hr => hs) _) (ownFrom_below (Nat.le_refl _) (Nat.le_refl _)))
          (fun c => OwnFrom.and (Own.from (fun s A B row hs hg hr => by
            obtain ⟨hc, pre', u, h1, h2, h3, h4, h5⟩ := hs
            exact ⟨hc, pre', u, h1, h2, h3, box_kept h4 hg hr, box_kept h5 hg hr⟩) _) (ownFrom_duo (Nat.le_refl _) (Nat.le_refl _)))
          ⟨(fun u hu => by cases hu), Below.refl _ _⟩
          (fun x => { tmps := #[(.agg #[.int .u64 (U a), .int .u64 (U b), .int .u64 (U c), .int .u64 (U d), .int .u64 (U e)]), .int .i64 t, .int .i64 way, (.func (.func f) #[] #[.pointer (some ⟨p, 0, none⟩)]), .pointer (some ⟨w.heap.size, 0, none⟩), undef, undef, .pointer (some ⟨w.heap.size + 1, 0, none⟩), .int .i64 0, .bool false, .int .i64 first, (.func (.func 69) #[] #[.pointer (some ⟨w1.heap.size, 0, none⟩)]), .pointer (some ⟨w1.heap.size + 1, 0, none⟩), .pointer (some ⟨w1.heap.size + 1 + 1, 0, none⟩), .int .i64 (k : Int), .pointer (some ⟨w3.heap.size, 0, none⟩), .bool true, .int .i64 x, (.agg #[.int .u64 (U a), .int .u64 (U b), .int .u64 (U c), .int .u64 (U d), .int .u64 (U e)]), .int .i64 0, .bool false, .int .i64 t, .int .i64 first, (.agg #[.int .u64 (U a), .int .u64 (U b), .int .u64 (U c), .int .u64 (U d), .int .u64 (U e)]), (.func (.func 69) #[] #[.pointer (some ⟨w1.heap.size, 0, none⟩)]), .int .i64 (k : Int), .bool true, .int .i64 (k : Int), (.tuple #[(.agg #[.int .i64 y, .int .i64 m, .int .i64 dd]), .bool true]), (.func (.func 69) #[] #[.pointer (some ⟨w1.heap.size, 0, none⟩)]), .int .i64 first, .int .i64 way, .int .i64 (k : Int), .int .i64 q, .int .i64 (first + q), (.tuple #[(.agg #[.int .i64 y, .int .i64 m, .int .i64 dd]), .bool true]), (.agg #[.int .i64 y, .int .i64 m, .int .i64 dd]), .bool true, .bool true, .bool false, (.agg #[.int .u64 (U a), .int .u64 (U b), .int .u64 (U c), .int .u64 (U d), .int .u64 (U e)]), (.agg #[.int .i64 y, .int .i64 m, .int .i64 dd]), .int .i64 way, (.func (.func 75) #[] #[.pointer (some ⟨w4.heap.size + 1, 0, none⟩), .pointer (some ⟨H, 0, none⟩), .pointer (some ⟨M, 0, none⟩)]), .int .i64 x, u45, u46, u47, u48, u49, undef, undef], defers := [] }) ?assign ?body ?done ?stop
        case assign =>
          intro l x W K hK
          gi_wp2
          exact hK
        case body =>
          rintro l pre x W ⟨hpre, hB⟩ _
          have HPRE := Lib.hid hpre; have HBW := Lib.hid hB
          have HXW := Lib.hid (HX5.out.trans (hB.mono hw5))
          have hSx := hS x W (HB2.out.trans (HXW.out.mono HB2.out.size))
          obtain ⟨e0, f0⟩ := (D.Box.belowAll HX2.out HXW.out).one
          obtain ⟨e1, f1⟩ := (D.Box.belowAll HBF.out HXW.out).one
          obtain ⟨e2, f2⟩ := (D.Box.belowAll HBO.out HXW.out).one
          clear hpre hB
          cases hpx : P x with
          | true =>
            rw [hpx] at hSx
            have HSx := Lib.hid hSx
            clear hSx
            gi_wp2_with fail
            refine ⟨trivial, (fun _ => by omega), (CallsIn.inRound l (callsIn_wide.2 HSx.out)).mono ?_⟩
            rintro e W2 ⟨rfl, rfl⟩
            gi_wp2_with fail
            have hb1 := D.Box.belowAll HBF.out HXW.out
            have hb2 := D.Box.belowAll HBO.out HXW.out
            exact ⟨(KeepsOthers.setCell _ _ _).trans (KeepsOthers.setCell _ _ _), ⟨rfl, pre, x, rfl, HPRE.out, hpx, box_far (box_one hb1 _) (by omega) _, box_one (box_far hb2 (by omega) _) _⟩, Duo.of HBW.out _ _⟩
          | false =>
            rw [hpx] at hSx
            have HSx := Lib.hid hSx
            clear hSx
            gi_wp2_with fail
            refine ⟨trivial, (fun _ => by omega), (CallsIn.inRound l (callsIn_wide.2 HSx.out)).mono ?_⟩
            rintro e W2 ⟨rfl, rfl⟩
            gi_wp2_with fail
            refine ⟨KeepsOthers.refl _, Below.refl _ _, fun u hu => ?_, HBW.out⟩
            rcases List.mem_append.1 hu with hu | hu
            · exact HPRE.out u hu
            · rw [List.mem_singleton] at hu
              rw [hu, hpx]; simp
        case done =>
          rintro D ys W hD rfl ⟨hall, hB⟩ hK
          rw [wayL_on, hnum] at hall
          have hall2 : ∀ u ∈ dayL [a, b, c, d, e] (first + q), ¬ P u = true := fun u hu => hall u (mem_wayL.2 hu)
          have HALL2 := Lib.hid hall2; have HB5 := Lib.hid (HX5.out.trans (hB.mono hw5)); have HK5 := Lib.hid hK
          have HMK6 := Lib.hid (HMK5.out.cons (w' := W) (fun i hi => hB.block i (Array.getElem?_eq_some_iff.1 (HMK5.out.2 i hi).2).1) hD (Nat.le_trans hw5 hD) hK)
          clear hall hall2 hB hK
          gi_wp2_with fail
          refine ⟨⟨_, _, _, _, _, _, _, _, _, _, _, _, _, _, _, _, _, _, _, _, _, _, _, _, _, _, _, _, k + 1, D :: ls, ⟨by omega, HN.out.succ (fun _ => by rw [hq]; exact HALL2.out), HMK6.out, HB5.out⟩, rfl⟩, ?_⟩
          simp [intOf]
          omega
        case stop =>
          rintro D c pre W hD hpre ⟨⟨rfl, pre', u, rfl, hne, hpu, hbf, hbo⟩, hduo⟩ hK
          rw [wayL_on, hnum] at hpre
          have HPR := Lib.hid hpre; have HNE := Lib.hid hne; have HDU := Lib.hid hduo
          have HMK6 := Lib.hid (HMK5.out.cons (w' := W) (fun i hi => hduo.block i (Array.getElem?_eq_some_iff.1 (HMK5.out.2 i hi).2).1 (by have := (HMK5.out.2 i hi).1; omega) (by have := (HMK5.out.2 i hi).1; omega)) hD (Nat.le_trans hw5 hD) hK)
          have hwb : w.heap.size ≤ w5.heap.size := by omega
          have HB6 : Hid (Below w.heap.size w W) := Lib.hid (hduo.below (HB2.out.trans (HX5.out.mono HB2.out.size)) hwb (by omega) (by omega))
          obtain ⟨e1, f1⟩ := hbf.one
          obtain ⟨e2, f2⟩ := hbo.one
          clear hpre hne hduo hK hbf hbo
          gi_wp2_with fail
          refine wpIn_wide.2 ?_
          go_region
          gi_wp2_with fail
          rw [Exit.noGoto_ret]
          refine leaves_marks (w0 := w) (M := w2.heap.size) (by omega) (D :: ls) _ HMK6.out HB6.out.drew (fun w' hb => ⟨.tuple #[.int .i64 u, .bool true], by simp [results, Tryd.f59, go_sem], .inl ⟨k, u, by omega, HN.out, ?_, rfl⟩, hb⟩)
          obtain ⟨post, hpost⟩ := HPR.out
          unfold Hit
          rw [hq]
          exact ⟨hok, hpu, pre', post, by rw [← hLL] at hpost; rw [← hpost]; simp, HNE.out⟩
      · have HNO := Lib.hid (fun h => hno (hq ▸ h : DayOk [a, b, c, d, e] (first + q)))
        clear hno
        gi_wp2_with fail
        rw [← hw4]
        refine ⟨⟨_, _, _, _, _, _, _, _, _, _, _, _, _, _, _, _, _, _, _, _, _, _, _, _, _, _, _, _, k + 1, ls, ⟨by omega, HN.out.succ (fun h => absurd (hq ▸ h) HNO.out), HMK4.out, HX4.out⟩, rfl⟩, ?_⟩
        simp [intOf]
        omega
    · have hk2 : k = 2923 := by omega
      subst hk2
      have HN := Lib.hid hnone; have HMK := Lib.hid hmarks; have HX := Lib.hid hx
      obtain ⟨e1, f1⟩ := (D.Box.belowAll HBF.out HX.out).one
      obtain ⟨e2, f2⟩ := (D.Box.belowAll HBO.out HX.out).one
      clear hnone hmarks hx
      gi_wp2_with fail
      refine wpIn_wide.2 ?_
      go_region
      gi_wp2_with fail
      rw [Exit.noGoto_ret]
      exact leaves_marks (w0 := w) (M := w2.heap.size) (by omega) ls _ HMK.out (HB2.out.trans (HX.out.mono HB2.out.size)).drew (fun w' hb => ⟨.tuple #[.int .i64 0, .bool false], by simp [results, Tryd.f59, go_sem], .inr ⟨HN.out, rfl⟩, hb⟩)
end Go.Proofs.YthghcffibljclaaDoor
/- Within each horizon there is a time, if there is one at all; the rarest day; a day's quarters: plain. -/
namespace Go.Proofs.YthghcffibljclaaDoor

def asksOf (L : List (BitVec 64)) : Asks where
  mo := fun m => (L.getD 3 0#64).getLsbD m.toNat
  da := fun d => (L.getD 2 0#64).getLsbD d.toNat
  we := fun w => (L.getD 4 0#64).getLsbD w.toNat
  dw := decide (L.getD 2 0#64 = wholeM 2)
  ww := decide (L.getD 4 0#64 = wholeM 4)
theorem asks_ok {L : List (BitVec 64)} (hk : crB L = true) : (asksOf L).Ok where
  we := by
    obtain ⟨i, hi⟩ := ints_some hk (k := 4) (by omega)
    have hin := ints_in hk (k := 4) (by omega) hi
    rw [mem_ints] at hi
    refine ⟨i, by simpa [loK] using hin.1, by simpa [hiK] using hin.2, ?_⟩
    rw [hasB_pos (by have := hin.1; simp [loK] at this; omega)] at hi
    exact hi
  dw := by
    intro h d d1 d2
    have h := of_decide_eq_true h
    show (L.getD 2 0#64).getLsbD d.toNat = true
    rw [h, whole_bit, decide_eq_true_iff]
    refine ⟨by omega, ?_, ?_⟩
    · show 1 ≤ _; omega
    · show _ ≤ 31; omega
  ww := by
    intro h d d1 d2
    have h := of_decide_eq_true h
    show (L.getD 4 0#64).getLsbD d.toNat = true
    rw [h, whole_bit, decide_eq_true_iff]
    refine ⟨by omega, ?_, ?_⟩
    · show 0 ≤ _; omega
    · show _ ≤ 6; omega
theorem asks_fit {L : List (BitVec 64)} (hk : crB L = true) {y m d : Int} (h : D.RightZ y m d) : (asksOf L).fit y m d = fitD L y m d := by
  have hok := asks_ok hk
  obtain ⟨m1, m2, d1, d2⟩ := right_in h
  have hda := hok.dw; have hwa := hok.ww
  have hw : 0 ≤ (D.numZ y m d + 4) % 7 ∧ (D.numZ y m d + 4) % 7 ≤ 6 := by omega
  unfold Asks.fit fitD dayF wdZ
  generalize (D.numZ y m d + 4) % 7 = wd at *
  have a1 := fun q => hda q d d1 d2
  have a2 := fun q => hwa q wd hw.1 hw.2
  show ((L.getD 3 0#64).getLsbD m.toNat && (if (decide (L.getD 2 0#64 = wholeM 2) || decide (L.getD 4 0#64 = wholeM 4)) = true then (L.getD 2 0#64).getLsbD d.toNat && (L.getD 4 0#64).getLsbD wd.toNat else (L.getD 2 0#64).getLsbD d.toNat || (L.getD 4 0#64).getLsbD wd.toNat)) = _
  change decide (L.getD 2 0#64 = wholeM 2) = true → (L.getD 2 0#64).getLsbD d.toNat = true at a1
  change decide (L.getD 4 0#64 = wholeM 4) = true → (L.getD 4 0#64).getLsbD wd.toNat = true at a2
  generalize (L.getD 3 0#64).getLsbD m.toNat = z3 at *
  generalize (L.getD 2 0#64).getLsbD d.toNat = z2 at *
  generalize (L.getD 4 0#64).getLsbD wd.toNat = z4 at *
  congr 1
  by_cases h2 : L.getD 2 0#64 = wholeM 2
  · rw [if_pos h2, if_pos (by rw [decide_eq_true h2]; rfl), a1 (decide_eq_true h2), Bool.true_and]
  · rw [if_neg h2]
    by_cases h4 : L.getD 4 0#64 = wholeM 4
    · rw [if_pos h4, if_pos (by rw [decide_eq_true h4]; simp), a2 (decide_eq_true h4), Bool.and_true]
    · rw [if_neg h4, if_neg (by rw [decide_eq_false h2, decide_eq_false h4]; simp)]
theorem TC_window (L : List (BitVec 64)) : Window (TC L) := by
  rintro ⟨u, hu⟩ n h0 h1
  have hk := hu.1
  obtain ⟨y, m, d, hr, hn, hf⟩ := hu.2.2.1
  rw [← asks_fit hk hr] at hf
  obtain ⟨y', m', d', hr', hf', hlo, hhi⟩ := ever_window (asks_ok hk) hr hf h0 h1
  rw [asks_fit hk hr'] at hf'
  have hrange := D.num_range hr'
  have hok : DayOk L (D.numZ y' m' d') := ⟨hrange.1, hrange.2, (fitN_is hr').2 hf'⟩
  obtain ⟨v, hv⟩ := dayL_some hk (D.numZ y' m' d')
  have hd := dayL_in hk hv
  exact ⟨v, hok.times hk hv, by omega, by omega⟩
/-! the rarest day -/
def leapL : List (BitVec 64) := [1#64, 1#64, 536870912#64, 4#64, 127#64]
theorem leap_ok : crB leapL = true := by decide +kernel
theorem leap_bits : ints 1#64 = [0] ∧ (∀ i : Nat, i < 64 → (536870912#64).getLsbD i = decide (i = 29)) ∧ (∀ i : Nat, i < 64 → (4#64).getLsbD i = decide (i = 2)) ∧ (∀ i : Nat, i < 7 → (127#64).getLsbD i = true) ∧ (127#64) = wholeM 4 ∧ 536870912#64 ≠ wholeM 2 := by decide +kernel
theorem leap_fit {y m d : Int} (h : D.RightZ y m d) : fitD leapL y m d = true ↔ m = 2 ∧ d = 29 := by
  obtain ⟨_, b2, b3, _, b5, b6⟩ := leap_bits
  obtain ⟨m1, m2, d1, d2⟩ := right_in h
  show dayF 536870912#64 4#64 127#64 d.toNat m.toNat (wdZ y m d).toNat = true ↔ _
  unfold dayF
  rw [if_neg b6, if_pos b5, b2 _ (by omega), b3 _ (by omega), Bool.and_eq_true, decide_eq_true_iff, decide_eq_true_iff]
  omega
theorem leap_day (n : Int) : dayL leapL n = [n * 86400] := by
  show onW (ints 1#64) (ints 1#64) n = _
  rw [leap_bits.1]
  simp [onW]
theorem leap_time {u : Int} (h : TC leapL u) : ∃ y : Int, D.RightZ y 2 29 ∧ u = D.numZ y 2 29 * 86400 := by
  obtain ⟨_, _, ⟨y, m, d, hr, hn, hf⟩, hm⟩ := h
  obtain ⟨rfl, rfl⟩ := (leap_fit hr).1 hf
  rw [leap_day, List.mem_singleton] at hm
  exact ⟨y, hr, by omega⟩
theorem leap_is {y : Int} (hr : D.RightZ y 2 29) : TC leapL (D.numZ y 2 29 * 86400) := by
  have hrange := D.num_range hr
  exact DayOk.times leap_ok ⟨hrange.1, hrange.2, (fitN_is hr).2 ((leap_fit hr).2 ⟨rfl, rfl⟩)⟩ (by rw [leap_day]; simp)
theorem leap_between {y : Int} (h : D.RightZ y 2 29) : D.numZ y 2 29 ≤ 46080 ∨ 49001 ≤ D.numZ y 2 29 := by
  obtain ⟨y0, y1, d1, d2⟩ := h
  have hl : D.leapZ y = true := by
    cases hz : D.leapZ y with
    | true => rfl
    | false =>
      have : D.mlZ y 2 = 28 := by simp [D.mlZ, hz]
      omega
  rw [D.leapZ_iff] at hl
  rw [num_leap, dy_year y y0]
  clear d1 d2
  have hc : y ≤ 2096 ∨ 2104 ≤ y := by omega
  rcases hc with hc | hc
  · left
    have : (y - 1) / 100 = 19 ∨ (y - 1) / 100 = 20 := by omega
    clear hl
    omega
  · right
    clear hl
    have : ∃ z, y = z + 2104 ∧ 0 ≤ z := ⟨y - 2104, by omega, by omega⟩
    obtain ⟨z, rfl, hz⟩ := this
    have h1 : (z + 2104 - 1) / 4 ≥ 525 := by omega
    have h2 : (z + 2104 - 1) / 100 ≤ 21 + z := by omega
    have h3 : (z + 2104 - 1) / 400 ≥ 5 := by omega
    omega
theorem leap_two : D.RightZ 2096 2 29 ∧ D.numZ 2096 2 29 = 46080 ∧ D.RightZ 2104 2 29 ∧ D.numZ 2104 2 29 = 49001 := by
  refine ⟨right_leap (by omega) (by omega) (by decide), ?_, right_leap (by omega) (by omega) (by decide), ?_⟩
  · rw [num_leap, dy_year 2096 (by omega)]; decide
  · rw [num_leap, dy_year 2104 (by omega)]; decide
theorem leap_next : IsNext (TC leapL) 3981312000 4233686400 := by
  obtain ⟨h1, e1, h2, e2⟩ := leap_two
  have ht := leap_is h2
  rw [e2] at ht
  refine ⟨ht, by omega, ?_, ?_⟩
  · rw [dayOf_time (by omega) (by omega)]; omega
  · intro u hu hau
    obtain ⟨y, hr, rfl⟩ := leap_time hu
    have := leap_between hr
    omega
theorem leap_last : IsLast (TC leapL) 4233686399 3981312000 := by
  obtain ⟨h1, e1, h2, e2⟩ := leap_two
  have ht := leap_is h1
  rw [e1] at ht
  refine ⟨ht, by omega, ?_, ?_⟩
  · rw [dayOf_time (by omega) (by omega)]; omega
  · intro u hu hub
    obtain ⟨y, hr, rfl⟩ := leap_time hu
    have := leap_between hr
    omega
/-! a day's quarters -/
def quarL : List (BitVec 64) := [32769#64, 16777215#64, 4294967294#64, 8190#64, 127#64]
theorem quar_ok : crB quarL = true := by decide +kernel
theorem quar_bits : ints 32769#64 = [0, 15] ∧ 4294967294#64 = wholeM 2 ∧ 8190#64 = wholeM 3 ∧ 127#64 = wholeM 4 ∧ 16777215#64 = wholeM 1 := by decide +kernel
theorem quar_first : fitN quarL 0 := by
  refine ⟨1970, 1, 1, ⟨by omega, by omega, by omega, by decide⟩, by decide, ?_⟩
  show dayF 4294967294#64 8190#64 127#64 1 1 (wdZ 1970 1 1).toNat = true
  decide +kernel
theorem quar_is {u : Int} (h : TC quarL u) : u % 3600 = 0 ∨ u % 3600 = 900 := by
  obtain ⟨_, _, _, hm⟩ := h
  obtain ⟨h, hh, m, hm, e⟩ := mem_onW.1 hm
  have hm2 : m ∈ ints 32769#64 := hm
  rw [quar_bits.1] at hm2
  have : m = 0 ∨ m = 15 := by simpa using hm2
  omega
theorem quar_in {h m : Int} (hh : 0 ≤ h ∧ h ≤ 23) (hm : m = 0 ∨ m = 15) : TC quarL (h * 3600 + m * 60) := by
  have hok : DayOk quarL 0 := ⟨by omega, by omega, quar_first⟩
  refine hok.times quar_ok (mem_onW.2 ⟨h, ?_, m, ?_, by omega⟩)
  · show h ∈ ints 16777215#64
    rw [mem_ints, quar_bits.2.2.2.2, hasB_pos hh.1, whole_bit, decide_eq_true_iff]
    refine ⟨by omega, ?_, ?_⟩
    · show 0 ≤ _; omega
    · show _ ≤ 23; omega
  · show m ∈ ints 32769#64
    rw [quar_bits.1]
    simpa using hm
theorem quar_chain : Chain (TC quarL) 0 3600 9 [900, 3600] := by
  rw [Chain]
  refine .inr ⟨900, [3600], ⟨?_, by omega, ?_⟩, by omega, rfl, ?_⟩
  · have := quar_in (h := 0) (m := 15) (by omega) (.inr rfl); simpa using this
  · intro u hu h0
    have := quar_is hu
    omega
  · rw [Chain]
    refine .inr ⟨3600, [], ⟨?_, by omega, ?_⟩, by omega, rfl, ?_⟩
    · have := quar_in (h := 1) (m := 0) (by omega) (.inl rfl); simpa using this
    · intro u hu h0
      have := quar_is hu
      omega
    · rw [Chain]
      refine .inl ⟨?_, rfl⟩
      intro u hu h0
      exact h0
end Go.Proofs.YthghcffibljclaaDoor
/- Next, Last and Ever: walked, of the program. -/
namespace Go.Proofs.YthghcffibljclaaDoor
open Go.RowKit

/-- What Next comes to. -/
def NextIs (L : List (BitVec 64)) (a : Int) (x : Ending) : Prop :=
  (∃ t : Int, IsNext (TC L) a t ∧ x = .returned (.tuple #[.int .i64 t, .bool true])) ∨ (NoNext (TC L) a ∧ x = .returned (.tuple #[.int .i64 0, .bool false]))
def LastIs (L : List (BitVec 64)) (a : Int) (x : Ending) : Prop :=
  (∃ t : Int, IsLast (TC L) a t ∧ x = .returned (.tuple #[.int .i64 t, .bool true])) ∨ (NoLast (TC L) a ∧ x = .returned (.tuple #[.int .i64 0, .bool false]))
theorem next_of_search {L : List (BitVec 64)} (hk : crB L = true) {a : Int} {x : Ending} (h : SearchIs L (dayOf a) 1 (fun u => decide (a < u) = true) x) : NextIs L a x := by
  simp only [decide_eq_true_eq] at h
  rcases h with ⟨k, u, hk2, hn, hh, rfl⟩ | ⟨hn, rfl⟩
  · exact .inl ⟨u, next_hit hk hk2 hn hh, rfl⟩
  · exact .inr ⟨next_miss hn, rfl⟩
theorem last_of_search {L : List (BitVec 64)} (hk : crB L = true) {a : Int} {x : Ending} (h : SearchIs L (dayOf a) (-1) (fun u => decide (u ≤ a) = true) x) : LastIs L a x := by
  simp only [decide_eq_true_eq] at h
  rcases h with ⟨k, u, hk2, hn, hh, rfl⟩ | ⟨hn, rfl⟩
  · exact .inl ⟨u, last_hit hk hk2 hn hh, rfl⟩
  · exact .inr ⟨last_miss hn, rfl⟩
theorem enters_next : ∀ (args : Array Value) (W : World), (callFunc 60 args).run Tryd.prog W = .ok (.enter 60 args) W := enters_of Tryd.func60 (by kernel_rfl) rfl
theorem enters_last : ∀ (args : Array Value) (W : World), (callFunc 61 args).run Tryd.prog W = .ok (.enter 61 args) W := enters_of Tryd.func61 (by kernel_rfl) rfl
theorem search_next (L : List (BitVec 64)) (a : Int) (p : Nat) (w : World) (hL : LaidC w) (h5 : L.length = 5) (hp : p < w.heap.size) (hb : w.cell? ⟨p, 0, none⟩ = some (.int .i64 a)) :
    Calls Tryd.prog 59 #[cronV L, .int .i64 a, .int .i64 1, .func (.func 60) #[] #[.pointer (some ⟨p, 0, none⟩)]] w fun x w' => NextIs L a x ∧ Below w.heap.size w w' := by
  cases hk : crB L with
  | false =>
    refine (search_no L a 1 _ p w hL h5 hk).mono ?_
    rintro x w' ⟨rfl, h⟩
    exact ⟨.inr ⟨(fun u hu => absurd (hk.symm.trans hu.1) (by simp)), rfl⟩, h⟩
  | true =>
    refine (callsIn_wide.1 (search_in 3 (by omega) L a 1 60 p (fun u => decide (a < u)) w hL h5 hk (.inl rfl) enters_next (fun u W hW => sought_next u a p W ((hW.cell (p := ⟨p, 0, none⟩) hp).trans hb)))).mono ?_
    rintro x w' ⟨h, h2⟩
    exact ⟨next_of_search hk h, h2⟩
theorem search_last (L : List (BitVec 64)) (a : Int) (p : Nat) (w : World) (hL : LaidC w) (h5 : L.length = 5) (hp : p < w.heap.size) (hb : w.cell? ⟨p, 0, none⟩ = some (.int .i64 a)) :
    Calls Tryd.prog 59 #[cronV L, .int .i64 a, .int .i64 (-1), .func (.func 61) #[] #[.pointer (some ⟨p, 0, none⟩)]] w fun x w' => LastIs L a x ∧ Below w.heap.size w w' := by
  cases hk : crB L with
  | false =>
    refine (search_no L a (-1) _ p w hL h5 hk).mono ?_
    rintro x w' ⟨rfl, h⟩
    exact ⟨.inr ⟨(fun u hu => absurd (hk.symm.trans hu.1) (by simp)), rfl⟩, h⟩
  | true =>
    refine (callsIn_wide.1 (search_in 3 (by omega) L a (-1) 61 p (fun u => decide (u ≤ a)) w hL h5 hk (.inr rfl) enters_last (fun u W hW => sought_last u a p W ((hW.cell (p := ⟨p, 0, none⟩) hp).trans hb)))).mono ?_
    rintro x w' ⟨h, h2⟩
    exact ⟨last_of_search hk h, h2⟩
theorem pair_cells (w : World) (a b c d e : BitVec 64) (t : Int) :
    ∃ W : World, W = (w.alloc (.cells #[.int .u64 (U a), .int .u64 (U b), .int .u64 (U c), .int .u64 (U d), .int .u64 (U e)] 26)).alloc (.cells #[.int .i64 t] 2) ∧ Below w.heap.size w W ∧ CronAt W w.heap.size [a, b, c, d, e] ∧ D.Box W (w.heap.size + 1) 2 #[.int .i64 t] ∧ W.heap.size = w.heap.size + 2 := by
  refine ⟨_, rfl, ((Below.refl _ w).alloc (Nat.le_refl _) _).alloc (by simp) _, (CronAt.new w a b c d e).alloc _, ?_, by simp⟩
  have := D.Box.new (w.alloc (.cells #[.int .u64 (U a), .int .u64 (U b), .int .u64 (U c), .int .u64 (U d), .int .u64 (U e)] 26)) 2 #[.int .i64 t]
  rwa [World.size_alloc] at this
set_option maxRecDepth 100000 in
theorem next_any (L : List (BitVec 64)) (t : Int) (w : World) (hL : LaidC w) (h5 : L.length = 5) :
    Calls Tryd.prog 44 #[cronV L, .int .i64 t] w fun x w' => NextIs L t x ∧ Below w.heap.size w w' := by
  obtain ⟨a, b, c, d, e, rfl⟩ := list_five h5
  obtain ⟨W, hW, hb, hc, hx, hs⟩ := pair_cells w a b c d e t
  have HS := Lib.hid (search_next [a, b, c, d, e] t (w.heap.size + 1) W (hL.on hb) rfl (by omega) hx.one.1)
  have HB := Lib.hid hb
  obtain ⟨c0, c1, c2, c3, c4⟩ := hc.five
  obtain ⟨e0, _⟩ := hx.one
  clear hL h5 hb hs hx hc
  rw [cronV_five] at *
  unfold fiveV at *
  go_enter Tryd.func44, Tryd.ntmps44
  go_wp2_with fail
  rw [← hW]
  clear hW
  refine HS.out.mono ?_
  rintro x w' ⟨h, hb⟩
  have HB2 := Lib.hid (HB.out.trans (hb.mono HB.out.size))
  clear hb HS
  rcases h with ⟨u, hu, rfl⟩ | ⟨hn, rfl⟩
  · have HU := Lib.hid hu
    clear hu
    go_wp2_with fail
    exact bodyPost_ret (v := .tuple #[.int .i64 u, .bool true]) (by simp [results, Tryd.results44, go_sem]) rfl ⟨.inl ⟨u, HU.out, rfl⟩, HB2.out⟩
  · have HU := Lib.hid hn
    clear hn
    go_wp2_with fail
    exact bodyPost_ret (v := .tuple #[.int .i64 0, .bool false]) (by simp [results, Tryd.results44, go_sem]) rfl ⟨.inr ⟨HU.out, rfl⟩, HB2.out⟩
set_option maxRecDepth 100000 in
theorem nlast_any (L : List (BitVec 64)) (t : Int) (w : World) (hL : LaidC w) (h5 : L.length = 5) :
    Calls Tryd.prog 55 #[cronV L, .int .i64 t] w fun x w' => LastIs L t x ∧ Below w.heap.size w w' := by
  obtain ⟨a, b, c, d, e, rfl⟩ := list_five h5
  obtain ⟨W, hW, hb, hc, hx, hs⟩ := pair_cells w a b c d e t
  have HS := Lib.hid (search_last [a, b, c, d, e] t (w.heap.size + 1) W (hL.on hb) rfl (by omega) hx.one.1)
  have HB := Lib.hid hb
  obtain ⟨c0, c1, c2, c3, c4⟩ := hc.five
  obtain ⟨e0, _⟩ := hx.one
  clear hL h5 hb hs hx hc
  rw [cronV_five] at *
  unfold fiveV at *
  go_enter Tryd.func55, Tryd.ntmps55
  go_wp2_with fail
  rw [← hW]
  clear hW
  refine HS.out.mono ?_
  rintro x w' ⟨h, hb⟩
  have HB2 := Lib.hid (HB.out.trans (hb.mono HB.out.size))
  clear hb HS
  rcases h with ⟨u, hu, rfl⟩ | ⟨hn, rfl⟩
  · have HU := Lib.hid hu
    clear hu
    go_wp2_with fail
    exact bodyPost_ret (v := .tuple #[.int .i64 u, .bool true]) (by simp [results, Tryd.results55, go_sem]) rfl ⟨.inl ⟨u, HU.out, rfl⟩, HB2.out⟩
  · have HU := Lib.hid hn
    clear hn
    go_wp2_with fail
    exact bodyPost_ret (v := .tuple #[.int .i64 0, .bool false]) (by simp [results, Tryd.results55, go_sem]) rfl ⟨.inr ⟨HU.out, rfl⟩, HB2.out⟩
/-- Whether a time's day is within the Horizon. -/
def EverZ (L : List (BitVec 64)) : Prop := ∃ u, TC L u ∧ u / 86400 ≤ 2922
theorem ever_of_next {L : List (BitVec 64)} {t : Int} (h : IsNext (TC L) (-1) t) : EverZ L := ⟨t, h.1, by have := h.2.2.1; have e : dayOf (-1) = 0 := rfl; omega⟩
theorem never_of_next {L : List (BitVec 64)} (h : NoNext (TC L) (-1)) : ¬ EverZ L := by
  rintro ⟨u, hu, h2⟩
  have := h u hu (by have := hu.2.1.1; omega)
  have e : dayOf (-1) = 0 := rfl
  omega
set_option maxRecDepth 100000 in
theorem ever_any (L : List (BitVec 64)) (w : World) (hL : LaidC w) (h5 : L.length = 5) :
    Calls Tryd.prog 29 #[cronV L] w fun x w' => ∃ z : Bool, x = .returned (.bool z) ∧ (z = true ↔ EverZ L) ∧ Below w.heap.size w w' := by
  obtain ⟨a, b, c, d, e, rfl⟩ := list_five h5
  obtain ⟨W, hW, hb, hc⟩ : ∃ W : World, W = w.alloc (.cells #[.int .u64 (U a), .int .u64 (U b), .int .u64 (U c), .int .u64 (U d), .int .u64 (U e)] 26) ∧ Below w.heap.size w W ∧ CronAt W w.heap.size [a, b, c, d, e] := ⟨_, rfl, (Below.refl _ w).alloc (Nat.le_refl _) _, CronAt.new w a b c d e⟩
  have HS := Lib.hid (next_any [a, b, c, d, e] (-1) W (hL.on hb) rfl)
  have HB := Lib.hid hb
  obtain ⟨c0, c1, c2, c3, c4⟩ := hc.five
  clear hL h5 hb hc
  rw [cronV_five] at *
  unfold fiveV at *
  go_enter Tryd.func29, Tryd.ntmps29
  go_wp2_with fail
  rw [← hW]
  clear hW
  refine HS.out.mono ?_
  rintro x w' ⟨h, hb⟩
  have HB2 := Lib.hid (HB.out.trans (hb.mono HB.out.size))
  clear hb HS
  rcases h with ⟨u, hu, rfl⟩ | ⟨hn, rfl⟩
  · have HU := Lib.hid (ever_of_next hu)
    clear hu
    go_wp2_with fail
    go_ret
    exact ⟨true, rfl, ⟨fun _ => HU.out, fun _ => rfl⟩, HB2.out⟩
  · have HU := Lib.hid (never_of_next hn)
    clear hn
    go_wp2_with fail
    go_ret
    exact ⟨false, rfl, ⟨fun h => (by cases h), fun h => absurd h HU.out⟩, HB2.out⟩
end Go.Proofs.YthghcffibljclaaDoor
/- From a walk to the row: what every law of this seat shares. -/
namespace Go.Proofs.YthghcffibljclaaDoor
open Go.ChangeShapes Go.WideShapes Go.ChangeAt Go.WideMaps Go.WideElems Go.RowKit

theorem own : ownKnob Tryd.prog.godebug = none := by kernel_rfl
theorem laidOut : laidOutB Tryd.prog = true := by kernel_rfl
theorem gTab : Tryd.prog.globalNamed "math/bits.deBruijn64tab" = some 3 := by kernel_rfl
theorem tTab : (Tryd.prog.globals[3]?).map (·.type) = some 158 := by kernel_rfl
theorem cU8 : Tryd.prog.cellsOf 5 = 1 := by kernel_rfl
theorem gEnds : Tryd.prog.globalNamed "curfew/field.ends" = some 0 := by kernel_rfl
theorem tEnds : (Tryd.prog.globals[0]?).map (·.type) = some 115 := by kernel_rfl
theorem cRun : Tryd.prog.cellsOf 114 = 2 := by kernel_rfl
theorem cInt : Tryd.prog.cellsOf 3 = 1 := by kernel_rfl
theorem lt_of_var {W : World} {n : String} {g : Nat} {cs : Array Value} (hg : Tryd.prog.globalNamed n = some g) (hv : W.var? Tryd.prog n = some cs) : g < W.heap.size := by
  unfold World.var? at hv
  rw [hg] at hv
  simp only [Option.bind_some] at hv
  rcases Nat.lt_or_ge g W.heap.size with hl | hl
  · exact hl
  · rw [Array.getElem?_eq_none (by simpa using hl)] at hv; cases hv
theorem tab_data : (Rows.laid_math_bits_deBruijn64tab : DataW Unit) = .agg (Lib.deBruijn64tab.map fun n : Nat => .lit (.int .u8 (n : Int))) := by rfl
theorem tab_len : Lib.deBruijn64tab.length = 64 := by decide
theorem ends_data : (Rows.laid_curfew_field_ends : DataW Unit) = .agg ((List.range 5).map fun k => .agg [.lit (.int .i64 (loK k : Nat)), .lit (.int .i64 (hiK k : Nat))]) := by rfl
theorem at_drop {cs : List Value} {j k : Nat} {v : Value} (h : (cs.drop j).take (k + 1) = v :: [] ∨ ∃ r, (cs.drop j).take (k + 1) = v :: r) : cs[j]? = some v := by
  obtain ⟨r, hr⟩ : ∃ r, (cs.drop j).take (k + 1) = v :: r := h.elim (fun e => ⟨[], e⟩) id
  have := congrArg (fun l => l[0]?) hr
  simpa using this
theorem lt_of_cell {w : World} {b o : Nat} {v : Value} (h : w.cell? ⟨b, o, none⟩ = some v) : b < w.heap.size := by
  rcases Nat.lt_or_ge b w.heap.size with hl | hl
  · exact hl
  · unfold World.cell? at h; rw [Array.getElem?_eq_none (by simpa using hl)] at h; simp at h
theorem tab_cells {W : World} {fuel : Nat} {cs : List Value} {q : List MemPlace} (h : DataW.trod (fun _ => ()) Tryd.prog W 0 (fun _ => true) false fuel 158 cs = some (.agg (Lib.deBruijn64tab.map fun n : Nat => .lit (.int .u8 (n : Int))), q)) (j : Nat) (hj : j < 64) : cs[j]? = some (.int .u8 ((Lib.deBruijn64tab.getD j 0 : Nat) : Int)) := by
  obtain ⟨xs, m1, rfl, hx1, hlen, hn3, hel⟩ := DataW.trod_array Tryd.underlying158 h
  simp only [Prod.mk.injEq, DataW.agg.injEq] at hx1
  have hx := hx1.1
  have h0 := hel j hj
  rw [cU8, Nat.mul_one] at h0
  have hjx : j < xs.length := by omega
  rw [List.getElem?_eq_getElem hjx] at h0
  obtain ⟨k, e1, e2, _⟩ := DataW.trod_int Tryd.underlying5 h0
  have hq : (Lib.deBruijn64tab.map fun n : Nat => (DataW.lit (.int .u8 (n : Int)) : DataW Unit))[j]? = some (.lit (.int .u8 k)) := by
    rw [hx, List.getElem?_map, List.getElem?_eq_getElem hjx, e2]; rfl
  rw [List.getElem?_map, List.getElem?_eq_getElem (by rw [tab_len]; exact hj)] at hq
  simp only [Option.map_some, Option.some.injEq, DataW.lit.injEq, Lit.int.injEq, true_and] at hq
  rw [at_drop (k := 0) (Or.inl e1), ← hq, List.getD_eq_getElem?_getD, List.getElem?_eq_getElem (by rw [tab_len]; exact hj)]; rfl
theorem ends_cells {W : World} {fuel : Nat} {cs : List Value} {q : List MemPlace} (h : DataW.trod (fun _ => ()) Tryd.prog W 0 (fun _ => true) false fuel 115 cs = some (.agg ((List.range 5).map fun k => .agg [.lit (.int .i64 (loK k : Nat)), .lit (.int .i64 (hiK k : Nat))]), q)) (j : Nat) (hj : j < 5) :
    cs[j * 2]? = some (.int .i64 (loK j : Nat)) ∧ cs[j * 2 + 1]? = some (.int .i64 (hiK j : Nat)) := by
  obtain ⟨xs, m1, rfl, hx1, hlen, hn3, hel⟩ := DataW.trod_array Tryd.underlying115 h
  simp only [Prod.mk.injEq, DataW.agg.injEq] at hx1
  have hx := hx1.1
  have h0 := hel j hj
  rw [cRun] at h0
  have hjx : j < xs.length := by omega
  rw [List.getElem?_eq_getElem hjx] at h0
  obtain ⟨ys, m2, rfl, hy1, hylen, hy3, hyel⟩ := DataW.trod_struct Tryd.underlying114 h0
  have hq : ((List.range 5).map fun k => (DataW.agg [.lit (.int .i64 (loK k : Nat)), .lit (.int .i64 (hiK k : Nat))] : DataW Unit))[j]? = some (.agg (ys.map (·.1))) := by
    rw [hx, List.getElem?_map, List.getElem?_eq_getElem hjx, hy1]; rfl
  rw [List.getElem?_map, List.getElem?_range hj] at hq
  simp only [Option.map_some, Option.some.injEq, DataW.agg.injEq] at hq
  have hlen2 : ys.length = 2 := by have := congrArg List.length hq; simpa using this.symm
  have hf : ∀ i, i < 2 → ∀ f : Field, f.type = 3 → f.offset = i → DataW.trod (fun _ => ()) Tryd.prog W 0 (fun _ => true) false m2 f.type ((((cs.drop (j * 2)).take 2).drop f.offset).take (Tryd.prog.cellsOf f.type)) = ys[i]? → ∃ z, cs[j * 2 + i]? = some (.int .i64 z) ∧ (ys.map (·.1))[i]? = some (.lit (.int .i64 z)) := by
    intro i hi f ht ho h
    rw [ht, ho, cInt] at h
    have hiy : i < ys.length := by omega
    rw [List.getElem?_eq_getElem hiy] at h
    obtain ⟨z, e1, e2, _⟩ := DataW.trod_int Tryd.underlying3 h
    refine ⟨z, ?_, by rw [List.getElem?_map, List.getElem?_eq_getElem hiy, e2]; rfl⟩
    have h1 := at_drop (k := 0) (Or.inl e1)
    rw [List.getElem?_take, if_pos hi, List.getElem?_drop] at h1
    rw [← h1]
  obtain ⟨z0, p0, q0⟩ := hf 0 (by omega) _ rfl rfl (hyel 0 _ rfl)
  obtain ⟨z1, p1, q1⟩ := hf 1 (by omega) _ rfl rfl (hyel 1 _ rfl)
  rw [← hq] at q0 q1
  simp only [List.getElem?_cons_zero, List.getElem?_cons_succ, Option.some.injEq, DataW.lit.injEq, Lit.int.injEq, true_and] at q0 q1
  exact ⟨by rw [q0]; exact p0, by rw [q1]; exact p1⟩
theorem spot_none {w : World} {b off : Nat} {spot : Option Nat} {v : Value} (h : w.cell? (((⟨b, off, spot⟩ : Addr).add 0).add 0) = some v) : spot = none := by
  simpa [Addr.add] using World.cell?_spot h
theorem below_all {H : Type} {enc : TypeId × Value → H} {P : Program} (hl : laidOutB P = true) {W W' : World} (hb : Below W.heap.size W W') :
    ∀ (ts : List TypeId) (vs : List Value) (ds : List (DataW H)) (ps : List MemPlace), (∀ t ∈ ts, P.readableRec t = true ∧ t < P.types.size) → (∀ x ∈ ps, x.block < W.heap.size) →
      DataW.TrodAll enc P W 0 (fun _ => true) true ts vs ds ps → DataW.TrodAll enc P W' 0 (fun b => decide (b < W.heap.size)) true ts vs ds ps
  | [], [], [], _, _, _, h => h
  | [], _ :: _, _, _, _, _, h => by simp [DataW.TrodAll] at h
  | [], [], _ :: _, _, _, _, h => by simp [DataW.TrodAll] at h
  | t :: ts, vs, ds, ps, ht, hp, h => by
    obtain ⟨v, vs', d, ds', p, q, rfl, rfl, rfl, h1, h2⟩ := trodAll_cons h
    have k1 := hb.trod hl (ht t (by simp)).1 (ht t (by simp)).2 h1 (fun x hx => hp x (by simp [hx]))
    have k2 := below_all hl hb ts vs' ds' q (fun t h => ht t (by simp [h])) (fun x hx => hp x (by simp [hx])) h2
    exact trodAll_cons_mk k1 k2
theorem law_post {H : Type} {enc : TypeId × Value → H} {P : Program} {f : Func} {s : ChangeSpec} {apart : Bool} {W W' : World} {args : Array Value} {ds : List (DataW H)} {before : List MemPlace} {tb : TypeId}
    (hl : laidOutB P = true) (hs : s.fn H ds = { results := [.lit (.bool true)], args := ds }) (hv : s.vars = []) (hr : f.resultTypes = #[tb]) (hb1 : P.underlying tb = some .bool)
    (hall : (f.params.toList.all fun t => P.readableRec t && decide (t < P.types.size)) = true) (hW : DataW.Whole enc P f.params.toList s.vars apart W args.toList ds [] before) (hb : Below W.heap.size W W') :
    s.post enc P f apart true false false W args (.bool true) W' := by
  have ht : ∀ t ∈ f.params.toList, P.readableRec t = true ∧ t < P.types.size := fun t h => by simpa using List.all_eq_true.1 hall t h
  have hlt := hW.lt
  have hW0 := hW
  obtain ⟨p, q, hA, hV, rfl, _, _⟩ := hW0
  rw [hv] at hV
  obtain ⟨_, rfl⟩ := trodVars_none hV
  refine ⟨ds, [], p ++ [], [], p, [], hW, ?_, ?_, ?_, hb.frame _, fun h => by cases h⟩
  · rw [List.append_nil, hs, hr]
    exact trodAll_mk1 (shut_bool hb1 _)
  · rw [List.append_nil, hs]
    exact below_all hl hb _ _ _ _ ht (fun x hx => hlt x (by simp [hx])) hA
  · rw [List.append_nil, hs, hv]
    exact rfl

/-- The wrap that hands over what the row lists, and the world's shape. -/
theorem returns_and_shaped {H : Type} {enc : TypeId × Value → H} {a : Assume} {C : Checked} {os : Os} {f : FuncId} {fn : Func} {s : ChangeSpec} {conds : List PathCond} {apart fresh handsOn again : Bool} {X : World → Array Value → Prop}
    (hX : ∀ (w w' : World) (args : Array Value), w.heap = w'.heap → X w args → X w' args)
    (own : ownKnob C.prog.godebug = none) (started : os.Started) (noInit : C.prog.inits.idxOf? f = none) (hfn : C.prog.funcs[f]? = some fn)
    (witness : ∃ (w : World) (tape : Tape) (i : Input), w.os = os ∧ (w.forCall tape i).Shaped C.prog ∧ i.vars = [] ∧ Input.okWide C.prog (w.forCall tape i) .any w.heap.size f i ∧
      ((s.pre enc C.prog fn conds apart (w.forCall tape i).memory i.args ∧ X (w.forCall tape i).memory i.args) ∧ sizedMet enc C.prog fn (OpenSpec.ofChange s) apart (w.forCall tape i).memory i.args) ∧ a.holds C.prog (lone (Frame.enter C.prog f i.args .normal) [] (w.forCall tape i)))
    (contract : ∀ (W : World) (base : Nat) (args : Array Value) (ds gs : List (DataW H)) (before : List MemPlace),
      (∀ (j : Nat) t v, fn.params[j]? = some t → args[j]? = some v → Value.okWide C.prog W .any base t v) →
      DataW.Whole enc C.prog fn.params.toList s.vars apart W args.toList ds gs before →
      X W args → W.ShapedOpen C.prog →
      Calls C.prog f args W fun e W' => ∃ v, e = .returned v ∧ s.post enc C.prog fn apart fresh handsOn again W args v W') :
    ReturnsInHanded a C os f .any (fun w args => (s.pre enc C.prog fn conds apart w args ∧ X w args) ∧ sizedMet enc C.prog fn (OpenSpec.ofChange s) apart w args) (s.post enc C.prog fn apart fresh handsOn again) := by
  refine returnsInHanded_of_calls own started noInit witness ?_
  intro w tape i _ hsh _ hok hpre _
  obtain ⟨_, _, _, fn', hfn', _, _, _, _, hval⟩ := hok
  have e : fn' = fn := Option.some.inj (hfn'.symm.trans hfn)
  subst e
  obtain ⟨⟨⟨ds, gs, before, hw, _⟩, hx⟩, _⟩ := hpre
  have hw' := DataW.Whole.of_heap (w' := w.forCall tape i) (by rfl) hw
  refine (contract (w.forCall tape i) w.heap.size i.args ds gs before hval hw' (hX _ _ _ (by rfl) hx) hsh).mono fun e W' ⟨v, he, hp⟩ => ?_
  subst he
  exact ChangeSpec.post_blind hp
namespace D
theorem gLen : Tryd.prog.globalNamed "curfew/days.lengths" = some 2 := by kernel_rfl
theorem tLen : (Tryd.prog.globals[2]?).map (·.type) = some 157 := by kernel_rfl
theorem gEra : Tryd.prog.globalNamed "curfew/days.eras" = some 1 := by kernel_rfl
theorem tEra : (Tryd.prog.globals[1]?).map (·.type) = some 152 := by kernel_rfl
theorem cEra : Tryd.prog.cellsOf 140 = 3 := by kernel_rfl
def lenN : List Int := [31, 28, 31, 30, 31, 30, 31, 31, 30, 31, 30, 31]
def eraN : List (Int × Int × Int) := [(400, 146097, 20), (100, 36524, 3), (4, 1461, 24), (1, 365, 3)]
theorem len_data : (Rows.laid_curfew_days_lengths : DataW Unit) = .agg (lenN.map fun n => .lit (.int .i64 n)) := by rfl
theorem era_data : (Rows.laid_curfew_days_eras : DataW Unit) = .agg (eraN.map fun n => .agg [.lit (.int .i64 n.1), .lit (.int .i64 n.2.1), .lit (.int .i64 n.2.2)]) := by rfl
theorem len_cells {W : World} {fuel : Nat} {cs : List Value} {q : List MemPlace} (h : DataW.trod (fun _ => ()) Tryd.prog W 0 (fun _ => true) false fuel 157 cs = some (.agg (lenN.map fun n => .lit (.int .i64 n)), q)) (j : Nat) (hj : j < 12) : cs[j]? = some (.int .i64 (lenC j)) := by
  obtain ⟨xs, m1, rfl, hx1, hlen, hn3, hel⟩ := DataW.trod_array Tryd.underlying157 h
  simp only [Prod.mk.injEq, DataW.agg.injEq] at hx1
  have hx := hx1.1
  have h0 := hel j hj
  rw [cInt, Nat.mul_one] at h0
  have hjx : j < xs.length := by omega
  rw [List.getElem?_eq_getElem hjx] at h0
  obtain ⟨k, e1, e2, _⟩ := DataW.trod_int Tryd.underlying3 h0
  have hq : (lenN.map fun n => (DataW.lit (.int .i64 n) : DataW Unit))[j]? = some (.lit (.int .i64 k)) := by
    rw [hx, List.getElem?_map, List.getElem?_eq_getElem hjx, e2]; rfl
  rw [List.getElem?_map] at hq
  have hl : lenN[j]? = some (lenC j) := by
    unfold lenC lenN
    rw [List.getD_eq_getElem?_getD, List.getElem?_eq_getElem (by simpa using hj)]; rfl
  rw [hl] at hq
  simp only [Option.map_some, Option.some.injEq, DataW.lit.injEq, Lit.int.injEq, true_and] at hq
  rw [← hq] at e1
  exact at_drop (k := 0) (Or.inl e1)
set_option maxRecDepth 100000 in
theorem era_cells {W : World} {fuel : Nat} {cs : List Value} {q : List MemPlace} (h : DataW.trod (fun _ => ()) Tryd.prog W 0 (fun _ => true) false fuel 152 cs = some (.agg (eraN.map fun n => .agg [.lit (.int .i64 n.1), .lit (.int .i64 n.2.1), .lit (.int .i64 n.2.2)]), q)) (j : Nat) (hj : j < 4) : cs[3 * j]? = some (.int .i64 (eraC (3 * j))) ∧ cs[3 * j + 1]? = some (.int .i64 (eraC (3 * j + 1))) ∧ cs[3 * j + 2]? = some (.int .i64 (eraC (3 * j + 2))) := by
  obtain ⟨xs, m1, rfl, hx1, hlen, hn3, hel⟩ := DataW.trod_array Tryd.underlying152 h
  simp only [Prod.mk.injEq, DataW.agg.injEq] at hx1
  have hx := hx1.1
  have h0 := hel j hj
  rw [cEra] at h0
  have hjx : j < xs.length := by omega
  rw [List.getElem?_eq_getElem hjx] at h0
  obtain ⟨ys, m2, rfl, hy1, hylen, hy3, hyel⟩ := DataW.trod_struct Tryd.underlying140 h0
  have hq : (eraN.map fun n => (DataW.agg [.lit (.int .i64 n.1), .lit (.int .i64 n.2.1), .lit (.int .i64 n.2.2)] : DataW Unit))[j]? = some (.agg (ys.map (·.1))) := by
    rw [hx, List.getElem?_map, List.getElem?_eq_getElem hjx, hy1]; rfl
  have hl : (eraN.map fun n => (DataW.agg [.lit (.int .i64 n.1), .lit (.int .i64 n.2.1), .lit (.int .i64 n.2.2)] : DataW Unit))[j]? = some (.agg [.lit (.int .i64 (eraC (3 * j))), .lit (.int .i64 (eraC (3 * j + 1))), .lit (.int .i64 (eraC (3 * j + 2)))]) := by
    rcases four_k hj with rfl | rfl | rfl | rfl <;> rfl
  rw [hl] at hq
  simp only [Option.some.injEq, DataW.agg.injEq] at hq
  have hlen3 : ys.length = 3 := by have := congrArg List.length hq; simpa using this.symm
  have hf : ∀ i, i < 3 → ∀ f : Field, f.type = 3 → f.offset = i → DataW.trod (fun _ => ()) Tryd.prog W 0 (fun _ => true) false m2 f.type ((((cs.drop (j * 3)).take 3).drop f.offset).take (Tryd.prog.cellsOf f.type)) = ys[i]? → ∃ z, cs[3 * j + i]? = some (.int .i64 z) ∧ (ys.map (·.1))[i]? = some (.lit (.int .i64 z)) := by
    intro i hi f ht ho h
    rw [ht, ho, cInt] at h
    have hiy : i < ys.length := by omega
    rw [List.getElem?_eq_getElem hiy] at h
    obtain ⟨z, e1, e2, _⟩ := DataW.trod_int Tryd.underlying3 h
    refine ⟨z, ?_, by rw [List.getElem?_map, List.getElem?_eq_getElem hiy, e2]; rfl⟩
    have h1 := at_drop (k := 0) (Or.inl e1)
    rw [List.getElem?_take, if_pos hi, List.getElem?_drop] at h1
    rw [← h1]
    congr 1
    omega
  obtain ⟨z0, p0, q0⟩ := hf 0 (by omega) _ rfl rfl (hyel 0 _ rfl)
  obtain ⟨z1, p1, q1⟩ := hf 1 (by omega) _ rfl rfl (hyel 1 _ rfl)
  obtain ⟨z2, p2, q2⟩ := hf 2 (by omega) _ rfl rfl (hyel 2 _ rfl)
  rw [← hq] at q0 q1 q2
  simp only [List.getElem?_cons_zero, List.getElem?_cons_succ, Option.some.injEq, DataW.lit.injEq, Lit.int.injEq, true_and] at q0 q1 q2
  exact ⟨by rw [q0]; exact p0, by rw [q1]; exact p1, by rw [q2]; exact p2⟩
end D

def laidH8 : List (String × DataW Unit) := [("curfew/days.lengths", Rows.laid_curfew_days_lengths), ("curfew/days.eras", Rows.laid_curfew_days_eras), ("math/bits.deBruijn64tab", Rows.laid_math_bits_deBruijn64tab), ("curfew/field.ends", Rows.laid_curfew_field_ends)]
/-- What the condition gives the walks. -/
theorem laid8_of {W : World} (h : laidMetH Tryd.prog laidH8 W) : LaidC W := by
  rw [MakeChecks.laidMetH_plain _ _ _ (by kernel_rfl)] at h
  obtain ⟨ps, ⟨ga, ta, csa, fa, pa, qa, hga, hta, hva, hda, ⟨gb, tb, csb, fb, pb, qb, hgb, htb, hvb, hdb, ⟨g2, t2, cs2, f2, p2, q2, hg2, ht2, hv2, hd2, ⟨g5, t5, cs5, f5, p5, q5, hg5, ht5, hv5, hd5, _, _⟩, _⟩, _⟩, _⟩, _, _⟩ := h
  obtain rfl := Option.some.inj (D.gLen.symm.trans hga)
  obtain rfl := Option.some.inj (D.tLen.symm.trans hta)
  obtain rfl := Option.some.inj (D.gEra.symm.trans hgb)
  obtain rfl := Option.some.inj (D.tEra.symm.trans htb)
  obtain rfl := Option.some.inj (gTab.symm.trans hg2)
  obtain rfl := Option.some.inj (tTab.symm.trans ht2)
  obtain rfl := Option.some.inj (gEnds.symm.trans hg5)
  obtain rfl := Option.some.inj (tEnds.symm.trans ht5)
  rw [D.len_data] at hda
  rw [D.era_data] at hdb
  rw [tab_data] at hd2
  rw [ends_data] at hd5
  have hla := lt_of_var hga hva; have hlb := lt_of_var hgb hvb; have hl2 := lt_of_var hg2 hv2; have hl5 := lt_of_var hg5 hv5
  refine ⟨⟨fun j hj => ?_, fun k hk => ?_, fun k hk => ?_, by omega⟩, ⟨fun j hj => ?_, fun j hj => ?_, by omega⟩⟩
  · rw [tab_len] at hj
    rw [World.var?_cell hg2 hv2 j, ← Array.getElem?_toList]
    exact tab_cells hd2 j hj
  · rw [World.var?_cell hg5 hv5 (k * 2), ← Array.getElem?_toList]
    exact (ends_cells hd5 k hk).1
  · rw [World.var?_cell hg5 hv5 (k * 2 + 1), ← Array.getElem?_toList]
    exact (ends_cells hd5 k hk).2
  · rw [World.var?_cell hga hva j, ← Array.getElem?_toList]
    exact D.len_cells hda j hj
  · rw [World.var?_cell hgb hvb j, ← Array.getElem?_toList]
    have hc := D.era_cells hdb (j / 3) (by omega)
    rcases (show j % 3 = 0 ∨ j % 3 = 1 ∨ j % 3 = 2 by omega) with h | h | h
    · have := hc.1; rwa [show 3 * (j / 3) = j by omega] at this
    · have := hc.2.1; rwa [show 3 * (j / 3) + 1 = j by omega] at this
    · have := hc.2.2; rwa [show 3 * (j / 3) + 2 = j by omega] at this
end Go.Proofs.YthghcffibljclaaDoor
/- Some: walked, of the program. -/
namespace Go.Proofs.YthghcffibljclaaDoor
open Go.RowKit

theorem info_i64 : (Tryd.prog.info? 2).map (fun i => (i.zero, i.size, i.bytes)) = some (some (.int .i64 0), 1, 8) := by kernel_rfl
def spanV (s0 s1 : Int) : Value := .agg #[.int .i64 s0, .int .i64 s1]
theorem span_cells (w : World) (a b c d e : BitVec 64) (s0 s1 : Int) :
    ∃ W : World, W = (w.alloc (.cells #[.int .u64 (U a), .int .u64 (U b), .int .u64 (U c), .int .u64 (U d), .int .u64 (U e)] 26)).alloc (.cells #[.int .i64 s0, .int .i64 s1] 55) ∧ Below w.heap.size w W ∧ CronAt W w.heap.size [a, b, c, d, e] ∧ D.Box W (w.heap.size + 1) 55 #[.int .i64 s0, .int .i64 s1] ∧ W.heap.size = w.heap.size + 2 := by
  refine ⟨_, rfl, ((Below.refl _ w).alloc (Nat.le_refl _) _).alloc (by simp) _, (CronAt.new w a b c d e).alloc _, ?_, by simp⟩
  have := D.Box.new (w.alloc (.cells #[.int .u64 (U a), .int .u64 (U b), .int .u64 (U c), .int .u64 (U d), .int .u64 (U e)] 26)) 55 #[.int .i64 s0, .int .i64 s1]
  rwa [World.size_alloc] at this
theorem two_box {W : World} {g : Nat} {t : TypeId} {x y : Value} (h : D.Box W g t #[x, y]) : W.cell? ⟨g, 0, none⟩ = some x ∧ W.cell? ⟨g, 1, none⟩ = some y := ⟨h.cell 0, h.cell 1⟩
/-- What Some comes to. -/
def SomeIs (L : List (BitVec 64)) (s0 s1 most : Int) (w : World) (x : Ending) (w' : World) : Prop :=
  ((crB L = false ∧ x = .returned (.tuple #[.slice none 0 0, .int .i64 170])) ∨
   (crB L = true ∧ (most < 0 ∨ 64 < most) ∧ x = .returned (.tuple #[.slice none 0 0, .int .i64 2])) ∨
   (crB L = true ∧ 0 ≤ most ∧ most ≤ 64 ∧ ∃ (v : Value) (l : List Int), x = .returned (.tuple #[v, .int .i64 0]) ∧ w'.ownsRow w.heap.size 2 1 v l.length (l.map int1) ∧ Chain (TC L) s0 s1 most.toNat l)) ∧ Below w.heap.size w w'
theorem chain_zero (T : Int → Prop) (a b : Int) : Chain T a b 0 [] := by rw [Chain]
end Go.Proofs.YthghcffibljclaaDoor
/- The document's behind and fits: walked. -/
namespace Go.Proofs.YthghcffibljclaaDoor
open Go.RowKit

theorem fit_ref8 {a b c d e : BitVec 64} {y m n : Int} (h : D.RightZ y m n) (hk : crB [a, b, c, d, e] = true) :
    fitD [a, b, c, d, e] y m n = (hasB d m && (if (elems c).length = 31 then hasB c n && hasB e (wdZ y m n) else if (elems e).length = 7 then hasB c n && hasB e (wdZ y m n) else hasB c n || hasB e (wdZ y m n))) := by
  have i2 : (elems c).length = 31 ↔ c = wholeM 2 := whole_iff (k := 2) (by omega) (crB_field hk 2 (by omega))
  have i4 : (elems e).length = 7 ↔ e = wholeM 4 := whole_iff (k := 4) (by omega) (crB_field hk 4 (by omega))
  rw [fit_prog h]
  simp only [i2, i4, beq_iff_eq]
/-- The date behind. -/
def behindZ (y m d y' m' d' : Int) : Prop := (d < D.mlZ y m ∧ y' = y ∧ m' = m ∧ d' = d + 1) ∨ (d = D.mlZ y m ∧ m < 12 ∧ y' = y ∧ m' = m + 1 ∧ d' = 1) ∨ (d = D.mlZ y m ∧ m = 12 ∧ y' = y + 1 ∧ m' = 1 ∧ d' = 1)
theorem behind_next {y m d y' m' d' : Int} (h : D.RightZ y m d) (hn : D.numZ y m d + 1 ≤ 2932896) (hb : behindZ y m d y' m' d') : D.RightZ y' m' d' ∧ D.numZ y' m' d' = D.numZ y m d + 1 := by
  obtain ⟨a, b, c⟩ := D.num_next h
  rcases hb with ⟨h1, rfl, rfl, rfl⟩ | ⟨h1, h2, rfl, rfl, rfl⟩ | ⟨h1, h2, rfl, rfl, rfl⟩
  · exact a h1
  · exact b h1 h2
  · obtain ⟨e, r⟩ := c h1 h2
    refine ⟨r ?_, e⟩
    apply Int.not_le.1
    intro hy
    have h5 := h.2.1
    obtain rfl : y = 9999 := by omega
    have h6 : D.numZ (9999 + 1) 1 1 = 2932897 := by
      unfold D.numZ
      rw [show ((9999 : Int) + 1 - 1970).toNat = 8030 by decide, D.dyZ_last]; decide
    omega
theorem two_dates (w : World) (y m d : Int) : ∃ W : World, W = (w.alloc (.cells #[.int .i64 y, .int .i64 m, .int .i64 d] 120)).alloc (.cells #[.int .i64 0, .int .i64 0, .int .i64 0] 120) ∧ Below w.heap.size w W ∧ D.Box W w.heap.size 120 #[.int .i64 y, .int .i64 m, .int .i64 d] ∧ D.Box W (w.heap.size + 1) 120 #[.int .i64 0, .int .i64 0, .int .i64 0] := by
  refine ⟨_, rfl, ((Below.refl _ w).alloc (Nat.le_refl _) _).alloc (by simp) _, (D.Box.new _ _ _).alloc _, ?_⟩
  have := D.Box.new (w.alloc (.cells #[.int .i64 y, .int .i64 m, .int .i64 d] 120)) 120 #[.int .i64 0, .int .i64 0, .int .i64 0]
  rwa [World.size_alloc] at this
theorem set_far {w W : World} {B g i : Nat} (h : Below B w W) (hg : B ≤ g) (u : Value) : Below B w (W.setCell ⟨g, i, none⟩ u) := h.setCell (p := ⟨g, i, none⟩) hg u
end Go.Proofs.YthghcffibljclaaDoor
/- The document's On and Fit: walked. -/
namespace Go.Proofs.YthghcffibljclaaDoor
open Go.RowKit

theorem own_types {W : World} {B B' n m : Nat} {v v' : Value} {xs ys : List Value} (h : W.ownsRow B 3 1 v n xs) (h' : W.ownsRow B' 2 1 v' m ys) : v.ownBlock = none ∨ v.ownBlock ≠ v'.ownBlock := by
  rcases h.2 with ⟨rfl, _⟩ | ⟨g, c, cur, rfl, _, hg, _⟩
  · exact .inl rfl
  · right
    rcases h'.2 with ⟨rfl, _⟩ | ⟨g', c', cur', rfl, _, hg', _⟩
    · intro he; cases he
    · intro he
      simp only [Value.ownBlock, Option.some.injEq] at he
      subst he
      rw [hg] at hg'
      cases hg'
end Go.Proofs.YthghcffibljclaaDoor
/- The document's Fit: walked. -/
namespace Go.Proofs.YthghcffibljclaaDoor
open Go.RowKit

/-- The days that fit, of so many, rising. -/
def FitL (L : List (BitVec 64)) (from_ : Int) (k : Nat) (l : List Int) : Prop := l.Pairwise (· < ·) ∧ l.length ≤ k ∧ ∀ n, n ∈ l ↔ from_ ≤ n ∧ n < from_ + k ∧ fitN L n
theorem FitL.zero (L : List (BitVec 64)) (from_ : Int) : FitL L from_ 0 [] := ⟨List.Pairwise.nil, Nat.le_refl _, fun n => ⟨(fun h => absurd h (by simp)), (fun h => absurd h.1 (by have := h.2.1; omega))⟩⟩
theorem FitL.yes {L : List (BitVec 64)} {from_ : Int} {k : Nat} {l : List Int} (h : FitL L from_ k l) (hf : fitN L (from_ + k)) : FitL L from_ (k + 1) (l ++ [from_ + k]) := by
  refine ⟨List.pairwise_append.2 ⟨h.1, List.pairwise_singleton _ _, fun x hx y hy => ?_⟩, by have := h.2.1; simp; omega, fun n => ?_⟩
  · rw [List.mem_singleton] at hy
    have := (h.2.2 x).1 hx
    omega
  · rw [List.mem_append, List.mem_singleton, h.2.2 n]
    constructor
    · rintro (⟨a, b, c⟩ | rfl)
      · exact ⟨a, by omega, c⟩
      · exact ⟨by omega, by omega, hf⟩
    · rintro ⟨a, b, c⟩
      by_cases e : n = from_ + k
      · exact .inr e
      · exact .inl ⟨a, by omega, c⟩
theorem FitL.no {L : List (BitVec 64)} {from_ : Int} {k : Nat} {l : List Int} (h : FitL L from_ k l) (hf : ¬ fitN L (from_ + k)) : FitL L from_ (k + 1) l := by
  refine ⟨h.1, by have := h.2.1; omega, fun n => ?_⟩
  rw [h.2.2 n]
  constructor
  · rintro ⟨a, b, c⟩
    exact ⟨a, by omega, c⟩
  · rintro ⟨a, b, c⟩
    by_cases e : n = from_ + k
    · subst e; exact absurd c hf
    · exact ⟨a, by omega, c⟩
theorem grown_date (W : World) (g : Nat) (u0 u1 u2 : Value) : W.grownBy (((W.setCell ⟨g, 0, none⟩ u0).setCell ⟨g, 1, none⟩ u1).setCell ⟨g, 2, none⟩ u2) (some g) :=
  ⟨rfl, rfl, rfl, by simp, fun k _ hne => by
    have hk : k ≠ g := fun e => hne (by rw [e])
    exact (Below.heap_setCell _ ⟨g, 2, none⟩ u2 k hk).trans ((Below.heap_setCell _ ⟨g, 1, none⟩ u1 k hk).trans (Below.heap_setCell W ⟨g, 0, none⟩ u0 k hk))⟩
theorem below_date {B : Nat} {w W : World} {g : Nat} (h : Below B w W) (hg : B ≤ g) (u0 u1 u2 : Value) : Below B w (((W.setCell ⟨g, 0, none⟩ u0).setCell ⟨g, 1, none⟩ u1).setCell ⟨g, 2, none⟩ u2) :=
  ((h.setCell (p := ⟨g, 0, none⟩) hg u0).setCell (p := ⟨g, 1, none⟩) hg u1).setCell (p := ⟨g, 2, none⟩) hg u2
theorem row_far {W : World} {B n g : Nat} {e : TypeId} {v : Value} {xs : List Value} (h : W.ownsRow B e 1 v n xs) (hg : g < B) (u0 u1 u2 : Value) : (((W.setCell ⟨g, 0, none⟩ u0).setCell ⟨g, 1, none⟩ u1).setCell ⟨g, 2, none⟩ u2).ownsRow B e 1 v n xs := by
  refine h.kept (grown_date W g u0 u1 u2) ?_
  cases hb : v.ownBlock with
  | none => exact .inl rfl
  | some k =>
    right
    intro he
    have := (h.lt k hb).1
    cases he
    omega
end Go.Proofs.YthghcffibljclaaDoor
/- The document's Next, Last and Ever: walked. -/
namespace Go.Proofs.YthghcffibljclaaDoor
open Go.RowKit

theorem hit_at {L : List (BitVec 64)} {first : Int} {P : Int → Prop} {k j : Nat} {x : Int} (hd : DayOk L (first + k)) (hx : (dayL L (first + k))[j]? = some x) (hp : P x) (hne : ∀ (i : Nat) (y : Int), i < j → (dayL L (first + k))[i]? = some y → ¬ P y) : Hit L first 1 P k x := by
  have e : first + 1 * (k : Int) = first + k := by omega
  unfold Hit
  rw [e]
  refine ⟨hd, hp, (dayL L (first + k)).take j, (dayL L (first + k)).drop (j + 1), ?_, fun y hy => ?_⟩
  · show (if (1 : Int) = -1 then _ else _) = _
    rw [if_neg (by omega)]
    have hj := (List.getElem?_eq_some_iff.1 hx)
    obtain ⟨hlt, he⟩ := hj
    rw [← he]
    exact (List.take_append_drop j _).symm.trans (by rw [List.drop_eq_getElem_cons hlt])
  · obtain ⟨i, hi⟩ := List.mem_iff_getElem?.1 hy
    rw [List.getElem?_take] at hi
    split at hi
    · exact hne i y (by omega) hi
    · cases hi
theorem none_one {L : List (BitVec 64)} {first : Int} {P : Int → Prop} {k : Nat} (h : NoneTo L first 1 P k) (hk : DayOk L (first + k) → ∀ u ∈ dayL L (first + k), ¬ P u) : NoneTo L first 1 P (k + 1) := by
  refine h.succ ?_
  rw [show first + 1 * (k : Int) = first + k by omega]
  exact hk
theorem none_end {L : List (BitVec 64)} {first : Int} {P : Int → Prop} {k : Nat} (h : NoneTo L first 1 P k) (hk : 2932896 < first + k ∨ 2923 ≤ k) : NoneTo L first 1 P 2923 := by
  intro j hj hd
  by_cases e : j < k
  · exact h j e hd
  · rcases hk with hk | hk
    · have := hd.2.1
      omega
    · omega
end Go.Proofs.YthghcffibljclaaDoor
/- The document's Last and Ever: walked. -/
namespace Go.Proofs.YthghcffibljclaaDoor
open Go.RowKit

theorem FitL.day {L : List (BitVec 64)} {f : Int} {k : Nat} {l : List Int} (h : FitL L f k l) (f0 : 0 ≤ f) (hk : f + k ≤ 2932897) {n : Int} (hn : n ∈ l) : DayOk L n := by
  obtain ⟨a, b, c⟩ := (h.2.2 n).1 hn
  exact ⟨by omega, by omega, c⟩
theorem last_found {L : List (BitVec 64)} (hk : crB L = true) {b f : Int} {l : List Int} (hf : f = max (dayOf b - 2922) 0) (hl : FitL L f (dayOf b + 1 - f).toNat l) {i j : Nat} {n x : Int} (hi : l[i]? = some n) (hj : (dayL L n)[j]? = some x) (hx : x ≤ b)
    (hup : ∀ (i' : Nat) (n' : Int), i < i' → l[i']? = some n' → ∀ u ∈ dayL L n', ¬ u ≤ b) (hin : ∀ (j' : Nat) (u : Int), j < j' → (dayL L n)[j']? = some u → ¬ u ≤ b) : IsLast (TC L) b x := by
  obtain ⟨z0, z1⟩ := dayOf_in b
  have hd := hl.day (by omega) (by omega) (List.mem_of_getElem? hi)
  have hxm := List.mem_of_getElem? hj
  have hday := dayL_in hk hxm
  have hnin := (hl.2.2 n).1 (List.mem_of_getElem? hi)
  refine ⟨hd.times hk hxm, hx, by omega, fun u hu hub => ?_⟩
  have hud := hu.day
  have hle : u / 86400 ≤ dayOf b := by
    obtain ⟨_, ⟨u0, u1⟩, _⟩ := hu
    unfold dayOf
    split
    · omega
    · split <;> omega
  by_cases hlow : u / 86400 < f
  · omega
  · have hum : u / 86400 ∈ l := (hl.2.2 _).2 ⟨by omega, by omega, hu.2.2.1⟩
    obtain ⟨i', hi'⟩ := List.mem_iff_getElem?.1 hum
    rcases Nat.lt_trichotomy i i' with h1 | h1 | h1
    · exact absurd hub (hup i' _ h1 hi' u hu.2.2.2)
    · subst h1
      rw [hi] at hi'
      have e : n = u / 86400 := by injection hi'
      have hum2 : u ∈ dayL L n := by rw [e]; exact hu.2.2.2
      obtain ⟨j', hj'⟩ := List.mem_iff_getElem?.1 hum2
      rcases Nat.lt_trichotomy j j' with h2 | h2 | h2
      · exact absurd hub (hin j' u h2 hj')
      · subst h2
        rw [hj] at hj'
        have : x = u := by injection hj'
        omega
      · have hs := List.pairwise_iff_getElem.1 (dayL_sorted hk n)
        obtain ⟨a1, a2⟩ := List.getElem?_eq_some_iff.1 hj
        obtain ⟨b1, b2⟩ := List.getElem?_eq_some_iff.1 hj'
        have := hs j' j b1 a1 h2
        omega
    · have hs := List.pairwise_iff_getElem.1 hl.1
      obtain ⟨a1, a2⟩ := List.getElem?_eq_some_iff.1 hi
      obtain ⟨b1, b2⟩ := List.getElem?_eq_some_iff.1 hi'
      have := hs i' i b1 a1 h1
      omega
theorem last_lost {L : List (BitVec 64)} {b f : Int} {l : List Int} (hf : f = max (dayOf b - 2922) 0) (hl : FitL L f (dayOf b + 1 - f).toNat l) (hup : ∀ (i' : Nat) (n' : Int), l[i']? = some n' → ∀ u ∈ dayL L n', ¬ u ≤ b) : NoLast (TC L) b := by
  intro u hu hub
  apply Int.not_le.1
  intro hle
  obtain ⟨z0, z1⟩ := dayOf_in b
  have hud := hu.day
  have hle2 : u / 86400 ≤ dayOf b := by
    obtain ⟨_, ⟨u0, u1⟩, _⟩ := hu
    unfold dayOf
    split
    · omega
    · split <;> omega
  have h0 := hud.1
  have hum : u / 86400 ∈ l := (hl.2.2 _).2 ⟨by omega, by omega, hu.2.2.1⟩
  obtain ⟨i', hi'⟩ := List.mem_iff_getElem?.1 hum
  exact hup i' _ hi' u hu.2.2.2 hub
theorem ever_fit {L : List (BitVec 64)} (hk : crB L = true) {l : List Int} (hl : FitL L 0 2923 l) : (0 < l.length) ↔ EverZ L := by
  constructor
  · intro h
    have hm : l[0] ∈ l := List.getElem_mem h
    have hd := hl.day (by omega) (by omega) hm
    obtain ⟨a, b, c⟩ := (hl.2.2 _).1 hm
    obtain ⟨u, hu⟩ := dayL_some hk l[0]
    have := dayL_in hk hu
    exact ⟨u, hd.times hk hu, by omega⟩
  · rintro ⟨u, hu, h2⟩
    have hud := hu.day
    have hum : u / 86400 ∈ l := (hl.2.2 _).2 ⟨hud.1, by omega, hud.2.2⟩
    exact List.length_pos_of_mem hum
end Go.Proofs.YthghcffibljclaaDoor
/- The document's Some: walked. -/
namespace Go.Proofs.YthghcffibljclaaDoor
open Go.RowKit

end Go.Proofs.YthghcffibljclaaDoor
/- slices.Equal of int64; the law's wakes: walked. -/
namespace Go.Proofs.YthghcffibljclaaDoor
open Go.RowKit

set_option maxHeartbeats 1000000 in
theorem equal_i64 (A B : Option Addr) (n c d : Nat) (l : List Int) (w : World) (hn : n ≤ maxLen) (ha : ArrT w A n l) (hb : ArrT w B n l) :
    Calls Tryd.prog 14 #[.slice A n c, .slice B n d] w fun e w' => e = .returned (.bool true) ∧ ∃ q, w' = w.drewN q := by
  have hl := ha.1
  unfold maxLen at hn
  go_enter Tryd.func14, Tryd.ntmps14
  go_wp2
  go_loopw [13] (fun i wr => ∃ k q : Nat, k ≤ n ∧ i = .int .i64 k ∧ wr = w.drewN q) (fun i _ => n - (intOf i).toNat)
  case atStart => exact ⟨0, 0, Nat.zero_le _, rfl, rfl⟩
  case round =>
    obtain ⟨k, q, hk, rfl, rfl⟩ := hrel
    by_cases hlt : k < n
    · obtain ⟨v, hv⟩ : ∃ v, l[k]? = some v := ⟨_, List.getElem?_eq_getElem (by omega)⟩
      obtain ⟨b1, o1, rfl, _, c1⟩ := ha.2 k v hv
      obtain ⟨b2, o2, rfl, _, c2⟩ := hb.2 k v hv
      clear ha hb hv hl
      have h0 : (0 : Int) ≤ (k : Int) := by omega
      have h1 : (k : Int) < (n : Int) := by omega
      go_wp2
      go_quiet (fail)
      go_wp2
      go_roundw
      case rel => exact ⟨k + 1, _, by omega, by go_num, rfl⟩
      case measure => simp [intOf]; omega
    · clear ha hb
      go_wp2
      go_ret
      exact ⟨rfl, q, rfl⟩
end Go.Proofs.YthghcffibljclaaDoor
/- NextTurns: Last of Next is it, Next of what is one less is it again: walked. -/
namespace Go.Proofs.YthghcffibljclaaDoor
open Go.RowKit

theorem cron_cell1 (w : World) (a b c d e : BitVec 64) : ∃ W : World, W = w.alloc (.cells #[.int .u64 (U a), .int .u64 (U b), .int .u64 (U c), .int .u64 (U d), .int .u64 (U e)] 26) ∧ Below w.heap.size w W ∧ CronAt W w.heap.size [a, b, c, d, e] := ⟨_, rfl, (Below.refl _ w).alloc (Nat.le_refl _) _, CronAt.new w a b c d e⟩
end Go.Proofs.YthghcffibljclaaDoor
/- NextTells: when a cron matches next, and did last, and whether ever: walked. -/
namespace Go.Proofs.YthghcffibljclaaDoor
open Go.RowKit

/-- What Next tells, by its two values. -/
def NextV (L : List (BitVec 64)) (a u : Int) (z : Bool) : Prop := (z = true ∧ IsNext (TC L) a u) ∨ (z = false ∧ u = 0 ∧ NoNext (TC L) a)
def LastV (L : List (BitVec 64)) (a u : Int) (z : Bool) : Prop := (z = true ∧ IsLast (TC L) a u) ∨ (z = false ∧ u = 0 ∧ NoLast (TC L) a)
theorem NextIs.v {L : List (BitVec 64)} {a : Int} {x : Ending} (h : NextIs L a x) : ∃ (u : Int) (z : Bool), x = .returned (.tuple #[.int .i64 u, .bool z]) ∧ NextV L a u z := by
  rcases h with ⟨u, hu, rfl⟩ | ⟨hn, rfl⟩
  · exact ⟨u, true, rfl, .inl ⟨rfl, hu⟩⟩
  · exact ⟨0, false, rfl, .inr ⟨rfl, rfl, hn⟩⟩
theorem LastIs.v {L : List (BitVec 64)} {a : Int} {x : Ending} (h : LastIs L a x) : ∃ (u : Int) (z : Bool), x = .returned (.tuple #[.int .i64 u, .bool z]) ∧ LastV L a u z := by
  rcases h with ⟨u, hu, rfl⟩ | ⟨hn, rfl⟩
  · exact ⟨u, true, rfl, .inl ⟨rfl, hu⟩⟩
  · exact ⟨0, false, rfl, .inr ⟨rfl, rfl, hn⟩⟩
theorem nextv_one {L : List (BitVec 64)} {a u u' : Int} {z z' : Bool} (h : NextV L a u z) (h' : NextV L a u' z') : u = u' ∧ z = z' := by
  rcases h with ⟨rfl, h⟩ | ⟨rfl, rfl, h⟩ <;> rcases h' with ⟨rfl, h'⟩ | ⟨rfl, rfl, h'⟩
  · exact ⟨next_one h h', rfl⟩
  · exact (next_none h h').elim
  · exact (next_none h' h).elim
  · exact ⟨rfl, rfl⟩
theorem lastv_one {L : List (BitVec 64)} {a u u' : Int} {z z' : Bool} (h : LastV L a u z) (h' : LastV L a u' z') : u = u' ∧ z = z' := by
  rcases h with ⟨rfl, h⟩ | ⟨rfl, rfl, h⟩ <;> rcases h' with ⟨rfl, h'⟩ | ⟨rfl, rfl, h'⟩
  · exact ⟨last_one h h', rfl⟩
  · exact (last_none h h').elim
  · exact (last_none h' h).elim
  · exact ⟨rfl, rfl⟩
theorem nextv_no {L : List (BitVec 64)} {a u : Int} {z : Bool} (hk : crB L = false) (h : NextV L a u z) : u = 0 ∧ z = false := by
  rcases h with ⟨rfl, h⟩ | ⟨rfl, rfl, h⟩
  · exact absurd (hk.symm.trans h.1.1) (by simp)
  · exact ⟨rfl, rfl⟩
theorem lastv_no {L : List (BitVec 64)} {a u : Int} {z : Bool} (hk : crB L = false) (h : LastV L a u z) : u = 0 ∧ z = false := by
  rcases h with ⟨rfl, h⟩ | ⟨rfl, rfl, h⟩
  · exact absurd (hk.symm.trans h.1.1) (by simp)
  · exact ⟨rfl, rfl⟩
/-- Numbers that came in. -/
def NumsAt (K : IntKind) (P : Int → Prop) (w : World) (B : Nat) (A : Option Addr) (n : Nat) : Prop := ∀ k, k < n → ∃ (b o : Nat) (t : Int), A = some ⟨b, o, none⟩ ∧ b < B ∧ w.cell? ⟨b, o + k, none⟩ = some (.int K t) ∧ P t
theorem NumsAt.on {K : IntKind} {P : Int → Prop} {w w' : World} {B : Nat} {A : Option Addr} {n : Nat} (h : NumsAt K P w B A n) (hb : Below B w w') : NumsAt K P w' B A n := by
  intro k hk
  obtain ⟨b, o, t, e, hlt, hc, hp⟩ := h k hk
  exact ⟨b, o, t, e, hlt, (hb.cell (p := ⟨b, o + k, none⟩) hlt).trans hc, hp⟩
end Go.Proofs.YthghcffibljclaaDoor
/- NextSome: its times of a span, the first ones: walked. -/
namespace Go.Proofs.YthghcffibljclaaDoor
open Go.RowKit

theorem nil_arr (w : World) : ArrT w none 0 [] := ⟨rfl, fun i x h => by cases h⟩
def isI64 (t : Int) : Prop := -9223372036854775808 ≤ t ∧ t ≤ 9223372036854775807
theorem quo_65 {t : Int} (h : isI64 t) : ∃ q : Int, wrap64 (t.tdiv 65) = q ∧ wrap64 (64 * q) = 64 * q ∧ wrap64 (12 + 64 * q) = 12 + 64 * q := by
  obtain ⟨h0, h1⟩ := h
  have hq : -141898031336227321 ≤ t.tdiv 65 ∧ t.tdiv 65 ≤ 141898031336227321 := by
    rcases Int.le_total 0 t with hs | hs
    · rw [Int.tdiv_eq_ediv_of_nonneg hs]; omega
    · have e : t.tdiv 65 = -((-t).tdiv 65) := by rw [Int.neg_tdiv]; omega
      rw [e, Int.tdiv_eq_ediv_of_nonneg (by omega)]; omega
  generalize t.tdiv 65 = q at *
  refine ⟨q, ?_, ?_, ?_⟩ <;> (unfold wrap64; omega)
end Go.Proofs.YthghcffibljclaaDoor
/- What comes in: crons, spans, rows of numbers. -/
namespace Go.Proofs.YthghcffibljclaaDoor
open Go.ChangeShapes Go.WideShapes Go.ChangeAt Go.WideMaps Go.WideElems Go.RowKit Go.Deep Go.Joins

theorem bounds_u64 {a : Int} (h : (Lit.int .u64 a).wf = true) : 0 ≤ a ∧ a ≤ 18446744073709551615 := by
  simp [Lit.wf, IntKind.min, IntKind.max, IntKind.bits, IntKind.signed] at h; omega
theorem bounds_i64' {a : Int} (h : (Lit.int .i64 a).wf = true) : -9223372036854775808 ≤ a ∧ a ≤ 9223372036854775807 := by
  simp [Lit.wf, IntKind.min, IntKind.max, IntKind.bits, IntKind.signed] at h; omega
theorem mask_of {a : Int} (h : (Lit.int .u64 a).wf = true) : ∃ m : BitVec 64, a = U m := by
  obtain ⟨h0, h1⟩ := bounds_u64 h
  exact U_of a h0 h1
theorem cMask : Tryd.prog.cellsOf 24 = 1 := by kernel_rfl
theorem cCron : Tryd.prog.cellsOf 26 = 5 := by kernel_rfl
theorem cU64 : Tryd.prog.cellsOf 23 = 1 := by kernel_rfl
theorem cI64 : Tryd.prog.cellsOf 2 = 1 := by kernel_rfl
theorem cron_cells {H : Type} {enc : TypeId × Value → H} {W : World} {fuel : Nat} {v0 v1 v2 v3 v4 : Value} {x : DataW H × List MemPlace}
    (h : DataW.trod enc Tryd.prog W 0 (fun _ => true) true fuel 26 [v0, v1, v2, v3, v4] = some x) : ∃ a b c d e : BitVec 64, v0 = .int .u64 (U a) ∧ v1 = .int .u64 (U b) ∧ v2 = .int .u64 (U c) ∧ v3 = .int .u64 (U d) ∧ v4 = .int .u64 (U e) := by
  obtain ⟨ys, n', _, _, _, hyl, hfl⟩ := DataW.trod_struct Tryd.underlying26 h
  match ys, hyl with
  | [y0, y1, y2, y3, y4], _ =>
    have g0 : DataW.trod enc Tryd.prog W 0 (fun _ => true) true n' 24 [v0] = some y0 := by have := hfl 0 _ rfl; simpa [cMask] using this
    have g1 : DataW.trod enc Tryd.prog W 0 (fun _ => true) true n' 24 [v1] = some y1 := by have := hfl 1 _ rfl; simpa [cMask] using this
    have g2 : DataW.trod enc Tryd.prog W 0 (fun _ => true) true n' 24 [v2] = some y2 := by have := hfl 2 _ rfl; simpa [cMask] using this
    have g3 : DataW.trod enc Tryd.prog W 0 (fun _ => true) true n' 24 [v3] = some y3 := by have := hfl 3 _ rfl; simpa [cMask] using this
    have g4 : DataW.trod enc Tryd.prog W 0 (fun _ => true) true n' 24 [v4] = some y4 := by have := hfl 4 _ rfl; simpa [cMask] using this
    obtain ⟨z0, e0, _, w0⟩ := DataW.trod_int Tryd.underlying24 g0
    obtain ⟨z1, e1, _, w1⟩ := DataW.trod_int Tryd.underlying24 g1
    obtain ⟨z2, e2, _, w2⟩ := DataW.trod_int Tryd.underlying24 g2
    obtain ⟨z3, e3, _, w3⟩ := DataW.trod_int Tryd.underlying24 g3
    obtain ⟨z4, e4, _, w4⟩ := DataW.trod_int Tryd.underlying24 g4
    injection e0 with e0; injection e1 with e1; injection e2 with e2; injection e3 with e3; injection e4 with e4
    obtain ⟨a, rfl⟩ := mask_of w0; obtain ⟨b, rfl⟩ := mask_of w1; obtain ⟨c, rfl⟩ := mask_of w2; obtain ⟨d, rfl⟩ := mask_of w3; obtain ⟨e, rfl⟩ := mask_of w4
    exact ⟨a, b, c, d, e, e0, e1, e2, e3, e4⟩
set_option maxRecDepth 100000 in
theorem open_cron {H : Type} {enc : TypeId × Value → H} {W : World} {b0 : Nat} {v : Value} {d : DataW H} {p : List MemPlace}
    (hv : Value.okWide Tryd.prog W .any b0 26 v) (h : DataW.Trod enc Tryd.prog W 0 (fun _ => true) true 26 v d p) : ∃ L : List (BitVec 64), L.length = 5 ∧ v = cronV L := by
  obtain ⟨cs, rfl, hsz⟩ := okWide_struct Tryd.underlying26 hv
  rw [cCron] at hsz
  obtain ⟨l⟩ := cs
  match l, hsz with
  | [c0, c1, c2, c3, c4], _ =>
    obtain ⟨fuel, hf⟩ := h
    obtain ⟨a, b, c, d, e, rfl, rfl, rfl, rfl, rfl⟩ := cron_cells hf
    exact ⟨[a, b, c, d, e], rfl, rfl⟩
theorem open_two {H : Type} {enc : TypeId × Value → H} {P : Program} {W : World} {r : Reach} {b0 base : Nat} {sp : Nat → Bool} {held : Bool} {t e : TypeId} {q : IntKind} {v : Value} {d : DataW H} {ps : List MemPlace}
    (ht : P.underlying t = some (.array 2 e)) (he : P.underlying e = some (.int q)) (hC : P.cellsOf t = 2) (hE : P.cellsOf e = 1) (hv : Value.okWide P W r b0 t v) (h : DataW.Trod enc P W base sp held t v d ps) :
    ∃ a b : Int, v = .agg #[.int q a, .int q b] ∧ (Lit.int q a).wf = true ∧ (Lit.int q b).wf = true := by
  simp only [Value.okWide, ht] at hv
  obtain ⟨cs, rfl, hsz, _⟩ := hv
  rw [hC] at hsz
  obtain ⟨l⟩ := cs
  match l, hsz with
  | [c0, c1], _ =>
    obtain ⟨fuel, hf⟩ := h
    obtain ⟨xs, m, _, _, _, hlen, hg⟩ := DataW.trod_array ht hf
    match xs, hlen with
    | [y0, y1], _ =>
      have h0 := hg 0 (by omega)
      have h1 := hg 1 (by omega)
      rw [hE] at h0 h1
      have h0' : DataW.trod enc P W base sp held m e [c0] = some y0 := by simpa [Value.cells] using h0
      have h1' : DataW.trod enc P W base sp held m e [c1] = some y1 := by simpa [Value.cells] using h1
      obtain ⟨a, ea, _, wa⟩ := DataW.trod_int he h0'
      obtain ⟨b, eb, _, wb⟩ := DataW.trod_int he h1'
      simp only [List.cons.injEq, and_true] at ea eb
      subst ea; subst eb
      exact ⟨a, b, rfl, wa, wb⟩
theorem open_three {H : Type} {enc : TypeId × Value → H} {P : Program} {W : World} {r : Reach} {b0 base : Nat} {sp : Nat → Bool} {held : Bool} {t e : TypeId} {q : IntKind} {v : Value} {d : DataW H} {ps : List MemPlace}
    (ht : P.underlying t = some (.array 3 e)) (he : P.underlying e = some (.int q)) (hC : P.cellsOf t = 3) (hE : P.cellsOf e = 1) (hv : Value.okWide P W r b0 t v) (h : DataW.Trod enc P W base sp held t v d ps) :
    ∃ a b c : Int, v = .agg #[.int q a, .int q b, .int q c] ∧ (Lit.int q a).wf = true ∧ (Lit.int q b).wf = true ∧ (Lit.int q c).wf = true := by
  simp only [Value.okWide, ht] at hv
  obtain ⟨cs, rfl, hsz, _⟩ := hv
  rw [hC] at hsz
  obtain ⟨l⟩ := cs
  match l, hsz with
  | [c0, c1, c2], _ =>
    obtain ⟨fuel, hf⟩ := h
    obtain ⟨xs, m, _, _, _, hlen, hg⟩ := DataW.trod_array ht hf
    match xs, hlen with
    | [y0, y1, y2], _ =>
      have h0 := hg 0 (by omega)
      have h1 := hg 1 (by omega)
      have h2 := hg 2 (by omega)
      rw [hE] at h0 h1 h2
      have h0' : DataW.trod enc P W base sp held m e [c0] = some y0 := by simpa [Value.cells] using h0
      have h1' : DataW.trod enc P W base sp held m e [c1] = some y1 := by simpa [Value.cells] using h1
      have h2' : DataW.trod enc P W base sp held m e [c2] = some y2 := by simpa [Value.cells] using h2
      obtain ⟨a, ea, _, wa⟩ := DataW.trod_int he h0'
      obtain ⟨b, eb, _, wb⟩ := DataW.trod_int he h1'
      obtain ⟨c, ec, _, wc⟩ := DataW.trod_int he h2'
      simp only [List.cons.injEq, and_true] at ea eb ec
      subst ea; subst eb; subst ec
      exact ⟨a, b, c, rfl, wa, wb, wc⟩
theorem open_i64s {H : Type} {enc : TypeId × Value → H} {W : World} {A : Option Addr} {len cap : Nat} {d : DataW H} {p : List MemPlace}
    (h : DataW.Trod enc Tryd.prog W 0 (fun _ => true) true 31 (.slice A len cap) d p) :
    len ≤ maxLen ∧ NumsAt .i64 (fun _ => True) W W.heap.size A len := by
  obtain ⟨fuel, hf⟩ := h
  rcases open_ints Tryd.underlying31 Tryd.underlying2 cI64 hf with ⟨hcs, _⟩ | ⟨a, len', cap', zs, hcs, _, hl, hm, hz, _, hcell, hwz⟩
  · have e : (Value.slice A len cap) = .slice none 0 0 := by simpa [Value.cells] using hcs
    cases e
    exact ⟨by unfold maxLen; omega, fun k hk => absurd hk (by omega)⟩
  · have e : (Value.slice A len cap) = .slice (some a) len' cap' := by simpa [Value.cells] using hcs
    cases e
    simp only [if_true] at hz
    refine ⟨by omega, fun k hk => ?_⟩
    obtain ⟨b, off, rfl, hc⟩ := ints_at hcell (by omega)
    have hck := hc k (by omega)
    exact ⟨b, off, _, rfl, lt_of_cell hck, hck, trivial⟩
theorem open_nints {H : Type} {enc : TypeId × Value → H} {W : World} {A : Option Addr} {len cap : Nat} {d : DataW H} {p : List MemPlace}
    (h : DataW.Trod enc Tryd.prog W 0 (fun _ => true) true 130 (.slice A len cap) d p) :
    len ≤ maxLen ∧ NumsAt .i64 isI64 W W.heap.size A len := by
  obtain ⟨fuel, hf⟩ := h
  rcases open_ints Tryd.underlying130 Tryd.underlying3 cInt hf with ⟨hcs, _⟩ | ⟨a, len', cap', zs, hcs, _, hl, hm, hz, _, hcell, hwz⟩
  · have e : (Value.slice A len cap) = .slice none 0 0 := by simpa [Value.cells] using hcs
    cases e
    exact ⟨by unfold maxLen; omega, fun k hk => absurd hk (by omega)⟩
  · have e : (Value.slice A len cap) = .slice (some a) len' cap' := by simpa [Value.cells] using hcs
    cases e
    simp only [if_true] at hz
    refine ⟨by omega, fun k hk => ?_⟩
    obtain ⟨b, off, rfl, hc⟩ := ints_at hcell (by omega)
    have hck := hc k (by omega)
    exact ⟨b, off, _, rfl, lt_of_cell hck, hck, bounds_i64' (hwz _ (by rw [List.getD_eq_getElem?_getD, List.getElem?_eq_getElem (show k < zs.length by omega)]; exact List.getElem_mem _))⟩
end Go.Proofs.YthghcffibljclaaDoor
