/- Texts of this seat, one behind the other: DMath, DBase, DLong, DCheck, DBox, EBase, EApart, EOrder, DCutM, DCut, DOf, DDayOf, DAt, DOfR, DAtR, EAt, EOf, ERefs. -/
import Derived.Test.YthghcffibljclaaDoorR1
import Derived.Test.YthghcffibljclaaDoorChecked
import Derived.WalkKit
import Derived.Lib.Hide
import Derived.Below
import Derived.OwnWalk
import Derived.WalkSpells
import Derived.IntWalk
import Derived.Deep.QuietTactic
import Derived.BigQuiet
import Derived.BigRegion
import Derived.WalkMore
import Derived.Deep.WholeRow
import Derived.Deep.MidRow
import Derived.Deep.Light
import Derived.KernelRfl
import Derived.Laws.CopyOwn
import Derived.Laws.OwnMore
import Derived.Laws.MakeOwn
import Derived.Laws.AppendOwn
import Derived.RangeFuncBox
import Derived.Maps.AppendAt
import Derived.Deep.RegionHeld3
/- The calendar, plain: leap years, months, numbers of dates, and back. -/
namespace Go.Proofs.YthghcffibljclaaDoor.D

/-- Is it a leap year? -/
def leapZ (y : Int) : Bool := (y % 4 == 0 && !(y % 100 == 0)) || y % 400 == 0
def ylZ (y : Int) : Int := if leapZ y then 366 else 365
/-- How long a month is. -/
def mlZ (y m : Int) : Int :=
  if m < 1 ∨ 12 < m then 0 else if m = 2 then (if leapZ y then 29 else 28) else if m = 4 ∨ m = 6 ∨ m = 9 ∨ m = 11 then 30 else 31
/-- Days ahead of the year 1970 + k, and ahead of the month 1 + k. -/
def dyZ : Nat → Int
  | 0 => 0
  | k + 1 => dyZ k + ylZ (1970 + k)
def dmZ (y : Int) : Nat → Int
  | 0 => 0
  | k + 1 => dmZ y k + mlZ y (k + 1)
/-- A date that may be. -/
def RightZ (y m d : Int) : Prop := 1970 ≤ y ∧ y ≤ 9999 ∧ 1 ≤ d ∧ d ≤ mlZ y m
def numZ (y m d : Int) : Int := dyZ (y - 1970).toNat + dmZ y (m - 1).toNat + (d - 1)

theorem leapZ_iff (y : Int) : leapZ y = true ↔ (y % 4 = 0 ∧ ¬ y % 100 = 0) ∨ y % 400 = 0 := by
  unfold leapZ; simp
theorem dyZ_form (k : Nat) : dyZ k = 365 * (k : Int) + (1969 + (k : Int)) / 4 - (1969 + (k : Int)) / 100 + (1969 + (k : Int)) / 400 - 477 := by
  induction k with
  | zero => decide
  | succ k ih =>
    unfold dyZ ylZ
    rw [ih]
    have h := leapZ_iff (1970 + (k : Int))
    by_cases hl : leapZ (1970 + (k : Int)) = true
    · rw [if_pos hl]
      have := h.1 hl
      omega
    · rw [if_neg hl]
      have : ¬ (((1970 + (k : Int)) % 4 = 0 ∧ ¬ (1970 + (k : Int)) % 100 = 0) ∨ (1970 + (k : Int)) % 400 = 0) := fun x => hl (h.2 x)
      omega
theorem dyZ_last : dyZ 8030 = 2932897 := by rw [dyZ_form]; decide
theorem ylZ_pos (y : Int) : 365 ≤ ylZ y ∧ ylZ y ≤ 366 := by unfold ylZ; split <;> omega
theorem dyZ_le {a b : Nat} (h : a ≤ b) : dyZ a ≤ dyZ b := by
  rw [dyZ_form, dyZ_form]; omega
theorem dyZ_lt {a b : Nat} (h : a < b) : dyZ a < dyZ b := by
  rw [dyZ_form, dyZ_form]; omega
theorem mlZ_in {y m : Int} (h1 : 1 ≤ m) (h2 : m ≤ 12) : 28 ≤ mlZ y m ∧ mlZ y m ≤ 31 := by
  unfold mlZ
  rw [if_neg (by omega)]
  split
  · split <;> omega
  · split <;> omega
theorem mlZ_out {y m : Int} (h : m < 1 ∨ 12 < m) : mlZ y m = 0 := by unfold mlZ; rw [if_pos h]
theorem mlZ_top (y m : Int) : 0 ≤ mlZ y m ∧ mlZ y m ≤ 31 := by
  by_cases h : m < 1 ∨ 12 < m
  · rw [mlZ_out h]; omega
  · have := mlZ_in (y := y) (m := m) (by omega) (by omega); omega
theorem RightZ.month {y m d : Int} (h : RightZ y m d) : 1 ≤ m ∧ m ≤ 12 := by
  obtain ⟨_, _, h3, h4⟩ := h
  by_cases hm : m < 1 ∨ 12 < m
  · rw [mlZ_out hm] at h4; omega
  · omega
theorem dmZ_succ (y : Int) (k : Nat) : dmZ y (k + 1) = dmZ y k + mlZ y (k + 1) := rfl
theorem dmZ_le {y : Int} {a b : Nat} (h : a ≤ b) : dmZ y a ≤ dmZ y b := by
  induction b with
  | zero => obtain rfl : a = 0 := by omega
            exact Int.le_refl _
  | succ b ih =>
    by_cases hb : a ≤ b
    · have := ih hb
      have h2 := (mlZ_top y ((b : Int) + 1)).1
      rw [dmZ_succ]; omega
    · obtain rfl : a = b + 1 := by omega
      exact Int.le_refl _
theorem dmZ_year (y : Int) : dmZ y 12 = ylZ y := by
  unfold ylZ
  by_cases h : leapZ y = true <;> simp [dmZ, mlZ, h]
theorem dmZ_nonneg (y : Int) (k : Nat) : 0 ≤ dmZ y k := by have := dmZ_le (y := y) (Nat.zero_le k); simpa [dmZ] using this
/-- The number lies within its year, and its month. -/
theorem num_in {y m d : Int} (h : RightZ y m d) : dyZ (y - 1970).toNat ≤ numZ y m d ∧ numZ y m d < dyZ ((y - 1970).toNat + 1) ∧ dmZ y (m - 1).toNat ≤ numZ y m d - dyZ (y - 1970).toNat ∧ numZ y m d - dyZ (y - 1970).toNat < dmZ y ((m - 1).toNat + 1) := by
  obtain ⟨m1, m2⟩ := h.month
  obtain ⟨h1, h2, h3, h4⟩ := h
  have e1 : dmZ y ((m - 1).toNat + 1) = dmZ y (m - 1).toNat + mlZ y m := by
    rw [dmZ_succ]; congr 2; omega
  have e2 : dyZ ((y - 1970).toNat + 1) = dyZ (y - 1970).toNat + ylZ y := by
    show dyZ (y - 1970).toNat + ylZ (1970 + ((y - 1970).toNat : Int)) = _
    congr 2; omega
  have e3 := dmZ_le (y := y) (a := (m - 1).toNat + 1) (b := 12) (by omega)
  rw [dmZ_year, e1] at e3
  have e4 := dmZ_nonneg y (m - 1).toNat
  unfold numZ
  rw [e1, e2]
  omega
theorem num_range {y m d : Int} (h : RightZ y m d) : 0 ≤ numZ y m d ∧ numZ y m d ≤ 2932896 := by
  have h1 := num_in h
  obtain ⟨a, b, _, _⟩ := h
  have h2 := dyZ_le (show 0 ≤ (y - 1970).toNat by omega)
  have h3 := dyZ_le (show (y - 1970).toNat + 1 ≤ 8030 by omega)
  rw [dyZ_last] at h3
  have h4 : dyZ 0 = 0 := rfl
  omega
/-- The order of dates. -/
def cmpZ (y m d y' m' d' : Int) : Int :=
  if y < y' then -1 else if y' < y then 1 else if m < m' then -1 else if m' < m then 1 else if d < d' then -1 else if d' < d then 1 else 0
theorem cmpZ_lt {y m d y' m' d' : Int} : cmpZ y m d y' m' d' = -1 ↔ y < y' ∨ y = y' ∧ (m < m' ∨ m = m' ∧ d < d') := by
  unfold cmpZ
  repeat' split
  all_goals omega
theorem cmpZ_gt {y m d y' m' d' : Int} : cmpZ y m d y' m' d' = 1 ↔ y' < y ∨ y' = y ∧ (m' < m ∨ m' = m ∧ d' < d) := by
  unfold cmpZ
  repeat' split
  all_goals omega
theorem cmpZ_eq {y m d y' m' d' : Int} : cmpZ y m d y' m' d' = 0 ↔ y = y' ∧ m = m' ∧ d = d' := by
  unfold cmpZ
  repeat' split
  all_goals omega
theorem cmpZ_three (y m d y' m' d' : Int) : cmpZ y m d y' m' d' = -1 ∨ cmpZ y m d y' m' d' = 0 ∨ cmpZ y m d y' m' d' = 1 := by
  unfold cmpZ
  repeat' split
  all_goals omega
/-- Who stands ahead has the lower number. -/
theorem num_lt {y m d y' m' d' : Int} (h : RightZ y m d) (h' : RightZ y' m' d') (hc : y < y' ∨ y = y' ∧ (m < m' ∨ m = m' ∧ d < d')) : numZ y m d < numZ y' m' d' := by
  obtain ⟨a1, a2, a3, a4⟩ := num_in h
  obtain ⟨b1, b2, b3, b4⟩ := num_in h'
  have hm := h.month
  have hm' := h'.month
  rcases hc with hy | ⟨rfl, hm2 | ⟨rfl, hd⟩⟩
  · have := dyZ_le (show (y - 1970).toNat + 1 ≤ (y' - 1970).toNat by have := h.1; omega)
    omega
  · have := dmZ_le (y := y) (show (m - 1).toNat + 1 ≤ (m' - 1).toNat by omega)
    omega
  · unfold numZ; omega
theorem num_inj {y m d y' m' d' : Int} (h : RightZ y m d) (h' : RightZ y' m' d') (he : numZ y m d = numZ y' m' d') : y = y' ∧ m = m' ∧ d = d' := by
  by_cases h1 : y < y' ∨ y = y' ∧ (m < m' ∨ m = m' ∧ d < d')
  · have := num_lt h h' h1; omega
  · by_cases h2 : y' < y ∨ y' = y ∧ (m' < m ∨ m' = m ∧ d' < d)
    · have := num_lt h' h h2; omega
    · omega
theorem cmp_num {y m d y' m' d' : Int} (h : RightZ y m d) (h' : RightZ y' m' d') : cmpZ y m d y' m' d' = if numZ y m d < numZ y' m' d' then -1 else if numZ y m d = numZ y' m' d' then 0 else 1 := by
  rcases cmpZ_three y m d y' m' d' with hc | hc | hc
  · rw [hc, if_pos (num_lt h h' (cmpZ_lt.1 hc))]
  · obtain ⟨rfl, rfl, rfl⟩ := cmpZ_eq.1 hc
    rw [hc, if_neg (by omega), if_pos rfl]
  · have := num_lt h' h (cmpZ_gt.1 hc)
    rw [hc, if_neg (by omega), if_neg (by omega)]
/-- The day behind. -/
theorem num_next {y m d : Int} (h : RightZ y m d) :
    (d < mlZ y m → RightZ y m (d + 1) ∧ numZ y m (d + 1) = numZ y m d + 1) ∧
    (d = mlZ y m → m < 12 → RightZ y (m + 1) 1 ∧ numZ y (m + 1) 1 = numZ y m d + 1) ∧
    (d = mlZ y m → m = 12 → numZ (y + 1) 1 1 = numZ y m d + 1 ∧ (y < 9999 → RightZ (y + 1) 1 1)) := by
  obtain ⟨m1, m2⟩ := h.month
  obtain ⟨h1, h2, h3, h4⟩ := h
  refine ⟨fun hd => ⟨⟨h1, h2, by omega, by omega⟩, by unfold numZ; omega⟩, fun hd hm => ⟨⟨h1, h2, by omega, ?_⟩, ?_⟩, fun hd hm => ⟨?_, fun hy => ⟨by omega, by omega, by omega, ?_⟩⟩⟩
  · have := (mlZ_in (y := y) (m := m + 1) (by omega) (by omega)).1; omega
  · unfold numZ
    have e : dmZ y (m + 1 - 1).toNat = dmZ y (m - 1).toNat + mlZ y m := by
      rw [show (m + 1 - 1).toNat = (m - 1).toNat + 1 by omega, dmZ_succ]; congr 2; omega
    rw [e]; omega
  · subst hm
    unfold numZ
    have e : dyZ (y + 1 - 1970).toNat = dyZ (y - 1970).toNat + ylZ y := by
      rw [show (y + 1 - 1970).toNat = (y - 1970).toNat + 1 by omega]
      show dyZ (y - 1970).toNat + ylZ (1970 + ((y - 1970).toNat : Int)) = _
      congr 2; omega
    have e2 := dmZ_year y
    rw [show (12 : Nat) = 11 + 1 from rfl, dmZ_succ] at e2
    rw [e, show ((12 : Int) - 1).toNat = 11 by decide, show ((1 : Int) - 1).toNat = 0 by decide]
    have e3 : dmZ (y + 1) 0 = 0 := rfl
    have e4 : mlZ y (((11 : Nat) : Int) + 1) = mlZ y 12 := rfl
    rw [e4] at e2
    omega
  · have := (mlZ_in (y := y + 1) (m := 1) (by omega) (by omega)).1; omega
/-- Each number from 0 to the last one is a date's. -/
theorem num_surj (n : Nat) (hn : n ≤ 2932896) : ∃ y m d : Int, RightZ y m d ∧ numZ y m d = (n : Int) := by
  induction n with
  | zero => exact ⟨1970, 1, 1, ⟨by decide, by decide, by decide, by decide⟩, by decide⟩
  | succ n ih =>
    obtain ⟨y, m, d, hr, he⟩ := ih (by omega)
    obtain ⟨a, b, c⟩ := num_next hr
    have hm := hr.month
    have h4 := hr.2.2.2
    by_cases hd : d < mlZ y m
    · exact ⟨y, m, d + 1, (a hd).1, by rw [(a hd).2, he]; omega⟩
    · by_cases hm12 : m < 12
      · exact ⟨y, m + 1, 1, (b (by omega) hm12).1, by rw [(b (by omega) hm12).2, he]; omega⟩
      · obtain ⟨c1, c2⟩ := c (by omega) (by omega)
        have hy : y < 9999 := by
          by_cases hy : y < 9999
          · exact hy
          · have h5 := hr.2.1
            obtain rfl : y = 9999 := by omega
            have h6 : numZ (9999 + 1) 1 1 = 2932897 := by
              unfold numZ
              rw [show ((9999 : Int) + 1 - 1970).toNat = 8030 by decide, dyZ_last]; decide
            omega
        exact ⟨y + 1, 1, 1, c2 hy, by rw [c1, he]; omega⟩
/-- Four hundred years on. -/
theorem leap_era (y : Int) : leapZ (y + 400) = leapZ y := by
  rw [Bool.eq_iff_iff, leapZ_iff, leapZ_iff]; omega
theorem ml_era (y m : Int) : mlZ (y + 400) m = mlZ y m := by unfold mlZ; rw [leap_era]
theorem dm_era (y : Int) (k : Nat) : dmZ (y + 400) k = dmZ y k := by
  induction k with
  | zero => rfl
  | succ k ih => rw [dmZ_succ, dmZ_succ, ih, ml_era]
theorem num_era {y m d : Int} (h : RightZ y m d) : numZ (y + 400) m d = numZ y m d + 146097 ∧ (numZ y m d ≤ 2786799 → RightZ (y + 400) m d) := by
  have h1 := h.1
  constructor
  · unfold numZ
    rw [dm_era, show (y + 400 - 1970).toNat = (y - 1970).toNat + 400 by omega, dyZ_form, dyZ_form]
    omega
  · intro hn
    have h2 := (num_in h).1
    have hy : y ≤ 9599 := by
      by_cases hy : y ≤ 9599
      · exact hy
      · have h3 := dyZ_le (show 7630 ≤ (y - 1970).toNat by omega)
        have h4 : dyZ 7630 = 2786800 := by rw [dyZ_form]; decide
        omega
    exact ⟨by omega, by omega, h.2.2.1, by rw [ml_era]; exact h.2.2.2⟩
end Go.Proofs.YthghcffibljclaaDoor.D
/- Leap years, the lengths of months: walked, of the program and of the document. -/
namespace Go.Proofs.YthghcffibljclaaDoor.D
open Go.RowKit

theorem ret_bool {a b : Bool} (h : a = b) : Ending.returned (.bool a) = .returned (.bool b) := by rw [h]
theorem ret_int {k : IntKind} {a b : Int} (h : a = b) : Ending.returned (.int k a) = .returned (.int k b) := by rw [h]
theorem tmod_zero (y c : Int) : y.tmod c = 0 ↔ y % c = 0 := Int.dvd_iff_tmod_eq_zero.symm.trans Int.dvd_iff_emod_eq_zero
theorem leap_any (y : Int) (w : World) :
    Calls Tryd.prog 94 #[.int .i64 y] w fun e w' => e = .returned (.bool (leapZ y)) ∧ w = w' := by
  go_enter Tryd.func94, Tryd.ntmps94
  go_wp2
  all_goals
    go_ret
    refine ⟨ret_bool ?_, rfl⟩
    have h4 := tmod_zero y 4
    have h5 := tmod_zero y 100
    have h6 := tmod_zero y 400
    rw [Bool.eq_iff_iff, leapZ_iff]
    simp
    omega
/-! the months' lengths, and the eras, in their variables -/
def lenC (j : Nat) : Int := [31, 28, 31, 30, 31, 30, 31, 31, 30, 31, 30, 31].getD j 0
def eraC (j : Nat) : Int := [400, 146097, 20, 100, 36524, 3, 4, 1461, 24, 1, 365, 3].getD j 0
structure Laid (w : World) : Prop where
  len : ∀ j, j < 12 → w.cell? ⟨2, j, none⟩ = some (.int .i64 (lenC j))
  era : ∀ j, j < 12 → w.cell? ⟨1, j, none⟩ = some (.int .i64 (eraC j))
  lt : max 2 1 < w.heap.size
theorem Laid.below {w w' : World} {B : Nat} (h : Laid w) (hB : max 2 1 < B) (hb : Below B w w') (hs : w.heap.size ≤ w'.heap.size) : Laid w' :=
  ⟨fun j hj => (hb.cell (p := ⟨2, j, none⟩) (by show 2 < B; omega)).trans (h.len j hj), fun j hj => (hb.cell (p := ⟨1, j, none⟩) (by show 1 < B; omega)).trans (h.era j hj), by have := h.lt; omega⟩
theorem lenC_of (y : Int) (k : Nat) (hk : k < 12) (h : ¬ (k = 1 ∧ leapZ y = true)) : mlZ y ((k : Int) + 1) = lenC k := by
  have hc : k = 0 ∨ k = 1 ∨ k = 2 ∨ k = 3 ∨ k = 4 ∨ k = 5 ∨ k = 6 ∨ k = 7 ∨ k = 8 ∨ k = 9 ∨ k = 10 ∨ k = 11 := by omega
  rcases hc with rfl | rfl | rfl | rfl | rfl | rfl | rfl | rfl | rfl | rfl | rfl | rfl
  · rfl
  · have : leapZ y = false := by simpa using h
    simp [mlZ, this, lenC]
  all_goals rfl
theorem long_out (y m : Int) (w : World) (h : m < 1 ∨ 12 < m) :
    Calls Tryd.prog 87 #[.int .i64 y, .int .i64 m] w fun e w' => e = .returned (.int .i64 (mlZ y m)) ∧ w = w' := by
  rw [mlZ_out h]
  rcases h with h | h
  · go_enter Tryd.func87, Tryd.ntmps87
    go_wp2_with fail
    go_ret
    exact ⟨rfl, rfl⟩
  · have h1 : ¬ m < 1 := by omega
    have h2 : decide (m < 1) = false := by simpa using h1
    go_enter Tryd.func87, Tryd.ntmps87
    go_wp2_with fail
    go_ret
    exact ⟨rfl, rfl⟩
set_option maxRecDepth 100000 in
theorem long_in (y : Int) (k : Nat) (w : World) (hk : k < 12) (hL : Laid w) :
    Calls Tryd.prog 87 #[.int .i64 y, .int .i64 ((k : Int) + 1)] w fun e w' => e = .returned (.int .i64 (mlZ y ((k : Int) + 1))) ∧ w = w' := by
  have hc := hL.len k hk
  have h1 : decide ((k : Int) + 1 < 1) = false := by simp; omega
  have h2 : decide (12 < (k : Int) + 1) = false := by simp; omega
  have h2' : decide (11 < (k : Int)) = false := by simp; omega
  by_cases hl : k = 1
  · subst hl
    by_cases hy : leapZ y = true
    · have hm : mlZ y 2 = 29 := by simp [mlZ, hy]
      rw [show (((1 : Nat) : Int) + 1) = 2 by rfl, hm]
      have hc' : w.cell? ⟨2, 1, none⟩ = some (.int .i64 28) := hc
      clear hc h1 h2 h2'
      have HY := Lib.hid hy
      have HM := Lib.hid hm
      clear hy hm
      go_enter Tryd.func87, Tryd.ntmps87
      go_wp2_with (go_at_call 94; refine (leap_any _ _).mono ?_; rintro e w' ⟨rfl, rfl⟩; rw [HY.out])
      go_ret
      exact ⟨rfl, rfl⟩
    · have hy' : leapZ y = false := by simpa using hy
      have hm : mlZ y 2 = 28 := by simp [mlZ, hy']
      rw [show (((1 : Nat) : Int) + 1) = 2 by rfl, hm]
      have hc' : w.cell? ⟨2, 1, none⟩ = some (.int .i64 28) := hc
      clear hc h1 h2 h2' hy
      have HY := Lib.hid hy'
      have HM := Lib.hid hm
      clear hy' hm
      go_enter Tryd.func87, Tryd.ntmps87
      go_wp2_with (go_at_call 94; refine (leap_any _ _).mono ?_; rintro e w' ⟨rfl, rfl⟩; rw [HY.out])
      go_ret
      exact ⟨rfl, rfl⟩
  · rw [lenC_of y k hk (by omega)]
    have hn : ((k : Int) + 1 == 2) = false := by simp; omega
    have hn' : ((k : Int) == 1) = false := by simp; omega
    go_enter Tryd.func87, Tryd.ntmps87
    go_wp2_with fail
    go_ret
    exact ⟨rfl, rfl⟩
end Go.Proofs.YthghcffibljclaaDoor.D
/- The lengths of months, of both; which dates may be. -/
namespace Go.Proofs.YthghcffibljclaaDoor.D
open Go.RowKit

theorem long_any (y m : Int) (w : World) (hL : Laid w) :
    Calls Tryd.prog 87 #[.int .i64 y, .int .i64 m] w fun e w' => e = .returned (.int .i64 (mlZ y m)) ∧ w = w' := by
  by_cases h : m < 1 ∨ 12 < m
  · exact long_out y m w h
  · have e : m = (((m - 1).toNat : Nat) : Int) + 1 := by omega
    have := long_in y (m - 1).toNat w (by omega) hL
    rw [← e] at this
    exact this
def lenA : Array Value := #[.int .i64 31, .int .i64 28, .int .i64 31, .int .i64 30, .int .i64 31, .int .i64 30, .int .i64 31, .int .i64 31, .int .i64 30, .int .i64 31, .int .i64 30, .int .i64 31]
theorem lenA_at (k : Nat) (hk : k < 12) : lenA[k]? = some (.int .i64 (lenC k)) := by
  have hc : k = 0 ∨ k = 1 ∨ k = 2 ∨ k = 3 ∨ k = 4 ∨ k = 5 ∨ k = 6 ∨ k = 7 ∨ k = 8 ∨ k = 9 ∨ k = 10 ∨ k = 11 := by omega
  rcases hc with rfl | rfl | rfl | rfl | rfl | rfl | rfl | rfl | rfl | rfl | rfl | rfl <;> rfl
theorem index_len (k : Nat) (hk : k < 12) (w : World) : (Instr.index 157 (.agg lenA) (.int .i64 (k : Int))).run Tryd.prog w = .ok (.int .i64 (lenC k)) w := by
  have h := lenA_at k hk
  have h2 : ¬ 12 ≤ k := by omega
  simp [Instr.index, asIntOf, Sem.run_bind, run_underlying Tryd.underlying157, Tryd.sizeOf3, Tryd.isAgg3, Go.part, h, Result.andThen, h2]
end Go.Proofs.YthghcffibljclaaDoor.D
/- Which dates may be: Check, and Right of the document. -/
namespace Go.Proofs.YthghcffibljclaaDoor.D
open Go.RowKit

def dateV (y m d : Int) : Value := .agg #[.int .i64 y, .int .i64 m, .int .i64 d]
def dateO (y m d : Int) : Obj := .cells #[.int .i64 y, .int .i64 m, .int .i64 d] 120
theorem Laid.alloc {w : World} (h : Laid w) (o : Obj) : Laid (w.alloc o) :=
  h.below (B := w.heap.size) h.lt ((Below.refl _ w).alloc (Nat.le_refl _) o) (by simp)
theorem Laid.drewN {w : World} (h : Laid w) (n : Nat) : Laid (w.drewN n) := ⟨h.len, h.era, h.lt⟩
theorem Laid.on {w w' : World} (h : Laid w) (hb : Below w.heap.size w w') : Laid w' := h.below h.lt hb hb.size
theorem Laid.onM {w w' : World} {B : Nat} (h : Laid w) (hB : max 2 1 < B) (hb : Below B w w') : Laid w' := h.below hB hb hb.size
theorem bdrewN {B : Nat} {a w : World} (h : Below B a w) (n : Nat) : Below B a (w.drewN n) := ⟨h.os, h.tape, h.output, h.size, h.block⟩
theorem long_q (y m : Int) (w : World) (hL : Laid w) :
    Calls Tryd.prog 87 #[.int .i64 y, .int .i64 m] w fun e w' => e = .returned (.int .i64 (mlZ y m)) ∧ w' = w := (long_any y m w hL).mono fun _ _ ⟨h, k⟩ => ⟨h, k.symm⟩
theorem not_right {y m d : Int} (h : ¬ RightZ y m d) : y < 1970 ∨ ¬ y < 1970 ∧ (9999 < y ∨ ¬ 9999 < y ∧ (d < 1 ∨ ¬ d < 1 ∧ mlZ y m < d)) := by
  unfold RightZ at h; omega

set_option maxRecDepth 100000 in
theorem check_ok (y m d : Int) (w : World) (hL : Laid w) (h : RightZ y m d) :
    Calls Tryd.prog 88 #[dateV y m d] w fun e w' => e = .returned (.int .i64 0) ∧ Below w.heap.size w w' := by
  obtain ⟨a1, a2, a3, a4⟩ := h
  unfold dateV
  have h1 : decide (y < 1970) = false := by simp; omega
  have h2 : decide (9999 < y) = false := by simp; omega
  have h3 : decide (d < 1) = false := by simp; omega
  have h4 : decide (mlZ y m < d) = false := by simp; omega
  go_enter Tryd.func88, Tryd.ntmps88
  go_wp2_with fail
  go_quiet ((go_at_call 87; exact Calls.quiet_of_same (long_q _ _ _ ((hL.alloc _).drewN _))))
  go_wp2_with fail
  go_ret
  exact ⟨rfl, bdrewN ((Below.refl _ w).alloc (Nat.le_refl _) _) _⟩
set_option maxRecDepth 100000 in
theorem check_no (y m d : Int) (w : World) (hL : Laid w) (h : ¬ RightZ y m d) :
    Calls Tryd.prog 88 #[dateV y m d] w fun e w' => e = .returned (.int .i64 140) ∧ Below w.heap.size w w' := by
  unfold dateV
  rcases not_right h with a1 | ⟨a1, a2 | ⟨a2, a3 | ⟨a3, a4⟩⟩⟩
  · clear h
    have h1 : decide (y < 1970) = true := by simp; omega
    go_enter Tryd.func88, Tryd.ntmps88
    go_wp2_with fail
    go_quiet (fail)
    go_wp2_with fail
    go_ret
    exact ⟨rfl, bdrewN ((Below.refl _ w).alloc (Nat.le_refl _) _) _⟩
  · clear h
    have h1 : decide (y < 1970) = false := by simp; omega
    have h2 : decide (9999 < y) = true := by simp; omega
    go_enter Tryd.func88, Tryd.ntmps88
    go_wp2_with fail
    go_quiet (fail)
    go_wp2_with fail
    go_ret
    exact ⟨rfl, bdrewN ((Below.refl _ w).alloc (Nat.le_refl _) _) _⟩
  · clear h
    have h1 : decide (y < 1970) = false := by simp; omega
    have h2 : decide (9999 < y) = false := by simp; omega
    have h3 : decide (d < 1) = true := by simp; omega
    go_enter Tryd.func88, Tryd.ntmps88
    go_wp2_with fail
    go_quiet (fail)
    go_wp2_with fail
    go_ret
    exact ⟨rfl, bdrewN ((Below.refl _ w).alloc (Nat.le_refl _) _) _⟩
  · clear h
    have h1 : decide (y < 1970) = false := by simp; omega
    have h2 : decide (9999 < y) = false := by simp; omega
    have h3 : decide (d < 1) = false := by simp; omega
    have h4 : decide (mlZ y m < d) = true := by simp; omega
    go_enter Tryd.func88, Tryd.ntmps88
    go_wp2_with fail
    go_quiet ((go_at_call 87; exact Calls.quiet_of_same (long_q _ _ _ ((hL.alloc _).drewN _))))
    go_wp2_with fail
    go_ret
    exact ⟨rfl, bdrewN ((Below.refl _ w).alloc (Nat.le_refl _) _) _⟩
end Go.Proofs.YthghcffibljclaaDoor.D
/- Blocks that are known whole; whole rows read of them, and written. -/
namespace Go.Proofs.YthghcffibljclaaDoor.D
open Go.RowKit

/-- Block g is just these cells. -/
def Box (w : World) (g : Nat) (t : TypeId) (cs : Array Value) : Prop := w.heap[g]? = some (.cells cs t (0, 0))
section
variable {w w' : World} {g : Nat} {t : TypeId} {cs : Array Value}
theorem Box.lt (h : Box w g t cs) : g < w.heap.size := by
  rcases Nat.lt_or_ge g w.heap.size with hlt | hge
  · exact hlt
  · unfold Box at h; rw [Array.getElem?_eq_none hge] at h; cases h
theorem Box.cell (h : Box w g t cs) (i : Nat) : w.cell? ⟨g, i, none⟩ = cs[i]? := cell_of_row w g i cs t (0, 0) h
theorem Box.frozen (h : Box w g t cs) (i : Nat) : w.frozen? ⟨g, i, none⟩ = false := by
  unfold Box at h
  simp [World.frozen?, h]
theorem Box.new (w : World) (t : TypeId) (cs : Array Value) : Box (w.alloc (.cells cs t)) w.heap.size t cs := heap_alloc_new w _
theorem Box.alloc (h : Box w g t cs) (o : Obj) : Box (w.alloc o) g t cs := (Below.heap_alloc w o g h.lt).trans h
theorem Box.set (h : Box w g t cs) (i : Nat) (u : Value) : Box (w.setCell ⟨g, i, none⟩ u) g t (cs.setIfInBounds i u) := by
  unfold Box at h ⊢
  simp [World.setCell, Array.getElem?_modify, h]
theorem Box.far (h : Box w g t cs) {p i : Nat} (hp : g ≠ p) (u : Value) : Box (w.setCell ⟨p, i, none⟩ u) g t cs := (Below.heap_setCell w ⟨p, i, none⟩ u g hp).trans h
theorem Box.below {B : Nat} (h : Box w g t cs) (hb : Below B w w') (hg : g < B) : Box w' g t cs := (hb.block g hg).trans h
theorem Box.belowAll (h : Box w g t cs) (hb : Below w.heap.size w w') : Box w' g t cs := h.below hb h.lt
theorem Box.drewN (h : Box w g t cs) (n : Nat) : Box (w.drewN n) g t cs := h
end
theorem Box.three {w : World} {g : Nat} {t : TypeId} {a b c : Value} (h : Box w g t #[a, b, c]) :
    w.cell? ⟨g, 0, none⟩ = some a ∧ w.cell? ⟨g, 1, none⟩ = some b ∧ w.cell? ⟨g, 2, none⟩ = some c ∧ w.frozen? ⟨g, 0, none⟩ = false ∧ w.frozen? ⟨g, 1, none⟩ = false ∧ w.frozen? ⟨g, 2, none⟩ = false :=
  ⟨h.cell 0, h.cell 1, h.cell 2, h.frozen 0, h.frozen 1, h.frozen 2⟩
theorem Box.set3 {w : World} {g : Nat} {t : TypeId} {a b c : Value} (h : Box w g t #[a, b, c]) (u0 u1 u2 : Value) :
    Box (((w.setCell ⟨g, 0, none⟩ u0).setCell ⟨g, 1, none⟩ u1).setCell ⟨g, 2, none⟩ u2) g t #[u0, u1, u2] := ((h.set 0 u0).set 1 u1).set 2 u2
theorem Box.set2 {w : World} {g : Nat} {t : TypeId} {a b c : Value} (h : Box w g t #[a, b, c]) (u v : Value) :
    Box ((w.setCell ⟨g, 2, none⟩ u).setCell ⟨g, 1, none⟩ v) g t #[a, v, u] := (h.set 2 u).set 1 v
theorem Box.onDate {w : World} {g : Nat} {t : TypeId} {a b c : Value} (h : Box w g t #[a, b, c]) (u0 u1 u2 : Value) :
    Box (((w.setCell ⟨g, 0, none⟩ u0).setCell ⟨g, 1, none⟩ u1).setCell ⟨g, 2, none⟩ u2) g t #[u0, u1, u2] := ((h.set 0 u0).set 1 u1).set 2 u2
theorem Box.one {w : World} {g : Nat} {t : TypeId} {a : Value} (h : Box w g t #[a]) : w.cell? ⟨g, 0, none⟩ = some a ∧ w.frozen? ⟨g, 0, none⟩ = false := ⟨h.cell 0, h.frozen 0⟩
/-- A whole row or struct out of a block. -/
theorem wp_load_box {op : Oper} {a : Act} {w : World} {K : Act → World → Prop} {Q : Exit → Act → World → Prop} (ty : TypeId) (x : Operand) (ho : op.op = .load ty x)
    (g : Nat) (t : TypeId) (hx : a.eval x = .pointer (some ⟨g, 0, none⟩)) (cs : Array Value) (d : TypeDesc) (hb : Box w g t cs)
    (hu : Tryd.prog.underlying ty = some d) (hd : d.isRow = true) (hi : (Tryd.prog.info? ty).map (·.size) = some cs.size)
    (h : K (a.put op.dst (.agg cs)) w) : op.wp Tryd.prog a w K Q := by
  refine wp_load_mid ty x ho g 0 hx cs.toList d (fun j v hj => ?_) hu hd (by simpa using hi) (by simpa using h)
  rw [Nat.zero_add, hb.cell j]; simpa using hj
theorem Box.setRow {w : World} {g : Nat} {t : TypeId} {cs : Array Value} (h : Box w g t cs) (cs' : Array Value) : Box (w.setRow g cs') g t cs' := setRow_heap w g cs cs' t (0, 0) h
theorem Box.farRow {w : World} {g p : Nat} {t : TypeId} {cs : Array Value} (h : Box w g t cs) (hp : g ≠ p) (cs' : Array Value) : Box (w.setRow p cs') g t cs := (setRow_other w p g cs' hp).trans h
/-- A whole row or struct into a block. -/
theorem wp_store_box {op : Oper} {a : Act} {w : World} {K : Act → World → Prop} {Q : Exit → Act → World → Prop} (ty : TypeId) (x y : Operand) (ho : op.op = .store ty x y)
    (g : Nat) (t : TypeId) (old cs : Array Value) (hx : a.eval x = .pointer (some ⟨g, 0, none⟩)) (hy : a.eval y = .agg cs) (hb : Box w g t old)
    (hs : old.size = cs.size) (hi : (Tryd.prog.info? ty).map (·.size) = some cs.size) (h1 : cs.all (·.oneCell') = true)
    (h : K (a.put op.dst undef) (w.setRow g cs)) : op.wp Tryd.prog a w K Q := by
  unfold Oper.wp execOp
  simp only [ho, hx, hy, Instr.storeAt, Instr.sureAddr, Sem.run_bind, Sem.run_pure, Result.andThen_ok, run_storeVar_row w g t ty old cs hb hi hs h1]
  exact h
/-- The same, as the walk leaves it. -/
theorem run_storeCells_box {w : World} {g : Nat} {t : TypeId} {old cs : Array Value} (hb : Box w g t old) (hs : old.size = cs.size) (h1 : cs.all (·.oneCell') = true) :
    (storeCells ⟨g, 0, none⟩ cs.toList 0).run Tryd.prog w = .ok () (w.setRow g cs) := by
  simpa using run_storeCells_from (P := Tryd.prog) g t cs.toList 0 old w hb (by simp; omega) (fun v hv => (Array.all_eq_true_iff_forall_mem.1 h1) v (by simpa using hv))
end Go.Proofs.YthghcffibljclaaDoor.D
/- May, Add, Floor, Read: walked, of the program and of the document. -/
namespace Go.Proofs.YthghcffibljclaaDoor.D
open Go.RowKit

/-- It is a time. -/
def TimeZ (t : Int) : Prop := 0 ≤ t ∧ t ≤ 253402300799
instance (t : Int) : Decidable (TimeZ t) := by unfold TimeZ; infer_instance
theorem not_time {t : Int} (h : ¬ TimeZ t) : t < 0 ∨ 253402300799 < t := by unfold TimeZ at h; omega
theorem may_yes (t : Int) (w : World) (h : TimeZ t) :
    Calls Tryd.prog 20 #[.int .i64 t] w fun e w' => e = .returned (.bool true) ∧ w = w' := by
  obtain ⟨h0, h1⟩ := h
  go_enter Tryd.func20, Tryd.ntmps20
  go_wp2_with fail
  go_ret
  exact ⟨rfl, rfl⟩
theorem may_no (t : Int) (w : World) (h : ¬ TimeZ t) :
    Calls Tryd.prog 20 #[.int .i64 t] w fun e w' => e = .returned (.bool false) ∧ w = w' := by
  rcases not_time h with h | h
  · have h1 : decide (0 ≤ t) = false := by simp; omega
    go_enter Tryd.func20, Tryd.ntmps20
    go_wp2_with fail
    go_ret
    exact ⟨rfl, rfl⟩
  · have h0 : 0 ≤ t := by omega
    have h1 : decide (t ≤ 253402300799) = false := by simp; omega
    go_enter Tryd.func20, Tryd.ntmps20
    go_wp2_with fail
    go_ret
    exact ⟨rfl, rfl⟩
/-- The times that the walk asks of, as a Bool of our own. -/
def timeB (t : Int) : Bool := decide (TimeZ t)
theorem timeB_yes {t : Int} (h : TimeZ t) : timeB t = true := by unfold timeB; simp [h]
theorem timeB_no {t : Int} (h : ¬ TimeZ t) : timeB t = false := by unfold timeB; simp [h]
theorem timeB_iff (t : Int) : timeB t = true ↔ TimeZ t := by unfold timeB; simp
theorem may_any (t : Int) (w : World) :
    Calls Tryd.prog 20 #[.int .i64 t] w fun e w' => e = .returned (.bool (timeB t)) ∧ w = w' := by
  by_cases h : TimeZ t
  · rw [timeB_yes h]; exact may_yes t w h
  · rw [timeB_no h]; exact may_no t w h
/-- An int64. -/
def I64 (n : Int) : Prop := -9223372036854775808 ≤ n ∧ n ≤ 9223372036854775807
/-- The sum's time. -/
def SumZ (t n : Int) : Prop := TimeZ t ∧ TimeZ (t + n)
instance (t n : Int) : Decidable (SumZ t n) := by unfold SumZ; infer_instance
theorem wrap_no {t n : Int} (ht : TimeZ t) (hn : I64 n) (h : ¬ TimeZ (t + n)) : ¬ TimeZ (wrap64 (t + n)) := by
  unfold TimeZ I64 at *
  unfold wrap64
  omega
/-- Where the unit begins: of a time, and a unit. -/
def FloorZ (t u : Int) : Prop := TimeZ t ∧ 1 ≤ u
/-- What a clock is believed. -/
def readZ (last t : Int) : Int := if TimeZ t then (if last < t then t else last) else last
end Go.Proofs.YthghcffibljclaaDoor.D
/- apart: a time by days, hours, minutes and seconds. -/
namespace Go.Proofs.YthghcffibljclaaDoor.D
open Go.RowKit

def unitC : Nat → Int | 0 => 86400 | 1 => 3600 | 2 => 60 | _ => 1
def remC (t : Int) : Nat → Int | 0 => t | 1 => t % 86400 | 2 => t % 3600 | 3 => t % 60 | _ => 0
def quoC (t : Int) (k : Nat) : Int := remC t k / unitC k
theorem unit_pos (k : Nat) : 1 ≤ unitC k := by unfold unitC; split <;> omega
theorem rem_in {t : Int} (h : TimeZ t) (k : Nat) : 0 ≤ remC t k ∧ remC t k ≤ 253402300799 := by
  unfold TimeZ at h; unfold remC; split <;> omega
theorem rem_next {t : Int} {k : Nat} (hk : k < 4) : remC t (k + 1) = remC t k % unitC k := by
  have hc : k = 0 ∨ k = 1 ∨ k = 2 ∨ k = 3 := by omega
  rcases hc with rfl | rfl | rfl | rfl <;> simp only [remC, unitC] <;> omega
def quoL (t : Int) (k : Nat) : List Value := (List.range k).map fun j => .int .i64 (quoC t j)
theorem quoL_len (t : Int) (k : Nat) : (quoL t k).length = k := by simp [quoL]
theorem quoL_next (t : Int) (k : Nat) : quoL t (k + 1) = quoL t k ++ [.int .i64 (quoC t k)] := by unfold quoL; rw [List.range_succ]; simp
theorem info_int : (Tryd.prog.info? 3).map (fun i => (i.zero, i.size, i.bytes)) = some (some (.int .i64 0), 1, 8) := by kernel_rfl
set_option maxRecDepth 100000 in
set_option maxHeartbeats 1000000 in
theorem apart_any (t : Int) (h : Nat) (w : World) (ht : TimeZ t) (hb : Box w h 2 #[.int .i64 86400, .int .i64 3600, .int .i64 60, .int .i64 1]) :
    Calls Tryd.prog 93 #[.int .i64 t, .slice (some ⟨h, 0, none⟩) 4 4] w fun e w' => ∃ v, e = .returned v ∧ w'.ownsRow w.heap.size 3 1 v 4 (quoL t 4) ∧ Below w.heap.size w w' := by
  obtain ⟨i0, hi, hz0, hz1, hz2⟩ := info_parts info_int
  have HB := Lib.hid hb
  have hlt := hb.lt
  clear hb
  go_enter Tryd.func93, Tryd.ntmps93
  go_wp2_with (at_make; refine wpList_make_own _ rfl _ _ 130 rfl w.heap.size 3 i0 (.int .i64 0) 1 Tryd.underlying130 hi hz0 hz1 _ _ _ 4 rfl rfl rfl (by rw [hz2]; omega) (by unfold maxLen; omega) (Nat.le_refl _) ?_; intro w1 hown hgrow)
  have hB1 : Below w.heap.size w w1 := (Below.refl w.heap.size w).grown hgrow (Nat.le_refl _) (fun j e => by cases e)
  have HB1 := Lib.hid hB1; have HO := Lib.hid hown
  clear hB1 hown hgrow
  go_loopw [0, 5, 13] (fun r v i wr => ∃ k : Nat, k ≤ 4 ∧ i = .int .i64 k ∧ r = .int .i64 (remC t k) ∧ wr.ownsRow w.heap.size 3 1 v k (quoL t k) ∧ Below w.heap.size w wr) (fun _ _ i _ => 4 - (intOf i).toNat)
  case atStart => exact ⟨0, by omega, rfl, rfl, HO.out, HB1.out⟩
  case round =>
    clear HB1 HO
    obtain ⟨k, hk, rfl, rfl, hrow, hB⟩ := hrel
    have HBr := Lib.hid hB; have HR := Lib.hid hrow
    by_cases hlt2 : k < 4
    · have hu : wr.cell? ⟨h, k, none⟩ = some (.int .i64 (unitC k)) := by
        rw [(HB.out.below hB hlt).cell k]
        have hc : k = 0 ∨ k = 1 ∨ k = 2 ∨ k = 3 := by omega
        rcases hc with rfl | rfl | rfl | rfl <;> rfl
      have hup := unit_pos k
      have hri := rem_in ht k
      have hrn := rem_next (t := t) hlt2
      have hq : remC t k / unitC k = quoC t k := rfl
      have hql := quoL_next t k
      have HRN := Lib.hid hrn; have HQ := Lib.hid hq; have HQL := Lib.hid hql
      have hz : (unitC k == 0) = false := by simp; omega
      have hsz := hB.size
      have hq0 : 0 ≤ remC t k / unitC k := Int.ediv_nonneg hri.1 (by omega)
      have hq1 : remC t k / unitC k ≤ 253402300799 := by
        have := Int.ediv_le_self (unitC k) hri.1
        omega
      obtain ⟨ri0, ri1⟩ := hri
      clear hrn hq hql hB hrow
      generalize hgn : remC t (k + 1) = r' at *
      have HGN := Lib.hid hgn
      clear hgn
      generalize remC t k = r at *
      generalize unitC k = u at *
      go_wp2_with (at_builtin; refine wpList_append_own _ rfl _ _ 130 rfl w.heap.size 3 i0 (.int .i64 0) 1 8 Tryd.underlying130 hi hz0 hz1 hz2 rfl (by decide) _ _ _ rfl (HR.out.alloc _) ⟨wr.heap.size, 0, none⟩ 1 1 [.int .i64 (r / u)] rfl rfl (cell_one_new _ _ _) (by simp [Value.oneCell']) (by unfold maxLen; omega) (by omega) (by simp; omega) ?_; intro v' w2 hown' hgrow' _)
      go_roundw
      case rel =>
        refine ⟨k + 1, by omega, by go_num, by rw [HGN.out, HRN.out], ?_, ?_⟩
        · rw [HQL.out, ← HQ.out]; exact hown'
        · exact (HBr.out.alloc hsz _).grown hgrow' (by simp; omega) (fun j e => (HR.out.lt j e).1)
      case measure => simp [intOf]; omega
    · obtain rfl : k = 4 := by omega
      clear hB hrow
      go_wp2_with fail
      go_ret
      exact ⟨_, rfl, HR.out, HBr.out⟩
/-- The four numbers, where they lie. -/
theorem own_cells {w : World} {base : Nat} {v : Value} {t : Int} (h : w.ownsRow base 3 1 v 4 (quoL t 4)) :
    ∃ g c, v = .slice (some ⟨g, 0, none⟩) 4 c ∧ base ≤ g ∧ g < w.heap.size ∧ w.cell? ⟨g, 0, none⟩ = some (.int .i64 (quoC t 0)) ∧ w.cell? ⟨g, 1, none⟩ = some (.int .i64 (quoC t 1)) ∧ w.cell? ⟨g, 2, none⟩ = some (.int .i64 (quoC t 2)) ∧ w.cell? ⟨g, 3, none⟩ = some (.int .i64 (quoC t 3)) := by
  obtain ⟨g, c, rfl⟩ := ownsRow_succ h
  have hl := h.lt g rfl
  exact ⟨g, c, rfl, hl.1, hl.2, h.cellAt 0 (by omega), h.cellAt 1 (by omega), h.cellAt 2 (by omega), h.cellAt 3 (by omega)⟩
theorem quo_is (t : Int) : quoC t 0 = t / 86400 ∧ quoC t 1 = t / 3600 % 24 ∧ quoC t 2 = t / 60 % 60 ∧ quoC t 3 = t % 60 := by
  show t / 86400 = _ ∧ t % 86400 / 3600 = _ ∧ t % 3600 / 60 = _ ∧ t % 60 / 1 = _
  omega
end Go.Proofs.YthghcffibljclaaDoor.D
/- Times and civil times: one each, and in one order with their texts. -/
namespace Go.Proofs.YthghcffibljclaaDoor.D
open Go.Op

/-- t is the time of that civil time, which may be. -/
structure CivOf (t y m d h mi s : Int) : Prop where
  right : RightZ y m d
  h0 : 0 ≤ h
  h1 : h < 24
  m0 : 0 ≤ mi
  m1 : mi < 60
  s0 : 0 ≤ s
  s1 : s < 60
  at_ : t = numZ y m d * 86400 + h * 3600 + mi * 60 + s
theorem CivOf.time {t y m d h mi s : Int} (c : CivOf t y m d h mi s) : 0 ≤ t ∧ t ≤ 253402300799 ∧ t / 86400 = numZ y m d ∧ t / 3600 % 24 = h ∧ t / 60 % 60 = mi ∧ t % 60 = s := by
  obtain ⟨n0, n1⟩ := num_range c.right
  have h := parts_time _ h mi s n0 n1 c.h0 c.h1 c.m0 c.m1 c.s0 c.s1
  rw [← c.at_] at h
  exact h
theorem civ_ex (t : Int) (h0 : 0 ≤ t) (h1 : t ≤ 253402300799) : ∃ y m d : Int, CivOf t y m d (t / 3600 % 24) (t / 60 % 60) (t % 60) ∧ numZ y m d = t / 86400 := by
  obtain ⟨a, b, c, d, e, f, g, i, j⟩ := time_parts t h0 h1
  obtain ⟨y, m, dd, hr, hn⟩ := num_surj (t / 86400).toNat (by omega)
  have hn' : numZ y m dd = t / 86400 := by omega
  exact ⟨y, m, dd, ⟨hr, c, d, e, f, g, i, by rw [hn']; exact j⟩, hn'⟩
theorem civ_inj {t y m d h mi s y' m' d' h' mi' s' : Int} (c : CivOf t y m d h mi s) (c' : CivOf t y' m' d' h' mi' s') : y = y' ∧ m = m' ∧ d = d' ∧ h = h' ∧ mi = mi' ∧ s = s' := by
  obtain ⟨_, _, a1, a2, a3, a4⟩ := c.time
  obtain ⟨_, _, b1, b2, b3, b4⟩ := c'.time
  obtain ⟨e1, e2, e3⟩ := num_inj c.right c'.right (a1.symm.trans b1)
  exact ⟨e1, e2, e3, by omega, by omega, by omega⟩
theorem civ_lt {t y m d h mi s t' y' m' d' h' mi' s' : Int} (c : CivOf t y m d h mi s) (c' : CivOf t' y' m' d' h' mi' s') :
    t < t' ↔ civLt y.toNat m.toNat d.toNat h.toNat mi.toNat s.toNat y'.toNat m'.toNat d'.toNat h'.toNat mi'.toNat s'.toNat := by
  have k := c.right.month
  have k' := c'.right.month
  have cm := cmp_num c.right c'.right
  have e1 := c.at_
  have e2 := c'.at_
  have y0 := c.right.1
  have y0' := c'.right.1
  have d0 := c.right.2.2.1
  have d0' := c'.right.2.2.1
  have lt := @cmpZ_lt y m d y' m' d'
  have gt := @cmpZ_gt y m d y' m' d'
  have eq := @cmpZ_eq y m d y' m' d'
  have a0 := c.h0; have a1 := c.h1; have a2 := c.m0; have a3 := c.m1; have a4 := c.s0; have a5 := c.s1
  have b0 := c'.h0; have b1 := c'.h1; have b2 := c'.m0; have b3 := c'.m1; have b4 := c'.s0; have b5 := c'.s1
  unfold civLt
  rcases Int.lt_trichotomy (numZ y m d) (numZ y' m' d') with hn | hn | hn
  · rw [if_pos hn] at cm
    have := lt.1 cm
    omega
  · rw [if_neg (by omega), if_pos hn] at cm
    have := eq.1 cm
    omega
  · rw [if_neg (by omega), if_neg (by omega)] at cm
    have := gt.1 cm
    omega
/-- The text of a civil time that may be. -/
theorem CivOf.small {t y m d h mi s : Int} (c : CivOf t y m d h mi s) : y.toNat < 10000 ∧ m.toNat < 100 ∧ d.toNat < 100 ∧ h.toNat < 100 ∧ mi.toNat < 100 ∧ s.toNat < 100 := by
  have := c.right.2.1
  have := c.right.month
  have := (mlZ_top y m).2
  have := c.right.2.2.2
  have := c.h1; have := c.m1; have := c.s1
  omega
def textZ (y m d h mi s : Int) : List UInt8 := textB y.toNat m.toNat d.toNat h.toNat mi.toNat s.toNat
theorem text_lt {t y m d h mi s t' y' m' d' h' mi' s' : Int} (c : CivOf t y m d h mi s) (c' : CivOf t' y' m' d' h' mi' s') :
    bytesLess (textZ y m d h mi s) (textZ y' m' d' h' mi' s') = decide (t < t') := by
  obtain ⟨a, b, e, f, g, i⟩ := c.small
  obtain ⟨a', b', e', f', g', i'⟩ := c'.small
  rw [Bool.eq_iff_iff, decide_eq_true_iff, civ_lt c c']
  exact textB_less a b e f g i a' b' e' f' g' i'
theorem text_inj {t y m d h mi s t' y' m' d' h' mi' s' : Int} (c : CivOf t y m d h mi s) (c' : CivOf t' y' m' d' h' mi' s') :
    textZ y m d h mi s = textZ y' m' d' h' mi' s' ↔ t = t' := by
  constructor
  · intro e
    have h1 := text_lt c c'
    have h2 := text_lt c' c
    rw [e, less_self] at h1 h2
    have h1' := of_decide_eq_false h1.symm
    have h2' := of_decide_eq_false h2.symm
    omega
  · intro e
    subst e
    obtain ⟨rfl, rfl, rfl, rfl, rfl, rfl⟩ := civ_inj c c'
    rfl
end Go.Proofs.YthghcffibljclaaDoor.D
/- Eras, plain: what cuts of years come to, and cuts of days. -/
namespace Go.Proofs.YthghcffibljclaaDoor.D

def ofE (sw : Bool) (k : Nat) : Int := eraC (3 * k + if sw then 1 else 0)
def moE (k : Nat) : Int := eraC (3 * k + 2)
def cnE (sw : Bool) (l : Int) (k : Nat) : Int := min (l / ofE sw k) (moE k)
def lfE (sw : Bool) (x : Int) : Nat → Int
  | 0 => x
  | k + 1 => lfE sw x k - cnE sw (lfE sw x k) k * ofE sw k
def whE (sw : Bool) (x : Int) : Nat → Int
  | 0 => 0
  | k + 1 => whE sw x k + cnE sw (lfE sw x k) k * ofE (!sw) k
theorem four_k {k : Nat} (hk : k < 4) : k = 0 ∨ k = 1 ∨ k = 2 ∨ k = 3 := by omega
theorem ofE_in (sw : Bool) {k : Nat} (hk : k < 4) : 0 < ofE sw k ∧ ofE sw k ≤ 146097 := by
  rcases four_k hk with rfl | rfl | rfl | rfl <;> cases sw <;> decide
theorem moE_in {k : Nat} (hk : k < 4) : 3 ≤ moE k ∧ moE k ≤ 24 := by
  rcases four_k hk with rfl | rfl | rfl | rfl <;> decide
theorem cnE_in (sw : Bool) {k : Nat} (hk : k < 4) {l : Int} (h : 0 ≤ l) : 0 ≤ cnE sw l k ∧ cnE sw l k ≤ 24 ∧ 0 ≤ cnE sw l k * ofE sw k ∧ cnE sw l k * ofE sw k ≤ l ∧ 0 ≤ cnE sw l k * ofE (!sw) k ∧ cnE sw l k * ofE (!sw) k ≤ 24 * 146097 := by
  have h1 := ofE_in sw hk
  have h2 := moE_in hk
  have h3 := ofE_in (!sw) hk
  have h4 : 0 ≤ l / ofE sw k := Int.ediv_nonneg h (by omega)
  have a : 0 ≤ cnE sw l k := by unfold cnE; omega
  have b : cnE sw l k ≤ 24 := by unfold cnE; omega
  have c : cnE sw l k ≤ l / ofE sw k := by unfold cnE; omega
  refine ⟨a, b, Int.mul_nonneg a (by omega), ?_, Int.mul_nonneg a (by omega), ?_⟩
  · exact Int.le_trans (Int.mul_le_mul_of_nonneg_right c (by omega)) (Int.ediv_mul_le l (by omega))
  · exact Int.mul_le_mul b h3.2 (by omega) (by omega)
theorem lfE_in (sw : Bool) {x : Int} (h0 : 0 ≤ x) (h1 : x ≤ 4000000) : ∀ k, k ≤ 4 → 0 ≤ lfE sw x k ∧ lfE sw x k ≤ 4000000
  | 0, _ => ⟨h0, h1⟩
  | k + 1, hk => by
    have := lfE_in sw h0 h1 k (by omega)
    have h2 := cnE_in sw (show k < 4 by omega) this.1
    unfold lfE; omega
theorem whE_in (sw : Bool) {x : Int} (h0 : 0 ≤ x) (h1 : x ≤ 4000000) : ∀ k, k ≤ 4 → 0 ≤ whE sw x k ∧ whE sw x k ≤ 4000000 * k
  | 0, _ => ⟨Int.le_refl _, by simp [whE]⟩
  | k + 1, hk => by
    have := whE_in sw h0 h1 k (by omega)
    have h3 := lfE_in sw h0 h1 k (by omega)
    have h2 := cnE_in sw (show k < 4 by omega) h3.1
    unfold whE; omega
theorem years_cut (x : Int) (h0 : 0 ≤ x) (h1 : x ≤ 8398) : whE false x 4 = 365 * x + x / 4 - x / 100 + x / 400 := by
  simp only [whE, lfE, cnE, ofE, moE, eraC]
  simp
  omega
theorem ylZ_of {y r : Int} (h : r ≤ 365) (hl : r = 365 → (y % 4 = 0 ∧ ¬ y % 100 = 0) ∨ y % 400 = 0) : r < ylZ y := by
  unfold ylZ
  by_cases hr : r = 365
  · rw [if_pos ((leapZ_iff y).2 (hl hr))]; omega
  · split <;> omega
theorem days_plain (m a b c d m1 m2 m3 r : Int) (h0 : 0 ≤ m) (h1 : m ≤ 3067670) (ha : a = min (m / 146097) 20) (e1 : m1 = m - a * 146097)
    (hb : b = min (m1 / 36524) 3) (e2 : m2 = m1 - b * 36524) (hc : c = min (m2 / 1461) 24) (e3 : m3 = m2 - c * 1461) (hd : d = min (m3 / 365) 3) (e4 : r = m3 - d * 365) :
    0 ≤ a * 400 + b * 100 + c * 4 + d ∧ a * 400 + b * 100 + c * 4 + d ≤ 8398 ∧ 0 ≤ r ∧ r < ylZ (1601 + (a * 400 + b * 100 + c * 4 + d)) ∧ 365 * (a * 400 + b * 100 + c * 4 + d) + (a * 400 + b * 100 + c * 4 + d) / 4 - (a * 400 + b * 100 + c * 4 + d) / 100 + (a * 400 + b * 100 + c * 4 + d) / 400 + r = m := by
  have a0 : 0 ≤ a ∧ a ≤ 20 ∧ 0 ≤ m1 ∧ m1 < 146097 ∧ (a = 20 → m1 ≤ 145730) := by omega
  clear ha
  have b0 : 0 ≤ b ∧ b ≤ 3 ∧ 0 ≤ m2 ∧ m2 ≤ 36524 ∧ (b < 3 → m2 < 36524) ∧ (a = 20 → b = 3 → m2 ≤ 36158) := by omega
  clear hb
  have c0 : 0 ≤ c ∧ c ≤ 24 ∧ 0 ≤ m3 ∧ m3 ≤ 1460 ∧ (c = 24 → m3 = 1460 → b = 3) ∧ (a = 20 → b = 3 → c = 24 → m3 ≤ 1094) := by omega
  clear hc
  have d0 : 0 ≤ d ∧ d ≤ 3 ∧ 0 ≤ r ∧ r ≤ 365 ∧ (r = 365 → d = 3 ∧ m3 = 1460) ∧ (a = 20 → b = 3 → c = 24 → d ≤ 2) := by omega
  clear hd
  have q4 : (a * 400 + b * 100 + c * 4 + d) / 400 = a := by omega
  have q1 : (a * 400 + b * 100 + c * 4 + d) / 100 = a * 4 + b := by omega
  have q2 : (a * 400 + b * 100 + c * 4 + d) / 4 = a * 100 + b * 25 + c := by omega
  refine ⟨by omega, by omega, by omega, ylZ_of (by omega) (fun hr => ?_), by rw [q4, q1, q2]; omega⟩
  obtain ⟨hd3, hm3⟩ := d0.2.2.2.2.1 hr
  by_cases h24 : c = 24
  · right
    have := c0.2.2.2.2.1 h24 hm3
    omega
  · left
    omega
theorem days_cut (m : Int) (h0 : 0 ≤ m) (h1 : m ≤ 3067670) : ∃ q r, whE true m 4 = q ∧ lfE true m 4 = r ∧ 0 ≤ q ∧ q ≤ 8398 ∧ 0 ≤ r ∧ r < ylZ (1601 + q) ∧ 365 * q + q / 4 - q / 100 + q / 400 + r = m := by
  have h := days_plain m _ _ _ _ _ _ _ _ h0 h1 rfl rfl rfl rfl rfl rfl rfl rfl
  refine ⟨_, _, rfl, rfl, ?_⟩
  simp only [whE, lfE, cnE, ofE, moE, eraC]
  simp at h ⊢
  exact h
end Go.Proofs.YthghcffibljclaaDoor.D
/- cut: eras cut off, of years, and of days. -/
namespace Go.Proofs.YthghcffibljclaaDoor.D
open Go.RowKit

theorem sidesOf (a b c : Int) (w : World) :
    Calls Tryd.prog 89 #[.agg #[.int .i64 a, .int .i64 b, .int .i64 c]] w fun e w' => e = .returned (.tuple #[.int .i64 a, .int .i64 b]) ∧ Below w.heap.size w w' := by
  go_enter Tryd.func89, Tryd.ntmps89
  go_wp2_with fail
  go_quiet (fail)
  go_wp2_with fail
  go_ret2
  exact ⟨rfl, bdrewN ((Below.refl _ w).alloc (Nat.le_refl _) _) _⟩
theorem sidesAt (a b c : Int) (w : World) :
    Calls Tryd.prog 79 #[.agg #[.int .i64 a, .int .i64 b, .int .i64 c]] w fun e w' => e = .returned (.tuple #[.int .i64 b, .int .i64 a]) ∧ Below w.heap.size w w' := by
  go_enter Tryd.func79, Tryd.ntmps79
  go_wp2_with fail
  go_quiet (fail)
  go_wp2_with fail
  go_ret2
  exact ⟨rfl, bdrewN ((Below.refl _ w).alloc (Nat.le_refl _) _) _⟩
theorem lfE_succ (sw : Bool) (x : Int) (k : Nat) : lfE sw x (k + 1) = lfE sw x k - cnE sw (lfE sw x k) k * ofE sw k := rfl
theorem whE_succ (sw : Bool) (x : Int) (k : Nat) : whE sw x (k + 1) = whE sw x k + cnE sw (lfE sw x k) k * ofE (!sw) k := rfl
theorem cnE_eq (sw : Bool) (l : Int) (k : Nat) : cnE sw l k = min (l / ofE sw k) (moE k) := rfl
def eraA : Array Value := #[.int .i64 400, .int .i64 146097, .int .i64 20, .int .i64 100, .int .i64 36524, .int .i64 3, .int .i64 4, .int .i64 1461, .int .i64 24, .int .i64 1, .int .i64 365, .int .i64 3]
theorem index_era (k : Nat) (hk : k < 4) (w : World) : (Instr.index 152 (.agg eraA) (.int .i64 (k : Int))).run Tryd.prog w = .ok (.agg #[.int .i64 (eraC (3 * k)), .int .i64 (eraC (3 * k + 1)), .int .i64 (eraC (3 * k + 2))]) w := by
  rcases four_k hk with rfl | rfl | rfl | rfl <;>
  simp [Instr.index, asIntOf, Sem.run_bind, run_underlying Tryd.underlying152, Tryd.sizeOf140, Tryd.isAgg140, Go.part, Result.andThen, eraA, eraC]
set_option maxRecDepth 100000 in
theorem cut_of (x : Int) (w : World) (hL : Laid w) (h0 : 0 ≤ x) (h1 : x ≤ 4000000) :
    Calls Tryd.prog 78 #[.int .i64 x, .func (.func 89) #[] #[]] w fun e w' => e = .returned (.tuple #[.int .i64 (whE false x 4), .int .i64 (lfE false x 4)]) ∧ Below w.heap.size w w' := by
  have hl := lfE_in false h0 h1
  have hw := whE_in false h0 h1
  have HLF := Lib.hid hl
  have HWH := Lib.hid hw
  clear hl hw
  have HL := Lib.hid hL
  have c0 : w.cell? ⟨1, 0, none⟩ = some (.int .i64 400) := hL.era 0 (by decide)
  have c1 : w.cell? ⟨1, 1, none⟩ = some (.int .i64 146097) := hL.era 1 (by decide)
  have c2 : w.cell? ⟨1, 2, none⟩ = some (.int .i64 20) := hL.era 2 (by decide)
  have c3 : w.cell? ⟨1, 3, none⟩ = some (.int .i64 100) := hL.era 3 (by decide)
  have c4 : w.cell? ⟨1, 4, none⟩ = some (.int .i64 36524) := hL.era 4 (by decide)
  have c5 : w.cell? ⟨1, 5, none⟩ = some (.int .i64 3) := hL.era 5 (by decide)
  have c6 : w.cell? ⟨1, 6, none⟩ = some (.int .i64 4) := hL.era 6 (by decide)
  have c7 : w.cell? ⟨1, 7, none⟩ = some (.int .i64 1461) := hL.era 7 (by decide)
  have c8 : w.cell? ⟨1, 8, none⟩ = some (.int .i64 24) := hL.era 8 (by decide)
  have c9 : w.cell? ⟨1, 9, none⟩ = some (.int .i64 1) := hL.era 9 (by decide)
  have c10 : w.cell? ⟨1, 10, none⟩ = some (.int .i64 365) := hL.era 10 (by decide)
  have c11 : w.cell? ⟨1, 11, none⟩ = some (.int .i64 3) := hL.era 11 (by decide)
  clear hL
  go_enter Tryd.func78, Tryd.ntmps78
  go_wp2_with fail
  clear c0 c1 c2 c3 c4 c5 c6 c7 c8 c9 c10 c11
  go_loopw [0, 4, 12] (fun l wh i wr => ∃ k : Nat, k ≤ 4 ∧ i = .int .i64 k ∧ l = .int .i64 (lfE false x k) ∧ wh = .int .i64 (whE false x k) ∧ Below w.heap.size w wr) (fun _ _ i _ => 4 - (intOf i).toNat)
  case atStart => exact ⟨0, by omega, rfl, rfl, rfl, Below.refl _ _⟩
  case round =>
    obtain ⟨k, hk, rfl, rfl, rfl, hB⟩ := hrel
    have hsz := hB.size
    have HB := Lib.hid hB
    clear hB
    by_cases hk4 : k < 4
    · have hix := index_era k hk4 wr
      obtain ⟨l0, l1⟩ := HLF.out k hk
      obtain ⟨h0', h1'⟩ := HWH.out k hk
      have hcn := cnE_in false hk4 l0
      have hel := lfE_succ false x k
      have hew := whE_succ false x k
      have hcd := cnE_eq false (lfE false x k) k
      have ha := ofE_in false hk4
      have hb := ofE_in true hk4
      have hm := moE_in hk4
      simp only [Bool.not_false] at hew hcn
      have e1 : eraC (3 * k) = ofE false k := rfl
      have e2 : eraC (3 * k + 1) = ofE true k := rfl
      have e3 : eraC (3 * k + 2) = moE k := rfl
      unfold eraA at hix
      rw [e1, e2, e3] at hix
      clear e1 e2 e3
      generalize ofE false k = a at *
      generalize ofE true k = b at *
      generalize moE k = c at *
      generalize hgl : lfE false x (k + 1) = l' at *
      generalize hgw : whE false x (k + 1) = wh' at *
      have HGL := Lib.hid hgl
      have HGW := Lib.hid hgw
      clear hgl hgw
      generalize lfE false x k = l at *
      generalize whE false x k = wh at *
      generalize cnE false l k = cn at *
      have i0 : (0 : Int) ≤ (k : Int) := by omega
      have i4 : (k : Int) < 4 := by omega
      have HEL := Lib.hid hel
      have HEW := Lib.hid hew
      have HCD := Lib.hid hcd
      clear hel hew hcd
      go_wp2_with fail
      refine (sidesOf a b c _).mono ?_
      rintro e w2 ⟨rfl, hb2⟩
      have hce : w2.cell? ⟨wr.heap.size, 2, none⟩ = some (.int .i64 c) := (hb2.cell (p := ⟨wr.heap.size, 2, none⟩) (by simp)).trans (by simp)
      have hBB : Below w.heap.size w w2 := HB.out.trans ((((Below.refl _ wr).alloc (Nat.le_refl _) _).trans (hb2.mono (by simp))).mono hsz)
      have HBB := Lib.hid hBB
      clear hb2 hBB hix HB
      obtain ⟨a0, a1⟩ := ha
      obtain ⟨n0, n1, n2, n3, n4, n5⟩ := hcn
      go_wp2_with fail
      go_region
      have hmin : (if c < l / a then c else l / a) = cn := by
        rw [HCD.out]
        split <;> omega
      rw [hmin]
      clear hmin
      go_wp2_with fail
      go_roundw
      case rel => exact ⟨k + 1, by omega, by go_num, by rw [← HEL.out, HGL.out], by rw [← HEW.out, HGW.out], HBB.out.drew⟩
      case measure => simp [intOf]; omega
    · obtain rfl : k = 4 := by omega
      go_wp2_with fail
      go_ret2
      exact ⟨rfl, HB.out⟩
set_option maxRecDepth 100000 in
theorem cut_at (x : Int) (w : World) (hL : Laid w) (h0 : 0 ≤ x) (h1 : x ≤ 4000000) :
    Calls Tryd.prog 78 #[.int .i64 x, .func (.func 79) #[] #[]] w fun e w' => e = .returned (.tuple #[.int .i64 (whE true x 4), .int .i64 (lfE true x 4)]) ∧ Below w.heap.size w w' := by
  have hl := lfE_in true h0 h1
  have hw := whE_in true h0 h1
  have HLF := Lib.hid hl
  have HWH := Lib.hid hw
  clear hl hw
  have HL := Lib.hid hL
  have c0 : w.cell? ⟨1, 0, none⟩ = some (.int .i64 400) := hL.era 0 (by decide)
  have c1 : w.cell? ⟨1, 1, none⟩ = some (.int .i64 146097) := hL.era 1 (by decide)
  have c2 : w.cell? ⟨1, 2, none⟩ = some (.int .i64 20) := hL.era 2 (by decide)
  have c3 : w.cell? ⟨1, 3, none⟩ = some (.int .i64 100) := hL.era 3 (by decide)
  have c4 : w.cell? ⟨1, 4, none⟩ = some (.int .i64 36524) := hL.era 4 (by decide)
  have c5 : w.cell? ⟨1, 5, none⟩ = some (.int .i64 3) := hL.era 5 (by decide)
  have c6 : w.cell? ⟨1, 6, none⟩ = some (.int .i64 4) := hL.era 6 (by decide)
  have c7 : w.cell? ⟨1, 7, none⟩ = some (.int .i64 1461) := hL.era 7 (by decide)
  have c8 : w.cell? ⟨1, 8, none⟩ = some (.int .i64 24) := hL.era 8 (by decide)
  have c9 : w.cell? ⟨1, 9, none⟩ = some (.int .i64 1) := hL.era 9 (by decide)
  have c10 : w.cell? ⟨1, 10, none⟩ = some (.int .i64 365) := hL.era 10 (by decide)
  have c11 : w.cell? ⟨1, 11, none⟩ = some (.int .i64 3) := hL.era 11 (by decide)
  clear hL
  go_enter Tryd.func78, Tryd.ntmps78
  go_wp2_with fail
  clear c0 c1 c2 c3 c4 c5 c6 c7 c8 c9 c10 c11
  go_loopw [0, 4, 12] (fun l wh i wr => ∃ k : Nat, k ≤ 4 ∧ i = .int .i64 k ∧ l = .int .i64 (lfE true x k) ∧ wh = .int .i64 (whE true x k) ∧ Below w.heap.size w wr) (fun _ _ i _ => 4 - (intOf i).toNat)
  case atStart => exact ⟨0, by omega, rfl, rfl, rfl, Below.refl _ _⟩
  case round =>
    obtain ⟨k, hk, rfl, rfl, rfl, hB⟩ := hrel
    have hsz := hB.size
    have HB := Lib.hid hB
    clear hB
    by_cases hk4 : k < 4
    · have hix := index_era k hk4 wr
      obtain ⟨l0, l1⟩ := HLF.out k hk
      obtain ⟨h0', h1'⟩ := HWH.out k hk
      have hcn := cnE_in true hk4 l0
      have hel := lfE_succ true x k
      have hew := whE_succ true x k
      have hcd := cnE_eq true (lfE true x k) k
      have ha := ofE_in true hk4
      have hb := ofE_in false hk4
      have hm := moE_in hk4
      simp only [Bool.not_true] at hew hcn
      have e1 : eraC (3 * k) = ofE false k := rfl
      have e2 : eraC (3 * k + 1) = ofE true k := rfl
      have e3 : eraC (3 * k + 2) = moE k := rfl
      unfold eraA at hix
      rw [e1, e2, e3] at hix
      clear e1 e2 e3
      generalize ofE true k = a at *
      generalize ofE false k = b at *
      generalize moE k = c at *
      generalize hgl : lfE true x (k + 1) = l' at *
      generalize hgw : whE true x (k + 1) = wh' at *
      have HGL := Lib.hid hgl
      have HGW := Lib.hid hgw
      clear hgl hgw
      generalize lfE true x k = l at *
      generalize whE true x k = wh at *
      generalize cnE true l k = cn at *
      have i0 : (0 : Int) ≤ (k : Int) := by omega
      have i4 : (k : Int) < 4 := by omega
      have HEL := Lib.hid hel
      have HEW := Lib.hid hew
      have HCD := Lib.hid hcd
      clear hel hew hcd
      go_wp2_with fail
      refine (sidesAt b a c _).mono ?_
      rintro e w2 ⟨rfl, hb2⟩
      have hce : w2.cell? ⟨wr.heap.size, 2, none⟩ = some (.int .i64 c) := (hb2.cell (p := ⟨wr.heap.size, 2, none⟩) (by simp)).trans (by simp)
      have hBB : Below w.heap.size w w2 := HB.out.trans ((((Below.refl _ wr).alloc (Nat.le_refl _) _).trans (hb2.mono (by simp))).mono hsz)
      have HBB := Lib.hid hBB
      clear hb2 hBB hix HB
      obtain ⟨a0, a1⟩ := ha
      obtain ⟨n0, n1, n2, n3, n4, n5⟩ := hcn
      go_wp2_with fail
      go_region
      have hmin : (if c < l / a then c else l / a) = cn := by
        rw [HCD.out]
        split <;> omega
      rw [hmin]
      clear hmin
      go_wp2_with fail
      go_roundw
      case rel => exact ⟨k + 1, by omega, by go_num, by rw [← HEL.out, HGL.out], by rw [← HEW.out, HGW.out], HBB.out.drew⟩
      case measure => simp [intOf]; omega
    · obtain rfl : k = 4 := by omega
      go_wp2_with fail
      go_ret2
      exact ⟨rfl, HB.out⟩
end Go.Proofs.YthghcffibljclaaDoor.D
/- Of: the number of a date. -/
namespace Go.Proofs.YthghcffibljclaaDoor.D
open Go.RowKit

theorem years_of {y : Int} (h0 : 1970 ≤ y) (h1 : y ≤ 9999) : whE false (y - 1601) 4 = dyZ (y - 1970).toNat + 134774 := by
  rw [years_cut (y - 1601) (by omega) (by omega), dyZ_form]
  omega
theorem dmZ_in (y : Int) {k : Nat} (hk : k ≤ 12) : 0 ≤ dmZ y k ∧ dmZ y k ≤ 366 := by
  have h := dmZ_le (y := y) hk
  rw [dmZ_year] at h
  have := ylZ_pos y
  exact ⟨dmZ_nonneg y k, by omega⟩
theorem dyZ_in {y : Int} (_ : 1970 ≤ y) (h1 : y ≤ 9999) : 0 ≤ dyZ (y - 1970).toNat ∧ dyZ (y - 1970).toNat ≤ 2932897 := by
  have a := dyZ_le (show 0 ≤ (y - 1970).toNat by omega)
  have b := dyZ_le (show (y - 1970).toNat ≤ 8030 by omega)
  rw [dyZ_last] at b
  exact ⟨a, b⟩
theorem date_cells (w : World) (y m d : Int) {w2 : World} (hb : Below (w.alloc (dateO y m d)).heap.size (w.alloc (dateO y m d)) w2) :
    w2.cell? ⟨w.heap.size, 0, none⟩ = some (.int .i64 y) ∧ w2.cell? ⟨w.heap.size, 1, none⟩ = some (.int .i64 m) ∧ w2.cell? ⟨w.heap.size, 2, none⟩ = some (.int .i64 d) ∧ Below w.heap.size w w2 := by
  have q : w.heap.size < (w.alloc (dateO y m d)).heap.size := by simp
  refine ⟨(hb.cell (p := ⟨_, 0, none⟩) q).trans (by unfold dateO; simp), (hb.cell (p := ⟨_, 1, none⟩) q).trans (by unfold dateO; simp), (hb.cell (p := ⟨_, 2, none⟩) q).trans (by unfold dateO; simp), ?_⟩
  exact ((Below.refl _ w).alloc (Nat.le_refl _) _).trans (hb.mono (by simp))
theorem of_no (y m d : Int) (w : World) (hL : Laid w) (h : ¬ RightZ y m d) :
    Calls Tryd.prog 82 #[dateV y m d] w fun e w' => e = .returned (.tuple #[.int .i64 0, .int .i64 140]) ∧ Below w.heap.size w w' := by
  have hc := check_no y m d _ (hL.alloc (dateO y m d)) h
  unfold dateV at *
  unfold dateO at hc
  clear h
  go_enter Tryd.func82, Tryd.ntmps82
  go_wp2_with fail
  refine hc.mono ?_
  rintro e w2 ⟨rfl, hb⟩
  have hB := (date_cells w y m d hb).2.2.2
  clear hb hc
  go_wp2_with fail
  go_ret2
  exact ⟨rfl, hB⟩
set_option maxRecDepth 100000 in
theorem of_ok (y m d : Int) (w : World) (hL : Laid w) (h : RightZ y m d) :
    Calls Tryd.prog 82 #[dateV y m d] w fun e w' => e = .returned (.tuple #[.int .i64 (numZ y m d), .int .i64 0]) ∧ Below w.heap.size w w' := by
  have hc := check_ok y m d _ (hL.alloc (dateO y m d)) h
  obtain ⟨m1, m2⟩ := h.month
  have hnum : numZ y m d = dyZ (y - 1970).toNat + dmZ y (m - 1).toNat + (d - 1) := rfl
  obtain ⟨y1, y2, d1, d2⟩ := h
  have d3 : d ≤ 31 := by have := (mlZ_top y m).2; omega
  have hyo := years_of y1 y2
  obtain ⟨n1, n2⟩ := dyZ_in y1 y2
  have hM : ∀ k, k ≤ 12 → 0 ≤ dmZ y k ∧ dmZ y k ≤ 366 := fun k hk => dmZ_in y hk
  have hMS := dmZ_succ y
  have hLN := fun k => mlZ_top y k
  unfold dateV at *
  unfold dateO at hc
  generalize numZ y m d = nm at *
  generalize dyZ (y - 1970).toNat = N at *
  have HN := Lib.hid hnum; have HY := Lib.hid hyo; have HD := Lib.hid d2
  have HM := Lib.hid hM; have HMS := Lib.hid hMS; have HLN := Lib.hid hLN
  clear hnum hyo d2 hM hMS hLN
  have HL := Lib.hid hL
  clear hL
  go_enter Tryd.func82, Tryd.ntmps82
  go_wp2_with fail
  refine hc.mono ?_
  rintro e w2 ⟨rfl, hb⟩
  obtain ⟨c0, c1, c2, hB⟩ := date_cells w y m d hb
  have HB := Lib.hid hB
  have HQ := Lib.hid hb.size
  clear hb hc hB
  go_wp2_with fail
  refine (cut_of (y - 1601) w2 (HL.out.on HB.out) (by omega) (by omega)).mono ?_
  rintro e w3 ⟨rfl, hb⟩
  rw [HY.out]
  have q0 : w.heap.size < w2.heap.size := Nat.lt_of_lt_of_le (by simp) HQ.out
  have c0' : w3.cell? ⟨w.heap.size, 0, none⟩ = some (.int .i64 y) := (hb.cell (p := ⟨_, 0, none⟩) q0).trans c0
  have c1' : w3.cell? ⟨w.heap.size, 1, none⟩ = some (.int .i64 m) := (hb.cell (p := ⟨_, 1, none⟩) q0).trans c1
  have c2' : w3.cell? ⟨w.heap.size, 2, none⟩ = some (.int .i64 d) := (hb.cell (p := ⟨_, 2, none⟩) q0).trans c2
  have HL3 := Lib.hid ((HL.out.on HB.out).on hb)
  have HB3 := Lib.hid (HB.out.trans (hb.mono HB.out.size))
  clear c0 c1 c2 hb HB q0 HL HQ
  generalize lfE false (y - 1601) 4 = left
  go_wp2_with fail
  go_loop [5, 7] (fun n i => ∃ k : Nat, (k : Int) ≤ m - 1 ∧ i = .int .i64 ((k : Int) + 1) ∧ n = .int .i64 (N + 134774 + dmZ y k)) (fun _ i => (m - intOf i).toNat)
  case atStart => exact ⟨0, by omega, rfl, by simp [dmZ]⟩
  case round =>
    obtain ⟨k, hk, rfl, rfl⟩ := hrel
    obtain ⟨s0, s1⟩ := HM.out k (by omega)
    by_cases hlt : (k : Int) + 1 < m
    · have hs := HMS.out k
      obtain ⟨l0, l1⟩ := HLN.out ((k : Int) + 1)
      have hs1 := (HM.out (k + 1) (by omega))
      have HS := Lib.hid hs
      clear hs
      generalize hgd : dmZ y (k + 1) = D' at *
      have HGD := Lib.hid hgd
      clear hgd
      generalize dmZ y k = D at *
      go_wp2_with fail
      refine (long_any y _ w3 HL3.out).mono ?_
      rintro e w' ⟨rfl, rfl⟩
      have hs1' : 0 ≤ D + mlZ y (k + 1) := by omega
      generalize mlZ y ((k : Int) + 1) = L at *
      go_wp2_with fail
      go_round
      case rel => exact ⟨k + 1, by omega, by go_num, by rw [HGD.out, HS.out]; go_num⟩
      case measure => simp [intOf]; omega
    · have hlt' : decide ((k : Int) + 1 < m) = false := by simpa using hlt
      have hkm : m = (k : Int) + 1 := by omega
      have hnm := HN.out
      rw [show (m - 1).toNat = k by omega] at hnm
      have HNM := Lib.hid hnm
      have HKM := Lib.hid hkm
      clear hnm hkm HN
      generalize dmZ y k = D at *
      go_wp2_with fail
      go_ret2
      refine ⟨?_, HB3.out⟩
      rw [HNM.out]
      have e : N + 134774 + D - 134774 + d - 1 = N + D + (d - 1) := by omega
      rw [e]
      rfl
end Go.Proofs.YthghcffibljclaaDoor.D
/- dayOf: the date that is so many days behind the first one of a year. -/
namespace Go.Proofs.YthghcffibljclaaDoor.D
open Go.RowKit

set_option maxRecDepth 100000 in
theorem dayof_ok (y left : Int) (w : World) (hL : Laid w) (_ : 1601 ≤ y) (_ : y ≤ 9999) (l0 : 0 ≤ left) (l1 : left < ylZ y) :
    Calls Tryd.prog 80 #[.int .i64 y, .int .i64 left] w fun e w' => ∃ m d : Int, e = .returned (.agg #[.int .i64 y, .int .i64 m, .int .i64 d]) ∧ 1 ≤ m ∧ m ≤ 12 ∧ 1 ≤ d ∧ d ≤ mlZ y m ∧ dmZ y (m - 1).toNat + (d - 1) = left ∧ Below w.heap.size w w' := by
  have l2 : left ≤ 366 := by have := ylZ_pos y; omega
  go_enter Tryd.func80, Tryd.ntmps80
  go_wp2_with fail
  go_step3
  go_wp2_with fail
  go_step3
  go_wp2_with fail
  have b0 : Box ((w.alloc (Obj.cells #[Value.int IntKind.i64 0, Value.int IntKind.i64 0, Value.int IntKind.i64 0] 120)).alloc (Obj.cells #[Value.int IntKind.i64 y, Value.int IntKind.i64 1, Value.int IntKind.i64 (left + 1)] 120)) w.heap.size 120 #[.int .i64 0, .int .i64 0, .int .i64 0] := (Box.new _ _ _).alloc _
  have b1 : Box ((w.alloc (Obj.cells #[Value.int IntKind.i64 0, Value.int IntKind.i64 0, Value.int IntKind.i64 0] 120)).alloc (Obj.cells #[Value.int IntKind.i64 y, Value.int IntKind.i64 1, Value.int IntKind.i64 (left + 1)] 120)) (w.heap.size + 1) 120 #[.int .i64 y, .int .i64 1, .int .i64 (left + 1)] := by
    have := Box.new (w.alloc (Obj.cells #[Value.int IntKind.i64 0, Value.int IntKind.i64 0, Value.int IntKind.i64 0] 120)) 120 #[.int .i64 y, .int .i64 1, .int .i64 (left + 1)]
    simpa using this
  have hw1 : Below w.heap.size w ((w.alloc (Obj.cells #[Value.int IntKind.i64 0, Value.int IntKind.i64 0, Value.int IntKind.i64 0] 120)).alloc (Obj.cells #[Value.int IntKind.i64 y, Value.int IntKind.i64 1, Value.int IntKind.i64 (left + 1)] 120)) := ((Below.refl _ w).alloc (Nat.le_refl _) _).alloc (by simp) _
  have HL := Lib.hid hL
  clear hL
  go_loopw [6] (fun _ wr => ∃ (k : Nat) (dd : Int), k ≤ 11 ∧ dd + dmZ y k = left + 1 ∧ 1 ≤ dd ∧ Below w.heap.size w wr ∧ Box wr w.heap.size 120 #[.int .i64 0, .int .i64 0, .int .i64 0] ∧ Box wr (w.heap.size + 1) 120 #[.int .i64 y, .int .i64 ((k : Int) + 1), .int .i64 dd]) (fun _ wr => (12 - intOf ((wr.cell? ⟨w.heap.size + 1, 1, none⟩).getD undef)).toNat)
  case atStart => exact ⟨0, left + 1, by omega, by simp [dmZ], by omega, hw1, b0, b1⟩
  case round =>
    obtain ⟨k, dd, hk, hd, hd1, hB, hb0, hb1⟩ := hrel
    clear b0 b1 hw1
    have hkm := dmZ_in y (k := k) (by omega)
    have hms := dmZ_succ y k
    have hml := mlZ_top y ((k : Int) + 1)
    have hlast := dmZ_year y
    obtain ⟨z0, z1, z2, f0, f1, f2⟩ := hb0.three
    obtain ⟨c0, c1, c2, g0, g1, g2⟩ := hb1.three
    have HB := Lib.hid hB; have H0 := Lib.hid hb0; have H1 := Lib.hid hb1; have HD := Lib.hid hd
    have dd2 : dd ≤ 367 := by omega
    clear hB hb0 hb1 hd
    by_cases hlt : mlZ y ((k : Int) + 1) < dd
    · have hk11 : k < 11 := by
        by_cases h11 : k = 11
        · subst h11
          have h12 := hms.symm.trans hlast
          have := HD.out
          omega
        · omega
      have hn : dd - mlZ y ((k : Int) + 1) + dmZ y (k + 1) = left + 1 := by have := HD.out; omega
      have HN := Lib.hid hn
      clear hn hms hlast
      go_wp2_with fail
      refine (long_any y _ wr (HL.out.on HB.out)).mono ?_
      rintro e w' ⟨rfl, rfl⟩
      obtain ⟨ml0, ml1⟩ := hml
      generalize mlZ y ((k : Int) + 1) = L at *
      go_wp2_with fail
      have hbx := H1.out.set2 (.int .i64 (dd - L)) (.int .i64 ((k : Int) + 1 + 1))
      have hms : (12 - intOf ((((wr.setCell { block := w.heap.size + 1, off := 2 } (Value.int IntKind.i64 (dd - L))).setCell { block := w.heap.size + 1, off := 1 } (Value.int IntKind.i64 ((k : Int) + 1 + 1))).cell? { block := w.heap.size + 1, off := 1 }).getD undef)).toNat < (12 - intOf ((wr.cell? { block := w.heap.size + 1, off := 1 }).getD undef)).toNat := by
        rw [hbx.three.2.1, c1]; simp [intOf]; omega
      refine ⟨⟨k + 1, dd - L, by omega, HN.out, by omega, (HB.out.setCell (by show w.heap.size ≤ w.heap.size + 1; omega) _).setCell (by show w.heap.size ≤ w.heap.size + 1; omega) _, (H0.out.far (by omega) _).far (by omega) _, ?_⟩, hms⟩
      rw [show (((k + 1 : Nat) : Int) + 1) = (k : Int) + 1 + 1 by omega]
      exact hbx
    · have hlt' : decide (mlZ y ((k : Int) + 1) < dd) = false := by simpa using hlt
      clear hms hlast
      go_wp2_with fail
      refine (long_any y _ wr (HL.out.on HB.out)).mono ?_
      rintro e w' ⟨rfl, rfl⟩
      obtain ⟨ml0, ml1⟩ := hml
      generalize hL0 : mlZ y ((k : Int) + 1) = L at *
      have HL0 := Lib.hid hL0
      clear hL0
      go_wp2_with fail
      rw [Exit.noGoto_ret]
      refine bodyPost_ret (v := .agg #[.int .i64 y, .int .i64 ((k : Int) + 1), .int .i64 dd]) ?_ rfl ⟨(k : Int) + 1, dd, rfl, by omega, by omega, hd1, by rw [HL0.out]; exact hlt, ?_, ((HB.out.setCell (Nat.le_refl _) _).setCell (Nat.le_refl _) _).setCell (Nat.le_refl _) _⟩
      · simp [results, Tryd.results80, go_sem, z0, z1, z2]
      · have := HD.out
        rw [show ((k : Int) + 1 - 1).toNat = k by omega]
        omega
end Go.Proofs.YthghcffibljclaaDoor.D
/- At: the date of a number; Weekday. -/
namespace Go.Proofs.YthghcffibljclaaDoor.D
open Go.RowKit

theorem counts_yes (n : Int) (w : World) (h0 : 0 ≤ n) (h1 : n ≤ 2932896) :
    Calls Tryd.prog 77 #[.int .i64 n] w fun e w' => e = .returned (.bool true) ∧ w = w' := by
  go_enter Tryd.func77, Tryd.ntmps77
  go_wp2_with fail
  go_ret
  exact ⟨rfl, rfl⟩
theorem counts_no (n : Int) (w : World) (h : n < 0 ∨ 2932896 < n) :
    Calls Tryd.prog 77 #[.int .i64 n] w fun e w' => e = .returned (.bool false) ∧ w = w' := by
  rcases h with h | h
  · have h1 : decide (0 ≤ n) = false := by simp; omega
    go_enter Tryd.func77, Tryd.ntmps77
    go_wp2_with fail
    go_ret
    exact ⟨rfl, rfl⟩
  · have h0 : 0 ≤ n := by omega
    have h1 : decide (n ≤ 2932896) = false := by simp; omega
    go_enter Tryd.func77, Tryd.ntmps77
    go_wp2_with fail
    go_ret
    exact ⟨rfl, rfl⟩
theorem weekday_no (n : Int) (w : World) (h : n < 0 ∨ 2932896 < n) :
    Calls Tryd.prog 83 #[.int .i64 n] w fun e w' => e = .returned (.tuple #[.int .i64 0, .int .i64 2]) ∧ w = w' := by
  have hc := counts_no n w h
  clear h
  go_enter Tryd.func83, Tryd.ntmps83
  go_wp2_with fail
  refine hc.mono ?_
  rintro e w' ⟨rfl, rfl⟩
  clear hc
  go_wp2_with fail
  go_ret2
  exact ⟨rfl, rfl⟩
theorem weekday_ok (n : Int) (w : World) (h0 : 0 ≤ n) (h1 : n ≤ 2932896) :
    Calls Tryd.prog 83 #[.int .i64 n] w fun e w' => e = .returned (.tuple #[.int .i64 ((n + 4) % 7), .int .i64 0]) ∧ w = w' := by
  go_enter Tryd.func83, Tryd.ntmps83
  go_wp2_with fail
  refine (counts_yes n w h0 h1).mono ?_
  rintro e w' ⟨rfl, rfl⟩
  go_wp2_with fail
  go_ret2
  exact ⟨rfl, rfl⟩
theorem at_no (n : Int) (w : World) (h : n < 0 ∨ 2932896 < n) :
    Calls Tryd.prog 70 #[.int .i64 n] w fun e w' => e = .returned (.tuple #[dateV 0 0 0, .int .i64 2]) ∧ Below w.heap.size w w' := by
  unfold dateV
  have hc := fun w => counts_no n w h
  clear h
  have HC := Lib.hid hc
  clear hc
  go_enter Tryd.func70, Tryd.ntmps70
  go_wp2_with fail
  refine (HC.out _).mono ?_
  rintro e w' ⟨rfl, rfl⟩
  go_wp2_with fail
  refine bodyPost_ret (v := .tuple #[.agg #[.int .i64 0, .int .i64 0, .int .i64 0], .int .i64 2]) (by simp [results, Tryd.results70, go_sem]) rfl ⟨rfl, ?_⟩
  exact (Below.refl _ w).alloc (Nat.le_refl _) _
theorem at_math (n q r : Int) (h0 : 0 ≤ n) (h1 : n ≤ 2932896) (q0 : 0 ≤ q) (q1 : q ≤ 8398) (r0 : 0 ≤ r) (r1 : r < ylZ (1601 + q)) (he : 365 * q + q / 4 - q / 100 + q / 400 + r = n + 134774) :
    1970 ≤ 1601 + q ∧ 1601 + q ≤ 9999 ∧ ∀ m d : Int, 1 ≤ m → m ≤ 12 → 1 ≤ d → d ≤ mlZ (1601 + q) m → dmZ (1601 + q) (m - 1).toNat + (d - 1) = r → RightZ (1601 + q) m d ∧ numZ (1601 + q) m d = n := by
  have hq : 369 ≤ q := by
    by_cases hq : q ≤ 367
    · have := (ylZ_pos (1601 + q)).2
      omega
    · by_cases h8 : q = 368
      · subst h8
        have e : ylZ (1601 + 368) = 365 := by decide
        rw [e] at r1
        omega
      · omega
  refine ⟨by omega, by omega, fun m d m1 m2 d1 d2 hr => ⟨⟨by omega, by omega, d1, d2⟩, ?_⟩⟩
  unfold numZ
  rw [dyZ_form]
  omega
set_option maxRecDepth 100000 in
theorem at_ok (n : Int) (w : World) (hL : Laid w) (h0 : 0 ≤ n) (h1 : n ≤ 2932896) :
    Calls Tryd.prog 70 #[.int .i64 n] w fun e w' => ∃ y m d : Int, e = .returned (.tuple #[dateV y m d, .int .i64 0]) ∧ RightZ y m d ∧ numZ y m d = n ∧ Below w.heap.size w w' := by
  unfold dateV
  go_enter Tryd.func70, Tryd.ntmps70
  go_wp2_with fail
  refine (counts_yes n _ h0 h1).mono ?_
  rintro e w' ⟨rfl, rfl⟩
  go_wp2_with fail
  refine (cut_at (n + 134774) _ (hL.alloc _) (by omega) (by omega)).mono ?_
  rintro e w2 ⟨rfl, hb⟩
  obtain ⟨q, r, hq, hr, q0, q1, r0, r1, he⟩ := days_cut (n + 134774) (by omega) (by omega)
  obtain ⟨y1, y2, HM⟩ := at_math n q r h0 h1 q0 q1 r0 r1 he
  rw [hq, hr]
  have hbx : Box w2 w.heap.size 120 #[.int .i64 0, .int .i64 0, .int .i64 0] := (Box.new w 120 _).below hb (by simp)
  have hB : Below w.heap.size w w2 := ((Below.refl _ w).alloc (Nat.le_refl _) _).trans (hb.mono (by simp))
  have HL := Lib.hid (hL.on hB)
  have HB := Lib.hid hB
  have HX := Lib.hid hbx
  have HM := Lib.hid HM
  rename_i HM0
  have HQ := Lib.hid (show w.heap.size < w2.heap.size from hbx.lt)
  clear hb hB hL hq hr hbx he HM0
  go_wp2_with fail
  refine (dayof_ok (1601 + q) r w2 HL.out (by omega) y2 r0 r1).mono ?_
  rintro e w3 ⟨m, d, rfl, m1, m2, d1, d2, hmd, hb⟩
  have hx3 : Box w3 w.heap.size 120 #[.int .i64 0, .int .i64 0, .int .i64 0] := HX.out.below hb HQ.out
  obtain ⟨z0, z1, z2, f0, f1, f2⟩ := hx3.three
  obtain ⟨hR, hN⟩ := HM.out m d m1 m2 d1 d2 hmd
  have HR := Lib.hid hR; have HN := Lib.hid hN; have HX3 := Lib.hid hx3
  have HB3 := Lib.hid (HB.out.trans (hb.mono (Nat.le_of_lt HQ.out)))
  clear hb hx3 hR hN hmd d2 HX HB
  generalize 1601 + q = y at *
  go_wp2_with fail
  refine bodyPost_ret (v := .tuple #[.agg #[.int .i64 y, .int .i64 m, .int .i64 d], .int .i64 0]) (by simp [results, Tryd.results70, go_sem, z0, z1, z2]) rfl ⟨y, m, d, rfl, HR.out, HN.out, ?_⟩
  exact ((HB3.out.setCell (Nat.le_refl _) _).setCell (Nat.le_refl _) _).setCell (Nat.le_refl _) _
end Go.Proofs.YthghcffibljclaaDoor.D
/- Of and At of the document. -/
namespace Go.Proofs.YthghcffibljclaaDoor.D
open Go.RowKit

theorem dyZ_succ (k : Nat) : dyZ (k + 1) = dyZ k + ylZ (1970 + k) := rfl
theorem dyZ_bd {k : Nat} (h : k ≤ 8030) : 0 ≤ dyZ k ∧ dyZ k ≤ 2932897 := by
  have a := dyZ_le (show 0 ≤ k by omega)
  have b := dyZ_le h
  rw [dyZ_last] at b
  exact ⟨a, b⟩
end Go.Proofs.YthghcffibljclaaDoor.D
/- At of the document. -/
namespace Go.Proofs.YthghcffibljclaaDoor.D
open Go.RowKit

theorem atR_math (n : Int) (k j : Nat) (hk : k ≤ 8029) (hj : j ≤ 11) (h0 : 0 ≤ n - dyZ k - dmZ (1970 + k) j) (h1 : n - dyZ k - dmZ (1970 + k) j < mlZ (1970 + k) ((j : Int) + 1)) :
    RightZ (1970 + (k : Int)) ((j : Int) + 1) (n - dyZ k - dmZ (1970 + k) j + 1) ∧ numZ (1970 + (k : Int)) ((j : Int) + 1) (n - dyZ k - dmZ (1970 + k) j + 1) = n := by
  refine ⟨⟨by omega, by omega, by omega, by omega⟩, ?_⟩
  unfold numZ
  rw [show (1970 + (k : Int) - 1970).toNat = k by omega, show ((j : Int) + 1 - 1).toNat = j by omega]
  omega
end Go.Proofs.YthghcffibljclaaDoor.D
/- At: the civil time of a time. -/
namespace Go.Proofs.YthghcffibljclaaDoor.D
open Go.RowKit

def civV (y m d h mi s : Int) : Value := .agg #[.int .i64 y, .int .i64 m, .int .i64 d, .int .i64 h, .int .i64 mi, .int .i64 s]
def civO (y m d h mi s : Int) : Obj := .cells #[.int .i64 y, .int .i64 m, .int .i64 d, .int .i64 h, .int .i64 mi, .int .i64 s] 136
theorem tat_no (t : Int) (w : World) (h : ¬ TimeZ t) :
    Calls Tryd.prog 86 #[.int .i64 t] w fun e w' => e = .returned (.tuple #[civV 0 0 0 0 0 0, .int .i64 2]) ∧ Below w.heap.size w w' := by
  unfold civV
  have H1 := Lib.hid h
  clear h
  go_enter Tryd.func86, Tryd.ntmps86
  go_wp2_with fail
  refine (may_no _ _ H1.out).mono ?_
  rintro e w' ⟨rfl, rfl⟩
  go_wp2_with fail
  refine bodyPost_ret (v := .tuple #[.agg #[.int .i64 0, .int .i64 0, .int .i64 0, .int .i64 0, .int .i64 0, .int .i64 0], .int .i64 2]) (by simp [results, Tryd.results86, go_sem]) rfl ⟨rfl, ?_⟩
  exact (Below.refl _ w).alloc (Nat.le_refl _) _
theorem alloc_cell {w : World} {g j : Nat} {v : Value} (hc : w.cell? ⟨g, j, none⟩ = some v) (hg : g < w.heap.size) (o : Obj) : (w.alloc o).cell? ⟨g, j, none⟩ = some v :=
  (((Below.refl w.heap.size w).alloc (Nat.le_refl _) o).cell (p := ⟨g, j, none⟩) hg).trans hc
theorem below_six {B g : Nat} {a w : World} (h : Below B a w) (hg : B ≤ g) (u0 u1 u2 u3 u4 u5 : Value) :
    Below B a ((((((w.setCell ⟨g, 0, none⟩ u0).setCell ⟨g, 1, none⟩ u1).setCell ⟨g, 2, none⟩ u2).setCell ⟨g, 3, none⟩ u3).setCell ⟨g, 4, none⟩ u4).setCell ⟨g, 5, none⟩ u5) :=
  (((((h.setCell hg _).setCell hg _).setCell hg _).setCell hg _).setCell hg _).setCell hg _
theorem Box.six {w : World} {g : Nat} {t : TypeId} {a b c d e f : Value} (h : Box w g t #[a, b, c, d, e, f]) :
    w.cell? ⟨g, 0, none⟩ = some a ∧ w.cell? ⟨g, 1, none⟩ = some b ∧ w.cell? ⟨g, 2, none⟩ = some c ∧ w.cell? ⟨g, 3, none⟩ = some d ∧ w.cell? ⟨g, 4, none⟩ = some e ∧ w.cell? ⟨g, 5, none⟩ = some f ∧ w.frozen? ⟨g, 0, none⟩ = false ∧ w.frozen? ⟨g, 1, none⟩ = false ∧ w.frozen? ⟨g, 2, none⟩ = false ∧ w.frozen? ⟨g, 3, none⟩ = false ∧ w.frozen? ⟨g, 4, none⟩ = false ∧ w.frozen? ⟨g, 5, none⟩ = false :=
  ⟨h.cell 0, h.cell 1, h.cell 2, h.cell 3, h.cell 4, h.cell 5, h.frozen 0, h.frozen 1, h.frozen 2, h.frozen 3, h.frozen 4, h.frozen 5⟩
set_option maxRecDepth 100000 in
set_option maxHeartbeats 1000000 in
theorem tat_ok (t : Int) (w : World) (hL : Laid w) (ht : TimeZ t) :
    Calls Tryd.prog 86 #[.int .i64 t] w fun e w' => ∃ y m d h mi s : Int, e = .returned (.tuple #[civV y m d h mi s, .int .i64 0]) ∧ CivOf t y m d h mi s ∧ Below w.heap.size w w' := by
  unfold civV
  have H1 := Lib.hid ht
  have HL := Lib.hid hL
  clear ht hL
  go_enter Tryd.func86, Tryd.ntmps86
  go_wp2_with fail
  refine (may_yes _ _ H1.out).mono ?_
  rintro e w' ⟨rfl, rfl⟩
  go_wp2_with fail
  have b0 : Box ((w.alloc (civO 0 0 0 0 0 0)).alloc (.cells #[.int .i64 86400, .int .i64 3600, .int .i64 60, .int .i64 1] 2)) w.heap.size 136 #[.int .i64 0, .int .i64 0, .int .i64 0, .int .i64 0, .int .i64 0, .int .i64 0] := (Box.new _ _ _).alloc _
  have b1 : Box ((w.alloc (civO 0 0 0 0 0 0)).alloc (.cells #[.int .i64 86400, .int .i64 3600, .int .i64 60, .int .i64 1] 2)) (w.heap.size + 1) 2 #[.int .i64 86400, .int .i64 3600, .int .i64 60, .int .i64 1] := by
    have := Box.new (w.alloc (civO 0 0 0 0 0 0)) 2 #[.int .i64 86400, .int .i64 3600, .int .i64 60, .int .i64 1]
    rwa [show (w.alloc (civO 0 0 0 0 0 0)).heap.size = w.heap.size + 1 by simp] at this
  have bB : Below w.heap.size w ((w.alloc (civO 0 0 0 0 0 0)).alloc (.cells #[.int .i64 86400, .int .i64 3600, .int .i64 60, .int .i64 1] 2)) := ((Below.refl _ w).alloc (Nat.le_refl _) _).alloc (by simp) _
  unfold civO at b0 b1 bB
  refine (apart_any t _ _ H1.out b1).mono ?_
  rintro e w2 ⟨v, rfl, hrow, hb⟩
  obtain ⟨g, c, rfl, hg, hgl, c0, c1, c2, c3⟩ := own_cells hrow
  obtain ⟨q0, q1, q2, q3⟩ := quo_is t
  rw [q0] at c0
  rw [q1] at c1
  rw [q2] at c2
  rw [q3] at c3
  clear q0 q1 q2 q3 hrow
  have hx2 := b0.belowAll hb
  have hs2 : w.heap.size + 1 < w2.heap.size := by have := hb.size; simp at this; omega
  have hg2 : w.heap.size + 1 < g := by simp at hg; omega
  have HB2 := Lib.hid (bB.trans (hb.mono bB.size)); have HX2 := Lib.hid hx2
  have HL2 := Lib.hid (HL.out.on HB2.out)
  clear hb b0 b1 bB hx2 hg HL
  obtain ⟨f0, f1, f2, f3⟩ : 0 ≤ t / 86400 ∧ t / 86400 ≤ 2932896 ∧ 0 ≤ t ∧ t ≤ 253402300799 := by have := H1.out; unfold TimeZ at this; omega
  go_wp2_with fail
  refine (at_ok (t / 86400) _ HL2.out f0 f1).mono ?_
  rintro e w3 ⟨y, m, d, rfl, hR, hN, hb⟩
  have d1 := (hb.cell (p := ⟨g, 1, none⟩) hgl).trans c1
  have d2 := (hb.cell (p := ⟨g, 2, none⟩) hgl).trans c2
  have d3 := (hb.cell (p := ⟨g, 3, none⟩) hgl).trans c3
  have hx3 := HX2.out.belowAll hb
  have hs3 : w.heap.size + 1 < w3.heap.size := by have := hb.size; omega
  have hg3 : g < w3.heap.size := by have := hb.size; omega
  have HB3 := Lib.hid (HB2.out.trans (hb.mono HB2.out.size)); have HX3 := Lib.hid hx3
  have HR := Lib.hid hR; have HN := Lib.hid hN
  clear c0 c1 c2 c3 hb hx3 hR hN HB2 HX2 HL2
  unfold dateV
  go_wp2_with fail
  have hd := Box.new w3 120 #[.int .i64 y, .int .i64 m, .int .i64 d]
  have hxx := HX3.out.alloc (.cells #[.int .i64 y, .int .i64 m, .int .i64 d] 120)
  have hBB := HB3.out.alloc HB3.out.size (.cells #[.int .i64 y, .int .i64 m, .int .i64 d] 120)
  have e1 := alloc_cell d1 hg3 (.cells #[.int .i64 y, .int .i64 m, .int .i64 d] 120)
  have e2 := alloc_cell d2 hg3 (.cells #[.int .i64 y, .int .i64 m, .int .i64 d] 120)
  have e3 := alloc_cell d3 hg3 (.cells #[.int .i64 y, .int .i64 m, .int .i64 d] 120)
  have HBB := Lib.hid hBB
  clear d1 d2 d3 hBB HB3 HX3 hgl hg3 hs2
  generalize w3.alloc _ = w4 at *
  obtain ⟨z0, z1, z2, y0, y1, y2⟩ := hd.three
  obtain ⟨x0, x1, x2, x3, x4, x5, u0, u1, u2, u3, u4, u5⟩ := hxx.six
  clear hd hxx y0 y1 y2
  go_region
  go_wp2_with fail
  refine bodyPost_ret (v := .tuple #[.agg #[.int .i64 y, .int .i64 m, .int .i64 d, .int .i64 (t / 3600 % 24), .int .i64 (t / 60 % 60), .int .i64 (t % 60)], .int .i64 0]) (by simp [results, Tryd.results86, go_sem, x0, x1, x2, x3, x4, x5]) rfl ⟨y, m, d, _, _, _, rfl, ?_, ?_⟩
  · exact ⟨HR.out, by omega, by omega, by omega, by omega, by omega, by omega, by rw [HN.out]; omega⟩
  · exact (below_six HBB.out (Nat.le_refl _) ..).drew
/-! weekdays -/
end Go.Proofs.YthghcffibljclaaDoor.D
/- Of and Check: the time of a civil time. -/
namespace Go.Proofs.YthghcffibljclaaDoor.D
open Go.RowKit

/-- A civil time that may be. -/
def CivR (y m d h mi s : Int) : Prop := RightZ y m d ∧ 0 ≤ h ∧ h < 24 ∧ 0 ≤ mi ∧ mi < 60 ∧ 0 ≤ s ∧ s < 60
def timeZ (y m d h mi s : Int) : Int := numZ y m d * 86400 + h * 3600 + mi * 60 + s
theorem CivR.of {y m d h mi s : Int} (c : CivR y m d h mi s) : CivOf (timeZ y m d h mi s) y m d h mi s := by
  obtain ⟨a, b, c, d, e, f, g⟩ := c
  exact ⟨a, b, c, d, e, f, g, rfl⟩
theorem CivOf.r {t y m d h mi s : Int} (c : CivOf t y m d h mi s) : CivR y m d h mi s := ⟨c.right, c.h0, c.h1, c.m0, c.m1, c.s0, c.s1⟩
theorem CivOf.is {t y m d h mi s : Int} (c : CivOf t y m d h mi s) : timeZ y m d h mi s = t := c.at_.symm
theorem CivOf.timeZ {t y m d h mi s : Int} (c : CivOf t y m d h mi s) : TimeZ t := ⟨c.time.1, c.time.2.1⟩
/-- What At comes to. -/
def AtIs (t : Int) (w : World) (e : Ending) (w' : World) : Prop :=
  ((∃ y m d h mi s : Int, e = .returned (.tuple #[civV y m d h mi s, .int .i64 0]) ∧ CivOf t y m d h mi s) ∨ (¬ TimeZ t ∧ e = .returned (.tuple #[civV 0 0 0 0 0 0, .int .i64 2]))) ∧ Below w.heap.size w w'
theorem tat_any (t : Int) (w : World) (hL : Laid w) : Calls Tryd.prog 86 #[.int .i64 t] w (AtIs t w) := by
  by_cases h : TimeZ t
  · refine (tat_ok t w hL h).mono ?_
    rintro e w' ⟨y, m, d, hh, mi, s, rfl, hc, hb⟩
    exact ⟨.inl ⟨y, m, d, hh, mi, s, rfl, hc⟩, hb⟩
  · refine (tat_no t w h).mono ?_
    rintro e w' ⟨rfl, hb⟩
    exact ⟨.inr ⟨h, rfl⟩, hb⟩
theorem box_civ (w : World) (y m d h mi s : Int) : Box (w.alloc (civO y m d h mi s)) w.heap.size 136 #[.int .i64 y, .int .i64 m, .int .i64 d, .int .i64 h, .int .i64 mi, .int .i64 s] ∧ Below w.heap.size w (w.alloc (civO y m d h mi s)) ∧ w.heap.size < (w.alloc (civO y m d h mi s)).heap.size :=
  ⟨Box.new _ _ _, (Below.refl _ w).alloc (Nat.le_refl _) _, by simp⟩
set_option maxRecDepth 100000 in
set_option maxHeartbeats 1000000 in
theorem tof_ok (y m d h mi s : Int) (w : World) (hL : Laid w) (hc : CivR y m d h mi s) :
    Calls Tryd.prog 76 #[civV y m d h mi s] w fun e w' => e = .returned (.tuple #[.int .i64 (timeZ y m d h mi s), .int .i64 0]) ∧ Below w.heap.size w w' := by
  unfold civV
  have hco := hc.of
  obtain ⟨n0, n1⟩ := num_range hc.1
  obtain ⟨b0, bB, bs⟩ := box_civ w y m d h mi s
  have hLb := hL.on bB
  have hof := of_ok y m d _ hLb hc.1
  unfold civO at b0 bB bs hLb hof
  have HB := Lib.hid bB; have HX := Lib.hid b0; have HC := Lib.hid hco; have HL := Lib.hid hLb; have HO := Lib.hid hof; have HS := Lib.hid bs
  have ht : timeZ y m d h mi s = numZ y m d * 86400 + h * 3600 + mi * 60 + s := rfl
  obtain ⟨_, h0, h1, m0, m1, s0, s1⟩ := hc
  clear hL hco bB b0 hLb hof bs
  go_enter Tryd.func76, Tryd.ntmps76
  go_wp2_with fail
  unfold dateV at HO
  refine HO.out.mono ?_
  rintro e w2 ⟨rfl, hb⟩
  have hx2 := HX.out.belowAll hb
  have hs2 : w.heap.size < w2.heap.size := Nat.lt_of_lt_of_le HS.out hb.size
  obtain ⟨x0, x1, x2, x3, x4, x5, _⟩ := hx2.six
  have HB2 := Lib.hid (HB.out.trans (hb.mono (Nat.le_of_lt HS.out)))
  have HL2 := Lib.hid (HL.out.on hb); have HX2 := Lib.hid hx2
  have HT := Lib.hid ht
  generalize htg : timeZ y m d h mi s = t at *
  have hn : numZ y m d * 86400 + h * 3600 + mi * 60 + s = t := HT.out.symm
  have HTG := Lib.hid htg
  clear hb hx2 HB HL HX HO htg ht
  have HN := Lib.hid hn
  clear hn
  generalize numZ y m d = n at *
  go_wp2_with fail
  rw [HN.out]
  refine (tat_any _ _ HL2.out).mono ?_
  rintro e w3 ⟨hr, hb⟩
  rcases hr with ⟨y', m', d', h', mi', s', rfl, hc'⟩ | ⟨hn, _⟩
  rotate_left
  · exact absurd HC.out.timeZ hn
  obtain ⟨rfl, rfl, rfl, rfl, rfl, rfl⟩ := civ_inj HC.out hc'
  have hx3 := HX2.out.belowAll hb
  have HB3 := Lib.hid (HB2.out.trans (hb.mono (Nat.le_of_lt hs2)))
  clear hb hc' x0 x1 x2 x3 x4 x5
  have hs3 : w.heap.size < w3.heap.size := hx3.lt
  obtain ⟨x0, x1, x2, x3, x4, x5, _⟩ := hx3.six
  unfold civV
  go_wp2_with fail
  go_ret2
  rw [HTG.out]
  exact ⟨rfl, HB3.out.alloc HB3.out.size _⟩
/-! Check -/
set_option maxRecDepth 100000 in
set_option maxHeartbeats 1000000 in
theorem tof_no (y m d h mi s : Int) (w : World) (hL : Laid w) (hc : ¬ CivR y m d h mi s) :
    Calls Tryd.prog 76 #[civV y m d h mi s] w fun e w' => e = .returned (.tuple #[.int .i64 0, .int .i64 150]) ∧ Below w.heap.size w w' := by
  unfold civV
  obtain ⟨b0, bB, bs⟩ := box_civ w y m d h mi s
  have hLb := hL.on bB
  have HLb := Lib.hid hLb
  have HS := Lib.hid bs
  by_cases hr : RightZ y m d
  · obtain ⟨n0, n1⟩ := num_range hr
    have hof := of_ok y m d _ hLb hr
    unfold civO at b0 bB HLb hof HS
    have HB := Lib.hid bB; have HX := Lib.hid b0; have HC := Lib.hid hc; have HO := Lib.hid hof
    clear hL bB b0 hLb hof bs hc hr
    go_enter Tryd.func76, Tryd.ntmps76
    go_wp2_with fail
    unfold dateV at HO
    refine HO.out.mono ?_
    rintro e w2 ⟨rfl, hb⟩
    have hx2 := HX.out.belowAll hb
    have hs2 : w.heap.size < w2.heap.size := Nat.lt_of_lt_of_le HS.out hb.size
    obtain ⟨x0, x1, x2, x3, x4, x5, _⟩ := hx2.six
    have HB2 := Lib.hid (HB.out.trans (hb.mono (Nat.le_of_lt HS.out)))
    have HL2 := Lib.hid (HLb.out.on hb); have HX2 := Lib.hid hx2
    clear hb hx2 HB HLb HX HO
    generalize numZ y m d = n at *
    go_wp2_with fail
    refine (tat_any _ _ HL2.out).mono ?_
    rintro e w3 ⟨hr, hb⟩
    have hx3 := HX2.out.belowAll hb
    have HB3 := Lib.hid (HB2.out.trans (hb.mono (Nat.le_of_lt hs2)))
    have hs3 : w.heap.size < w3.heap.size := hx3.lt
    obtain ⟨z0, z1, z2, z3, z4, z5, _⟩ := hx3.six
    clear hb x0 x1 x2 x3 x4 x5
    rcases hr with ⟨y', m', d', h', mi', s', rfl, hc'⟩ | ⟨hn, rfl⟩
    · have hne : ¬ (y' = y ∧ m' = m ∧ d' = d ∧ h' = h ∧ mi' = mi ∧ s' = s) := by
        rintro ⟨rfl, rfl, rfl, rfl, rfl, rfl⟩
        exact HC.out hc'.r
      clear hc' hx3
      unfold civV
      go_wp2_with fail
      all_goals first
        | (go_ret2; exact ⟨rfl, HB3.out.alloc HB3.out.size _⟩)
        | exact absurd ⟨‹_›, ‹_›, ‹_›, ‹_›, ‹_›, ‹_›⟩ hne
    · clear hn hx3
      unfold civV
      go_wp2_with fail
      go_ret2
      exact ⟨rfl, HB3.out.alloc HB3.out.size _⟩
  · have hof := of_no y m d _ hLb hr
    unfold civO at hof bB
    have HB := Lib.hid bB; have HO := Lib.hid hof
    clear hL bB b0 hLb hof bs hc hr
    go_enter Tryd.func76, Tryd.ntmps76
    go_wp2_with fail
    unfold dateV at HO
    refine HO.out.mono ?_
    rintro e w2 ⟨rfl, hb⟩
    have HB2 := Lib.hid (HB.out.trans (hb.mono (by simp)))
    clear hb
    go_wp2_with fail
    go_ret2
    exact ⟨rfl, HB2.out⟩
/-- What Of comes to. -/
def OfIs (y m d h mi s : Int) (w : World) (e : Ending) (w' : World) : Prop :=
  (CivR y m d h mi s ∧ e = .returned (.tuple #[.int .i64 (timeZ y m d h mi s), .int .i64 0]) ∨ ¬ CivR y m d h mi s ∧ e = .returned (.tuple #[.int .i64 0, .int .i64 150])) ∧ Below w.heap.size w w'
theorem tof_any (y m d h mi s : Int) (w : World) (hL : Laid w) : Calls Tryd.prog 76 #[civV y m d h mi s] w (OfIs y m d h mi s w) := by
  by_cases hc : CivR y m d h mi s
  · refine (tof_ok y m d h mi s w hL hc).mono ?_
    rintro e w' ⟨rfl, hb⟩
    exact ⟨.inl ⟨hc, rfl⟩, hb⟩
  · refine (tof_no y m d h mi s w hL hc).mono ?_
    rintro e w' ⟨rfl, hb⟩
    exact ⟨.inr ⟨hc, rfl⟩, hb⟩
def CheckIs (y m d h mi s : Int) (w : World) (e : Ending) (w' : World) : Prop :=
  (CivR y m d h mi s ∧ e = .returned (.int .i64 0) ∨ ¬ CivR y m d h mi s ∧ e = .returned (.int .i64 150)) ∧ Below w.heap.size w w'
end Go.Proofs.YthghcffibljclaaDoor.D
/- Right, Of and At of the document. -/
namespace Go.Proofs.YthghcffibljclaaDoor.D
open Go.RowKit

theorem not_civ {y m d h mi s : Int} (hc : ¬ CivR y m d h mi s) (hr : RightZ y m d) : h < 0 ∨ 0 ≤ h ∧ (24 ≤ h ∨ h < 24 ∧ (mi < 0 ∨ 0 ≤ mi ∧ (60 ≤ mi ∨ mi < 60 ∧ (s < 0 ∨ 0 ≤ s ∧ 60 ≤ s)))) := by
  unfold CivR at hc
  have : ¬ (0 ≤ h ∧ h < 24 ∧ 0 ≤ mi ∧ mi < 60 ∧ 0 ≤ s ∧ s < 60) := fun q => hc ⟨hr, q⟩
  omega
end Go.Proofs.YthghcffibljclaaDoor.D
