/- Leap years, the lengths of months: walked, of the program and of the document. -/
import Derived.Test.YtnhbkfmaaannnaaDoorDMath
import Derived.Test.YtnhbkfmaaannnaaDoorChecked
import Derived.WalkKit
import Derived.Lib.Hide
import Derived.Below
import Derived.OwnWalk
import Derived.WalkSpells
import Derived.IntWalk
import Derived.Deep.QuietTactic
import Derived.BigQuiet
import Derived.BigRegion
import Derived.WalkMore
import Derived.Deep.WholeRow
import Derived.Deep.MidRow
import Derived.Deep.Light
import Derived.KernelRfl
namespace Go.Proofs.YtnhbkfmaaannnaaDoor
open Go.RowKit

theorem ret_bool {a b : Bool} (h : a = b) : Ending.returned (.bool a) = .returned (.bool b) := by rw [h]
theorem ret_int {k : IntKind} {a b : Int} (h : a = b) : Ending.returned (.int k a) = .returned (.int k b) := by rw [h]
theorem tmod_zero (y c : Int) : y.tmod c = 0 ↔ y % c = 0 := Int.dvd_iff_tmod_eq_zero.symm.trans Int.dvd_iff_emod_eq_zero
theorem leap_any (y : Int) (w : World) :
    Calls Tryd.prog 54 #[.int .i64 y] w fun e w' => e = .returned (.bool (leapZ y)) ∧ w = w' := by
  go_enter Tryd.func54, Tryd.ntmps54
  go_wp2
  all_goals
    go_ret
    refine ⟨ret_bool ?_, rfl⟩
    have h4 := tmod_zero y 4
    have h5 := tmod_zero y 100
    have h6 := tmod_zero y 400
    rw [Bool.eq_iff_iff, leapZ_iff]
    simp
    omega
theorem leapR_any (y : Int) (w : World) :
    Calls Tryd.prog 55 #[.int .i64 y] w fun e w' => e = .returned (.bool (leapZ y)) ∧ w = w' := by
  go_enter Tryd.func55, Tryd.ntmps55
  go_wp2
  all_goals
    go_ret
    refine ⟨ret_bool ?_, rfl⟩
    have h4 := tmod_zero y 4
    have h5 := tmod_zero y 100
    have h6 := tmod_zero y 400
    rw [Bool.eq_iff_iff, leapZ_iff]
    simp
    omega

/-! the months' lengths, and the eras, in their variables -/
def lenC (j : Nat) : Int := [31, 28, 31, 30, 31, 30, 31, 31, 30, 31, 30, 31].getD j 0
def eraC (j : Nat) : Int := [400, 146097, 20, 100, 36524, 3, 4, 1461, 24, 1, 365, 3].getD j 0
structure Laid (w : World) : Prop where
  len : ∀ j, j < 12 → w.cell? ⟨1, j, none⟩ = some (.int .i64 (lenC j))
  era : ∀ j, j < 12 → w.cell? ⟨0, j, none⟩ = some (.int .i64 (eraC j))
  lt : 2 ≤ w.heap.size
theorem Laid.below {w w' : World} {B : Nat} (h : Laid w) (hB : 2 ≤ B) (hb : Below B w w') (hs : w.heap.size ≤ w'.heap.size) : Laid w' :=
  ⟨fun j hj => (hb.cell (p := ⟨1, j, none⟩) (by show 1 < B; omega)).trans (h.len j hj), fun j hj => (hb.cell (p := ⟨0, j, none⟩) (by show 0 < B; omega)).trans (h.era j hj), by have := h.lt; omega⟩
theorem lenC_of (y : Int) (k : Nat) (hk : k < 12) (h : ¬ (k = 1 ∧ leapZ y = true)) : mlZ y ((k : Int) + 1) = lenC k := by
  have hc : k = 0 ∨ k = 1 ∨ k = 2 ∨ k = 3 ∨ k = 4 ∨ k = 5 ∨ k = 6 ∨ k = 7 ∨ k = 8 ∨ k = 9 ∨ k = 10 ∨ k = 11 := by omega
  rcases hc with rfl | rfl | rfl | rfl | rfl | rfl | rfl | rfl | rfl | rfl | rfl | rfl
  · rfl
  · have : leapZ y = false := by simpa using h
    simp [mlZ, this, lenC]
  all_goals rfl
theorem long_out (y m : Int) (w : World) (h : m < 1 ∨ 12 < m) :
    Calls Tryd.prog 47 #[.int .i64 y, .int .i64 m] w fun e w' => e = .returned (.int .i64 (mlZ y m)) ∧ w = w' := by
  rw [mlZ_out h]
  rcases h with h | h
  · go_enter Tryd.func47, Tryd.ntmps47
    go_wp2_with fail
    go_ret
    exact ⟨rfl, rfl⟩
  · have h1 : ¬ m < 1 := by omega
    have h2 : decide (m < 1) = false := by simpa using h1
    go_enter Tryd.func47, Tryd.ntmps47
    go_wp2_with fail
    go_ret
    exact ⟨rfl, rfl⟩
set_option maxRecDepth 100000 in
theorem long_in (y : Int) (k : Nat) (w : World) (hk : k < 12) (hL : Laid w) :
    Calls Tryd.prog 47 #[.int .i64 y, .int .i64 ((k : Int) + 1)] w fun e w' => e = .returned (.int .i64 (mlZ y ((k : Int) + 1))) ∧ w = w' := by
  have hc := hL.len k hk
  have h1 : decide ((k : Int) + 1 < 1) = false := by simp; omega
  have h2 : decide (12 < (k : Int) + 1) = false := by simp; omega
  have h2' : decide (11 < (k : Int)) = false := by simp; omega
  by_cases hl : k = 1
  · subst hl
    by_cases hy : leapZ y = true
    · have hm : mlZ y 2 = 29 := by simp [mlZ, hy]
      rw [show (((1 : Nat) : Int) + 1) = 2 by rfl, hm]
      have hc' : w.cell? ⟨1, 1, none⟩ = some (.int .i64 28) := hc
      clear hc h1 h2 h2'
      have HY := Lib.hid hy
      have HM := Lib.hid hm
      clear hy hm
      go_enter Tryd.func47, Tryd.ntmps47
      go_wp2_with (go_at_call 54; refine (leap_any _ _).mono ?_; rintro e w' ⟨rfl, rfl⟩; rw [HY.out])
      go_ret
      exact ⟨rfl, rfl⟩
    · have hy' : leapZ y = false := by simpa using hy
      have hm : mlZ y 2 = 28 := by simp [mlZ, hy']
      rw [show (((1 : Nat) : Int) + 1) = 2 by rfl, hm]
      have hc' : w.cell? ⟨1, 1, none⟩ = some (.int .i64 28) := hc
      clear hc h1 h2 h2' hy
      have HY := Lib.hid hy'
      have HM := Lib.hid hm
      clear hy' hm
      go_enter Tryd.func47, Tryd.ntmps47
      go_wp2_with (go_at_call 54; refine (leap_any _ _).mono ?_; rintro e w' ⟨rfl, rfl⟩; rw [HY.out])
      go_ret
      exact ⟨rfl, rfl⟩
  · rw [lenC_of y k hk (by omega)]
    have hn : ((k : Int) + 1 == 2) = false := by simp; omega
    have hn' : ((k : Int) == 1) = false := by simp; omega
    go_enter Tryd.func47, Tryd.ntmps47
    go_wp2_with fail
    go_ret
    exact ⟨rfl, rfl⟩
end Go.Proofs.YtnhbkfmaaannnaaDoor
