/- The lengths of months, of both; which dates may be. -/
import Derived.Test.YtnhbkfmaaannnaaDoorDBase
namespace Go.Proofs.YtnhbkfmaaannnaaDoor
open Go.RowKit

theorem long_any (y m : Int) (w : World) (hL : Laid w) :
    Calls Tryd.prog 47 #[.int .i64 y, .int .i64 m] w fun e w' => e = .returned (.int .i64 (mlZ y m)) ∧ w = w' := by
  by_cases h : m < 1 ∨ 12 < m
  · exact long_out y m w h
  · have e : m = (((m - 1).toNat : Nat) : Int) + 1 := by omega
    have := long_in y (m - 1).toNat w (by omega) hL
    rw [← e] at this
    exact this
def lenA : Array Value := #[.int .i64 31, .int .i64 28, .int .i64 31, .int .i64 30, .int .i64 31, .int .i64 30, .int .i64 31, .int .i64 31, .int .i64 30, .int .i64 31, .int .i64 30, .int .i64 31]
theorem lenA_at (k : Nat) (hk : k < 12) : lenA[k]? = some (.int .i64 (lenC k)) := by
  have hc : k = 0 ∨ k = 1 ∨ k = 2 ∨ k = 3 ∨ k = 4 ∨ k = 5 ∨ k = 6 ∨ k = 7 ∨ k = 8 ∨ k = 9 ∨ k = 10 ∨ k = 11 := by omega
  rcases hc with rfl | rfl | rfl | rfl | rfl | rfl | rfl | rfl | rfl | rfl | rfl | rfl <;> rfl
theorem index_len (k : Nat) (hk : k < 12) (w : World) : (Instr.index 91 (.agg lenA) (.int .i64 (k : Int))).run Tryd.prog w = .ok (.int .i64 (lenC k)) w := by
  have h := lenA_at k hk
  have h2 : ¬ 12 ≤ k := by omega
  simp [Instr.index, asIntOf, Sem.run_bind, run_underlying Tryd.underlying91, Tryd.sizeOf3, Tryd.isAgg3, part, h, Result.andThen, h2]
set_option maxRecDepth 100000 in
theorem longR_any (y m : Int) (w : World) :
    Calls Tryd.prog 52 #[.int .i64 y, .int .i64 m] w fun e w' => e = .returned (.int .i64 (mlZ y m)) ∧ w = w' := by
  by_cases h : m < 1 ∨ 12 < m
  · rw [mlZ_out h]
    rcases h with h | h
    · go_enter Tryd.func52, Tryd.ntmps52
      go_wp2_with fail
      go_ret
      exact ⟨rfl, rfl⟩
    · have h2 : decide (m < 1) = false := by simp; omega
      go_enter Tryd.func52, Tryd.ntmps52
      go_wp2_with fail
      go_ret
      exact ⟨rfl, rfl⟩
  · obtain ⟨k, rfl⟩ : ∃ k : Nat, m = (k : Int) + 1 := ⟨(m - 1).toNat, by omega⟩
    have hk : k < 12 := by omega
    have hc : k = 0 ∨ k = 1 ∨ k = 2 ∨ k = 3 ∨ k = 4 ∨ k = 5 ∨ k = 6 ∨ k = 7 ∨ k = 8 ∨ k = 9 ∨ k = 10 ∨ k = 11 := by omega
    clear h
    by_cases hl : k = 1
    · subst hl
      clear hc hk
      rw [show (((1 : Nat) : Int) + 1) = 2 by rfl]
      by_cases hy : leapZ y = true
      · have hm : mlZ y 2 = 29 := by simp [mlZ, hy]
        rw [hm]
        have HY := Lib.hid hy
        clear hy hm
        go_enter Tryd.func52, Tryd.ntmps52
        go_wp2_with (go_at_call 55; refine (leapR_any _ _).mono ?_; rintro e w' ⟨rfl, rfl⟩; rw [HY.out])
        go_ret
        exact ⟨rfl, rfl⟩
      · have hy' : leapZ y = false := by simpa using hy
        have hm : mlZ y 2 = 28 := by simp [mlZ, hy']
        rw [hm]
        have HY := Lib.hid hy'
        clear hy hy' hm
        have hix := index_len 1 (by decide) w
        unfold lenA at hix
        rw [show lenC 1 = 28 by rfl, show ((1 : Nat) : Int) = 1 by rfl] at hix
        go_enter Tryd.func52, Tryd.ntmps52
        go_wp2_with (go_at_call 55; refine (leapR_any _ _).mono ?_; rintro e w' ⟨rfl, rfl⟩; rw [HY.out])
        go_ret
        exact ⟨rfl, rfl⟩
    · rw [lenC_of y k hk (by omega)]
      have hix := index_len k hk w
      unfold lenA at hix
      have h1 : decide ((k : Int) + 1 < 1) = false := by simp; omega
      have h2 : decide (12 < (k : Int) + 1) = false := by simp; omega
      have hn : ((k : Int) + 1 == 2) = false := by simp; omega
      have hn' : ((k : Int) == 1) = false := by simp; omega
      clear hc
      go_enter Tryd.func52, Tryd.ntmps52
      go_wp2_with fail
      go_ret
      exact ⟨rfl, rfl⟩
end Go.Proofs.YtnhbkfmaaannnaaDoor
