/- The day of a time; the functions that tell what is sought: walked, of program and document. -/
import Derived.Test.YtkimbmifabpppaaDoorKHTimes
namespace Go.Proofs.YtkimbmifabpppaaDoor
open Go.RowKit

set_option maxRecDepth 100000 in
theorem dayOf_any (t : Int) (w : World) :
    Calls Tryd.prog 45 #[.int .i64 t] w fun e w' => e = .returned (.int .i64 (dayOf t)) ∧ w' = w := by
  by_cases h0 : t < 0
  · have e : dayOf t = 0 := by unfold dayOf; rw [if_pos h0]
    rw [e]
    go_enter Tryd.func45, Tryd.ntmps45
    go_wp2_with fail
    go_ret
    exact ⟨rfl, rfl⟩
  · by_cases h1 : 253402300799 < t
    · have e : dayOf t = 2932896 := by unfold dayOf; rw [if_neg h0, if_pos h1]
      rw [e]
      go_enter Tryd.func45, Tryd.ntmps45
      go_wp2_with fail
      go_ret
      exact ⟨rfl, rfl⟩
    · have e : dayOf t = t / 86400 := by unfold dayOf; rw [if_neg h0, if_neg h1]
      have e2 : t.tdiv 86400 = t / 86400 := Int.tdiv_eq_ediv_of_nonneg (by omega)
      rw [e]
      have hb : 0 ≤ t / 86400 ∧ t / 86400 ≤ 2932896 := by omega
      generalize t / 86400 = d at *
      obtain ⟨h2, h3⟩ := hb
      go_enter Tryd.func45, Tryd.ntmps45
      go_wp2_with fail
      go_ret
      exact ⟨rfl, rfl⟩
set_option maxRecDepth 100000 in
theorem rday_any (t : Int) (w : World) :
    Calls Tryd.prog 29 #[.int .i64 t] w fun e w' => e = .returned (.int .i64 (dayOf t)) ∧ w' = w := by
  by_cases h0 : t < 0
  · have e : dayOf t = 0 := by unfold dayOf; rw [if_pos h0]
    rw [e]
    go_enter Tryd.func29, Tryd.ntmps29
    go_wp2_with fail
    go_ret
    exact ⟨rfl, rfl⟩
  · by_cases h1 : 253402300799 < t
    · have e : dayOf t = 2932896 := by unfold dayOf; rw [if_neg h0, if_pos h1]
      rw [e]
      go_enter Tryd.func29, Tryd.ntmps29
      go_wp2_with fail
      go_ret
      exact ⟨rfl, rfl⟩
    · have e : dayOf t = t / 86400 := by unfold dayOf; rw [if_neg h0, if_neg h1]
      have e2 : t.tdiv 86400 = t / 86400 := Int.tdiv_eq_ediv_of_nonneg (by omega)
      rw [e]
      have hb : 0 ≤ t / 86400 ∧ t / 86400 ≤ 2932896 := by omega
      generalize t / 86400 = d at *
      obtain ⟨h2, h3⟩ := hb
      go_enter Tryd.func29, Tryd.ntmps29
      go_wp2_with fail
      go_ret
      exact ⟨rfl, rfl⟩
theorem sought_next (u a : Int) (b : Nat) (w : World) (hb : w.cell? ⟨b, 0, none⟩ = some (.int .i64 a)) :
    Calls Tryd.prog 27 #[.int .i64 u, .pointer (some ⟨b, 0, none⟩)] w fun e w' => e = .returned (.bool (decide (a < u))) ∧ w' = w := by
  go_enter Tryd.func27, Tryd.ntmps27
  go_wp2_with fail
  go_ret
  exact ⟨rfl, rfl⟩
theorem sought_last (u a : Int) (b : Nat) (w : World) (hb : w.cell? ⟨b, 0, none⟩ = some (.int .i64 a)) :
    Calls Tryd.prog 28 #[.int .i64 u, .pointer (some ⟨b, 0, none⟩)] w fun e w' => e = .returned (.bool (decide (u ≤ a))) ∧ w' = w := by
  go_enter Tryd.func28, Tryd.ntmps28
  go_wp2_with fail
  go_ret
  exact ⟨rfl, rfl⟩
theorem fitting_any (a b c d e : BitVec 64) (w : World) :
    Calls Tryd.prog 46 #[cronV [a, b, c, d, e]] w fun x w' => x = .returned (.func (.func 75) #[] #[.pointer (some ⟨w.heap.size, 0, none⟩)]) ∧ w' = w.alloc (.cells #[.int .u64 (U a), .int .u64 (U b), .int .u64 (U c), .int .u64 (U d), .int .u64 (U e)] 25) := by
  rw [cronV_five]
  unfold fiveV
  go_enter Tryd.func46, Tryd.ntmps46
  go_wp2_with fail
  go_ret
  exact ⟨rfl, rfl⟩
end Go.Proofs.YtkimbmifabpppaaDoor
