/- The order of dates: ahead, Compare. -/
import Derived.Test.YtglmonjpcgadnaaDoorDCheck
namespace Go.Proofs.YtglmonjpcgadnaaDoor
open Go.RowKit

def aheadB (y m d y' m' d' : Int) : Bool := decide (y < y' ∨ y = y' ∧ (m < m' ∨ m = m' ∧ d < d'))
set_option maxRecDepth 100000 in
theorem ahead_any (y m d y' m' d' : Int) (w : World) :
    Calls Tryd.prog 26 #[dateV y m d, dateV y' m' d'] w fun e w' => e = .returned (.bool (aheadB y m d y' m' d')) ∧ Below w.heap.size w w' := by
  unfold dateV
  go_enter Tryd.func26, Tryd.ntmps26
  go_wp2_with fail
  all_goals
    go_ret
    refine ⟨ret_bool ?_, ((Below.refl _ w).alloc (Nat.le_refl _) _).alloc (by simp) _⟩
    unfold aheadB
    rw [Bool.eq_iff_iff]
    simp only [bne_iff_ne, ne_eq, bne_eq_false_iff_eq, decide_eq_true_eq] at *
    omega
theorem ahead_raw (y m d y' m' d' : Int) (w : World) :
    Calls Tryd.prog 26 #[.agg #[.int .i64 y, .int .i64 m, .int .i64 d], .agg #[.int .i64 y', .int .i64 m', .int .i64 d']] w fun e w' => e = .returned (.bool (aheadB y m d y' m' d')) ∧ Below w.heap.size w w' := ahead_any y m d y' m' d' w
theorem cmp_of {y m d y' m' d' : Int} {b : Bool} (h : aheadB y m d y' m' d' = b) (hn : ¬ (y = y' ∧ m = m' ∧ d = d')) : cmpZ y m d y' m' d' = if b then -1 else 1 := by
  cases b with
  | true => exact cmpZ_lt.2 (by unfold aheadB at h; simpa using h)
  | false => exact cmpZ_gt.2 (by unfold aheadB at h; simp only [decide_eq_false_iff_not] at h; omega)
set_option maxRecDepth 100000 in
theorem compare_any (y m d y' m' d' : Int) (w : World) :
    Calls Tryd.prog 12 #[dateV y m d, dateV y' m' d'] w fun e w' => e = .returned (.int .i64 (cmpZ y m d y' m' d')) ∧ Below w.heap.size w w' := by
  have h0 : Below w.heap.size w ((w.alloc (dateO y m d)).alloc (dateO y' m' d')) := ((Below.refl _ w).alloc (Nat.le_refl _) _).alloc (by simp) _
  have hz : ((w.alloc (dateO y m d)).alloc (dateO y' m' d')).heap.size = w.heap.size + 2 := by simp
  unfold dateV
  unfold dateO at h0 hz
  have H0 := Lib.hid h0
  have HZ := Lib.hid hz
  clear h0 hz
  go_enter Tryd.func12, Tryd.ntmps12
  go_wp2_with fail
  · subst_vars
    go_ret
    refine ⟨ret_int ?_, H0.out⟩
    exact (cmpZ_eq.2 ⟨rfl, rfl, rfl⟩).symm
  all_goals
    subst_vars
    refine (ahead_raw _ _ _ _ _ _ _).mono ?_
    rintro e w2 ⟨rfl, hb⟩
    have HB := Lib.hid (H0.out.trans (hb.mono (by rw [HZ.out]; omega)))
    clear hb
    generalize hab : aheadB _ _ _ _ _ _ = b
    have HE := Lib.hid (cmp_of hab (by omega))
    clear hab
    cases b with
    | true =>
      go_wp2_with fail
      go_ret
      exact ⟨ret_int (by rw [HE.out]; rfl), HB.out⟩
    | false =>
      go_wp2_with fail
      go_ret
      exact ⟨ret_int (by rw [HE.out]; rfl), HB.out⟩
end Go.Proofs.YtglmonjpcgadnaaDoor
