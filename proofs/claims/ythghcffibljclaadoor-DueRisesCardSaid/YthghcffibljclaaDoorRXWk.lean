/- The law's row that is due each hour; one's own row; does the layer do anything: walked. -/
import Derived.Test.YthghcffibljclaaDoorR7
import Derived.Test.YthghcffibljclaaDoorRXEnd
namespace Go.Proofs.YthghcffibljclaaDoor
open Go.RowKit

def hourQ : JobZ := ⟨7, false, hourlyL, 0, 1, 2, 0⟩
def hourR : RowZ := ⟨hourQ, false, 3600, 0, 0, 0, []⟩
theorem hourQ_fit : hourQ.Fit := ⟨by decide, by decide, rfl⟩
theorem hourR_fit : hourR.Fit := ⟨hourQ_fit, Int.le_refl _⟩
theorem hourQ_err {ev : List (BitVec 64) → Bool} (hev : EvIs ev) : hourQ.err ev = 0 := err_is (by decide) (.inr ⟨rfl, hourly_ok, (hev _).2 hourly_ever⟩)
theorem hourQ_T : hourQ.T = TC hourlyL := T_cron rfl
theorem hourR_right {ev : List (BitVec 64) → Bool} (hev : EvIs ev) : hourR.Right ev := by
  have hl : hourR.line = [3600] := rfl
  refine ⟨hourQ_err hev, (fun h => by cases h), Int.le_refl _, Int.le_refl _, Nat.zero_le _, (fun _ => ⟨rfl, rfl, rfl⟩), (fun h => by cases h), by rw [hl]; exact List.pairwise_singleton _ _, fun t ht => ?_⟩
  rw [hl, List.mem_singleton] at ht
  subst ht
  show hourQ.T 3600
  rw [hourQ_T]
  exact hourly_in (h := 1) (by omega)
theorem hour_min (h : Int) (hh : 0 ≤ h ∧ h ≤ 23) (a : Int) (ha : (h - 1) * 3600 ≤ a ∧ a < h * 3600) : IsMin (TC hourlyL) a (h * 3600) := ⟨hourly_in hh, ha.2, fun u hu h0 => by have := hourly_is hu; omega⟩
theorem hour_occ {l : List Int} {nx : Int} (h : Occ hourR 18000 l nx) : l = [3600, 7200, 10800, 14400] ∧ nx = 21600 := by
  refine occ_one h (.inr ⟨by decide, by decide, .inl ?_, .inl ⟨rfl, ?_⟩⟩)
  · show FirstT hourQ.T 18000 21600 true
    rw [hourQ_T]
    exact .inl ⟨rfl, hour_min 6 (by omega) 18000 (by omega)⟩
  · show Chain hourQ.T (3600 - 1) 18000 4 _
    rw [hourQ_T]
    have e : ∀ a t n r, IsMin (TC hourlyL) a t → t ≤ 18000 → Chain (TC hourlyL) t 18000 n r → Chain (TC hourlyL) a 18000 (n + 1) (t :: r) := fun a t n r h1 h2 h3 => by rw [Chain]; exact .inr ⟨t, r, h1, h2, rfl, h3⟩
    refine e _ _ _ _ (hour_min 1 (by omega) _ (by omega)) (by decide) (e _ _ _ _ (hour_min 2 (by omega) _ (by omega)) (by decide) (e _ _ _ _ (hour_min 3 (by omega) _ (by omega)) (by decide) (e _ _ _ _ (hour_min 4 (by omega) _ (by omega)) (by decide) ?_)))
    rw [Chain]
def hour1 : RowZ := ⟨hourQ, false, 21600, 1, 3600, 0, [7200, 10800, 14400]⟩
def hour2 : RowZ := ⟨hourQ, false, 21600, 2, 7200, 0, [10800, 14400]⟩
theorem hour_step : stepZ 1 hourR [3600, 7200, 10800, 14400] 21600 = (hour1, [⟨1, 7, 3600, 0⟩]) := rfl
theorem hour_end : endZ true 2 hour1 = (hour2, [⟨2, 7, 7200, 0⟩], false) := rfl
end Go.Proofs.YthghcffibljclaaDoor
