/- Has; and MaskSpans: a span has its beginning, and each number behind it by the step; its numbers are as many as there is room for. -/
import Derived.Test.YtkakncgdhangpaaDoorWakes
import Derived.Deep.QuietTactic
import Derived.BigQuiet
namespace Go.Proofs.YtkakncgdhangpaaDoor
open Go.RowKit

/-- Whether it has n. -/
def hasB (x : BitVec 64) (n : Int) : Bool := decide (0 ≤ n) && x.getLsbD n.toNat
theorem and_bit (x : BitVec 64) (n : Nat) (hn : n ≤ 63) : (U (x &&& BitVec.twoPow 64 n) != 0) = hasB x n := by
  have h1 : hasB x n = x.getLsbD n := by unfold hasB; simp
  rw [h1, BitVec.and_twoPow]
  by_cases h : x.getLsbD n = true
  · rw [if_pos h, h, bne_iff_ne, ← U_zero, ne_eq, U_inj]
    intro e
    have := congrArg (fun y => y.getLsbD n) e
    simp [BitVec.getLsbD_twoPow] at this
    omega
  · rw [if_neg h, U_zero]
    simp at h
    rw [h]; rfl
theorem has_any (x : BitVec 64) (n : Int) (w : World) :
    Calls Tryd.prog 28 #[.int .u64 (U x), .int .i64 n] w fun e w' => e = .returned (.bool (hasB x n)) ∧ w = w' := by
  by_cases h : 0 ≤ n ∧ n ≤ 63
  · obtain ⟨h0, h1⟩ := h
    obtain ⟨k, rfl⟩ := Int.eq_ofNat_of_zero_le h0
    have hk : k ≤ 63 := by omega
    have key : (bits .and .u64 (U x) (U (BitVec.twoPow 64 k)) != 0) = hasB x k := by rw [U_and]; exact and_bit x k hk
    generalize hasB x k = b at *
    go_enter Tryd.func28, Tryd.ntmps28
    go_wp2_with (first | (go_at_call 39; refine (fits_yes _ _ h0 h1).mono ?_; rintro e w' ⟨rfl, rfl⟩) | (go_at_call 40; refine (bit_any k _ hk).mono ?_; rintro e w' ⟨rfl, rfl⟩))
    go_ret
    exact ⟨rfl, rfl⟩
  · have hz : n < 0 ∨ 63 < n := by omega
    have e : hasB x n = false := by
      unfold hasB
      rcases hz with hz | hz
      · rw [decide_eq_false (by omega)]; rfl
      · rw [BitVec.getLsbD_of_ge _ _ (by omega)]; simp
    rw [e]
    have Hz := Lib.hid hz; clear hz h e
    go_enter Tryd.func28, Tryd.ntmps28
    go_wp2_with (go_at_call 39; refine (fits_no _ _ Hz.out).mono ?_; rintro e w' ⟨rfl, rfl⟩)
    go_ret
    exact ⟨rfl, rfl⟩

theorem count_span (F T S : Nat) (hS : 1 ≤ S) (hFT : F ≤ T) : ∀ n, (List.range n).countP (fun i => decide (F ≤ i ∧ i ≤ T ∧ (i - F) % S = 0)) = if n ≤ F then 0 else (min (n - 1) T - F) / S + 1
  | 0 => by simp
  | n + 1 => by
    rw [List.range_succ, List.countP_append, count_span F T S hS hFT n]
    simp only [List.countP_cons, List.countP_nil, Nat.zero_add, decide_eq_true_eq, Nat.add_sub_cancel]
    by_cases h1 : n < F
    · rw [if_pos (show n ≤ F by omega), if_neg (show ¬(F ≤ n ∧ n ≤ T ∧ (n - F) % S = 0) from fun h => absurd h.1 (by omega)), if_pos (show n + 1 ≤ F by omega)]
    · rw [if_neg (show ¬ n + 1 ≤ F by omega)]
      by_cases h2 : n = F
      · subst h2
        rw [if_pos (show n ≤ n by omega), if_pos (show n ≤ n ∧ n ≤ T ∧ (n - n) % S = 0 from ⟨Nat.le_refl _, hFT, by simp⟩), Nat.min_eq_left hFT]
        simp
      · rw [if_neg (show ¬ n ≤ F by omega)]
        by_cases h3 : n ≤ T
        · have e : n - F = n - 1 - F + 1 := by omega
          rw [Nat.min_eq_left (show n - 1 ≤ T by omega), Nat.min_eq_left h3, e, Nat.succ_div]
          by_cases h4 : S ∣ n - 1 - F + 1
          · rw [if_pos h4, if_pos (show F ≤ n ∧ n ≤ T ∧ (n - 1 - F + 1) % S = 0 from ⟨by omega, h3, Nat.mod_eq_zero_of_dvd h4⟩)]
          · rw [if_neg h4, if_neg (show ¬(F ≤ n ∧ n ≤ T ∧ (n - 1 - F + 1) % S = 0) from fun h => h4 (Nat.dvd_of_mod_eq_zero h.2.2))]
        · rw [if_neg (show ¬(F ≤ n ∧ n ≤ T ∧ (n - F) % S = 0) from fun h => h3 h.2.1), Nat.min_eq_right (show T ≤ n - 1 by omega), Nat.min_eq_right (show T ≤ n by omega)]
theorem pop_span (f t s : Int) (h : spanOk f t s) : (pop (mk (spanB f t s)) : Int) = (t - f) / s + 1 := by
  obtain ⟨h0, h1, h2, h3⟩ := h
  obtain ⟨F, rfl⟩ := Int.eq_ofNat_of_zero_le h0
  obtain ⟨T, rfl⟩ := Int.eq_ofNat_of_zero_le (show 0 ≤ t by omega)
  obtain ⟨S, rfl⟩ := Int.eq_ofNat_of_zero_le (show 0 ≤ s by omega)
  have e : pop (mk (spanB (F : Int) T S)) = (List.range 64).countP (fun i => decide (F ≤ i ∧ i ≤ T ∧ (i - F) % S = 0)) := by
    unfold pop
    apply List.countP_congr
    intro i hi
    simp at hi
    rw [mk_bit]
    unfold spanB
    simp only [hi, decide_true, Bool.true_and, decide_eq_true_eq]
    constructor
    · rintro ⟨a, b, c⟩
      have : ((i : Int) - F) = ((i - F : Nat) : Int) := by omega
      rw [this] at c
      exact ⟨by omega, by omega, by exact_mod_cast c⟩
    · rintro ⟨a, b, c⟩
      have : ((i : Int) - F) = ((i - F : Nat) : Int) := by omega
      rw [this]
      exact ⟨by omega, by omega, by exact_mod_cast c⟩
  rw [e, count_span F T S (by omega) (by omega) 64, if_neg (by omega), Nat.min_eq_right (by omega)]
  have : ((T : Int) - F) = ((T - F : Nat) : Int) := by omega
  rw [this]
  simp
theorem has_span (f t s : Int) (k : Nat) (hk : k < 64) : hasB (mk (spanB f t s)) k = spanB f t s k := by
  unfold hasB
  rw [decide_eq_true (by omega), Bool.true_and, Int.toNat_natCast, mk_bit, decide_eq_true hk, Bool.true_and]

theorem quiet_count (x : BitVec 64) (w : World) : Calls Tryd.prog 18 #[.int .u64 (U x)] w fun e w' => e = .returned (.int .i64 (pop x)) ∧ w' = w := (count_any x w).mono fun _ _ ⟨h, k⟩ => ⟨h, k.symm⟩
theorem span_tests (f t s : Int) (k : Nat) :
    (decide (f ≤ (k : Int)) = false ∧ spanB f t s k = false) ∨ (f ≤ (k : Int) ∧ decide ((k : Int) ≤ t) = false ∧ spanB f t s k = false) ∨
    (f ≤ (k : Int) ∧ (k : Int) ≤ t ∧ spanB f t s k = (((k : Int) - f) % s == 0)) := by
  unfold spanB
  by_cases h1 : f ≤ (k : Int)
  · by_cases h2 : (k : Int) ≤ t
    · exact .inr (.inr ⟨h1, h2, by simp [h1, h2, Bool.beq_eq_decide_eq]⟩)
    · exact .inr (.inl ⟨h1, by simpa using h2, by simp [h2]⟩)
  · exact .inl ⟨by simpa using h1, by simp [h1]⟩
set_option maxRecDepth 100000 in
set_option maxHeartbeats 1000000 in
theorem spans_walk (f t s : Int) (w : World) (hT : Tab w) (hg : 0 < w.heap.size) (wf0 : -9223372036854775808 ≤ f) (wf1 : f ≤ 9223372036854775807) (wt0 : -9223372036854775808 ≤ t) (wt1 : t ≤ 9223372036854775807) (ws0 : -9223372036854775808 ≤ s) (ws1 : s ≤ 9223372036854775807) :
    Calls Tryd.prog 8 #[.int .i64 f, .int .i64 t, .int .i64 s] w fun e w' => e = .returned (.bool true) ∧ Below w.heap.size w w' := by
  have hW := wakes_any w hT hg
  by_cases h : spanOk f t s
  · have hp := pop_span f t s h
    have hh := has_span f t s
    have hS := fun w => span_yes f t s w h
    obtain ⟨h0, h1, h2, h3⟩ := h
    have ht := span_tests f t s
    generalize mk (spanB f t s) = m at *
    have HW := Lib.hid hW; clear hW
    have HS := Lib.hid hS; clear hS
    have HH := Lib.hid hh; clear hh
    have HP := Lib.hid hp; clear hp
    have HT := Lib.hid ht; clear ht
    simp only [maskErr] at HS
    clear hT hg
    go_enter Tryd.func8, Tryd.ntmps8
    go_wp2_with (first | (go_at_call 10; refine HW.out.mono ?_; rintro e w1 ⟨rfl, hb1⟩) | (go_at_call 15; refine (HS.out _).mono ?_; rintro e w2 ⟨rfl, rfl⟩))
    go_loop [40] (fun i => ∃ k : Nat, k ≤ 64 ∧ i = .int .i64 k) (fun i => 64 - (intOf i).toNat)
    case atStart => exact ⟨0, by omega, rfl⟩
    case round =>
      obtain ⟨k, hk, rfl⟩ := hrel
      by_cases hlt : k < 64
      · have hh := HH.out k hlt
        rcases HT.out k with ⟨t1, t2⟩ | ⟨t1, t2, t3⟩ | ⟨t1, t2, t3⟩
        · rw [t2] at hh
          clear t2
          go_wp2_with (go_at_call 28; refine (has_any m k _).mono ?_; rintro e w' ⟨rfl, rfl⟩)
          go_round
          case rel => exact ⟨k + 1, by omega, by go_num⟩
          case measure => simp [intOf]; omega
        · rw [t3] at hh
          clear t3
          go_wp2_with (go_at_call 28; refine (has_any m k _).mono ?_; rintro e w' ⟨rfl, rfl⟩)
          go_round
          case rel => exact ⟨k + 1, by omega, by go_num⟩
          case measure => simp [intOf]; omega
        · rw [t3] at hh
          clear t3
          go_wp2_with (go_at_call 28; refine (has_any m k _).mono ?_; rintro e w' ⟨rfl, rfl⟩)
          go_round
          case rel => exact ⟨k + 1, by omega, by go_num⟩
          case measure => simp [intOf]; omega
      · have q0 : 0 ≤ (t - f) / s := Int.ediv_nonneg (by omega) (by omega)
        have q1 : (t - f) / s ≤ 63 := Int.le_trans (Int.ediv_le_self _ (by omega)) (by omega)
        have q2 : ((pop m : Int) == (t - f) / s + 1) = true := by rw [HP.out]; simp
        have q3 : 0 ≤ t - f := by omega
        have q4 : t - f ≤ 63 := by omega
        have hz : (s == 0) = false := by simp; omega
        go_wp2
        go_quiet ((go_at_call 18; exact Calls.quiet_of_same (quiet_count m _)))
        go_wp2
        go_ret
        exact ⟨rfl, ⟨hb1.os, hb1.tape, hb1.output, hb1.size, hb1.block⟩⟩
  · have hS := fun w => span_no f t s w h
    simp only [maskErr] at hS
    have HW := Lib.hid hW; clear hW
    have HS := Lib.hid hS; clear hS
    clear hT hg
    by_cases h0 : f < 0
    · clear h
      go_enter Tryd.func8, Tryd.ntmps8
      go_wp2_with (first | (go_at_call 10; refine HW.out.mono ?_; rintro e w1 ⟨rfl, hb1⟩) | (go_at_call 15; refine (HS.out _).mono ?_; rintro e w2 ⟨rfl, rfl⟩))
      go_ret
      exact ⟨rfl, hb1⟩
    · have d0 : decide (f < 0) = false := by simp; omega
      have k0 : 0 ≤ f := by omega
      by_cases h1 : 63 < t
      · clear h
        go_enter Tryd.func8, Tryd.ntmps8
        go_wp2_with (first | (go_at_call 10; refine HW.out.mono ?_; rintro e w1 ⟨rfl, hb1⟩) | (go_at_call 15; refine (HS.out _).mono ?_; rintro e w2 ⟨rfl, rfl⟩))
        go_ret
        exact ⟨rfl, hb1⟩
      · have d1 : decide (63 < t) = false := by simp; omega
        by_cases h2 : t < f
        · clear h
          go_enter Tryd.func8, Tryd.ntmps8
          go_wp2_with (first | (go_at_call 10; refine HW.out.mono ?_; rintro e w1 ⟨rfl, hb1⟩) | (go_at_call 15; refine (HS.out _).mono ?_; rintro e w2 ⟨rfl, rfl⟩))
          go_ret
          exact ⟨rfl, hb1⟩
        · have d2 : decide (t < f) = false := by simp; omega
          have h3 : s < 1 := by unfold spanOk at h; omega
          clear h
          go_enter Tryd.func8, Tryd.ntmps8
          go_wp2_with (first | (go_at_call 10; refine HW.out.mono ?_; rintro e w1 ⟨rfl, hb1⟩) | (go_at_call 15; refine (HS.out _).mono ?_; rintro e w2 ⟨rfl, rfl⟩))
          go_ret
          exact ⟨rfl, hb1⟩
end Go.Proofs.YtkakncgdhangpaaDoor
