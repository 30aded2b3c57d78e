/- May, Add, Floor, Read: walked, of the program and of the document. -/
import Derived.Test.YtnhbkfmaaannnaaDoorDCheck
namespace Go.Proofs.YtnhbkfmaaannnaaDoor
open Go.RowKit

/-- It is a time. -/
def TimeZ (t : Int) : Prop := 0 ≤ t ∧ t ≤ 253402300799
instance (t : Int) : Decidable (TimeZ t) := by unfold TimeZ; infer_instance
theorem not_time {t : Int} (h : ¬ TimeZ t) : t < 0 ∨ 253402300799 < t := by unfold TimeZ at h; omega
theorem may_yes (t : Int) (w : World) (h : TimeZ t) :
    Calls Tryd.prog 13 #[.int .i64 t] w fun e w' => e = .returned (.bool true) ∧ w = w' := by
  obtain ⟨h0, h1⟩ := h
  go_enter Tryd.func13, Tryd.ntmps13
  go_wp2_with fail
  go_ret
  exact ⟨rfl, rfl⟩
theorem may_no (t : Int) (w : World) (h : ¬ TimeZ t) :
    Calls Tryd.prog 13 #[.int .i64 t] w fun e w' => e = .returned (.bool false) ∧ w = w' := by
  rcases not_time h with h | h
  · have h1 : decide (0 ≤ t) = false := by simp; omega
    go_enter Tryd.func13, Tryd.ntmps13
    go_wp2_with fail
    go_ret
    exact ⟨rfl, rfl⟩
  · have h0 : 0 ≤ t := by omega
    have h1 : decide (t ≤ 253402300799) = false := by simp; omega
    go_enter Tryd.func13, Tryd.ntmps13
    go_wp2_with fail
    go_ret
    exact ⟨rfl, rfl⟩
theorem timeR_yes (t : Int) (w : World) (h : TimeZ t) :
    Calls Tryd.prog 10 #[.int .i64 t] w fun e w' => e = .returned (.bool true) ∧ w = w' := by
  obtain ⟨h0, h1⟩ := h
  go_enter Tryd.func10, Tryd.ntmps10
  go_wp2_with fail
  go_ret
  exact ⟨rfl, rfl⟩
theorem timeR_no (t : Int) (w : World) (h : ¬ TimeZ t) :
    Calls Tryd.prog 10 #[.int .i64 t] w fun e w' => e = .returned (.bool false) ∧ w = w' := by
  rcases not_time h with h | h
  · have h1 : decide (0 ≤ t) = false := by simp; omega
    go_enter Tryd.func10, Tryd.ntmps10
    go_wp2_with fail
    go_ret
    exact ⟨rfl, rfl⟩
  · have h0 : 0 ≤ t := by omega
    have h1 : decide (t ≤ 253402300799) = false := by simp; omega
    go_enter Tryd.func10, Tryd.ntmps10
    go_wp2_with fail
    go_ret
    exact ⟨rfl, rfl⟩
/-- The times that the walk asks of, as a Bool of our own. -/
def timeB (t : Int) : Bool := decide (TimeZ t)
theorem timeB_yes {t : Int} (h : TimeZ t) : timeB t = true := by unfold timeB; simp [h]
theorem timeB_no {t : Int} (h : ¬ TimeZ t) : timeB t = false := by unfold timeB; simp [h]
theorem timeB_iff (t : Int) : timeB t = true ↔ TimeZ t := by unfold timeB; simp
theorem may_any (t : Int) (w : World) :
    Calls Tryd.prog 13 #[.int .i64 t] w fun e w' => e = .returned (.bool (timeB t)) ∧ w = w' := by
  by_cases h : TimeZ t
  · rw [timeB_yes h]; exact may_yes t w h
  · rw [timeB_no h]; exact may_no t w h
theorem timeR_any (t : Int) (w : World) :
    Calls Tryd.prog 10 #[.int .i64 t] w fun e w' => e = .returned (.bool (timeB t)) ∧ w = w' := by
  by_cases h : TimeZ t
  · rw [timeB_yes h]; exact timeR_yes t w h
  · rw [timeB_no h]; exact timeR_no t w h

/-- An int64. -/
def I64 (n : Int) : Prop := -9223372036854775808 ≤ n ∧ n ≤ 9223372036854775807
/-- The sum's time. -/
def SumZ (t n : Int) : Prop := TimeZ t ∧ TimeZ (t + n)
instance (t n : Int) : Decidable (SumZ t n) := by unfold SumZ; infer_instance
theorem wrap_no {t n : Int} (ht : TimeZ t) (hn : I64 n) (h : ¬ TimeZ (t + n)) : ¬ TimeZ (wrap64 (t + n)) := by
  unfold TimeZ I64 at *
  unfold wrap64
  omega
theorem add_ok (t n : Int) (w : World) (h : SumZ t n) :
    Calls Tryd.prog 20 #[.int .i64 t, .int .i64 n] w fun e w' => e = .returned (.tuple #[.int .i64 (t + n), .int .i64 0]) ∧ w = w' := by
  obtain ⟨h1, h2⟩ := h
  have H1 := Lib.hid h1
  have H2 := Lib.hid h2
  obtain ⟨a, b⟩ := h1
  obtain ⟨c, d⟩ := h2
  go_enter Tryd.func20, Tryd.ntmps20
  go_wp2_with fail
  refine (may_yes _ _ H1.out).mono ?_
  rintro e w' ⟨rfl, rfl⟩
  go_wp2_with fail
  refine (may_yes _ _ H2.out).mono ?_
  rintro e w' ⟨rfl, rfl⟩
  go_wp2_with fail
  go_ret2
  exact ⟨rfl, rfl⟩
theorem add_no (t n : Int) (w : World) (hn : I64 n) (h : ¬ SumZ t n) :
    Calls Tryd.prog 20 #[.int .i64 t, .int .i64 n] w fun e w' => e = .returned (.tuple #[.int .i64 0, .int .i64 2]) ∧ w = w' := by
  by_cases ht : TimeZ t
  · have h2 : ¬ TimeZ (t + n) := fun q => h ⟨ht, q⟩
    have hw := wrap_no ht hn h2
    have H1 := Lib.hid ht
    have H2 := Lib.hid hw
    clear ht h2 hw h hn
    go_enter Tryd.func20, Tryd.ntmps20
    go_wp2_with fail
    refine (may_yes _ _ H1.out).mono ?_
    rintro e w' ⟨rfl, rfl⟩
    go_wp2_with fail
    refine (may_no _ _ H2.out).mono ?_
    rintro e w' ⟨rfl, rfl⟩
    go_wp2_with fail
    go_ret2
    exact ⟨rfl, rfl⟩
  · have H1 := Lib.hid ht
    clear ht h hn
    go_enter Tryd.func20, Tryd.ntmps20
    go_wp2_with fail
    refine (may_no _ _ H1.out).mono ?_
    rintro e w' ⟨rfl, rfl⟩
    go_wp2_with fail
    go_ret2
    exact ⟨rfl, rfl⟩
/-- Where the unit begins: of a time, and a unit. -/
def FloorZ (t u : Int) : Prop := TimeZ t ∧ 1 ≤ u
theorem floor_ok (t u : Int) (w : World) (h : FloorZ t u) :
    Calls Tryd.prog 24 #[.int .i64 t, .int .i64 u] w fun e w' => e = .returned (.tuple #[.int .i64 (t / u * u), .int .i64 0]) ∧ w = w' := by
  obtain ⟨h1, h2⟩ := h
  have H1 := Lib.hid h1
  obtain ⟨a, b⟩ := h1
  have hm : t - t % u = t / u * u := by have := Int.mul_ediv_add_emod t u; rw [Int.mul_comm] at this; omega
  have m0 : 0 ≤ t % u := Int.emod_nonneg _ (by omega)
  have m1 : t % u ≤ t := by have := Int.mul_nonneg (Int.ediv_nonneg a (show 0 ≤ u by omega)) (show 0 ≤ u by omega); omega
  rw [← hm]
  have h3 : decide (u < 1) = false := by simp; omega
  have h4 : (u == 0) = false := by simp; omega
  clear hm
  go_enter Tryd.func24, Tryd.ntmps24
  go_wp2_with fail
  refine (may_yes _ _ H1.out).mono ?_
  rintro e w' ⟨rfl, rfl⟩
  go_wp2_with fail
  go_ret2
  exact ⟨rfl, rfl⟩
theorem floor_no (t u : Int) (w : World) (h : ¬ FloorZ t u) :
    Calls Tryd.prog 24 #[.int .i64 t, .int .i64 u] w fun e w' => e = .returned (.tuple #[.int .i64 0, .int .i64 2]) ∧ w = w' := by
  by_cases ht : TimeZ t
  · have h3 : decide (u < 1) = true := by have : ¬ 1 ≤ u := fun q => h ⟨ht, q⟩
                                          simp; omega
    have H1 := Lib.hid ht
    clear ht h
    go_enter Tryd.func24, Tryd.ntmps24
    go_wp2_with fail
    refine (may_yes _ _ H1.out).mono ?_
    rintro e w' ⟨rfl, rfl⟩
    go_wp2_with fail
    go_ret2
    exact ⟨rfl, rfl⟩
  · have H1 := Lib.hid ht
    clear ht h
    go_enter Tryd.func24, Tryd.ntmps24
    go_wp2_with fail
    refine (may_no _ _ H1.out).mono ?_
    rintro e w' ⟨rfl, rfl⟩
    go_wp2_with fail
    go_ret2
    exact ⟨rfl, rfl⟩
/-- What a clock is believed. -/
def readZ (last t : Int) : Int := if TimeZ t then (if last < t then t else last) else last
theorem read_yes (last t : Int) (w : World) (h : TimeZ t) :
    Calls Tryd.prog 22 #[.int .i64 last, .int .i64 t] w fun e w' => e = .returned (.int .i64 (if last < t then t else last)) ∧ w = w' := by
  have H1 := Lib.hid h
  clear h
  go_enter Tryd.func22, Tryd.ntmps22
  go_wp2_with fail
  refine (may_yes _ _ H1.out).mono ?_
  rintro e w' ⟨rfl, rfl⟩
  go_wp2_with fail
  all_goals
    go_ret
    exact ⟨rfl, rfl⟩
theorem read_no (last t : Int) (w : World) (h : ¬ TimeZ t) :
    Calls Tryd.prog 22 #[.int .i64 last, .int .i64 t] w fun e w' => e = .returned (.int .i64 last) ∧ w = w' := by
  have H1 := Lib.hid h
  clear h
  go_enter Tryd.func22, Tryd.ntmps22
  go_wp2_with fail
  refine (may_no _ _ H1.out).mono ?_
  rintro e w' ⟨rfl, rfl⟩
  go_wp2_with fail
  go_ret
  exact ⟨rfl, rfl⟩
theorem read_any (last t : Int) (w : World) :
    Calls Tryd.prog 22 #[.int .i64 last, .int .i64 t] w fun e w' => e = .returned (.int .i64 (readZ last t)) ∧ w = w' := by
  by_cases h : TimeZ t
  · have e : readZ last t = if last < t then t else last := by unfold readZ; rw [if_pos h]
    rw [e]; exact read_yes last t w h
  · have e : readZ last t = last := by unfold readZ; rw [if_neg h]
    rw [e]; exact read_no last t w h
theorem readR_any (last t : Int) (w : World) :
    Calls Tryd.prog 23 #[.int .i64 last, .int .i64 t] w fun e w' => e = .returned (.int .i64 (readZ last t)) ∧ w = w' := by
  by_cases h : TimeZ t
  · have H1 := Lib.hid h
    by_cases hl : t < last
    · have e : readZ last t = last := by unfold readZ; rw [if_pos h, if_neg (by omega)]
      rw [e]
      clear e h
      go_enter Tryd.func23, Tryd.ntmps23
      go_wp2_with fail
      refine (timeR_yes _ _ H1.out).mono ?_
      rintro e w' ⟨rfl, rfl⟩
      go_wp2_with fail
      go_ret
      exact ⟨rfl, rfl⟩
    · have e : readZ last t = t := by unfold readZ; rw [if_pos h]; split <;> omega
      have hl' : decide (t < last) = false := by simpa using hl
      rw [e]
      clear e h hl
      go_enter Tryd.func23, Tryd.ntmps23
      go_wp2_with fail
      refine (timeR_yes _ _ H1.out).mono ?_
      rintro e w' ⟨rfl, rfl⟩
      go_wp2_with fail
      go_ret
      exact ⟨rfl, rfl⟩
  · have e : readZ last t = last := by unfold readZ; rw [if_neg h]
    rw [e]
    have H1 := Lib.hid h
    clear h e
    go_enter Tryd.func23, Tryd.ntmps23
    go_wp2_with fail
    refine (timeR_no _ _ H1.out).mono ?_
    rintro e w' ⟨rfl, rfl⟩
    go_wp2_with fail
    go_ret
    exact ⟨rfl, rfl⟩
theorem addR_ok (t n : Int) (w : World) (h : SumZ t n) :
    Calls Tryd.prog 21 #[.int .i64 t, .int .i64 n] w fun e w' => e = .returned (.tuple #[.int .i64 (t + n), .bool true]) ∧ w = w' := by
  obtain ⟨h1, h2⟩ := h
  have H1 := Lib.hid h1
  have H2 := Lib.hid h2
  obtain ⟨a, b⟩ := h1
  obtain ⟨c, d⟩ := h2
  have q1 : decide (253402300799 < n) = false := by simp; omega
  have q2 : decide (n < -253402300799) = false := by simp; omega
  go_enter Tryd.func21, Tryd.ntmps21
  go_wp2_with fail
  refine (timeR_yes _ _ H1.out).mono ?_
  rintro e w' ⟨rfl, rfl⟩
  go_wp2_with fail
  refine (timeR_yes _ _ H2.out).mono ?_
  rintro e w' ⟨rfl, rfl⟩
  go_wp2_with fail
  go_ret2
  exact ⟨rfl, rfl⟩
theorem addR_no (t n : Int) (w : World) (h : ¬ SumZ t n) :
    Calls Tryd.prog 21 #[.int .i64 t, .int .i64 n] w fun e w' => e = .returned (.tuple #[.int .i64 0, .bool false]) ∧ w = w' := by
  by_cases ht : TimeZ t
  · have h2 : ¬ TimeZ (t + n) := fun q => h ⟨ht, q⟩
    have H1 := Lib.hid ht
    by_cases h3 : 253402300799 < n
    · clear ht h h2
      go_enter Tryd.func21, Tryd.ntmps21
      go_wp2_with fail
      refine (timeR_yes _ _ H1.out).mono ?_
      rintro e w' ⟨rfl, rfl⟩
      go_wp2_with fail
      go_ret2
      exact ⟨rfl, rfl⟩
    · have q1 : decide (253402300799 < n) = false := by simpa using h3
      by_cases h4 : n < -253402300799
      · clear ht h h2
        go_enter Tryd.func21, Tryd.ntmps21
        go_wp2_with fail
        refine (timeR_yes _ _ H1.out).mono ?_
        rintro e w' ⟨rfl, rfl⟩
        go_wp2_with fail
        go_ret2
        exact ⟨rfl, rfl⟩
      · have q2 : decide (n < -253402300799) = false := by simpa using h4
        have H2 := Lib.hid h2
        obtain ⟨a, b⟩ := ht
        have q3 : -253402300799 ≤ n := by omega
        have q4 : n ≤ 253402300799 := by omega
        clear h h2 h3 h4
        go_enter Tryd.func21, Tryd.ntmps21
        go_wp2_with fail
        refine (timeR_yes _ _ H1.out).mono ?_
        rintro e w' ⟨rfl, rfl⟩
        go_wp2_with fail
        refine (timeR_no _ _ H2.out).mono ?_
        rintro e w' ⟨rfl, rfl⟩
        go_wp2_with fail
        go_ret2
        exact ⟨rfl, rfl⟩
  · have H1 := Lib.hid ht
    clear ht h
    go_enter Tryd.func21, Tryd.ntmps21
    go_wp2_with fail
    refine (timeR_no _ _ H1.out).mono ?_
    rintro e w' ⟨rfl, rfl⟩
    go_wp2_with fail
    go_ret2
    exact ⟨rfl, rfl⟩
end Go.Proofs.YtnhbkfmaaannnaaDoor
