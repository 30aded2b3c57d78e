/- At: the date of a number; Weekday. -/
import Derived.Test.YtnhbkfmaaannnaaDoorDDayOf
namespace Go.Proofs.YtnhbkfmaaannnaaDoor
open Go.RowKit

theorem counts_yes (n : Int) (w : World) (h0 : 0 ≤ n) (h1 : n ≤ 2932896) :
    Calls Tryd.prog 48 #[.int .i64 n] w fun e w' => e = .returned (.bool true) ∧ w = w' := by
  go_enter Tryd.func48, Tryd.ntmps48
  go_wp2_with fail
  go_ret
  exact ⟨rfl, rfl⟩
theorem counts_no (n : Int) (w : World) (h : n < 0 ∨ 2932896 < n) :
    Calls Tryd.prog 48 #[.int .i64 n] w fun e w' => e = .returned (.bool false) ∧ w = w' := by
  rcases h with h | h
  · have h1 : decide (0 ≤ n) = false := by simp; omega
    go_enter Tryd.func48, Tryd.ntmps48
    go_wp2_with fail
    go_ret
    exact ⟨rfl, rfl⟩
  · have h0 : 0 ≤ n := by omega
    have h1 : decide (n ≤ 2932896) = false := by simp; omega
    go_enter Tryd.func48, Tryd.ntmps48
    go_wp2_with fail
    go_ret
    exact ⟨rfl, rfl⟩
theorem weekday_no (n : Int) (w : World) (h : n < 0 ∨ 2932896 < n) :
    Calls Tryd.prog 30 #[.int .i64 n] w fun e w' => e = .returned (.tuple #[.int .i64 0, .int .i64 2]) ∧ w = w' := by
  have hc := counts_no n w h
  clear h
  go_enter Tryd.func30, Tryd.ntmps30
  go_wp2_with fail
  refine hc.mono ?_
  rintro e w' ⟨rfl, rfl⟩
  clear hc
  go_wp2_with fail
  go_ret2
  exact ⟨rfl, rfl⟩
theorem weekday_ok (n : Int) (w : World) (h0 : 0 ≤ n) (h1 : n ≤ 2932896) :
    Calls Tryd.prog 30 #[.int .i64 n] w fun e w' => e = .returned (.tuple #[.int .i64 ((n + 4) % 7), .int .i64 0]) ∧ w = w' := by
  go_enter Tryd.func30, Tryd.ntmps30
  go_wp2_with fail
  refine (counts_yes n w h0 h1).mono ?_
  rintro e w' ⟨rfl, rfl⟩
  go_wp2_with fail
  go_ret2
  exact ⟨rfl, rfl⟩
theorem weekdayR_ok (n : Int) (w : World) (h0 : 0 ≤ n) (h1 : n ≤ 2932896) :
    Calls Tryd.prog 34 #[.int .i64 n] w fun e w' => e = .returned (.int .i64 ((n + 4) % 7)) ∧ w = w' := by
  have e : (n % 7 + 4) % 7 = (n + 4) % 7 := by omega
  rw [← e]
  clear e
  go_enter Tryd.func34, Tryd.ntmps34
  go_wp2_with fail
  go_ret
  exact ⟨rfl, rfl⟩
theorem at_no (n : Int) (w : World) (h : n < 0 ∨ 2932896 < n) :
    Calls Tryd.prog 32 #[.int .i64 n] w fun e w' => e = .returned (.tuple #[dateV 0 0 0, .int .i64 2]) ∧ Below w.heap.size w w' := by
  unfold dateV
  have hc := fun w => counts_no n w h
  clear h
  have HC := Lib.hid hc
  clear hc
  go_enter Tryd.func32, Tryd.ntmps32
  go_wp2_with fail
  refine (HC.out _).mono ?_
  rintro e w' ⟨rfl, rfl⟩
  go_wp2_with fail
  refine bodyPost_ret (v := .tuple #[.agg #[.int .i64 0, .int .i64 0, .int .i64 0], .int .i64 2]) (by simp [results, Tryd.results32, go_sem]) rfl ⟨rfl, ?_⟩
  exact (Below.refl _ w).alloc (Nat.le_refl _) _
theorem at_math (n q r : Int) (h0 : 0 ≤ n) (h1 : n ≤ 2932896) (q0 : 0 ≤ q) (q1 : q ≤ 8398) (r0 : 0 ≤ r) (r1 : r < ylZ (1601 + q)) (he : 365 * q + q / 4 - q / 100 + q / 400 + r = n + 134774) :
    1970 ≤ 1601 + q ∧ 1601 + q ≤ 9999 ∧ ∀ m d : Int, 1 ≤ m → m ≤ 12 → 1 ≤ d → d ≤ mlZ (1601 + q) m → dmZ (1601 + q) (m - 1).toNat + (d - 1) = r → RightZ (1601 + q) m d ∧ numZ (1601 + q) m d = n := by
  have hq : 369 ≤ q := by
    by_cases hq : q ≤ 367
    · have := (ylZ_pos (1601 + q)).2
      omega
    · by_cases h8 : q = 368
      · subst h8
        have e : ylZ (1601 + 368) = 365 := by decide
        rw [e] at r1
        omega
      · omega
  refine ⟨by omega, by omega, fun m d m1 m2 d1 d2 hr => ⟨⟨by omega, by omega, d1, d2⟩, ?_⟩⟩
  unfold numZ
  rw [dyZ_form]
  omega
set_option maxRecDepth 100000 in
theorem at_ok (n : Int) (w : World) (hL : Laid w) (h0 : 0 ≤ n) (h1 : n ≤ 2932896) :
    Calls Tryd.prog 32 #[.int .i64 n] w fun e w' => ∃ y m d : Int, e = .returned (.tuple #[dateV y m d, .int .i64 0]) ∧ RightZ y m d ∧ numZ y m d = n ∧ Below w.heap.size w w' := by
  unfold dateV
  go_enter Tryd.func32, Tryd.ntmps32
  go_wp2_with fail
  refine (counts_yes n _ h0 h1).mono ?_
  rintro e w' ⟨rfl, rfl⟩
  go_wp2_with fail
  refine (cut_at (n + 134774) _ (hL.alloc _) (by omega) (by omega)).mono ?_
  rintro e w2 ⟨rfl, hb⟩
  obtain ⟨q, r, hq, hr, q0, q1, r0, r1, he⟩ := days_cut (n + 134774) (by omega) (by omega)
  obtain ⟨y1, y2, HM⟩ := at_math n q r h0 h1 q0 q1 r0 r1 he
  rw [hq, hr]
  have hbx : Box w2 w.heap.size 27 #[.int .i64 0, .int .i64 0, .int .i64 0] := (Box.new w 27 _).below hb (by simp)
  have hB : Below w.heap.size w w2 := ((Below.refl _ w).alloc (Nat.le_refl _) _).trans (hb.mono (by simp))
  have HL := Lib.hid (hL.on hB)
  have HB := Lib.hid hB
  have HX := Lib.hid hbx
  have HM := Lib.hid HM
  rename_i HM0
  have HQ := Lib.hid (show w.heap.size < w2.heap.size from hbx.lt)
  clear hb hB hL hq hr hbx he HM0
  go_wp2_with fail
  refine (dayof_ok (1601 + q) r w2 HL.out (by omega) y2 r0 r1).mono ?_
  rintro e w3 ⟨m, d, rfl, m1, m2, d1, d2, hmd, hb⟩
  have hx3 : Box w3 w.heap.size 27 #[.int .i64 0, .int .i64 0, .int .i64 0] := HX.out.below hb HQ.out
  obtain ⟨z0, z1, z2, f0, f1, f2⟩ := hx3.three
  obtain ⟨hR, hN⟩ := HM.out m d m1 m2 d1 d2 hmd
  have HR := Lib.hid hR; have HN := Lib.hid hN; have HX3 := Lib.hid hx3
  have HB3 := Lib.hid (HB.out.trans (hb.mono (Nat.le_of_lt HQ.out)))
  clear hb hx3 hR hN hmd d2 HX HB
  generalize 1601 + q = y at *
  go_wp2_with fail
  refine bodyPost_ret (v := .tuple #[.agg #[.int .i64 y, .int .i64 m, .int .i64 d], .int .i64 0]) (by simp [results, Tryd.results32, go_sem, z0, z1, z2]) rfl ⟨y, m, d, rfl, HR.out, HN.out, ?_⟩
  exact ((HB3.out.setCell (Nat.le_refl _) _).setCell (Nat.le_refl _) _).setCell (Nat.le_refl _) _
end Go.Proofs.YtnhbkfmaaannnaaDoor
