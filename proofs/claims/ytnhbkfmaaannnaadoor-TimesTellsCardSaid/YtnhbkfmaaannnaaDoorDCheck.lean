/- Which dates may be: Check, and Right of the document. -/
import Derived.Test.YtnhbkfmaaannnaaDoorDLong
namespace Go.Proofs.YtnhbkfmaaannnaaDoor
open Go.RowKit

def dateV (y m d : Int) : Value := .agg #[.int .i64 y, .int .i64 m, .int .i64 d]
def dateO (y m d : Int) : Obj := .cells #[.int .i64 y, .int .i64 m, .int .i64 d] 27
theorem Laid.alloc {w : World} (h : Laid w) (o : Obj) : Laid (w.alloc o) :=
  h.below (B := w.heap.size) h.lt ((Below.refl _ w).alloc (Nat.le_refl _) o) (by simp)
theorem Laid.drewN {w : World} (h : Laid w) (n : Nat) : Laid (w.drewN n) := ⟨h.len, h.era, h.lt⟩
theorem Laid.on {w w' : World} (h : Laid w) (hb : Below w.heap.size w w') : Laid w' := h.below h.lt hb hb.size
theorem Laid.onM {w w' : World} {B : Nat} (h : Laid w) (hB : 2 ≤ B) (hb : Below B w w') : Laid w' := h.below hB hb hb.size
theorem bdrewN {B : Nat} {a w : World} (h : Below B a w) (n : Nat) : Below B a (w.drewN n) := ⟨h.os, h.tape, h.output, h.size, h.block⟩
theorem long_q (y m : Int) (w : World) (hL : Laid w) :
    Calls Tryd.prog 47 #[.int .i64 y, .int .i64 m] w fun e w' => e = .returned (.int .i64 (mlZ y m)) ∧ w' = w := (long_any y m w hL).mono fun _ _ ⟨h, k⟩ => ⟨h, k.symm⟩
theorem longR_q (y m : Int) (w : World) :
    Calls Tryd.prog 52 #[.int .i64 y, .int .i64 m] w fun e w' => e = .returned (.int .i64 (mlZ y m)) ∧ w' = w := (longR_any y m w).mono fun _ _ ⟨h, k⟩ => ⟨h, k.symm⟩
theorem not_right {y m d : Int} (h : ¬ RightZ y m d) : y < 1970 ∨ ¬ y < 1970 ∧ (9999 < y ∨ ¬ 9999 < y ∧ (d < 1 ∨ ¬ d < 1 ∧ mlZ y m < d)) := by
  unfold RightZ at h; omega

set_option maxRecDepth 100000 in
theorem check_ok (y m d : Int) (w : World) (hL : Laid w) (h : RightZ y m d) :
    Calls Tryd.prog 44 #[dateV y m d] w fun e w' => e = .returned (.int .i64 0) ∧ Below w.heap.size w w' := by
  obtain ⟨a1, a2, a3, a4⟩ := h
  unfold dateV
  have h1 : decide (y < 1970) = false := by simp; omega
  have h2 : decide (9999 < y) = false := by simp; omega
  have h3 : decide (d < 1) = false := by simp; omega
  have h4 : decide (mlZ y m < d) = false := by simp; omega
  go_enter Tryd.func44, Tryd.ntmps44
  go_wp2_with fail
  go_quiet ((go_at_call 47; exact Calls.quiet_of_same (long_q _ _ _ ((hL.alloc _).drewN _))))
  go_wp2_with fail
  go_ret
  exact ⟨rfl, bdrewN ((Below.refl _ w).alloc (Nat.le_refl _) _) _⟩
set_option maxRecDepth 100000 in
theorem check_no (y m d : Int) (w : World) (hL : Laid w) (h : ¬ RightZ y m d) :
    Calls Tryd.prog 44 #[dateV y m d] w fun e w' => e = .returned (.int .i64 140) ∧ Below w.heap.size w w' := by
  unfold dateV
  rcases not_right h with a1 | ⟨a1, a2 | ⟨a2, a3 | ⟨a3, a4⟩⟩⟩
  · clear h
    have h1 : decide (y < 1970) = true := by simp; omega
    go_enter Tryd.func44, Tryd.ntmps44
    go_wp2_with fail
    go_quiet (fail)
    go_wp2_with fail
    go_ret
    exact ⟨rfl, bdrewN ((Below.refl _ w).alloc (Nat.le_refl _) _) _⟩
  · clear h
    have h1 : decide (y < 1970) = false := by simp; omega
    have h2 : decide (9999 < y) = true := by simp; omega
    go_enter Tryd.func44, Tryd.ntmps44
    go_wp2_with fail
    go_quiet (fail)
    go_wp2_with fail
    go_ret
    exact ⟨rfl, bdrewN ((Below.refl _ w).alloc (Nat.le_refl _) _) _⟩
  · clear h
    have h1 : decide (y < 1970) = false := by simp; omega
    have h2 : decide (9999 < y) = false := by simp; omega
    have h3 : decide (d < 1) = true := by simp; omega
    go_enter Tryd.func44, Tryd.ntmps44
    go_wp2_with fail
    go_quiet (fail)
    go_wp2_with fail
    go_ret
    exact ⟨rfl, bdrewN ((Below.refl _ w).alloc (Nat.le_refl _) _) _⟩
  · clear h
    have h1 : decide (y < 1970) = false := by simp; omega
    have h2 : decide (9999 < y) = false := by simp; omega
    have h3 : decide (d < 1) = false := by simp; omega
    have h4 : decide (mlZ y m < d) = true := by simp; omega
    go_enter Tryd.func44, Tryd.ntmps44
    go_wp2_with fail
    go_quiet ((go_at_call 47; exact Calls.quiet_of_same (long_q _ _ _ ((hL.alloc _).drewN _))))
    go_wp2_with fail
    go_ret
    exact ⟨rfl, bdrewN ((Below.refl _ w).alloc (Nat.le_refl _) _) _⟩
set_option maxRecDepth 100000 in
theorem right_ok (y m d : Int) (w : World) (h : RightZ y m d) :
    Calls Tryd.prog 35 #[dateV y m d] w fun e w' => e = .returned (.bool true) ∧ Below w.heap.size w w' := by
  obtain ⟨a1, a2, a3, a4⟩ := h
  unfold dateV
  have h1 : decide (1970 ≤ y) = true := by simp; omega
  have h2 : decide (y ≤ 9999) = true := by simp; omega
  have h3 : decide (1 ≤ d) = true := by simp; omega
  have h4 : decide (d ≤ mlZ y m) = true := by simp; omega
  go_enter Tryd.func35, Tryd.ntmps35
  go_wp2_with fail
  go_quiet ((go_at_call 52; exact Calls.quiet_of_same (longR_q _ _ _)))
  go_wp2_with fail
  go_ret
  exact ⟨rfl, bdrewN ((Below.refl _ w).alloc (Nat.le_refl _) _) _⟩
set_option maxRecDepth 100000 in
theorem right_no (y m d : Int) (w : World) (h : ¬ RightZ y m d) :
    Calls Tryd.prog 35 #[dateV y m d] w fun e w' => e = .returned (.bool false) ∧ Below w.heap.size w w' := by
  unfold dateV
  rcases not_right h with a1 | ⟨a1, a2 | ⟨a2, a3 | ⟨a3, a4⟩⟩⟩
  · clear h
    have h1 : decide (1970 ≤ y) = false := by simp; omega
    go_enter Tryd.func35, Tryd.ntmps35
    go_wp2_with fail
    go_quiet (fail)
    go_wp2_with fail
    go_ret
    exact ⟨rfl, bdrewN ((Below.refl _ w).alloc (Nat.le_refl _) _) _⟩
  · clear h
    have h1 : decide (1970 ≤ y) = true := by simp; omega
    have h2 : decide (y ≤ 9999) = false := by simp; omega
    go_enter Tryd.func35, Tryd.ntmps35
    go_wp2_with fail
    go_quiet (fail)
    go_wp2_with fail
    go_ret
    exact ⟨rfl, bdrewN ((Below.refl _ w).alloc (Nat.le_refl _) _) _⟩
  · clear h
    have h1 : decide (1970 ≤ y) = true := by simp; omega
    have h2 : decide (y ≤ 9999) = true := by simp; omega
    have h3 : decide (1 ≤ d) = false := by simp; omega
    go_enter Tryd.func35, Tryd.ntmps35
    go_wp2_with fail
    go_quiet (fail)
    go_wp2_with fail
    go_ret
    exact ⟨rfl, bdrewN ((Below.refl _ w).alloc (Nat.le_refl _) _) _⟩
  · clear h
    have h1 : decide (1970 ≤ y) = true := by simp; omega
    have h2 : decide (y ≤ 9999) = true := by simp; omega
    have h3 : decide (1 ≤ d) = true := by simp; omega
    have h4 : decide (d ≤ mlZ y m) = false := by simp; omega
    go_enter Tryd.func35, Tryd.ntmps35
    go_wp2_with fail
    go_quiet ((go_at_call 52; exact Calls.quiet_of_same (longR_q _ _ _)))
    go_wp2_with fail
    go_ret
    exact ⟨rfl, bdrewN ((Below.refl _ w).alloc (Nat.le_refl _) _) _⟩
end Go.Proofs.YtnhbkfmaaannnaaDoor
