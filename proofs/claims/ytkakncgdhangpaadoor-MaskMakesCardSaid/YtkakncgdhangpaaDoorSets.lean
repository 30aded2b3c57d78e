/- MaskSets: what two masks have alone, and what they have both, is what they have together, and as many. -/
import Derived.Test.YtkakncgdhangpaaDoorWakes
namespace Go.Proofs.YtkakncgdhangpaaDoor
open Go.RowKit

theorem g_or_eq (x y : BitVec 64) : g_or x y = x ||| y := rfl
theorem or_one (x : BitVec 64) (B : Nat) (w : World) (h0 : w.cell? ⟨B, 0, none⟩ = some (.int .u64 (U x))) :
    Calls Tryd.prog 31 #[.slice (some ⟨B, 0, none⟩) 1 1] w fun e w' => e = .returned (.int .u64 (U x)) ∧ w = w' := by
  have h := or_any (some ⟨B, 0, none⟩) 1 1 [x] w rfl (by decide) (fun k hk => ⟨B, 0, rfl, by match k, hk with | 0, _ => exact h0⟩)
  simpa [folds, g_or_eq] using h
theorem or_two (x y : BitVec 64) (B : Nat) (w : World) (h0 : w.cell? ⟨B, 0, none⟩ = some (.int .u64 (U x))) (h1 : w.cell? ⟨B, 1, none⟩ = some (.int .u64 (U y))) :
    Calls Tryd.prog 31 #[.slice (some ⟨B, 0, none⟩) 2 2] w fun e w' => e = .returned (.int .u64 (U (x ||| y))) ∧ w = w' := by
  have h := or_any (some ⟨B, 0, none⟩) 2 2 [x, y] w rfl (by decide) (fun k hk => ⟨B, 0, rfl, by match k, hk with | 0, _ => exact h0 | 1, _ => exact h1⟩)
  simpa [folds, g_or_eq] using h
theorem or_three (x y z : BitVec 64) (B : Nat) (w : World) (h0 : w.cell? ⟨B, 0, none⟩ = some (.int .u64 (U x))) (h1 : w.cell? ⟨B, 1, none⟩ = some (.int .u64 (U y))) (h2 : w.cell? ⟨B, 2, none⟩ = some (.int .u64 (U z))) :
    Calls Tryd.prog 31 #[.slice (some ⟨B, 0, none⟩) 3 3] w fun e w' => e = .returned (.int .u64 (U ((x ||| y) ||| z))) ∧ w = w' := by
  have h := or_any (some ⟨B, 0, none⟩) 3 3 [x, y, z] w rfl (by decide) (fun k hk => ⟨B, 0, rfl, by match k, hk with | 0, _ => exact h0 | 1, _ => exact h1 | 2, _ => exact h2⟩)
  simpa [folds, g_or_eq] using h
theorem or_none (w : World) :
    Calls Tryd.prog 31 #[.slice none 0 0] w fun e w' => e = .returned (.int .u64 0) ∧ w = w' := by
  have h := or_any none 0 0 [] w rfl (by decide) (fun k hk => absurd hk (by omega))
  simpa [folds, U_zero] using h

/-! the plain facts -/
theorem or_parts (a b : BitVec 64) : ((a &&& ~~~b) ||| (b &&& ~~~a)) ||| (a &&& b) = a ||| b := by
  apply BitVec.eq_of_getLsbD_eq
  intro i hi
  simp only [BitVec.getLsbD_or, BitVec.getLsbD_and, BitVec.getLsbD_not, hi, decide_true, Bool.true_and]
  cases a.getLsbD i <;> cases b.getLsbD i <;> rfl
theorem countP_add (l : List Nat) (p q r s : Nat → Bool) (h : ∀ i ∈ l, (p i).toNat + (q i).toNat + (r i).toNat = (s i).toNat) : l.countP p + l.countP q + l.countP r = l.countP s := by
  induction l with
  | nil => rfl
  | cons a l ih =>
    have h1 := h a (by simp)
    have h2 := ih (fun i hi => h i (by simp [hi]))
    simp only [List.countP_cons]
    revert h1
    cases p a <;> cases q a <;> cases r a <;> cases s a <;> simp <;> omega
theorem pop_parts (a b : BitVec 64) : pop (a &&& ~~~b) + pop (b &&& ~~~a) + pop (a &&& b) = pop (a ||| b) := by
  unfold pop
  apply countP_add
  intro i hi
  simp only [List.mem_range] at hi
  simp only [BitVec.getLsbD_or, BitVec.getLsbD_and, BitVec.getLsbD_not, hi, decide_true, Bool.true_and]
  cases a.getLsbD i <;> cases b.getLsbD i <;> rfl
theorem own_none (a b : BitVec 64) : (a &&& ~~~b) &&& b = 0#64 := by
  apply BitVec.eq_of_getLsbD_eq
  intro i hi
  simp only [BitVec.getLsbD_and, BitVec.getLsbD_not, hi, decide_true, Bool.true_and, BitVec.getLsbD_zero]
  cases a.getLsbD i <;> cases b.getLsbD i <;> rfl
theorem and_or (a b c : BitVec 64) : a &&& (b ||| c) = (a &&& b) ||| (a &&& c) := by
  apply BitVec.eq_of_getLsbD_eq
  intro i hi
  simp only [BitVec.getLsbD_or, BitVec.getLsbD_and]
  cases a.getLsbD i <;> cases b.getLsbD i <;> rfl
theorem less_or (a b c : BitVec 64) : a &&& ~~~(b ||| c) = (a &&& ~~~b) &&& ~~~c := by
  apply BitVec.eq_of_getLsbD_eq
  intro i hi
  simp only [BitVec.getLsbD_or, BitVec.getLsbD_and, BitVec.getLsbD_not, hi, decide_true, Bool.true_and]
  cases a.getLsbD i <;> cases b.getLsbD i <;> cases c.getLsbD i <;> rfl
theorem U_ne {x y : BitVec 64} (h : x = y) : (U x != U y) = false := by subst h; simp
theorem U_eq {x y : BitVec 64} (h : x = y) : (U x == U y) = true := by subst h; simp

theorem gr_trans {w w1 w2 : World} (h : Below w.heap.size w w1) (k : Below w1.heap.size w1 w2) : Below w.heap.size w w2 := h.trans (k.mono h.size)
theorem gr_alloc {w w1 : World} (h : Below w.heap.size w w1) (o : Obj) : Below w.heap.size w (w1.alloc o) := h.alloc h.size o

set_option maxRecDepth 100000 in
set_option maxHeartbeats 1000000 in
theorem sets_walk (a b c : BitVec 64) (w : World) (hT : Tab w) (hg : 0 < w.heap.size) :
    Calls Tryd.prog 9 #[.int .u64 (U a), .int .u64 (U b), .int .u64 (U c)] w fun e w' => e = .returned (.bool true) ∧ Below w.heap.size w w' := by
  have b1 := pop_le (a &&& ~~~b)
  have b2 := pop_le (b &&& ~~~a)
  have b3 := pop_le (a &&& b)
  have f1 := U_ne (or_parts a b)
  have f2 : ((pop (a &&& ~~~b) : Int) + (pop (b &&& ~~~a) : Int) + (pop (a &&& b) : Int) != (pop (a ||| b) : Int)) = false := by have := pop_parts a b; rw [bne_eq_false_iff_eq]; omega
  have f3 : (U ((a &&& ~~~b) &&& b) != 0) = false := U_ne (own_none a b)
  have f4 := U_eq (and_or a b c)
  have f5 := U_eq (less_or a b c)
  generalize h1 : a &&& ~~~b = own at *
  generalize h2 : b &&& ~~~a = other at *
  generalize h3 : a &&& b = both at *
  have H1 := Lib.hid h1; clear h1
  have H2 := Lib.hid h2; clear h2
  have H3 := Lib.hid h3; clear h3
  go_enter Tryd.func9, Tryd.ntmps9
  go_wp2_with fail
  refine (wakes_any w hT hg).mono ?_; rintro e w1 ⟨rfl, hb1⟩
  go_wp2_with fail
  refine (less_any a b _).mono ?_; rintro e w2 ⟨rfl, hb2⟩
  rw [H1.out]
  go_wp2_with fail
  refine (less_any b a _).mono ?_; rintro e w3 ⟨rfl, hb3⟩
  rw [H2.out]
  go_wp2_with fail
  refine (and_any a b _).mono ?_; rintro e w4 ⟨rfl, hb4⟩
  rw [H3.out]
  go_wp2_with fail
  refine (or_two a b _ _ (by go_simp) (by go_simp)).mono ?_; rintro e w5 ⟨rfl, rfl⟩
  go_wp2_with fail
  refine (or_three own other both _ _ (by go_simp) (by go_simp) (by go_simp)).mono ?_; rintro e w5 ⟨rfl, rfl⟩
  go_wp2_with (go_at_call 18; refine (count_any _ _).mono ?_; rintro e w' ⟨rfl, rfl⟩)
  refine (and_any own b _).mono ?_; rintro e w5 ⟨rfl, hb5⟩
  go_wp2_with fail
  refine (or_two b c _ _ (by go_simp) (by go_simp)).mono ?_; rintro e w6 ⟨rfl, rfl⟩
  go_wp2_with fail
  refine (and_any a (b ||| c) _).mono ?_; rintro e w6 ⟨rfl, hb6⟩
  go_wp2_with fail
  refine (and_any a b _).mono ?_; rintro e w7 ⟨rfl, hb7⟩
  rw [H3.out]
  go_wp2_with fail
  refine (and_any a c _).mono ?_; rintro e w8 ⟨rfl, hb8⟩
  go_wp2_with fail
  refine (or_two both (a &&& c) _ _ (by go_simp) (by go_simp)).mono ?_; rintro e w9 ⟨rfl, rfl⟩
  go_wp2_with fail
  refine (or_two b c _ _ (by go_simp) (by go_simp)).mono ?_; rintro e w9 ⟨rfl, rfl⟩
  go_wp2_with fail
  refine (less_any a (b ||| c) _).mono ?_; rintro e w9 ⟨rfl, hb9⟩
  go_wp2_with fail
  refine (less_any a b _).mono ?_; rintro e w10 ⟨rfl, hb10⟩
  rw [H1.out]
  go_wp2_with fail
  refine (less_any own c _).mono ?_; rintro e w11 ⟨rfl, hb11⟩
  go_wp2_with fail
  refine (or_none _).mono ?_; rintro e w12 ⟨rfl, rfl⟩
  go_wp2_with fail
  refine (or_one a _ _ (by go_simp)).mono ?_; rintro e w12 ⟨rfl, rfl⟩
  go_wp2_with fail
  go_ret
  refine ⟨rfl, ?_⟩
  have k5 := gr_trans (gr_alloc (gr_alloc (gr_trans (gr_trans (gr_trans hb1 hb2) hb3) hb4) _) _) hb5
  have k8 := gr_trans (gr_trans (gr_trans (gr_alloc k5 _) hb6) hb7) hb8
  exact gr_alloc (gr_trans (gr_trans (gr_trans (gr_alloc (gr_alloc k8 _) _) hb9) hb10) hb11) _
end Go.Proofs.YtkakncgdhangpaaDoor
