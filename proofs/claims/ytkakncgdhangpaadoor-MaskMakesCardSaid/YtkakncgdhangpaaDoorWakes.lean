/- wakes: true. -/
import Derived.Test.YtkakncgdhangpaaDoorOf
import Derived.Test.YtkakncgdhangpaaDoorFirst
namespace Go.Proofs.YtkakncgdhangpaaDoor
open Go.RowKit

theorem arr_list (w : World) (t : TypeId) (cs : Array Value) (f : Nat → Value) (n : Nat) (h : ∀ k, k < n → cs[k]? = some (f k)) : Arr (w.alloc (.cells cs t)) (some ⟨w.heap.size, 0, none⟩) n f := by
  intro k hk
  refine ⟨_, _, rfl, ?_⟩
  have := h k hk
  go_simp
theorem wk_of : ofs [0, 3, 3, 63] 0#64 = some 9223372036854775817#64 := by decide +kernel
theorem wk_span : spanM 0 10 4 = some 273#64 := by
  unfold spanM
  rw [if_pos (by decide)]
  congr 1
theorem wk_least : least 273#64 5 = some 8 := by decide +kernel
theorem wk_pop : pop 9223372036854775817#64 = 3 := by decide +kernel
theorem U9 : U 9223372036854775817#64 = 9223372036854775817 := rfl
theorem U273 : U 273#64 = 273 := rfl

set_option maxHeartbeats 1000000 in
theorem wakes_any (w : World) (hT : Tab w) (hg : 0 < w.heap.size) :
    Calls Tryd.prog 10 #[] w fun e w' => e = .returned (.bool true) ∧ Below w.heap.size w w' := by
  have hB0 : Below w.heap.size w (w.alloc (.cells #[.int .i64 0, .int .i64 3, .int .i64 3, .int .i64 63] 3)) := (Below.refl _ w).alloc (Nat.le_refl _) _
  have h1 := of_any (some ⟨w.heap.size, 0, none⟩) 4 4 [0, 3, 3, 63] (w.alloc (.cells #[.int .i64 0, .int .i64 3, .int .i64 3, .int .i64 63] 3)) rfl (by decide)
    (arr_list w _ _ _ 4 (by intro k hk; match k, hk with | 0, _ => rfl | 1, _ => rfl | 2, _ => rfl | 3, _ => rfl))
  rw [wk_of, maskErr, U9] at h1
  have h2 := span_any 0 10 4 (w.alloc (.cells #[.int .i64 0, .int .i64 3, .int .i64 3, .int .i64 63] 3))
  rw [wk_span, maskErr, U273] at h2
  have h3 := first_any 273#64 5 (w.alloc (.cells #[.int .i64 0, .int .i64 3, .int .i64 3, .int .i64 63] 3)) (hT.below hg hB0) (by simp)
  rw [wk_least, U273, some2] at h3
  simp only [Option.getD, Option.isSome] at h3
  have h4 := fun w => count_any 9223372036854775817#64 w
  simp only [wk_pop, U9] at h4
  have H1 := Lib.hid h1
  have H2 := Lib.hid h2
  have H3 := Lib.hid h3
  have H4 := Lib.hid h4
  clear h1 h2 h3 h4
  go_enter Tryd.func10, Tryd.ntmps10
  go_wp2_with (first
    | (go_at_call 12; refine H1.out.mono ?_; rintro e w' ⟨rfl, rfl⟩)
    | (go_at_call 15; refine H2.out.mono ?_; rintro e w' ⟨rfl, rfl⟩)
    | (go_at_call 23; refine H3.out.mono ?_; rintro e w' ⟨rfl, hb3⟩)
    | (go_at_call 18; refine (H4.out _).mono ?_; rintro e w' ⟨rfl, rfl⟩))
  go_ret
  exact ⟨rfl, hB0.trans (hb3.mono (by simp))⟩
end Go.Proofs.YtkakncgdhangpaaDoor
