/- slices.Sort of three, whole: walked. -/
import Derived.Test.YtkimbmifabpppaaDoorKHSort
namespace Go.Proofs.YtkimbmifabpppaaDoor
open Go.RowKit

set_option maxRecDepth 100000 in
theorem len_three (w : World) : Calls Tryd.prog 41 #[.int .u64 3] w fun e w' => (∃ n : Int, e = .returned (.int .i64 n)) ∧ w' = w := by
  go_enter Tryd.func41, Tryd.ntmps41
  go_wp2_with go_in
  go_ret
  exact ⟨⟨_, rfl⟩, rfl⟩
set_option maxRecDepth 100000 in
set_option maxHeartbeats 2000000 in
theorem pdq3_any (g : Nat) (ty : TypeId) (p q r lim : Int) (w : World) (hX : D.Box w g ty #[.int .i64 p, .int .i64 q, .int .i64 r]) :
    Calls Tryd.prog 40 #[.slice (some ⟨g, 0, none⟩) 3 3, .int .i64 0, .int .i64 3, .int .i64 lim] w fun e w' => e = .returned (.tuple #[]) ∧ ∃ p q r : Int, D.Box w' g ty #[.int .i64 p, .int .i64 q, .int .i64 r] ∧ p ≤ q ∧ q ≤ r ∧ Sole g w.heap.size w w' := by
  have HS := Lib.hid (sort3_any g ty p q r w hX)
  clear hX
  go_enter Tryd.func40, Tryd.ntmps40
  go_wp2_with fail
  go_loopw [1, 2] (fun s1 s2 wr => s1 = .int .i64 0 ∧ s2 = .int .i64 3 ∧ wr = w) (fun _ _ _ => 0)
  case atStart => exact ⟨rfl, rfl, rfl⟩
  case round =>
    obtain ⟨rfl, rfl, rfl⟩ := hrel
    go_wp2_with fail
    refine HS.out.mono ?_
    rintro x w2 ⟨rfl, h⟩
    have HH := Lib.hid h
    clear h
    go_wp2_with fail
    refine bodyPost_ret (results_none rfl _ _ _) rfl ?_
    exact ⟨rfl, HH.out⟩
set_option maxRecDepth 100000 in
theorem sorts_any (g : Nat) (ty : TypeId) (p q r : Int) (w : World) (hX : D.Box w g ty #[.int .i64 p, .int .i64 q, .int .i64 r]) :
    Calls Tryd.prog 22 #[.slice (some ⟨g, 0, none⟩) 3 3] w fun e w' => e = .returned (.tuple #[]) ∧ ∃ p q r : Int, D.Box w' g ty #[.int .i64 p, .int .i64 q, .int .i64 r] ∧ p ≤ q ∧ q ≤ r ∧ Sole g w.heap.size w w' := by
  have HS := Lib.hid (fun lim => pdq3_any g ty p q r lim w hX)
  clear hX
  go_enter Tryd.func22, Tryd.ntmps22
  go_wp2_with fail
  refine (len_three _).mono ?_
  rintro x w1 ⟨⟨lim, rfl⟩, rfl⟩
  go_wp2_with fail
  refine (HS.out lim).mono ?_
  rintro x w2 ⟨rfl, h⟩
  have HH := Lib.hid h
  clear h
  go_wp2_with fail
  go_end0
  exact ⟨rfl, HH.out⟩
end Go.Proofs.YtkimbmifabpppaaDoor
