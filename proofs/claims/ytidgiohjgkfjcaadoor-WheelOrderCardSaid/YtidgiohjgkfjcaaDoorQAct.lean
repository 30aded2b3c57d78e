/- The time of an act. -/
import Derived.Test.YtidgiohjgkfjcaaDoorQRef
namespace Go.Proofs.YtidgiohjgkfjcaaDoor
open Go.RowKit

def actV (k at_ num : Int) (on : Bool) : Value := .agg #[.int .i64 k, .int .i64 at_, .int .u64 num, .bool on]
/-- The time of an act: told from now on, or as it is. -/
def atQ (k at_ : Int) (on : Bool) (now : Int) : Int :=
  if (on = true ∨ (IntKind.u64.wrap k).tmod 4 = 1) ∧ 0 ≤ at_ ∧ at_ ≤ 253402300799 then now + at_ else at_
set_option maxRecDepth 100000 in
set_option maxHeartbeats 1000000 in
theorem at_any9 (k at_ num now : Int) (on : Bool) (w : World) (h0 : 0 ≤ now) (h1 : now ≤ 253402300799) :
    Calls Tryd.prog 11 #[actV k at_ num on, .int .i64 now] w fun e w' => e = .returned (.int .i64 (atQ k at_ on now)) ∧ Below w.heap.size w w' := by
  unfold actV
  have hB : ∀ o, Below w.heap.size w (w.alloc o) := fun o => (Below.refl _ _).alloc (Nat.le_refl _) _
  go_enter Tryd.func11, Tryd.ntmps11
  go_wp2_with fail
  all_goals (
    go_ret
    refine ⟨?_, hB _⟩
    unfold atQ
    first
      | (rw [if_pos (by refine ⟨?_, by assumption, by assumption⟩; first | exact .inl (by assumption) | exact .inr (by assumption))]; rfl)
      | (rw [if_neg (by rintro ⟨hh, _, _⟩; first | omega | (rcases hh with hh | hh <;> contradiction))]; rfl))
end Go.Proofs.YtidgiohjgkfjcaaDoor
