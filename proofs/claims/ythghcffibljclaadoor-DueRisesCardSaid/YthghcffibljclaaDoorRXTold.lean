/- A row that goes on: what was told: walked. -/
import Derived.Test.YthghcffibljclaaDoorRXMem
namespace Go.Proofs.YthghcffibljclaaDoor
open Go.RowKit

set_option maxRecDepth 100000 in
set_option maxHeartbeats 4000000 in
theorem launches_any (g : Nat) (r : RowZ) (v : Value) (o : List LaZ) (w : World) (hc : CourseAt w g r v o) (ho : o.length ≤ 1) :
    Calls Tryd.prog 23 #[.pointer (some ⟨g, 0, none⟩)] w fun e w' => e = .returned (.slice (some ⟨g, 17, none⟩) o.length o.length) ∧ Below w.heap.size w w' := by
  have c21 := hc.cells.count
  have g1 : (0 : Int) ≤ (o.length : Int) := by omega
  have g2 : (o.length : Int) ≤ (1 : Int) := by omega
  clear hc
  generalize o.length = n at *
  go_enter Tryd.func23, Tryd.ntmps23
  have hB : ∀ q, Below w.heap.size w (w.drewN q) := fun q => bdrewN (Below.refl _ w) q
  go_wp2_with fail
  go_quiet (fail)
  go_wp2_with fail
  go_ret
  exact ⟨rfl, hB _⟩
end Go.Proofs.YthghcffibljclaaDoor
