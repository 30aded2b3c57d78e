/- Words for memory. -/
import Derived.Test.YtidgiohjgkfjcaaDoorIter
import Derived.RangeFuncFrom
namespace Go.Proofs.YtidgiohjgkfjcaaDoor
open Go.RowKit Go.Shelf

theorem cell_new1 (W : World) (v : Value) (t : TypeId) : (W.alloc (.cells #[v] t)).cell? ⟨W.heap.size, 0, none⟩ = some v ∧ (W.alloc (.cells #[v] t)).frozen? ⟨W.heap.size, 0, none⟩ = false := by
  constructor <;> go_simp
theorem cell_alloc1 {W : World} {a : Addr} {v : Value} (o : Obj) (h : W.cell? a = some v) : (W.alloc o).cell? a = some v :=
  cell_kept h (World.grownBy_alloc W o none) (fun r e => by cases e)
/-- The block b is one cell: v, not frozen. -/
def OneCell (W : World) (b : Nat) (v : Value) : Prop := W.cell? ⟨b, 0, none⟩ = some v ∧ W.frozen? ⟨b, 0, none⟩ = false
theorem OneCell.new (W : World) (v : Value) (t : TypeId) : OneCell (W.alloc (.cells #[v] t)) W.heap.size v := by
  constructor <;> go_simp
theorem OneCell.kept {W W' : World} {b : Nat} {v : Value} {row : Option Nat} (h : OneCell W b v) (hg : W.grownBy W' row) (hr : ∀ r, row = some r → ∃ o : Obj, W.heap[r]? = some o ∧ o.isCells = false) : OneCell W' b v :=
  ⟨cell_kept h.1 hg hr, (frozen_kept h.1 hg hr).trans h.2⟩
theorem OneCell.lt {W : World} {b : Nat} {v : Value} (h : OneCell W b v) : b < W.heap.size := by
  rcases Nat.lt_or_ge b W.heap.size with hl | hl
  · exact hl
  · have := h.1; unfold World.cell? at this; rw [Array.getElem?_eq_none (by simpa using hl)] at this; simp at this
theorem OneCell.alloc {W : World} {b : Nat} {v : Value} (h : OneCell W b v) (o : Obj) : OneCell (W.alloc o) b v := by
  have hl := h.lt
  exact ⟨(World.cell?_alloc_lt W o ⟨b, 0, none⟩ hl).trans h.1, ((below_cell ((Below.refl W.heap.size W).alloc (Nat.le_refl _) o)).2 b 0 hl).trans h.2⟩
theorem OneCell.below {W W' : World} {b B : Nat} {v : Value} (h : OneCell W b v) (hb : Below B W W') (hB : b < B) : OneCell W' b v :=
  ⟨((below_cell hb).1 b 0 hB).trans h.1, ((below_cell hb).2 b 0 hB).trans h.2⟩
theorem OneCell.set {W : World} {b : Nat} {v : Value} (h : OneCell W b v) (u : Value) : OneCell (W.setCell ⟨b, 0, none⟩ u) b u :=
  ⟨World.cell?_setCell_same' _ _ _ (by rw [h.1]; rfl), by rw [World.frozen?_setCell]; exact h.2⟩
theorem OneCell.set_other {W : World} {b c : Nat} {v : Value} (h : OneCell W b v) (u : Value) (hne : b ≠ c) : OneCell (W.setCell ⟨c, 0, none⟩ u) b v :=
  ⟨(World.cell?_setCell_other W _ _ u (fun e => by injection e; omega)).trans h.1, by rw [World.frozen?_setCell]; exact h.2⟩
theorem OneCell.own {b : Nat} {v : Value} : Own (fun (_ : List Nat) W => OneCell W b v) := fun _ _ _ _ hs hg hr => hs.kept hg hr
end Go.Proofs.YtidgiohjgkfjcaaDoor
