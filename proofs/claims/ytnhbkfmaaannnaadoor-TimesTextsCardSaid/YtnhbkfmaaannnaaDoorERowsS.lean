/- Rows of strings that come in, opened. -/
import Derived.Test.YtnhbkfmaaannnaaDoorERows
import Derived.Test.YtnhbkfmaaannnaaDoorETexts
import Derived.Deep.Strs
namespace Go.Proofs.YtnhbkfmaaannnaaDoor
open Go.ChangeShapes Go.WideShapes Go.ChangeAt Go.WideMaps Go.WideElems Go.RowKit Go.Deep

theorem cStr : Tryd.prog.cellsOf 9 = 1 := by kernel_rfl
theorem open_texts {H : Type} {enc : TypeId × Value → H} {W : World} {A : Option Addr} {len cap : Nat} {d : DataW H} {p : List MemPlace}
    (h : DataW.Trod enc Tryd.prog W 0 (fun _ => true) true 50 (.slice A len cap) d p) :
    len ≤ maxLen ∧ ArrS W W.heap.size A len := by
  obtain ⟨fuel, hf⟩ := h
  rcases open_strs Tryd.underlying50 Tryd.underlying9 cStr hf with ⟨hcs, _⟩ | ⟨a, len', cap', m, Sx, hcs, _, hl, hm, hz, _, hcell⟩
  · have e : (Value.slice A len cap) = .slice none 0 0 := by simpa [Value.cells] using hcs
    cases e
    exact ⟨by unfold maxLen; omega, fun k hk => absurd hk (by omega)⟩
  · have e : (Value.slice A len cap) = .slice (some a) len' cap' := by simpa [Value.cells] using hcs
    cases e
    simp only [if_true] at hz
    refine ⟨by omega, fun k hk => ?_⟩
    obtain ⟨b, off, rfl⟩ : ∃ b off, a = ⟨b, off, none⟩ := by
      have k0 := (hcell 0 (by omega)).1
      obtain ⟨b, off, spot⟩ := a
      have hspot : spot = none := by simpa [Addr.add] using World.cell?_spot k0
      subst hspot
      exact ⟨b, off, rfl⟩
    obtain ⟨hc, hs⟩ := hcell k (by omega)
    rw [Go.WideShapes.add_plain] at hc
    exact ⟨b, off, Sx k, rfl, lt_of_cell hc, hc, hs⟩
end Go.Proofs.YtnhbkfmaaannnaaDoor
