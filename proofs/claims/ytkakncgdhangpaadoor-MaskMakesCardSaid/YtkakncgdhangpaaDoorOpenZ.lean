/- Rows of numbers that come in, opened; MaskTells at what comes in. -/
import Derived.Test.YtkakncgdhangpaaDoorOpen
import Derived.Test.YtkakncgdhangpaaDoorTells
namespace Go.Proofs.YtkakncgdhangpaaDoor
open Go.ChangeShapes Go.WideShapes Go.ChangeAt Go.WideMaps Go.WideElems Go.RowKit

theorem cells_int : Tryd.prog.cellsOf 3 = 1 := by kernel_rfl
theorem open_numbers {H : Type} {enc : TypeId × Value → H} {W : World} {A : Option Addr} {len cap : Nat} {d : DataW H} {p : List MemPlace}
    (h : DataW.Trod enc Tryd.prog W 0 (fun _ => true) true 25 (.slice A len cap) d p) :
    len ≤ cap ∧ cap ≤ maxLen ∧ (A = none → len = 0 ∧ cap = 0) ∧ ∃ zs : List Int, len ≤ zs.length ∧ ArrZ W W.heap.size A len zs ∧ ∀ z ∈ zs, -9223372036854775808 ≤ z ∧ z ≤ 9223372036854775807 := by
  obtain ⟨fuel, hf⟩ := h
  rcases open_ints Tryd.underlying25 Tryd.underlying3 cells_int hf with ⟨hcs, _⟩ | ⟨a, len', cap', zs, hcs, _, hl, hm, hz, _, hcell, hwz⟩
  · have e : (Value.slice A len cap) = .slice none 0 0 := by simpa [Value.cells] using hcs
    cases e
    exact ⟨Nat.le_refl _, by unfold maxLen; omega, fun _ => ⟨rfl, rfl⟩, [], by simp, fun k hk => absurd hk (by omega), by simp⟩
  · have e : (Value.slice A len cap) = .slice (some a) len' cap' := by simpa [Value.cells] using hcs
    cases e
    simp only [if_true] at hz
    refine ⟨hl, hm, (fun e => by cases e), zs, by omega, fun k hk => ?_, fun z hz => bounds_i64 (hwz z hz)⟩
    obtain ⟨b, off, rfl, hc⟩ := ints_at hcell (by omega)
    have hck := hc k (by omega)
    exact ⟨b, off, rfl, lt_of_cell hck, hck⟩
theorem tells_walk {H : Type} {enc : TypeId × Value → H} {A B : Option Addr} {n c m d : Nat} {d0 d1 : DataW H} {p0 p1 : List MemPlace} (W : World)
    (h0 : DataW.Trod enc Tryd.prog W 0 (fun _ => true) true 40 (.slice A n c) d0 p0) (h1 : DataW.Trod enc Tryd.prog W 0 (fun _ => true) true 25 (.slice B m d) d1 p1) (hT : Tab W) (hg : 0 < W.heap.size) :
    Calls Tryd.prog 4 #[.slice A n c, .slice B m d] W fun e w' => e = .returned (.bool true) ∧ Below W.heap.size W w' := by
  obtain ⟨a1, a2, _, a4⟩ := open_masks h0
  obtain ⟨b1, b2, _, zs, _, hz, _⟩ := open_numbers h1
  obtain ⟨xs, _, ha⟩ := a4 n (Nat.le_refl _)
  exact tells_main A B n c m d xs zs W hT hg (by omega) (by omega) ha hz
end Go.Proofs.YtkakncgdhangpaaDoor
