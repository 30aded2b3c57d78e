/- Slices that come in, opened. -/
import Derived.Test.YtkakncgdhangpaaDoorLift
import Derived.Test.YtkakncgdhangpaaDoorJoins
namespace Go.Proofs.YtkakncgdhangpaaDoor
open Go.ChangeShapes Go.WideShapes Go.ChangeAt Go.WideMaps Go.WideElems Go.RowKit

theorem cells28 : Tryd.prog.cellsOf 28 = 1 := by kernel_rfl
theorem lt_of_cell {w : World} {b o : Nat} {v : Value} (h : w.cell? ⟨b, o, none⟩ = some v) : b < w.heap.size := by
  rcases Nat.lt_or_ge b w.heap.size with hl | hl
  · exact hl
  · unfold World.cell? at h; rw [Array.getElem?_eq_none (by simpa using hl)] at h; simp at h
theorem open_masks {H : Type} {enc : TypeId × Value → H} {W : World} {A : Option Addr} {len cap : Nat} {d : DataW H} {p : List MemPlace}
    (h : DataW.Trod enc Tryd.prog W 0 (fun _ => true) true 40 (.slice A len cap) d p) :
    len ≤ cap ∧ cap ≤ maxLen ∧ (A = none → len = 0 ∧ cap = 0) ∧ ∀ n, n ≤ len → ∃ xs : List (BitVec 64), xs.length = n ∧ ArrM W W.heap.size A n xs := by
  obtain ⟨fuel, hf⟩ := h
  rcases open_ints Tryd.underlying40 Tryd.underlying28 cells28 hf with ⟨hcs, _⟩ | ⟨a, len', cap', zs, hcs, _, hl, hm, hz, _, hcell, hwz⟩
  · have e : (Value.slice A len cap) = .slice none 0 0 := by simpa [Value.cells] using hcs
    cases e
    exact ⟨Nat.le_refl _, by unfold maxLen; omega, fun _ => ⟨rfl, rfl⟩, fun n hn => ⟨[], by simp; omega, fun k hk => absurd hk (by omega)⟩⟩
  · have e : (Value.slice A len cap) = .slice (some a) len' cap' := by simpa [Value.cells] using hcs
    cases e
    simp only [if_true] at hz
    refine ⟨hl, hm, (fun e => by cases e), fun n hn => ⟨(List.range n).map fun k => BitVec.ofInt 64 (zs.getD k 0), by simp, fun k hk => ?_⟩⟩
    obtain ⟨b, off, rfl, hc⟩ := ints_at hcell (by omega)
    have hck := hc k (by omega)
    refine ⟨b, off, rfl, lt_of_cell hck, ?_⟩
    rw [hck]
    have hkz : k < zs.length := by omega
    have hw : (Lit.int .u64 (zs.getD k 0)).wf = true := hwz _ (by rw [List.getD_eq_getElem?_getD, List.getElem?_eq_getElem hkz]; exact List.getElem_mem hkz)
    obtain ⟨b0, b1⟩ := bounds_u64 hw
    obtain ⟨y, hy⟩ := U_of _ b0 b1
    have e : nth ((List.range n).map fun k => BitVec.ofInt 64 (zs.getD k 0)) k = y := by
      unfold nth
      rw [List.getD_eq_getElem?_getD (l := List.map _ _), List.getElem?_map, List.getElem?_range hk]
      show BitVec.ofInt 64 (zs.getD k 0) = y
      rw [hy, U_ofInt]
    rw [e, hy]
theorem joins_walk {H : Type} {enc : TypeId × Value → H} {A : Option Addr} {len cap : Nat} {d : DataW H} {p : List MemPlace} (W : World)
    (h : DataW.Trod enc Tryd.prog W 0 (fun _ => true) true 40 (.slice A len cap) d p) (hT : Tab W) (hg : 0 < W.heap.size) :
    Calls Tryd.prog 5 #[.slice A len cap] W fun e w' => e = .returned (.bool true) ∧ Below W.heap.size W w' := by
  obtain ⟨h1, h2, h3, h4⟩ := open_masks h
  obtain ⟨xs, hx, ha⟩ := h4 (min len 12) (by omega)
  exact joins_main A (min len 12) cap len xs W hT hg hx (by omega) rfl h1 h2 (fun e => by have := h3 e; omega) ha
end Go.Proofs.YtkakncgdhangpaaDoor
