/- Rows of pairs that come in, opened. -/
import Derived.Test.YtnhbkfmaaannnaaDoorERows
import Derived.Test.YtnhbkfmaaannnaaDoorEGoes
import Derived.Deep.Matrix
import Derived.Deep.Fields
namespace Go.Proofs.YtnhbkfmaaannnaaDoor
open Go.ChangeShapes Go.WideShapes Go.ChangeAt Go.WideMaps Go.WideElems Go.RowKit Go.Deep Go.Joins

theorem cPair : Tryd.prog.cellsOf 44 = 2 := by kernel_rfl
theorem open_pairs {H : Type} {enc : TypeId × Value → H} {W : World} {A : Option Addr} {len cap : Nat} {d : DataW H} {p : List MemPlace}
    (h : DataW.Trod enc Tryd.prog W 0 (fun _ => true) true 43 (.slice A len cap) d p) :
    len ≤ maxLen ∧ ArrP W W.heap.size A len := by
  obtain ⟨fuel, hf⟩ := h
  rcases open_slice Tryd.underlying43 hf with ⟨hcs, _⟩ | ⟨a, len', cap', m, q, D, Pl, hcs, _, hl, hm, hmm, _, hi⟩
  · have e : (Value.slice A len cap) = .slice none 0 0 := by simpa [Value.cells] using hcs
    cases e
    exact ⟨by unfold maxLen; omega, fun k hk => absurd hk (by omega)⟩
  · have e : (Value.slice A len cap) = .slice (some a) len' cap' := by simpa [Value.cells] using hcs
    cases e
    simp only [if_true] at hmm
    subst hmm
    rw [cPair] at hi
    refine ⟨by omega, fun k hk => ?_⟩
    obtain ⟨b, off, rfl⟩ : ∃ b off, a = ⟨b, off, none⟩ := by
      obtain ⟨cs', hc, _⟩ := hi 0 (by omega)
      obtain ⟨_, hlen, hat⟩ := World.cells?_some hc
      have k0 := hat 0 (by omega)
      rw [List.getElem?_eq_getElem (by omega)] at k0
      obtain ⟨b, off, spot⟩ := a
      have hspot : spot = none := by simpa [Addr.add] using World.cell?_spot k0
      subst hspot
      exact ⟨b, off, rfl⟩
    obtain ⟨cs', hc, ht⟩ := hi k (by omega)
    obtain ⟨_, hlen, hat⟩ := World.cells?_some hc
    obtain ⟨ys, n', _, _, _, hyl, hfl⟩ := DataW.trod_array Tryd.underlying44 ht
    match cs', hlen, ys, hyl with
    | [v0, v1], _, [y0, y1], _ =>
      have g0 : DataW.trod enc Tryd.prog W 0 (fun _ => true) true n' 2 [v0] = some y0 := by have := hfl 0 (by omega); rw [cI64] at this; simpa using this
      have g1 : DataW.trod enc Tryd.prog W 0 (fun _ => true) true n' 2 [v1] = some y1 := by have := hfl 1 (by omega); rw [cI64] at this; simpa using this
      obtain ⟨z0, e0, _, _⟩ := DataW.trod_int Tryd.underlying2 g0
      obtain ⟨z1, e1, _, hw1⟩ := DataW.trod_int Tryd.underlying2 g1
      injection e0 with e0; injection e1 with e1
      subst e0 e1
      have k0 := hat 0 (by omega)
      have k1 := hat 1 (by omega)
      rw [Go.WideShapes.add_plain, Go.WideShapes.add_plain] at k0 k1
      exact ⟨b, off, z0, z1, rfl, lt_of_cell k0, k0, k1, bounds_i64' hw1⟩
end Go.Proofs.YtnhbkfmaaannnaaDoor
