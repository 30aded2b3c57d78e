/- Rows of civil times that come in, opened. -/
import Derived.Test.YtnhbkfmaaannnaaDoorEOpen
import Derived.Test.YtnhbkfmaaannnaaDoorETells
import Derived.Deep.Matrix
import Derived.Deep.Fields
namespace Go.Proofs.YtnhbkfmaaannnaaDoor
open Go.ChangeShapes Go.WideShapes Go.ChangeAt Go.WideMaps Go.WideElems Go.RowKit Go.Deep Go.Joins

theorem open_civils {H : Type} {enc : TypeId × Value → H} {W : World} {A : Option Addr} {len cap : Nat} {d : DataW H} {p : List MemPlace}
    (h : DataW.Trod enc Tryd.prog W 0 (fun _ => true) true 23 (.slice A len cap) d p) :
    len ≤ maxLen ∧ ArrC W W.heap.size A len := by
  obtain ⟨fuel, hf⟩ := h
  rcases open_slice Tryd.underlying23 hf with ⟨hcs, _⟩ | ⟨a, len', cap', m, q, D, Pl, hcs, _, hl, hm, hmm, _, hi⟩
  · have e : (Value.slice A len cap) = .slice none 0 0 := by simpa [Value.cells] using hcs
    cases e
    exact ⟨by unfold maxLen; omega, fun k hk => absurd hk (by omega)⟩
  · have e : (Value.slice A len cap) = .slice (some a) len' cap' := by simpa [Value.cells] using hcs
    cases e
    simp only [if_true] at hmm
    subst hmm
    rw [cCivil] at hi
    refine ⟨by omega, fun k hk => ?_⟩
    obtain ⟨b, off, rfl⟩ : ∃ b off, a = ⟨b, off, none⟩ := by
      obtain ⟨cs', hc, _⟩ := hi 0 (by omega)
      obtain ⟨_, hlen, hat⟩ := World.cells?_some hc
      have k0 := hat 0 (by omega)
      rw [List.getElem?_eq_getElem (by omega)] at k0
      obtain ⟨b, off, spot⟩ := a
      have hspot : spot = none := by simpa [Addr.add] using World.cell?_spot k0
      subst hspot
      exact ⟨b, off, rfl⟩
    obtain ⟨cs', hc, ht⟩ := hi k (by omega)
    obtain ⟨_, hlen, hat⟩ := World.cells?_some hc
    match cs', hlen with
    | [v0, v1, v2, v3, v4, v5], _ =>
      obtain ⟨y, m, dd, hh, mi, s, rfl, rfl, rfl, rfl, rfl, rfl⟩ := civ_cells ht
      have k0 := hat 0 (by omega)
      have k1 := hat 1 (by omega)
      have k2 := hat 2 (by omega)
      have k3 := hat 3 (by omega)
      have k4 := hat 4 (by omega)
      have k5 := hat 5 (by omega)
      rw [Go.WideShapes.add_plain, Go.WideShapes.add_plain] at k0 k1 k2 k3 k4 k5
      exact ⟨b, off, y, m, dd, hh, mi, s, rfl, lt_of_cell k0, k0, k1, k2, k3, k4, k5⟩
end Go.Proofs.YtnhbkfmaaannnaaDoor
