/- Rows of bytes that come in, opened. -/
import Derived.Test.YtcfeijphiallfaaCArgs
namespace Go.Proofs.Ytcfeijphiallfaa
open Go.ChangeShapes Go.WideShapes Go.ChangeAt Go.RowKit Go.Deep Go.Joins

theorem cells_bytes : Try.prog.cellsOf 24 = 1 := by kernel_rfl
/-- Rows of bytes that can be read. -/
def RowsB (w : World) (B : Nat) (A : Option Addr) (n : Nat) : Prop := ∀ k, k < n → ∃ g o A' m c bs, A = some ⟨g, o, none⟩ ∧ g < B ∧ w.cell? ⟨g, o + k, none⟩ = some (.slice A' m c) ∧ RowB w B A' m c bs
theorem RowsB.below {w w' : World} {B n : Nat} {A : Option Addr} (h : RowsB w B A n) (hb : Below B w w') : RowsB w' B A n := fun k hk => by
  obtain ⟨g, o, A', m, c, bs, e, hg, hc, hr⟩ := h k hk
  exact ⟨g, o, A', m, c, bs, e, hg, ((below_cell hb).1 g _ hg).trans hc, hr.below hb⟩
theorem open_rows {H : Type} {enc : TypeId × Value → H} {W : World} {A : Option Addr} {len cap : Nat} {d : DataW H} {p : List MemPlace}
    (h : DataW.Trod enc Try.prog W 0 (fun _ => true) true 22 (.slice A len cap) d p) :
    len ≤ cap ∧ cap ≤ maxLen ∧ RowsB W W.heap.size A len := by
  obtain ⟨fuel, hf⟩ := h
  rcases open_slice1 Try.underlying22 cells_bytes hf with ⟨hcs, _⟩ | ⟨a, len', cap', m, n', V, D, Pl, hcs, _, hl, hm, hmm, _, hi⟩
  · have e : (Value.slice A len cap) = .slice none 0 0 := by simpa [Value.cells] using hcs
    cases e
    exact ⟨Nat.le_refl _, by unfold maxLen; omega, fun k hk => absurd hk (by omega)⟩
  · have e : (Value.slice A len cap) = .slice (some a) len' cap' := by simpa [Value.cells] using hcs
    cases e
    simp only [if_true] at hmm
    subst hmm
    refine ⟨hl, hm, fun k hk => ?_⟩
    obtain ⟨b, off, rfl⟩ : ∃ b off, a = ⟨b, off, none⟩ := by
      have k0 := (hi 0 (by omega)).1
      obtain ⟨b, off, spot⟩ := a
      have hspot : spot = none := by simpa [Addr.add] using World.cell?_spot k0
      subst hspot
      exact ⟨b, off, rfl⟩
    obtain ⟨h1, h2⟩ := hi k (by omega)
    obtain ⟨A', n2, c2, bs, e, hr⟩ := open_bytes h2
    rw [add_none, e] at h1
    exact ⟨b, off, A', n2, c2, bs, rfl, lt_of_cell h1, h1, hr⟩
end Go.Proofs.Ytcfeijphiallfaa
