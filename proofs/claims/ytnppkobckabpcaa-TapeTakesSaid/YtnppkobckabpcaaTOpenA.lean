/- Rows of what is asked that come in, opened. -/
import Derived.Test.YtnppkobckabpcaaTOpen
import Derived.Test.YtnppkobckabpcaaTOnce0
namespace Go.Proofs.Ytnppkobckabpcaa
open Go.ChangeShapes Go.WideShapes Go.ChangeAt Go.RowKit Go.Deep Go.Joins

theorem cells_ask : Try.prog.cellsOf 44 = 3 := by kernel_rfl
theorem open_asks {H : Type} {enc : TypeId × Value → H} {W : World} {A : Option Addr} {len cap : Nat} {d : DataW H} {p : List MemPlace}
    (h : DataW.Trod enc Try.prog W 0 (fun _ => true) true 41 (.slice A len cap) d p) :
    len ≤ cap ∧ cap ≤ maxLen ∧ ∃ l : List AskE, AsksAt W W.heap.size A len l := by
  obtain ⟨fuel, hf⟩ := h
  rcases open_slice Try.underlying41 hf with ⟨hcs, _⟩ | ⟨a, len', cap', m, q, D, Pl, hcs, _, hl, hm, hmm, _, hi⟩
  · have e : (Value.slice A len cap) = .slice none 0 0 := by simpa [Value.cells] using hcs
    cases e
    exact ⟨Nat.le_refl _, by unfold maxLen; omega, [], by simp, fun j hj => absurd hj (by omega)⟩
  · have e : (Value.slice A len cap) = .slice (some a) len' cap' := by simpa [Value.cells] using hcs
    cases e
    simp only [if_true] at hmm
    subst hmm
    rw [cells_ask] at hi
    refine ⟨hl, hm, ?_⟩
    have hall : ∀ k, k < len → ∃ x : AskE, ∃ g o, a = ⟨g, o, none⟩ ∧ g < W.heap.size ∧ x.M ≤ 9223372036854775807 ∧
        W.cell? ⟨g, o + k * 3, none⟩ = some (.int .i64 x.k) ∧ W.cell? ⟨g, o + k * 3 + 1, none⟩ = some (.int .u64 (x.N : Int)) ∧ W.cell? ⟨g, o + k * 3 + 2, none⟩ = some (.int .i64 x.M) := by
      intro k hk
      obtain ⟨b, off, rfl⟩ : ∃ b off, a = ⟨b, off, none⟩ := by
        obtain ⟨cs', hc, _⟩ := hi 0 (by omega)
        obtain ⟨_, hlen, hat⟩ := World.cells?_some hc
        have k0 := hat 0 (by omega)
        rw [List.getElem?_eq_getElem (by omega)] at k0
        obtain ⟨b, off, spot⟩ := a
        have hspot : spot = none := by simpa [Addr.add] using World.cell?_spot k0
        subst hspot
        exact ⟨b, off, rfl⟩
      obtain ⟨cs', hc, ht⟩ := hi k (by omega)
      obtain ⟨_, hlen, hat⟩ := World.cells?_some hc
      obtain ⟨ys, n', _, _, _, hyl, hfl⟩ := DataW.trod_struct Try.underlying44 ht
      match cs', hlen, ys, hyl with
      | [v0, v1, v2], _, [y0, y1, y2], _ =>
        have g0 : DataW.trod enc Try.prog W 0 (fun _ => true) true n' 3 [v0] = some y0 := by have := hfl 0 _ rfl; simpa [cells_int, cells_u64] using this
        have g1 : DataW.trod enc Try.prog W 0 (fun _ => true) true n' 27 [v1] = some y1 := by have := hfl 1 _ rfl; simpa [cells_int, cells_u64] using this
        have g2 : DataW.trod enc Try.prog W 0 (fun _ => true) true n' 3 [v2] = some y2 := by have := hfl 2 _ rfl; simpa [cells_int, cells_u64] using this
        obtain ⟨z0, e0, _, _⟩ := DataW.trod_int Try.underlying3 g0
        obtain ⟨z1, e1, _, w1⟩ := DataW.trod_int Try.underlying27 g1
        obtain ⟨z2, e2, _, w2⟩ := DataW.trod_int Try.underlying3 g2
        injection e0 with e0; injection e1 with e1; injection e2 with e2
        subst e0 e1 e2
        obtain ⟨u0, u1⟩ := bounds_u64' w1
        obtain ⟨i0, i1⟩ := bounds_i64' w2
        have k0 := hat 0 (by omega)
        have k1 := hat 1 (by omega)
        have k2 := hat 2 (by omega)
        rw [Go.WideShapes.add_plain, Go.WideShapes.add_plain] at k0 k1 k2
        refine ⟨⟨z0, z1.toNat, z2⟩, b, off, rfl, lt_of_cell k0, i1, k0, ?_, k2⟩
        show _ = some (Value.int .u64 ((z1.toNat : Nat) : Int)); rw [Int.toNat_of_nonneg u0]; exact k1
    obtain ⟨l, hlen, hp⟩ := choose_list len hall
    refine ⟨l, hlen, fun j hj => ?_⟩
    obtain ⟨x, e1, g, o, e2, hg, ok, c0, c1, c2⟩ := hp j hj
    exact ⟨g, o, x, e1, by rw [e2], hg, ok, c0, c1, c2⟩
end Go.Proofs.Ytnppkobckabpcaa
