/- Rows of rows, and of bounds, that come in, opened; MaskMakes at what comes in. -/
import Derived.Test.YtkakncgdhangpaaDoorOpenZ
import Derived.Test.YtkakncgdhangpaaDoorMakesW
import Derived.Deep.Matrix
import Derived.Deep.Fields
import Derived.Lib.SmallJoins
namespace Go.Proofs.YtkakncgdhangpaaDoor
open Go.ChangeShapes Go.WideShapes Go.ChangeAt Go.WideMaps Go.WideElems Go.RowKit Go.Deep Go.Joins

theorem cells_ints : Tryd.prog.cellsOf 25 = 1 := by kernel_rfl
theorem cells_bounds : Tryd.prog.cellsOf 36 = 3 := by kernel_rfl
theorem plain_at {w : World} {a : Addr} {n : Nat} (h : ∀ k, k < n → ∃ v, w.cell? (a.add k) = some v) (hp : 0 < n) : ∃ b off, a = ⟨b, off, none⟩ := by
  obtain ⟨b, off, spot⟩ := a
  obtain ⟨v, hv⟩ := h 0 hp
  have hspot : spot = none := by simpa [Addr.add] using World.cell?_spot hv
  subst hspot
  exact ⟨b, off, rfl⟩
theorem open_rows {H : Type} {enc : TypeId × Value → H} {W : World} {A : Option Addr} {len cap : Nat} {d : DataW H} {p : List MemPlace}
    (h : DataW.Trod enc Tryd.prog W 0 (fun _ => true) true 22 (.slice A len cap) d p) :
    len ≤ cap ∧ cap ≤ maxLen ∧ RowsIn W W.heap.size A len := by
  obtain ⟨fuel, hf⟩ := h
  rcases open_int_rows Tryd.underlying22 Tryd.underlying25 Tryd.underlying3 cells_ints cells_int hf with ⟨hcs, _⟩ | ⟨a, len', cap', R, L, C, Z, hcs, _, hl, hm, _, hrow⟩
  · have e : (Value.slice A len cap) = .slice none 0 0 := by simpa [Value.cells] using hcs
    cases e
    exact ⟨Nat.le_refl _, by unfold maxLen; omega, fun k hk => absurd hk (by omega)⟩
  · have e : (Value.slice A len cap) = .slice (some a) len' cap' := by simpa [Value.cells] using hcs
    cases e
    refine ⟨hl, hm, fun k hk => ?_⟩
    obtain ⟨b, off, rfl⟩ := plain_at (n := cap) (fun j hj => ⟨_, (hrow j hj).1⟩) (by omega)
    obtain ⟨h1, h2, h3, hz, _, h4, h5⟩ := hrow k (by omega)
    rw [Go.WideShapes.add_plain] at h1
    refine ⟨b, off, _, rfl, lt_of_cell h1, h1, R k, L k, C k, Z k, rfl, h2, h3, h4, fun c hc => ?_⟩
    cases hR : R k with
    | none => have := h4 hR; omega
    | some a' =>
      have hcells := (h5 a' hR).2
      obtain ⟨b', off', rfl⟩ := plain_at (n := C k) (fun j hj => ⟨_, hcells j hj⟩) (by omega)
      have hc' := hcells c (by omega)
      rw [Go.WideShapes.add_plain] at hc'
      exact ⟨b', off', rfl, lt_of_cell hc', hc'⟩
theorem open_spans {H : Type} {enc : TypeId × Value → H} {W : World} {A : Option Addr} {len cap : Nat} {d : DataW H} {p : List MemPlace}
    (h : DataW.Trod enc Tryd.prog W 0 (fun _ => true) true 23 (.slice A len cap) d p) :
    len ≤ cap ∧ cap ≤ maxLen ∧ SpansIn W W.heap.size A len := by
  obtain ⟨fuel, hf⟩ := h
  rcases open_slice Tryd.underlying23 hf with ⟨hcs, _⟩ | ⟨a, len', cap', m, q, D, Pl, hcs, _, hl, hm, hmm, _, hi⟩
  · have e : (Value.slice A len cap) = .slice none 0 0 := by simpa [Value.cells] using hcs
    cases e
    exact ⟨Nat.le_refl _, by unfold maxLen; omega, fun k hk => absurd hk (by omega)⟩
  · have e : (Value.slice A len cap) = .slice (some a) len' cap' := by simpa [Value.cells] using hcs
    cases e
    simp only [if_true] at hmm
    subst hmm
    rw [cells_bounds] at hi
    refine ⟨hl, hm, fun k hk => ?_⟩
    obtain ⟨b, off, rfl⟩ : ∃ b off, a = ⟨b, off, none⟩ := by
      obtain ⟨cs', hc, _⟩ := hi 0 (by omega)
      obtain ⟨_, hlen, hat⟩ := World.cells?_some hc
      have k0 := hat 0 (by omega)
      rw [List.getElem?_eq_getElem (by omega)] at k0
      obtain ⟨b, off, spot⟩ := a
      have hspot : spot = none := by simpa [Addr.add] using World.cell?_spot k0
      subst hspot
      exact ⟨b, off, rfl⟩
    obtain ⟨cs', hc, ht⟩ := hi k (by omega)
    obtain ⟨_, hlen, hat⟩ := World.cells?_some hc
    obtain ⟨ys, n', _, _, _, hyl, hfl⟩ := DataW.trod_struct Tryd.underlying36 ht
    match cs', hlen, ys, hyl with
    | [v0, v1, v2], _, [y0, y1, y2], _ =>
      have g0 : DataW.trod enc Tryd.prog W 0 (fun _ => true) true n' 3 [v0] = some y0 := by have := hfl 0 _ rfl; simpa [cells_int] using this
      have g1 : DataW.trod enc Tryd.prog W 0 (fun _ => true) true n' 3 [v1] = some y1 := by have := hfl 1 _ rfl; simpa [cells_int] using this
      have g2 : DataW.trod enc Tryd.prog W 0 (fun _ => true) true n' 3 [v2] = some y2 := by have := hfl 2 _ rfl; simpa [cells_int] using this
      obtain ⟨z0, e0, _, _⟩ := DataW.trod_int Tryd.underlying3 g0
      obtain ⟨z1, e1, _, _⟩ := DataW.trod_int Tryd.underlying3 g1
      obtain ⟨z2, e2, _, w2⟩ := DataW.trod_int Tryd.underlying3 g2
      injection e0 with e0; injection e1 with e1; injection e2 with e2
      subst e0 e1 e2
      have k0 := hat 0 (by omega)
      have k1 := hat 1 (by omega)
      have k2 := hat 2 (by omega)
      rw [Go.WideShapes.add_plain, Go.WideShapes.add_plain] at k0 k1 k2
      exact ⟨b, off, z0, z1, z2, rfl, lt_of_cell k0, k0, k1, k2, (bounds_i64 w2).2⟩
theorem makes_walk {H : Type} {enc : TypeId × Value → H} {A B : Option Addr} {n c m d : Nat} {d0 d1 : DataW H} {p0 p1 : List MemPlace} (W : World)
    (h0 : DataW.Trod enc Tryd.prog W 0 (fun _ => true) true 22 (.slice A n c) d0 p0) (h1 : DataW.Trod enc Tryd.prog W 0 (fun _ => true) true 23 (.slice B m d) d1 p1) (hT : Tab W) (hg : 0 < W.heap.size) :
    Calls Tryd.prog 3 #[.slice A n c, .slice B m d] W fun e w' => e = .returned (.bool true) ∧ Below W.heap.size W w' := by
  obtain ⟨a1, a2, ha⟩ := open_rows h0
  obtain ⟨b1, b2, hz⟩ := open_spans h1
  exact makes_main A B n c m d W hT hg (by omega) (by omega) ha hz
end Go.Proofs.YtkakncgdhangpaaDoor
