/- A row that comes in: opened. -/
import Derived.Test.YthghcffibljclaaDoorRVOpen
namespace Go.Proofs.YthghcffibljclaaDoor
open Go.ChangeShapes Go.WideShapes Go.ChangeAt Go.WideMaps Go.WideElems Go.RowKit Go.Joins

set_option maxRecDepth 100000 in
theorem open_row {H : Type} {enc : TypeId × Value → H} {W : World} {b0 : Nat} {v : Value} {d : DataW H} {p : List MemPlace}
    (hv : Value.okWide Tryd.prog W .any b0 33 v) (h : DataW.Trod enc Tryd.prog W 0 (fun _ => true) true 33 v d p) : ∃ (r : RowZ) (u : Value), r.Fit ∧ QR W u r.q ∧ v = rowV r u := by
  obtain ⟨cs, rfl, hsz⟩ := okWide_struct Tryd.underlying33 hv
  rw [cRow] at hsz
  obtain ⟨l⟩ := cs
  match l, hsz with
  | [v0, v1, v2, v3, v4, v5, v6, v7, v8, v9, v10, v11, v12, v13, v14, v15, v16], _ =>
    obtain ⟨fuel, hf⟩ := h
    obtain ⟨m, hm, e⟩ := row_cells hf
    exact ⟨m.1, m.2, hm.1, hm.2, by unfold rowV; rw [e]; rfl⟩
theorem bounds_i64x {a : Int} (h : (Lit.int .i64 a).wf = true) : -9223372036854775808 ≤ a ∧ a ≤ 9223372036854775807 := by
  simp [Lit.wf, IntKind.min, IntKind.max, IntKind.bits, IntKind.signed] at h
  omega
theorem open_q1 {H : Type} {enc : TypeId × Value → H} {W : World} {A : Option Addr} {len cap : Nat} {d : DataW H} {p : List MemPlace}
    (h : DataW.Trod enc Tryd.prog W 0 (fun _ => true) true 31 (.slice A len cap) d p) : ∃ q : List Int, QR W (.slice A len cap) q := by
  obtain ⟨fuel, hf⟩ := h
  exact open_q (by simpa [Value.cells] using hf)
end Go.Proofs.YthghcffibljclaaDoor
