/- Whether tables are the same: walked, where they are. -/
import Derived.Test.YthghcffibljclaaDoorR6
import Derived.Test.YthghcffibljclaaDoorRVOwn
namespace Go.Proofs.YthghcffibljclaaDoor
open Go.RowKit

theorem qr_arr {w : World} {A : Option Addr} {q : List Int} (h : Reads w A (q.map int1)) : ArrT w A q.length q :=
  ⟨rfl, fun i x hx => by
    obtain ⟨b, o, e, hl, hc⟩ := h i (int1 x) (by rw [List.getElem?_map, hx]; rfl)
    exact ⟨b, o, e, hl, hc⟩⟩
theorem row_going {W : World} {g : Nat} {r : RowZ} {v : Value} (hf : r.Fit) (h : W.rangeAt g 0 (rowC r v)) : LoadIs W 30 g 13 (.agg #[.int .u64 r.num, .int .i64 r.due, .int .i64 r.tr]) := by
  obtain ⟨d, hd, hr⟩ := und_going
  refine run_loadAt_mid W g 13 30 [.int .u64 r.num, .int .i64 r.due, .int .i64 r.tr] d (fun j u hj => ?_) hd hr (by rw [size_going]; rfl)
  obtain ⟨⟨n, o, L, t, ov, ca, re⟩, pa, nx, num, due, tr, q⟩ := r
  obtain ⟨⟨_, _, hl5⟩, _⟩ := hf
  obtain ⟨a, b, c, d', e, rfl⟩ := list_five hl5
  have hj3 := (List.getElem?_eq_some_iff.1 hj).1
  simp only [List.length_cons, List.length_nil] at hj3
  have hc : j = 0 ∨ j = 1 ∨ j = 2 := by omega
  rcases hc with rfl | rfl | rfl
  · have := h 13 u hj; rwa [Nat.zero_add] at this
  · have := h 14 u hj; rwa [Nat.zero_add] at this
  · have := h 15 u hj; rwa [Nat.zero_add] at this
end Go.Proofs.YthghcffibljclaaDoor
