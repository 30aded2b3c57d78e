/- A row with a queue of its own memory: walked. -/
import Derived.Test.YthghcffibljclaaDoorRVTimes
import Derived.Test.YthghcffibljclaaDoorRVRowF
namespace Go.Proofs.YthghcffibljclaaDoor
open Go.RowKit

/-- Values stored over a part of a block. -/
theorem store_at {W : World} {g o : Nat} {t ty : TypeId} {cs : Array Value} {vs : List Value} (h : D.Box W g t cs) (hfit : o + vs.length ≤ cs.size) (hs : (Tryd.prog.info? ty).map (·.size) = some vs.length) (h1 : ∀ v ∈ vs, v.oneCell' = true) :
    StoreIs W ty g o (.agg vs.toArray) (W.setRow g (cs.toList.take o ++ vs ++ cs.toList.drop (o + vs.length)).toArray) := by
  have := run_storeCells_at Tryd.prog g o t vs 0 cs W h (by simpa using hfit) h1
  simp only [Nat.add_zero] at this
  cases hq : Tryd.prog.info? ty with
  | none => simp [hq] at hs
  | some i =>
    have hi : vs.toArray.size = i.size := by simp [hq] at hs; simp [hs]
    unfold StoreIs
    simp [Instr.storeAt, Instr.sureAddr, storeVar, sizeOf, typeInfo, hq, Value.cells, hi, this]
theorem store_all {W : World} {g : Nat} {t ty : TypeId} {cs : Array Value} {vs : List Value} (h : D.Box W g t cs) (hfit : vs.length = cs.size) (hs : (Tryd.prog.info? ty).map (·.size) = some vs.length) (h1 : ∀ v ∈ vs, v.oneCell' = true) :
    StoreIs W ty g 0 (.agg vs.toArray) (W.setRow g vs.toArray) := by
  have := store_at (o := 0) h (by omega) hs h1
  rw [List.take_zero, List.nil_append, Nat.zero_add, List.drop_of_length_le (by rw [Array.length_toList]; omega), List.append_nil] at this
  exact this
theorem rowC_one {r : RowZ} {v : Value} (hf : r.Fit) (hv : v.oneCell' = true) : ∀ u ∈ rowC r v, u.oneCell' = true := by
  obtain ⟨⟨n, o, L, t, ov, ca, re⟩, pa, nx, num, due, tr, q⟩ := r
  obtain ⟨⟨_, _, hl5⟩, _⟩ := hf
  obtain ⟨a, b, c, d, e, rfl⟩ := list_five hl5
  intro u hu
  simp only [rowC_all, List.mem_cons, List.not_mem_nil, or_false] at hu
  rcases hu with rfl | rfl | rfl | rfl | rfl | rfl | rfl | rfl | rfl | rfl | rfl | rfl | rfl | rfl | rfl | rfl | rfl <;> first | exact hv | rfl
theorem rowC_put {r : RowZ} (hf : r.Fit) (v y : Value) : (rowC r v).toArray.setIfInBounds 16 y = (rowC r y).toArray := by
  obtain ⟨⟨n, o, L, t, ov, ca, re⟩, pa, nx, num, due, tr, q⟩ := r
  obtain ⟨⟨_, _, hl5⟩, _⟩ := hf
  obtain ⟨a, b, c, d, e, rfl⟩ := list_five hl5
  rfl
abbrev zeroC : List Value := [.int .u32 0, .bool false, .int .u64 0, .int .u64 0, .int .u64 0, .int .u64 0, .int .u64 0, .int .i64 0, .int .i64 0, .int .i64 0, .int .i64 0, .bool false, .int .i64 0, .int .u64 0, .int .i64 0, .int .i64 0, .slice none 0 0]
theorem own_row {w w' : World} {base p : Nat} {e : TypeId} {size n : Nat} {v : Value} {xs : List Value} (h : w.ownsRow base e size v n xs) (hp : p < base) (cs : Array Value) (he : w' = w.setRow p cs) : w'.ownsRow base e size v n xs := by
  subst he
  refine ⟨h.1, ?_⟩
  rcases h.2 with h2 | ⟨g, cap, cur, hv, hg, hh, r⟩
  · exact .inl h2
  · exact .inr ⟨g, cap, cur, hv, hg, (setRow_other w p g cs (by omega)).trans hh, r⟩
end Go.Proofs.YthghcffibljclaaDoor
