/- Bytes, and rows of bytes, that come in, opened. -/
import Derived.Test.YtcfeijphiallfaaCLift
import Derived.Deep.Slices
import Derived.Deep.Fields
namespace Go.Proofs.Ytcfeijphiallfaa
open Go.ChangeShapes Go.WideShapes Go.ChangeAt Go.RowKit Go.Deep Go.Joins

theorem cells_u8 : Try.prog.cellsOf 5 = 1 := by kernel_rfl
theorem lt_of_cell {w : World} {b o : Nat} {v : Value} (h : w.cell? ⟨b, o, none⟩ = some v) : b < w.heap.size := by
  rcases Nat.lt_or_ge b w.heap.size with hl | hl
  · exact hl
  · unfold World.cell? at h; rw [Array.getElem?_eq_none (by simpa using hl)] at h; simp at h
theorem nthB_map (f : Nat → Nat) (n k : Nat) (h : k < n) : nthB ((List.range n).map f) k = f k := by
  unfold nthB; rw [List.getD_eq_getElem?_getD, List.getElem?_map, List.getElem?_range h]; rfl
theorem open_bytes {H : Type} {enc : TypeId × Value → H} {W : World} {v : Value} {fuel : Nat} {x : DataW H × List MemPlace}
    (hf : DataW.trod enc Try.prog W 0 (fun _ => true) true fuel 24 [v] = some x) :
    ∃ A n c bs, v = .slice A n c ∧ RowB W W.heap.size A n c bs := by
  rcases open_ints Try.underlying24 Try.underlying5 cells_u8 hf with ⟨hcs, _⟩ | ⟨a, len', cap', zs, hcs, _, hl, hm, hz, _, hcell, hwz⟩
  · have e : v = .slice none 0 0 := by simpa using hcs
    exact ⟨none, 0, 0, [], e, RowB.none_ _ _⟩
  · have e : v = .slice (some a) len' cap' := by simpa using hcs
    simp only [if_true] at hz
    have hwf : ∀ k, k < len' → 0 ≤ zs.getD k 0 ∧ zs.getD k 0 < 256 := fun k hk => by
      have hkz : k < zs.length := by omega
      exact bounds_u8' (hwz _ (by rw [List.getD_eq_getElem?_getD, List.getElem?_eq_getElem hkz]; exact List.getElem_mem hkz))
    refine ⟨some a, len', cap', (List.range len').map fun k => (zs.getD k 0).toNat, e, ⟨by simp, fun y hy => ?_, hl, hm, (fun e => by cases e), fun k hk => ?_⟩⟩
    · obtain ⟨k, hk, rfl⟩ := List.mem_map.1 hy
      have := hwf k (by simpa using hk)
      omega
    · obtain ⟨b, off, rfl, hc⟩ := ints_at hcell (by omega)
      have hck := hc k (by omega)
      refine ⟨b, off, rfl, lt_of_cell hck, ?_⟩
      rw [nthB_map _ _ _ hk, hck]
      unfold bv
      rw [Int.toNat_of_nonneg (hwf k hk).1]
theorem open_bytes_arg {H : Type} {enc : TypeId × Value → H} {W : World} {v : Value} {d : DataW H} {p : List MemPlace} (h : DataW.Trod enc Try.prog W 0 (fun _ => true) true 24 v d p) (hs : ∃ A n c, v = .slice A n c) :
    ∃ A n c bs, v = .slice A n c ∧ RowB W W.heap.size A n c bs := by
  obtain ⟨A, n, c, rfl⟩ := hs
  obtain ⟨fuel, hf⟩ := h
  exact open_bytes (by simpa [Value.cells] using hf)
theorem choose_list {α : Type} {P : Nat → α → Prop} : ∀ (n : Nat), (∀ k, k < n → ∃ x, P k x) → ∃ l : List α, l.length = n ∧ ∀ k, k < n → ∃ x, l[k]? = some x ∧ P k x
  | 0, _ => ⟨[], rfl, fun k hk => absurd hk (by omega)⟩
  | n + 1, h => by
    obtain ⟨l, hl, hp⟩ := choose_list n (fun k hk => h k (by omega))
    obtain ⟨x, hx⟩ := h n (by omega)
    refine ⟨l ++ [x], by simp [hl], fun k hk => ?_⟩
    by_cases hkn : k < n
    · obtain ⟨y, h1, h2⟩ := hp k hkn
      exact ⟨y, by rw [List.getElem?_append_left (by omega)]; exact h1, h2⟩
    · obtain rfl : k = n := by omega
      exact ⟨x, by rw [← hl]; simp, hx⟩
theorem bounds_u32' {a : Int} (h : (Lit.int .u32 a).wf = true) : 0 ≤ a ∧ a < 4294967296 := by
  simp [Lit.wf, IntKind.min, IntKind.max, IntKind.bits, IntKind.signed] at h; omega
end Go.Proofs.Ytcfeijphiallfaa
