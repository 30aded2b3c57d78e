/- Rows of bytes, of numbers, and of items that come in, opened. -/
import Derived.Test.YtnppkobckabpcaaTLift
import Derived.Test.YtnppkobckabpcaaTBack
import Derived.Test.YtnppkobckabpcaaTPut
import Derived.Deep.Slices
import Derived.Deep.Fields
namespace Go.Proofs.Ytnppkobckabpcaa
open Go.ChangeShapes Go.WideShapes Go.ChangeAt Go.RowKit Go.Deep Go.Joins

theorem cells_u8 : Try.prog.cellsOf 5 = 1 := by kernel_rfl
theorem lt_of_cell {w : World} {b o : Nat} {v : Value} (h : w.cell? ⟨b, o, none⟩ = some v) : b < w.heap.size := by
  rcases Nat.lt_or_ge b w.heap.size with hl | hl
  · exact hl
  · unfold World.cell? at h; rw [Array.getElem?_eq_none (by simpa using hl)] at h; simp at h
theorem nthB_map (f : Nat → Nat) (n k : Nat) (h : k < n) : nthB ((List.range n).map f) k = f k := by
  unfold nthB; rw [List.getD_eq_getElem?_getD, List.getElem?_map, List.getElem?_range h]; rfl
theorem open_bytes {H : Type} {enc : TypeId × Value → H} {W : World} {v : Value} {fuel : Nat} {x : DataW H × List MemPlace}
    (hf : DataW.trod enc Try.prog W 0 (fun _ => true) true fuel 22 [v] = some x) :
    ∃ A n c bs, v = .slice A n c ∧ RowB W W.heap.size A n c bs := by
  rcases open_ints Try.underlying22 Try.underlying5 cells_u8 hf with ⟨hcs, _⟩ | ⟨a, len', cap', zs, hcs, _, hl, hm, hz, _, hcell, hwz⟩
  · have e : v = .slice none 0 0 := by simpa using hcs
    exact ⟨none, 0, 0, [], e, RowB.none_ _ _⟩
  · have e : v = .slice (some a) len' cap' := by simpa using hcs
    simp only [if_true] at hz
    have hwf : ∀ k, k < len' → 0 ≤ zs.getD k 0 ∧ zs.getD k 0 < 256 := fun k hk => by
      have hkz : k < zs.length := by omega
      exact bounds_u8' (hwz _ (by rw [List.getD_eq_getElem?_getD, List.getElem?_eq_getElem hkz]; exact List.getElem_mem hkz))
    refine ⟨some a, len', cap', (List.range len').map fun k => (zs.getD k 0).toNat, e, ⟨by simp, fun y hy => ?_, hl, hm, (fun e => by cases e), fun k hk => ?_⟩⟩
    · obtain ⟨k, hk, rfl⟩ := List.mem_map.1 hy
      have := hwf k (by simpa using hk)
      omega
    · obtain ⟨b, off, rfl, hc⟩ := ints_at hcell (by omega)
      have hck := hc k (by omega)
      refine ⟨b, off, rfl, lt_of_cell hck, ?_⟩
      rw [nthB_map _ _ _ hk, hck]
      unfold bv
      rw [Int.toNat_of_nonneg (hwf k hk).1]
theorem open_bytes_arg {H : Type} {enc : TypeId × Value → H} {W : World} {v : Value} {d : DataW H} {p : List MemPlace} (h : DataW.Trod enc Try.prog W 0 (fun _ => true) true 22 v d p) (hs : ∃ A n c, v = .slice A n c) :
    ∃ A n c bs, v = .slice A n c ∧ RowB W W.heap.size A n c bs := by
  obtain ⟨A, n, c, rfl⟩ := hs
  obtain ⟨fuel, hf⟩ := h
  exact open_bytes (by simpa [Value.cells] using hf)
theorem choose_list {α : Type} {P : Nat → α → Prop} : ∀ (n : Nat), (∀ k, k < n → ∃ x, P k x) → ∃ l : List α, l.length = n ∧ ∀ k, k < n → ∃ x, l[k]? = some x ∧ P k x
  | 0, _ => ⟨[], rfl, fun k hk => absurd hk (by omega)⟩
  | n + 1, h => by
    obtain ⟨l, hl, hp⟩ := choose_list n (fun k hk => h k (by omega))
    obtain ⟨x, hx⟩ := h n (by omega)
    refine ⟨l ++ [x], by simp [hl], fun k hk => ?_⟩
    by_cases hkn : k < n
    · obtain ⟨y, h1, h2⟩ := hp k hkn
      exact ⟨y, by rw [List.getElem?_append_left (by omega)]; exact h1, h2⟩
    · obtain rfl : k = n := by omega
      exact ⟨x, by rw [← hl]; simp, hx⟩
theorem cells_item : Try.prog.cellsOf 29 = 5 := by kernel_rfl
theorem cells_int : Try.prog.cellsOf 3 = 1 := by kernel_rfl
theorem cells_u64 : Try.prog.cellsOf 27 = 1 := by kernel_rfl
theorem cells_i64 : Try.prog.cellsOf 2 = 1 := by kernel_rfl
theorem cells_bool : Try.prog.cellsOf 4 = 1 := by kernel_rfl
theorem cells_bytes : Try.prog.cellsOf 22 = 1 := by kernel_rfl
theorem open_items {H : Type} {enc : TypeId × Value → H} {W : World} {A : Option Addr} {len cap : Nat} {d : DataW H} {p : List MemPlace}
    (h : DataW.Trod enc Try.prog W 0 (fun _ => true) true 23 (.slice A len cap) d p) :
    len ≤ cap ∧ cap ≤ maxLen ∧ ∀ n, n ≤ len → ∃ its : List It, ItemsAt W W.heap.size A n its := by
  obtain ⟨fuel, hf⟩ := h
  rcases open_slice Try.underlying23 hf with ⟨hcs, _⟩ | ⟨a, len', cap', m, q, D, Pl, hcs, _, hl, hm, hmm, _, hi⟩
  · have e : (Value.slice A len cap) = .slice none 0 0 := by simpa [Value.cells] using hcs
    cases e
    exact ⟨Nat.le_refl _, by unfold maxLen; omega, fun n hn => ⟨[], by simp; omega, fun j hj => absurd hj (by omega)⟩⟩
  · have e : (Value.slice A len cap) = .slice (some a) len' cap' := by simpa [Value.cells] using hcs
    cases e
    simp only [if_true] at hmm
    subst hmm
    rw [cells_item] at hi
    refine ⟨hl, hm, fun n hn => ?_⟩
    have hall : ∀ k, k < n → ∃ x : It, ∃ g o, a = ⟨g, o, none⟩ ∧ g < W.heap.size ∧ It.Ok W W.heap.size x ∧
        W.cell? ⟨g, o + k * 5, none⟩ = some (.int .i64 x.k) ∧ W.cell? ⟨g, o + k * 5 + 1, none⟩ = some (.int .u64 (x.N : Int)) ∧ W.cell? ⟨g, o + k * 5 + 2, none⟩ = some (.int .i64 x.I) ∧
        W.cell? ⟨g, o + k * 5 + 3, none⟩ = some (.bool x.b) ∧ W.cell? ⟨g, o + k * 5 + 4, none⟩ = some (.slice x.B x.m x.d) := by
      intro k hk
      obtain ⟨b, off, rfl⟩ : ∃ b off, a = ⟨b, off, none⟩ := by
        obtain ⟨cs', hc, _⟩ := hi 0 (by omega)
        obtain ⟨_, hlen, hat⟩ := World.cells?_some hc
        have k0 := hat 0 (by omega)
        rw [List.getElem?_eq_getElem (by omega)] at k0
        obtain ⟨b, off, spot⟩ := a
        have hspot : spot = none := by simpa [Addr.add] using World.cell?_spot k0
        subst hspot
        exact ⟨b, off, rfl⟩
      obtain ⟨cs', hc, ht⟩ := hi k (by omega)
      obtain ⟨_, hlen, hat⟩ := World.cells?_some hc
      obtain ⟨ys, n', _, _, _, hyl, hfl⟩ := DataW.trod_struct Try.underlying29 ht
      match cs', hlen, ys, hyl with
      | [v0, v1, v2, v3, v4], _, [y0, y1, y2, y3, y4], _ =>
        have g0 : DataW.trod enc Try.prog W 0 (fun _ => true) true n' 3 [v0] = some y0 := by have := hfl 0 _ rfl; simpa [cells_int, cells_u64, cells_i64, cells_bool, cells_bytes] using this
        have g1 : DataW.trod enc Try.prog W 0 (fun _ => true) true n' 27 [v1] = some y1 := by have := hfl 1 _ rfl; simpa [cells_int, cells_u64, cells_i64, cells_bool, cells_bytes] using this
        have g2 : DataW.trod enc Try.prog W 0 (fun _ => true) true n' 2 [v2] = some y2 := by have := hfl 2 _ rfl; simpa [cells_int, cells_u64, cells_i64, cells_bool, cells_bytes] using this
        have g3 : DataW.trod enc Try.prog W 0 (fun _ => true) true n' 4 [v3] = some y3 := by have := hfl 3 _ rfl; simpa [cells_int, cells_u64, cells_i64, cells_bool, cells_bytes] using this
        have g4 : DataW.trod enc Try.prog W 0 (fun _ => true) true n' 22 [v4] = some y4 := by have := hfl 4 _ rfl; simpa [cells_int, cells_u64, cells_i64, cells_bool, cells_bytes] using this
        obtain ⟨z0, e0, _, _⟩ := DataW.trod_int Try.underlying3 g0
        obtain ⟨z1, e1, _, w1⟩ := DataW.trod_int Try.underlying27 g1
        obtain ⟨z2, e2, _, w2⟩ := DataW.trod_int Try.underlying2 g2
        obtain ⟨z3, e3, _⟩ := DataW.trod_bool Try.underlying4 g3
        obtain ⟨A4, n4, c4, bs, rfl, hrow⟩ := open_bytes g4
        injection e0 with e0; injection e1 with e1; injection e2 with e2; injection e3 with e3
        subst e0 e1 e2 e3
        obtain ⟨u0, u1⟩ := bounds_u64' w1
        obtain ⟨i0, i1⟩ := bounds_i64' w2
        have k0 := hat 0 (by omega)
        have k1 := hat 1 (by omega)
        have k2 := hat 2 (by omega)
        have k3 := hat 3 (by omega)
        have k4 := hat 4 (by omega)
        rw [Go.WideShapes.add_plain, Go.WideShapes.add_plain] at k0 k1 k2 k3 k4
        refine ⟨⟨z0, z1.toNat, z2, z3, A4, n4, c4, bs⟩, b, off, rfl, lt_of_cell k0, ⟨?_, i0, i1, hrow⟩, k0, ?_, k2, k3, k4⟩
        · show z1.toNat < _; omega
        · show _ = some (Value.int .u64 ((z1.toNat : Nat) : Int)); rw [Int.toNat_of_nonneg u0]; exact k1
    obtain ⟨its, hlen, hp⟩ := choose_list n hall
    refine ⟨its, hlen, fun j hj => ?_⟩
    obtain ⟨x, e1, g, o, e2, hg, ok, c0, c1, c2, c3, c4⟩ := hp j hj
    exact ⟨g, o, x, e1, by rw [e2], hg, ok, c0, c1, c2, c3, c4⟩
theorem ItemsAt.few {w : World} {B0 n m : Nat} {L : Option Addr} {its : List It} (h : ItemsAt w B0 L n its) (hm : m ≤ n) : ItemsAt w B0 L m (its.take m) :=
  ⟨by rw [List.length_take, h.len]; omega, fun j hj => by
    obtain ⟨g, o, x, e1, r⟩ := h.at_ j (by omega)
    exact ⟨g, o, x, by rw [List.getElem?_take, if_pos hj]; exact e1, r⟩⟩
end Go.Proofs.Ytnppkobckabpcaa
