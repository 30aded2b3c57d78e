/- A row of acts that comes in: opened. -/
import Derived.Test.YthghcffibljclaaDoorRXOpen
import Derived.Test.YthghcffibljclaaDoorRXActs
namespace Go.Proofs.YthghcffibljclaaDoor
open Go.ChangeShapes Go.WideShapes Go.ChangeAt Go.WideMaps Go.WideElems Go.RowKit Go.Deep Go.Joins

theorem cAct13 : Tryd.prog.cellsOf 43 = 6 := by kernel_rfl
theorem cU64a : Tryd.prog.cellsOf 23 = 1 := by kernel_rfl
theorem cInta : Tryd.prog.cellsOf 3 = 1 := by kernel_rfl
theorem cI64a : Tryd.prog.cellsOf 2 = 1 := by kernel_rfl
theorem cBoola : Tryd.prog.cellsOf 4 = 1 := by kernel_rfl
theorem acts_from {P : Nat → ActZ → Prop} : ∀ n : Nat, (∀ k, k < n → ∃ x, P k x) → ∃ l : List ActZ, l.length = n ∧ ∀ (k : Nat) (x : ActZ), l[k]? = some x → P k x
  | 0, _ => ⟨[], rfl, fun k x h => by simp at h⟩
  | n + 1, h => by
    obtain ⟨l, hl, hp⟩ := acts_from n (fun k hk => h k (by omega))
    obtain ⟨x, hx⟩ := h n (by omega)
    refine ⟨l ++ [x], by simp [hl], fun k y hk => ?_⟩
    rcases Nat.lt_or_ge k n with hlt | hge
    · rw [List.getElem?_append_left (by omega)] at hk
      exact hp k y hk
    · have hkl := (List.getElem?_eq_some_iff.1 hk).1
      rw [List.length_append, List.length_singleton, hl] at hkl
      obtain rfl : k = n := by omega
      rw [List.getElem?_append_right (by omega), hl, Nat.sub_self] at hk
      simp at hk
      subst hk
      exact hx
theorem act_cells {H : Type} {enc : TypeId × Value → H} {W : World} {fuel : Nat} {v0 v1 v2 v3 v4 v5 : Value} {x : DataW H × List MemPlace}
    (h : DataW.trod enc Tryd.prog W 0 (fun _ => true) true fuel 43 [v0, v1, v2, v3, v4, v5] = some x) : ∃ a : ActZ, [v0, v1, v2, v3, v4, v5] = actC a := by
  obtain ⟨ys, n', _, _, _, hyl, hfl⟩ := DataW.trod_struct Tryd.underlying43 h
  match ys, hyl with
  | [y0, y1, y2, y3, y4, y5], _ =>
    have g0 : DataW.trod enc Tryd.prog W 0 (fun _ => true) true n' 3 [v0] = some y0 := by have := hfl 0 _ rfl; simpa [cInta] using this
    have g1 : DataW.trod enc Tryd.prog W 0 (fun _ => true) true n' 2 [v1] = some y1 := by have := hfl 1 _ rfl; simpa [cI64a, cInta] using this
    have g2 : DataW.trod enc Tryd.prog W 0 (fun _ => true) true n' 23 [v2] = some y2 := by have := hfl 2 _ rfl; simpa [cI64a, cInta, cU64a] using this
    have g3 : DataW.trod enc Tryd.prog W 0 (fun _ => true) true n' 23 [v3] = some y3 := by have := hfl 3 _ rfl; simpa [cI64a, cInta, cU64a] using this
    have g4 : DataW.trod enc Tryd.prog W 0 (fun _ => true) true n' 4 [v4] = some y4 := by have := hfl 4 _ rfl; simpa [cI64a, cInta, cU64a, cBoola] using this
    have g5 : DataW.trod enc Tryd.prog W 0 (fun _ => true) true n' 4 [v5] = some y5 := by have := hfl 5 _ rfl; simpa [cI64a, cInta, cU64a, cBoola] using this
    obtain ⟨z0, e0, _, _⟩ := DataW.trod_int Tryd.underlying3 g0
    obtain ⟨z1, e1, _, _⟩ := DataW.trod_int Tryd.underlying2 g1
    obtain ⟨z2, e2, _, _⟩ := DataW.trod_int Tryd.underlying23 g2
    obtain ⟨z3, e3, _, _⟩ := DataW.trod_int Tryd.underlying23 g3
    obtain ⟨z4, e4, _⟩ := DataW.trod_bool Tryd.underlying4 g4
    obtain ⟨z5, e5, _⟩ := DataW.trod_bool Tryd.underlying4 g5
    injection e0 with e0; injection e1 with e1; injection e2 with e2; injection e3 with e3; injection e4 with e4; injection e5 with e5
    subst e0 e1 e2 e3 e4 e5
    exact ⟨⟨z0, z1, z2, z3, z4, z5⟩, rfl⟩
set_option maxRecDepth 100000 in
theorem open_acts {H : Type} {enc : TypeId × Value → H} {W : World} {A : Option Addr} {len cap : Nat} {d : DataW H} {p : List MemPlace}
    (h : DataW.Trod enc Tryd.prog W 0 (fun _ => true) true 34 (.slice A len cap) d p) : ∃ l : List ActZ, ActsR W A len cap l := by
  obtain ⟨fuel, hf⟩ := h
  rcases open_slice Tryd.underlying34 hf with ⟨hcs, _⟩ | ⟨a, len', cap', m, q, D, Pl, hcs, _, hl, hm, hmm, _, hi⟩
  · have e : (Value.slice A len cap) = .slice none 0 0 := by simpa [Value.cells] using hcs
    cases e
    exact ⟨[], rfl, by omega, by unfold maxLen; omega, fun k x hk => by simp at hk⟩
  · have e : (Value.slice A len cap) = .slice (some a) len' cap' := by simpa [Value.cells] using hcs
    cases e
    simp only [if_true] at hmm
    subst hmm
    rw [cAct13] at hi
    obtain ⟨l, hll, hls⟩ := acts_from (P := fun k x => ∃ b o, a = ⟨b, o, none⟩ ∧ ∀ j u, (actC x)[j]? = some u → W.cell? ⟨b, o + k * 6 + j, none⟩ = some u) len (fun k hk => by
      obtain ⟨cs', hc, ht⟩ := hi k (by omega)
      obtain ⟨b, off, rfl⟩ : ∃ b off, a = ⟨b, off, none⟩ := by
        obtain ⟨cs', hc, _⟩ := hi 0 (by omega)
        rw [Nat.zero_mul] at hc
        exact head_plain hc (by omega)
      obtain ⟨_, hlen, hat⟩ := World.cells?_some hc
      match cs', hlen with
      | [v0, v1, v2, v3, v4, v5], _ =>
        obtain ⟨x, ex⟩ := act_cells ht
        rw [ex] at hat
        refine ⟨x, b, off, rfl, fun j u hj => ?_⟩
        have hj6 := (List.getElem?_eq_some_iff.1 hj).1
        have hx := hat j hj6
        rw [Go.WideShapes.add_plain, Go.WideShapes.add_plain, hj] at hx
        exact hx)
    refine ⟨l, hll, hl, hm, fun k x hk => ?_⟩
    obtain ⟨b, o, rfl, hc⟩ := hls k x hk
    exact ⟨b, o, rfl, lt_of_cell (hc 0 _ rfl), hc⟩
end Go.Proofs.YthghcffibljclaaDoor
