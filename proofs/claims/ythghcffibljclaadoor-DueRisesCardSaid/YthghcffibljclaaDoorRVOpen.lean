/- What comes in: rows of a table. -/
import Derived.Test.YthghcffibljclaaDoorR6
import Derived.Test.YthghcffibljclaaDoorRVMem
namespace Go.Proofs.YthghcffibljclaaDoor
open Go.ChangeShapes Go.WideShapes Go.ChangeAt Go.WideMaps Go.WideElems Go.RowKit Go.Deep Go.Joins

theorem bounds_u32j {a : Int} (h : (Lit.int .u32 a).wf = true) : 0 ≤ a ∧ a ≤ 4294967295 := by
  simp [Lit.wf, IntKind.min, IntKind.max, IntKind.bits, IntKind.signed] at h; omega
theorem cJob : Tryd.prog.cellsOf 28 = 11 := by kernel_rfl
theorem cBool : Tryd.prog.cellsOf 4 = 1 := by kernel_rfl
theorem cU32 : Tryd.prog.cellsOf 22 = 1 := by kernel_rfl
theorem job_cells {H : Type} {enc : TypeId × Value → H} {W : World} {fuel : Nat} {v0 v1 v2 v3 v4 v5 v6 v7 v8 v9 v10 : Value} {x : DataW H × List MemPlace}
    (h : DataW.trod enc Tryd.prog W 0 (fun _ => true) true fuel 28 [v0, v1, v2, v3, v4, v5, v6, v7, v8, v9, v10] = some x) : ∃ j : JobZ, j.Fit ∧ [v0, v1, v2, v3, v4, v5, v6, v7, v8, v9, v10] = jobC j := by
  obtain ⟨ys, n', _, _, _, hyl, hfl⟩ := DataW.trod_struct Tryd.underlying28 h
  match ys, hyl with
  | [y0, y1, y2, y3, y4, y5, y6], _ =>
    have g0 : DataW.trod enc Tryd.prog W 0 (fun _ => true) true n' 22 [v0] = some y0 := by have := hfl 0 _ rfl; simpa [cU32] using this
    have g1 : DataW.trod enc Tryd.prog W 0 (fun _ => true) true n' 4 [v1] = some y1 := by have := hfl 1 _ rfl; simpa [cBool] using this
    have g2 : DataW.trod enc Tryd.prog W 0 (fun _ => true) true n' 26 [v2, v3, v4, v5, v6] = some y2 := by have := hfl 2 _ rfl; simpa [cCron] using this
    have g3 : DataW.trod enc Tryd.prog W 0 (fun _ => true) true n' 2 [v7] = some y3 := by have := hfl 3 _ rfl; simpa [cI64] using this
    have g4 : DataW.trod enc Tryd.prog W 0 (fun _ => true) true n' 3 [v8] = some y4 := by have := hfl 4 _ rfl; simpa [cInt] using this
    have g5 : DataW.trod enc Tryd.prog W 0 (fun _ => true) true n' 3 [v9] = some y5 := by have := hfl 5 _ rfl; simpa [cInt] using this
    have g6 : DataW.trod enc Tryd.prog W 0 (fun _ => true) true n' 3 [v10] = some y6 := by have := hfl 6 _ rfl; simpa [cInt] using this
    obtain ⟨z0, e0, _, w0⟩ := DataW.trod_int Tryd.underlying22 g0
    obtain ⟨z1, e1, _⟩ := DataW.trod_bool Tryd.underlying4 g1
    obtain ⟨a, b, c, d', e, rfl, rfl, rfl, rfl, rfl⟩ := cron_cells g2
    obtain ⟨z3, e3, _, _⟩ := DataW.trod_int Tryd.underlying2 g3
    obtain ⟨z4, e4, _, _⟩ := DataW.trod_int Tryd.underlying3 g4
    obtain ⟨z5, e5, _, _⟩ := DataW.trod_int Tryd.underlying3 g5
    obtain ⟨z6, e6, _, _⟩ := DataW.trod_int Tryd.underlying3 g6
    injection e0 with e0; injection e1 with e1; injection e3 with e3; injection e4 with e4; injection e5 with e5; injection e6 with e6
    subst e0 e1 e3 e4 e5 e6
    obtain ⟨b0, b1⟩ := bounds_u32j w0
    exact ⟨⟨z0, z1, [a, b, c, d', e], z3, z4, z5, z6⟩, ⟨b0, b1, rfl⟩, rfl⟩
set_option maxRecDepth 100000 in
theorem open_job {H : Type} {enc : TypeId × Value → H} {W : World} {b0 : Nat} {v : Value} {d : DataW H} {p : List MemPlace}
    (hv : Value.okWide Tryd.prog W .any b0 28 v) (h : DataW.Trod enc Tryd.prog W 0 (fun _ => true) true 28 v d p) : ∃ j : JobZ, j.Fit ∧ v = jobV j := by
  obtain ⟨cs, rfl, hsz⟩ := okWide_struct Tryd.underlying28 hv
  rw [cJob] at hsz
  obtain ⟨l⟩ := cs
  match l, hsz with
  | [v0, v1, v2, v3, v4, v5, v6, v7, v8, v9, v10], _ =>
    obtain ⟨fuel, hf⟩ := h
    obtain ⟨j, hj, e⟩ := job_cells hf
    exact ⟨j, hj, by unfold jobV; rw [← e]⟩
theorem head_plain {w : World} {a : Addr} {m : Nat} {cs : List Value} (hc : w.cells? 0 (a.add 0) m = some cs) (hm : 0 < m) : ∃ b off, a = ⟨b, off, none⟩ := by
  obtain ⟨_, hlen, hat⟩ := World.cells?_some hc
  have k0 := hat 0 (by omega)
  rw [List.getElem?_eq_getElem (by omega)] at k0
  obtain ⟨b, off, spot⟩ := a
  have hspot : spot = none := by simpa [Addr.add] using World.cell?_spot k0
  subst hspot
  exact ⟨b, off, rfl⟩
theorem cRow : Tryd.prog.cellsOf 33 = 17 := by kernel_rfl
theorem cGoing : Tryd.prog.cellsOf 30 = 3 := by kernel_rfl
theorem cInts : Tryd.prog.cellsOf 31 = 1 := by kernel_rfl
theorem cU64v : Tryd.prog.cellsOf 23 = 1 := by kernel_rfl
theorem bounds_u64v {a : Int} (h : (Lit.int .u64 a).wf = true) : 0 ≤ a := by
  simp [Lit.wf, IntKind.min, IntKind.max, IntKind.bits, IntKind.signed] at h; omega
theorem list_from {P : Nat → Int → Prop} : ∀ n : Nat, (∀ k, k < n → ∃ x, P k x) → ∃ l : List Int, l.length = n ∧ ∀ k x, l[k]? = some x → P k x
  | 0, _ => ⟨[], rfl, fun k x h => by simp at h⟩
  | n + 1, h => by
    obtain ⟨l, hl, hp⟩ := list_from n (fun k hk => h k (by omega))
    obtain ⟨x, hx⟩ := h n (by omega)
    refine ⟨l ++ [x], by simp [hl], fun k y hy => ?_⟩
    by_cases e : k < n
    · rw [List.getElem?_append_left (by omega)] at hy
      exact hp k y hy
    · have hk := (List.getElem?_eq_some_iff.1 hy).1
      rw [List.length_append, hl] at hk
      have hk : k = n := by simp at hk; omega
      subst hk
      rw [List.getElem?_append_right (by omega), hl, Nat.sub_self] at hy
      cases hy
      exact hx
theorem rows_from {P : Nat → RowM → Prop} : ∀ n : Nat, (∀ k, k < n → ∃ x, P k x) → ∃ l : List RowM, l.length = n ∧ ∀ (k : Nat) (x : RowM), l[k]? = some x → P k x
  | 0, _ => ⟨[], rfl, fun k x h => by simp at h⟩
  | n + 1, h => by
    obtain ⟨l, hl, hp⟩ := rows_from n (fun k hk => h k (by omega))
    obtain ⟨x, hx⟩ := h n (by omega)
    refine ⟨l ++ [x], by simp [hl], fun k y hy => ?_⟩
    by_cases e : k < n
    · rw [List.getElem?_append_left (by omega)] at hy
      exact hp k y hy
    · have hk := (List.getElem?_eq_some_iff.1 hy).1
      rw [List.length_append, hl] at hk
      have hk : k = n := by simp at hk; omega
      subst hk
      rw [List.getElem?_append_right (by omega), hl, Nat.sub_self] at hy
      cases hy
      exact hx
/-- A slice of times that comes in. -/
theorem open_q {H : Type} {enc : TypeId × Value → H} {W : World} {fuel : Nat} {v : Value} {x : DataW H × List MemPlace}
    (hf : DataW.trod enc Tryd.prog W 0 (fun _ => true) true fuel 31 [v] = some x) : ∃ q : List Int, QR W v q := by
  rcases open_slice Tryd.underlying31 hf with ⟨hcs, _⟩ | ⟨a, len', cap', m, n', D, Pl, hcs, _, hl, hm, hmm, _, hi⟩
  · injection hcs with hcs _
    subst hcs
    exact ⟨[], .nil W⟩
  · injection hcs with hcs _
    subst hcs
    simp only [if_true] at hmm
    subst hmm
    rw [cI64] at hi
    obtain ⟨q, hql, hq⟩ := list_from (P := fun k x => ∃ b o, a = ⟨b, o, none⟩ ∧ W.cell? ⟨b, o + k, none⟩ = some (.int .i64 x)) len' (fun k hk => by
      obtain ⟨cs', hc, ht⟩ := hi k (by omega)
      obtain ⟨b, off, rfl⟩ : ∃ b off, a = ⟨b, off, none⟩ := by
        obtain ⟨cs', hc, _⟩ := hi 0 (by omega)
        rw [Nat.zero_mul] at hc
        exact head_plain hc (by omega)
      obtain ⟨_, hlen, hat⟩ := World.cells?_some hc
      match cs', hlen with
      | [v0], _ =>
        obtain ⟨z, e, _, _⟩ := DataW.trod_int Tryd.underlying2 ht
        injection e with e _
        subst e
        have k0 := hat 0 (by omega)
        rw [Go.WideShapes.add_plain, Go.WideShapes.add_plain, Nat.mul_one, Nat.add_zero] at k0
        exact ⟨z, b, off, rfl, k0⟩)
    subst hql
    refine ⟨q, some a, _, rfl, by omega, hm, fun e => (by cases e), fun j u hj => ?_⟩
    rw [List.getElem?_map] at hj
    cases hqj : q[j]? with
    | none => rw [hqj] at hj; cases hj
    | some x =>
      rw [hqj] at hj
      cases hj
      obtain ⟨b, o, rfl, hc⟩ := hq j x hqj
      exact ⟨b, o, rfl, lt_of_cell hc, hc⟩
set_option maxRecDepth 100000 in
theorem row_cells {H : Type} {enc : TypeId × Value → H} {W : World} {fuel : Nat} {v0 v1 v2 v3 v4 v5 v6 v7 v8 v9 v10 v11 v12 v13 v14 v15 v16 : Value} {x : DataW H × List MemPlace}
    (h : DataW.trod enc Tryd.prog W 0 (fun _ => true) true fuel 33 [v0, v1, v2, v3, v4, v5, v6, v7, v8, v9, v10, v11, v12, v13, v14, v15, v16] = some x) : ∃ m : RowM, RowOk W m ∧ [v0, v1, v2, v3, v4, v5, v6, v7, v8, v9, v10, v11, v12, v13, v14, v15, v16] = rowM m := by
  obtain ⟨ys, n', _, _, _, hyl, hfl⟩ := DataW.trod_struct Tryd.underlying33 h
  match ys, hyl with
  | [y0, y1, y2, y3, y4], _ =>
    have g0 : DataW.trod enc Tryd.prog W 0 (fun _ => true) true n' 28 [v0, v1, v2, v3, v4, v5, v6, v7, v8, v9, v10] = some y0 := by have := hfl 0 _ rfl; simpa [cJob] using this
    have g1 : DataW.trod enc Tryd.prog W 0 (fun _ => true) true n' 4 [v11] = some y1 := by have := hfl 1 _ rfl; simpa [cBool] using this
    have g2 : DataW.trod enc Tryd.prog W 0 (fun _ => true) true n' 2 [v12] = some y2 := by have := hfl 2 _ rfl; simpa [cI64] using this
    have g3 : DataW.trod enc Tryd.prog W 0 (fun _ => true) true n' 30 [v13, v14, v15] = some y3 := by have := hfl 3 _ rfl; simpa [cGoing] using this
    have g4 : DataW.trod enc Tryd.prog W 0 (fun _ => true) true n' 31 [v16] = some y4 := by have := hfl 4 _ rfl; simpa [cInts] using this
    obtain ⟨j, hj, ej⟩ := job_cells g0
    obtain ⟨z1, e1, _⟩ := DataW.trod_bool Tryd.underlying4 g1
    obtain ⟨z2, e2, _, _⟩ := DataW.trod_int Tryd.underlying2 g2
    obtain ⟨q, hq⟩ := open_q g4
    obtain ⟨zs, k', _, _, _, hzl, hgl⟩ := DataW.trod_struct Tryd.underlying30 g3
    match zs, hzl with
    | [w0, w1, w2], _ =>
      have i0 : DataW.trod enc Tryd.prog W 0 (fun _ => true) true k' 23 [v13] = some w0 := by have := hgl 0 _ rfl; simpa [cU64v] using this
      have i1 : DataW.trod enc Tryd.prog W 0 (fun _ => true) true k' 2 [v14] = some w1 := by have := hgl 1 _ rfl; simpa [cI64] using this
      have i2 : DataW.trod enc Tryd.prog W 0 (fun _ => true) true k' 3 [v15] = some w2 := by have := hgl 2 _ rfl; simpa [cInt] using this
      obtain ⟨u0, f0, _, wf0⟩ := DataW.trod_int Tryd.underlying23 i0
      obtain ⟨u1, f1, _, _⟩ := DataW.trod_int Tryd.underlying2 i1
      obtain ⟨u2, f2, _, _⟩ := DataW.trod_int Tryd.underlying3 i2
      injection e1 with e1; injection e2 with e2; injection f0 with f0; injection f1 with f1; injection f2 with f2
      subst e1 e2 f0 f1 f2
      refine ⟨(⟨j, z1, z2, u0, u1, u2, q⟩, v16), ⟨⟨hj, bounds_u64v wf0⟩, hq⟩, ?_⟩
      show _ = jobC j ++ [.bool z1, .int .i64 z2, .int .u64 u0, .int .i64 u1, .int .i64 u2, v16]
      rw [← ej]
      rfl
end Go.Proofs.YthghcffibljclaaDoor
