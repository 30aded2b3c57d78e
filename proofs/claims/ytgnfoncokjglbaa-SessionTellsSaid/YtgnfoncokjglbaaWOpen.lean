/- What comes in: sessions, askings, rows of askings. -/
import Derived.Test.YtgnfoncokjglbaaWLift
import Derived.Test.YtgnfoncokjglbaaWOrderW
import Derived.Deep.Slices
import Derived.Deep.Fields
namespace Go.Proofs.Ytgnfoncokjglbaa
open Go.ChangeShapes Go.WideShapes Go.ChangeAt Go.RowKit Go.Deep Go.Joins

theorem bounds_u32w {a : Int} (h : (Lit.int .u32 a).wf = true) : 0 ≤ a ∧ a ≤ 4294967295 := by
  simp [Lit.wf, IntKind.min, IntKind.max, IntKind.bits, IntKind.signed] at h; omega
theorem bounds_u64w {a : Int} (h : (Lit.int .u64 a).wf = true) : 0 ≤ a ∧ a ≤ 18446744073709551615 := by
  simp [Lit.wf, IntKind.min, IntKind.max, IntKind.bits, IntKind.signed] at h; omega
theorem bounds_i64w {a : Int} (h : (Lit.int .i64 a).wf = true) : -9223372036854775808 ≤ a ∧ a ≤ 9223372036854775807 := by
  simp [Lit.wf, IntKind.min, IntKind.max, IntKind.bits, IntKind.signed] at h; omega
theorem cU32w : Try.prog.cellsOf 64 = 1 := by kernel_rfl
theorem cU64w : Try.prog.cellsOf 32 = 1 := by kernel_rfl
theorem cIntw : Try.prog.cellsOf 3 = 1 := by kernel_rfl
theorem cErrw : Try.prog.cellsOf 29 = 1 := by kernel_rfl
theorem cNamesw : Try.prog.cellsOf 33 = 1 := by kernel_rfl
theorem cRepw : Try.prog.cellsOf 35 = 2 := by kernel_rfl
theorem cSesw : Try.prog.cellsOf 42 = 4 := by kernel_rfl
theorem cAskw : Try.prog.cellsOf 37 = 4 := by kernel_rfl
theorem cRowsw : Try.prog.cellsOf 22 = 1 := by kernel_rfl
theorem cSessw : Try.prog.cellsOf 24 = 1 := by kernel_rfl
theorem lt_of_cellw {w : World} {b o : Nat} {v : Value} (h : w.cell? ⟨b, o, none⟩ = some v) : b < w.heap.size := by
  rcases Nat.lt_or_ge b w.heap.size with hl | hl
  · exact hl
  · unfold World.cell? at h; rw [Array.getElem?_eq_none (by simpa using hl)] at h; simp at h
theorem head_plainw {w : World} {a : Addr} {m : Nat} {cs : List Value} (hc : w.cells? 0 (a.add 0) m = some cs) (hm : 0 < m) : ∃ b off, a = ⟨b, off, none⟩ := by
  obtain ⟨_, hlen, hat⟩ := World.cells?_some hc
  have k0 := hat 0 (by omega)
  rw [List.getElem?_eq_getElem (by omega)] at k0
  obtain ⟨b, off, spot⟩ := a
  have hspot : spot = none := by simpa [Addr.add] using World.cell?_spot k0
  subst hspot
  exact ⟨b, off, rfl⟩
theorem from_all {α : Type} {P : Nat → α → Prop} : ∀ n : Nat, (∀ k, k < n → ∃ x, P k x) → ∃ l : List α, l.length = n ∧ ∀ (k : Nat) (x : α), l[k]? = some x → P k x
  | 0, _ => ⟨[], rfl, fun k x h => by simp at h⟩
  | n + 1, h => by
    obtain ⟨l, hl, hp⟩ := from_all n (fun k hk => h k (by omega))
    obtain ⟨x, hx⟩ := h n (by omega)
    refine ⟨l ++ [x], by simp [hl], fun k y hy => ?_⟩
    by_cases e : k < n
    · rw [List.getElem?_append_left (by omega)] at hy
      exact hp k y hy
    · have hk := (List.getElem?_eq_some_iff.1 hy).1
      rw [List.length_append, hl] at hk
      have hk : k = n := by simp at hk; omega
      subst hk
      rw [List.getElem?_append_right (by omega), hl, Nat.sub_self] at hy
      cases hy
      exact hx
/-- A slice of names that comes in. -/
theorem open_names {H : Type} {enc : TypeId × Value → H} {W : World} {fuel : Nat} {v : Value} {x : DataW H × List MemPlace}
    (hf : DataW.trod enc Try.prog W 0 (fun _ => true) true fuel 33 [v] = some x) : ∃ q : List Int, NR W v q ∧ ∀ y ∈ q, 0 ≤ y ∧ y ≤ 4294967295 := by
  rcases open_slice Try.underlying33 hf with ⟨hcs, _⟩ | ⟨a, len', cap', m, n', D, Pl, hcs, _, hl, hm, hmm, _, hi⟩
  · injection hcs with hcs _
    subst hcs
    exact ⟨[], .nil W, fun y hy => by cases hy⟩
  · injection hcs with hcs _
    subst hcs
    simp only [if_true] at hmm
    subst hmm
    rw [cU32w] at hi
    obtain ⟨q, hql, hq⟩ := from_all (P := fun k x => (0 ≤ x ∧ x ≤ 4294967295) ∧ ∃ b o, a = ⟨b, o, none⟩ ∧ W.cell? ⟨b, o + k, none⟩ = some (.int .u32 x)) len' (fun k hk => by
      obtain ⟨cs', hc, ht⟩ := hi k (by omega)
      obtain ⟨b, off, rfl⟩ : ∃ b off, a = ⟨b, off, none⟩ := by
        obtain ⟨cs', hc, _⟩ := hi 0 (by omega)
        rw [Nat.zero_mul] at hc
        exact head_plainw hc (by omega)
      obtain ⟨_, hlen, hat⟩ := World.cells?_some hc
      match cs', hlen with
      | [v0], _ =>
        obtain ⟨z, e, _, wf⟩ := DataW.trod_int Try.underlying64 ht
        injection e with e _
        subst e
        have k0 := hat 0 (by omega)
        rw [Go.WideShapes.add_plain, Go.WideShapes.add_plain, Nat.mul_one, Nat.add_zero] at k0
        exact ⟨z, bounds_u32w wf, b, off, rfl, k0⟩)
    subst hql
    refine ⟨q, ⟨some a, _, rfl, rfl, by omega, hm, fun e => (by cases e), fun j u hj => ?_⟩, fun y hy => ?_⟩
    · rw [List.getElem?_map] at hj
      cases hqj : q[j]? with
      | none => rw [hqj] at hj; cases hj
      | some x =>
        rw [hqj] at hj
        cases hj
        obtain ⟨_, b, o, rfl, hc⟩ := hq j x hqj
        exact ⟨b, o, rfl, lt_of_cellw hc, hc⟩
    · obtain ⟨k, hk⟩ := List.mem_iff_getElem?.1 hy
      exact (hq k y hk).1
theorem rep_cells {H : Type} {enc : TypeId × Value → H} {W : World} {fuel : Nat} {v0 v1 : Value} {x : DataW H × List MemPlace}
    (h : DataW.trod enc Try.prog W 0 (fun _ => true) true fuel 35 [v0, v1] = some x) : ∃ (e : Int) (q : List Int), v0 = .int .i64 e ∧ RepZ.Fit ⟨e, q⟩ ∧ NR W v1 q := by
  obtain ⟨ys, n', _, _, _, hyl, hfl⟩ := DataW.trod_struct Try.underlying35 h
  match ys, hyl with
  | [y0, y1], _ =>
    have g0 : DataW.trod enc Try.prog W 0 (fun _ => true) true n' 29 [v0] = some y0 := by have := hfl 0 _ rfl; simpa [cErrw] using this
    have g1 : DataW.trod enc Try.prog W 0 (fun _ => true) true n' 33 [v1] = some y1 := by have := hfl 1 _ rfl; simpa [cNamesw] using this
    obtain ⟨z0, e0, _, w0⟩ := DataW.trod_int Try.underlying29 g0
    obtain ⟨q, hq, hb⟩ := open_names g1
    injection e0 with e0
    exact ⟨z0, q, e0, ⟨bounds_i64w w0, hb⟩, hq⟩
theorem sess4_cells {H : Type} {enc : TypeId × Value → H} {W : World} {fuel : Nat} {v0 v1 v2 v3 : Value} {x : DataW H × List MemPlace}
    (h : DataW.trod enc Try.prog W 0 (fun _ => true) true fuel 42 [v0, v1, v2, v3] = some x) : ∃ m : SesM, SesOk W m ∧ [v0, v1, v2, v3] = sesC m := by
  obtain ⟨ys, n', _, _, _, hyl, hfl⟩ := DataW.trod_struct Try.underlying42 h
  match ys, hyl with
  | [y0, y1, y2], _ =>
    have g0 : DataW.trod enc Try.prog W 0 (fun _ => true) true n' 3 [v0] = some y0 := by have := hfl 0 _ rfl; simpa [cIntw] using this
    have g1 : DataW.trod enc Try.prog W 0 (fun _ => true) true n' 32 [v1] = some y1 := by have := hfl 1 _ rfl; simpa [cU64w] using this
    have g2 : DataW.trod enc Try.prog W 0 (fun _ => true) true n' 35 [v2, v3] = some y2 := by have := hfl 2 _ rfl; simpa [cRepw] using this
    obtain ⟨z0, e0, _, w0⟩ := DataW.trod_int Try.underlying3 g0
    obtain ⟨z1, e1, _, w1⟩ := DataW.trod_int Try.underlying32 g1
    obtain ⟨e, q, rfl, hf, hq⟩ := rep_cells g2
    injection e0 with e0; injection e1 with e1
    subst e0 e1
    exact ⟨(⟨z0, z1, ⟨e, q⟩⟩, v3), ⟨⟨bounds_i64w w0, bounds_u64w w1, hf⟩, hq⟩, rfl⟩
set_option maxRecDepth 100000 in
theorem open_sess4s {H : Type} {enc : TypeId × Value → H} {W : World} {fuel : Nat} {v : Value} {x : DataW H × List MemPlace}
    (hf : DataW.trod enc Try.prog W 0 (fun _ => true) true fuel 22 [v] = some x) : ∃ A len cap, v = .slice A len cap ∧ ∃ ms : List SesM, SR W A len cap ms := by
  rcases open_slice Try.underlying22 hf with ⟨hcs, _⟩ | ⟨a, len, cap, m, q, D, Pl, hcs, _, hl, hm, hmm, _, hi⟩
  · injection hcs with hcs _
    subst hcs
    exact ⟨none, 0, 0, rfl, [], .nil W⟩
  · injection hcs with hcs _
    subst hcs
    simp only [if_true] at hmm
    subst hmm
    rw [cSesw] at hi
    refine ⟨some a, len, _, rfl, ?_⟩
    obtain ⟨ms, hml, hms⟩ := from_all (P := fun k (m : SesM) => SesOk W m ∧ ∃ b o, a = ⟨b, o, none⟩ ∧ ∀ j u, (sesC m)[j]? = some u → W.cell? ⟨b, o + (k * 4 + j), none⟩ = some u) len (fun k hk => by
      obtain ⟨cs', hc, ht⟩ := hi k (by omega)
      obtain ⟨b, off, rfl⟩ : ∃ b off, a = ⟨b, off, none⟩ := by
        obtain ⟨cs', hc, _⟩ := hi 0 (by omega)
        rw [Nat.zero_mul] at hc
        exact head_plainw hc (by omega)
      obtain ⟨_, hlen, hat⟩ := World.cells?_some hc
      match cs', hlen with
      | [v0, v1, v2, v3], _ =>
        obtain ⟨m, hok, e⟩ := sess4_cells ht
        refine ⟨m, hok, b, off, rfl, fun j u hj => ?_⟩
        rw [← e] at hj
        have hj4 := (List.getElem?_eq_some_iff.1 hj).1
        have k0 := hat j (by simpa using hj4)
        rw [Go.WideShapes.add_plain, Go.WideShapes.add_plain, hj, Nat.add_assoc] at k0
        exact k0)
    refine ⟨ms, hml, hl, hm, fun e => (by cases e), fun j u hj => ?_, fun m hm => ?_⟩
    · have hlt := (List.getElem?_eq_some_iff.1 hj).1
      rw [sflat_len] at hlt
      have hk : j / 4 < ms.length := by omega
      obtain ⟨_, b, o, rfl, hc⟩ := hms (j / 4) ms[j / 4] (List.getElem?_eq_getElem hk)
      have h1 := sflat_at (j / 4) ms[j / 4] (List.getElem?_eq_getElem hk) (j % 4) (by omega)
      rw [show j / 4 * 4 + j % 4 = j by omega, hj] at h1
      have h2 := hc (j % 4) u h1.symm
      rw [show j / 4 * 4 + j % 4 = j by omega] at h2
      exact ⟨b, o, rfl, lt_of_cellw h2, h2⟩
    · obtain ⟨k, hk⟩ := List.mem_iff_getElem?.1 hm
      exact (hms k m hk).1
theorem ask4_cells {H : Type} {enc : TypeId × Value → H} {W : World} {fuel : Nat} {v0 v1 v2 v3 : Value} {x : DataW H × List MemPlace}
    (h : DataW.trod enc Try.prog W 0 (fun _ => true) true fuel 37 [v0, v1, v2, v3] = some x) : ∃ m : SesM, SesOk W m ∧ [v0, v1, v2, v3] = sesC m := by
  obtain ⟨ys, n', _, _, _, hyl, hfl⟩ := DataW.trod_struct Try.underlying37 h
  match ys, hyl with
  | [y0, y1, y2], _ =>
    have g0 : DataW.trod enc Try.prog W 0 (fun _ => true) true n' 3 [v0] = some y0 := by have := hfl 0 _ rfl; simpa [cIntw] using this
    have g1 : DataW.trod enc Try.prog W 0 (fun _ => true) true n' 32 [v1] = some y1 := by have := hfl 1 _ rfl; simpa [cU64w] using this
    have g2 : DataW.trod enc Try.prog W 0 (fun _ => true) true n' 35 [v2, v3] = some y2 := by have := hfl 2 _ rfl; simpa [cRepw] using this
    obtain ⟨z0, e0, _, w0⟩ := DataW.trod_int Try.underlying3 g0
    obtain ⟨z1, e1, _, w1⟩ := DataW.trod_int Try.underlying32 g1
    obtain ⟨e, q, rfl, hf, hq⟩ := rep_cells g2
    injection e0 with e0; injection e1 with e1
    subst e0 e1
    exact ⟨(⟨z0, z1, ⟨e, q⟩⟩, v3), ⟨⟨bounds_i64w w0, bounds_u64w w1, hf⟩, hq⟩, rfl⟩
set_option maxRecDepth 100000 in
theorem open_ask4s {H : Type} {enc : TypeId × Value → H} {W : World} {fuel : Nat} {v : Value} {x : DataW H × List MemPlace}
    (hf : DataW.trod enc Try.prog W 0 (fun _ => true) true fuel 25 [v] = some x) : ∃ A len cap, v = .slice A len cap ∧ ∃ ms : List SesM, SR W A len cap ms := by
  rcases open_slice Try.underlying25 hf with ⟨hcs, _⟩ | ⟨a, len, cap, m, q, D, Pl, hcs, _, hl, hm, hmm, _, hi⟩
  · injection hcs with hcs _
    subst hcs
    exact ⟨none, 0, 0, rfl, [], .nil W⟩
  · injection hcs with hcs _
    subst hcs
    simp only [if_true] at hmm
    subst hmm
    rw [cAskw] at hi
    refine ⟨some a, len, _, rfl, ?_⟩
    obtain ⟨ms, hml, hms⟩ := from_all (P := fun k (m : SesM) => SesOk W m ∧ ∃ b o, a = ⟨b, o, none⟩ ∧ ∀ j u, (sesC m)[j]? = some u → W.cell? ⟨b, o + (k * 4 + j), none⟩ = some u) len (fun k hk => by
      obtain ⟨cs', hc, ht⟩ := hi k (by omega)
      obtain ⟨b, off, rfl⟩ : ∃ b off, a = ⟨b, off, none⟩ := by
        obtain ⟨cs', hc, _⟩ := hi 0 (by omega)
        rw [Nat.zero_mul] at hc
        exact head_plainw hc (by omega)
      obtain ⟨_, hlen, hat⟩ := World.cells?_some hc
      match cs', hlen with
      | [v0, v1, v2, v3], _ =>
        obtain ⟨m, hok, e⟩ := ask4_cells ht
        refine ⟨m, hok, b, off, rfl, fun j u hj => ?_⟩
        rw [← e] at hj
        have hj4 := (List.getElem?_eq_some_iff.1 hj).1
        have k0 := hat j (by simpa using hj4)
        rw [Go.WideShapes.add_plain, Go.WideShapes.add_plain, hj, Nat.add_assoc] at k0
        exact k0)
    refine ⟨ms, hml, hl, hm, fun e => (by cases e), fun j u hj => ?_, fun m hm => ?_⟩
    · have hlt := (List.getElem?_eq_some_iff.1 hj).1
      rw [sflat_len] at hlt
      have hk : j / 4 < ms.length := by omega
      obtain ⟨_, b, o, rfl, hc⟩ := hms (j / 4) ms[j / 4] (List.getElem?_eq_getElem hk)
      have h1 := sflat_at (j / 4) ms[j / 4] (List.getElem?_eq_getElem hk) (j % 4) (by omega)
      rw [show j / 4 * 4 + j % 4 = j by omega, hj] at h1
      have h2 := hc (j % 4) u h1.symm
      rw [show j / 4 * 4 + j % 4 = j by omega] at h2
      exact ⟨b, o, rfl, lt_of_cellw h2, h2⟩
    · obtain ⟨k, hk⟩ := List.mem_iff_getElem?.1 hm
      exact (hms k m hk).1
set_option maxRecDepth 100000 in
theorem open_sess {H : Type} {enc : TypeId × Value → H} {W : World} {b0 : Nat} {v : Value} {d : DataW H} {p : List MemPlace}
    (hv : Value.okWide Try.prog W .any b0 24 v) (h : DataW.Trod enc Try.prog W 0 (fun _ => true) true 24 v d p) : ∃ A n c, v = .agg #[.slice A n c] ∧ ∃ ms : List SesM, SR W A n c ms := by
  obtain ⟨cs, rfl, hsz⟩ := okWide_struct Try.underlying24 hv
  rw [cSessw] at hsz
  obtain ⟨l⟩ := cs
  match l, hsz with
  | [v0], _ =>
    obtain ⟨fuel, hf⟩ := h
    obtain ⟨ys, n', _, _, _, hyl, hfl⟩ := DataW.trod_struct Try.underlying24 hf
    match ys, hyl with
    | [y0], _ =>
      have g0 : DataW.trod enc Try.prog W 0 (fun _ => true) true n' 22 [v0] = some y0 := by have := hfl 0 _ rfl; simpa [cRowsw, Value.cells] using this
      obtain ⟨A, n, c, rfl, ms, h⟩ := open_sess4s g0
      exact ⟨A, n, c, rfl, ms, h⟩
set_option maxRecDepth 100000 in
theorem open_ask {H : Type} {enc : TypeId × Value → H} {W : World} {b0 : Nat} {v : Value} {d : DataW H} {p : List MemPlace}
    (hv : Value.okWide Try.prog W .any b0 37 v) (h : DataW.Trod enc Try.prog W 0 (fun _ => true) true 37 v d p) : ∃ (a q e : Int) (u : Value) (l : List Int), v = askV a q e u ∧ SesOk W (⟨a, q, ⟨e, l⟩⟩, u) := by
  obtain ⟨cs, rfl, hsz⟩ := okWide_struct Try.underlying37 hv
  rw [cAskw] at hsz
  obtain ⟨l⟩ := cs
  match l, hsz with
  | [v0, v1, v2, v3], _ =>
    obtain ⟨fuel, hf⟩ := h
    obtain ⟨⟨⟨a, q, ⟨e, l⟩⟩, u⟩, hok, he⟩ := ask4_cells hf
    injection he with h0 he
    injection he with h1 he
    injection he with h2 he
    injection he with h3 he
    subst h0 h1 h2 h3
    exact ⟨a, q, e, _, l, rfl, hok⟩
theorem open_asks {H : Type} {enc : TypeId × Value → H} {W : World} {v : Value} {d : DataW H} {p : List MemPlace} (hs : ∃ A n c, v = .slice A n c)
    (h : DataW.Trod enc Try.prog W 0 (fun _ => true) true 25 v d p) : ∃ A n c, v = .slice A n c ∧ ∃ ms : List SesM, SR W A n c ms := by
  obtain ⟨A, n, c, rfl⟩ := hs
  obtain ⟨fuel, hf⟩ := h
  exact open_ask4s (by simpa [Value.cells] using hf)
end Go.Proofs.Ytgnfoncokjglbaa
