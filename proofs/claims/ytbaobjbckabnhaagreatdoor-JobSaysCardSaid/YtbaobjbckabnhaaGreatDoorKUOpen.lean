/- What comes in: jobs, wishes, rows of wishes and of spans. -/
import Derived.Test.YtbaobjbckabnhaaGreatDoorK6
import Derived.Test.YtbaobjbckabnhaaGreatDoorKULift
import Derived.Test.YtbaobjbckabnhaaGreatDoorKUMem
namespace Go.Proofs.YtbaobjbckabnhaaGreatDoor
open Go.ChangeShapes Go.WideShapes Go.ChangeAt Go.WideMaps Go.WideElems Go.RowKit Go.Deep Go.Joins

theorem bounds_u32j {a : Int} (h : (Lit.int .u32 a).wf = true) : 0 ≤ a ∧ a ≤ 4294967295 := by
  simp [Lit.wf, IntKind.min, IntKind.max, IntKind.bits, IntKind.signed] at h; omega
theorem cJob : Tryz.prog.cellsOf 33 = 11 := by kernel_rfl
theorem cWish : Tryz.prog.cellsOf 26 = 6 := by kernel_rfl
theorem cBool : Tryz.prog.cellsOf 4 = 1 := by kernel_rfl
theorem cU32 : Tryz.prog.cellsOf 24 = 1 := by kernel_rfl
theorem cSpan : Tryz.prog.cellsOf 40 = 2 := by kernel_rfl
theorem job_cells {H : Type} {enc : TypeId × Value → H} {W : World} {fuel : Nat} {v0 v1 v2 v3 v4 v5 v6 v7 v8 v9 v10 : Value} {x : DataW H × List MemPlace}
    (h : DataW.trod enc Tryz.prog W 0 (fun _ => true) true fuel 33 [v0, v1, v2, v3, v4, v5, v6, v7, v8, v9, v10] = some x) : ∃ j : JobZ, j.Fit ∧ [v0, v1, v2, v3, v4, v5, v6, v7, v8, v9, v10] = jobC j := by
  obtain ⟨ys, n', _, _, _, hyl, hfl⟩ := DataW.trod_struct Tryz.underlying33 h
  match ys, hyl with
  | [y0, y1, y2, y3, y4, y5, y6], _ =>
    have g0 : DataW.trod enc Tryz.prog W 0 (fun _ => true) true n' 24 [v0] = some y0 := by have := hfl 0 _ rfl; simpa [cU32] using this
    have g1 : DataW.trod enc Tryz.prog W 0 (fun _ => true) true n' 4 [v1] = some y1 := by have := hfl 1 _ rfl; simpa [cBool] using this
    have g2 : DataW.trod enc Tryz.prog W 0 (fun _ => true) true n' 31 [v2, v3, v4, v5, v6] = some y2 := by have := hfl 2 _ rfl; simpa [cCron] using this
    have g3 : DataW.trod enc Tryz.prog W 0 (fun _ => true) true n' 2 [v7] = some y3 := by have := hfl 3 _ rfl; simpa [cI64] using this
    have g4 : DataW.trod enc Tryz.prog W 0 (fun _ => true) true n' 3 [v8] = some y4 := by have := hfl 4 _ rfl; simpa [cInt] using this
    have g5 : DataW.trod enc Tryz.prog W 0 (fun _ => true) true n' 3 [v9] = some y5 := by have := hfl 5 _ rfl; simpa [cInt] using this
    have g6 : DataW.trod enc Tryz.prog W 0 (fun _ => true) true n' 3 [v10] = some y6 := by have := hfl 6 _ rfl; simpa [cInt] using this
    obtain ⟨z0, e0, _, w0⟩ := DataW.trod_int Tryz.underlying24 g0
    obtain ⟨z1, e1, _⟩ := DataW.trod_bool Tryz.underlying4 g1
    obtain ⟨a, b, c, d', e, rfl, rfl, rfl, rfl, rfl⟩ := cron_cells g2
    obtain ⟨z3, e3, _, _⟩ := DataW.trod_int Tryz.underlying2 g3
    obtain ⟨z4, e4, _, _⟩ := DataW.trod_int Tryz.underlying3 g4
    obtain ⟨z5, e5, _, _⟩ := DataW.trod_int Tryz.underlying3 g5
    obtain ⟨z6, e6, _, _⟩ := DataW.trod_int Tryz.underlying3 g6
    injection e0 with e0; injection e1 with e1; injection e3 with e3; injection e4 with e4; injection e5 with e5; injection e6 with e6
    subst e0 e1 e3 e4 e5 e6
    obtain ⟨b0, b1⟩ := bounds_u32j w0
    exact ⟨⟨z0, z1, [a, b, c, d', e], z3, z4, z5, z6⟩, ⟨b0, b1, rfl⟩, rfl⟩
set_option maxRecDepth 100000 in
theorem open_job {H : Type} {enc : TypeId × Value → H} {W : World} {b0 : Nat} {v : Value} {d : DataW H} {p : List MemPlace}
    (hv : Value.okWide Tryz.prog W .any b0 33 v) (h : DataW.Trod enc Tryz.prog W 0 (fun _ => true) true 33 v d p) : ∃ j : JobZ, j.Fit ∧ v = jobV j := by
  obtain ⟨cs, rfl, hsz⟩ := okWide_struct Tryz.underlying33 hv
  rw [cJob] at hsz
  obtain ⟨l⟩ := cs
  match l, hsz with
  | [v0, v1, v2, v3, v4, v5, v6, v7, v8, v9, v10], _ =>
    obtain ⟨fuel, hf⟩ := h
    obtain ⟨j, hj, e⟩ := job_cells hf
    exact ⟨j, hj, by unfold jobV; rw [← e]⟩
theorem wish_cells {H : Type} {enc : TypeId × Value → H} {W : World} {fuel : Nat} {v0 v1 v2 v3 v4 v5 : Value} {x : DataW H × List MemPlace}
    (h : DataW.trod enc Tryz.prog W 0 (fun _ => true) true fuel 26 [v0, v1, v2, v3, v4, v5] = some x) : ∃ z : WishZ, z.Fit ∧ z.s.length ≤ maxLen ∧ v0 = .int .u32 z.n ∧ v1 = strV z.s ∧ v2 = .int .i64 z.t ∧ v3 = .int .i64 z.ov ∧ v4 = .int .i64 z.ca ∧ v5 = .int .i64 z.re := by
  obtain ⟨ys, n', _, _, _, hyl, hfl⟩ := DataW.trod_struct Tryz.underlying26 h
  match ys, hyl with
  | [y0, y1, y2, y3, y4, y5], _ =>
    have g0 : DataW.trod enc Tryz.prog W 0 (fun _ => true) true n' 24 [v0] = some y0 := by have := hfl 0 _ rfl; simpa [cU32] using this
    have g1 : DataW.trod enc Tryz.prog W 0 (fun _ => true) true n' 9 [v1] = some y1 := by have := hfl 1 _ rfl; simpa [cStr] using this
    have g2 : DataW.trod enc Tryz.prog W 0 (fun _ => true) true n' 2 [v2] = some y2 := by have := hfl 2 _ rfl; simpa [cI64] using this
    have g3 : DataW.trod enc Tryz.prog W 0 (fun _ => true) true n' 3 [v3] = some y3 := by have := hfl 3 _ rfl; simpa [cInt] using this
    have g4 : DataW.trod enc Tryz.prog W 0 (fun _ => true) true n' 3 [v4] = some y4 := by have := hfl 4 _ rfl; simpa [cInt] using this
    have g5 : DataW.trod enc Tryz.prog W 0 (fun _ => true) true n' 3 [v5] = some y5 := by have := hfl 5 _ rfl; simpa [cInt] using this
    obtain ⟨z0, e0, _, w0⟩ := DataW.trod_int Tryz.underlying24 g0
    obtain ⟨z1, e1, _, hs⟩ := DataW.trod_string Tryz.underlying9 g1
    obtain ⟨z2, e2, _, _⟩ := DataW.trod_int Tryz.underlying2 g2
    obtain ⟨z3, e3, _, _⟩ := DataW.trod_int Tryz.underlying3 g3
    obtain ⟨z4, e4, _, _⟩ := DataW.trod_int Tryz.underlying3 g4
    obtain ⟨z5, e5, _, _⟩ := DataW.trod_int Tryz.underlying3 g5
    injection e0 with e0; injection e1 with e1; injection e2 with e2; injection e3 with e3; injection e4 with e4; injection e5 with e5
    subst e0 e1 e2 e3 e4 e5
    obtain ⟨b0, b1⟩ := bounds_u32j w0
    exact ⟨⟨z0, z1.data.toList, z2, z3, z4, z5⟩, ⟨b0, b1⟩, (by rw [len_list]; exact hs), rfl, (strV_data z1).symm, rfl, rfl, rfl, rfl⟩
set_option maxRecDepth 100000 in
theorem open_wish {H : Type} {enc : TypeId × Value → H} {W : World} {b0 : Nat} {v : Value} {d : DataW H} {p : List MemPlace}
    (hv : Value.okWide Tryz.prog W .any b0 26 v) (h : DataW.Trod enc Tryz.prog W 0 (fun _ => true) true 26 v d p) : ∃ z : WishZ, z.Fit ∧ z.s.length ≤ maxLen ∧ v = wishV z := by
  obtain ⟨cs, rfl, hsz⟩ := okWide_struct Tryz.underlying26 hv
  rw [cWish] at hsz
  obtain ⟨l⟩ := cs
  match l, hsz with
  | [c0, c1, c2, c3, c4, c5], _ =>
    obtain ⟨fuel, hf⟩ := h
    obtain ⟨z, hz, hs, rfl, rfl, rfl, rfl, rfl, rfl⟩ := wish_cells hf
    exact ⟨z, hz, hs, rfl⟩
theorem head_plain {w : World} {a : Addr} {m : Nat} {cs : List Value} (hc : w.cells? 0 (a.add 0) m = some cs) (hm : 0 < m) : ∃ b off, a = ⟨b, off, none⟩ := by
  obtain ⟨_, hlen, hat⟩ := World.cells?_some hc
  have k0 := hat 0 (by omega)
  rw [List.getElem?_eq_getElem (by omega)] at k0
  obtain ⟨b, off, spot⟩ := a
  have hspot : spot = none := by simpa [Addr.add] using World.cell?_spot k0
  subst hspot
  exact ⟨b, off, rfl⟩
set_option maxRecDepth 100000 in
theorem open_wishes {H : Type} {enc : TypeId × Value → H} {W : World} {A : Option Addr} {len cap : Nat} {d : DataW H} {p : List MemPlace}
    (h : DataW.Trod enc Tryz.prog W 0 (fun _ => true) true 22 (.slice A len cap) d p) :
    len ≤ maxLen ∧ WishesAt W W.heap.size A len := by
  obtain ⟨fuel, hf⟩ := h
  rcases open_slice Tryz.underlying22 hf with ⟨hcs, _⟩ | ⟨a, len', cap', m, q, D, Pl, hcs, _, hl, hm, hmm, _, hi⟩
  · have e : (Value.slice A len cap) = .slice none 0 0 := by simpa [Value.cells] using hcs
    cases e
    exact ⟨by unfold maxLen; omega, fun k hk => absurd hk (by omega)⟩
  · have e : (Value.slice A len cap) = .slice (some a) len' cap' := by simpa [Value.cells] using hcs
    cases e
    simp only [if_true] at hmm
    subst hmm
    rw [cWish] at hi
    refine ⟨by omega, fun k hk => ?_⟩
    obtain ⟨b, off, rfl⟩ : ∃ b off, a = ⟨b, off, none⟩ := by
      obtain ⟨cs', hc, _⟩ := hi 0 (by omega)
      rw [Nat.zero_mul] at hc
      exact head_plain hc (by omega)
    obtain ⟨cs', hc, ht⟩ := hi k (by omega)
    obtain ⟨_, hlen, hat⟩ := World.cells?_some hc
    match cs', hlen with
    | [v0, v1, v2, v3, v4, v5], _ =>
      obtain ⟨z, hz, hs, rfl, rfl, rfl, rfl, rfl, rfl⟩ := wish_cells ht
      have k0 := hat 0 (by omega); have k1 := hat 1 (by omega); have k2 := hat 2 (by omega); have k3 := hat 3 (by omega); have k4 := hat 4 (by omega); have k5 := hat 5 (by omega)
      rw [Go.WideShapes.add_plain, Go.WideShapes.add_plain] at k0 k1 k2 k3 k4 k5
      exact ⟨b, off, z, rfl, lt_of_cell k0, hz, hs, k0, k1, k2, k3, k4, k5⟩
set_option maxRecDepth 100000 in
theorem open_spans {H : Type} {enc : TypeId × Value → H} {W : World} {A : Option Addr} {len cap : Nat} {d : DataW H} {p : List MemPlace}
    (h : DataW.Trod enc Tryz.prog W 0 (fun _ => true) true 38 (.slice A len cap) d p) :
    len ≤ maxLen ∧ SpansAt W W.heap.size A len := by
  obtain ⟨fuel, hf⟩ := h
  rcases open_slice Tryz.underlying38 hf with ⟨hcs, _⟩ | ⟨a, len', cap', m, q, D, Pl, hcs, _, hl, hm, hmm, _, hi⟩
  · have e : (Value.slice A len cap) = .slice none 0 0 := by simpa [Value.cells] using hcs
    cases e
    exact ⟨by unfold maxLen; omega, fun k hk => absurd hk (by omega)⟩
  · have e : (Value.slice A len cap) = .slice (some a) len' cap' := by simpa [Value.cells] using hcs
    cases e
    simp only [if_true] at hmm
    subst hmm
    rw [cSpan] at hi
    refine ⟨by omega, fun k hk => ?_⟩
    obtain ⟨b, off, rfl⟩ : ∃ b off, a = ⟨b, off, none⟩ := by
      obtain ⟨cs', hc, _⟩ := hi 0 (by omega)
      rw [Nat.zero_mul] at hc
      exact head_plain hc (by omega)
    obtain ⟨cs', hc, ht⟩ := hi k (by omega)
    obtain ⟨_, hlen, hat⟩ := World.cells?_some hc
    obtain ⟨ys, n', _, _, hyl, _, hfl⟩ := DataW.trod_array Tryz.underlying40 ht
    match cs', hlen with
    | [v0, v1], _ =>
      have h0 := hfl 0 (by omega); have h1 := hfl 1 (by omega)
      rw [cI64, Nat.mul_one] at h0 h1
      obtain ⟨z0, e0, _, _⟩ := DataW.trod_int Tryz.underlying2 (x := ys[0]'(by omega)) (by rw [List.getElem?_eq_getElem (by omega)] at h0; simpa using h0)
      obtain ⟨z1, e1, _, _⟩ := DataW.trod_int Tryz.underlying2 (x := ys[1]'(by omega)) (by rw [List.getElem?_eq_getElem (by omega)] at h1; simpa using h1)
      injection e0 with e0; injection e1 with e1
      subst e0 e1
      have k0 := hat 0 (by omega); have k1 := hat 1 (by omega)
      rw [Go.WideShapes.add_plain, Go.WideShapes.add_plain] at k0 k1
      exact ⟨b, off, z0, z1, rfl, lt_of_cell k0, k0, k1⟩
theorem open_twoJ {H : Type} {enc : TypeId × Value → H} {P : Program} {W : World} {r : Reach} {b0 base : Nat} {sp : Nat → Bool} {held : Bool} {t e : TypeId} {q : IntKind} {v : Value} {d : DataW H} {ps : List MemPlace}
    (ht : P.underlying t = some (.array 2 e)) (he : P.underlying e = some (.int q)) (hC : P.cellsOf t = 2) (hE : P.cellsOf e = 1) (hv : Value.okWide P W r b0 t v) (h : DataW.Trod enc P W base sp held t v d ps) :
    ∃ a b : Int, v = .agg #[.int q a, .int q b] ∧ (Lit.int q a).wf = true ∧ (Lit.int q b).wf = true := by
  simp only [Value.okWide, ht] at hv
  obtain ⟨cs, rfl, hsz, _⟩ := hv
  rw [hC] at hsz
  obtain ⟨l⟩ := cs
  match l, hsz with
  | [c0, c1], _ =>
    obtain ⟨fuel, hf⟩ := h
    obtain ⟨xs, m, _, _, _, hlen, hg⟩ := DataW.trod_array ht hf
    match xs, hlen with
    | [y0, y1], _ =>
      have h0 := hg 0 (by omega)
      have h1 := hg 1 (by omega)
      rw [hE] at h0 h1
      have h0' : DataW.trod enc P W base sp held m e [c0] = some y0 := by simpa [Value.cells] using h0
      have h1' : DataW.trod enc P W base sp held m e [c1] = some y1 := by simpa [Value.cells] using h1
      obtain ⟨a, ea, _, wa⟩ := DataW.trod_int he h0'
      obtain ⟨b, eb, _, wb⟩ := DataW.trod_int he h1'
      simp only [List.cons.injEq, and_true] at ea eb
      subst ea; subst eb
      exact ⟨a, b, rfl, wa, wb⟩
end Go.Proofs.YtbaobjbckabnhaaGreatDoor
