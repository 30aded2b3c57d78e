/- What comes in: crons, spans, rows of numbers. -/
import Derived.Test.YtkimbmifabpppaaDoorKHLift
import Derived.Test.YtkimbmifabpppaaDoorKHSomeW
import Derived.Lib.SmallJoins
import Derived.Deep.Strs
import Derived.Deep.Grids
import Derived.Deep.Slices
import Derived.Deep.Matrix
import Derived.Deep.Fields
namespace Go.Proofs.YtkimbmifabpppaaDoor
open Go.ChangeShapes Go.WideShapes Go.ChangeAt Go.WideMaps Go.WideElems Go.RowKit Go.Deep Go.Joins

theorem bounds_u64 {a : Int} (h : (Lit.int .u64 a).wf = true) : 0 ≤ a ∧ a ≤ 18446744073709551615 := by
  simp [Lit.wf, IntKind.min, IntKind.max, IntKind.bits, IntKind.signed] at h; omega
theorem bounds_i64' {a : Int} (h : (Lit.int .i64 a).wf = true) : -9223372036854775808 ≤ a ∧ a ≤ 9223372036854775807 := by
  simp [Lit.wf, IntKind.min, IntKind.max, IntKind.bits, IntKind.signed] at h; omega
theorem mask_of {a : Int} (h : (Lit.int .u64 a).wf = true) : ∃ m : BitVec 64, a = U m := by
  obtain ⟨h0, h1⟩ := bounds_u64 h
  exact U_of a h0 h1
theorem cMask : Tryd.prog.cellsOf 23 = 1 := by kernel_rfl
theorem cCron : Tryd.prog.cellsOf 25 = 5 := by kernel_rfl
theorem cU64 : Tryd.prog.cellsOf 22 = 1 := by kernel_rfl
theorem cI64 : Tryd.prog.cellsOf 2 = 1 := by kernel_rfl
theorem cron_cells {H : Type} {enc : TypeId × Value → H} {W : World} {fuel : Nat} {v0 v1 v2 v3 v4 : Value} {x : DataW H × List MemPlace}
    (h : DataW.trod enc Tryd.prog W 0 (fun _ => true) true fuel 25 [v0, v1, v2, v3, v4] = some x) : ∃ a b c d e : BitVec 64, v0 = .int .u64 (U a) ∧ v1 = .int .u64 (U b) ∧ v2 = .int .u64 (U c) ∧ v3 = .int .u64 (U d) ∧ v4 = .int .u64 (U e) := by
  obtain ⟨ys, n', _, _, _, hyl, hfl⟩ := DataW.trod_struct Tryd.underlying25 h
  match ys, hyl with
  | [y0, y1, y2, y3, y4], _ =>
    have g0 : DataW.trod enc Tryd.prog W 0 (fun _ => true) true n' 23 [v0] = some y0 := by have := hfl 0 _ rfl; simpa [cMask] using this
    have g1 : DataW.trod enc Tryd.prog W 0 (fun _ => true) true n' 23 [v1] = some y1 := by have := hfl 1 _ rfl; simpa [cMask] using this
    have g2 : DataW.trod enc Tryd.prog W 0 (fun _ => true) true n' 23 [v2] = some y2 := by have := hfl 2 _ rfl; simpa [cMask] using this
    have g3 : DataW.trod enc Tryd.prog W 0 (fun _ => true) true n' 23 [v3] = some y3 := by have := hfl 3 _ rfl; simpa [cMask] using this
    have g4 : DataW.trod enc Tryd.prog W 0 (fun _ => true) true n' 23 [v4] = some y4 := by have := hfl 4 _ rfl; simpa [cMask] using this
    obtain ⟨z0, e0, _, w0⟩ := DataW.trod_int Tryd.underlying23 g0
    obtain ⟨z1, e1, _, w1⟩ := DataW.trod_int Tryd.underlying23 g1
    obtain ⟨z2, e2, _, w2⟩ := DataW.trod_int Tryd.underlying23 g2
    obtain ⟨z3, e3, _, w3⟩ := DataW.trod_int Tryd.underlying23 g3
    obtain ⟨z4, e4, _, w4⟩ := DataW.trod_int Tryd.underlying23 g4
    injection e0 with e0; injection e1 with e1; injection e2 with e2; injection e3 with e3; injection e4 with e4
    obtain ⟨a, rfl⟩ := mask_of w0; obtain ⟨b, rfl⟩ := mask_of w1; obtain ⟨c, rfl⟩ := mask_of w2; obtain ⟨d, rfl⟩ := mask_of w3; obtain ⟨e, rfl⟩ := mask_of w4
    exact ⟨a, b, c, d, e, e0, e1, e2, e3, e4⟩
set_option maxRecDepth 100000 in
theorem open_cron {H : Type} {enc : TypeId × Value → H} {W : World} {b0 : Nat} {v : Value} {d : DataW H} {p : List MemPlace}
    (hv : Value.okWide Tryd.prog W .any b0 25 v) (h : DataW.Trod enc Tryd.prog W 0 (fun _ => true) true 25 v d p) : ∃ L : List (BitVec 64), L.length = 5 ∧ v = cronV L := by
  obtain ⟨cs, rfl, hsz⟩ := okWide_struct Tryd.underlying25 hv
  rw [cCron] at hsz
  obtain ⟨l⟩ := cs
  match l, hsz with
  | [c0, c1, c2, c3, c4], _ =>
    obtain ⟨fuel, hf⟩ := h
    obtain ⟨a, b, c, d, e, rfl, rfl, rfl, rfl, rfl⟩ := cron_cells hf
    exact ⟨[a, b, c, d, e], rfl, rfl⟩
theorem open_two {H : Type} {enc : TypeId × Value → H} {P : Program} {W : World} {r : Reach} {b0 base : Nat} {sp : Nat → Bool} {held : Bool} {t e : TypeId} {q : IntKind} {v : Value} {d : DataW H} {ps : List MemPlace}
    (ht : P.underlying t = some (.array 2 e)) (he : P.underlying e = some (.int q)) (hC : P.cellsOf t = 2) (hE : P.cellsOf e = 1) (hv : Value.okWide P W r b0 t v) (h : DataW.Trod enc P W base sp held t v d ps) :
    ∃ a b : Int, v = .agg #[.int q a, .int q b] ∧ (Lit.int q a).wf = true ∧ (Lit.int q b).wf = true := by
  simp only [Value.okWide, ht] at hv
  obtain ⟨cs, rfl, hsz, _⟩ := hv
  rw [hC] at hsz
  obtain ⟨l⟩ := cs
  match l, hsz with
  | [c0, c1], _ =>
    obtain ⟨fuel, hf⟩ := h
    obtain ⟨xs, m, _, _, _, hlen, hg⟩ := DataW.trod_array ht hf
    match xs, hlen with
    | [y0, y1], _ =>
      have h0 := hg 0 (by omega)
      have h1 := hg 1 (by omega)
      rw [hE] at h0 h1
      have h0' : DataW.trod enc P W base sp held m e [c0] = some y0 := by simpa [Value.cells] using h0
      have h1' : DataW.trod enc P W base sp held m e [c1] = some y1 := by simpa [Value.cells] using h1
      obtain ⟨a, ea, _, wa⟩ := DataW.trod_int he h0'
      obtain ⟨b, eb, _, wb⟩ := DataW.trod_int he h1'
      simp only [List.cons.injEq, and_true] at ea eb
      subst ea; subst eb
      exact ⟨a, b, rfl, wa, wb⟩
theorem open_three {H : Type} {enc : TypeId × Value → H} {P : Program} {W : World} {r : Reach} {b0 base : Nat} {sp : Nat → Bool} {held : Bool} {t e : TypeId} {q : IntKind} {v : Value} {d : DataW H} {ps : List MemPlace}
    (ht : P.underlying t = some (.array 3 e)) (he : P.underlying e = some (.int q)) (hC : P.cellsOf t = 3) (hE : P.cellsOf e = 1) (hv : Value.okWide P W r b0 t v) (h : DataW.Trod enc P W base sp held t v d ps) :
    ∃ a b c : Int, v = .agg #[.int q a, .int q b, .int q c] ∧ (Lit.int q a).wf = true ∧ (Lit.int q b).wf = true ∧ (Lit.int q c).wf = true := by
  simp only [Value.okWide, ht] at hv
  obtain ⟨cs, rfl, hsz, _⟩ := hv
  rw [hC] at hsz
  obtain ⟨l⟩ := cs
  match l, hsz with
  | [c0, c1, c2], _ =>
    obtain ⟨fuel, hf⟩ := h
    obtain ⟨xs, m, _, _, _, hlen, hg⟩ := DataW.trod_array ht hf
    match xs, hlen with
    | [y0, y1, y2], _ =>
      have h0 := hg 0 (by omega)
      have h1 := hg 1 (by omega)
      have h2 := hg 2 (by omega)
      rw [hE] at h0 h1 h2
      have h0' : DataW.trod enc P W base sp held m e [c0] = some y0 := by simpa [Value.cells] using h0
      have h1' : DataW.trod enc P W base sp held m e [c1] = some y1 := by simpa [Value.cells] using h1
      have h2' : DataW.trod enc P W base sp held m e [c2] = some y2 := by simpa [Value.cells] using h2
      obtain ⟨a, ea, _, wa⟩ := DataW.trod_int he h0'
      obtain ⟨b, eb, _, wb⟩ := DataW.trod_int he h1'
      obtain ⟨c, ec, _, wc⟩ := DataW.trod_int he h2'
      simp only [List.cons.injEq, and_true] at ea eb ec
      subst ea; subst eb; subst ec
      exact ⟨a, b, c, rfl, wa, wb, wc⟩
theorem open_i64s {H : Type} {enc : TypeId × Value → H} {W : World} {A : Option Addr} {len cap : Nat} {d : DataW H} {p : List MemPlace}
    (h : DataW.Trod enc Tryd.prog W 0 (fun _ => true) true 26 (.slice A len cap) d p) :
    len ≤ maxLen ∧ NumsAt .i64 (fun _ => True) W W.heap.size A len := by
  obtain ⟨fuel, hf⟩ := h
  rcases open_ints Tryd.underlying26 Tryd.underlying2 cI64 hf with ⟨hcs, _⟩ | ⟨a, len', cap', zs, hcs, _, hl, hm, hz, _, hcell, hwz⟩
  · have e : (Value.slice A len cap) = .slice none 0 0 := by simpa [Value.cells] using hcs
    cases e
    exact ⟨by unfold maxLen; omega, fun k hk => absurd hk (by omega)⟩
  · have e : (Value.slice A len cap) = .slice (some a) len' cap' := by simpa [Value.cells] using hcs
    cases e
    simp only [if_true] at hz
    refine ⟨by omega, fun k hk => ?_⟩
    obtain ⟨b, off, rfl, hc⟩ := ints_at hcell (by omega)
    have hck := hc k (by omega)
    exact ⟨b, off, _, rfl, lt_of_cell hck, hck, trivial⟩
theorem open_nints {H : Type} {enc : TypeId × Value → H} {W : World} {A : Option Addr} {len cap : Nat} {d : DataW H} {p : List MemPlace}
    (h : DataW.Trod enc Tryd.prog W 0 (fun _ => true) true 33 (.slice A len cap) d p) :
    len ≤ maxLen ∧ NumsAt .i64 isI64 W W.heap.size A len := by
  obtain ⟨fuel, hf⟩ := h
  rcases open_ints Tryd.underlying33 Tryd.underlying3 cInt hf with ⟨hcs, _⟩ | ⟨a, len', cap', zs, hcs, _, hl, hm, hz, _, hcell, hwz⟩
  · have e : (Value.slice A len cap) = .slice none 0 0 := by simpa [Value.cells] using hcs
    cases e
    exact ⟨by unfold maxLen; omega, fun k hk => absurd hk (by omega)⟩
  · have e : (Value.slice A len cap) = .slice (some a) len' cap' := by simpa [Value.cells] using hcs
    cases e
    simp only [if_true] at hz
    refine ⟨by omega, fun k hk => ?_⟩
    obtain ⟨b, off, rfl, hc⟩ := ints_at hcell (by omega)
    have hck := hc k (by omega)
    exact ⟨b, off, _, rfl, lt_of_cell hck, hck, bounds_i64' (hwz _ (by rw [List.getD_eq_getElem?_getD, List.getElem?_eq_getElem (show k < zs.length by omega)]; exact List.getElem_mem _))⟩
theorem open_u64s {H : Type} {enc : TypeId × Value → H} {W : World} {A : Option Addr} {len cap : Nat} {d : DataW H} {p : List MemPlace}
    (h : DataW.Trod enc Tryd.prog W 0 (fun _ => true) true 40 (.slice A len cap) d p) :
    len ≤ maxLen ∧ NumsAt .u64 (fun t => 0 ≤ t ∧ t ≤ 18446744073709551615) W W.heap.size A len := by
  obtain ⟨fuel, hf⟩ := h
  rcases open_ints Tryd.underlying40 Tryd.underlying22 cU64 hf with ⟨hcs, _⟩ | ⟨a, len', cap', zs, hcs, _, hl, hm, hz, _, hcell, hwz⟩
  · have e : (Value.slice A len cap) = .slice none 0 0 := by simpa [Value.cells] using hcs
    cases e
    exact ⟨by unfold maxLen; omega, fun k hk => absurd hk (by omega)⟩
  · have e : (Value.slice A len cap) = .slice (some a) len' cap' := by simpa [Value.cells] using hcs
    cases e
    simp only [if_true] at hz
    refine ⟨by omega, fun k hk => ?_⟩
    obtain ⟨b, off, rfl, hc⟩ := ints_at hcell (by omega)
    have hck := hc k (by omega)
    exact ⟨b, off, _, rfl, lt_of_cell hck, hck, bounds_u64 (hwz _ (by rw [List.getD_eq_getElem?_getD, List.getElem?_eq_getElem (show k < zs.length by omega)]; exact List.getElem_mem _))⟩
end Go.Proofs.YtkimbmifabpppaaDoor
