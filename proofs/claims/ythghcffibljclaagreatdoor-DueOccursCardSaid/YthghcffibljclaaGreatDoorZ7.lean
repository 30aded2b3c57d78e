/- Texts of this seat, one behind the other: HTellsW, HSomeW, HOpen. -/
import Derived.Test.YthghcffibljclaaGreatDoorZ6
import Derived.Lib.SmallJoins
import Derived.Deep.Strs
import Derived.Deep.Grids
import Derived.Deep.Slices
import Derived.Deep.Matrix
import Derived.Deep.Fields
/- NextTells: when a cron matches next, and did last, and whether ever: walked. -/
namespace Go.Proofs.YthghcffibljclaaGreatDoor
open Go.RowKit

/-- What Next tells, by its two values. -/
def NextV (L : List (BitVec 64)) (a u : Int) (z : Bool) : Prop := (z = true ∧ IsNext (TC L) a u) ∨ (z = false ∧ u = 0 ∧ NoNext (TC L) a)
def LastV (L : List (BitVec 64)) (a u : Int) (z : Bool) : Prop := (z = true ∧ IsLast (TC L) a u) ∨ (z = false ∧ u = 0 ∧ NoLast (TC L) a)
theorem NextIs.v {L : List (BitVec 64)} {a : Int} {x : Ending} (h : NextIs L a x) : ∃ (u : Int) (z : Bool), x = .returned (.tuple #[.int .i64 u, .bool z]) ∧ NextV L a u z := by
  rcases h with ⟨u, hu, rfl⟩ | ⟨hn, rfl⟩
  · exact ⟨u, true, rfl, .inl ⟨rfl, hu⟩⟩
  · exact ⟨0, false, rfl, .inr ⟨rfl, rfl, hn⟩⟩
theorem LastIs.v {L : List (BitVec 64)} {a : Int} {x : Ending} (h : LastIs L a x) : ∃ (u : Int) (z : Bool), x = .returned (.tuple #[.int .i64 u, .bool z]) ∧ LastV L a u z := by
  rcases h with ⟨u, hu, rfl⟩ | ⟨hn, rfl⟩
  · exact ⟨u, true, rfl, .inl ⟨rfl, hu⟩⟩
  · exact ⟨0, false, rfl, .inr ⟨rfl, rfl, hn⟩⟩
theorem nextv_one {L : List (BitVec 64)} {a u u' : Int} {z z' : Bool} (h : NextV L a u z) (h' : NextV L a u' z') : u = u' ∧ z = z' := by
  rcases h with ⟨rfl, h⟩ | ⟨rfl, rfl, h⟩ <;> rcases h' with ⟨rfl, h'⟩ | ⟨rfl, rfl, h'⟩
  · exact ⟨next_one h h', rfl⟩
  · exact (next_none h h').elim
  · exact (next_none h' h).elim
  · exact ⟨rfl, rfl⟩
theorem lastv_one {L : List (BitVec 64)} {a u u' : Int} {z z' : Bool} (h : LastV L a u z) (h' : LastV L a u' z') : u = u' ∧ z = z' := by
  rcases h with ⟨rfl, h⟩ | ⟨rfl, rfl, h⟩ <;> rcases h' with ⟨rfl, h'⟩ | ⟨rfl, rfl, h'⟩
  · exact ⟨last_one h h', rfl⟩
  · exact (last_none h h').elim
  · exact (last_none h' h).elim
  · exact ⟨rfl, rfl⟩
theorem nextv_no {L : List (BitVec 64)} {a u : Int} {z : Bool} (hk : crB L = false) (h : NextV L a u z) : u = 0 ∧ z = false := by
  rcases h with ⟨rfl, h⟩ | ⟨rfl, rfl, h⟩
  · exact absurd (hk.symm.trans h.1.1) (by simp)
  · exact ⟨rfl, rfl⟩
theorem lastv_no {L : List (BitVec 64)} {a u : Int} {z : Bool} (hk : crB L = false) (h : LastV L a u z) : u = 0 ∧ z = false := by
  rcases h with ⟨rfl, h⟩ | ⟨rfl, rfl, h⟩
  · exact absurd (hk.symm.trans h.1.1) (by simp)
  · exact ⟨rfl, rfl⟩
/-- Numbers that came in. -/
def NumsAt (K : IntKind) (P : Int → Prop) (w : World) (B : Nat) (A : Option Addr) (n : Nat) : Prop := ∀ k, k < n → ∃ (b o : Nat) (t : Int), A = some ⟨b, o, none⟩ ∧ b < B ∧ w.cell? ⟨b, o + k, none⟩ = some (.int K t) ∧ P t
theorem NumsAt.on {K : IntKind} {P : Int → Prop} {w w' : World} {B : Nat} {A : Option Addr} {n : Nat} (h : NumsAt K P w B A n) (hb : Below B w w') : NumsAt K P w' B A n := by
  intro k hk
  obtain ⟨b, o, t, e, hlt, hc, hp⟩ := h k hk
  exact ⟨b, o, t, e, hlt, (hb.cell (p := ⟨b, o + k, none⟩) hlt).trans hc, hp⟩
end Go.Proofs.YthghcffibljclaaGreatDoor
/- NextSome: its times of a span, the first ones: walked. -/
namespace Go.Proofs.YthghcffibljclaaGreatDoor
open Go.RowKit

theorem nil_arr (w : World) : ArrT w none 0 [] := ⟨rfl, fun i x h => by cases h⟩
def isI64 (t : Int) : Prop := -9223372036854775808 ≤ t ∧ t ≤ 9223372036854775807
theorem quo_65 {t : Int} (h : isI64 t) : ∃ q : Int, wrap64 (t.tdiv 65) = q ∧ wrap64 (64 * q) = 64 * q ∧ wrap64 (12 + 64 * q) = 12 + 64 * q := by
  obtain ⟨h0, h1⟩ := h
  have hq : -141898031336227321 ≤ t.tdiv 65 ∧ t.tdiv 65 ≤ 141898031336227321 := by
    rcases Int.le_total 0 t with hs | hs
    · rw [Int.tdiv_eq_ediv_of_nonneg hs]; omega
    · have e : t.tdiv 65 = -((-t).tdiv 65) := by rw [Int.neg_tdiv]; omega
      rw [e, Int.tdiv_eq_ediv_of_nonneg (by omega)]; omega
  generalize t.tdiv 65 = q at *
  refine ⟨q, ?_, ?_, ?_⟩ <;> (unfold wrap64; omega)
end Go.Proofs.YthghcffibljclaaGreatDoor
/- What comes in: crons, spans, rows of numbers. -/
namespace Go.Proofs.YthghcffibljclaaGreatDoor
open Go.ChangeShapes Go.WideShapes Go.ChangeAt Go.WideMaps Go.WideElems Go.RowKit Go.Deep Go.Joins

theorem bounds_u64 {a : Int} (h : (Lit.int .u64 a).wf = true) : 0 ≤ a ∧ a ≤ 18446744073709551615 := by
  simp [Lit.wf, IntKind.min, IntKind.max, IntKind.bits, IntKind.signed] at h; omega
theorem bounds_i64' {a : Int} (h : (Lit.int .i64 a).wf = true) : -9223372036854775808 ≤ a ∧ a ≤ 9223372036854775807 := by
  simp [Lit.wf, IntKind.min, IntKind.max, IntKind.bits, IntKind.signed] at h; omega
theorem mask_of {a : Int} (h : (Lit.int .u64 a).wf = true) : ∃ m : BitVec 64, a = U m := by
  obtain ⟨h0, h1⟩ := bounds_u64 h
  exact U_of a h0 h1
theorem cMask : Tryz.prog.cellsOf 24 = 1 := by kernel_rfl
theorem cCron : Tryz.prog.cellsOf 26 = 5 := by kernel_rfl
theorem cU64 : Tryz.prog.cellsOf 23 = 1 := by kernel_rfl
theorem cI64 : Tryz.prog.cellsOf 2 = 1 := by kernel_rfl
theorem cron_cells {H : Type} {enc : TypeId × Value → H} {W : World} {fuel : Nat} {v0 v1 v2 v3 v4 : Value} {x : DataW H × List MemPlace}
    (h : DataW.trod enc Tryz.prog W 0 (fun _ => true) true fuel 26 [v0, v1, v2, v3, v4] = some x) : ∃ a b c d e : BitVec 64, v0 = .int .u64 (U a) ∧ v1 = .int .u64 (U b) ∧ v2 = .int .u64 (U c) ∧ v3 = .int .u64 (U d) ∧ v4 = .int .u64 (U e) := by
  obtain ⟨ys, n', _, _, _, hyl, hfl⟩ := DataW.trod_struct Tryz.underlying26 h
  match ys, hyl with
  | [y0, y1, y2, y3, y4], _ =>
    have g0 : DataW.trod enc Tryz.prog W 0 (fun _ => true) true n' 24 [v0] = some y0 := by have := hfl 0 _ rfl; simpa [cMask] using this
    have g1 : DataW.trod enc Tryz.prog W 0 (fun _ => true) true n' 24 [v1] = some y1 := by have := hfl 1 _ rfl; simpa [cMask] using this
    have g2 : DataW.trod enc Tryz.prog W 0 (fun _ => true) true n' 24 [v2] = some y2 := by have := hfl 2 _ rfl; simpa [cMask] using this
    have g3 : DataW.trod enc Tryz.prog W 0 (fun _ => true) true n' 24 [v3] = some y3 := by have := hfl 3 _ rfl; simpa [cMask] using this
    have g4 : DataW.trod enc Tryz.prog W 0 (fun _ => true) true n' 24 [v4] = some y4 := by have := hfl 4 _ rfl; simpa [cMask] using this
    obtain ⟨z0, e0, _, w0⟩ := DataW.trod_int Tryz.underlying24 g0
    obtain ⟨z1, e1, _, w1⟩ := DataW.trod_int Tryz.underlying24 g1
    obtain ⟨z2, e2, _, w2⟩ := DataW.trod_int Tryz.underlying24 g2
    obtain ⟨z3, e3, _, w3⟩ := DataW.trod_int Tryz.underlying24 g3
    obtain ⟨z4, e4, _, w4⟩ := DataW.trod_int Tryz.underlying24 g4
    injection e0 with e0; injection e1 with e1; injection e2 with e2; injection e3 with e3; injection e4 with e4
    obtain ⟨a, rfl⟩ := mask_of w0; obtain ⟨b, rfl⟩ := mask_of w1; obtain ⟨c, rfl⟩ := mask_of w2; obtain ⟨d, rfl⟩ := mask_of w3; obtain ⟨e, rfl⟩ := mask_of w4
    exact ⟨a, b, c, d, e, e0, e1, e2, e3, e4⟩
set_option maxRecDepth 100000 in
theorem open_cron {H : Type} {enc : TypeId × Value → H} {W : World} {b0 : Nat} {v : Value} {d : DataW H} {p : List MemPlace}
    (hv : Value.okWide Tryz.prog W .any b0 26 v) (h : DataW.Trod enc Tryz.prog W 0 (fun _ => true) true 26 v d p) : ∃ L : List (BitVec 64), L.length = 5 ∧ v = cronV L := by
  obtain ⟨cs, rfl, hsz⟩ := okWide_struct Tryz.underlying26 hv
  rw [cCron] at hsz
  obtain ⟨l⟩ := cs
  match l, hsz with
  | [c0, c1, c2, c3, c4], _ =>
    obtain ⟨fuel, hf⟩ := h
    obtain ⟨a, b, c, d, e, rfl, rfl, rfl, rfl, rfl⟩ := cron_cells hf
    exact ⟨[a, b, c, d, e], rfl, rfl⟩
theorem open_two {H : Type} {enc : TypeId × Value → H} {P : Program} {W : World} {r : Reach} {b0 base : Nat} {sp : Nat → Bool} {held : Bool} {t e : TypeId} {q : IntKind} {v : Value} {d : DataW H} {ps : List MemPlace}
    (ht : P.underlying t = some (.array 2 e)) (he : P.underlying e = some (.int q)) (hC : P.cellsOf t = 2) (hE : P.cellsOf e = 1) (hv : Value.okWide P W r b0 t v) (h : DataW.Trod enc P W base sp held t v d ps) :
    ∃ a b : Int, v = .agg #[.int q a, .int q b] ∧ (Lit.int q a).wf = true ∧ (Lit.int q b).wf = true := by
  simp only [Value.okWide, ht] at hv
  obtain ⟨cs, rfl, hsz, _⟩ := hv
  rw [hC] at hsz
  obtain ⟨l⟩ := cs
  match l, hsz with
  | [c0, c1], _ =>
    obtain ⟨fuel, hf⟩ := h
    obtain ⟨xs, m, _, _, _, hlen, hg⟩ := DataW.trod_array ht hf
    match xs, hlen with
    | [y0, y1], _ =>
      have h0 := hg 0 (by omega)
      have h1 := hg 1 (by omega)
      rw [hE] at h0 h1
      have h0' : DataW.trod enc P W base sp held m e [c0] = some y0 := by simpa [Value.cells] using h0
      have h1' : DataW.trod enc P W base sp held m e [c1] = some y1 := by simpa [Value.cells] using h1
      obtain ⟨a, ea, _, wa⟩ := DataW.trod_int he h0'
      obtain ⟨b, eb, _, wb⟩ := DataW.trod_int he h1'
      simp only [List.cons.injEq, and_true] at ea eb
      subst ea; subst eb
      exact ⟨a, b, rfl, wa, wb⟩
theorem open_three {H : Type} {enc : TypeId × Value → H} {P : Program} {W : World} {r : Reach} {b0 base : Nat} {sp : Nat → Bool} {held : Bool} {t e : TypeId} {q : IntKind} {v : Value} {d : DataW H} {ps : List MemPlace}
    (ht : P.underlying t = some (.array 3 e)) (he : P.underlying e = some (.int q)) (hC : P.cellsOf t = 3) (hE : P.cellsOf e = 1) (hv : Value.okWide P W r b0 t v) (h : DataW.Trod enc P W base sp held t v d ps) :
    ∃ a b c : Int, v = .agg #[.int q a, .int q b, .int q c] ∧ (Lit.int q a).wf = true ∧ (Lit.int q b).wf = true ∧ (Lit.int q c).wf = true := by
  simp only [Value.okWide, ht] at hv
  obtain ⟨cs, rfl, hsz, _⟩ := hv
  rw [hC] at hsz
  obtain ⟨l⟩ := cs
  match l, hsz with
  | [c0, c1, c2], _ =>
    obtain ⟨fuel, hf⟩ := h
    obtain ⟨xs, m, _, _, _, hlen, hg⟩ := DataW.trod_array ht hf
    match xs, hlen with
    | [y0, y1, y2], _ =>
      have h0 := hg 0 (by omega)
      have h1 := hg 1 (by omega)
      have h2 := hg 2 (by omega)
      rw [hE] at h0 h1 h2
      have h0' : DataW.trod enc P W base sp held m e [c0] = some y0 := by simpa [Value.cells] using h0
      have h1' : DataW.trod enc P W base sp held m e [c1] = some y1 := by simpa [Value.cells] using h1
      have h2' : DataW.trod enc P W base sp held m e [c2] = some y2 := by simpa [Value.cells] using h2
      obtain ⟨a, ea, _, wa⟩ := DataW.trod_int he h0'
      obtain ⟨b, eb, _, wb⟩ := DataW.trod_int he h1'
      obtain ⟨c, ec, _, wc⟩ := DataW.trod_int he h2'
      simp only [List.cons.injEq, and_true] at ea eb ec
      subst ea; subst eb; subst ec
      exact ⟨a, b, c, rfl, wa, wb, wc⟩
theorem open_i64s {H : Type} {enc : TypeId × Value → H} {W : World} {A : Option Addr} {len cap : Nat} {d : DataW H} {p : List MemPlace}
    (h : DataW.Trod enc Tryz.prog W 0 (fun _ => true) true 31 (.slice A len cap) d p) :
    len ≤ maxLen ∧ NumsAt .i64 (fun _ => True) W W.heap.size A len := by
  obtain ⟨fuel, hf⟩ := h
  rcases open_ints Tryz.underlying31 Tryz.underlying2 cI64 hf with ⟨hcs, _⟩ | ⟨a, len', cap', zs, hcs, _, hl, hm, hz, _, hcell, hwz⟩
  · have e : (Value.slice A len cap) = .slice none 0 0 := by simpa [Value.cells] using hcs
    cases e
    exact ⟨by unfold maxLen; omega, fun k hk => absurd hk (by omega)⟩
  · have e : (Value.slice A len cap) = .slice (some a) len' cap' := by simpa [Value.cells] using hcs
    cases e
    simp only [if_true] at hz
    refine ⟨by omega, fun k hk => ?_⟩
    obtain ⟨b, off, rfl, hc⟩ := ints_at hcell (by omega)
    have hck := hc k (by omega)
    exact ⟨b, off, _, rfl, lt_of_cell hck, hck, trivial⟩
theorem open_nints {H : Type} {enc : TypeId × Value → H} {W : World} {A : Option Addr} {len cap : Nat} {d : DataW H} {p : List MemPlace}
    (h : DataW.Trod enc Tryz.prog W 0 (fun _ => true) true 101 (.slice A len cap) d p) :
    len ≤ maxLen ∧ NumsAt .i64 isI64 W W.heap.size A len := by
  obtain ⟨fuel, hf⟩ := h
  rcases open_ints Tryz.underlying101 Tryz.underlying3 cInt hf with ⟨hcs, _⟩ | ⟨a, len', cap', zs, hcs, _, hl, hm, hz, _, hcell, hwz⟩
  · have e : (Value.slice A len cap) = .slice none 0 0 := by simpa [Value.cells] using hcs
    cases e
    exact ⟨by unfold maxLen; omega, fun k hk => absurd hk (by omega)⟩
  · have e : (Value.slice A len cap) = .slice (some a) len' cap' := by simpa [Value.cells] using hcs
    cases e
    simp only [if_true] at hz
    refine ⟨by omega, fun k hk => ?_⟩
    obtain ⟨b, off, rfl, hc⟩ := ints_at hcell (by omega)
    have hck := hc k (by omega)
    exact ⟨b, off, _, rfl, lt_of_cell hck, hck, bounds_i64' (hwz _ (by rw [List.getD_eq_getElem?_getD, List.getElem?_eq_getElem (show k < zs.length by omega)]; exact List.getElem_mem _))⟩
end Go.Proofs.YthghcffibljclaaGreatDoor
