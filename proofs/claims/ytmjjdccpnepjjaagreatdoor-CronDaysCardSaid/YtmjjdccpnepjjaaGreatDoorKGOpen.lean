/- What comes in: crons, rows of texts, crons, dates and times. -/
import Derived.Test.YtmjjdccpnepjjaaGreatDoorKGLift
import Derived.Test.YtmjjdccpnepjjaaGreatDoorKGTells7
import Derived.Lib.SmallJoins
import Derived.Deep.Strs
import Derived.Deep.Grids
import Derived.Deep.Slices
import Derived.Deep.Matrix
import Derived.Deep.Fields
namespace Go.Proofs.YtmjjdccpnepjjaaGreatDoor
open Go.ChangeShapes Go.WideShapes Go.ChangeAt Go.WideMaps Go.WideElems Go.RowKit Go.Deep Go.Joins

theorem bounds_u64 {a : Int} (h : (Lit.int .u64 a).wf = true) : 0 ≤ a ∧ a ≤ 18446744073709551615 := by
  simp [Lit.wf, IntKind.min, IntKind.max, IntKind.bits, IntKind.signed] at h; omega
theorem bounds_i64' {a : Int} (h : (Lit.int .i64 a).wf = true) : -9223372036854775808 ≤ a ∧ a ≤ 9223372036854775807 := by
  simp [Lit.wf, IntKind.min, IntKind.max, IntKind.bits, IntKind.signed] at h; omega
theorem mask_of {a : Int} (h : (Lit.int .u64 a).wf = true) : ∃ m : BitVec 64, a = U m := by
  obtain ⟨h0, h1⟩ := bounds_u64 h
  exact U_of a h0 h1
theorem cMask : Tryz.prog.cellsOf 25 = 1 := by kernel_rfl
theorem cCron : Tryz.prog.cellsOf 27 = 5 := by kernel_rfl
theorem cDate : Tryz.prog.cellsOf 47 = 3 := by kernel_rfl
theorem cI64 : Tryz.prog.cellsOf 2 = 1 := by kernel_rfl
theorem cron_cells {H : Type} {enc : TypeId × Value → H} {W : World} {fuel : Nat} {v0 v1 v2 v3 v4 : Value} {x : DataW H × List MemPlace}
    (h : DataW.trod enc Tryz.prog W 0 (fun _ => true) true fuel 27 [v0, v1, v2, v3, v4] = some x) : ∃ a b c d e : BitVec 64, v0 = .int .u64 (U a) ∧ v1 = .int .u64 (U b) ∧ v2 = .int .u64 (U c) ∧ v3 = .int .u64 (U d) ∧ v4 = .int .u64 (U e) := by
  obtain ⟨ys, n', _, _, _, hyl, hfl⟩ := DataW.trod_struct Tryz.underlying27 h
  match ys, hyl with
  | [y0, y1, y2, y3, y4], _ =>
    have g0 : DataW.trod enc Tryz.prog W 0 (fun _ => true) true n' 25 [v0] = some y0 := by have := hfl 0 _ rfl; simpa [cMask] using this
    have g1 : DataW.trod enc Tryz.prog W 0 (fun _ => true) true n' 25 [v1] = some y1 := by have := hfl 1 _ rfl; simpa [cMask] using this
    have g2 : DataW.trod enc Tryz.prog W 0 (fun _ => true) true n' 25 [v2] = some y2 := by have := hfl 2 _ rfl; simpa [cMask] using this
    have g3 : DataW.trod enc Tryz.prog W 0 (fun _ => true) true n' 25 [v3] = some y3 := by have := hfl 3 _ rfl; simpa [cMask] using this
    have g4 : DataW.trod enc Tryz.prog W 0 (fun _ => true) true n' 25 [v4] = some y4 := by have := hfl 4 _ rfl; simpa [cMask] using this
    obtain ⟨z0, e0, _, w0⟩ := DataW.trod_int Tryz.underlying25 g0
    obtain ⟨z1, e1, _, w1⟩ := DataW.trod_int Tryz.underlying25 g1
    obtain ⟨z2, e2, _, w2⟩ := DataW.trod_int Tryz.underlying25 g2
    obtain ⟨z3, e3, _, w3⟩ := DataW.trod_int Tryz.underlying25 g3
    obtain ⟨z4, e4, _, w4⟩ := DataW.trod_int Tryz.underlying25 g4
    injection e0 with e0; injection e1 with e1; injection e2 with e2; injection e3 with e3; injection e4 with e4
    obtain ⟨a, rfl⟩ := mask_of w0; obtain ⟨b, rfl⟩ := mask_of w1; obtain ⟨c, rfl⟩ := mask_of w2; obtain ⟨d, rfl⟩ := mask_of w3; obtain ⟨e, rfl⟩ := mask_of w4
    exact ⟨a, b, c, d, e, e0, e1, e2, e3, e4⟩
set_option maxRecDepth 100000 in
theorem open_cron {H : Type} {enc : TypeId × Value → H} {W : World} {b0 : Nat} {v : Value} {d : DataW H} {p : List MemPlace}
    (hv : Value.okWide Tryz.prog W .any b0 27 v) (h : DataW.Trod enc Tryz.prog W 0 (fun _ => true) true 27 v d p) : ∃ L : List (BitVec 64), L.length = 5 ∧ v = cronV L := by
  obtain ⟨cs, rfl, hsz⟩ := okWide_struct Tryz.underlying27 hv
  rw [cCron] at hsz
  obtain ⟨l⟩ := cs
  match l, hsz with
  | [c0, c1, c2, c3, c4], _ =>
    obtain ⟨fuel, hf⟩ := h
    obtain ⟨a, b, c, d, e, rfl, rfl, rfl, rfl, rfl⟩ := cron_cells hf
    exact ⟨[a, b, c, d, e], rfl, rfl⟩
set_option maxRecDepth 100000 in
theorem open_texts {H : Type} {enc : TypeId × Value → H} {W : World} {A : Option Addr} {len cap : Nat} {d : DataW H} {p : List MemPlace}
    (h : DataW.Trod enc Tryz.prog W 0 (fun _ => true) true 22 (.slice A len cap) d p) :
    len ≤ maxLen ∧ ArrS W W.heap.size A len := by
  obtain ⟨fuel, hf⟩ := h
  rcases open_strs Tryz.underlying22 Tryz.underlying9 cStr hf with ⟨hcs, _⟩ | ⟨a, len', cap', m, Sx, hcs, _, hl, hm, hz, _, hcell⟩
  · have e : (Value.slice A len cap) = .slice none 0 0 := by simpa [Value.cells] using hcs
    cases e
    exact ⟨by unfold maxLen; omega, fun k hk => absurd hk (by omega)⟩
  · have e : (Value.slice A len cap) = .slice (some a) len' cap' := by simpa [Value.cells] using hcs
    cases e
    simp only [if_true] at hz
    refine ⟨by omega, fun k hk => ?_⟩
    obtain ⟨b, off, rfl⟩ : ∃ b off, a = ⟨b, off, none⟩ := by
      have k0 := (hcell 0 (by omega)).1
      obtain ⟨b, off, spot⟩ := a
      have hspot : spot = none := by simpa [Addr.add] using World.cell?_spot k0
      subst hspot
      exact ⟨b, off, rfl⟩
    obtain ⟨hc, hs⟩ := hcell k (by omega)
    rw [Go.WideShapes.add_plain] at hc
    exact ⟨b, off, Sx k, rfl, lt_of_cell hc, hc, hs⟩
set_option maxRecDepth 100000 in
theorem open_crons {H : Type} {enc : TypeId × Value → H} {W : World} {A : Option Addr} {len cap : Nat} {d : DataW H} {p : List MemPlace}
    (h : DataW.Trod enc Tryz.prog W 0 (fun _ => true) true 37 (.slice A len cap) d p) :
    len ≤ maxLen ∧ CronsAt W W.heap.size A len := by
  obtain ⟨fuel, hf⟩ := h
  rcases open_slice Tryz.underlying37 hf with ⟨hcs, _⟩ | ⟨a, len', cap', m, q, D, Pl, hcs, _, hl, hm, hmm, _, hi⟩
  · have e : (Value.slice A len cap) = .slice none 0 0 := by simpa [Value.cells] using hcs
    cases e
    exact ⟨by unfold maxLen; omega, fun k hk => absurd hk (by omega)⟩
  · have e : (Value.slice A len cap) = .slice (some a) len' cap' := by simpa [Value.cells] using hcs
    cases e
    simp only [if_true] at hmm
    subst hmm
    rw [cCron] at hi
    refine ⟨by omega, fun k hk => ?_⟩
    obtain ⟨b, off, rfl⟩ : ∃ b off, a = ⟨b, off, none⟩ := by
      obtain ⟨cs', hc, _⟩ := hi 0 (by omega)
      obtain ⟨_, hlen, hat⟩ := World.cells?_some hc
      have k0 := hat 0 (by omega)
      rw [List.getElem?_eq_getElem (by omega)] at k0
      obtain ⟨b, off, spot⟩ := a
      have hspot : spot = none := by simpa [Addr.add] using World.cell?_spot k0
      subst hspot
      exact ⟨b, off, rfl⟩
    obtain ⟨cs', hc, ht⟩ := hi k (by omega)
    obtain ⟨_, hlen, hat⟩ := World.cells?_some hc
    match cs', hlen with
    | [v0, v1, v2, v3, v4], _ =>
      obtain ⟨a', b', c', d', e', rfl, rfl, rfl, rfl, rfl⟩ := cron_cells ht
      have k0 := hat 0 (by omega); have k1 := hat 1 (by omega); have k2 := hat 2 (by omega); have k3 := hat 3 (by omega); have k4 := hat 4 (by omega)
      rw [Go.WideShapes.add_plain, Go.WideShapes.add_plain] at k0 k1 k2 k3 k4
      exact ⟨b, off, a', b', c', d', e', rfl, lt_of_cell k0, k0, k1, k2, k3, k4⟩
set_option maxRecDepth 100000 in
theorem open_dates {H : Type} {enc : TypeId × Value → H} {W : World} {A : Option Addr} {len cap : Nat} {d : DataW H} {p : List MemPlace}
    (h : DataW.Trod enc Tryz.prog W 0 (fun _ => true) true 44 (.slice A len cap) d p) :
    len ≤ maxLen ∧ DatesAt W W.heap.size A len := by
  obtain ⟨fuel, hf⟩ := h
  rcases open_slice Tryz.underlying44 hf with ⟨hcs, _⟩ | ⟨a, len', cap', m, q, D, Pl, hcs, _, hl, hm, hmm, _, hi⟩
  · have e : (Value.slice A len cap) = .slice none 0 0 := by simpa [Value.cells] using hcs
    cases e
    exact ⟨by unfold maxLen; omega, fun k hk => absurd hk (by omega)⟩
  · have e : (Value.slice A len cap) = .slice (some a) len' cap' := by simpa [Value.cells] using hcs
    cases e
    simp only [if_true] at hmm
    subst hmm
    rw [cDate] at hi
    refine ⟨by omega, fun k hk => ?_⟩
    obtain ⟨b, off, rfl⟩ : ∃ b off, a = ⟨b, off, none⟩ := by
      obtain ⟨cs', hc, _⟩ := hi 0 (by omega)
      obtain ⟨_, hlen, hat⟩ := World.cells?_some hc
      have k0 := hat 0 (by omega)
      rw [List.getElem?_eq_getElem (by omega)] at k0
      obtain ⟨b, off, spot⟩ := a
      have hspot : spot = none := by simpa [Addr.add] using World.cell?_spot k0
      subst hspot
      exact ⟨b, off, rfl⟩
    obtain ⟨cs', hc, ht⟩ := hi k (by omega)
    obtain ⟨_, hlen, hat⟩ := World.cells?_some hc
    obtain ⟨ys, n', _, _, _, hyl, hfl⟩ := DataW.trod_struct Tryz.underlying47 ht
    match cs', hlen, ys, hyl with
    | [v0, v1, v2], _, [y0, y1, y2], _ =>
      have g0 : DataW.trod enc Tryz.prog W 0 (fun _ => true) true n' 3 [v0] = some y0 := by have := hfl 0 _ rfl; simpa [cInt] using this
      have g1 : DataW.trod enc Tryz.prog W 0 (fun _ => true) true n' 3 [v1] = some y1 := by have := hfl 1 _ rfl; simpa [cInt] using this
      have g2 : DataW.trod enc Tryz.prog W 0 (fun _ => true) true n' 3 [v2] = some y2 := by have := hfl 2 _ rfl; simpa [cInt] using this
      obtain ⟨z0, e0, _, _⟩ := DataW.trod_int Tryz.underlying3 g0
      obtain ⟨z1, e1, _, _⟩ := DataW.trod_int Tryz.underlying3 g1
      obtain ⟨z2, e2, _, _⟩ := DataW.trod_int Tryz.underlying3 g2
      injection e0 with e0; injection e1 with e1; injection e2 with e2
      subst e0 e1 e2
      have k0 := hat 0 (by omega); have k1 := hat 1 (by omega); have k2 := hat 2 (by omega)
      rw [Go.WideShapes.add_plain, Go.WideShapes.add_plain] at k0 k1 k2
      exact ⟨b, off, z0, z1, z2, rfl, lt_of_cell k0, k0, k1, k2⟩
set_option maxRecDepth 100000 in
theorem open_times {H : Type} {enc : TypeId × Value → H} {W : World} {A : Option Addr} {len cap : Nat} {d : DataW H} {p : List MemPlace}
    (h : DataW.Trod enc Tryz.prog W 0 (fun _ => true) true 45 (.slice A len cap) d p) :
    len ≤ maxLen ∧ TimesAt W W.heap.size A len := by
  obtain ⟨fuel, hf⟩ := h
  rcases open_ints Tryz.underlying45 Tryz.underlying2 cI64 hf with ⟨hcs, _⟩ | ⟨a, len', cap', zs, hcs, _, hl, hm, hz, _, hcell, hwz⟩
  · have e : (Value.slice A len cap) = .slice none 0 0 := by simpa [Value.cells] using hcs
    cases e
    exact ⟨by unfold maxLen; omega, fun k hk => absurd hk (by omega)⟩
  · have e : (Value.slice A len cap) = .slice (some a) len' cap' := by simpa [Value.cells] using hcs
    cases e
    simp only [if_true] at hz
    refine ⟨by omega, fun k hk => ?_⟩
    obtain ⟨b, off, rfl, hc⟩ := ints_at hcell (by omega)
    have hck := hc k (by omega)
    exact ⟨b, off, _, rfl, lt_of_cell hck, hck⟩
end Go.Proofs.YtmjjdccpnepjjaaGreatDoor
