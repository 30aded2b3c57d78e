/- What comes in: dues, rows of dues, of times, of acts. -/
import Derived.Test.YtidgiohjgkfjcaaDoorLift
import Derived.Test.YtidgiohjgkfjcaaDoorQRow
import Derived.Test.YtidgiohjgkfjcaaDoorQAct
import Derived.Lib.SmallJoins
import Derived.Deep.Strs
import Derived.Deep.Grids
import Derived.Deep.Slices
import Derived.Deep.Matrix
import Derived.Deep.Fields
namespace Go.Proofs.YtidgiohjgkfjcaaDoor
open Go.ChangeShapes Go.WideShapes Go.ChangeAt Go.WideMaps Go.WideElems Go.RowKit Go.Deep Go.Joins

theorem bounds_u64q {a : Int} (h : (Lit.int .u64 a).wf = true) : 0 ≤ a ∧ a ≤ 18446744073709551615 := by
  simp [Lit.wf, IntKind.min, IntKind.max, IntKind.bits, IntKind.signed] at h; omega
theorem bounds_u32q {a : Int} (h : (Lit.int .u32 a).wf = true) : 0 ≤ a ∧ a ≤ 4294967295 := by
  simp [Lit.wf, IntKind.min, IntKind.max, IntKind.bits, IntKind.signed] at h; omega
theorem bounds_i64q {a : Int} (h : (Lit.int .i64 a).wf = true) : -9223372036854775808 ≤ a ∧ a ≤ 9223372036854775807 := by
  simp [Lit.wf, IntKind.min, IntKind.max, IntKind.bits, IntKind.signed] at h; omega
theorem cDue : Tryd.prog.cellsOf 39 = 2 := by kernel_rfl
theorem cActQ : Tryd.prog.cellsOf 34 = 4 := by kernel_rfl
theorem cI64q : Tryd.prog.cellsOf 2 = 1 := by kernel_rfl
theorem cU64q : Tryd.prog.cellsOf 32 = 1 := by kernel_rfl
theorem cIntq : Tryd.prog.cellsOf 3 = 1 := by kernel_rfl
theorem cBoolq : Tryd.prog.cellsOf 4 = 1 := by kernel_rfl
theorem qlt_of_cell {w : World} {b o : Nat} {v : Value} (h : w.cell? ⟨b, o, none⟩ = some v) : b < w.heap.size := by
  rcases Nat.lt_or_ge b w.heap.size with hl | hl
  · exact hl
  · unfold World.cell? at h; rw [Array.getElem?_eq_none (by simpa using hl)] at h; simp at h
theorem qchoose_list {α : Type} {P : Nat → α → Prop} : ∀ (n : Nat), (∀ k, k < n → ∃ x, P k x) → ∃ l : List α, l.length = n ∧ ∀ k, k < n → ∃ x, l[k]? = some x ∧ P k x
  | 0, _ => ⟨[], rfl, fun k hk => absurd hk (by omega)⟩
  | n + 1, h => by
    obtain ⟨l, hl, hp⟩ := qchoose_list n (fun k hk => h k (by omega))
    obtain ⟨x, hx⟩ := h n (by omega)
    refine ⟨l ++ [x], by simp [hl], fun k hk => ?_⟩
    by_cases hkn : k < n
    · obtain ⟨y, h1, h2⟩ := hp k hkn
      exact ⟨y, by rw [List.getElem?_append_left (by omega)]; exact h1, h2⟩
    · obtain rfl : k = n := by omega
      exact ⟨x, by rw [← hl]; simp, hx⟩
set_option maxRecDepth 100000 in
theorem due_cells {H : Type} {enc : TypeId × Value → H} {W : World} {fuel : Nat} {v0 v1 : Value} {x : DataW H × List MemPlace}
    (h : DataW.trod enc Tryd.prog W 0 (fun _ => true) true fuel 39 [v0, v1] = some x) : ∃ a b : Int, v0 = .int .i64 a ∧ v1 = .int .u64 b ∧ (Lit.int .i64 a).wf = true ∧ 0 ≤ b := by
  obtain ⟨ys, n', _, _, _, hyl, hfl⟩ := DataW.trod_struct Tryd.underlying39 h
  match ys, hyl with
  | [y0, y1], _ =>
    have g0 : DataW.trod enc Tryd.prog W 0 (fun _ => true) true n' 2 [v0] = some y0 := by have := hfl 0 _ rfl; simpa [cI64q, cU64q] using this
    have g1 : DataW.trod enc Tryd.prog W 0 (fun _ => true) true n' 32 [v1] = some y1 := by have := hfl 1 _ rfl; simpa [cI64q, cU64q] using this
    obtain ⟨z0, e0, _, w0⟩ := DataW.trod_int Tryd.underlying2 g0
    obtain ⟨z1, e1, _, w1⟩ := DataW.trod_int Tryd.underlying32 g1
    injection e0 with e0; injection e1 with e1
    exact ⟨z0, z1, e0, e1, w0, (bounds_u64q w1).1⟩
set_option maxRecDepth 100000 in
theorem open_due {H : Type} {enc : TypeId × Value → H} {W : World} {b0 : Nat} {v : Value} {d : DataW H} {p : List MemPlace}
    (hv : Value.okWide Tryd.prog W .any b0 39 v) (h : DataW.Trod enc Tryd.prog W 0 (fun _ => true) true 39 v d p) : ∃ a b : Int, v = dueV (a, b) ∧ 0 ≤ b := by
  obtain ⟨cs, rfl, hsz⟩ := okWide_struct Tryd.underlying39 hv
  rw [cDue] at hsz
  obtain ⟨l⟩ := cs
  match l, hsz with
  | [c0, c1], _ =>
    obtain ⟨fuel, hf⟩ := h
    obtain ⟨a, b, rfl, rfl, _, h0⟩ := due_cells hf
    exact ⟨a, b, rfl, h0⟩
set_option maxRecDepth 100000 in
theorem open_dues {H : Type} {enc : TypeId × Value → H} {W : World} {A : Option Addr} {len cap : Nat} {d : DataW H} {p : List MemPlace}
    (h : DataW.Trod enc Tryd.prog W 0 (fun _ => true) true 29 (.slice A len cap) d p) :
    ∃ l : List (Int × Int), DuesR W W.heap.size A len cap l ∧ ∀ d ∈ l, 0 ≤ d.2 := by
  obtain ⟨fuel, hf⟩ := h
  rcases open_slice Tryd.underlying29 hf with ⟨hcs, _⟩ | ⟨a, len', cap', m, q, D, Pl, hcs, _, hl, hm, hmm, _, hi⟩
  · have e : (Value.slice A len cap) = .slice none 0 0 := by simpa [Value.cells] using hcs
    cases e
    exact ⟨[], .none_ _ _, fun d hd => by simp at hd⟩
  · have e : (Value.slice A len cap) = .slice (some a) len' cap' := by simpa [Value.cells] using hcs
    cases e
    simp only [if_true] at hmm
    subst hmm
    rw [cDue] at hi
    have hall : ∀ k, k < len → ∃ x : Int × Int, ∃ g o, a = ⟨g, o, none⟩ ∧ g < W.heap.size ∧ 0 ≤ x.2 ∧
        W.cell? ⟨g, o + k * 2, none⟩ = some (.int .i64 x.1) ∧ W.cell? ⟨g, o + k * 2 + 1, none⟩ = some (.int .u64 x.2) := by
      intro k hk
      obtain ⟨b, off, rfl⟩ : ∃ b off, a = ⟨b, off, none⟩ := by
        obtain ⟨cs', hc, _⟩ := hi 0 (by omega)
        obtain ⟨_, hlen, hat⟩ := World.cells?_some hc
        have k0 := hat 0 (by omega)
        rw [List.getElem?_eq_getElem (by omega)] at k0
        obtain ⟨b, off, spot⟩ := a
        have hspot : spot = none := by simpa [Addr.add] using World.cell?_spot k0
        subst hspot
        exact ⟨b, off, rfl⟩
      obtain ⟨cs', hc, ht⟩ := hi k (by omega)
      obtain ⟨_, hlen, hat⟩ := World.cells?_some hc
      match cs', hlen with
      | [v0, v1], _ =>
        obtain ⟨x0, x1, rfl, rfl, _, h0⟩ := due_cells ht
        have k0 := hat 0 (by omega)
        have k1 := hat 1 (by omega)
        rw [Go.WideShapes.add_plain, Go.WideShapes.add_plain] at k0 k1
        exact ⟨(x0, x1), b, off, rfl, qlt_of_cell k0, h0, k0, k1⟩
    obtain ⟨l, hlen, hp⟩ := qchoose_list len hall
    refine ⟨l, ⟨hlen, hl, hm, fun k r hk => ?_⟩, fun d hd => ?_⟩
    · obtain ⟨x, e1, g, o, rfl, hg, h0, c0, c1⟩ := hp k (by have := (List.getElem?_eq_some_iff.1 hk).1; omega)
      obtain rfl : x = r := Option.some.inj (e1.symm.trans hk)
      exact ⟨g, o, rfl, hg, c0, c1⟩
    · obtain ⟨k, hk, rfl⟩ := List.getElem_of_mem hd
      obtain ⟨x, e1, _, _, _, _, h0, _⟩ := hp k (by omega)
      rw [List.getElem?_eq_getElem hk] at e1
      cases e1; exact h0
/-- The slice reads these times. -/
structure TimesR (w : World) (B : Nat) (A : Option Addr) (n c : Nat) (l : List Int) : Prop where
  len : l.length = n
  cap : n ≤ c
  top : c ≤ maxLen
  at_ : ∀ k r, l[k]? = some r → ∃ b o, A = some ⟨b, o, none⟩ ∧ b < B ∧ w.cell? ⟨b, o + k, none⟩ = some (.int .i64 r)
theorem TimesR.below {w w' : World} {B n c : Nat} {A : Option Addr} {l : List Int} (h : TimesR w B A n c l) (hb : Below B w w') : TimesR w' B A n c l :=
  ⟨h.len, h.cap, h.top, fun k r hk => by
    obtain ⟨b, o, e, hl, h0⟩ := h.at_ k r hk
    exact ⟨b, o, e, hl, ((qbelow_cell hb).1 b _ hl).trans h0⟩⟩
theorem open_times {H : Type} {enc : TypeId × Value → H} {W : World} {A : Option Addr} {len cap : Nat} {d : DataW H} {p : List MemPlace}
    (h : DataW.Trod enc Tryd.prog W 0 (fun _ => true) true 63 (.slice A len cap) d p) : ∃ l : List Int, TimesR W W.heap.size A len cap l ∧ ∀ x ∈ l, -9223372036854775808 ≤ x ∧ x ≤ 9223372036854775807 := by
  obtain ⟨fuel, hf⟩ := h
  rcases open_ints Tryd.underlying63 Tryd.underlying2 cI64q hf with ⟨hcs, _⟩ | ⟨a, len', cap', zs, hcs, _, hl, hm, hz, _, hcell, hwz⟩
  · have e : (Value.slice A len cap) = .slice none 0 0 := by simpa [Value.cells] using hcs
    cases e
    exact ⟨[], ⟨rfl, by omega, by unfold maxLen; omega, fun k r hk => by simp at hk⟩, fun x hx => by simp at hx⟩
  · have e : (Value.slice A len cap) = .slice (some a) len' cap' := by simpa [Value.cells] using hcs
    cases e
    simp only [if_true] at hz
    refine ⟨zs.take len, ⟨by rw [List.length_take]; omega, hl, hm, fun k r hk => ?_⟩, fun x hx => ?_⟩
    · have hkl : k < len := by have := (List.getElem?_eq_some_iff.1 hk).1; rw [List.length_take] at this; omega
      obtain ⟨b, off, rfl, hc⟩ := ints_at hcell (by omega)
      have hck := hc k (by omega)
      rw [List.getElem?_take, if_pos hkl] at hk
      rw [List.getD_eq_getElem?_getD, hk] at hck
      exact ⟨b, off, rfl, qlt_of_cell hck, hck⟩
    · exact bounds_i64q (hwz _ (List.mem_of_mem_take hx))
/-- An act as it stands in memory. -/
structure ActE where
  k : Int
  a : Int
  num : Int
  on : Bool
deriving Inhabited
structure ActsR (w : World) (B : Nat) (A : Option Addr) (n c : Nat) (l : List ActE) : Prop where
  len : l.length = n
  cap : n ≤ c
  top : c ≤ maxLen
  at_ : ∀ k r, l[k]? = some r → ∃ b o, A = some ⟨b, o, none⟩ ∧ b < B ∧ w.cell? ⟨b, o + k * 4, none⟩ = some (.int .i64 r.k) ∧ w.cell? ⟨b, o + k * 4 + 1, none⟩ = some (.int .i64 r.a) ∧ w.cell? ⟨b, o + k * 4 + 2, none⟩ = some (.int .u64 r.num) ∧ w.cell? ⟨b, o + k * 4 + 3, none⟩ = some (.bool r.on)
theorem ActsR.below {w w' : World} {B n c : Nat} {A : Option Addr} {l : List ActE} (h : ActsR w B A n c l) (hb : Below B w w') : ActsR w' B A n c l :=
  ⟨h.len, h.cap, h.top, fun k r hk => by
    obtain ⟨b, o, e, hl, h0, h1, h2, h3⟩ := h.at_ k r hk
    exact ⟨b, o, e, hl, ((qbelow_cell hb).1 b _ hl).trans h0, ((qbelow_cell hb).1 b _ hl).trans h1, ((qbelow_cell hb).1 b _ hl).trans h2, ((qbelow_cell hb).1 b _ hl).trans h3⟩⟩
set_option maxRecDepth 100000 in
theorem open_acts {H : Type} {enc : TypeId × Value → H} {W : World} {A : Option Addr} {len cap : Nat} {d : DataW H} {p : List MemPlace}
    (h : DataW.Trod enc Tryd.prog W 0 (fun _ => true) true 22 (.slice A len cap) d p) :
    ∃ l : List ActE, ActsR W W.heap.size A len cap l ∧ ∀ x ∈ l, 0 ≤ x.num ∧ (-9223372036854775808 ≤ x.a ∧ x.a ≤ 9223372036854775807) ∧ (-9223372036854775808 ≤ x.k ∧ x.k ≤ 9223372036854775807) := by
  obtain ⟨fuel, hf⟩ := h
  rcases open_slice Tryd.underlying22 hf with ⟨hcs, _⟩ | ⟨a, len', cap', m, q, D, Pl, hcs, _, hl, hm, hmm, _, hi⟩
  · have e : (Value.slice A len cap) = .slice none 0 0 := by simpa [Value.cells] using hcs
    cases e
    exact ⟨[], ⟨rfl, by omega, by unfold maxLen; omega, fun k r hk => by simp at hk⟩, fun d hd => by simp at hd⟩
  · have e : (Value.slice A len cap) = .slice (some a) len' cap' := by simpa [Value.cells] using hcs
    cases e
    simp only [if_true] at hmm
    subst hmm
    rw [cActQ] at hi
    have hall : ∀ k, k < len → ∃ x : ActE, ∃ g o, a = ⟨g, o, none⟩ ∧ g < W.heap.size ∧ (0 ≤ x.num ∧ (-9223372036854775808 ≤ x.a ∧ x.a ≤ 9223372036854775807) ∧ (-9223372036854775808 ≤ x.k ∧ x.k ≤ 9223372036854775807)) ∧
        W.cell? ⟨g, o + k * 4, none⟩ = some (.int .i64 x.k) ∧ W.cell? ⟨g, o + k * 4 + 1, none⟩ = some (.int .i64 x.a) ∧ W.cell? ⟨g, o + k * 4 + 2, none⟩ = some (.int .u64 x.num) ∧ W.cell? ⟨g, o + k * 4 + 3, none⟩ = some (.bool x.on) := by
      intro k hk
      obtain ⟨b, off, rfl⟩ : ∃ b off, a = ⟨b, off, none⟩ := by
        obtain ⟨cs', hc, _⟩ := hi 0 (by omega)
        obtain ⟨_, hlen, hat⟩ := World.cells?_some hc
        have k0 := hat 0 (by omega)
        rw [List.getElem?_eq_getElem (by omega)] at k0
        obtain ⟨b, off, spot⟩ := a
        have hspot : spot = none := by simpa [Addr.add] using World.cell?_spot k0
        subst hspot
        exact ⟨b, off, rfl⟩
      obtain ⟨cs', hc, ht⟩ := hi k (by omega)
      obtain ⟨_, hlen, hat⟩ := World.cells?_some hc
      obtain ⟨ys, n', _, _, _, hyl, hfl⟩ := DataW.trod_struct Tryd.underlying34 ht
      match cs', hlen, ys, hyl with
      | [v0, v1, v2, v3], _, [y0, y1, y2, y3], _ =>
        have g0 : DataW.trod enc Tryd.prog W 0 (fun _ => true) true n' 3 [v0] = some y0 := by have := hfl 0 _ rfl; simpa [cIntq, cI64q, cU64q, cBoolq] using this
        have g1 : DataW.trod enc Tryd.prog W 0 (fun _ => true) true n' 2 [v1] = some y1 := by have := hfl 1 _ rfl; simpa [cIntq, cI64q, cU64q, cBoolq] using this
        have g2 : DataW.trod enc Tryd.prog W 0 (fun _ => true) true n' 32 [v2] = some y2 := by have := hfl 2 _ rfl; simpa [cIntq, cI64q, cU64q, cBoolq] using this
        have g3 : DataW.trod enc Tryd.prog W 0 (fun _ => true) true n' 4 [v3] = some y3 := by have := hfl 3 _ rfl; simpa [cIntq, cI64q, cU64q, cBoolq] using this
        obtain ⟨z0, e0, _, w0⟩ := DataW.trod_int Tryd.underlying3 g0
        obtain ⟨z1, e1, _, w1⟩ := DataW.trod_int Tryd.underlying2 g1
        obtain ⟨z2, e2, _, w2⟩ := DataW.trod_int Tryd.underlying32 g2
        obtain ⟨z3, e3, _⟩ := DataW.trod_bool Tryd.underlying4 g3
        injection e0 with e0; injection e1 with e1; injection e2 with e2; injection e3 with e3
        subst e0 e1 e2 e3
        have k0 := hat 0 (by omega)
        have k1 := hat 1 (by omega)
        have k2 := hat 2 (by omega)
        have k3 := hat 3 (by omega)
        rw [Go.WideShapes.add_plain, Go.WideShapes.add_plain] at k0 k1 k2 k3
        exact ⟨⟨z0, z1, z2, z3⟩, b, off, rfl, qlt_of_cell k0, ⟨(bounds_u64q w2).1, bounds_i64q w1, bounds_i64q w0⟩, k0, k1, k2, k3⟩
    obtain ⟨l, hlen, hp⟩ := qchoose_list len hall
    refine ⟨l, ⟨hlen, hl, hm, fun k r hk => ?_⟩, fun d hd => ?_⟩
    · obtain ⟨x, e1, g, o, rfl, hg, h0, c0, c1, c2, c3⟩ := hp k (by have := (List.getElem?_eq_some_iff.1 hk).1; omega)
      obtain rfl : x = r := Option.some.inj (e1.symm.trans hk)
      exact ⟨g, o, rfl, hg, c0, c1, c2, c3⟩
    · obtain ⟨k, hk, rfl⟩ := List.getElem_of_mem hd
      obtain ⟨x, e1, _, _, _, _, h0, _⟩ := hp k (by omega)
      rw [List.getElem?_eq_getElem hk] at e1
      cases e1; exact h0
end Go.Proofs.YtidgiohjgkfjcaaDoor
