/- Jobs and wishes in memory: written whole, and in part. -/
import Derived.Test.YtbaobjbckabnhaaGreatDoorKUHold
namespace Go.Proofs.YtbaobjbckabnhaaGreatDoor
open Go.RowKit

abbrev set11V (W : World) (g : Nat) (u0 u1 u2 u3 u4 u5 u6 u7 u8 u9 u10 : Value) : World := ((((((((((W.setCell ⟨g, 0, none⟩ u0).setCell ⟨g, 1, none⟩ u1).setCell ⟨g, 2, none⟩ u2).setCell ⟨g, 3, none⟩ u3).setCell ⟨g, 4, none⟩ u4).setCell ⟨g, 5, none⟩ u5).setCell ⟨g, 6, none⟩ u6).setCell ⟨g, 7, none⟩ u7).setCell ⟨g, 8, none⟩ u8).setCell ⟨g, 9, none⟩ u9).setCell ⟨g, 10, none⟩ u10
abbrev set6V (W : World) (g : Nat) (u0 u1 u2 u3 u4 u5 : Value) : World := (((((W.setCell ⟨g, 0, none⟩ u0).setCell ⟨g, 1, none⟩ u1).setCell ⟨g, 2, none⟩ u2).setCell ⟨g, 3, none⟩ u3).setCell ⟨g, 4, none⟩ u4).setCell ⟨g, 5, none⟩ u5
abbrev setCV (W : World) (g : Nat) (u0 u1 u2 u3 u4 : Value) : World := ((((W.setCell ⟨g, 2, none⟩ u0).setCell ⟨g, 3, none⟩ u1).setCell ⟨g, 4, none⟩ u2).setCell ⟨g, 5, none⟩ u3).setCell ⟨g, 6, none⟩ u4
theorem box_set11 {W : World} {g : Nat} {t : TypeId} {x0 x1 x2 x3 x4 x5 x6 x7 x8 x9 x10 : Value} (h : D.Box W g t #[x0, x1, x2, x3, x4, x5, x6, x7, x8, x9, x10]) (u0 u1 u2 u3 u4 u5 u6 u7 u8 u9 u10 : Value) : D.Box (set11V W g u0 u1 u2 u3 u4 u5 u6 u7 u8 u9 u10) g t #[u0, u1, u2, u3, u4, u5, u6, u7, u8, u9, u10] := by
  have h0 : D.Box _ g t #[u0, x1, x2, x3, x4, x5, x6, x7, x8, x9, x10] := h.set 0 u0
  have h1 : D.Box _ g t #[u0, u1, x2, x3, x4, x5, x6, x7, x8, x9, x10] := h0.set 1 u1
  have h2 : D.Box _ g t #[u0, u1, u2, x3, x4, x5, x6, x7, x8, x9, x10] := h1.set 2 u2
  have h3 : D.Box _ g t #[u0, u1, u2, u3, x4, x5, x6, x7, x8, x9, x10] := h2.set 3 u3
  have h4 : D.Box _ g t #[u0, u1, u2, u3, u4, x5, x6, x7, x8, x9, x10] := h3.set 4 u4
  have h5 : D.Box _ g t #[u0, u1, u2, u3, u4, u5, x6, x7, x8, x9, x10] := h4.set 5 u5
  have h6 : D.Box _ g t #[u0, u1, u2, u3, u4, u5, u6, x7, x8, x9, x10] := h5.set 6 u6
  have h7 : D.Box _ g t #[u0, u1, u2, u3, u4, u5, u6, u7, x8, x9, x10] := h6.set 7 u7
  have h8 : D.Box _ g t #[u0, u1, u2, u3, u4, u5, u6, u7, u8, x9, x10] := h7.set 8 u8
  have h9 : D.Box _ g t #[u0, u1, u2, u3, u4, u5, u6, u7, u8, u9, x10] := h8.set 9 u9
  have h10 : D.Box _ g t #[u0, u1, u2, u3, u4, u5, u6, u7, u8, u9, u10] := h9.set 10 u10
  exact h10
theorem box_set6 {W : World} {g : Nat} {t : TypeId} {x0 x1 x2 x3 x4 x5 : Value} (h : D.Box W g t #[x0, x1, x2, x3, x4, x5]) (u0 u1 u2 u3 u4 u5 : Value) : D.Box (set6V W g u0 u1 u2 u3 u4 u5) g t #[u0, u1, u2, u3, u4, u5] := by
  have h0 : D.Box _ g t #[u0, x1, x2, x3, x4, x5] := h.set 0 u0
  have h1 : D.Box _ g t #[u0, u1, x2, x3, x4, x5] := h0.set 1 u1
  have h2 : D.Box _ g t #[u0, u1, u2, x3, x4, x5] := h1.set 2 u2
  have h3 : D.Box _ g t #[u0, u1, u2, u3, x4, x5] := h2.set 3 u3
  have h4 : D.Box _ g t #[u0, u1, u2, u3, u4, x5] := h3.set 4 u4
  have h5 : D.Box _ g t #[u0, u1, u2, u3, u4, u5] := h4.set 5 u5
  exact h5
theorem box_setC {W : World} {g : Nat} {t : TypeId} {x0 x1 x2 x3 x4 x5 x6 x7 x8 x9 x10 : Value} (h : D.Box W g t #[x0, x1, x2, x3, x4, x5, x6, x7, x8, x9, x10]) (u0 u1 u2 u3 u4 : Value) : D.Box (setCV W g u0 u1 u2 u3 u4) g t #[x0, x1, u0, u1, u2, u3, u4, x7, x8, x9, x10] := by
  have h0 : D.Box _ g t #[x0, x1, u0, x3, x4, x5, x6, x7, x8, x9, x10] := h.set 2 u0
  have h1 : D.Box _ g t #[x0, x1, u0, u1, x4, x5, x6, x7, x8, x9, x10] := h0.set 3 u1
  have h2 : D.Box _ g t #[x0, x1, u0, u1, u2, x5, x6, x7, x8, x9, x10] := h1.set 4 u2
  have h3 : D.Box _ g t #[x0, x1, u0, u1, u2, u3, x6, x7, x8, x9, x10] := h2.set 5 u3
  have h4 : D.Box _ g t #[x0, x1, u0, u1, u2, u3, u4, x7, x8, x9, x10] := h3.set 6 u4
  exact h4
theorem sole_11 {B g : Nat} {w W : World} (h : Sole g B w W) (u0 u1 u2 u3 u4 u5 u6 u7 u8 u9 u10 : Value) : Sole g B w (set11V W g u0 u1 u2 u3 u4 u5 u6 u7 u8 u9 u10) := (((((((((((h.set u0).set u1).set u2).set u3).set u4).set u5).set u6).set u7).set u8).set u9).set u10)
theorem sole_6 {B g : Nat} {w W : World} (h : Sole g B w W) (u0 u1 u2 u3 u4 u5 : Value) : Sole g B w (set6V W g u0 u1 u2 u3 u4 u5) := ((((((h.set u0).set u1).set u2).set u3).set u4).set u5)
theorem sole_C {B g : Nat} {w W : World} (h : Sole g B w W) (u0 u1 u2 u3 u4 : Value) : Sole g B w (setCV W g u0 u1 u2 u3 u4) := (((((h.set u0).set u1).set u2).set u3).set u4)
theorem below_11 {B g : Nat} {w W : World} (h : Below B w W) (hg : B ≤ g) (u0 u1 u2 u3 u4 u5 u6 u7 u8 u9 u10 : Value) : Below B w (set11V W g u0 u1 u2 u3 u4 u5 u6 u7 u8 u9 u10) := (sole_11 (Sole.of h) u0 u1 u2 u3 u4 u5 u6 u7 u8 u9 u10).below hg (Nat.le_refl _)
theorem below_6 {B g : Nat} {w W : World} (h : Below B w W) (hg : B ≤ g) (u0 u1 u2 u3 u4 u5 : Value) : Below B w (set6V W g u0 u1 u2 u3 u4 u5) := (sole_6 (Sole.of h) u0 u1 u2 u3 u4 u5).below hg (Nat.le_refl _)
theorem below_C {B g : Nat} {w W : World} (h : Below B w W) (hg : B ≤ g) (u0 u1 u2 u3 u4 : Value) : Below B w (setCV W g u0 u1 u2 u3 u4) := (sole_C (Sole.of h) u0 u1 u2 u3 u4).below hg (Nat.le_refl _)
theorem far_11 {W : World} {p g : Nat} {t : TypeId} {cs : Array Value} (h : D.Box W p t cs) (hp : p ≠ g) (u0 u1 u2 u3 u4 u5 u6 u7 u8 u9 u10 : Value) : D.Box (set11V W g u0 u1 u2 u3 u4 u5 u6 u7 u8 u9 u10) p t cs := (((((((((((h.far hp u0).far hp u1).far hp u2).far hp u3).far hp u4).far hp u5).far hp u6).far hp u7).far hp u8).far hp u9).far hp u10)
theorem far_6 {W : World} {p g : Nat} {t : TypeId} {cs : Array Value} (h : D.Box W p t cs) (hp : p ≠ g) (u0 u1 u2 u3 u4 u5 : Value) : D.Box (set6V W g u0 u1 u2 u3 u4 u5) p t cs := ((((((h.far hp u0).far hp u1).far hp u2).far hp u3).far hp u4).far hp u5)
theorem far_C {W : World} {p g : Nat} {t : TypeId} {cs : Array Value} (h : D.Box W p t cs) (hp : p ≠ g) (u0 u1 u2 u3 u4 : Value) : D.Box (setCV W g u0 u1 u2 u3 u4) p t cs := (((((h.far hp u0).far hp u1).far hp u2).far hp u3).far hp u4)
theorem size_11 (W : World) (g : Nat) (u0 u1 u2 u3 u4 u5 u6 u7 u8 u9 u10 : Value) : (set11V W g u0 u1 u2 u3 u4 u5 u6 u7 u8 u9 u10).heap.size = W.heap.size := by simp
section
variable {w w' : World} {g p : Nat} {j : JobZ}
theorem JobAt.frozen (h : JobAt w g j) (k : Nat) : w.frozen? ⟨g, k, none⟩ = false := D.Box.frozen h.2 k
theorem JobAt.block (h : JobAt w g j) (hs : Sole p w.heap.size w w') (hn : g ≠ p) : JobAt w' g j := ⟨h.1, (hs.block g h.lt hn).trans h.2⟩
end
theorem JobAt.set11 {w : World} {g : Nat} {j : JobZ} (h : JobAt w g j) (n : Int) (o : Bool) (a b c d e : BitVec 64) (t ov ca re : Int) :
    JobAt (set11V w g (.int .u32 n) (.bool o) (.int .u64 (U a)) (.int .u64 (U b)) (.int .u64 (U c)) (.int .u64 (U d)) (.int .u64 (U e)) (.int .i64 t) (.int .i64 ov) (.int .i64 ca) (.int .i64 re)) g ⟨n, o, [a, b, c, d, e], t, ov, ca, re⟩ := by
  obtain ⟨n', o', L, t', ov', ca', re'⟩ := j
  obtain ⟨h5, hb⟩ := h
  obtain ⟨a', b', c', d', e', rfl⟩ := list_five h5
  have hb : D.Box w g 33 #[.int .u32 n', .bool o', .int .u64 (U a'), .int .u64 (U b'), .int .u64 (U c'), .int .u64 (U d'), .int .u64 (U e'), .int .i64 t', .int .i64 ov', .int .i64 ca', .int .i64 re'] := hb
  exact ⟨rfl, box_set11 hb _ _ _ _ _ _ _ _ _ _ _⟩
theorem JobAt.setC {w : World} {g : Nat} {n : Int} {o : Bool} {a b c d e : BitVec 64} {t ov ca re : Int} (h : JobAt w g ⟨n, o, [a, b, c, d, e], t, ov, ca, re⟩) (a' b' c' d' e' : BitVec 64) :
    JobAt (setCV w g (.int .u64 (U a')) (.int .u64 (U b')) (.int .u64 (U c')) (.int .u64 (U d')) (.int .u64 (U e'))) g ⟨n, o, [a', b', c', d', e'], t, ov, ca, re⟩ := by
  have hb : D.Box w g 33 #[.int .u32 n, .bool o, .int .u64 (U a), .int .u64 (U b), .int .u64 (U c), .int .u64 (U d), .int .u64 (U e), .int .i64 t, .int .i64 ov, .int .i64 ca, .int .i64 re] := h.2
  exact ⟨rfl, box_setC hb _ _ _ _ _⟩
/-- A wish in memory. -/
def wishC (x : WishZ) : List Value := [.int .u32 x.n, strV x.s, .int .i64 x.t, .int .i64 x.ov, .int .i64 x.ca, .int .i64 x.re]
def wishV (x : WishZ) : Value := .agg (wishC x).toArray
theorem wishV_six (n : Int) (s : List UInt8) (t ov ca re : Int) : wishV ⟨n, s, t, ov, ca, re⟩ = .agg #[.int .u32 n, .string ⟨s.toArray⟩, .int .i64 t, .int .i64 ov, .int .i64 ca, .int .i64 re] := rfl
def WishAt (w : World) (g : Nat) (x : WishZ) : Prop := D.Box w g 26 (wishC x).toArray
section
variable {w w' : World} {g p : Nat} {x : WishZ}
theorem WishAt.lt (h : WishAt w g x) : g < w.heap.size := D.Box.lt h
theorem WishAt.below {B : Nat} (h : WishAt w g x) (hb : Below B w w') (hg : g < B) : WishAt w' g x := D.Box.below h hb hg
theorem WishAt.on (h : WishAt w g x) (hb : Below w.heap.size w w') : WishAt w' g x := h.below hb h.lt
theorem WishAt.alloc (h : WishAt w g x) (o : Obj) : WishAt (w.alloc o) g x := D.Box.alloc h o
theorem WishAt.frozen (h : WishAt w g x) (k : Nat) : w.frozen? ⟨g, k, none⟩ = false := D.Box.frozen h k
theorem WishAt.block (h : WishAt w g x) (hs : Sole p w.heap.size w w') (hn : g ≠ p) : WishAt w' g x := (hs.block g h.lt hn).trans h
end
theorem WishAt.new (w : World) (n : Int) (s : List UInt8) (t ov ca re : Int) : WishAt (w.alloc (.cells #[.int .u32 n, .string ⟨s.toArray⟩, .int .i64 t, .int .i64 ov, .int .i64 ca, .int .i64 re] 26)) w.heap.size ⟨n, s, t, ov, ca, re⟩ := D.Box.new _ _ _
theorem WishAt.cells {w : World} {g : Nat} {n : Int} {s : List UInt8} {t ov ca re : Int} (h : WishAt w g ⟨n, s, t, ov, ca, re⟩) :
    w.cell? ⟨g, 0, none⟩ = some (.int .u32 n) ∧ w.cell? ⟨g, 1, none⟩ = some (.string ⟨s.toArray⟩) ∧ w.cell? ⟨g, 2, none⟩ = some (.int .i64 t) ∧ w.cell? ⟨g, 3, none⟩ = some (.int .i64 ov) ∧ w.cell? ⟨g, 4, none⟩ = some (.int .i64 ca) ∧ w.cell? ⟨g, 5, none⟩ = some (.int .i64 re) :=
  ⟨D.Box.cell h 0, D.Box.cell h 1, D.Box.cell h 2, D.Box.cell h 3, D.Box.cell h 4, D.Box.cell h 5⟩
theorem WishAt.set6 {w : World} {g : Nat} {x : WishZ} (h : WishAt w g x) (n : Int) (s : List UInt8) (t ov ca re : Int) :
    WishAt (set6V w g (.int .u32 n) (.string ⟨s.toArray⟩) (.int .i64 t) (.int .i64 ov) (.int .i64 ca) (.int .i64 re)) g ⟨n, s, t, ov, ca, re⟩ := box_set6 h _ _ _ _ _ _
theorem wish_new (w : World) (n : Int) (s : List UInt8) (t ov ca re : Int) : ∃ W : World, W = w.alloc (.cells #[.int .u32 n, .string ⟨s.toArray⟩, .int .i64 t, .int .i64 ov, .int .i64 ca, .int .i64 re] 26) ∧ Below w.heap.size w W ∧ WishAt W w.heap.size ⟨n, s, t, ov, ca, re⟩ ∧ W.heap.size = w.heap.size + 1 :=
  ⟨_, rfl, (Below.refl _ w).alloc (Nat.le_refl _) _, WishAt.new w n s t ov ca re, by simp⟩
theorem box_eleven {W : World} {g : Nat} {t : TypeId} {x0 x1 x2 x3 x4 x5 x6 x7 x8 x9 x10 : Value} (h : D.Box W g t #[x0, x1, x2, x3, x4, x5, x6, x7, x8, x9, x10]) : W.cell? ⟨g, 0, none⟩ = some x0 ∧ W.cell? ⟨g, 1, none⟩ = some x1 ∧ W.cell? ⟨g, 2, none⟩ = some x2 ∧ W.cell? ⟨g, 3, none⟩ = some x3 ∧ W.cell? ⟨g, 4, none⟩ = some x4 ∧ W.cell? ⟨g, 5, none⟩ = some x5 ∧ W.cell? ⟨g, 6, none⟩ = some x6 ∧ W.cell? ⟨g, 7, none⟩ = some x7 ∧ W.cell? ⟨g, 8, none⟩ = some x8 ∧ W.cell? ⟨g, 9, none⟩ = some x9 ∧ W.cell? ⟨g, 10, none⟩ = some x10 :=
  ⟨D.Box.cell h 0, D.Box.cell h 1, D.Box.cell h 2, D.Box.cell h 3, D.Box.cell h 4, D.Box.cell h 5, D.Box.cell h 6, D.Box.cell h 7, D.Box.cell h 8, D.Box.cell h 9, D.Box.cell h 10⟩
/-- Rows of wishes that come in. -/
def WishesAt (w : World) (B : Nat) (A : Option Addr) (n : Nat) : Prop := ∀ k, k < n → ∃ b off, ∃ z : WishZ, A = some ⟨b, off, none⟩ ∧ b < B ∧ z.Fit ∧ z.s.length ≤ maxLen ∧ w.cell? ⟨b, off + k * 6, none⟩ = some (.int .u32 z.n) ∧ w.cell? ⟨b, off + k * 6 + 1, none⟩ = some (strV z.s) ∧ w.cell? ⟨b, off + k * 6 + 2, none⟩ = some (.int .i64 z.t) ∧ w.cell? ⟨b, off + k * 6 + 3, none⟩ = some (.int .i64 z.ov) ∧ w.cell? ⟨b, off + k * 6 + 4, none⟩ = some (.int .i64 z.ca) ∧ w.cell? ⟨b, off + k * 6 + 5, none⟩ = some (.int .i64 z.re)
theorem WishesAt.on {w w' : World} {A : Option Addr} {n : Nat} (h : WishesAt w w.heap.size A n) (hb : Below w.heap.size w w') : WishesAt w' w.heap.size A n := fun k hk => by
  obtain ⟨b, off, z, rfl, hlt, hf, hs, c0, c1, c2, c3, c4, c5⟩ := h k hk
  exact ⟨b, off, z, rfl, hlt, hf, hs, (hb.cell (p := ⟨b, _, none⟩) hlt).trans c0, (hb.cell (p := ⟨b, _, none⟩) hlt).trans c1, (hb.cell (p := ⟨b, _, none⟩) hlt).trans c2, (hb.cell (p := ⟨b, _, none⟩) hlt).trans c3, (hb.cell (p := ⟨b, _, none⟩) hlt).trans c4, (hb.cell (p := ⟨b, _, none⟩) hlt).trans c5⟩
/-- Rows of spans that come in. -/
def SpansAt (w : World) (B : Nat) (A : Option Addr) (n : Nat) : Prop := ∀ k, k < n → ∃ b off, ∃ s0 s1 : Int, A = some ⟨b, off, none⟩ ∧ b < B ∧ w.cell? ⟨b, off + k * 2, none⟩ = some (.int .i64 s0) ∧ w.cell? ⟨b, off + k * 2 + 1, none⟩ = some (.int .i64 s1)
theorem SpansAt.on {w w' : World} {A : Option Addr} {n : Nat} (h : SpansAt w w.heap.size A n) (hb : Below w.heap.size w w') : SpansAt w' w.heap.size A n := fun k hk => by
  obtain ⟨b, off, s0, s1, rfl, hlt, c0, c1⟩ := h k hk
  exact ⟨b, off, s0, s1, rfl, hlt, (hb.cell (p := ⟨b, _, none⟩) hlt).trans c0, (hb.cell (p := ⟨b, _, none⟩) hlt).trans c1⟩
end Go.Proofs.YtbaobjbckabnhaaGreatDoor
