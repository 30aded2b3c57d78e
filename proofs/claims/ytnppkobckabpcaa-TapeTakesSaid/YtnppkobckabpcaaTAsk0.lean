/- What is asked of a tape, and told: the variables of the call. -/
import Derived.Test.YtnppkobckabpcaaTAsks
namespace Go.Proofs.Ytnppkobckabpcaa
open Go.RowKit

/-- What is told: a number, one that may be below 0, a flag, bytes. -/
structure Told where
  z : Int
  i : Int
  f : Bool
  xs : List Nat
def toldV (s : Value) (t err z i : Int) (f : Bool) (b : Value) : Value := .agg #[s, .int .i64 t, .int .i64 err, .int .u64 z, .int .i64 i, .bool f, b]
def ToldAt (w : World) (base : Nat) (v : Value) (bs : List Nat) (t err : Int) (T : Told) : Prop :=
  ∃ s b, v = toldV s t err T.z T.i T.f b ∧ OwnB w base s bs ∧ OwnB w base b T.xs
def AskIs (w : World) (bs : List Nat) (t err : Int) (T : Told) (e : Ending) (w' : World) : Prop :=
  ∃ v, e = .returned v ∧ ToldAt w' w.heap.size v bs t err T ∧ Below w.heap.size w w'
theorem Box.s0 {w : World} {g : Nat} {t : TypeId} {a0 a1 a2 a3 a4 a5 a6 : Value} (h : Box w g t #[a0, a1, a2, a3, a4, a5, a6]) (u : Value) : Box (w.setCell ⟨g, 0, none⟩ u) g t #[u, a1, a2, a3, a4, a5, a6] := by simpa using h.set 0 u
theorem Box.s1 {w : World} {g : Nat} {t : TypeId} {a0 a1 a2 a3 a4 a5 a6 : Value} (h : Box w g t #[a0, a1, a2, a3, a4, a5, a6]) (u : Value) : Box (w.setCell ⟨g, 1, none⟩ u) g t #[a0, u, a2, a3, a4, a5, a6] := by simpa using h.set 1 u
theorem Box.s2 {w : World} {g : Nat} {t : TypeId} {a0 a1 a2 a3 a4 a5 a6 : Value} (h : Box w g t #[a0, a1, a2, a3, a4, a5, a6]) (u : Value) : Box (w.setCell ⟨g, 2, none⟩ u) g t #[a0, a1, u, a3, a4, a5, a6] := by simpa using h.set 2 u
theorem Box.s3 {w : World} {g : Nat} {t : TypeId} {a0 a1 a2 a3 a4 a5 a6 : Value} (h : Box w g t #[a0, a1, a2, a3, a4, a5, a6]) (u : Value) : Box (w.setCell ⟨g, 3, none⟩ u) g t #[a0, a1, a2, u, a4, a5, a6] := by simpa using h.set 3 u
theorem Box.s4 {w : World} {g : Nat} {t : TypeId} {a0 a1 a2 a3 a4 a5 a6 : Value} (h : Box w g t #[a0, a1, a2, a3, a4, a5, a6]) (u : Value) : Box (w.setCell ⟨g, 4, none⟩ u) g t #[a0, a1, a2, a3, u, a5, a6] := by simpa using h.set 4 u
theorem Box.s5 {w : World} {g : Nat} {t : TypeId} {a0 a1 a2 a3 a4 a5 a6 : Value} (h : Box w g t #[a0, a1, a2, a3, a4, a5, a6]) (u : Value) : Box (w.setCell ⟨g, 5, none⟩ u) g t #[a0, a1, a2, a3, a4, u, a6] := by simpa using h.set 5 u
theorem Box.s6 {w : World} {g : Nat} {t : TypeId} {a0 a1 a2 a3 a4 a5 a6 : Value} (h : Box w g t #[a0, a1, a2, a3, a4, a5, a6]) (u : Value) : Box (w.setCell ⟨g, 6, none⟩ u) g t #[a0, a1, a2, a3, a4, a5, u] := by simpa using h.set 6 u
theorem Box.set7 {w : World} {g : Nat} {t : TypeId} {a0 a1 a2 a3 a4 a5 a6 : Value} (h : Box w g t #[a0, a1, a2, a3, a4, a5, a6]) (u0 u1 u2 u3 u4 u5 u6 : Value) :
    Box (((((((w.setCell ⟨g, 0, none⟩ u0).setCell ⟨g, 1, none⟩ u1).setCell ⟨g, 2, none⟩ u2).setCell ⟨g, 3, none⟩ u3).setCell ⟨g, 4, none⟩ u4).setCell ⟨g, 5, none⟩ u5).setCell ⟨g, 6, none⟩ u6) g t #[u0, u1, u2, u3, u4, u5, u6] :=
  ((((((h.s0 u0).s1 u1).s2 u2).s3 u3).s4 u4).s5 u5).s6 u6
theorem Box.seven {w : World} {g : Nat} {t : TypeId} {a0 a1 a2 a3 a4 a5 a6 : Value} (h : Box w g t #[a0, a1, a2, a3, a4, a5, a6]) :
    w.cell? ⟨g, 0, none⟩ = some a0 ∧ w.cell? ⟨g, 1, none⟩ = some a1 ∧ w.cell? ⟨g, 2, none⟩ = some a2 ∧ w.cell? ⟨g, 3, none⟩ = some a3 ∧ w.cell? ⟨g, 4, none⟩ = some a4 ∧ w.cell? ⟨g, 5, none⟩ = some a5 ∧ w.cell? ⟨g, 6, none⟩ = some a6 :=
  ⟨h.cell 0, h.cell 1, h.cell 2, h.cell 3, h.cell 4, h.cell 5, h.cell 6⟩
theorem OwnB.set7 {w : World} {base : Nat} {v : Value} {bs : List Nat} (h : OwnB w base v bs) {p : Nat} (hp : p < base) (u0 u1 u2 u3 u4 u5 u6 : Value) :
    OwnB (((((((w.setCell ⟨p, 0, none⟩ u0).setCell ⟨p, 1, none⟩ u1).setCell ⟨p, 2, none⟩ u2).setCell ⟨p, 3, none⟩ u3).setCell ⟨p, 4, none⟩ u4).setCell ⟨p, 5, none⟩ u5).setCell ⟨p, 6, none⟩ u6) base v bs :=
  OwnB.set (OwnB.set (OwnB.set (OwnB.set (OwnB.set (OwnB.set (OwnB.set h hp u0) hp u1) hp u2) hp u3) hp u4) hp u5) hp u6
theorem below_set7 {w0 w : World} {B p : Nat} (h : Below B w0 w) (hp : B ≤ p) (u0 u1 u2 u3 u4 u5 u6 : Value) :
    Below B w0 (((((((w.setCell ⟨p, 0, none⟩ u0).setCell ⟨p, 1, none⟩ u1).setCell ⟨p, 2, none⟩ u2).setCell ⟨p, 3, none⟩ u3).setCell ⟨p, 4, none⟩ u4).setCell ⟨p, 5, none⟩ u5).setCell ⟨p, 6, none⟩ u6) :=
  below_set (below_set (below_set (below_set (below_set (below_set (below_set h hp u0) hp u1) hp u2) hp u3) hp u4) hp u5) hp u6
/-- The three variables of a call that takes what is asked. -/
structure ThreeA (w0 w : World) (g : Nat) (x y z : Array Value) : Prop where
  b0 : Box w g 44 x
  b1 : Box w (g + 1) 40 y
  b2 : Box w (g + 1 + 1) 48 z
  bel : Below g w0 w
theorem ThreeA.call {w0 w w' : World} {g : Nat} {x y z : Array Value} (h : ThreeA w0 w g x y z) (hb : Below w.heap.size w w') : ThreeA w0 w' g x y z :=
  ⟨h.b0.belowAll hb, h.b1.belowAll hb, h.b2.belowAll hb, h.bel.trans (hb.mono (Nat.le_of_lt h.b0.lt))⟩
theorem ThreeA.new (w : World) (x y z : Array Value) : ThreeA w (((w.alloc (.cells x 44)).alloc (.cells y 40)).alloc (.cells z 48)) w.heap.size x y z := by
  have e1 : (w.alloc (.cells x 44)).heap.size = w.heap.size + 1 := by simp
  have e2 : ((w.alloc (.cells x 44)).alloc (.cells y 40)).heap.size = w.heap.size + 1 + 1 := by simp
  have b1 := (Box.new (w.alloc (.cells x 44)) 40 y).alloc (.cells z 48)
  have b2 := Box.new ((w.alloc (.cells x 44)).alloc (.cells y 40)) 48 z
  rw [e1] at b1; rw [e2] at b2
  exact ⟨((Box.new w _ x).alloc _).alloc _, b1, b2, (((Below.refl _ w).alloc (Nat.le_refl _) _).alloc (by simp) _).alloc (by simp; omega) _⟩
theorem ask_wrap (k : Int) : (IntKind.u64.wrap k).tmod 5 = (k % 18446744073709551616) % 5 := by rw [IntKind.wrap_u64, Int.tmod_eq_emod_of_nonneg (by omega)]
end Go.Proofs.Ytnppkobckabpcaa
