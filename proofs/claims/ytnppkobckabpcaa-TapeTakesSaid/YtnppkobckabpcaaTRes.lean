/- What is told of a tape; the two variables of a call that takes. -/
import Derived.Test.YtnppkobckabpcaaTBox
namespace Go.Proofs.Ytnppkobckabpcaa
open Go.RowKit

inductive Res
  | num (k : IntKind) (z : Int)
  | flag (b : Bool)
  | bytes (xs : List Nat)
def Res.at_ (w : World) (base : Nat) (v : Value) : Res → Prop
  | .num k z => v = .int k z
  | .flag b => v = .bool b
  | .bytes xs => OwnB w base v xs
theorem Res.below {w w' : World} {base : Nat} {v : Value} {r : Res} (h : r.at_ w base v) (hb : Below w.heap.size w w') : r.at_ w' base v := by
  cases r with
  | num k z => exact h
  | flag b => exact h
  | bytes xs => exact OwnB.below h hb
theorem Res.mono {w : World} {base base' : Nat} {v : Value} {r : Res} (h : r.at_ w base v) (hb : base' ≤ base) : r.at_ w base' v := by
  cases r with
  | num k z => exact h
  | flag b => exact h
  | bytes xs => exact OwnB.mono h hb
theorem Res.set {w : World} {base : Nat} {v : Value} {r : Res} (h : r.at_ w base v) {p o : Nat} (hp : p < base) (u : Value) : r.at_ (w.setCell ⟨p, o, none⟩ u) base v := by
  cases r with
  | num k z => exact h
  | flag b => exact h
  | bytes xs => exact OwnB.set h hp u
theorem Res.set3 {w : World} {base : Nat} {v : Value} {r : Res} (h : r.at_ w base v) {p : Nat} (hp : p < base) (u0 u1 u2 : Value) : r.at_ (((w.setCell ⟨p, 0, none⟩ u0).setCell ⟨p, 1, none⟩ u1).setCell ⟨p, 2, none⟩ u2) base v :=
  Res.set (Res.set (Res.set h hp u0) hp u1) hp u2

/-- Block g and the one behind it, three cells each; the row of bytes behind both. -/
structure Two (w0 w : World) (g : Nat) (s : Value) (bs : List Nat) (x0 x1 x2 y0 y1 y2 : Value) : Prop where
  b0 : Box w g 40 #[x0, x1, x2]
  b1 : Box w (g + 1) 40 #[y0, y1, y2]
  own : OwnB w (g + 2) s bs
  bel : Below g w0 w
section
variable {w0 w w' : World} {g : Nat} {s : Value} {bs : List Nat} {x0 x1 x2 y0 y1 y2 : Value}
theorem Two.call (h : Two w0 w g s bs x0 x1 x2 y0 y1 y2) (hb : Below w.heap.size w w') : Two w0 w' g s bs x0 x1 x2 y0 y1 y2 :=
  ⟨h.b0.belowAll hb, h.b1.belowAll hb, h.own.below hb, h.bel.trans (hb.mono (Nat.le_of_lt h.b0.lt))⟩
theorem Two.set0 (h : Two w0 w g s bs x0 x1 x2 y0 y1 y2) (u : Value) : Two w0 (w.setCell ⟨g, 0, none⟩ u) g s bs u x1 x2 y0 y1 y2 :=
  ⟨h.b0.set 0 u, h.b1.far (by omega) u, h.own.set (by omega) u, below_set h.bel (Nat.le_refl _) u⟩
theorem Two.set1 (h : Two w0 w g s bs x0 x1 x2 y0 y1 y2) (u : Value) : Two w0 (w.setCell ⟨g, 1, none⟩ u) g s bs x0 u x2 y0 y1 y2 :=
  ⟨h.b0.set 1 u, h.b1.far (by omega) u, h.own.set (by omega) u, below_set h.bel (Nat.le_refl _) u⟩
theorem Two.set2 (h : Two w0 w g s bs x0 x1 x2 y0 y1 y2) (u : Value) : Two w0 (w.setCell ⟨g, 2, none⟩ u) g s bs x0 x1 u y0 y1 y2 :=
  ⟨h.b0.set 2 u, h.b1.far (by omega) u, h.own.set (by omega) u, below_set h.bel (Nat.le_refl _) u⟩
theorem Two.out (h : Two w0 w g s bs x0 x1 x2 y0 y1 y2) (u0 u1 u2 : Value) : Two w0 (((w.setCell ⟨g + 1, 0, none⟩ u0).setCell ⟨g + 1, 1, none⟩ u1).setCell ⟨g + 1, 2, none⟩ u2) g s bs x0 x1 x2 u0 u1 u2 :=
  ⟨((h.b0.far (by omega) u0).far (by omega) u1).far (by omega) u2, ((h.b1.set 0 u0).set 1 u1).set 2 u2, h.own.set3 (by omega) u0 u1 u2, below_set3 h.bel (by omega) u0 u1 u2⟩
end
theorem Two.new {w w1 : World} {x0 x1 x2 y0 y1 y2 s : Value} {bs : List Nat}
    (hb : Below ((w.alloc (.cells #[x0, x1, x2] 40)).alloc (.cells #[y0, y1, y2] 40)).heap.size ((w.alloc (.cells #[x0, x1, x2] 40)).alloc (.cells #[y0, y1, y2] 40)) w1)
    (ho : OwnB w1 ((w.alloc (.cells #[x0, x1, x2] 40)).alloc (.cells #[y0, y1, y2] 40)).heap.size s bs) : Two w w1 w.heap.size s bs x0 x1 x2 y0 y1 y2 := by
  have e1 : (w.alloc (.cells #[x0, x1, x2] 40)).heap.size = w.heap.size + 1 := by simp
  have b1 := (Box.new (w.alloc (.cells #[x0, x1, x2] 40)) 40 #[y0, y1, y2]).belowAll hb
  rw [e1] at b1
  exact ⟨((Box.new w 40 #[x0, x1, x2]).alloc _).belowAll hb, b1, ho.mono (by simp), (((Below.refl _ w).alloc (Nat.le_refl _) _).alloc (by simp) _).trans (hb.mono (by simp; omega))⟩
/-- What a call that takes comes to: the tape then, and what is told. -/
def TakeIs (w : World) (bs : List Nat) (t err : Int) (r : Res) (e : Ending) (w' : World) : Prop :=
  ∃ v x, e = .returned (.tuple #[v, x]) ∧ OwnT w' w.heap.size v bs t err ∧ r.at_ w' w.heap.size x ∧ Below w.heap.size w w'
/-- What a reader tells: what stands there, how many bytes it has, the error. -/
def ReadIs (W : World) (r : Res) (s : Nat) (ee : Int) (e : Ending) (W' : World) : Prop :=
  ∃ x, e = .returned (.tuple #[x, .int .i64 (s : Int), .int .i64 ee]) ∧ r.at_ W' W.heap.size x ∧ Below W.heap.size W W'
end Go.Proofs.Ytnppkobckabpcaa
