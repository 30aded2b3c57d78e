/- What is stored twice: the shapes of the world behind it. -/
import Derived.Test.YtnppkobckabpcaaTApart
namespace Go.Proofs.Ytnppkobckabpcaa
open Go.RowKit

/-- No row of the four lies in the block. -/
def Off (s0 b0 s1 b1 : Value) (p : Nat) : Prop := ∀ g, (s0.ownBlock = some g ∨ b0.ownBlock = some g) ∨ (s1.ownBlock = some g ∨ b1.ownBlock = some g) → g ≠ p
/-- Both tapes and both rows of bytes. -/
structure Halves (W V : World) (bs : List Nat) (T : Told) (s0 b0 s1 b1 : Value) : Prop where
  o0 : OwnB V W.heap.size s0 bs
  q0 : OwnB V W.heap.size b0 T.xs
  o1 : OwnB V W.heap.size s1 bs
  q1 : OwnB V W.heap.size b1 T.xs
  m : ∀ g, Blk b0 s0 g → s1.ownBlock ≠ some g
  bel : Below W.heap.size W V
theorem Halves.alloc {W V : World} {bs : List Nat} {T : Told} {s0 b0 s1 b1 : Value} (h : Halves W V bs T s0 b0 s1 b1) (o : Obj) : Halves W (V.alloc o) bs T s0 b0 s1 b1 :=
  ⟨h.o0.alloc o, h.q0.alloc o, h.o1.alloc o, h.q1.alloc o, h.m, gr_alloc h.bel o⟩
theorem Halves.drew {W V : World} {bs : List Nat} {T : Told} {s0 b0 s1 b1 : Value} (h : Halves W V bs T s0 b0 s1 b1) : Halves W V.drew bs T s0 b0 s1 b1 :=
  ⟨h.o0.drew1, h.q0.drew1, h.o1.drew1, h.q1.drew1, h.m, h.bel.drew⟩
theorem Halves.set7 {W V : World} {bs : List Nat} {T : Told} {s0 b0 s1 b1 : Value} (h : Halves W V bs T s0 b0 s1 b1) {p : Nat} (hp : W.heap.size ≤ p) (ho : Off s0 b0 s1 b1 p) (u0 u1 u2 u3 u4 u5 u6 : Value) :
    Halves W (((((((V.setCell ⟨p, 0, none⟩ u0).setCell ⟨p, 1, none⟩ u1).setCell ⟨p, 2, none⟩ u2).setCell ⟨p, 3, none⟩ u3).setCell ⟨p, 4, none⟩ u4).setCell ⟨p, 5, none⟩ u5).setCell ⟨p, 6, none⟩ u6) bs T s0 b0 s1 b1 :=
  ⟨h.o0.sets7 (fun g hg => ho g (.inl (.inl hg))) _ _ _ _ _ _ _, h.q0.sets7 (fun g hg => ho g (.inl (.inr hg))) _ _ _ _ _ _ _,
    h.o1.sets7 (fun g hg => ho g (.inr (.inl hg))) _ _ _ _ _ _ _, h.q1.sets7 (fun g hg => ho g (.inr (.inr hg))) _ _ _ _ _ _ _, h.m, below_set7 h.bel hp _ _ _ _ _ _ _⟩
theorem Halves.lt {W V : World} {bs : List Nat} {T : Told} {s0 b0 s1 b1 : Value} (h : Halves W V bs T s0 b0 s1 b1) (g : Nat) (hg : (s0.ownBlock = some g ∨ b0.ownBlock = some g) ∨ (s1.ownBlock = some g ∨ b1.ownBlock = some g)) : g < V.heap.size := by
  rcases hg with (hg | hg) | (hg | hg)
  · exact (h.o0.lt g hg).2
  · exact (h.q0.lt g hg).2
  · exact (h.o1.lt g hg).2
  · exact (h.q1.lt g hg).2
theorem Halves.offTop {W V : World} {bs : List Nat} {T : Told} {s0 b0 s1 b1 : Value} (h : Halves W V bs T s0 b0 s1 b1) {p : Nat} (hp : V.heap.size ≤ p) : Off s0 b0 s1 b1 p :=
  fun g hg => by have := h.lt g hg; omega
theorem Halves.pair {W V : World} {bs : List Nat} {t err : Int} {T : Told} {g0 g1 : Nat} {s0 b0 s1 b1 : Value} (h : Halves W V bs T s0 b0 s1 b1)
    (x0 : Box V g0 48 #[s0, .int .i64 t, .int .i64 err, .int .u64 T.z, .int .i64 T.i, .bool T.f, b0])
    (x1 : Box V g1 48 #[s1, .int .i64 t, .int .i64 err, .int .u64 T.z, .int .i64 T.i, .bool T.f, b1])
    (h0 : W.heap.size ≤ g0) (h1 : W.heap.size ≤ g1) (f0 : Off s0 b0 s1 b1 g0) (f1 : Off s0 b0 s1 b1 g1) : Pair W V bs t err T g0 g1 s0 b0 s1 b1 :=
  ⟨x0, x1, h.o0, h.q0, h.o1, h.q1, h0, h1,
    (fun g hg => ⟨f0 g (.inl (hg.elim .inr .inl)), f1 g (.inl (hg.elim .inr .inl))⟩), h.m, h.bel⟩
theorem pair_aa {W V : World} {bs : List Nat} {t err : Int} {T : Told} {s0 b0 s1 b1 : Value} (h : Halves W V bs T s0 b0 s1 b1) :
    Pair W ((V.alloc (.cells #[s0, .int .i64 t, .int .i64 err, .int .u64 T.z, .int .i64 T.i, .bool T.f, b0] 48)).alloc (.cells #[s1, .int .i64 t, .int .i64 err, .int .u64 T.z, .int .i64 T.i, .bool T.f, b1] 48))
      bs t err T V.heap.size (V.heap.size + 1) s0 b0 s1 b1 :=
  ((h.alloc _).alloc _).pair ((Box.new _ _ _).alloc _) (Box.new' (by simp)) h.bel.size (Nat.le_succ_of_le h.bel.size) (h.offTop (Nat.le_refl _)) (h.offTop (Nat.le_succ _))
theorem pair_aa' {W V : World} {bs : List Nat} {t err : Int} {T : Told} {s0 b0 s1 b1 : Value} (h : Halves W V bs T s0 b0 s1 b1) :
    Pair W ((V.alloc (.cells #[s1, .int .i64 t, .int .i64 err, .int .u64 T.z, .int .i64 T.i, .bool T.f, b1] 48)).alloc (.cells #[s0, .int .i64 t, .int .i64 err, .int .u64 T.z, .int .i64 T.i, .bool T.f, b0] 48))
      bs t err T (V.heap.size + 1) V.heap.size s0 b0 s1 b1 :=
  ((h.alloc _).alloc _).pair (Box.new' (by simp)) ((Box.new _ _ _).alloc _) (Nat.le_succ_of_le h.bel.size) h.bel.size (h.offTop (Nat.le_succ _)) (h.offTop (Nat.le_refl _))
theorem pair_sa {W V : World} {bs : List Nat} {t err : Int} {T : Told} {g0 : Nat} {s0 b0 s1 b1 a0 a1 a2 a3 a4 a5 a6 : Value} (h : Halves W V bs T s0 b0 s1 b1)
    (x0 : Box V g0 48 #[a0, a1, a2, a3, a4, a5, a6]) (f0 : Off s0 b0 s1 b1 g0) (h0 : W.heap.size ≤ g0) :
    Pair W ((((((((V.setCell ⟨g0, 0, none⟩ s0).setCell ⟨g0, 1, none⟩ (.int .i64 t)).setCell ⟨g0, 2, none⟩ (.int .i64 err)).setCell ⟨g0, 3, none⟩ (.int .u64 T.z)).setCell ⟨g0, 4, none⟩ (.int .i64 T.i)).setCell ⟨g0, 5, none⟩ (.bool T.f)).setCell ⟨g0, 6, none⟩ b0).alloc
        (.cells #[s1, .int .i64 t, .int .i64 err, .int .u64 T.z, .int .i64 T.i, .bool T.f, b1] 48)) bs t err T g0 V.heap.size s0 b0 s1 b1 :=
  ((h.set7 h0 f0 _ _ _ _ _ _ _).alloc _).pair ((x0.set7 _ _ _ _ _ _ _).alloc _) (Box.new' (by simp [World.setCell])) h0 h.bel.size f0 (h.offTop (Nat.le_refl _))
theorem pair_sa' {W V : World} {bs : List Nat} {t err : Int} {T : Told} {g1 : Nat} {s0 b0 s1 b1 a0 a1 a2 a3 a4 a5 a6 : Value} (h : Halves W V bs T s0 b0 s1 b1)
    (x1 : Box V g1 48 #[a0, a1, a2, a3, a4, a5, a6]) (f1 : Off s0 b0 s1 b1 g1) (h1 : W.heap.size ≤ g1) :
    Pair W ((((((((V.setCell ⟨g1, 0, none⟩ s1).setCell ⟨g1, 1, none⟩ (.int .i64 t)).setCell ⟨g1, 2, none⟩ (.int .i64 err)).setCell ⟨g1, 3, none⟩ (.int .u64 T.z)).setCell ⟨g1, 4, none⟩ (.int .i64 T.i)).setCell ⟨g1, 5, none⟩ (.bool T.f)).setCell ⟨g1, 6, none⟩ b1).alloc
        (.cells #[s0, .int .i64 t, .int .i64 err, .int .u64 T.z, .int .i64 T.i, .bool T.f, b0] 48)) bs t err T V.heap.size g1 s0 b0 s1 b1 :=
  ((h.set7 h1 f1 _ _ _ _ _ _ _).alloc _).pair (Box.new' (by simp [World.setCell])) ((x1.set7 _ _ _ _ _ _ _).alloc _) h.bel.size h1 (h.offTop (Nat.le_refl _)) f1
theorem pair_ss {W V : World} {bs : List Nat} {t err : Int} {T : Told} {g0 g1 : Nat} {s0 b0 s1 b1 a0 a1 a2 a3 a4 a5 a6 c0 c1 c2 c3 c4 c5 c6 : Value} (h : Halves W V bs T s0 b0 s1 b1)
    (x0 : Box V g0 48 #[a0, a1, a2, a3, a4, a5, a6]) (x1 : Box V g1 48 #[c0, c1, c2, c3, c4, c5, c6])
    (f0 : Off s0 b0 s1 b1 g0) (f1 : Off s0 b0 s1 b1 g1) (h0 : W.heap.size ≤ g0) (h1 : W.heap.size ≤ g1) (hne : g0 ≠ g1) :
    Pair W ((((((((((((((V.setCell ⟨g0, 0, none⟩ s0).setCell ⟨g0, 1, none⟩ (.int .i64 t)).setCell ⟨g0, 2, none⟩ (.int .i64 err)).setCell ⟨g0, 3, none⟩ (.int .u64 T.z)).setCell ⟨g0, 4, none⟩ (.int .i64 T.i)).setCell ⟨g0, 5, none⟩ (.bool T.f)).setCell ⟨g0, 6, none⟩ b0).setCell ⟨g1, 0, none⟩ s1).setCell ⟨g1, 1, none⟩ (.int .i64 t)).setCell ⟨g1, 2, none⟩ (.int .i64 err)).setCell ⟨g1, 3, none⟩ (.int .u64 T.z)).setCell ⟨g1, 4, none⟩ (.int .i64 T.i)).setCell ⟨g1, 5, none⟩ (.bool T.f)).setCell ⟨g1, 6, none⟩ b1) bs t err T g0 g1 s0 b0 s1 b1 :=
  ((h.set7 h0 f0 _ _ _ _ _ _ _).set7 h1 f1 _ _ _ _ _ _ _).pair ((x0.set7 _ _ _ _ _ _ _).fars7 hne _ _ _ _ _ _ _) ((x1.fars7 (fun e => hne e.symm) _ _ _ _ _ _ _).set7 _ _ _ _ _ _ _) h0 h1 f0 f1
theorem pair_ss' {W V : World} {bs : List Nat} {t err : Int} {T : Told} {g0 g1 : Nat} {s0 b0 s1 b1 a0 a1 a2 a3 a4 a5 a6 c0 c1 c2 c3 c4 c5 c6 : Value} (h : Halves W V bs T s0 b0 s1 b1)
    (x0 : Box V g0 48 #[a0, a1, a2, a3, a4, a5, a6]) (x1 : Box V g1 48 #[c0, c1, c2, c3, c4, c5, c6])
    (f0 : Off s0 b0 s1 b1 g0) (f1 : Off s0 b0 s1 b1 g1) (h0 : W.heap.size ≤ g0) (h1 : W.heap.size ≤ g1) (hne : g0 ≠ g1) :
    Pair W ((((((((((((((V.setCell ⟨g1, 0, none⟩ s1).setCell ⟨g1, 1, none⟩ (.int .i64 t)).setCell ⟨g1, 2, none⟩ (.int .i64 err)).setCell ⟨g1, 3, none⟩ (.int .u64 T.z)).setCell ⟨g1, 4, none⟩ (.int .i64 T.i)).setCell ⟨g1, 5, none⟩ (.bool T.f)).setCell ⟨g1, 6, none⟩ b1).setCell ⟨g0, 0, none⟩ s0).setCell ⟨g0, 1, none⟩ (.int .i64 t)).setCell ⟨g0, 2, none⟩ (.int .i64 err)).setCell ⟨g0, 3, none⟩ (.int .u64 T.z)).setCell ⟨g0, 4, none⟩ (.int .i64 T.i)).setCell ⟨g0, 5, none⟩ (.bool T.f)).setCell ⟨g0, 6, none⟩ b0) bs t err T g0 g1 s0 b0 s1 b1 :=
  ((h.set7 h1 f1 _ _ _ _ _ _ _).set7 h0 f0 _ _ _ _ _ _ _).pair ((x0.fars7 hne _ _ _ _ _ _ _).set7 _ _ _ _ _ _ _) ((x1.set7 _ _ _ _ _ _ _).fars7 (fun e => hne e.symm) _ _ _ _ _ _ _) h0 h1 f0 f1
end Go.Proofs.Ytnppkobckabpcaa
