/- Worlds in which nothing but some blocks has turned; what is taken twice, side by side. -/
import Derived.Test.YtnppkobckabpcaaTSay1
import Derived.Test.YtnppkobckabpcaaTOnce0
import Derived.Test.YtnppkobckabpcaaTSame
namespace Go.Proofs.Ytnppkobckabpcaa
open Go.RowKit

structure Apart (G : Nat → Prop) (w w' : World) : Prop where
  os : w'.os = w.os
  tape : w'.tape = w.tape
  output : w'.output = w.output
  size : w.heap.size ≤ w'.heap.size
  block : ∀ g, g < w.heap.size → ¬ G g → w'.heap[g]? = w.heap[g]?
theorem Apart.refl (G : Nat → Prop) (w : World) : Apart G w w := ⟨rfl, rfl, rfl, Nat.le_refl _, fun _ _ _ => rfl⟩
theorem Apart.poke {G : Nat → Prop} {w w' : World} (h : Apart G w w') {g k : Nat} (hg : G g) (u : Value) : Apart G w (w'.setCell ⟨g, k, none⟩ u) :=
  ⟨h.os, h.tape, h.output, by have := h.size; simpa [World.setCell] using this, fun p hp hn => (Below.heap_setCell w' ⟨g, k, none⟩ u p (fun e => hn (e ▸ hg))).trans (h.block p hp hn)⟩
theorem Apart.below {G : Nat → Prop} {w w' : World} (h : Apart G w w') {B : Nat} (hB : ∀ g, G g → B ≤ g) (hs : B ≤ w.heap.size) : Below B w w' :=
  ⟨h.os, h.tape, h.output, h.size, fun p hp => h.block p (by omega) (fun hg => by have := hB p hg; omega)⟩
theorem Apart.box {G : Nat → Prop} {w w' : World} (h : Apart G w w') {g : Nat} {t : TypeId} {cs : Array Value} (hb : Box w g t cs) (hg : ¬ G g) : Box w' g t cs := (h.block g hb.lt hg).trans hb
theorem Apart.own {G : Nat → Prop} {w w' : World} (h : Apart G w w') {base : Nat} {v : Value} {bs : List Nat} (ho : OwnB w base v bs) (hv : ∀ g, v.ownBlock = some g → ¬ G g) : OwnB w' base v bs := by
  refine ⟨⟨ho.1.1, ?_⟩, ho.2⟩
  rcases ho.1.2 with h2 | ⟨g, cap, cur, e, hg, hh, r⟩
  · exact .inl h2
  · refine .inr ⟨g, cap, cur, e, hg, (h.block g (Array.getElem?_eq_some_iff.1 hh).1 (hv g ?_)).trans hh, r⟩
    rw [e]; simp [Value.ownBlock]
theorem OwnB.poke {w : World} {base g k z : Nat} {v : Value} {cs : List Nat} (h : OwnB w base v cs) (hz : z < 256) : ∃ cs', cs'.length = cs.length ∧ OwnB (w.setCell ⟨g, k, none⟩ (bv z)) base v cs' := by
  by_cases hv : v.ownBlock = some g
  · rcases h.1.2 with ⟨rfl, _⟩ | ⟨g', cap, cur, rfl, _⟩
    · simp [Value.ownBlock] at hv
    · have : g' = g := by simpa [Value.ownBlock] using hv
      subst this
      have h1 := h.1.stored k (bv z)
      refine ⟨cs.set k z, by simp, ⟨by rw [List.length_set, List.map_set]; exact h1.1, fun x hx => ?_⟩⟩
      rcases List.mem_or_eq_of_mem_set hx with hx | rfl
      · exact h.2 x hx
      · exact hz
  · exact ⟨cs, rfl, (Apart.refl (fun p => p = g) w).poke (g := g) (k := k) rfl (bv z) |>.own h (fun p hp e => hv (e ▸ hp))⟩
/-- The block of either row. -/
def Blk (v1 v2 : Value) (g : Nat) : Prop := v1.ownBlock = some g ∨ v2.ownBlock = some g
/-- Rows whose bytes are turned. -/
structure Muts (w9 w : World) (base : Nat) (v1 v2 : Value) (n1 n2 : Nat) : Prop where
  o1 : ∃ cs : List Nat, cs.length = n1 ∧ OwnB w base v1 cs
  o2 : ∃ cs : List Nat, cs.length = n2 ∧ OwnB w base v2 cs
  ap : Apart (Blk v1 v2) w9 w
theorem Muts.poke {w9 w : World} {base n1 n2 g k z : Nat} {v1 v2 : Value} (h : Muts w9 w base v1 v2 n1 n2) (hz : z < 256) (hg : Blk v1 v2 g) : Muts w9 (w.setCell ⟨g, k, none⟩ (bv z)) base v1 v2 n1 n2 := by
  obtain ⟨cs, hl, ho⟩ := h.o1
  obtain ⟨ds, hm, hp⟩ := h.o2
  obtain ⟨cs', hl', ho'⟩ := ho.poke (g := g) (k := k) hz
  obtain ⟨ds', hm', hp'⟩ := hp.poke (g := g) (k := k) hz
  exact ⟨⟨cs', hl'.trans hl, ho'⟩, ⟨ds', hm'.trans hm, hp'⟩, h.ap.poke hg _⟩
/-- A byte of such a row. -/
theorem own_at {w : World} {base n c k : Nat} {A : Option Addr} {cs : List Nat} (h : OwnB w base (.slice A n c) cs) (hn : cs.length = n) (hk : k < n) :
    ∃ g x, A = some ⟨g, 0, none⟩ ∧ x < 256 ∧ w.cell? ⟨g, k, none⟩ = some (.int .u8 ((x : Nat) : Int)) ∧ w.frozen? ⟨g, k, none⟩ = false := by
  subst hn
  rcases h.1.2 with ⟨e, h0⟩ | ⟨g, cap, cur, e, _⟩
  · omega
  · cases e
    exact ⟨g, nthB cs k, rfl, h.2 _ (nth_mem hk), by rw [h.1.cellAt k (by omega), bv_at cs k hk]; rfl, h.1.frozenAt k⟩
/-- What was taken, and what the document says of it, side by side. -/
structure Pair (W w : World) (bs : List Nat) (t err : Int) (T : Told) (g0 g1 : Nat) (s0 b0 s1 b1 : Value) : Prop where
  x0 : Box w g0 48 #[s0, .int .i64 t, .int .i64 err, .int .u64 T.z, .int .i64 T.i, .bool T.f, b0]
  x1 : Box w g1 48 #[s1, .int .i64 t, .int .i64 err, .int .u64 T.z, .int .i64 T.i, .bool T.f, b1]
  o0 : OwnB w W.heap.size s0 bs
  q0 : OwnB w W.heap.size b0 T.xs
  o1 : OwnB w W.heap.size s1 bs
  q1 : OwnB w W.heap.size b1 T.xs
  h0 : W.heap.size ≤ g0
  h1 : W.heap.size ≤ g1
  n0 : ∀ g, Blk b0 s0 g → g ≠ g0 ∧ g ≠ g1
  n1 : ∀ g, Blk b0 s0 g → s1.ownBlock ≠ some g
  bel : Below W.heap.size W w
theorem OwnB.sets7 {w : World} {base g : Nat} {v : Value} {bs : List Nat} (h : OwnB w base v bs) (hv : ∀ p, v.ownBlock = some p → p ≠ g) (u0 u1 u2 u3 u4 u5 u6 : Value) :
    OwnB (((((((w.setCell ⟨g, 0, none⟩ u0).setCell ⟨g, 1, none⟩ u1).setCell ⟨g, 2, none⟩ u2).setCell ⟨g, 3, none⟩ u3).setCell ⟨g, 4, none⟩ u4).setCell ⟨g, 5, none⟩ u5).setCell ⟨g, 6, none⟩ u6) base v bs :=
  ((((((((Apart.refl (fun p => p = g) w).poke (k := 0) rfl u0).poke (k := 1) rfl u1).poke (k := 2) rfl u2).poke (k := 3) rfl u3).poke (k := 4) rfl u4).poke (k := 5) rfl u5).poke (k := 6) rfl u6).own h (fun p hp e => hv p hp e)
theorem Box.fars7 {w : World} {g p : Nat} {t : TypeId} {cs : Array Value} (h : Box w p t cs) (hp : p ≠ g) (u0 u1 u2 u3 u4 u5 u6 : Value) :
    Box (((((((w.setCell ⟨g, 0, none⟩ u0).setCell ⟨g, 1, none⟩ u1).setCell ⟨g, 2, none⟩ u2).setCell ⟨g, 3, none⟩ u3).setCell ⟨g, 4, none⟩ u4).setCell ⟨g, 5, none⟩ u5).setCell ⟨g, 6, none⟩ u6) p t cs :=
  ((((((h.far hp u0).far hp u1).far hp u2).far hp u3).far hp u4).far hp u5).far hp u6
/-- Both stored, one behind the other. -/
theorem pair_of {W V : World} {bs : List Nat} {t err : Int} {T : Told} {g0 g1 : Nat} {s0 b0 s1 b1 a0 a1 a2 a3 a4 a5 a6 c0 c1 c2 c3 c4 c5 c6 : Value}
    (x0 : Box V g0 48 #[a0, a1, a2, a3, a4, a5, a6]) (x1 : Box V g1 48 #[c0, c1, c2, c3, c4, c5, c6])
    (o0 : OwnB V W.heap.size s0 bs) (q0 : OwnB V W.heap.size b0 T.xs) (o1 : OwnB V W.heap.size s1 bs) (q1 : OwnB V W.heap.size b1 T.xs) (h0 : W.heap.size ≤ g0) (h1 : W.heap.size ≤ g1) (hne : g0 ≠ g1)
    (m0 : ∀ g, s0.ownBlock = some g → g ≠ g0 ∧ g ≠ g1 ∧ s1.ownBlock ≠ some g) (m1 : ∀ g, b0.ownBlock = some g → g ≠ g0 ∧ g ≠ g1 ∧ s1.ownBlock ≠ some g)
    (m2 : ∀ g, s1.ownBlock = some g → g ≠ g0 ∧ g ≠ g1) (m3 : ∀ g, b1.ownBlock = some g → g ≠ g0 ∧ g ≠ g1) (bel : Below W.heap.size W V) :
    Pair W ((((((((((((((V.setCell ⟨g0, 0, none⟩ s0).setCell ⟨g0, 1, none⟩ (.int .i64 t)).setCell ⟨g0, 2, none⟩ (.int .i64 err)).setCell ⟨g0, 3, none⟩ (.int .u64 T.z)).setCell ⟨g0, 4, none⟩ (.int .i64 T.i)).setCell ⟨g0, 5, none⟩ (.bool T.f)).setCell ⟨g0, 6, none⟩ b0).setCell ⟨g1, 0, none⟩ s1).setCell ⟨g1, 1, none⟩ (.int .i64 t)).setCell ⟨g1, 2, none⟩ (.int .i64 err)).setCell ⟨g1, 3, none⟩ (.int .u64 T.z)).setCell ⟨g1, 4, none⟩ (.int .i64 T.i)).setCell ⟨g1, 5, none⟩ (.bool T.f)).setCell ⟨g1, 6, none⟩ b1) bs t err T g0 g1 s0 b0 s1 b1 :=
  ⟨(x0.set7 _ _ _ _ _ _ _).fars7 hne _ _ _ _ _ _ _, (x1.fars7 (fun e => hne e.symm) _ _ _ _ _ _ _).set7 _ _ _ _ _ _ _,
    (o0.sets7 (fun p hp => (m0 p hp).1) _ _ _ _ _ _ _).sets7 (fun p hp => (m0 p hp).2.1) _ _ _ _ _ _ _,
    (q0.sets7 (fun p hp => (m1 p hp).1) _ _ _ _ _ _ _).sets7 (fun p hp => (m1 p hp).2.1) _ _ _ _ _ _ _,
    (o1.sets7 (fun p hp => (m2 p hp).1) _ _ _ _ _ _ _).sets7 (fun p hp => (m2 p hp).2) _ _ _ _ _ _ _,
    (q1.sets7 (fun p hp => (m3 p hp).1) _ _ _ _ _ _ _).sets7 (fun p hp => (m3 p hp).2) _ _ _ _ _ _ _, h0, h1,
    (fun g hg => hg.elim (fun h => ⟨(m1 g h).1, (m1 g h).2.1⟩) (fun h => ⟨(m0 g h).1, (m0 g h).2.1⟩)),
    (fun g hg => hg.elim (fun h => (m1 g h).2.2) (fun h => (m0 g h).2.2)),
    below_set7 (below_set7 bel h0 _ _ _ _ _ _ _) h1 _ _ _ _ _ _ _⟩
theorem Box.new' {w : World} {g : Nat} {t : TypeId} {cs : Array Value} (h : g = w.heap.size) : Box (w.alloc (.cells cs t)) g t cs := by subst h; exact Box.new w t cs
theorem Box.drew1' {w : World} {g : Nat} {t : TypeId} {cs : Array Value} (h : Box w g t cs) : Box w.drew g t cs := h
theorem OwnB.drew1 {w : World} {base : Nat} {v : Value} {bs : List Nat} (h : OwnB w base v bs) : OwnB w.drew base v bs := ⟨h.1, h.2⟩
theorem rowB_up {w w' : World} {A : Option Addr} {n c : Nat} {bs : List Nat} (h : RowB w w.heap.size A n c bs) (hb : Below w.heap.size w w') : RowB w' w'.heap.size A n c bs := (h.below hb).mono hb.size
theorem OwnB.rowOf {w : World} {base n c : Nat} {A : Option Addr} {bs : List Nat} (h : OwnB w base (.slice A n c) bs) : RowB w w.heap.size A n c bs := by
  obtain ⟨A', c', e, r⟩ := h.row
  cases e
  exact r
theorem OwnB.lt {w : World} {base : Nat} {v : Value} {bs : List Nat} (h : OwnB w base v bs) : ∀ g, v.ownBlock = some g → base ≤ g ∧ g < w.heap.size := fun g hg => h.1.lt g hg
end Go.Proofs.Ytnppkobckabpcaa
