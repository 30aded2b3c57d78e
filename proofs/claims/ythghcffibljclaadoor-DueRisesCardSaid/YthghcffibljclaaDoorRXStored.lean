/- A row that comes out of a call is stored in a variable: what stands then. -/
import Derived.Test.YthghcffibljclaaDoorRXEnd
namespace Go.Proofs.YthghcffibljclaaDoor
open Go.RowKit

theorem LasR.lt {w : World} {y : Value} {la : LaZ} {o : List LaZ} (h : LasR w y (la :: o)) : ∀ b, y.ownBlock = some b → b < w.heap.size := by
  obtain ⟨A, c, rfl, _, _, _, hr⟩ := h
  obtain ⟨b, o2, rfl, hl, _⟩ := hr 0 (.int .u64 la.num) (by simp [laC])
  intro b' e
  simp [Value.ownBlock] at e
  omega
/-- What stands behind the store: the row in its block, with a queue of its own; what was launched. -/
def Got (B : Nat) (r : RowZ) (o : List LaZ) (g : Nat) (y : Value) (w : World) : Prop :=
  ∃ v, D.Box w g 33 (rowC r v).toArray ∧ SliT w B v r.q ∧ v.ownBlock ≠ some g ∧ LasR w y o
theorem row_stored {w0 cur : World} {g B : Nat} {cs : Array Value} {r : RowZ} {v y : Value} {o : List LaZ} (hx : D.Box cur g 33 cs) (hn : cs.size = 17) (hf : r.Fit) (hs : SliT cur B v r.q) (hv : v.ownBlock ≠ some g) (hla : LasR cur y o) (hy : o = [] ∨ y.ownBlock ≠ some g) (hb : Below w0.heap.size w0 cur) (hg : w0.heap.size ≤ g) :
    ∃ W9, StoreIs cur 33 g 0 (rowV r v) W9 ∧ Got B r o g y W9 ∧ Below w0.heap.size w0 W9 := by
  obtain ⟨W9, h1, _, h3⟩ := row_put hx hn hf (qr_one' hs.qr)
  have hsp : Spares g cur W9 := Spares.row g _ h3
  refine ⟨W9, h1, ⟨v, by rw [h3]; exact hx.setRow _, hs.same (fun b e hl => hsp.block b hl (fun e2 => hv (by rw [e, e2]))), hv, ?_⟩, by rw [h3]; exact below_setRow hb hg _⟩
  obtain ⟨A, c, rfl, a1, a2, a3, hr⟩ := hla
  refine ⟨A, c, rfl, a1, a2, a3, fun j u hj => ?_⟩
  obtain ⟨b, o2, rfl, hl, hc⟩ := hr j u hj
  refine ⟨b, o2, rfl, Nat.lt_of_lt_of_le hl hsp.size, (World.cell?_of_block (a := ⟨b, o2 + j, none⟩) (hsp.block b hl (fun e => ?_))).trans hc⟩
  rcases hy with rfl | hy
  · simp at hj
  · exact hy (by rw [← e]; rfl)
/-- The block was there ahead of the call. -/
theorem got_before {w0 cur : World} {g B : Nat} {cs : Array Value} {r : RowZ} {z y : Value} {o : List LaZ} (hx : D.Box cur g 33 cs) (hn : cs.size = 17) (hf : r.Fit) (ht : RowTold B r o z y cur) (hgB : g < B) (hb : Below w0.heap.size w0 cur) (hg : w0.heap.size ≤ g) :
    ∃ W9, StoreIs cur 33 g 0 z W9 ∧ Got w0.heap.size r o g y W9 ∧ Below w0.heap.size w0 W9 := by
  obtain ⟨⟨v, rfl, hs⟩, hla, hy⟩ := ht
  exact row_stored hx hn hf (hs.low (by omega)) (fun e => by have := (hs.lt g e).1; omega) hla (.inr fun e => by have := hy g e; omega) hb hg
/-- The block is made behind the call. -/
theorem got_after {w0 cur : World} {B : Nat} {cs : Array Value} {r : RowZ} {z y : Value} {o : List LaZ} (hn : cs.size = 17) (hf : r.Fit) (ht : RowTold B r o z y cur) (hB : w0.heap.size ≤ B) (hb : Below w0.heap.size w0 cur) :
    ∃ W9, StoreIs (cur.alloc (.cells cs 33)) 33 cur.heap.size 0 z W9 ∧ Got w0.heap.size r o cur.heap.size y W9 ∧ Below w0.heap.size w0 W9 := by
  obtain ⟨⟨v, rfl, hs⟩, hla, hy⟩ := ht
  have hbn := new_below cur (.cells cs 33)
  refine row_stored (D.Box.new cur 33 cs) hn hf ((hs.on hbn).low hB) (fun e => by have := (hs.lt _ e).2; omega) (hla.on hbn) ?_ (hb.trans (hbn.mono hb.size)) hb.size
  cases o with
  | nil => exact .inl rfl
  | cons la o => exact .inr fun e => by have := hla.lt _ e; omega
theorem Got.on {B g : Nat} {r : RowZ} {o : List LaZ} {y : Value} {w w' : World} (h : Got B r o g y w) (hb : Below w.heap.size w w') : Got B r o g y w' := by
  obtain ⟨v, h1, h2, h3, h4⟩ := h
  exact ⟨v, D.Box.belowAll h1 hb, h2.on hb, h3, h4.on hb⟩
theorem qr_nil {w w' : World} {v : Value} (h : QR w v []) : QR w' v [] := by
  obtain ⟨A, c, h1, h2, h3, h4, _⟩ := h
  exact ⟨A, c, h1, h2, h3, h4, .nil _ _⟩
theorem row_var3 (w : World) (r : RowZ) (v : Value) (hf : r.Fit) (hv : v.oneCell' = true) : ∃ W, StoreIs (w.alloc (.cells #[.int .u32 0, .bool false, .int .u64 0, .int .u64 0, .int .u64 0, .int .u64 0, .int .u64 0, .int .i64 0, .int .i64 0, .int .i64 0, .int .i64 0, .bool false, .int .i64 0, .int .u64 0, .int .i64 0, .int .i64 0, .slice none 0 0] 33)) 33 w.heap.size 0 (rowV r v) W ∧ D.Box W w.heap.size 33 (rowC r v).toArray ∧ Below w.heap.size w W := by
  have hb := D.Box.new w 33 #[.int .u32 0, .bool false, .int .u64 0, .int .u64 0, .int .u64 0, .int .u64 0, .int .u64 0, .int .i64 0, .int .i64 0, .int .i64 0, .int .i64 0, .bool false, .int .i64 0, .int .u64 0, .int .i64 0, .int .i64 0, .slice none 0 0]
  obtain ⟨W, h1, _, h3⟩ := row_put hb rfl hf hv
  exact ⟨W, h1, by rw [h3]; exact hb.setRow _, by rw [h3]; exact below_setRow (new_below w _) (Nat.le_refl _) _⟩
end Go.Proofs.YthghcffibljclaaDoor
