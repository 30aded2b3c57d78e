/- What Step and End come to where nothing is lost. -/
import Derived.Test.YthghcffibljclaaDoorRXStored
import Derived.Test.YthghcffibljclaaDoorRXAllP
namespace Go.Proofs.YthghcffibljclaaDoor
open Go.RowKit

theorem all_stepIs {ev : List (BitVec 64) → Bool} {j : JobZ} {t num : Int} {B : Nat} {e : Ending} {w : World} (h : StepIs ev (newR j t) t num B e w) (hr : (newR j t).Right ev) (hj : j.ca = 2) (h0 : 0 ≤ t) (ht : j.T t) (htb : D.timeB t = true) (hn : 0 < num) :
    ∃ nx z y, e = .returned (.tuple #[z, y, .int .i64 0]) ∧ NextZ j.T t nx ∧ (ranR j num t nx).Right ev ∧ RowTold B (ranR j num t nx) [⟨num, j.n, t, 0⟩] z y w := by
  rcases h with ⟨h, _⟩ | ⟨_, l, nx, z, y, ho, rfl, hrt⟩
  · exact absurd ⟨hr, htb, by omega⟩ h
  · have hrr := ran_right hr hj h0 hn ho
    obtain ⟨rfl, hnx⟩ := all_occ hj h0 ht ho
    rw [all_step] at hrt
    exact ⟨nx, z, y, rfl, hnx, hrr, hrt⟩
theorem all_endIs {ev : List (BitVec 64) → Bool} {j : JobZ} {t nx num fresh : Int} {B : Nat} {e : Ending} {w : World} (h : EndIs ev (ranR j num t nx) num true fresh B e w) (hr : (ranR j num t nx).Right ev) (ht : j.T t) (hnx : NextZ j.T t nx) (hn : 0 < num) (hf : 0 < fresh) (hne : fresh ≠ num) :
    ∃ z y, e = .returned (.tuple #[z, y, .bool j.o, .int .i64 0]) ∧ (newR j nx).Right ev ∧ RowTold B (newR j nx) [] z y w := by
  rcases h with ⟨h, _⟩ | ⟨_, h, _⟩ | ⟨_, _, _, z, y, rfl, hrt⟩
  · exact absurd ⟨hr, by omega, hne⟩ h
  · rcases h with h | h
    · omega
    · exact absurd rfl h
  · rw [all_end, all_gone ht hnx]
    rw [all_end] at hrt
    exact ⟨z, y, rfl, new_right hr hn, hrt⟩
theorem las_uno {w : World} {y : Value} {la : LaZ} (h : LasR w y [la]) : ∃ b o c, y = .slice (some ⟨b, o, none⟩) 1 c ∧ 1 ≤ c ∧ b < w.heap.size ∧ w.cell? ⟨b, o, none⟩ = some (.int .u64 la.num) ∧ w.cell? ⟨b, o + 1, none⟩ = some (.int .u32 la.name) ∧ w.cell? ⟨b, o + 2, none⟩ = some (.int .i64 la.due) ∧ w.cell? ⟨b, o + 3, none⟩ = some (.int .i64 la.tr) := by
  obtain ⟨A, c, rfl, h1, _, _, hr⟩ := h
  have hl : ([la] : List LaZ).flatMap laC = laC la := by simp
  rw [hl] at hr
  obtain ⟨b, o, rfl, hb, c0⟩ := hr 0 _ rfl
  obtain ⟨_, _, e1, _, c1⟩ := hr 1 _ rfl
  cases e1
  obtain ⟨_, _, e2, _, c2⟩ := hr 2 _ rfl
  cases e2
  obtain ⟨_, _, e3, _, c3⟩ := hr 3 _ rfl
  cases e3
  exact ⟨b, o, c, rfl, h1, hb, c0, c1, c2, c3⟩
theorem las_nil {w : World} {y : Value} (h : LasR w y []) : ∃ A c, y = .slice A 0 c := by
  obtain ⟨A, c, rfl, _⟩ := h
  exact ⟨A, c, rfl⟩
/-- What stands at each round of the law. -/
structure AllMem (w w7 : World) (g : Nat) (j : JobZ) (nx : Int) (v vt : Value) (m : List Int) (wr : World) : Prop where
  box : D.Box wr g 33 (rowC (newR j nx) v).toArray
  qr : QR wr v []
  told : OwnT wr w7.heap.size vt m
  spares : Spares g w7 wr
  below : Below w.heap.size w wr
theorem AllMem.on {w w7 : World} {g : Nat} {j : JobZ} {nx : Int} {v vt : Value} {m : List Int} {wr w' : World} (h : AllMem w w7 g j nx v vt m wr) (hb : Below wr.heap.size wr w') : AllMem w w7 g j nx v vt m w' :=
  ⟨D.Box.belowAll h.box hb, h.qr.on hb, own_below h.told hb, h.spares.trans (Spares.below hb), h.below.trans (hb.mono h.below.size)⟩
theorem AllMem.app {w w7 : World} {g : Nat} {j : JobZ} {nx : Int} {v vt vt' : Value} {m : List Int} {t : Int} {wr w' : World} (h : AllMem w w7 g j nx v vt m wr) (hgr : wr.grownBy w' vt.ownBlock) (ho : w'.ownsRow w7.heap.size 2 1 vt' (m.length + 1) (m.map int1 ++ [.int .i64 t])) (hw : w.heap.size ≤ w7.heap.size) (hg7 : g < w7.heap.size) : AllMem w w7 g j nx v vt' (m ++ [t]) w' := by
  have hlt : ∀ b, vt.ownBlock = some b → w7.heap.size ≤ b := fun b e => (World.ownsRow.lt h.told b e).1
  have hblk : ∀ b, b < wr.heap.size → vt.ownBlock ≠ some b → w'.heap[b]? = wr.heap[b]? := fun b hb hn => hgr.block b hb (fun e => hn e.symm)
  refine ⟨?_, qr_nil h.qr, ?_, ⟨Nat.le_trans h.spares.size hgr.size, fun b hb hg => (hblk b (Nat.lt_of_lt_of_le hb h.spares.size) (fun e => by have := hlt b e; omega)).trans (h.spares.block b hb hg)⟩, h.below.grown hgr h.below.size (fun k e => Nat.le_trans hw (hlt k e))⟩
  · have hx := h.box
    unfold D.Box at *
    rw [hblk g (Nat.lt_of_lt_of_le hg7 h.spares.size) (fun e => by have := hlt g e; omega)]
    exact hx
  · unfold OwnT
    rw [List.length_append, List.map_append]
    exact ho
/-- The row is stored anew. -/
theorem AllMem.put {w w7 : World} {g g3 : Nat} {j : JobZ} {nx nx' : Int} {v vt y : Value} {m : List Int} {wr : World} (h : AllMem w w7 g j nx v vt m wr) {B : Nat} {o : List LaZ} (hg : Got B (newR j nx') o g3 y wr) (hf : j.Fit) (hw : w.heap.size ≤ g) (hg7 : g < w7.heap.size) :
    ∃ v' W', LoadIs wr 33 g3 0 (rowV (newR j nx') v') ∧ StoreIs wr 33 g 0 (rowV (newR j nx') v') W' ∧ AllMem w w7 g j nx' v' vt m W' := by
  obtain ⟨v', hx3, hs3, _, _⟩ := hg
  have hfit : (newR j nx').Fit := ⟨hf, Int.le_refl _⟩
  obtain ⟨W', h1, _, h3⟩ := row_put h.box (by rw [List.size_toArray, rowC_len (r := newR j nx) ⟨hf, Int.le_refl _⟩]) hfit (qr_one' hs3.qr)
  refine ⟨v', W', row_load hfit hx3, h1, by rw [h3]; exact h.box.setRow _, qr_nil hs3.qr, own_row h.told hg7 _ h3, h.spares.trans (Spares.row g _ h3), by rw [h3]; exact below_setRow h.below hw _⟩
end Go.Proofs.YthghcffibljclaaDoor
