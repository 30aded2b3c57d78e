/- A row that goes on, and what was launched of it, in memory. -/
import Derived.Test.YthghcffibljclaaDoorRXPlain
import Derived.Test.YthghcffibljclaaDoorRVOwn
import Derived.Test.YthghcffibljclaaDoorRVSame
namespace Go.Proofs.YthghcffibljclaaDoor
open Go.RowKit

def laC (a : LaZ) : List Value := [.int .u64 a.num, .int .u32 a.name, .int .i64 a.due, .int .i64 a.tr]
def laV (a : LaZ) : Value := .agg (laC a).toArray
def toldC : List LaZ → List Value
  | [] => [.int .u64 0, .int .u32 0, .int .i64 0, .int .i64 0]
  | a :: _ => laC a
def goV (num due tr : Int) : Value := .agg #[.int .u64 num, .int .i64 due, .int .i64 tr]
def courseC (r : RowZ) (v : Value) (o : List LaZ) : List Value := rowC r v ++ toldC o ++ [.int .i64 (o.length : Int)]
def courseV (r : RowZ) (v : Value) (o : List LaZ) : Value := .agg (courseC r v o).toArray
theorem toldC_len (o : List LaZ) : (toldC o).length = 4 := by cases o <;> rfl
theorem courseC_len {r : RowZ} (hf : r.Fit) (v : Value) (o : List LaZ) : (courseC r v o).length = 22 := by
  simp [courseC, rowC_len hf, toldC_len]
theorem size_course : (Tryd.prog.info? 68).map (·.size) = some 22 := by kernel_rfl
theorem und_course : ∃ d, Tryd.prog.underlying 68 = some d ∧ d.isRow = true := und_of (by kernel_rfl)
theorem size_la : (Tryd.prog.info? 48).map (·.size) = some 4 := by kernel_rfl
theorem und_la : ∃ d, Tryd.prog.underlying 48 = some d ∧ d.isRow = true := und_of (by kernel_rfl)
/-- A course in a block of its own. -/
def CourseAt (w : World) (g : Nat) (r : RowZ) (v : Value) (o : List LaZ) : Prop := r.Fit ∧ D.Box w g 68 (courseC r v o).toArray
section
variable {w w' : World} {g : Nat} {r : RowZ} {v : Value} {o : List LaZ}
theorem CourseAt.lt (h : CourseAt w g r v o) : g < w.heap.size := D.Box.lt h.2
theorem CourseAt.on (h : CourseAt w g r v o) (hb : Below w.heap.size w w') : CourseAt w' g r v o := ⟨h.1, D.Box.belowAll h.2 hb⟩
theorem CourseAt.frozen (h : CourseAt w g r v o) (k : Nat) : w.frozen? ⟨g, k, none⟩ = false := D.Box.frozen h.2 k
end
theorem course_letters {r : RowZ} (h : r.Fit) (v : Value) (o : List LaZ) : ∃ (n : Int) (ob : Bool) (a b c d e : BitVec 64) (t ov ca re : Int) (pa : Bool) (nx num due tr : Int) (q : List Int) (x0 x1 x2 x3 : Value), r = ⟨⟨n, ob, [a, b, c, d, e], t, ov, ca, re⟩, pa, nx, num, due, tr, q⟩ ∧ toldC o = [x0, x1, x2, x3] ∧ courseC r v o = [.int .u32 n, .bool ob, .int .u64 (U a), .int .u64 (U b), .int .u64 (U c), .int .u64 (U d), .int .u64 (U e), .int .i64 t, .int .i64 ov, .int .i64 ca, .int .i64 re, .bool pa, .int .i64 nx, .int .u64 num, .int .i64 due, .int .i64 tr, v, x0, x1, x2, x3, .int .i64 (o.length : Int)] := by
  obtain ⟨⟨n, ob, L, t, ov, ca, re⟩, pa, nx, num, due, tr, q⟩ := r
  obtain ⟨⟨_, _, hl5⟩, _⟩ := h
  obtain ⟨a, b, c, d, e, rfl⟩ := list_five hl5
  cases o with
  | nil => exact ⟨n, ob, a, b, c, d, e, t, ov, ca, re, pa, nx, num, due, tr, q, _, _, _, _, rfl, rfl, rfl⟩
  | cons x o => exact ⟨n, ob, a, b, c, d, e, t, ov, ca, re, pa, nx, num, due, tr, q, _, _, _, _, rfl, rfl, rfl⟩
/-- The cells that are asked for by name. -/
structure CellsC (W : World) (g : Nat) (r : RowZ) (v : Value) (o : List LaZ) : Prop where
  n : W.cell? ⟨g, 0, none⟩ = some (.int .u32 r.j.n)
  ob : W.cell? ⟨g, 1, none⟩ = some (.bool r.j.o)
  ov : W.cell? ⟨g, 8, none⟩ = some (.int .i64 r.j.ov)
  re : W.cell? ⟨g, 10, none⟩ = some (.int .i64 r.j.re)
  nx : W.cell? ⟨g, 12, none⟩ = some (.int .i64 r.nx)
  num : W.cell? ⟨g, 13, none⟩ = some (.int .u64 r.num)
  due : W.cell? ⟨g, 14, none⟩ = some (.int .i64 r.due)
  tr : W.cell? ⟨g, 15, none⟩ = some (.int .i64 r.tr)
  q : W.cell? ⟨g, 16, none⟩ = some v
  count : W.cell? ⟨g, 21, none⟩ = some (.int .i64 (o.length : Int))
def W4 (W : World) (g : Nat) (x0 x1 x2 x3 : Value) : Prop := W.cell? ⟨g, 17, none⟩ = some x0 ∧ W.cell? ⟨g, 18, none⟩ = some x1 ∧ W.cell? ⟨g, 19, none⟩ = some x2 ∧ W.cell? ⟨g, 20, none⟩ = some x3
theorem CourseAt.cells {w : World} {g : Nat} {r : RowZ} {v : Value} {o : List LaZ} (h : CourseAt w g r v o) : CellsC w g r v o := by
  obtain ⟨hf, hx⟩ := h
  obtain ⟨n, ob, a, b, c, d, e, t, ov, ca, re, pa, nx, num, due, tr, q, x0, x1, x2, x3, rfl, _, hc⟩ := course_letters hf v o
  rw [hc] at hx
  exact ⟨D.Box.cell hx 0, D.Box.cell hx 1, D.Box.cell hx 8, D.Box.cell hx 10, D.Box.cell hx 12, D.Box.cell hx 13, D.Box.cell hx 14, D.Box.cell hx 15, D.Box.cell hx 16, D.Box.cell hx 21⟩
theorem CourseAt.told0 {w : World} {g : Nat} {r : RowZ} {v : Value} (h : CourseAt w g r v []) : W4 w g (.int .u64 0) (.int .u32 0) (.int .i64 0) (.int .i64 0) := by
  obtain ⟨hf, hx⟩ := h
  obtain ⟨n, ob, a, b, c, d, e, t, ov, ca, re, pa, nx, num, due, tr, q, x0, x1, x2, x3, rfl, ht, hc⟩ := course_letters hf v []
  rw [hc] at hx
  cases ht
  exact ⟨D.Box.cell hx 17, D.Box.cell hx 18, D.Box.cell hx 19, D.Box.cell hx 20⟩
theorem CourseAt.run {w : World} {g : Nat} {r : RowZ} {v : Value} {o : List LaZ} (h : CourseAt w g r v o) : LoadIs w 30 g 13 (goV r.num r.due r.tr) := by
  obtain ⟨hf, hx⟩ := h
  obtain ⟨n, ob, a, b, c, d, e, t, ov, ca, re, pa, nx, num, due, tr, q, x0, x1, x2, x3, rfl, _, hc⟩ := course_letters hf v o
  rw [hc] at hx
  refine load_of hx 13 3 [.int .u64 num, .int .i64 due, .int .i64 tr] (fun j u hj => ?_) und_going size_going rfl
  match j, hj with
  | 0, hj => exact hj
  | 1, hj => exact hj
  | 2, hj => exact hj
theorem CourseAt.row {w : World} {g : Nat} {r : RowZ} {v : Value} {o : List LaZ} (h : CourseAt w g r v o) : LoadIs w 33 g 0 (rowV r v) :=
  load_of h.2 0 17 _ (fun j u hj => by
    have hlt := (List.getElem?_eq_some_iff.1 hj).1
    rw [Nat.zero_add]
    unfold courseC
    rw [List.append_assoc, List.getElem?_append_left hlt]
    exact hj) und_row size_row (rowC_len h.1 v)
theorem CourseAt.setQ {w : World} {g : Nat} {r : RowZ} {v : Value} {o : List LaZ} (h : CourseAt w g r v o) (v' : Value) (q' : List Int) : CourseAt (w.setCell ⟨g, 16, none⟩ v') g { r with q := q' } v' o := by
  obtain ⟨hf, hx⟩ := h
  refine ⟨hf, ?_⟩
  have := hx.set 16 v'
  obtain ⟨n, ob, a, b, c, d, e, t, ov, ca, re, pa, nx, num, due, tr, q, x0, x1, x2, x3, rfl, ht, hc⟩ := course_letters hf v o
  rw [hc] at this
  have e : courseC ⟨⟨n, ob, [a, b, c, d, e], t, ov, ca, re⟩, pa, nx, num, due, tr, q'⟩ v' o = [.int .u32 n, .bool ob, .int .u64 (U a), .int .u64 (U b), .int .u64 (U c), .int .u64 (U d), .int .u64 (U e), .int .i64 t, .int .i64 ov, .int .i64 ca, .int .i64 re, .bool pa, .int .i64 nx, .int .u64 num, .int .i64 due, .int .i64 tr, v', x0, x1, x2, x3, .int .i64 (o.length : Int)] := by
    unfold courseC; rw [ht]; rfl
  rw [e]
  exact this
theorem CourseAt.setNx {w : World} {g : Nat} {r : RowZ} {v : Value} {o : List LaZ} (h : CourseAt w g r v o) (nx' : Int) : CourseAt (w.setCell ⟨g, 12, none⟩ (.int .i64 nx')) g (nextR r nx') v o := by
  obtain ⟨hf, hx⟩ := h
  refine ⟨hf, ?_⟩
  have := hx.set 12 (.int .i64 nx')
  obtain ⟨n, ob, a, b, c, d, e, t, ov, ca, re, pa, nx, num, due, tr, q, x0, x1, x2, x3, rfl, ht, hc⟩ := course_letters hf v o
  rw [hc] at this
  have e : courseC (nextR ⟨⟨n, ob, [a, b, c, d, e], t, ov, ca, re⟩, pa, nx, num, due, tr, q⟩ nx') v o = [.int .u32 n, .bool ob, .int .u64 (U a), .int .u64 (U b), .int .u64 (U c), .int .u64 (U d), .int .u64 (U e), .int .i64 t, .int .i64 ov, .int .i64 ca, .int .i64 re, .bool pa, .int .i64 nx', .int .u64 num, .int .i64 due, .int .i64 tr, v, x0, x1, x2, x3, .int .i64 (o.length : Int)] := by
    unfold courseC; rw [ht]; rfl
  rw [e]
  exact this
/-- What runs is written; then what was told; then how many. -/
def runR (r : RowZ) (num due tr : Int) : RowZ := { r with num := num, due := due, tr := tr }
theorem CourseAt.setRun {w : World} {g : Nat} {r : RowZ} {v : Value} {o : List LaZ} (h : CourseAt w g r v o) (num' due' tr' : Int) (h0 : 0 ≤ num') : ∃ W, StoreIs w 30 g 13 (goV num' due' tr') W ∧ CourseAt W g (runR r num' due' tr') v o ∧ ∃ cs, W = w.setRow g cs := by
  obtain ⟨hf, hx⟩ := h
  obtain ⟨n, ob, a, b, c, d, e, t, ov, ca, re, pa, nx, num, due, tr, q, x0, x1, x2, x3, rfl, ht, hc⟩ := course_letters hf v o
  rw [hc] at hx
  have h1 := store_at (ty := 30) (o := 13) (vs := [.int .u64 num', .int .i64 due', .int .i64 tr']) hx (by show 13 + 3 ≤ 22; omega) (by rw [size_going]; rfl) (by intro u hu; simp only [List.mem_cons, List.not_mem_nil, or_false] at hu; rcases hu with rfl | rfl | rfl <;> rfl)
  refine ⟨_, h1, ⟨⟨hf.1, h0⟩, ?_⟩, _, rfl⟩
  have e2 : courseC (runR ⟨⟨n, ob, [a, b, c, d, e], t, ov, ca, re⟩, pa, nx, num, due, tr, q⟩ num' due' tr') v o = [.int .u32 n, .bool ob, .int .u64 (U a), .int .u64 (U b), .int .u64 (U c), .int .u64 (U d), .int .u64 (U e), .int .i64 t, .int .i64 ov, .int .i64 ca, .int .i64 re, .bool pa, .int .i64 nx, .int .u64 num', .int .i64 due', .int .i64 tr', v, x0, x1, x2, x3, .int .i64 (o.length : Int)] := by
    unfold courseC; rw [ht]; rfl
  rw [e2]
  exact hx.setRow _
theorem CourseAt.setTold {w : World} {g : Nat} {r : RowZ} {v : Value} (h : CourseAt w g r v []) (la : LaZ) : ∃ W, StoreIs w 48 g 17 (laV la) W ∧ W.cell? ⟨g, 21, none⟩ = some (.int .i64 0) ∧ W.frozen? ⟨g, 21, none⟩ = false ∧ CourseAt (W.setCell ⟨g, 21, none⟩ (.int .i64 1)) g r v [la] ∧ ∃ cs, W = w.setRow g cs := by
  obtain ⟨hf, hx⟩ := h
  obtain ⟨n, ob, a, b, c, d, e, t, ov, ca, re, pa, nx, num, due, tr, q, x0, x1, x2, x3, rfl, ht, hc⟩ := course_letters hf v []
  rw [hc] at hx
  have h1 := store_at (ty := 48) (o := 17) (vs := laC la) hx (by show 17 + 4 ≤ 22; omega) (by rw [size_la]; rfl) (by intro u hu; simp only [laC, List.mem_cons, List.not_mem_nil, or_false] at hu; rcases hu with rfl | rfl | rfl | rfl <;> rfl)
  have h2 := hx.setRow #[.int .u32 n, .bool ob, .int .u64 (U a), .int .u64 (U b), .int .u64 (U c), .int .u64 (U d), .int .u64 (U e), .int .i64 t, .int .i64 ov, .int .i64 ca, .int .i64 re, .bool pa, .int .i64 nx, .int .u64 num, .int .i64 due, .int .i64 tr, v, .int .u64 la.num, .int .u32 la.name, .int .i64 la.due, .int .i64 la.tr, .int .i64 0]
  exact ⟨_, h1, D.Box.cell h2 21, h2.frozen 21, ⟨hf, h2.set 21 (.int .i64 1)⟩, _, rfl⟩
end Go.Proofs.YthghcffibljclaaDoor
