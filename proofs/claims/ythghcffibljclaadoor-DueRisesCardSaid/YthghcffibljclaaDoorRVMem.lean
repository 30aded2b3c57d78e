/- Rows of a table in memory. -/
import Derived.Test.YthghcffibljclaaDoorR2
import Derived.Test.YthghcffibljclaaDoorR7
import Derived.Test.YthghcffibljclaaDoorRVTable
import Derived.Deep.AppendLies
import Derived.Deep.RegionLaw
namespace Go.Proofs.YthghcffibljclaaDoor
open Go.RowKit

/-- A row as it stands in memory; v: the slice that waits. -/
def rowC (r : RowZ) (v : Value) : List Value := jobC r.j ++ [.bool r.pa, .int .i64 r.nx, .int .u64 r.num, .int .i64 r.due, .int .i64 r.tr, v]
def rowV (r : RowZ) (v : Value) : Value := .agg (rowC r v).toArray
def RowZ.Fit (r : RowZ) : Prop := r.j.Fit ∧ 0 ≤ r.num
theorem rowC_all (n : Int) (o : Bool) (a b c d e : BitVec 64) (t ov ca re : Int) (pa : Bool) (nx num due tr : Int) (qv : Value) (q : List Int) : rowC ⟨⟨n, o, [a, b, c, d, e], t, ov, ca, re⟩, pa, nx, num, due, tr, q⟩ qv = [.int .u32 n, .bool o, .int .u64 (U a), .int .u64 (U b), .int .u64 (U c), .int .u64 (U d), .int .u64 (U e), .int .i64 t, .int .i64 ov, .int .i64 ca, .int .i64 re, .bool pa, .int .i64 nx, .int .u64 num, .int .i64 due, .int .i64 tr, qv] := rfl
theorem rowV_all (n : Int) (o : Bool) (a b c d e : BitVec 64) (t ov ca re : Int) (pa : Bool) (nx num due tr : Int) (qv : Value) (q : List Int) : rowV ⟨⟨n, o, [a, b, c, d, e], t, ov, ca, re⟩, pa, nx, num, due, tr, q⟩ qv = .agg #[.int .u32 n, .bool o, .int .u64 (U a), .int .u64 (U b), .int .u64 (U c), .int .u64 (U d), .int .u64 (U e), .int .i64 t, .int .i64 ov, .int .i64 ca, .int .i64 re, .bool pa, .int .i64 nx, .int .u64 num, .int .i64 due, .int .i64 tr, qv] := rfl
theorem rowC_len {r : RowZ} (h : r.Fit) (v : Value) : (rowC r v).length = 17 := by
  have := h.1.2.2
  simp [rowC, jobC, this]
theorem rowC_nth {r : RowZ} (h : r.Fit) (v : Value) : (rowC r v)[16]? = some v := by
  obtain ⟨⟨n, o, L, t, ov, ca, re⟩, pa, nx, num, due, tr, q⟩ := r
  obtain ⟨⟨_, _, hl5⟩, _⟩ := h
  obtain ⟨a, b, c, d, e, rfl⟩ := list_five hl5
  rfl
/-- These cells can be read from there on. -/
def Reads (w : World) (A : Option Addr) (cs : List Value) : Prop := ∀ j u, cs[j]? = some u → ∃ b o, A = some ⟨b, o, none⟩ ∧ b < w.heap.size ∧ w.cell? ⟨b, o + j, none⟩ = some u
theorem Reads.on {w w' : World} {A : Option Addr} {cs : List Value} (h : Reads w A cs) (hb : Below w.heap.size w w') : Reads w' A cs := fun j u hj => by
  obtain ⟨b, o, e, hl, hc⟩ := h j u hj
  exact ⟨b, o, e, Nat.lt_of_lt_of_le hl hb.size, (hb.cell (p := ⟨b, o + j, none⟩) hl).trans hc⟩
theorem Reads.nil (w : World) (A : Option Addr) : Reads w A [] := fun j u hj => by simp at hj
theorem Reads.addr {w : World} {b o : Nat} {cs : List Value} (h : Reads w (some ⟨b, o, none⟩) cs) : ∀ j u, cs[j]? = some u → w.cell? ((⟨b, o, none⟩ : Addr).add j) = some u := fun j u hj => by
  obtain ⟨b', o', e, hl, hc⟩ := h j u hj
  cases e
  rw [show (⟨b, o, none⟩ : Addr).add j = ⟨b, o + j, none⟩ by unfold Addr.add; split <;> simp_all]
  exact hc
theorem Reads.some_ {w : World} {A : Option Addr} {cs : List Value} (h : Reads w A cs) (hn : 0 < cs.length) : ∃ b o, A = some ⟨b, o, none⟩ ∧ b < w.heap.size := by
  obtain ⟨b, o, e, hl, _⟩ := h 0 cs[0] (List.getElem?_eq_getElem hn)
  exact ⟨b, o, e, hl⟩
theorem Reads.take {w : World} {A : Option Addr} {cs : List Value} (h : Reads w A cs) (k : Nat) : Reads w A (cs.take k) := fun j u hj => by
  rw [List.getElem?_take] at hj
  split at hj
  · exact h j u hj
  · cases hj
theorem Reads.drop {w : World} {b o : Nat} {cs : List Value} (h : Reads w (some ⟨b, o, none⟩) cs) (k : Nat) : Reads w (some ⟨b, o + k, none⟩) (cs.drop k) := fun j u hj => by
  rw [List.getElem?_drop] at hj
  obtain ⟨b', o', e, hl, hc⟩ := h (k + j) u hj
  cases e
  exact ⟨b, o + k, rfl, hl, by rw [Nat.add_assoc]; exact hc⟩
/-- A slice that reads these times. -/
def QR (w : World) (v : Value) (q : List Int) : Prop := ∃ A c, v = .slice A q.length c ∧ q.length ≤ c ∧ c ≤ maxLen ∧ (A = none → c = 0) ∧ Reads w A (q.map int1)
theorem QR.on {w w' : World} {v : Value} {q : List Int} (h : QR w v q) (hb : Below w.heap.size w w') : QR w' v q := by
  obtain ⟨A, c, e, h1, h2, h3, h4⟩ := h
  exact ⟨A, c, e, h1, h2, h3, h4.on hb⟩
theorem QR.nil (w : World) : QR w (.slice none 0 0) [] := ⟨none, 0, rfl, by simp, by decide, fun _ => rfl, .nil _ _⟩
/-- A row and the slice that waits in it. -/
abbrev RowM := RowZ × Value
def rowM (m : RowM) : List Value := rowC m.1 m.2
def RowOk (w : World) (m : RowM) : Prop := m.1.Fit ∧ QR w m.2 m.1.q
theorem RowOk.on {w w' : World} {m : RowM} (h : RowOk w m) (hb : Below w.heap.size w w') : RowOk w' m := ⟨h.1, h.2.on hb⟩
theorem mflat_len : ∀ {ms : List RowM}, (∀ m ∈ ms, m.1.Fit) → (ms.flatMap rowM).length = ms.length * 17
  | [], _ => rfl
  | m :: ms, h => by
    rw [List.flatMap_cons, List.length_append, mflat_len (fun x hx => h x (List.mem_cons_of_mem _ hx)), List.length_cons, show (rowM m).length = 17 from rowC_len (h m List.mem_cons_self) _]
    omega
theorem mflat_at : ∀ {ms : List RowM}, (∀ m ∈ ms, m.1.Fit) → ∀ (k : Nat) (m : RowM), ms[k]? = some m → ∀ i, i < 17 → (ms.flatMap rowM)[k * 17 + i]? = (rowM m)[i]?
  | [], _, k, m, hk, i, hi => by simp at hk
  | x :: ms, h, k, m, hk, i, hi => by
    have hl : (rowM x).length = 17 := rowC_len (h x List.mem_cons_self) _
    cases k with
    | zero =>
      simp at hk; subst hk
      rw [List.flatMap_cons, Nat.zero_mul, Nat.zero_add, List.getElem?_append_left (by omega)]
    | succ k =>
      rw [List.flatMap_cons, List.getElem?_append_right (by rw [hl]; omega), hl, show (k + 1) * 17 + i - 17 = k * 17 + i by omega]
      exact mflat_at (fun y hy => h y (List.mem_cons_of_mem _ hy)) k m (by simpa using hk) i hi
theorem mflat_one {w : World} {ms : List RowM} (h : ∀ m ∈ ms, RowOk w m) : ∀ u ∈ ms.flatMap rowM, u.oneCell' = true := by
  intro u hu
  obtain ⟨m, hm, hu⟩ := List.mem_flatMap.1 hu
  obtain ⟨A, c, e, _⟩ := (h m hm).2
  obtain ⟨⟨⟨n, o, L, t, ov, ca, re⟩, pa, nx, num, due, tr, q⟩, v⟩ := m
  obtain ⟨⟨⟨_, _, hl5⟩, _⟩, _⟩ := h _ hm
  obtain ⟨a, b, c, d, e, rfl⟩ := list_five hl5
  simp only at e
  subst e
  simp only [rowM, rowC_all, List.mem_cons, List.not_mem_nil, or_false] at hu
  rcases hu with rfl | rfl | rfl | rfl | rfl | rfl | rfl | rfl | rfl | rfl | rfl | rfl | rfl | rfl | rfl | rfl | rfl <;> rfl
theorem rowM_twelve {m : RowM} (h : m.1.Fit) : ∃ (n : Int) (o : Bool) (a b c d e : BitVec 64) (t ov ca re : Int) (pa : Bool) (nx num due tr : Int) (qv : Value) (q : List Int), m = (⟨⟨n, o, [a, b, c, d, e], t, ov, ca, re⟩, pa, nx, num, due, tr, q⟩, qv) := by
  obtain ⟨⟨⟨n, o, L, t, ov, ca, re⟩, pa, nx, num, due, tr, q⟩, v⟩ := m
  obtain ⟨⟨_, _, hl5⟩, _⟩ := h
  obtain ⟨a, b, c, d, e, rfl⟩ := list_five hl5
  exact ⟨n, o, a, b, c, d, e, t, ov, ca, re, pa, nx, num, due, tr, v, q, rfl⟩
/-- A slice that reads this table. -/
structure TabR (w : World) (A : Option Addr) (n c : Nat) (ms : List RowM) : Prop where
  len : ms.length = n
  cap : n ≤ c
  top : c ≤ maxLen
  non : A = none → c = 0
  rd : Reads w A (ms.flatMap rowM)
  ok : ∀ m ∈ ms, RowOk w m
theorem TabR.on {w w' : World} {A : Option Addr} {n c : Nat} {ms : List RowM} (h : TabR w A n c ms) (hb : Below w.heap.size w w') : TabR w' A n c ms :=
  ⟨h.len, h.cap, h.top, h.non, h.rd.on hb, fun m hm => (h.ok m hm).on hb⟩
theorem TabR.nil (w : World) : TabR w none 0 0 [] := ⟨rfl, by omega, by decide, fun _ => rfl, .nil _ _, fun m hm => by cases hm⟩
theorem TabR.fit {w : World} {A : Option Addr} {n c : Nat} {ms : List RowM} (h : TabR w A n c ms) : ∀ m ∈ ms, m.1.Fit := fun m hm => (h.ok m hm).1
theorem TabR.cells {w : World} {A : Option Addr} {n c : Nat} {ms : List RowM} (h : TabR w A n c ms) {k : Nat} {n : Int} {o : Bool} {a b c d e : BitVec 64} {t ov ca re : Int} {pa : Bool} {nx num due tr : Int} {qv : Value} {q : List Int} (hk : ms[k]? = some (⟨⟨n, o, [a, b, c, d, e], t, ov, ca, re⟩, pa, nx, num, due, tr, q⟩, qv)) : ∃ bl of, A = some ⟨bl, of, none⟩ ∧ bl < w.heap.size ∧ w.cell? ⟨bl, of + k * 17, none⟩ = some (.int .u32 n) ∧ w.cell? ⟨bl, of + k * 17 + 1, none⟩ = some (.bool o) ∧ w.cell? ⟨bl, of + k * 17 + 2, none⟩ = some (.int .u64 (U a)) ∧ w.cell? ⟨bl, of + k * 17 + 3, none⟩ = some (.int .u64 (U b)) ∧ w.cell? ⟨bl, of + k * 17 + 4, none⟩ = some (.int .u64 (U c)) ∧ w.cell? ⟨bl, of + k * 17 + 5, none⟩ = some (.int .u64 (U d)) ∧ w.cell? ⟨bl, of + k * 17 + 6, none⟩ = some (.int .u64 (U e)) ∧ w.cell? ⟨bl, of + k * 17 + 7, none⟩ = some (.int .i64 t) ∧ w.cell? ⟨bl, of + k * 17 + 8, none⟩ = some (.int .i64 ov) ∧ w.cell? ⟨bl, of + k * 17 + 9, none⟩ = some (.int .i64 ca) ∧ w.cell? ⟨bl, of + k * 17 + 10, none⟩ = some (.int .i64 re) ∧ w.cell? ⟨bl, of + k * 17 + 11, none⟩ = some (.bool pa) ∧ w.cell? ⟨bl, of + k * 17 + 12, none⟩ = some (.int .i64 nx) ∧ w.cell? ⟨bl, of + k * 17 + 13, none⟩ = some (.int .u64 num) ∧ w.cell? ⟨bl, of + k * 17 + 14, none⟩ = some (.int .i64 due) ∧ w.cell? ⟨bl, of + k * 17 + 15, none⟩ = some (.int .i64 tr) ∧ w.cell? ⟨bl, of + k * 17 + 16, none⟩ = some qv := by
  have hkl := (List.getElem?_eq_some_iff.1 hk).1
  obtain ⟨bl, of, rfl, hlt⟩ := h.rd.some_ (by rw [mflat_len h.fit]; omega)
  refine ⟨bl, of, rfl, hlt, ?_⟩
  have ha : ∀ i, i < 17 → ∀ u, (rowC ⟨⟨n, o, [a, b, c, d, e], t, ov, ca, re⟩, pa, nx, num, due, tr, q⟩ qv)[i]? = some u → w.cell? ⟨bl, of + (k * 17 + i), none⟩ = some u := fun i hi u hu => by
    obtain ⟨b', o', e', _, hc⟩ := h.rd (k * 17 + i) u (by rw [mflat_at h.fit k _ hk i hi]; exact hu)
    cases e'
    exact hc
  have ha : ∀ i, i < 17 → ∀ u, (rowC ⟨⟨n, o, [a, b, c, d, e], t, ov, ca, re⟩, pa, nx, num, due, tr, q⟩ qv)[i]? = some u → w.cell? ⟨bl, of + k * 17 + i, none⟩ = some u := fun i hi u hu => by rw [Nat.add_assoc]; exact ha i hi u hu
  exact ⟨ha 0 (by omega) _ rfl, ha 1 (by omega) _ rfl, ha 2 (by omega) _ rfl, ha 3 (by omega) _ rfl, ha 4 (by omega) _ rfl, ha 5 (by omega) _ rfl, ha 6 (by omega) _ rfl, ha 7 (by omega) _ rfl, ha 8 (by omega) _ rfl, ha 9 (by omega) _ rfl, ha 10 (by omega) _ rfl, ha 11 (by omega) _ rfl, ha 12 (by omega) _ rfl, ha 13 (by omega) _ rfl, ha 14 (by omega) _ rfl, ha 15 (by omega) _ rfl, ha 16 (by omega) _ rfl⟩
/-- A row in a block of its own. -/
def RowAt (w : World) (g : Nat) (r : RowZ) (v : Value) : Prop := r.Fit ∧ D.Box w g 33 (rowC r v).toArray
section
variable {w w' : World} {g : Nat} {r : RowZ} {v : Value}
theorem RowAt.lt (h : RowAt w g r v) : g < w.heap.size := D.Box.lt h.2
theorem RowAt.below {B : Nat} (h : RowAt w g r v) (hb : Below B w w') (hg : g < B) : RowAt w' g r v := ⟨h.1, D.Box.below h.2 hb hg⟩
theorem RowAt.on (h : RowAt w g r v) (hb : Below w.heap.size w w') : RowAt w' g r v := h.below hb h.lt
theorem RowAt.alloc (h : RowAt w g r v) (o : Obj) : RowAt (w.alloc o) g r v := ⟨h.1, D.Box.alloc h.2 o⟩
theorem RowAt.frozen (h : RowAt w g r v) (k : Nat) : w.frozen? ⟨g, k, none⟩ = false := D.Box.frozen h.2 k
end
theorem RowAt.cells {w : World} {g : Nat} {n : Int} {o : Bool} {a b c d e : BitVec 64} {t ov ca re : Int} {pa : Bool} {nx num due tr : Int} {qv : Value} {q : List Int} (h : RowAt w g ⟨⟨n, o, [a, b, c, d, e], t, ov, ca, re⟩, pa, nx, num, due, tr, q⟩ qv) : w.cell? ⟨g, 0, none⟩ = some (.int .u32 n) ∧ w.cell? ⟨g, 1, none⟩ = some (.bool o) ∧ w.cell? ⟨g, 2, none⟩ = some (.int .u64 (U a)) ∧ w.cell? ⟨g, 3, none⟩ = some (.int .u64 (U b)) ∧ w.cell? ⟨g, 4, none⟩ = some (.int .u64 (U c)) ∧ w.cell? ⟨g, 5, none⟩ = some (.int .u64 (U d)) ∧ w.cell? ⟨g, 6, none⟩ = some (.int .u64 (U e)) ∧ w.cell? ⟨g, 7, none⟩ = some (.int .i64 t) ∧ w.cell? ⟨g, 8, none⟩ = some (.int .i64 ov) ∧ w.cell? ⟨g, 9, none⟩ = some (.int .i64 ca) ∧ w.cell? ⟨g, 10, none⟩ = some (.int .i64 re) ∧ w.cell? ⟨g, 11, none⟩ = some (.bool pa) ∧ w.cell? ⟨g, 12, none⟩ = some (.int .i64 nx) ∧ w.cell? ⟨g, 13, none⟩ = some (.int .u64 num) ∧ w.cell? ⟨g, 14, none⟩ = some (.int .i64 due) ∧ w.cell? ⟨g, 15, none⟩ = some (.int .i64 tr) ∧ w.cell? ⟨g, 16, none⟩ = some qv := ⟨D.Box.cell h.2 0, D.Box.cell h.2 1, D.Box.cell h.2 2, D.Box.cell h.2 3, D.Box.cell h.2 4, D.Box.cell h.2 5, D.Box.cell h.2 6, D.Box.cell h.2 7, D.Box.cell h.2 8, D.Box.cell h.2 9, D.Box.cell h.2 10, D.Box.cell h.2 11, D.Box.cell h.2 12, D.Box.cell h.2 13, D.Box.cell h.2 14, D.Box.cell h.2 15, D.Box.cell h.2 16⟩
theorem row_new (w : World) (n : Int) (o : Bool) (a b c d e : BitVec 64) (t ov ca re : Int) (pa : Bool) (nx num due tr : Int) (qv : Value) (q : List Int) (h : RowZ.Fit ⟨⟨n, o, [a, b, c, d, e], t, ov, ca, re⟩, pa, nx, num, due, tr, q⟩) : ∃ W : World, W = w.alloc (.cells #[.int .u32 n, .bool o, .int .u64 (U a), .int .u64 (U b), .int .u64 (U c), .int .u64 (U d), .int .u64 (U e), .int .i64 t, .int .i64 ov, .int .i64 ca, .int .i64 re, .bool pa, .int .i64 nx, .int .u64 num, .int .i64 due, .int .i64 tr, qv] 33) ∧ Below w.heap.size w W ∧ RowAt W w.heap.size ⟨⟨n, o, [a, b, c, d, e], t, ov, ca, re⟩, pa, nx, num, due, tr, q⟩ qv ∧ W.heap.size = w.heap.size + 1 :=
  ⟨_, rfl, (Below.refl _ w).alloc (Nat.le_refl _) _, ⟨h, D.Box.new _ _ _⟩, by simp⟩
end Go.Proofs.YthghcffibljclaaDoor
