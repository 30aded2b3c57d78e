/- Dues in memory: rows that can be read, rows of one's own. -/
import Derived.Test.YtidgiohjgkfjcaaDoorQWheel
import Derived.Test.YtidgiohjgkfjcaaDoorProg
import Derived.Below
import Derived.OwnWalk
import Derived.Laws.OwnMore
import Derived.Laws.MakeOwn
import Derived.Laws.AppendOwn
import Derived.Laws.AppendOwnNone
import Derived.Lib.SliceRun
import Derived.Deep.Draws
import Derived.WalkSpells
import Derived.Deep.QuietTactic
import Derived.BigQuiet
import Derived.RegionTactic
import Derived.ChangeAlike
import Derived.LoopTactic
import Derived.Lib.Hide
namespace Go.Proofs.YtidgiohjgkfjcaaDoor
open Go.RowKit

/-- A due as it stands in memory. -/
def denc (d : Int × Int) : List Value := [.int .i64 d.1, .int .u64 d.2]
def dueV (d : Int × Int) : Value := .agg #[.int .i64 d.1, .int .u64 d.2]
theorem info_due : (Tryd.prog.info? 39).map (fun i => (i.zero, i.size, i.bytes)) = some (some (.agg #[.int .i64 0, .int .u64 0]), 2, 16) := by kernel_rfl
theorem dflat_at (l : List (Int × Int)) (k : Nat) (r : Int × Int) (h : l[k]? = some r) : (l.flatMap denc)[k * 2]? = some (.int .i64 r.1) ∧ (l.flatMap denc)[k * 2 + 1]? = some (.int .u64 r.2) := by
  induction l generalizing k with
  | nil => simp at h
  | cons a l ih =>
    cases k with
    | zero => simp at h; subst h; simp [denc]
    | succ k =>
      have := ih k (by simpa using h)
      rw [List.flatMap_cons, show denc a = [.int .i64 a.1, .int .u64 a.2] from rfl]
      rw [show (k + 1) * 2 = k * 2 + 1 + 1 by omega]
      simpa using this
theorem dflat_len : ∀ l : List (Int × Int), (l.flatMap denc).length = l.length * 2
  | [] => rfl
  | a :: l => by rw [List.flatMap_cons, List.length_append, dflat_len l, List.length_cons]; simp [denc]; omega
/-- The slice reads these dues; its block lies below B. -/
structure DuesR (w : World) (B : Nat) (A : Option Addr) (n c : Nat) (l : List (Int × Int)) : Prop where
  len : l.length = n
  cap : n ≤ c
  top : c ≤ maxLen
  at_ : ∀ k r, l[k]? = some r → ∃ b o, A = some ⟨b, o, none⟩ ∧ b < B ∧ w.cell? ⟨b, o + k * 2, none⟩ = some (.int .i64 r.1) ∧ w.cell? ⟨b, o + k * 2 + 1, none⟩ = some (.int .u64 r.2)
theorem qbelow_cell {W w1 : World} {B : Nat} (hb : Below B W w1) : (∀ b o, b < B → w1.cell? ⟨b, o, none⟩ = W.cell? ⟨b, o, none⟩) ∧ (∀ b o, b < B → w1.frozen? ⟨b, o, none⟩ = W.frozen? ⟨b, o, none⟩) :=
  ⟨fun b o h => hb.cell (p := ⟨b, o, none⟩) h, fun b o h => hb.frozen (p := ⟨b, o, none⟩) h⟩
theorem DuesR.below {w w' : World} {B n c : Nat} {A : Option Addr} {l : List (Int × Int)} (h : DuesR w B A n c l) (hb : Below B w w') : DuesR w' B A n c l :=
  ⟨h.len, h.cap, h.top, fun k r hk => by
    obtain ⟨b, o, e, hl, h0, h1⟩ := h.at_ k r hk
    exact ⟨b, o, e, hl, ((qbelow_cell hb).1 b _ hl).trans h0, ((qbelow_cell hb).1 b _ hl).trans h1⟩⟩
theorem DuesR.mono {w : World} {B B' n c : Nat} {A : Option Addr} {l : List (Int × Int)} (h : DuesR w B A n c l) (hb : B ≤ B') : DuesR w B' A n c l :=
  ⟨h.len, h.cap, h.top, fun k r hk => by
    obtain ⟨b, o, e, hl, h0, h1⟩ := h.at_ k r hk
    exact ⟨b, o, e, by omega, h0, h1⟩⟩
theorem DuesR.drewN {w : World} {B n c : Nat} {A : Option Addr} {l : List (Int × Int)} (h : DuesR w B A n c l) (k : Nat) : DuesR (w.drewN k) B A n c l := ⟨h.len, h.cap, h.top, h.at_⟩
theorem DuesR.none_ (w : World) (B : Nat) : DuesR w B none 0 0 [] := ⟨rfl, by omega, by omega, fun k r hk => by simp at hk⟩
/-- A row of dues of one's own: its block is not below base. -/
def OwnD (w : World) (base : Nat) (v : Value) (l : List (Int × Int)) : Prop := w.ownsRow base 39 2 v l.length (l.flatMap denc)
theorem OwnD.row {w : World} {base : Nat} {v : Value} {l : List (Int × Int)} (h : OwnD w base v l) : ∃ A c, v = .slice A l.length c ∧ DuesR w w.heap.size A l.length c l := by
  have hh0 := h
  rcases h.2 with ⟨rfl, h0⟩ | ⟨g, cap, cur, rfl, hg, hh, hn, hm, r⟩
  · have : l = [] := List.length_eq_zero_iff.1 h0
    subst this
    exact ⟨none, 0, rfl, .none_ _ _⟩
  · refine ⟨_, cap, rfl, rfl, hn, hm, fun k q hk => ?_⟩
    obtain ⟨f0, f1⟩ := dflat_at l k q hk
    have hkl : k < l.length := (List.getElem?_eq_some_iff.1 hk).1
    refine ⟨g, 0, rfl, (Array.getElem?_eq_some_iff.1 hh).1, ?_, ?_⟩
    · have := hh0.cellAt (k * 2) (by omega)
      rw [f0] at this
      simpa using this
    · have := hh0.cellAt (k * 2 + 1) (by omega)
      rw [f1] at this
      simpa using this
theorem OwnD.mono {w : World} {base base' : Nat} {v : Value} {l : List (Int × Int)} (h : OwnD w base v l) (hb : base' ≤ base) : OwnD w base' v l := by
  refine ⟨h.1, ?_⟩
  rcases h.2 with h2 | ⟨g, cap, cur, hv, hg, r⟩
  · exact .inl h2
  · exact .inr ⟨g, cap, cur, hv, by omega, r⟩
theorem OwnD.below {w w' : World} {base : Nat} {v : Value} {l : List (Int × Int)} (h : OwnD w base v l) (hb : Below w.heap.size w w') : OwnD w' base v l := by
  refine ⟨h.1, ?_⟩
  rcases h.2 with h2 | ⟨g, cap, cur, hv, hg, hh, r⟩
  · exact .inl h2
  · exact .inr ⟨g, cap, cur, hv, hg, (hb.block g (Array.getElem?_eq_some_iff.1 hh).1).trans hh, r⟩
theorem OwnD.nil (w : World) (base : Nat) : OwnD w base (.slice none 0 0) [] := World.ownsRow_nil _ _ _ _
theorem qcells_two (w : World) (a b : Value) (t : TypeId) : ∀ j u, [a, b][j]? = some u → (w.alloc (.cells #[a, b] t)).cell? ((⟨w.heap.size, 0, none⟩ : Addr).add j) = some u := by
  intro j u hj
  match j, hj with
  | 0, hj => simp at hj; subst hj; simp [Addr.add]
  | 1, hj => simp at hj; subst hj; simp [Addr.add]
theorem qinfo_parts {P : Program} {t : TypeId} {z : Value} {s b : Nat} (h : (P.info? t).map (fun i => (i.zero, i.size, i.bytes)) = some (some z, s, b)) : ∃ i, P.info? t = some i ∧ i.zero = some z ∧ i.size = s ∧ i.bytes = b := by
  cases hp : P.info? t with
  | none => rw [hp] at h; simp at h
  | some i =>
    rw [hp] at h
    simp at h
    exact ⟨i, rfl, h.1, h.2.1, h.2.2⟩
/-- Block g is just these cells. -/
def QBox (w : World) (g : Nat) (t : TypeId) (cs : Array Value) : Prop := w.heap[g]? = some (.cells cs t (0, 0))
section
variable {w w' : World} {g : Nat} {t : TypeId} {cs : Array Value}
theorem QBox.lt (h : QBox w g t cs) : g < w.heap.size := by
  rcases Nat.lt_or_ge g w.heap.size with hlt | hge
  · exact hlt
  · unfold QBox at h; rw [Array.getElem?_eq_none hge] at h; cases h
theorem QBox.cell (h : QBox w g t cs) (i : Nat) : w.cell? ⟨g, i, none⟩ = cs[i]? := cell_of_row w g i cs t (0, 0) h
theorem QBox.frozen (h : QBox w g t cs) (i : Nat) : w.frozen? ⟨g, i, none⟩ = false := by
  unfold QBox at h
  simp [World.frozen?, h]
theorem QBox.new (w : World) (t : TypeId) (cs : Array Value) : QBox (w.alloc (.cells cs t)) w.heap.size t cs := heap_alloc_new w _
theorem QBox.alloc (h : QBox w g t cs) (o : Obj) : QBox (w.alloc o) g t cs := (Below.heap_alloc w o g h.lt).trans h
theorem QBox.set (h : QBox w g t cs) (i : Nat) (u : Value) : QBox (w.setCell ⟨g, i, none⟩ u) g t (cs.setIfInBounds i u) := by
  unfold QBox at h ⊢
  simp [World.setCell, Array.getElem?_modify, h]
theorem QBox.far (h : QBox w g t cs) {p i : Nat} (hp : g ≠ p) (u : Value) : QBox (w.setCell ⟨p, i, none⟩ u) g t cs := (Below.heap_setCell w ⟨p, i, none⟩ u g hp).trans h
theorem QBox.below {B : Nat} (h : QBox w g t cs) (hb : Below B w w') (hg : g < B) : QBox w' g t cs := (hb.block g hg).trans h
theorem QBox.belowAll (h : QBox w g t cs) (hb : Below w.heap.size w w') : QBox w' g t cs := h.below hb h.lt
theorem QBox.drewN (h : QBox w g t cs) (n : Nat) : QBox (w.drewN n) g t cs := h
end
theorem QBox.two {w : World} {g : Nat} {t : TypeId} {a b : Value} (h : QBox w g t #[a, b]) :
    w.cell? ⟨g, 0, none⟩ = some a ∧ w.cell? ⟨g, 1, none⟩ = some b ∧ w.frozen? ⟨g, 0, none⟩ = false ∧ w.frozen? ⟨g, 1, none⟩ = false :=
  ⟨h.cell 0, h.cell 1, h.frozen 0, h.frozen 1⟩
theorem QBox.set2 {w : World} {g : Nat} {t : TypeId} {a b : Value} (h : QBox w g t #[a, b]) (u v : Value) :
    QBox ((w.setCell ⟨g, 0, none⟩ u).setCell ⟨g, 1, none⟩ v) g t #[u, v] := (h.set 0 u).set 1 v
theorem below_set2 {B : Nat} {w W : World} {g : Nat} (h : Below B w W) (hg : B ≤ g) (u v : Value) : Below B w ((W.setCell ⟨g, 0, none⟩ u).setCell ⟨g, 1, none⟩ v) := (h.setCell hg _).setCell hg _
theorem OwnD.far {w : World} {base g i : Nat} {v : Value} {l : List (Int × Int)} (h : OwnD w base v l) (hg : g < base) (u : Value) : OwnD (w.setCell ⟨g, i, none⟩ u) base v l := by
  refine ⟨h.1, ?_⟩
  rcases h.2 with h2 | ⟨b, cap, cur, hv, hb, hh, r⟩
  · exact .inl h2
  · exact .inr ⟨b, cap, cur, hv, hb, (Below.heap_setCell w ⟨g, i, none⟩ u b (by show b ≠ g; omega)).trans hh, r⟩
theorem OwnD.alloc {w : World} {base : Nat} {v : Value} {l : List (Int × Int)} (h : OwnD w base v l) (o : Obj) : OwnD (w.alloc o) base v l := h.below ((Below.refl _ _).alloc (Nat.le_refl _) o)
theorem qcells_two1 (w : World) (o : Obj) (a b : Value) (t : TypeId) : ∀ j u, [a, b][j]? = some u → ((w.alloc o).alloc (.cells #[a, b] t)).cell? ((⟨w.heap.size + 1, 0, none⟩ : Addr).add j) = some u := by
  have := qcells_two (w.alloc o) a b t
  rwa [World.size_alloc] at this
theorem OwnD.slice {w : World} {base : Nat} {v : Value} {l : List (Int × Int)} (h : OwnD w base v l) : ∃ A c, v = .slice A l.length c := by
  obtain ⟨A, c, e, _⟩ := h.row
  exact ⟨A, c, e⟩
theorem own_snoc {w : World} {base : Nat} {v : Value} {l : List (Int × Int)} {x0 x1 : Int} (h : w.ownsRow base 39 2 v (l.length + 1) (l.flatMap denc ++ [.int .i64 x0, .int .u64 x1])) : OwnD w base v (l ++ [(x0, x1)]) := by
  unfold OwnD
  simpa [denc] using h
theorem QBox.grown {a w : World} {row : Option Nat} {g : Nat} {t : TypeId} {cs : Array Value} (h : QBox a g t cs) (hg : a.grownBy w row) (hne : row ≠ some g) : QBox w g t cs := by
  have := hg.block g h.lt
  first
    | exact (this hne).trans h
    | exact (this (Ne.symm hne)).trans h
/-- Two rows of one's own lie in blocks of their own. -/
def QApart (v1 v2 : Value) : Prop := ∀ j, v1.ownBlock = some j → v2.ownBlock ≠ some j
theorem QApart.symm {v1 v2 : Value} (h : QApart v1 v2) : QApart v2 v1 := fun j e1 e2 => h j e2 e1
theorem QApart.none_ (v : Value) (n c : Nat) : QApart v (.slice none n c) := fun _ _ e => by cases e
theorem QApart.new {v1 v2 : Value} {H g n c : Nat} (h : QApart v1 v2) (hlt : ∀ j, v1.ownBlock = some j → j < H) (hl : v2.ownBlock = some g ∨ g = H) : QApart v1 (.slice (some ⟨g, 0, none⟩) n c) := by
  intro j e1 e2
  have e3 : g = j := Option.some.inj e2
  subst e3
  rcases hl with hl | hl
  · exact h _ e1 hl
  · have := hlt _ e1; omega
theorem OwnD.kept {w w' : World} {base : Nat} {v v2 : Value} {l : List (Int × Int)} (h : OwnD w base v l) (hg : w.grownBy w' v2.ownBlock) (ha : QApart v v2) : OwnD w' base v l := by
  refine World.ownsRow.kept h hg ?_
  cases hv : v.ownBlock with
  | none => exact .inl rfl
  | some j => exact .inr (fun e => ha j hv e.symm)
end Go.Proofs.YtidgiohjgkfjcaaDoor
