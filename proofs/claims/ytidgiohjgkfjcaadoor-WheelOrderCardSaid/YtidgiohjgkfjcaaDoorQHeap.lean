/- A wheel in memory: its block, its slots; what leaves it as it is. -/
import Derived.Test.YtidgiohjgkfjcaaDoorQRow
import Derived.Test.YtidgiohjgkfjcaaDoorQPlace
import Derived.Test.YtidgiohjgkfjcaaDoorFirst
import Derived.RangeFuncFrom
namespace Go.Proofs.YtidgiohjgkfjcaaDoor
open Go.RowKit

/-- A slice that reads dues, out of a block that holds dues alone. -/
structure DuesT (w : World) (B : Nat) (A : Option Addr) (n c : Nat) (l : List (Int × Int)) : Prop where
  row : DuesR w B A n c l
  ty : ∀ b o, 0 < n → A = some ⟨b, o, none⟩ → ∃ cs f, w.heap[b]? = some (.cells cs 39 f)
  shape : (A = none ∧ c = 0) ∨ ∃ b o, A = some ⟨b, o, none⟩
/-- Blocks of dues below B are as they were. -/
def KeepD (B : Nat) (w w' : World) : Prop := ∀ b, b < B → ∀ cs f, w.heap[b]? = some (.cells cs 39 f) → w'.heap[b]? = w.heap[b]?
theorem DuesT.keep {w w' : World} {B n c : Nat} {A : Option Addr} {l : List (Int × Int)} (h : DuesT w B A n c l) (hk : KeepD B w w') : DuesT w' B A n c l := by
  have e : ∀ k r, l[k]? = some r → ∀ b o, A = some ⟨b, o, none⟩ → b < B → w'.heap[b]? = w.heap[b]? := fun k r hr b o hA hb => by
    have hl : k < l.length := (List.getElem?_eq_some_iff.1 hr).1
    obtain ⟨cs, f, hc⟩ := h.ty b o (by rw [← h.row.len]; omega) hA
    exact hk b hb cs f hc
  refine ⟨⟨h.row.len, h.row.cap, h.row.top, fun k r hr => ?_⟩, fun b o hn hA => ?_, h.shape⟩
  · obtain ⟨b, o, hA, hb, h0, h1⟩ := h.row.at_ k r hr
    have hw := e k r hr b o hA hb
    refine ⟨b, o, hA, hb, ?_, ?_⟩
    · rw [← h0]; unfold World.cell?; dsimp only; rw [hw]
    · rw [← h1]; unfold World.cell?; dsimp only; rw [hw]
  · obtain ⟨cs, f, hc⟩ := h.ty b o hn hA
    have hl : 0 < l.length := by rw [h.row.len]; exact hn
    obtain ⟨b', o', hA', hb', _⟩ := h.row.at_ 0 l[0] (List.getElem?_eq_getElem hl)
    rw [hA] at hA'
    cases hA'
    exact ⟨cs, f, (e 0 l[0] (List.getElem?_eq_getElem hl) b o hA hb').trans hc⟩
theorem KeepD.below {B : Nat} {w w' : World} (h : Below B w w') : KeepD B w w' := fun b hb _ _ _ => h.block b hb
theorem DuesT.below {w w' : World} {B n c : Nat} {A : Option Addr} {l : List (Int × Int)} (h : DuesT w B A n c l) (hb : Below B w w') : DuesT w' B A n c l := h.keep (.below hb)
theorem DuesT.mono {w : World} {B B' n c : Nat} {A : Option Addr} {l : List (Int × Int)} (h : DuesT w B A n c l) (hb : B ≤ B') : DuesT w B' A n c l := ⟨h.row.mono hb, h.ty, h.shape⟩
theorem DuesT.nil (w : World) (B : Nat) : DuesT w B none 0 0 [] := ⟨.none_ w B, (fun _ _ _ h => by cases h), .inl ⟨rfl, rfl⟩⟩
theorem OwnD.rowT {w : World} {base : Nat} {v : Value} {l : List (Int × Int)} (h : OwnD w base v l) : ∃ A c, v = .slice A l.length c ∧ DuesT w w.heap.size A l.length c l := by
  obtain ⟨A, c, rfl, hr⟩ := h.row
  refine ⟨A, c, rfl, hr, fun b o hn hA => ?_, ?_⟩
  · rcases h.2 with ⟨hv, h0⟩ | ⟨g, cap, cur, hv, hg, hh, _⟩
    · omega
    · cases hv
      cases hA
      exact ⟨_, _, hh⟩
  · rcases h.2 with ⟨hv, h0⟩ | ⟨g, cap, cur, hv, hg, hh, _⟩
    · injection hv with e1 e2 e3; exact .inl ⟨e1, e3⟩
    · injection hv with e1 e2 e3; exact .inr ⟨_, _, e1⟩
theorem OwnD.rowN {w : World} {base : Nat} {v : Value} {l : List (Int × Int)} (h : OwnD w base v l) : ∃ A n c, v = .slice A n c ∧ DuesT w w.heap.size A n c l := by
  obtain ⟨A, c, e, hd⟩ := h.rowT
  exact ⟨A, _, c, e, hd⟩
/-- A part of such a slice. -/
theorem DuesR.drop {w : World} {B n c b o : Nat} {l : List (Int × Int)} (h : DuesR w B (some ⟨b, o, none⟩) n c l) (k : Nat) (hk : k ≤ n) : DuesR w B (some ⟨b, o + k * 2, none⟩) (n - k) (c - k) (l.drop k) := by
  refine ⟨by rw [List.length_drop, h.len], by have := h.cap; omega, by have := h.top; omega, fun i r hr => ?_⟩
  rw [List.getElem?_drop] at hr
  obtain ⟨b', o', hA, hb, h0, h1⟩ := h.at_ _ _ hr
  cases hA
  refine ⟨b, o + k * 2, rfl, hb, ?_, ?_⟩
  · rw [← h0]; congr 2; omega
  · rw [← h1]; congr 2; omega
theorem DuesR.take {w : World} {B n c : Nat} {A : Option Addr} {l : List (Int × Int)} (h : DuesR w B A n c l) (k c' : Nat) (hk : k ≤ n) (hc : k ≤ c') (hc' : c' ≤ c) : DuesR w B A k c' (l.take k) := by
  refine ⟨by rw [List.length_take, h.len]; omega, hc, by have := h.top; omega, fun i r hr => ?_⟩
  rw [List.getElem?_take] at hr
  split at hr
  · exact h.at_ _ _ hr
  · cases hr
theorem DuesT.take {w : World} {B n c : Nat} {A : Option Addr} {l : List (Int × Int)} (h : DuesT w B A n c l) (k c' : Nat) (hk : k ≤ n) (hc : k ≤ c') (hc' : c' ≤ c) : DuesT w B A k c' (l.take k) :=
  ⟨h.row.take k c' hk hc hc', fun b o h0 hA => h.ty b o (by omega) hA, by
    rcases h.shape with ⟨e, e2⟩ | e
    · exact .inl ⟨e, by omega⟩
    · exact .inr e⟩

/-- All blocks but p are as they were. -/
structure Only (p : Nat) (w w' : World) : Prop where
  os : w'.os = w.os
  tape : w'.tape = w.tape
  output : w'.output = w.output
  size : w.heap.size ≤ w'.heap.size
  block : ∀ k, k < w.heap.size → k ≠ p → w'.heap[k]? = w.heap[k]?
theorem Only.refl (p : Nat) (w : World) : Only p w w := ⟨rfl, rfl, rfl, Nat.le_refl _, fun _ _ _ => rfl⟩
theorem Only.trans {p : Nat} {a b c : World} (h : Only p a b) (k : Only p b c) : Only p a c :=
  ⟨k.os.trans h.os, k.tape.trans h.tape, k.output.trans h.output, Nat.le_trans h.size k.size, fun i hi hp => (k.block i (Nat.lt_of_lt_of_le hi h.size) hp).trans (h.block i hi hp)⟩
theorem Only.of {p : Nat} {w w' : World} (h : Below w.heap.size w w') : Only p w w' := ⟨h.os, h.tape, h.output, h.size, fun k hk _ => h.block k hk⟩
theorem Only.set (p i : Nat) (w : World) (u : Value) : Only p w (w.setCell ⟨p, i, none⟩ u) := ⟨rfl, rfl, rfl, by simp, fun k _ hp => Below.heap_setCell w ⟨p, i, none⟩ u k hp⟩
theorem Only.below {p B : Nat} {w w' : World} (h : Only p w w') (hB : B ≤ w.heap.size) (hp : B ≤ p) : Below B w w' := ⟨h.os, h.tape, h.output, h.size, fun k hk => h.block k (by omega) (by omega)⟩
theorem Only.drop {p : Nat} {w w1 w2 : World} (h : Only p w1 w2) (hb : Below w.heap.size w w1) (hp : w.heap.size ≤ p) : Below w.heap.size w w2 :=
  hb.trans (h.below hb.size hp)
theorem Only.keepsOthers {p : Nat} {w w' : World} (h : Only p w w') {cs : Array Value} {t : TypeId} {f : Nat × Nat} (hp : w.heap[p]? = some (.cells cs t f)) : KeepsOthers w w' :=
  ⟨h.size, fun k o hk ho => by
    have hl := (Array.getElem?_eq_some_iff.1 hk).1
    by_cases e : k = p
    · subst e; rw [hp] at hk; cases hk; cases ho
    · exact (h.block k hl e).trans hk⟩
theorem keepsOthers_of {w w' : World} (h : Below w.heap.size w w') : KeepsOthers w w' := ⟨h.size, fun k _ hk _ => (h.block k (Array.getElem?_eq_some_iff.1 hk).1).trans hk⟩

/-- The wheel that lies in block p: its time, what each place holds, and the slices that hold it; all of it below B. -/
structure WhAt (w : World) (B p : Nat) (t : Int) (S : Nat → List (Int × Int)) (V : Nat → Option Addr × Nat) : Prop where
  ty : ∃ cs, w.heap[p]? = some (.cells cs 78 (0, 0)) ∧ cs.size = 326
  low : p < B
  now : w.cell? ⟨p, 0, none⟩ = some (.int .i64 t)
  mask : ∀ n, n < 5 → ∃ m : BitVec 64, w.cell? ⟨p, 1 + n * 65, none⟩ = some (.int .u64 (U m)) ∧ ∀ s, s < 64 → m.getLsbD s = !(S (n * 64 + s)).isEmpty
  slot : ∀ n s, n < 5 → s < 64 → w.cell? ⟨p, 1 + n * 65 + 1 + s, none⟩ = some (.slice (V (n * 64 + s)).1 (S (n * 64 + s)).length (V (n * 64 + s)).2)
  due : ∀ j, j < 320 → DuesT w B (V j).1 (S j).length (V j).2 (S j)
section
variable {w w' : World} {B p : Nat} {t : Int} {S : Nat → List (Int × Int)} {V : Nat → Option Addr × Nat}
theorem WhAt.lt (h : WhAt w B p t S V) : p < w.heap.size := by
  obtain ⟨cs, hc, _⟩ := h.ty
  exact (Array.getElem?_eq_some_iff.1 hc).1
theorem WhAt.frozen (h : WhAt w B p t S V) (i : Nat) : w.frozen? ⟨p, i, none⟩ = false := by
  obtain ⟨cs, hc, _⟩ := h.ty
  simp [World.frozen?, hc]
/-- Where the wheel's block and the blocks of dues are as they were, the wheel is. -/
theorem WhAt.keep (h : WhAt w B p t S V) (hp : w'.heap[p]? = w.heap[p]?) (hk : KeepD B w w') : WhAt w' B p t S V := by
  have hc : ∀ i, w'.cell? ⟨p, i, none⟩ = w.cell? ⟨p, i, none⟩ := fun i => by unfold World.cell?; dsimp only; rw [hp]
  obtain ⟨cs, hcs, h326⟩ := h.ty
  refine ⟨⟨cs, hp.trans hcs, h326⟩, h.low, (hc 0).trans h.now, fun n hn => ?_, fun n s hn hs => (hc _).trans (h.slot n s hn hs), fun j hj => (h.due j hj).keep hk⟩
  obtain ⟨m, hm, hb⟩ := h.mask n hn
  exact ⟨m, (hc _).trans hm, hb⟩
theorem WhAt.below (h : WhAt w B p t S V) (hb : Below B w w') : WhAt w' B p t S V := h.keep (hb.block p h.low) (.below hb)
theorem WhAt.mono {B' : Nat} (h : WhAt w B p t S V) (hB : B ≤ B') : WhAt w B' p t S V :=
  ⟨h.ty, Nat.lt_of_lt_of_le h.low hB, h.now, h.mask, h.slot, fun j hj => (h.due j hj).mono hB⟩
theorem WhAt.drewN (h : WhAt w B p t S V) (n : Nat) : WhAt (w.drewN n) B p t S V := h.keep rfl (fun _ _ _ _ _ => rfl)
/-- Another wheel's turns leave it as it is. -/
theorem WhAt.only {q : Nat} (h : WhAt w B p t S V) (ho : Only q w w') (hne : p ≠ q) (hB : B ≤ w.heap.size) {cs : Array Value} {f : Nat × Nat} (hq : w.heap[q]? = some (.cells cs 78 f)) : WhAt w' B p t S V := by
  refine h.keep (ho.block p h.lt hne) (fun b hb cs' f' hc => ho.block b (by omega) (fun e => ?_))
  subst e
  rw [hq] at hc
  cases hc
theorem WhAt.other {B0 q : Nat} {t' : Int} {S' : Nat → List (Int × Int)} {V' : Nat → Option Addr × Nat} (h : WhAt w B p t S V) (g : WhAt w B0 q t' S' V') (ho : Only q w w') (hne : p ≠ q) (hB : B ≤ w.heap.size) : WhAt w' B p t S V := by
  obtain ⟨cs, hc, _⟩ := g.ty
  exact h.only ho hne hB hc
/-- A block that is no cells is turned. -/
theorem WhAt.turned (h : WhAt w B p t S V) {row : Option Nat} (hg : w.grownBy w' row) (hr : ∀ r, row = some r → ∃ o : Obj, w.heap[r]? = some o ∧ o.isCells = false) : WhAt w' B p t S V := by
  have key : ∀ (b : Nat) cs (ty : TypeId) f, w.heap[b]? = some (.cells cs ty f) → w'.heap[b]? = w.heap[b]? := fun b cs ty f hc => by
    refine hg.block b (Array.getElem?_eq_some_iff.1 hc).1 (fun e => ?_)
    obtain ⟨o, ho, hn⟩ := hr b e.symm
    rw [hc] at ho
    cases ho
    cases hn
  obtain ⟨cs, hcs, _⟩ := h.ty
  exact h.keep (key p cs _ _ hcs) (fun b hb cs f hc => key b cs _ f hc)
theorem cell_same {w : World} {p i : Nat} {u x : Value} (h : w.cell? ⟨p, i, none⟩ = some x) : (w.setCell ⟨p, i, none⟩ u).cell? ⟨p, i, none⟩ = some u := World.cell?_setCell_same w ⟨p, i, none⟩ u h
theorem cell_other {w : World} {p q i k : Nat} {u : Value} (h : q = p → k ≠ i) : (w.setCell ⟨p, i, none⟩ u).cell? ⟨q, k, none⟩ = w.cell? ⟨q, k, none⟩ :=
  World.cell?_setCell_other w ⟨p, i, none⟩ ⟨q, k, none⟩ u (fun e => by
    have e1 := congrArg Addr.block e
    have e2 := congrArg Addr.off e
    exact h e1.symm e2.symm)
theorem set_ty {w : World} {p i : Nat} {u : Value} {ty : TypeId} {N : Nat} (h : ∃ cs, w.heap[p]? = some (.cells cs ty (0, 0)) ∧ cs.size = N) : ∃ cs, (w.setCell ⟨p, i, none⟩ u).heap[p]? = some (.cells cs ty (0, 0)) ∧ cs.size = N := by
  obtain ⟨cs, hc, hs⟩ := h
  refine ⟨cs.setIfInBounds i u, ?_, by simpa using hs⟩
  simp [World.setCell, Array.getElem?_modify, hc]
theorem KeepD.set {w : World} {B p i : Nat} {u : Value} {cs : Array Value} {f : Nat × Nat} (h : w.heap[p]? = some (.cells cs 78 f)) : KeepD B w (w.setCell ⟨p, i, none⟩ u) := fun b _ cs' f' hc =>
  Below.heap_setCell w ⟨p, i, none⟩ u b (fun e => by
    have e : b = p := e
    subst e; rw [h] at hc; cases hc)
/-- The time is set. -/
theorem WhAt.setNow (h : WhAt w B p t S V) (u : Int) : WhAt (w.setCell ⟨p, 0, none⟩ (.int .i64 u)) B p u S V := by
  obtain ⟨cs, hcs, _⟩ := h.ty
  refine ⟨set_ty h.ty, h.low, cell_same h.now, fun n hn => ?_, fun n s hn hs => (cell_other (fun _ => by omega)).trans (h.slot n s hn hs), fun j hj => (h.due j hj).keep (.set hcs)⟩
  obtain ⟨m, hm, hb⟩ := h.mask n hn
  exact ⟨m, (cell_other (fun _ => by omega)).trans hm, hb⟩
/-- A slot is laid anew, and its bit. -/
def setL {α : Type} (j : Nat) (x : α) (f : Nat → α) : Nat → α := fun i => if i = j then x else f i
theorem setL_same {α : Type} (j : Nat) (x : α) (f : Nat → α) : setL j x f j = x := by simp [setL]
theorem setL_other {α : Type} {j i : Nat} (x : α) (f : Nat → α) (h : i ≠ j) : setL j x f i = f i := by simp [setL, h]
theorem WhAt.setSlot (h : WhAt w B p t S V) {n s : Nat} (hn : n < 5) (hs : s < 64) {A : Option Addr} {c : Nat} {l : List (Int × Int)} (hd : DuesT w B A l.length c l) {m : BitVec 64}
    (hm : ∀ i, i < 64 → m.getLsbD i = !(setL (n * 64 + s) l S (n * 64 + i)).isEmpty) :
    WhAt ((w.setCell ⟨p, 1 + n * 65 + 1 + s, none⟩ (.slice A l.length c)).setCell ⟨p, 1 + n * 65, none⟩ (.int .u64 (U m))) B p t (setL (n * 64 + s) l S) (setL (n * 64 + s) (A, c) V) := by
  obtain ⟨cs, hcs, h326⟩ := h.ty
  obtain ⟨cs1, hcs1, h3261⟩ := set_ty (i := 1 + n * 65 + 1 + s) (u := .slice A l.length c) h.ty
  have ks : ∀ {B}, KeepD B w ((w.setCell ⟨p, 1 + n * 65 + 1 + s, none⟩ (.slice A l.length c)).setCell ⟨p, 1 + n * 65, none⟩ (.int .u64 (U m))) := fun {B} b hb cs' f' hc => by
    have e1 := KeepD.set (B := B) (i := 1 + n * 65 + 1 + s) (u := .slice A l.length c) hcs b hb cs' f' hc
    exact (KeepD.set (B := B) (i := 1 + n * 65) (u := .int .u64 (U m)) hcs1 b hb cs' f' (e1.trans hc)).trans e1
  refine ⟨set_ty ⟨cs1, hcs1, h3261⟩, h.low, ?_, fun k hk => ?_, fun k i hk hi => ?_, fun j hj => ?_⟩
  · exact ((cell_other (fun _ => by omega)).trans (cell_other (fun _ => by omega))).trans h.now
  · by_cases e : k = n
    · subst e
      obtain ⟨m0, hm0, _⟩ := h.mask k hk
      exact ⟨m, cell_same ((cell_other (fun _ => by omega)).trans hm0), hm⟩
    · obtain ⟨m0, hm0, hb0⟩ := h.mask k hk
      refine ⟨m0, ((cell_other (fun _ => by omega)).trans (cell_other (fun _ => by omega))).trans hm0, fun i hi => ?_⟩
      rw [setL_other _ _ (by omega)]
      exact hb0 i hi
  · by_cases e : k = n ∧ i = s
    · obtain ⟨rfl, rfl⟩ := e
      rw [setL_same, setL_same]
      exact (cell_other (fun _ => by omega)).trans (cell_same (h.slot k i hk hi))
    · rw [setL_other _ _ (by omega), setL_other _ _ (by omega)]
      exact ((cell_other (fun _ => by omega)).trans (cell_other (fun _ => by omega))).trans (h.slot k i hk hi)
  · by_cases e : j = n * 64 + s
    · subst e
      rw [setL_same, setL_same]
      exact hd.keep ks
    · rw [setL_other _ _ e, setL_other _ _ e]
      exact (h.due j hj).keep ks
end
end Go.Proofs.YtidgiohjgkfjcaaDoor
