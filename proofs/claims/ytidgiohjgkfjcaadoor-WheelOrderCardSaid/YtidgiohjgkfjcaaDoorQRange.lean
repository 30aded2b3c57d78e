/- A range over a function whose body turns what the iterator reads: the iterator is told, round by round, in which state things stand, and tells what comes next in that state. Of no program. -/
import Derived.RangeFuncFrom
import Derived.Below
namespace Go.Proofs.YtidgiohjgkfjcaaDoor
open Go Go.RowKit

/-- A fact that bears new blocks, and the turn of a block from B on that holds no cells. -/
def Bears (B : Nat) (I : World → Prop) : Prop := ∀ W W' row, I W → W.grownBy W' row → (∀ r, row = some r → B ≤ r ∧ ∃ o : Obj, W.heap[r]? = some o ∧ o.isCells = false) → I W'
theorem Bears.alloc {B : Nat} {I : World → Prop} (h : Bears B I) {W : World} (o : Obj) (hs : I W) : I (W.alloc o) := h W _ none hs (World.grownBy_alloc W o none) (fun r e => by cases e)
theorem Bears.put {B : Nat} {I : World → Prop} (h : Bears B I) {W : World} {l : Nat} {o : Obj} (o' : Obj) (hs : I W) (hB : B ≤ l) (hl : W.heap[l]? = some o) (ho : o.isCells = false) : I (W.putObj l o') :=
  h W _ (some l) hs (grownBy_putObj' W l o') (fun r e => by cases e; exact ⟨hB, o, hl, ho⟩)
theorem Bears.below {B : Nat} {I : World → Prop} (h : Bears B I) {W W' : World} (hs : I W) (hb : Below W.heap.size W W') : I W' :=
  h W W' none hs ⟨hb.os, hb.tape, hb.output, hb.size, fun k hk _ => hb.block k hk⟩ (fun r e => by cases e)
theorem Bears.and {B : Nat} {I I' : World → Prop} (h : Bears B I) (h' : Bears B I') : Bears B (fun W => I W ∧ I' W) := fun W W' row hs hg hr => ⟨h W W' row hs.1 hg hr, h' W W' row hs.2 hg hr⟩
theorem Bears.mono {B B' : Nat} {I : World → Prop} (h : Bears B I) (hB : B ≤ B') : Bears B' I := fun W W' row hs hg hr => h W W' row hs hg (fun r e => ⟨Nat.le_trans hB (hr r e).1, (hr r e).2⟩)
theorem bears_below {n₀ B : Nat} {w₀ : World} (hn : n₀ ≤ w₀.heap.size) (hB : n₀ ≤ B) : Bears B (Below n₀ w₀) :=
  fun _ _ _ hs hg hr => hs.grown hg (Nat.le_trans hn hs.size) (fun k e => Nat.le_trans hB (hr k e).1)
theorem bears_const (B : Nat) (p : Prop) : Bears B (fun _ => p) := fun _ _ _ h _ _ => h

/-- What an iterator is held to. A: where it begins; C: what comes next in a state; D: the states behind it; E: nothing comes any more. -/
def SeqSt {σ α : Type} (F : Fence) (n : Nat) (P : Program) (g : Nat) (lb : Array Value) (encs : α → Array Value) (Rd : σ → World → Prop) (A : σ → Prop) (C : σ → α → Prop) (D : σ → α → σ → Prop) (E : σ → Prop) : Prop :=
  ∀ (l : Nat) (J : σ → World → Prop) (Jx : World → Prop) (s0 : σ) (W : World), A s0 → (∀ s W1, J s W1 → Rd s W1) → (∀ s, Bears W.heap.size (J s)) →
    (∀ s x W1, J s W1 → C s x → YieldAt F (n - 1) P l (encs x) W1 fun e W' => (e = .returned (.bool true) ∧ ∃ s', D s x s' ∧ J s' W') ∨ (e = .returned (.bool false) ∧ Jx W')) →
    J s0 W → CallsIn F n P g (#[.func (.yield l) #[] #[]] ++ lb) W fun e W' => (∃ v, e = .returned v) ∧ ((∃ s, E s ∧ J s W') ∨ Jx W')

/-- How a round's body may be left. -/
def stPost {σ : Type} (I : σ → World → Prop) (Ix : Code → World → Prop) (N : σ → Prop) (W : World) : Exit → Act → World → Prop
  | .normal, _, W' => KeepsOthers W W' ∧ ∃ s, N s ∧ I s W'
  | .ret, _, W' => KeepsOthers W W' ∧ Ix .ret W'
  | .exit id, _, W' => KeepsOthers W W' ∧ Ix (.exit id) W'
  | .goto t, _, W' => KeepsOthers W W' ∧ Ix (.goto t) W'
  | .panic _, _, _ => False
  | .outgrown, _, _ => False

/-- The statement 'for .. := range g { .. }'. -/
theorem wpIn_rangeSt {F : Fence} {n : Nat} {P : Program} {σ α : Type} {g : Operand} {ps : Array Tmp} {assign body : Code} {Q : Exit → Act → World → Prop} {a : Act} {w : World}
    (hro : F.round = none) (h1 : 1 ≤ n) {gf : Nat} {lb : Array Value} (hg : a.eval g = .func (.func gf) #[] lb) (hFg : F.fn gf) (eg : ∀ args w, (callFunc gf args).run P w = .ok (.enter gf args) w)
    {encs : α → Array Value} {Rd : σ → World → Prop} {A : σ → Prop} {C : σ → α → Prop} {D : σ → α → σ → Prop} {E : σ → Prop} (hseq : SeqSt F (n - 1) P gf lb encs Rd A C D E) (hps : ∀ x, (encs x).size = ps.size)
    (I : σ → World → Prop) (Ix : Code → World → Prop) (s0 : σ) (hA : A s0) (hR : ∀ s W, I s W → Rd s W) (hI : ∀ s, Bears w.heap.size (I s)) (hIx : ∀ c, Bears w.heap.size (Ix c)) (h0 : I s0 w)
    (hround : ∀ (l : Nat) (s : σ) (x : α) (W : World), w.heap.size < l → (∃ o : Obj, W.heap[l]? = some o ∧ o.isCells = false) → I s W → C s x →
      assign.wpIn (F.inRound l) (n - 1 - 1) P (Exit.then (fun a₁ W₁ => KeepsOthers W W₁ ∧ ∀ o, body.wpIn (F.inRound l) (n - 1 - 1) P (stPost I Ix (D s x) (W₁.putObj l o)) a₁ (W₁.putObj l o)) (fun _ _ _ => False))
        { tmps := (ps.zip (encs x)).foldl (fun t (p, v) => t.setIfInBounds p v) a.tmps, defers := [] } W)
    (hdone : ∀ (B : Nat) (s : σ) (W : World), w.heap.size ≤ B → E s → I s W → W.heap[B]? = some (.deferred (some [])) → Q .normal { a with defers := { target := .collected B, args := #[] } :: a.defers } W)
    (hstop : ∀ (B : Nat) (c : Code) (W : World), w.heap.size ≤ B → Ix c W → W.heap[B]? = some (.deferred (some [])) → c.wpIn F n P Q { a with defers := { target := .collected B, args := #[] } :: a.defers } W) :
    (Code.rangeFunc g ps assign body).wpIn F n P Q a w := by
  refine wpIn_rangeFunc fun fn hfn => ?_
  rw [hro]
  -- the loop's record, and the block of its deferred calls
  let rec_ : LoopState → Option Code → Obj := fun st pe => .loop { state := st, pending := pe, fn, tmps := a.tmps, params := ps, assign, body, defers := w.heap.size }
  let l := w.heap.size + 1
  let W1 := (w.alloc (.deferred (some []))).alloc (rec_ .ready none)
  have hl1 : W1.heap[l]? = some (rec_ .ready none) := by
    have := World.alloc_heap_new (w.alloc (.deferred (some []))) (rec_ .ready none); rwa [World.size_alloc] at this
  have hk1 : W1.heap[w.heap.size]? = some (.deferred (some [])) := (Below.heap_alloc _ _ _ (by simp)).trans (World.alloc_heap_new w _)
  -- what is known between two rounds, and behind the last one
  let J : σ → World → Prop := fun s W => I s W ∧ W.heap[l]? = some (rec_ .ready none) ∧ W.heap[w.heap.size]? = some (.deferred (some []))
  let Jx : World → Prop := fun W => ∃ c, Ix c W ∧ W.heap[l]? = some (rec_ .done (some c)) ∧ W.heap[w.heap.size]? = some (.deferred (some []))
  have hsz : W1.heap.size = w.heap.size + 2 := by show ((w.alloc _).alloc _).heap.size = _; simp
  have far : ∀ {A B : World} {row : Option Nat} {k : Nat} {o : Obj}, A.grownBy B row → (∀ r, row = some r → W1.heap.size ≤ r ∧ ∃ o : Obj, A.heap[r]? = some o ∧ o.isCells = false) → k < W1.heap.size → A.heap[k]? = some o → B.heap[k]? = some o := fun hg hr hk ho => by
    refine (hg.block _ (Array.getElem?_eq_some_iff.1 ho).1 (fun e => ?_)).trans ho
    have := (hr _ e.symm).1
    omega
  have hJ : ∀ s, Bears W1.heap.size (J s) := fun s A B row h hg hr =>
    ⟨((hI s).mono (by omega)) A B row h.1 hg hr, far hg hr (by show w.heap.size + 1 < _; omega) h.2.1, far hg hr (by omega) h.2.2⟩
  refine ⟨l, [{ target := .collected w.heap.size, args := #[] }], W1, { target := .fn (.func gf) lb, args := #[.func (.yield l) #[] #[]] }, W1, gf, #[.func (.yield l) #[] #[]] ++ lb, W1, run_enterLoop_outer _ _ _ _ _, ?_, ?_, ?_, fun _ => h1, ?_⟩
  · simp only [resolve, hg]
    simp [go_sem]
  · intro f' hf'
    simp [Target.leads] at hf'
    subst hf'
    exact hFg
  · simp [invoke, go_sem, eg]
  · refine (hseq l J Jx s0 W1 hA (fun s W h => hR s W h.1) hJ ?_ ⟨(hI s0).alloc _ ((hI s0).alloc _ h0), hl1, hk1⟩).mono ?_
    · rintro s x W ⟨hi, hl, hk⟩ hC
      have hy := run_yield (P := P) (args := encs x) (show W.heap[l]? = some (.loop { state := .ready, pending := none, fn, tmps := a.tmps, params := ps, assign, body, defers := w.heap.size }) from hl) (hps x)
      refine ⟨fn, _, assign, body, hy, roundIn_of_wpIn hfn (wpIn_mono (hround l s x W (Nat.lt_succ_self _) ⟨_, hl, rfl⟩ hi hC) ?_)⟩
      rintro e a1 W2 hq
      cases e with
      | normal =>
        obtain ⟨hk2, hb⟩ := hq
        have hl2 := hk2.same _ _ hl rfl
        refine ⟨_, run_beginRound (show W2.heap[l]? = some (.loop { state := .ready, pending := none, fn, tmps := a.tmps, params := ps, assign, body, defers := w.heap.size }) from hl2) rfl, wpIn_mono (hb _) ?_⟩
        have hlt : l < W2.heap.size := (Array.getElem?_eq_some_iff.1 hl2).1
        have hl3 : (W2.putObj l (rec_ .busy none)).heap[l]? = some (rec_ .busy none) := World.putObj_heap_same hlt
        have hk3 : (W2.putObj l (rec_ .busy none)).heap[w.heap.size]? = some (.deferred (some [])) := (World.putObj_heap_other (show w.heap.size ≠ w.heap.size + 1 by omega)).trans (hk2.same _ _ hk rfl)
        have fin : ∀ (jump : Option Code) (W3 : World), KeepsOthers (W2.putObj l (rec_ .busy none)) W3 →
            (Instr.endRound l jump).run P W3 = .ok (.bool jump.isNone) (W3.putObj l (rec_ (if jump.isNone then .ready else .done) jump)) ∧ W3.heap[l]? = some (rec_ .busy none) ∧
            (W3.putObj l (rec_ (if jump.isNone then .ready else .done) jump)).heap[l]? = some (rec_ (if jump.isNone then .ready else .done) jump) ∧
            (W3.putObj l (rec_ (if jump.isNone then .ready else .done) jump)).heap[w.heap.size]? = some (.deferred (some [])) := fun jump W3 h3 => by
          have hl4 := h3.same _ _ hl3 rfl
          exact ⟨run_endRound (P := P) jump (show W3.heap[l]? = some (.loop { state := .busy, pending := none, fn, tmps := a.tmps, params := ps, assign, body, defers := w.heap.size }) from hl4), hl4,
            World.putObj_heap_same (Array.getElem?_eq_some_iff.1 hl4).1, (World.putObj_heap_other (show w.heap.size ≠ w.heap.size + 1 by omega)).trans (h3.same _ _ hk3 rfl)⟩
        rintro e3 a3 W3 hp
        cases e3 with
        | normal =>
          obtain ⟨h3, s', hD, hi3⟩ := hp
          obtain ⟨hr, hl4, hl5, hk5⟩ := fin none W3 h3
          exact ⟨_, _, hr, .inl ⟨rfl, s', hD, (hI s').put _ hi3 (Nat.le_succ _) hl4 rfl, hl5, hk5⟩⟩
        | ret =>
          obtain ⟨h3, hi3⟩ := hp
          obtain ⟨hr, hl4, hl5, hk5⟩ := fin (some .ret) W3 h3
          exact ⟨_, _, hr, .inr ⟨rfl, .ret, (hIx _).put _ hi3 (Nat.le_succ _) hl4 rfl, hl5, hk5⟩⟩
        | exit id =>
          obtain ⟨h3, hi3⟩ := hp
          obtain ⟨hr, hl4, hl5, hk5⟩ := fin (some (.exit id)) W3 h3
          exact ⟨_, _, hr, .inr ⟨rfl, .exit id, (hIx _).put _ hi3 (Nat.le_succ _) hl4 rfl, hl5, hk5⟩⟩
        | goto t =>
          obtain ⟨h3, hi3⟩ := hp
          obtain ⟨hr, hl4, hl5, hk5⟩ := fin (some (.goto t)) W3 h3
          exact ⟨_, _, hr, .inr ⟨rfl, .goto t, (hIx _).put _ hi3 (Nat.le_succ _) hl4 rfl, hl5, hk5⟩⟩
        | panic ch => exact hp.elim
        | outgrown => exact hp.elim
      | ret => exact hq.elim
      | exit id => exact hq.elim
      | goto t => exact hq.elim
      | panic ch => exact hq.elim
      | outgrown => exact hq.elim
    · rintro e W2 ⟨⟨v, rfl⟩, (⟨s, hE, hi, hl, hk⟩ | ⟨c, hi, hl, hk⟩)⟩
      · exact ⟨none, _, run_endLoop (P := P) (show W2.heap[l]? = some (.loop { state := .ready, pending := none, fn, tmps := a.tmps, params := ps, assign, body, defers := w.heap.size }) from hl) (by simp),
          hdone _ s _ (Nat.le_refl _) hE ((hI s).put _ hi (Nat.le_succ _) hl rfl) ((World.putObj_heap_other (show w.heap.size ≠ w.heap.size + 1 by omega)).trans hk)⟩
      · exact ⟨some c, _, run_endLoop (P := P) (show W2.heap[l]? = some (.loop { state := .done, pending := some c, fn, tmps := a.tmps, params := ps, assign, body, defers := w.heap.size }) from hl) (by simp),
          hstop _ c _ (Nat.le_refl _) ((hIx c).put _ hi (Nat.le_succ _) hl rfl) ((World.putObj_heap_other (show w.heap.size ≠ w.heap.size + 1 by omega)).trans hk)⟩
end Go.Proofs.YtidgiohjgkfjcaaDoor
