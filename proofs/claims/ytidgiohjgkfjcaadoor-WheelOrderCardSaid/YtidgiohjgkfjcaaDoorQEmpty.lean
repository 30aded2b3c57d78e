/- empty, as Turn calls it: walked. -/
import Derived.Test.YtidgiohjgkfjcaaDoorQHand
namespace Go.Proofs.YtidgiohjgkfjcaaDoor
open Go.RowKit

attribute [local go_sem] Oper.semAt_some

theorem QBox.ne {w : World} {g h : Nat} {t t' : TypeId} {cs cs' : Array Value} (h1 : QBox w g t cs) (h2 : QBox w h t' cs') (ht : t ≠ t') : g ≠ h := by
  intro e
  subst e
  unfold QBox at h1 h2
  rw [h2] at h1
  injection h1 with h1
  injection h1 with _ h3 _
  exact ht h3.symm
theorem WhAt.ne {w : World} {B p g : Nat} {t : Int} {S : Nat → List (Int × Int)} {V : Nat → Option Addr × Nat} {t' : TypeId} {cs' : Array Value} (h1 : WhAt w B p t S V) (h2 : QBox w g t' cs') (ht : t' ≠ 78) : g ≠ p := by
  intro e
  subst e
  obtain ⟨cs, hc, _⟩ := h1.ty
  unfold QBox at h2
  rw [hc] at h2
  injection h2 with h2
  injection h2 with _ h3 _
  exact ht h3.symm
theorem QBox.hand {w w' : World} {p tb g : Nat} {row : Option Nat} {t : TypeId} {cs : Array Value} (h : QBox w g t cs) (hk : HandK p tb row w w') (h1 : g ≠ p) (h2 : g ≠ tb) (h3 : some g ≠ row) : QBox w' g t cs := (hk.block g h.lt h1 h2 h3).trans h
theorem QBox.onlyP {w w' : World} {p g : Nat} {t : TypeId} {cs : Array Value} (h : QBox w g t cs) (hk : Only p w w') (h1 : g ≠ p) : QBox w' g t cs := (hk.block g h.lt h1).trans h
theorem bears_only {B p : Nat} {w0 : World} (h : w0.heap.size ≤ B) : Bears B (Only p w0) := fun W W' row hs hg hr =>
  ⟨hg.os.trans hs.os, hg.tape.trans hs.tape, hg.output.trans hs.output, Nat.le_trans hs.size hg.size, fun k hk hp => (hg.block k (by have := hs.size; omega) (fun e => by have := (hr k e.symm).1; omega)).trans (hs.block k hk hp)⟩
theorem bears_own (B C : Nat) (v : Value) (l : List (Int × Int)) : Bears B (fun W => OwnD W C v l) := fun _ _ _ h hg hr => h.turned hg (fun r e => (hr r e).2)
theorem bears_whs (B p : Nat) (t : Int) (S : Nat → List (Int × Int)) (V : Nat → Option Addr × Nat) : Bears B (fun W => WhAt W W.heap.size p t S V) := fun _ _ _ h hg hr => (h.turned hg (fun r e => (hr r e).2)).mono hg.size
theorem bears_or {B : Nat} {I I' : World → Prop} (h : Bears B I) (h' : Bears B I') : Bears B (fun W => I W ∨ I' W) := fun W W' row hs hg hr => hs.imp (fun g => h W W' row g hg hr) (fun g => h' W W' row g hg hr)
theorem bears_ex {B : Nat} {α : Type} {I : α → World → Prop} (h : ∀ a, Bears B (I a)) : Bears B (fun W => ∃ a, I a W) := fun W W' row hs hg hr => hs.imp (fun a g => h a W W' row g hg hr)
theorem filter_two {α : Type} (f g : α → Bool) (h : ∀ x, f x = true → g x = true → False) : ∀ l : List α, (l.filter f).length + (l.filter g).length ≤ l.length
  | [] => by simp
  | x :: l => by
    have ih := filter_two f g h l
    cases hf : f x <;> cases hg : g x
    · rw [List.filter_cons_of_neg (by simp [hf]), List.filter_cons_of_neg (by simp [hg])]; simp; omega
    · rw [List.filter_cons_of_neg (by simp [hf]), List.filter_cons_of_pos hg]; simp; omega
    · rw [List.filter_cons_of_pos hf, List.filter_cons_of_neg (by simp [hg])]; simp; omega
    · exact (h x hf hg).elim
theorem turnS_set {t : Int} {l : List (Int × Int)} (j : Nat) : setL j [] (turnS t l j) = turnS t l (j + 1) := by
  funext i
  unfold setL turnS
  by_cases h : i = j
  · rw [if_pos h, if_pos (by omega)]
  · rw [if_neg h]
    by_cases h2 : i < j
    · rw [if_pos h2, if_pos (by omega)]
    · rw [if_neg h2, if_neg (by omega)]
/-- What empty and Turn have laid. -/
structure EmpB (H p nb tb wb : Nat) (u : Int) (q : Nat) (W : World) : Prop where
  b0 : QBox W H 24 #[.pointer (some ⟨p, 0, none⟩)]
  b1 : QBox W (H + 1) 80 #[.int .i64 ((q / 64 : Nat) : Int), .int .i64 ((q % 64 : Nat) : Int)]
  b2 : QBox W (H + 1 + 1) 67 #[.func (.func 42) #[] #[.pointer (some ⟨nb, 0, none⟩), .pointer (some ⟨tb, 0, none⟩), .pointer (some ⟨wb, 0, none⟩)]]
  b3 : QBox W (H + 1 + 1 + 1) 24 #[.pointer (some ⟨p, 0, none⟩)]
  bn : QBox W nb 2 #[.int .i64 u]
  bw : QBox W wb 24 #[.pointer (some ⟨p, 0, none⟩)]
theorem EmpB.turned {w w' : World} {H p nb tb wb q : Nat} {u : Int} (h : EmpB H p nb tb wb u q w) {row : Option Nat} (hg : w.grownBy w' row) (hr : ∀ r, row = some r → ∃ o : Obj, w.heap[r]? = some o ∧ o.isCells = false) : EmpB H p nb tb wb u q w' :=
  ⟨h.b0.turned hg hr, h.b1.turned hg hr, h.b2.turned hg hr, h.b3.turned hg hr, h.bn.turned hg hr, h.bw.turned hg hr⟩
theorem EmpB.belowAll {w w' : World} {H p nb tb wb q : Nat} {u : Int} (h : EmpB H p nb tb wb u q w) (hb : Below w.heap.size w w') : EmpB H p nb tb wb u q w' :=
  ⟨h.b0.belowAll hb, h.b1.belowAll hb, h.b2.belowAll hb, h.b3.belowAll hb, h.bn.belowAll hb, h.bw.belowAll hb⟩
theorem EmpB.onlyP {w w' : World} {H p nb tb wb q B : Nat} {u t : Int} {S : Nat → List (Int × Int)} {V : Nat → Option Addr × Nat} (h : EmpB H p nb tb wb u q w) (hW : WhAt w B p t S V) (hk : Only p w w') : EmpB H p nb tb wb u q w' :=
  ⟨h.b0.onlyP hk (hW.ne h.b0 (by decide)), h.b1.onlyP hk (hW.ne h.b1 (by decide)), h.b2.onlyP hk (hW.ne h.b2 (by decide)), h.b3.onlyP hk (hW.ne h.b3 (by decide)), h.bn.onlyP hk (hW.ne h.bn (by decide)), h.bw.onlyP hk (hW.ne h.bw (by decide))⟩
theorem EmpB.hand {w w' : World} {H p nb tb wb q B C : Nat} {u t : Int} {S : Nat → List (Int × Int)} {V : Nat → Option Addr × Nat} {v : Value} {l : List (Int × Int)} (h : EmpB H p nb tb wb u q w) (hW : WhAt w C p t S V) (ht : QBox w tb 29 #[v]) (ho : OwnD w B v l) (hB : H + 1 + 1 + 1 < B) (hn : nb < B) (hw : wb < B) (hk : HandK p tb v.ownBlock w w') : EmpB H p nb tb wb u q w' := by
  have hr : ∀ g, g < B → some g ≠ v.ownBlock := fun g hg e => by have := (World.ownsRow.lt ho g e.symm).1; omega
  exact ⟨h.b0.hand hk (hW.ne h.b0 (by decide)) (h.b0.ne ht (by decide)) (hr _ (by omega)), h.b1.hand hk (hW.ne h.b1 (by decide)) (h.b1.ne ht (by decide)) (hr _ (by omega)), h.b2.hand hk (hW.ne h.b2 (by decide)) (h.b2.ne ht (by decide)) (hr _ (by omega)),
    h.b3.hand hk (hW.ne h.b3 (by decide)) (h.b3.ne ht (by decide)) (hr _ (by omega)), h.bn.hand hk (hW.ne h.bn (by decide)) (h.bn.ne ht (by decide)) (hr _ hn), h.bw.hand hk (hW.ne h.bw (by decide)) (h.bw.ne ht (by decide)) (hr _ hw)⟩
theorem keeps_hand {w w' : World} {p tb B C : Nat} {t : Int} {S : Nat → List (Int × Int)} {V : Nat → Option Addr × Nat} {v : Value} {l : List (Int × Int)} (hW : WhAt w C p t S V) (ht : QBox w tb 29 #[v]) (ho : OwnD w B v l) (hk : HandK p tb v.ownBlock w w') : KeepsOthers w w' :=
  ⟨hk.size, fun k o hk2 ho2 => by
    refine (hk.block k (Array.getElem?_eq_some_iff.1 hk2).1 (fun e => ?_) (fun e => ?_) (fun e => ?_)).trans hk2
    · subst e
      obtain ⟨cs, hc, _⟩ := hW.ty
      rw [hc] at hk2; cases hk2; cases ho2
    · subst e
      unfold QBox at ht
      rw [ht] at hk2; cases hk2; cases ho2
    · rcases ho.2 with ⟨rfl, _⟩ | ⟨g, cap, cur, rfl, _, hh, _⟩
      · cases e
      · have e : k = g := Option.some.inj e
        subst e
        rw [hh] at hk2; cases hk2; cases ho2⟩
theorem Only.hand {p tb B : Nat} {row : Option Nat} {w0 w w' : World} (h : Only p w0 w) (hk : HandK p tb row w w') (ht : w0.heap.size ≤ tb) (hr : ∀ g, row = some g → B ≤ g) (hB : w0.heap.size ≤ B) : Only p w0 w' :=
  ⟨hk.os.trans h.os, hk.tape.trans h.tape, hk.output.trans h.output, Nat.le_trans h.size hk.size, fun k hk2 hp => (hk.block k (by have := h.size; omega) hp (by omega) (fun e => by have := hr k e.symm; omega)).trans (h.block k hk2 hp)⟩
end Go.Proofs.YtidgiohjgkfjcaaDoor
