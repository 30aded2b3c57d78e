/- The four rows side by side, each below the next one's. -/
import Derived.Test.YtnppkobckabpcaaTPair
namespace Go.Proofs.Ytnppkobckabpcaa
open Go.RowKit

theorem halves_mk {W wT wO wS : World} {bs : List Nat} {T : Told} {s0 b0 s1 b1 : Value} {B0 B1 B2 : Nat} (hs : OwnB wT B0 s0 bs) (hq : OwnB wT B0 b0 T.xs) (ho : OwnB wO B1 s1 bs) (hz : OwnB wS B2 b1 T.xs)
    (h0 : W.heap.size ≤ B0) (h1 : wT.heap.size ≤ B1) (_h2 : wO.heap.size ≤ B2) (h3 : W.heap.size ≤ B1) (h4 : W.heap.size ≤ B2) (hO : Below wT.heap.size wT wO) (hS : Below wO.heap.size wO wS) (hb : Below W.heap.size W wS) : Halves W wS bs T s0 b0 s1 b1 :=
  ⟨((hs.below hO).below hS).mono h0, ((hq.below hO).below hS).mono h0, (ho.below hS).mono h3, hz.mono h4,
    (fun g hg e => by
      have := (ho.lt g e).1
      rcases hg with hg | hg
      · have := (hq.lt g hg).2; omega
      · have := (hs.lt g hg).2; omega), hb⟩
theorem off_mk {wT wO wS : World} {bs xs : List Nat} {s0 b0 s1 b1 : Value} {B0 B1 B2 p : Nat} (hs : OwnB wT B0 s0 bs) (hq : OwnB wT B0 b0 xs) (ho : OwnB wO B1 s1 bs) (hz : OwnB wS B2 b1 xs)
    (hp : (p < B0 ∧ p < B1 ∧ p < B2) ∨ (wT.heap.size ≤ p ∧ p < B1 ∧ p < B2) ∨ (wT.heap.size ≤ p ∧ wO.heap.size ≤ p ∧ p < B2)) : Off s0 b0 s1 b1 p := fun g hg e => by
  subst e
  rcases hg with (hg | hg) | (hg | hg)
  · have := hs.lt g hg; omega
  · have := hq.lt g hg; omega
  · have := ho.lt g hg; omega
  · have := hz.lt g hg; omega
end Go.Proofs.Ytnppkobckabpcaa
