/- Levels by bits.Len64 of two times that are held against each other bit by bit; exclusive or of numbers. Of no program. -/
import Derived.Lib.BitFns
import Derived.Laws.Bits64b
import Derived.Test.YtidgiohjgkfjcaaDoorQMath
namespace Go.Proofs.YtidgiohjgkfjcaaDoor
open Go

theorem bitLenQ (x : Nat) (h : x < 2 ^ 64) : Lib.bitLen x = if x = 0 then 0 else x.log2 + 1 := by
  induction x using Nat.strongRecOn with
  | _ x ih =>
    by_cases h0 : x = 0
    · subst h0; rfl
    · rw [Lib.bitLen_half x h0 h, ih (x / 2) (by omega) (by omega)]
      rw [if_neg h0, Nat.log2_def x]
      by_cases h2 : 2 ≤ x
      · rw [if_pos h2, if_neg (by omega)]; omega
      · obtain rfl : x = 1 := by omega
        simp
/-- The level by the highest bit in which they differ. -/
theorem levQ_len {f a b : Nat} (ha : a < 64 ^ (f + 1)) (hb : b < 64 ^ (f + 1)) (hf : f ≤ 9) (hab : a ≠ b) : (levQ f a b : Int) = ((Lib.bitLen (a ^^^ b) : Int) - 1) / 6 := by
  have p : (64 : Nat) ^ (f + 1) = 2 ^ (6 * (f + 1)) := by rw [Nat.pow_mul]
  have hx : a ^^^ b < 2 ^ 64 := Nat.lt_of_lt_of_le (Nat.xor_lt_two_pow (n := 6 * (f + 1)) (by omega) (by omega)) (Nat.pow_le_pow_right (by decide) (by omega))
  have h0 : a ^^^ b ≠ 0 := fun h => hab (by
    have := congrArg (fun x => x ^^^ b) h
    simpa [Nat.xor_assoc] using this)
  rw [levQ_log ha hb hab, bitLenQ _ hx, if_neg h0]
  omega
theorem xor_i64Q (a b : Nat) (ha : a < 9223372036854775808) (hb : b < 9223372036854775808) : bits .xor .i64 (a : Int) (b : Int) = ((a ^^^ b : Nat) : Int) := by
  have hx : a ^^^ b < 2 ^ 63 := Nat.xor_lt_two_pow (by omega) (by omega)
  have h1 : (BitVec.ofInt 64 (a : Int)).toNat = a := by
    rw [BitVec.ofInt_natCast, BitVec.toNat_ofNat]; exact Nat.mod_eq_of_lt (by omega)
  have h2 : (BitVec.ofInt 64 (b : Int)).toNat = b := by
    rw [BitVec.ofInt_natCast, BitVec.toNat_ofNat]; exact Nat.mod_eq_of_lt (by omega)
  show IntKind.i64.wrap ((BitVec.ofInt 64 (a : Int) ^^^ BitVec.ofInt 64 (b : Int)).toNat : Int) = _
  rw [BitVec.toNat_xor, h1, h2]
  generalize a ^^^ b = x at *
  simp [IntKind.wrap, IntKind.bits, IntKind.signed]
  omega
/-- The document's place of a time at another one. -/
def placeQ (now at_ : Int) : Int × Int :=
  if levQ 6 now.toNat at_.toNat ≥ 4 then (4, 0) else ((levQ 6 now.toNat at_.toNat : Nat), (slotQ (levQ 6 now.toNat at_.toNat) at_.toNat : Nat))
theorem placeQ_range (now at_ : Int) : 0 ≤ (placeQ now at_).1 ∧ (placeQ now at_).1 ≤ 4 ∧ 0 ≤ (placeQ now at_).2 ∧ (placeQ now at_).2 ≤ 63 := by
  unfold placeQ
  have := slotQ_lt (levQ 6 now.toNat at_.toNat) at_.toNat
  split
  · exact ⟨by simp, by simp, by simp, by simp⟩
  · exact ⟨by simp, by simp; omega, by simp, by simp; omega⟩
/-- Turned on: what stands in a higher level than the new time keeps its place. -/
theorem levQ_keep {f a b c : Nat} (hb : b < 64 ^ (f + 1)) (hc : c < 64 ^ (f + 1)) (h1 : a ≤ b) (h2 : a < c) (h : a = b ∨ levQ f a b < levQ f a c) : b < c ∧ levQ f b c = levQ f a c := by
  rcases h with rfl | h
  · exact ⟨h2, rfl⟩
  · by_cases e : a = b
    · subst e; exact ⟨h2, rfl⟩
    · have hbc := levQ_first hb hc (by omega) h2 h
      refine ⟨hbc, (levQ_turn hc h1 hbc).2.2 ?_⟩
      obtain ⟨g1, _⟩ := levQ_spec f a b (by omega) hb
      obtain ⟨_, k2⟩ := levQ_spec f a c (by omega) hc
      rw [← div_pow_up (show levQ f a b + 1 ≤ levQ f a c by omega) g1]
      exact k2 (by omega)
/-- What stands in a lower one is due. -/
theorem levQ_due {f a b c : Nat} (hb : b < 64 ^ (f + 1)) (hc : c < 64 ^ (f + 1)) (h1 : a < b) (h2 : a < c) (h : levQ f a c < levQ f a b) : c < b := levQ_first hc hb h2 h1 h
/-- In the same one: what stands in a lower slot is due, what stands in a higher one keeps its place, what stands in the same one is due or comes to a lower level. -/
theorem levQ_same {f a b c : Nat} (hb : b < 64 ^ (f + 1)) (hc : c < 64 ^ (f + 1)) (h1 : a < b) (_ : a < c) (h : levQ f a c = levQ f a b) :
    (slotQ (levQ f a c) c < slotQ (levQ f a c) b → c < b) ∧ (slotQ (levQ f a c) b < slotQ (levQ f a c) c → b < c ∧ levQ f b c = levQ f a c) ∧
    (slotQ (levQ f a c) b = slotQ (levQ f a c) c → b < c → levQ f b c < levQ f a c) := by
  obtain ⟨g1, _⟩ := levQ_spec f a b (by omega) hb
  obtain ⟨k1, _⟩ := levQ_spec f a c (by omega) hc
  rw [← h] at g1
  have e : b / 64 ^ (levQ f a c + 1) = c / 64 ^ (levQ f a c + 1) := g1.symm.trans k1
  have s1 := slot_div (levQ f a c) b
  have s2 := slot_div (levQ f a c) c
  refine ⟨fun hs => slotQ_first e.symm hs, fun hs => ?_, fun hs hbc => ?_⟩
  · have hbc := slotQ_first e hs
    exact ⟨hbc, (levQ_turn hc (by omega) hbc).2.2 (by omega)⟩
  · obtain ⟨t1, t2⟩ := levQ_turn hc (Nat.le_of_lt h1) hbc
    rcases Nat.lt_or_ge (levQ f b c) (levQ f a c) with g | g
    · exact g
    · exact absurd (show b / 64 ^ levQ f a c = c / 64 ^ levQ f a c by omega) (t2.1 (by omega))
theorem levQ_zero {f a c : Nat} (hc : c < 64 ^ (f + 1)) (h2 : a < c) (h : levQ f a c = 0) : slotQ 0 c = c % 64 ∧ c / 64 = a / 64 := by
  obtain ⟨k1, _⟩ := levQ_spec f a c (by omega) hc
  rw [h] at k1
  simp only [Nat.zero_add, Nat.pow_one] at k1
  exact ⟨by unfold slotQ; simp, k1.symm⟩
end Go.Proofs.YtidgiohjgkfjcaaDoor
