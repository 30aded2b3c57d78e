/- The shape of a text, and the numbers that stand in one. -/
import Derived.Test.YtnhbkfmaaannnaaDoorEOrder
namespace Go.Proofs.YtnhbkfmaaannnaaDoor
open Go.Op

def shapeL : List UInt8 := [48, 48, 48, 48, 45, 48, 48, 45, 48, 48, 32, 48, 48, 58, 48, 48, 58, 48, 48]
def shC (k : Nat) : UInt8 := shapeL.getD k 0
def partN (k : Nat) : Nat := [0, 0, 0, 0, 0, 1, 1, 1, 2, 2, 2, 3, 3, 3, 4, 4, 4, 5, 5, 5].getD k 0
/-- What stands of part p in the first k bytes. -/
def cur (l : List UInt8) (k st ln : Nat) : Nat := valL (((l.take k).drop st).take ln)
def curs (l : List UInt8) (k : Nat) : List Nat := [cur l k 0 4, cur l k 5 2, cur l k 8 2, cur l k 11 2, cur l k 14 2, cur l k 17 2]
def byteAt (l : List UInt8) (k : Nat) : UInt8 := l.getD k 0
theorem part_lt (k : Nat) (h : k ≤ 19) : partN k < 6 := by
  have hc : k = 0 ∨ k = 1 ∨ k = 2 ∨ k = 3 ∨ k = 4 ∨ k = 5 ∨ k = 6 ∨ k = 7 ∨ k = 8 ∨ k = 9 ∨ k = 10 ∨ k = 11 ∨ k = 12 ∨ k = 13 ∨ k = 14 ∨ k = 15 ∨ k = 16 ∨ k = 17 ∨ k = 18 ∨ k = 19 := by omega
  rcases hc with rfl | rfl | rfl | rfl | rfl | rfl | rfl | rfl | rfl | rfl | rfl | rfl | rfl | rfl | rfl | rfl | rfl | rfl | rfl | rfl <;> decide
theorem step_digit (l : List UInt8) (hl : l.length = 19) (k : Nat) (hk : k < 19) (h : shC k = 48) :
    curs l (k + 1) = (curs l k).set (partN k) (10 * (curs l k).getD (partN k) 0 + ((byteAt l k).toNat - 48)) ∧ partN (k + 1) = partN k := by
  match l, hl with
  | [a0, a1, a2, a3, a4, a5, a6, a7, a8, a9, a10, a11, a12, a13, a14, a15, a16, a17, a18], _ =>
    have hc : k = 0 ∨ k = 1 ∨ k = 2 ∨ k = 3 ∨ k = 4 ∨ k = 5 ∨ k = 6 ∨ k = 7 ∨ k = 8 ∨ k = 9 ∨ k = 10 ∨ k = 11 ∨ k = 12 ∨ k = 13 ∨ k = 14 ∨ k = 15 ∨ k = 16 ∨ k = 17 ∨ k = 18 := by omega
    rcases hc with rfl | rfl | rfl | rfl | rfl | rfl | rfl | rfl | rfl | rfl | rfl | rfl | rfl | rfl | rfl | rfl | rfl | rfl | rfl <;> first | exact ⟨rfl, rfl⟩ | exact absurd h (by decide)
theorem step_sep (l : List UInt8) (hl : l.length = 19) (k : Nat) (hk : k < 19) (h : shC k ≠ 48) :
    curs l (k + 1) = curs l k ∧ partN (k + 1) = partN k + 1 := by
  match l, hl with
  | [a0, a1, a2, a3, a4, a5, a6, a7, a8, a9, a10, a11, a12, a13, a14, a15, a16, a17, a18], _ =>
    have hc : k = 0 ∨ k = 1 ∨ k = 2 ∨ k = 3 ∨ k = 4 ∨ k = 5 ∨ k = 6 ∨ k = 7 ∨ k = 8 ∨ k = 9 ∨ k = 10 ∨ k = 11 ∨ k = 12 ∨ k = 13 ∨ k = 14 ∨ k = 15 ∨ k = 16 ∨ k = 17 ∨ k = 18 := by omega
    rcases hc with rfl | rfl | rfl | rfl | rfl | rfl | rfl | rfl | rfl | rfl | rfl | rfl | rfl | rfl | rfl | rfl | rfl | rfl | rfl <;> first | exact ⟨rfl, rfl⟩ | exact absurd (by decide) h
/-- The byte fits at place k. -/
def okAt (k : Nat) (b : UInt8) : Prop := if shC k = 48 then isDg b = true else b = shC k
instance (k : Nat) (b : UInt8) : Decidable (okAt k b) := by unfold okAt; infer_instance
def Fits (l : List UInt8) (k : Nat) : Prop := ∀ j, j < k → okAt j (byteAt l j)
theorem Fits.zero (l : List UInt8) : Fits l 0 := fun j h => absurd h (by omega)
theorem Fits.next {l : List UInt8} {k : Nat} (h : Fits l k) (hb : okAt k (byteAt l k)) : Fits l (k + 1) := fun j hj => by
  by_cases e : j = k
  · subst e; exact hb
  · exact h j (by omega)
/-- Values stay small. -/
theorem valL_lt : ∀ (l : List UInt8) (a : Nat), l.all isDg = true → l.foldl (fun n b => 10 * n + (b.toNat - 48)) a < (a + 1) * 10 ^ l.length
  | [], a, _ => by simp
  | b :: l, a, h => by
    simp only [List.all_cons, Bool.and_eq_true] at h
    have ih := valL_lt l (10 * a + (b.toNat - 48)) h.2
    have hb := h.1
    unfold isDg at hb
    simp at hb
    rw [List.foldl_cons, List.length_cons, Nat.pow_succ]
    refine Nat.lt_of_lt_of_le ih ?_
    rw [show (a + 1) * (10 ^ l.length * 10) = (10 * (a + 1)) * 10 ^ l.length by rw [Nat.mul_comm (10 ^ l.length) 10, ← Nat.mul_assoc, Nat.mul_comm (a + 1) 10]]
    exact Nat.mul_le_mul_right _ (by omega)
theorem valL_small {l : List UInt8} (h : l.all isDg = true) (hl : l.length ≤ 4) : valL l < 10000 := by
  have := valL_lt l 0 h
  rw [Nat.zero_add, Nat.one_mul] at this
  refine Nat.lt_of_lt_of_le this ?_
  have : 10 ^ l.length ≤ 10 ^ 4 := Nat.pow_le_pow_right (by omega) hl
  omega
/-- The digits of a part that has begun are digits. -/
theorem cur_small {l : List UInt8} (hl : l.length = 19) {k : Nat} (hk : k ≤ 19) (h : Fits l k) : ∀ p, p < 6 → (curs l k).getD p 0 < 10000 := by
  have key : ∀ st ln, ln ≤ 4 → (∀ j, st ≤ j → j < st + ln → shC j = 48) → cur l k st ln < 10000 := by
    intro st ln hln hsh
    unfold cur
    refine valL_small ?_ (by rw [List.length_take]; omega)
    rw [List.all_eq_true]
    intro x hx
    obtain ⟨i, hi, hxi⟩ := List.mem_iff_getElem.1 hx
    rw [List.length_take, List.length_drop, List.length_take] at hi
    have hj := h (st + i) (by omega)
    unfold okAt at hj
    rw [if_pos (hsh (st + i) (by omega) (by omega))] at hj
    have hb : byteAt l (st + i) = x := by
      unfold byteAt
      rw [List.getD_eq_getElem?_getD, List.getElem?_eq_getElem (by omega)]
      rw [← hxi, List.getElem_take, List.getElem_drop, List.getElem_take]; rfl
    rw [hb] at hj; exact hj
  intro p hp
  have hc : p = 0 ∨ p = 1 ∨ p = 2 ∨ p = 3 ∨ p = 4 ∨ p = 5 := by omega
  have dig : ∀ st ln, (∀ i, i < ln → shC (st + i) = 48) → ∀ j, st ≤ j → j < st + ln → shC j = 48 := fun st ln h j h1 h2 => by
    have := h (j - st) (by omega)
    rwa [show st + (j - st) = j by omega] at this
  rcases hc with rfl | rfl | rfl | rfl | rfl | rfl
  · exact key 0 4 (by omega) (dig 0 4 (by decide))
  · exact key 5 2 (by omega) (dig 5 2 (by decide))
  · exact key 8 2 (by omega) (dig 8 2 (by decide))
  · exact key 11 2 (by omega) (dig 11 2 (by decide))
  · exact key 14 2 (by omega) (dig 14 2 (by decide))
  · exact key 17 2 (by omega) (dig 17 2 (by decide))
/-- A row that fits is a text. -/
theorem fits_text {l : List UInt8} (hl : l.length = 19) (h : Fits l 19) : l = textB (cur l 19 0 4) (cur l 19 5 2) (cur l 19 8 2) (cur l 19 11 2) (cur l 19 14 2) (cur l 19 17 2) := by
  have ht : l.take 19 = l := List.take_of_length_le (by omega)
  unfold cur
  rw [ht]
  match l, hl with
  | [a0, a1, a2, a3, a4, a5, a6, a7, a8, a9, a10, a11, a12, a13, a14, a15, a16, a17, a18], hl =>
    have g := fun j (hj : j < 19) => h j hj
    have f0 : isDg a0 = true := g 0 (by omega)
    have f1 : isDg a1 = true := g 1 (by omega)
    have f2 : isDg a2 = true := g 2 (by omega)
    have f3 : isDg a3 = true := g 3 (by omega)
    have f4 : a4 = 45 := g 4 (by omega)
    have f5 : isDg a5 = true := g 5 (by omega)
    have f6 : isDg a6 = true := g 6 (by omega)
    have f7 : a7 = 45 := g 7 (by omega)
    have f8 : isDg a8 = true := g 8 (by omega)
    have f9 : isDg a9 = true := g 9 (by omega)
    have f10 : a10 = 32 := g 10 (by omega)
    have f11 : isDg a11 = true := g 11 (by omega)
    have f12 : isDg a12 = true := g 12 (by omega)
    have f13 : a13 = 58 := g 13 (by omega)
    have f14 : isDg a14 = true := g 14 (by omega)
    have f15 : isDg a15 = true := g 15 (by omega)
    have f16 : a16 = 58 := g 16 (by omega)
    have f17 : isDg a17 = true := g 17 (by omega)
    have f18 : isDg a18 = true := g 18 (by omega)
    refine text_of _ hl ?_ ?_ ?_ ?_ ?_ ?_ (by simp [f4]) (by simp [f7]) (by simp [f10]) (by simp [f13]) (by simp [f16])
    · simp [digs, f0, f1, f2, f3]
    · simp [digs, f5, f6]
    · simp [digs, f8, f9]
    · simp [digs, f11, f12]
    · simp [digs, f14, f15]
    · simp [digs, f17, f18]
/-- A text fits, and says its numbers. -/
theorem text_fits {y m d h mi s : Nat} (hy : y < 10000) (hm : m < 100) (hd : d < 100) (hh : h < 100) (hmi : mi < 100) (hs : s < 100) :
    Fits (textB y m d h mi s) 19 ∧ curs (textB y m d h mi s) 19 = [y, m, d, h, mi, s] := by
  constructor
  · intro j hj
    have hc : j = 0 ∨ j = 1 ∨ j = 2 ∨ j = 3 ∨ j = 4 ∨ j = 5 ∨ j = 6 ∨ j = 7 ∨ j = 8 ∨ j = 9 ∨ j = 10 ∨ j = 11 ∨ j = 12 ∨ j = 13 ∨ j = 14 ∨ j = 15 ∨ j = 16 ∨ j = 17 ∨ j = 18 := by omega
    rcases hc with rfl | rfl | rfl | rfl | rfl | rfl | rfl | rfl | rfl | rfl | rfl | rfl | rfl | rfl | rfl | rfl | rfl | rfl | rfl <;> first | exact isDg_dg _ | exact rfl
  · obtain ⟨e0, e1, e2, e3, e4, e5⟩ := fields y m d h mi s
    unfold curs cur
    rw [show (textB y m d h mi s).take 19 = textB y m d h mi s by rfl, List.drop_zero, e0, e1, e2, e3, e4, e5, valL_d4 hy, valL_d2 hm, valL_d2 hd, valL_d2 hh, valL_d2 hmi, valL_d2 hs]
end Go.Proofs.YtnhbkfmaaannnaaDoor
