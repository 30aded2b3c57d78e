/- Digits read, and texts: what a text of a time says, and that it says it alone. -/
import Derived.Test.YtnhbkfmaaannnaaDoorEMath
namespace Go.Proofs.YtnhbkfmaaannnaaDoor
open Go.Op

def isDg (b : UInt8) : Bool := 48 ≤ b.toNat && b.toNat ≤ 57
/-- What digits say. -/
def valL (l : List UInt8) : Nat := l.foldl (fun n b => 10 * n + (b.toNat - 48)) 0
def digs (l : List UInt8) : Bool := l.all isDg
theorem isDg_dg (n : Nat) : isDg (dg n) = true := by
  unfold isDg; rw [dg_nat]; simp; omega
theorem valL_d2 {n : Nat} (h : n < 100) : valL (d2 n) = n := by
  unfold valL d2; simp [dg_nat]; omega
theorem valL_d4 {n : Nat} (h : n < 10000) : valL (d4 n) = n := by
  unfold valL d4; simp [dg_nat]; omega
theorem digs_d2 (n : Nat) : digs (d2 n) = true := by unfold digs d2; simp [isDg_dg]
theorem digs_d4 (n : Nat) : digs (d4 n) = true := by unfold digs d4; simp [isDg_dg]
theorem valL_snoc (l : List UInt8) (b : UInt8) : valL (l ++ [b]) = 10 * valL l + (b.toNat - 48) := by unfold valL; simp
theorem dg_of {b : UInt8} (h : isDg b = true) (k : Nat) : dg (10 * k + (b.toNat - 48)) = b := by
  unfold isDg at h
  simp at h
  apply UInt8.toNat_inj.1
  rw [dg_nat]; omega
theorem d2_of {a b : UInt8} (ha : isDg a = true) (hb : isDg b = true) : [a, b] = d2 (valL [a, b]) ∧ valL [a, b] < 100 := by
  have h1 := dg_of ha 0
  have h2 := dg_of hb (a.toNat - 48)
  unfold isDg at ha hb
  simp at ha hb
  have e : valL [a, b] = 10 * (a.toNat - 48) + (b.toNat - 48) := by simp [valL]
  rw [e]
  refine ⟨?_, by omega⟩
  unfold d2
  rw [show (10 * (a.toNat - 48) + (b.toNat - 48)) / 10 = 10 * 0 + (a.toNat - 48) by omega, h1, h2]
theorem d4_of {a b c d : UInt8} (ha : isDg a = true) (hb : isDg b = true) (hc : isDg c = true) (hd : isDg d = true) : [a, b, c, d] = d4 (valL [a, b, c, d]) ∧ valL [a, b, c, d] < 10000 := by
  have h1 := dg_of ha 0
  have h2 := dg_of hb (a.toNat - 48)
  have h3 := dg_of hc (10 * (a.toNat - 48) + (b.toNat - 48))
  have h4 := dg_of hd (10 * (10 * (a.toNat - 48) + (b.toNat - 48)) + (c.toNat - 48))
  unfold isDg at ha hb hc hd
  simp at ha hb hc hd
  have e : valL [a, b, c, d] = 10 * (10 * (10 * (a.toNat - 48) + (b.toNat - 48)) + (c.toNat - 48)) + (d.toNat - 48) := by simp [valL]
  rw [e]
  refine ⟨?_, by omega⟩
  unfold d4
  rw [show (10 * (10 * (10 * (a.toNat - 48) + (b.toNat - 48)) + (c.toNat - 48)) + (d.toNat - 48)) / 1000 = 10 * 0 + (a.toNat - 48) by omega,
    show (10 * (10 * (10 * (a.toNat - 48) + (b.toNat - 48)) + (c.toNat - 48)) + (d.toNat - 48)) / 100 = 10 * (a.toNat - 48) + (b.toNat - 48) by omega,
    show (10 * (10 * (10 * (a.toNat - 48) + (b.toNat - 48)) + (c.toNat - 48)) + (d.toNat - 48)) / 10 = 10 * (10 * (a.toNat - 48) + (b.toNat - 48)) + (c.toNat - 48) by omega, h1, h2, h3, h4]
/-- Where the fields stand. -/
theorem fields (y m d h mi s : Nat) : (textB y m d h mi s).take 4 = d4 y ∧ ((textB y m d h mi s).drop 5).take 2 = d2 m ∧ ((textB y m d h mi s).drop 8).take 2 = d2 d ∧
    ((textB y m d h mi s).drop 11).take 2 = d2 h ∧ ((textB y m d h mi s).drop 14).take 2 = d2 mi ∧ ((textB y m d h mi s).drop 17).take 2 = d2 s := ⟨rfl, rfl, rfl, rfl, rfl, rfl⟩
/-- A row of nineteen bytes is a text, if its fields are digits, and its separators those. -/
theorem text_of (l : List UInt8) (hl : l.length = 19) (h0 : digs (l.take 4) = true) (h1 : digs ((l.drop 5).take 2) = true) (h2 : digs ((l.drop 8).take 2) = true) (h3 : digs ((l.drop 11).take 2) = true)
    (h4 : digs ((l.drop 14).take 2) = true) (h5 : digs ((l.drop 17).take 2) = true) (s0 : l[4]? = some 45) (s1 : l[7]? = some 45) (s2 : l[10]? = some 32) (s3 : l[13]? = some 58) (s4 : l[16]? = some 58) :
    l = textB (valL (l.take 4)) (valL ((l.drop 5).take 2)) (valL ((l.drop 8).take 2)) (valL ((l.drop 11).take 2)) (valL ((l.drop 14).take 2)) (valL ((l.drop 17).take 2)) := by
  match l, hl with
  | [a0, a1, a2, a3, a4, a5, a6, a7, a8, a9, a10, a11, a12, a13, a14, a15, a16, a17, a18], _ =>
    simp only [List.take_succ_cons, List.take_zero, List.drop_succ_cons, List.drop_zero, List.getElem?_cons_succ, List.getElem?_cons_zero, Option.some.injEq, List.take_nil] at *
    simp only [digs, List.all_cons, List.all_nil, Bool.and_true, Bool.and_eq_true] at h0 h1 h2 h3 h4 h5
    subst s0 s1 s2 s3 s4
    have e0 := (d4_of h0.1 h0.2.1 h0.2.2.1 h0.2.2.2).1
    have e1 := (d2_of h1.1 h1.2).1
    have e2 := (d2_of h2.1 h2.2).1
    have e3 := (d2_of h3.1 h3.2).1
    have e4 := (d2_of h4.1 h4.2).1
    have e5 := (d2_of h5.1 h5.2).1
    unfold textB
    rw [← e0, ← e1, ← e2, ← e3, ← e4, ← e5]
    rfl
end Go.Proofs.YtnhbkfmaaannnaaDoor
