/- What was taken, put again: the bytes that stood there; rows of what is asked. -/
import Derived.Test.YtnppkobckabpcaaTAsk1
import Derived.Test.YtnppkobckabpcaaTWakes
namespace Go.Proofs.Ytnppkobckabpcaa
open Go.RowKit

/-- What is told, put again. -/
def againA (K : Int) (T : Told) : List Nat :=
  if K = 0 ∨ K = 1 then sh T.z.toNat else if K = 2 then sh (turnZ T.i).toNat else if K = 3 then [flagN T.f] else sh T.xs.length ++ T.xs
theorem mostE_zero {bs : List Nat} {m : Nat} (h : mostE bs m = 0) : (rdS bs).2.2 = 0 := by
  unfold mostE at h
  split at h
  · omega
  · omega
theorem rdS_zero {l : List Nat} (h256 : ∀ b ∈ l, b < 256) (h : (rdS l).2.2 = 0) : (rdS l).1 < 18446744073709551616 ∧ (rdS l).2.1 ≤ l.length ∧ l.take (rdS l).2.1 = sh (rdS l).1 := by
  have : rdS l = ((rdS l).1, (rdS l).2.1, 0) := by rw [← h]
  exact rdS_ok h256 this
structure AgainOk (K : Int) (T : Told) (s : Nat) (l : List Nat) : Prop where
  le : s ≤ l.length
  eq : l.take s = againA K T
  z0 : 0 ≤ T.z
  z1 : T.z < 18446744073709551616
  i0 : -9223372036854775808 ≤ T.i
  i1 : T.i ≤ 9223372036854775807
theorem again_ok (k : Int) (N : Nat) (M : Int) (l : List Nat) (h256 : ∀ b ∈ l, b < 256) (h : (readA (askK k) N M l).2.2 = 0) : AgainOk (askK k) (readA (askK k) N M l).1 (readA (askK k) N M l).2.1 l := by
  rcases askK_five k with hk | hk | hk | hk | hk <;> rw [hk] at h ⊢
  · rw [readA_0] at h ⊢
    obtain ⟨h1, h2, h3⟩ := rdS_zero h256 (mostE_zero h)
    exact ⟨h2, by simpa [againA] using h3, by show (0 : Int) ≤ ((rdS l).1 : Int); omega, by show ((rdS l).1 : Int) < _; omega, by show _ ≤ (0 : Int); omega, by show (0 : Int) ≤ _; omega⟩
  · rw [readA_1] at h ⊢
    obtain ⟨h1, h2, h3⟩ := rdS_zero h256 (mostE_zero h)
    exact ⟨h2, by simpa [againA] using h3, by show (0 : Int) ≤ ((rdS l).1 : Int); omega, by show ((rdS l).1 : Int) < _; omega, by show _ ≤ (0 : Int); omega, by show (0 : Int) ≤ _; omega⟩
  · rw [readA_2] at h ⊢
    obtain ⟨h1, h2, h3⟩ := rdS_zero h256 (by simpa using h)
    have hb := back_bd (u := ((rdS l).1 : Int)) (by omega) (by omega)
    refine ⟨h2, ?_, by show (0 : Int) ≤ 0; omega, by show (0 : Int) < _; omega, hb.1, hb.2⟩
    show l.take (rdS l).2.1 = sh (turnZ (backZ ((rdS l).1 : Int))).toNat
    rw [turn_back (by omega), Int.toNat_natCast, h3]
  · rw [readA_3] at h ⊢
    have hl := flagR_le l
    refine ⟨hl, ?_, by show (0 : Int) ≤ 0; omega, by show (0 : Int) < _; omega, by show _ ≤ (0 : Int); omega, by show (0 : Int) ≤ _; omega⟩
    show l.take (flagR l).2.1 = [flagN (flagR l).1]
    unfold flagR at h ⊢
    split
    · rename_i h0; rw [if_pos h0] at h; exact absurd h (by show ¬ (7 : Int) = 0; omega)
    · split
      · rename_i h0 h1; rw [if_neg h0, if_pos h1] at h; exact absurd h (by show ¬ (120 : Int) = 0; omega)
      · rename_i h0 h1
        match l, h0, h1 with
        | a :: r, _, h1 =>
          have ha : nthB (a :: r) 0 = a := rfl
          rw [ha] at h1 ⊢
          have : a = 0 ∨ a = 1 := by omega
          rcases this with rfl | rfl <;> simp [flagN]
  · rw [readA_4] at h ⊢
    have hl := bytesR_le l M
    refine ⟨hl, ?_, by show (0 : Int) ≤ 0; omega, by show (0 : Int) < _; omega, by show _ ≤ (0 : Int); omega, by show (0 : Int) ≤ _; omega⟩
    show l.take (bytesR l M).2.1 = sh (bytesR l M).1.length ++ (bytesR l M).1
    unfold bytesR at h ⊢
    split
    · rename_i h0; rw [if_pos h0] at h; exact absurd h (by show ¬ ((rdS l).2.2 : Int) = 0; omega)
    · rename_i h0
      rw [if_neg h0] at h
      obtain ⟨h1, h2, h3⟩ := rdS_zero h256 (by omega)
      split
      · rename_i h4; rw [if_pos h4] at h; exact absurd h (by show ¬ (3 : Int) = 0; omega)
      · rename_i h4; rw [if_neg h4] at h
        split
        · rename_i h5; rw [if_pos h5] at h; exact absurd h (by show ¬ (7 : Int) = 0; omega)
        · rename_i h5
          show l.take ((rdS l).2.1 + (rdS l).1) = sh ((l.drop (rdS l).2.1).take (rdS l).1).length ++ (l.drop (rdS l).2.1).take (rdS l).1
          rw [List.length_take, List.length_drop, Nat.min_eq_left (by omega), ← h3, List.take_add]
/-- What is asked, as it stands in a row. -/
structure AskE where
  k : Int
  N : Nat
  M : Int
structure AsksAt (w : World) (B0 : Nat) (L : Option Addr) (n : Nat) (l : List AskE) : Prop where
  len : l.length = n
  at_ : ∀ j, j < n → ∃ g o x, l[j]? = some x ∧ L = some ⟨g, o, none⟩ ∧ g < B0 ∧ x.M ≤ 9223372036854775807 ∧
    w.cell? ⟨g, o + j * 3, none⟩ = some (.int .i64 x.k) ∧ w.cell? ⟨g, o + j * 3 + 1, none⟩ = some (.int .u64 (x.N : Int)) ∧ w.cell? ⟨g, o + j * 3 + 2, none⟩ = some (.int .i64 x.M)
theorem AsksAt.below {w w' : World} {B0 n : Nat} {L : Option Addr} {l : List AskE} (h : AsksAt w B0 L n l) (hb : Below B0 w w') : AsksAt w' B0 L n l :=
  ⟨h.len, fun j hj => by
    obtain ⟨g, o, x, e1, e2, hl, ok, c0, c1, c2⟩ := h.at_ j hj
    have hc := (below_cell hb).1
    exact ⟨g, o, x, e1, e2, hl, ok, (hc g _ hl).trans c0, (hc g _ hl).trans c1, (hc g _ hl).trans c2⟩⟩
end Go.Proofs.Ytnppkobckabpcaa
