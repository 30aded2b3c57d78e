/- placeOf: walked. -/
import Derived.Test.YtidgiohjgkfjcaaDoorQPlace
import Derived.Test.YtidgiohjgkfjcaaDoorQRow
import Derived.Test.YtidgiohjgkfjcaaDoorTLen
namespace Go.Proofs.YtidgiohjgkfjcaaDoor
open Go.RowKit

def plV (j : Nat) : Value := .agg #[.int .i64 ((j / 64 : Nat) : Int), .int .i64 ((j % 64 : Nat) : Int)]
theorem and_63Q (y : Nat) (h : y < 9223372036854775808) : bits .and .i64 (y : Int) 63 = ((y % 64 : Nat) : Int) := by
  have h1 : (BitVec.ofInt 64 (y : Int)).toNat = y := by
    rw [BitVec.ofInt_natCast, BitVec.toNat_ofNat]; exact Nat.mod_eq_of_lt (by omega)
  show IntKind.i64.wrap ((BitVec.ofInt 64 (y : Int) &&& BitVec.ofInt 64 (63 : Int)).toNat : Int) = _
  rw [BitVec.toNat_and, h1, show (BitVec.ofInt 64 (63 : Int)).toNat = 2 ^ 6 - 1 by decide, Nat.and_two_pow_sub_one_eq_mod]
  have : y % 2 ^ 6 < 64 := Nat.mod_lt _ (by decide)
  simp [IntKind.wrap, IntKind.bits, IntKind.signed]
  omega
set_option maxRecDepth 100000 in
set_option maxHeartbeats 1000000 in
theorem place_any9 (a b : Nat) (w : World) (hab : a ≤ b) (hb : b ≤ 253402300799) :
    Calls Tryd.prog 40 #[.int .i64 a, .int .i64 b] w fun e w' => e = .returned (plV (plQ a b)) ∧ Below w.heap.size w w' := by
  have hx : bits .xor .i64 (a : Int) (b : Int) = ((a ^^^ b : Nat) : Int) := xor_i64Q a b (by omega) (by omega)
  obtain ⟨x, hxe⟩ : ∃ x, x = a ^^^ b := ⟨_, rfl⟩
  have hx2 : x < 2 ^ 42 := by rw [hxe]; exact Nat.xor_lt_two_pow (by omega) (by omega)
  have hx63 : (x : Int) ≤ 9223372036854775807 := by omega
  have HL : Hid (max ((Lib.bitLen x : Int) - 1) 0 / 6 = (levQ 6 a b : Nat)) := Lib.hid (by
    by_cases e : a = b
    · subst e
      rw [hxe, Nat.xor_self, show levQ 6 a a = 0 by unfold levQ; rw [if_pos rfl]]
      decide
    · have := levQ_len (f := 6) (a := a) (b := b) (by omega) (by omega) (by omega) e
      rw [← hxe] at this
      have h1 : 1 ≤ Lib.bitLen x := by
        rw [bitLenQ x (by omega)]
        have : x ≠ 0 := fun h0 => e (by
          rw [hxe] at h0
          have := congrArg (fun z => z ^^^ b) h0
          simpa [Nat.xor_assoc] using this)
        rw [if_neg this]; omega
      rw [this, Int.max_eq_left (by omega)])
  rw [← hxe] at hx
  have hlen : Lib.bitLen x ≤ 64 := by
    rw [bitLenQ x (by omega)]
    split
    · omega
    · have := Nat.log2_lt (n := x) (k := 42) (by assumption) |>.2 hx2
      omega
  obtain ⟨N, hN⟩ : ∃ N, N = Lib.bitLen x := ⟨_, rfl⟩
  have H64 := Lib.hid (fun W => len64 (x : Int) W (by omega) (by omega))
  simp only [Int.toNat_natCast] at H64
  rw [← hN] at HL hlen H64
  have HPL : Hid (plQ a b = if 4 ≤ levQ 6 a b then 256 else levQ 6 a b * 64 + slotQ (levQ 6 a b) b) := Lib.hid (by unfold plQ; simp)
  have HV : Hid (levQ 6 a b ≤ 6) := Lib.hid (levQ_le 6 a b)
  generalize levQ 6 a b = v at *
  clear hxe hx2 hN
  go_enter Tryd.func40, Tryd.ntmps40
  go_wp2_with fail
  refine (H64.out _).mono ?_
  rintro e w' ⟨rfl, rfl⟩
  have hB := (Below.refl w.heap.size w).alloc (Nat.le_refl _) (.cells #[.int .i64 0, .int .i64 0] 80)
  obtain ⟨W, hW⟩ : ∃ W, W = w.alloc (.cells #[.int .i64 0, .int .i64 0] 80) := ⟨_, rfl⟩
  have bP : QBox W w.heap.size 80 #[.int .i64 0, .int .i64 0] := by rw [hW]; exact QBox.new _ _ _
  rw [← hW] at hB ⊢
  have HB := Lib.hid hB; have HP := Lib.hid bP
  obtain ⟨p0, p1, p2, p3⟩ := bP.two
  have hs1 : IntKind.i64.wrap ((N : Int) - 1) = (N : Int) - 1 := by simp [IntKind.wrap, IntKind.bits, IntKind.signed]; omega
  clear hW hB bP H64 hx
  go_wp2_with fail
  · rename_i h4
    have h4v : 4 ≤ v := by have := HL.out; omega
    have hpl : plQ a b = 256 := by rw [HPL.out, if_pos h4v]
    obtain ⟨q0, q1, _, _⟩ := (HP.out.set2 (.int .i64 4) (.int .i64 0)).two
    refine bodyPost_ret (v := .agg #[.int .i64 4, .int .i64 0]) (by simp [results, Tryd.results40, go_sem, q0, q1]) rfl ⟨by rw [hpl]; rfl, below_set2 HB.out (Nat.le_refl _) _ _⟩
  · rename_i h4
    have h4v : v < 4 := by have := HL.out; omega
    rw [HL.out]
    have e1 : bits .and .i64 ((b : Int) / 2 ^ (6 * (v : Int)).toNat) 63 = ((slotQ v b : Nat) : Int) := by
      rw [show (6 * (v : Int)).toNat = 6 * v by omega, show ((b : Int) / 2 ^ (6 * v)) = ((b / 64 ^ v : Nat) : Int) by rw [show (64 : Nat) ^ v = 2 ^ (6 * v) by rw [Nat.pow_mul]]; simp]
      rw [and_63Q _ (Nat.lt_of_le_of_lt (Nat.div_le_self _ _) (by omega))]
      rfl
    have e2 : plQ a b = v * 64 + slotQ v b := by rw [HPL.out, if_neg (by omega)]
    have e3 := slotQ_lt v b
    rw [e1]
    obtain ⟨q0, q1, _, _⟩ := (HP.out.set2 (.int .i64 (v : Int)) (.int .i64 ((slotQ v b : Nat) : Int))).two
    refine bodyPost_ret (v := .agg #[.int .i64 (v : Int), .int .i64 ((slotQ v b : Nat) : Int)]) (by simp [results, Tryd.results40, go_sem, q0, q1]) rfl ⟨?_, below_set2 HB.out (Nat.le_refl _) _ _⟩
    unfold plV
    rw [e2, show (v * 64 + slotQ v b) / 64 = v by omega, show (v * 64 + slotQ v b) % 64 = slotQ v b by omega]
end Go.Proofs.YtidgiohjgkfjcaaDoor
