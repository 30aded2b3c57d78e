/- Text of the document. -/
import Derived.Test.YtnhbkfmaaannnaaDoorEDigits
import Derived.Test.YtnhbkfmaaannnaaDoorEWrite
namespace Go.Proofs.YtnhbkfmaaannnaaDoor
open Go.RowKit

theorem digits4_q (y : Int) (w : World) (h0 : 0 ≤ y) (h1 : y < 10000) :
    Calls Tryd.prog 41 #[.int .i64 y, .int .i64 4] w fun e w' => e = .returned (.string ⟨(d4 y.toNat).toArray⟩) ∧ w' = w := by
  have h := digits_any y.toNat 4 w (by omega) (by omega)
  rw [lowD_four, show ((y.toNat : Nat) : Int) = y by omega, show ((4 : Nat) : Int) = 4 by rfl] at h
  exact h.mono fun _ _ ⟨a, b⟩ => ⟨a, b.symm⟩
theorem digits2_q (y : Int) (w : World) (h0 : 0 ≤ y) (h1 : y < 100) :
    Calls Tryd.prog 41 #[.int .i64 y, .int .i64 2] w fun e w' => e = .returned (.string ⟨(d2 y.toNat).toArray⟩) ∧ w' = w := by
  have h := digits_any y.toNat 2 w (by omega) (by omega)
  rw [lowD_two, show ((y.toNat : Nat) : Int) = y by omega, show ((2 : Nat) : Int) = 2 by rfl] at h
  exact h.mono fun _ _ ⟨a, b⟩ => ⟨a, b.symm⟩
theorem join_str (a b : List UInt8) (n m : Nat) (ha : a.length = n) (hb : b.length = m) : ∃ p : List UInt8, (⟨a.toArray⟩ : ByteArray) ++ ⟨b.toArray⟩ = ⟨p.toArray⟩ ∧ p.length = n + m ∧ p = a ++ b :=
  ⟨a ++ b, str_add a b, by rw [List.length_append, ha, hb], rfl⟩
set_option maxRecDepth 100000 in
set_option maxHeartbeats 2000000 in
theorem textR_is (t y m d h mi s : Int) (w : World) (hc : CivOf t y m d h mi s) :
    Calls Tryd.prog 26 #[.int .i64 t] w fun e w' => e = .returned (strV (textZ y m d h mi s)) ∧ Below w.heap.size w w' := by
  have HC := Lib.hid hc
  clear hc
  go_enter Tryd.func26, Tryd.ntmps26
  go_wp2_with fail
  refine (tatR_is t y m d h mi s w HC.out).mono ?_
  rintro e w2 ⟨rfl, hb⟩
  obtain ⟨b0, bB, bs⟩ := box_civ w2 y m d h mi s
  have HB := Lib.hid (hb.trans (bB.mono hb.size)); have HX := Lib.hid b0
  unfold civO at *
  obtain ⟨y0, y1, m0, m1, d0, d1, h0, h1, i0, i1, s0, s1⟩ := HC.out.bounds
  clear hb bB bs b0
  go_wp2_with fail
  generalize w2.alloc _ = w4 at *
  generalize w2.heap.size = g at *
  obtain ⟨x0, x1, x2, x3, x4, x5, _⟩ := HX.out.six
  have l0 : (d4 y.toNat).length = 4 := rfl
  have l1 : (d2 m.toNat).length = 2 := rfl
  have l2 : (d2 d.toNat).length = 2 := rfl
  have l3 : (d2 h.toNat).length = 2 := rfl
  have l4 : (d2 mi.toNat).length = 2 := rfl
  have l5 : (d2 s.toNat).length = 2 := rfl
  have q0 := fun W => digits4_q y W y0 y1
  have q1 := fun W => digits2_q m W m0 m1
  have q2 := fun W => digits2_q d W d0 d1
  have q3 := fun W => digits2_q h W h0 h1
  have q4 := fun W => digits2_q mi W i0 i1
  have q5 := fun W => digits2_q s W s0 s1
  generalize ha0 : d4 y.toNat = a0 at *
  generalize ha1 : d2 m.toNat = a1 at *
  generalize ha2 : d2 d.toNat = a2 at *
  generalize ha3 : d2 h.toNat = a3 at *
  generalize ha4 : d2 mi.toNat = a4 at *
  generalize ha5 : d2 s.toNat = a5 at *
  have Q0 := Lib.hid q0
  have HA0 := Lib.hid ha0
  have Q1 := Lib.hid q1
  have HA1 := Lib.hid ha1
  have Q2 := Lib.hid q2
  have HA2 := Lib.hid ha2
  have Q3 := Lib.hid q3
  have HA3 := Lib.hid ha3
  have Q4 := Lib.hid q4
  have HA4 := Lib.hid ha4
  have Q5 := Lib.hid q5
  have HA5 := Lib.hid ha5
  clear q0 ha0 q1 ha1 q2 ha2 q3 ha3 q4 ha4 q5 ha5 y0 y1 m0 m1 d0 d1 h0 h1 i0 i1 s0 s1
  obtain ⟨p1, e1, k1, r1⟩ := join_str a0 [45] 4 1 l0 rfl
  replace k1 : p1.length = 5 := k1
  obtain ⟨p2, e2, k2, r2⟩ := join_str p1 a1 5 2 k1 l1
  replace k2 : p2.length = 7 := k2
  obtain ⟨p3, e3, k3, r3⟩ := join_str p2 [45] 7 1 k2 rfl
  replace k3 : p3.length = 8 := k3
  obtain ⟨p4, e4, k4, r4⟩ := join_str p3 a2 8 2 k3 l2
  replace k4 : p4.length = 10 := k4
  obtain ⟨p5, e5, k5, r5⟩ := join_str p4 [32] 10 1 k4 rfl
  replace k5 : p5.length = 11 := k5
  obtain ⟨p6, e6, k6, r6⟩ := join_str p5 a3 11 2 k5 l3
  replace k6 : p6.length = 13 := k6
  obtain ⟨p7, e7, k7, r7⟩ := join_str p6 [58] 13 1 k6 rfl
  replace k7 : p7.length = 14 := k7
  obtain ⟨p8, e8, k8, r8⟩ := join_str p7 a4 14 2 k7 l4
  replace k8 : p8.length = 16 := k8
  obtain ⟨p9, e9, k9, r9⟩ := join_str p8 [58] 16 1 k8 rfl
  replace k9 : p9.length = 17 := k9
  obtain ⟨p10, e10, k10, r10⟩ := join_str p9 a5 17 2 k9 l5
  replace k10 : p10.length = 19 := k10
  have R1 := Lib.hid r1
  have R2 := Lib.hid r2
  have R3 := Lib.hid r3
  have R4 := Lib.hid r4
  have R5 := Lib.hid r5
  have R6 := Lib.hid r6
  have R7 := Lib.hid r7
  have R8 := Lib.hid r8
  have R9 := Lib.hid r9
  have R10 := Lib.hid r10
  clear r1 r2 r3 r4 r5 r6 r7 r8 r9 r10
  go_quiet ((go_at_call 41; first | with_reducible exact Calls.quiet_of_same (Q0.out _) | with_reducible exact Calls.quiet_of_same (Q1.out _) | with_reducible exact Calls.quiet_of_same (Q2.out _) | with_reducible exact Calls.quiet_of_same (Q3.out _) | with_reducible exact Calls.quiet_of_same (Q4.out _) | with_reducible exact Calls.quiet_of_same (Q5.out _)))
  go_wp2_with fail
  go_ret
  refine ⟨?_, bdrewN HB.out _⟩
  have he : textZ y m d h mi s = p10 := by
    unfold textZ textB
    rw [HA0.out, HA1.out, HA2.out, HA3.out, HA4.out, HA5.out, R10.out, R9.out, R8.out, R7.out, R6.out, R5.out, R4.out, R3.out, R2.out, R1.out]
    simp only [List.append_assoc, List.cons_append, List.nil_append]
  rw [he]; rfl
end Go.Proofs.YtnhbkfmaaannnaaDoor
