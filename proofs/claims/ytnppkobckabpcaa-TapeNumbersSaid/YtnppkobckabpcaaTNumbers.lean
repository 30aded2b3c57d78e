/- TapeNumbers walked: a number turned, and back, is the number; who is nearer to 0 has no more bytes. -/
import Derived.Test.YtnppkobckabpcaaTWakes
namespace Go.Proofs.Ytnppkobckabpcaa
open Go.RowKit

theorem Box.two {w : World} {g : Nat} {t : TypeId} {a b : Value} (h : Box w g t #[a, b]) : w.cell? ⟨g, 0, none⟩ = some a ∧ w.cell? ⟨g, 1, none⟩ = some b ∧ w.frozen? ⟨g, 0, none⟩ = false ∧ w.frozen? ⟨g, 1, none⟩ = false :=
  ⟨h.cell 0, h.cell 1, h.frozen 0, h.frozen 1⟩
def nearB (a b : Int) : Bool := (decide (0 ≤ a) && (decide (0 ≤ b) && decide (a ≤ b))) || (decide (a < 0) && (decide (b < 0) && decide (b ≤ a)))
theorem near6 (a b : Int) :
    (0 ≤ a ∧ 0 ≤ b ∧ a ≤ b ∧ decide (0 ≤ a) = true ∧ decide (0 ≤ b) = true ∧ decide (a ≤ b) = true) ∨
    (0 ≤ a ∧ 0 ≤ b ∧ b < a ∧ decide (0 ≤ a) = true ∧ decide (0 ≤ b) = true ∧ decide (a ≤ b) = false ∧ decide (a < 0) = false) ∨
    (0 ≤ a ∧ b < 0 ∧ decide (0 ≤ a) = true ∧ decide (0 ≤ b) = false ∧ decide (a < 0) = false) ∨
    (a < 0 ∧ b < 0 ∧ b ≤ a ∧ decide (0 ≤ a) = false ∧ decide (a < 0) = true ∧ decide (b < 0) = true ∧ decide (b ≤ a) = true) ∨
    (a < 0 ∧ b < 0 ∧ a < b ∧ decide (0 ≤ a) = false ∧ decide (a < 0) = true ∧ decide (b < 0) = true ∧ decide (b ≤ a) = false) ∨
    (a < 0 ∧ 0 ≤ b ∧ decide (0 ≤ a) = false ∧ decide (a < 0) = true ∧ decide (b < 0) = false) := by
  simp only [decide_eq_true_eq, decide_eq_false_iff_not]
  omega
theorem turn_len {a b : Int} (h : 0 ≤ a ∧ 0 ≤ b ∧ a ≤ b ∨ a < 0 ∧ b < 0 ∧ b ≤ a) : (sh (turnZ a).toNat).length ≤ (sh (turnZ b).toNat).length := by
  apply sh_len_mono
  have := turn_near h
  omega
theorem putInt_nil (n : Int) (w : World) (h0 : -9223372036854775808 ≤ n) (h1 : n ≤ 9223372036854775807) :
    Calls Try.prog 31 #[.slice none 0 0, .int .i64 n] w fun e w' => (∃ A c, e = .returned (.slice A (sh (turnZ n).toNat).length c)) ∧ Below w.heap.size w w' :=
  (putInt_any none 0 0 n [] w (RowB.none_ _ _) (by omega) h0 h1).mono fun e w' ⟨v, hv, ho, hb⟩ => by
    obtain ⟨A, c, rfl, _⟩ := ho.row
    exact ⟨⟨A, c, by rw [hv]; rfl⟩, hb⟩
theorem put_nil {z : Int} (n : Nat) (w : World) (h : n < 18446744073709551616) (hz : z = (n : Int)) :
    Calls Try.prog 19 #[.slice none 0 0, .slice (some ⟨w.heap.size, 0, none⟩) 1 1] (w.alloc (.cells #[.int .u64 z] 27)) fun e w' => (∃ A c, e = .returned (.slice A (sh n).length c)) ∧ Below w.heap.size w w' :=
  (put_one none 0 0 n [] w (RowB.none_ _ _) (by omega) h hz).mono fun e w' ⟨v, hv, ho, hb⟩ => by
    obtain ⟨A, c, rfl, _⟩ := ho.row
    exact ⟨⟨A, c, by rw [hv]; rfl⟩, hb⟩
set_option maxRecDepth 100000 in
set_option maxHeartbeats 8000000 in
theorem numbers_walk (a b : Int) (m n : Nat) (w : World) (a0 : -9223372036854775808 ≤ a) (a1 : a ≤ 9223372036854775807) (b0 : -9223372036854775808 ≤ b) (b1 : b ≤ 9223372036854775807) (hm : m < 18446744073709551616) (hn : n < 18446744073709551616) :
    Calls Try.prog 7 #[.agg #[.int .i64 a, .int .i64 b], .agg #[.int .u64 (m : Int), .int .u64 (n : Int)]] w fun e w' => e = .returned (.bool true) ∧ Below w.heap.size w w' := by
  have ta := fun W => turn_any a W a0 a1
  have tb := fun W => turn_any b W b0 b1
  have bk := fun W => back_any (turnZ a) W (turn_lo a) (by have := turn_hi a0 a1; omega)
  simp only [back_turn] at bk
  have bm := fun W => back_any (m : Int) W (by omega) (by omega)
  have hbd := back_bd (u := (m : Int)) (by omega) (by omega)
  have tm := fun W => turn_any (backZ (m : Int)) W hbd.1 hbd.2
  rw [turn_back (by omega)] at tm
  have hinj := turn_inj a b
  have hlen := turn_len (a := a) (b := b)
  have pa := fun W => putInt_nil a W a0 a1
  have pb := fun W => putInt_nil b W b0 b1
  have pm := fun W => put_nil (z := (m : Int)) m W hm rfl
  have sm := fun W => size_any m W hm
  have sn := fun W => size_any n W hn
  have l1 := sh_pos m
  have l2 := sh_ten hm
  have hmono := @sh_len_mono m n
  generalize backZ (m : Int) = bm0 at *
  generalize turnZ a = za at *
  generalize turnZ b = zb at *
  generalize (sh m).length = lm at *
  generalize (sh n).length = ln at *
  generalize (sh za.toNat).length = la at *
  generalize (sh zb.toNat).length = lb at *
  have TA := Lib.hid ta; have TB := Lib.hid tb; have BK := Lib.hid bk; have BM := Lib.hid bm; have TM := Lib.hid tm
  have PA := Lib.hid pa; have PB := Lib.hid pb; have PM := Lib.hid pm; have SM := Lib.hid sm; have SN := Lib.hid sn
  have HI := Lib.hid hinj; have HL := Lib.hid hlen; have HM := Lib.hid hmono
  clear ta tb bk bm tm pa pb pm sm sn hinj hlen hmono hbd a0 a1 b0 b1 hm hn
  go_enter Try.func7, Try.ntmps7
  go_wp2_with fail
  refine (wakes_any _).mono ?_; rintro e w1 ⟨rfl, hb1⟩
  have x0 := ((Box.new w 62 #[.int .i64 a, .int .i64 b]).alloc (.cells #[.int .u64 (m : Int), .int .u64 (n : Int)] 63)).belowAll hb1
  have x1 := (Box.new (w.alloc (.cells #[.int .i64 a, .int .i64 b] 62)) 63 #[.int .u64 (m : Int), .int .u64 (n : Int)]).belowAll hb1
  rw [show (w.alloc (.cells #[.int .i64 a, .int .i64 b] 62)).heap.size = w.heap.size + 1 by simp] at x1
  have hb : Below w.heap.size w w1 := (((Below.refl _ w).alloc (Nat.le_refl _) _).alloc (by simp) _).trans (hb1.mono (by simp; omega))
  have HB := Lib.hid hb
  obtain ⟨c0, c1, f0, f1⟩ := x0.two
  obtain ⟨c2, c3, f2, f3⟩ := x1.two
  clear x0 x1 hb hb1
  go_wp2_with fail
  go_quiet (fail)
  clear c0 c1 c2 c3 f0 f1 f2 f3
  go_wp2_with fail
  refine (TA.out _).mono ?_; rintro e w2 ⟨rfl, rfl⟩
  go_wp2_with fail
  refine (BK.out _).mono ?_; rintro e w2 ⟨rfl, rfl⟩
  go_wp2_with fail
  refine (BM.out _).mono ?_; rintro e w2 ⟨rfl, rfl⟩
  go_wp2_with fail
  refine (TM.out _).mono ?_; rintro e w2 ⟨rfl, rfl⟩
  go_wp2_with fail
  refine (TA.out _).mono ?_; rintro e w2 ⟨rfl, rfl⟩
  go_wp2_with fail
  refine (TB.out _).mono ?_; rintro e w2 ⟨rfl, rfl⟩
  have heq : (za == zb) = (a == b) := by
    have := HI.out
    rw [Bool.eq_iff_iff]; simp; exact this
  obtain ⟨qe, hqe⟩ : ∃ q, (a == b) = q := ⟨_, rfl⟩
  rw [hqe] at heq
  have hd1 : (qe != qe) = false := by cases qe <;> rfl
  obtain ⟨kn, hkn⟩ : ∃ q, decide (m ≤ n) = q := ⟨_, rfl⟩
  have hkz : decide ((m : Int) ≤ (n : Int)) = kn := by rw [← hkn]; simp
  have hgt : kn = true → decide ((ln : Int) < (lm : Int)) = false ∧ decide (ln < lm) = false ∧ lm ≤ ln := fun e => by
    have h := HM.out (by rw [e] at hkn; simpa using hkn)
    exact ⟨by simp; omega, by simp; omega, h⟩
  have s1 : decide ((lm : Int) < 1) = false := by simp; omega
  have s2 : decide ((10 : Int) < (lm : Int)) = false := by simp; omega
  have near := near6 a b
  have HN := Lib.hid near
  have HG := Lib.hid hgt
  clear hgt near
  cases kn with
  | true =>
    obtain ⟨g1, g2, g3⟩ := HG.out rfl
    go_wp2_with fail
    refine (SM.out _).mono ?_; rintro e w2 ⟨rfl, rfl⟩
    go_wp2_with fail
    refine (SN.out _).mono ?_; rintro e w2 ⟨rfl, rfl⟩
    go_wp2_with fail
    refine (SM.out _).mono ?_; rintro e w2 ⟨rfl, rfl⟩
    go_wp2_with fail
    refine (PM.out _).mono ?_; rintro e w2 ⟨⟨A2, c2, rfl⟩, hb2⟩
    have HB2 := Lib.hid (gr_trans (below_drew HB.out _) hb2)
    clear hb2
    go_wp2_with fail
    refine (SM.out _).mono ?_; rintro e w3 ⟨rfl, rfl⟩
    go_wp2_with fail
    refine (SM.out _).mono ?_; rintro e w3 ⟨rfl, rfl⟩
    rcases HN.out with ⟨n1, n2, n3, d1, d2, d3⟩ | ⟨n1, n2, n3, d1, d2, d3, d4⟩ | ⟨n1, n2, d1, d2, d3⟩ | ⟨n1, n2, n3, d1, d2, d3, d4⟩ | ⟨n1, n2, n3, d1, d2, d3, d4⟩ | ⟨n1, n2, d1, d2, d3⟩
    · have Hle := HL.out (.inl ⟨n1, n2, n3⟩)
      go_wp2_with fail
      refine (PA.out _).mono ?_; rintro e w4 ⟨⟨A4, c4, rfl⟩, hb4⟩
      go_wp2_with fail
      refine (PB.out _).mono ?_; rintro e w5 ⟨⟨A5, c5, rfl⟩, hb5⟩
      go_wp2_with fail
      go_ret
      exact ⟨by simp <;> omega, gr_trans (gr_trans HB2.out hb4) hb5⟩
    · go_wp2_with fail
      go_ret
      exact ⟨rfl, HB2.out⟩
    · go_wp2_with fail
      go_ret
      exact ⟨rfl, HB2.out⟩
    · have Hle := HL.out (.inr ⟨n1, n2, n3⟩)
      go_wp2_with fail
      refine (PA.out _).mono ?_; rintro e w4 ⟨⟨A4, c4, rfl⟩, hb4⟩
      go_wp2_with fail
      refine (PB.out _).mono ?_; rintro e w5 ⟨⟨A5, c5, rfl⟩, hb5⟩
      go_wp2_with fail
      go_ret
      exact ⟨by simp <;> omega, gr_trans (gr_trans HB2.out hb4) hb5⟩
    · go_wp2_with fail
      go_ret
      exact ⟨rfl, HB2.out⟩
    · go_wp2_with fail
      go_ret
      exact ⟨rfl, HB2.out⟩
  | false =>
    go_wp2_with fail
    refine (SM.out _).mono ?_; rintro e w2 ⟨rfl, rfl⟩
    go_wp2_with fail
    refine (PM.out _).mono ?_; rintro e w2 ⟨⟨A2, c2, rfl⟩, hb2⟩
    have HB2 := Lib.hid (gr_trans (below_drew HB.out _) hb2)
    clear hb2
    go_wp2_with fail
    refine (SM.out _).mono ?_; rintro e w3 ⟨rfl, rfl⟩
    go_wp2_with fail
    refine (SM.out _).mono ?_; rintro e w3 ⟨rfl, rfl⟩
    rcases HN.out with ⟨n1, n2, n3, d1, d2, d3⟩ | ⟨n1, n2, n3, d1, d2, d3, d4⟩ | ⟨n1, n2, d1, d2, d3⟩ | ⟨n1, n2, n3, d1, d2, d3, d4⟩ | ⟨n1, n2, n3, d1, d2, d3, d4⟩ | ⟨n1, n2, d1, d2, d3⟩
    · have Hle := HL.out (.inl ⟨n1, n2, n3⟩)
      go_wp2_with fail
      refine (PA.out _).mono ?_; rintro e w4 ⟨⟨A4, c4, rfl⟩, hb4⟩
      go_wp2_with fail
      refine (PB.out _).mono ?_; rintro e w5 ⟨⟨A5, c5, rfl⟩, hb5⟩
      go_wp2_with fail
      go_ret
      exact ⟨by simp <;> omega, gr_trans (gr_trans HB2.out hb4) hb5⟩
    · go_wp2_with fail
      go_ret
      exact ⟨rfl, HB2.out⟩
    · go_wp2_with fail
      go_ret
      exact ⟨rfl, HB2.out⟩
    · have Hle := HL.out (.inr ⟨n1, n2, n3⟩)
      go_wp2_with fail
      refine (PA.out _).mono ?_; rintro e w4 ⟨⟨A4, c4, rfl⟩, hb4⟩
      go_wp2_with fail
      refine (PB.out _).mono ?_; rintro e w5 ⟨⟨A5, c5, rfl⟩, hb5⟩
      go_wp2_with fail
      go_ret
      exact ⟨by simp <;> omega, gr_trans (gr_trans HB2.out hb4) hb5⟩
    · go_wp2_with fail
      go_ret
      exact ⟨rfl, HB2.out⟩
    · go_wp2_with fail
      go_ret
      exact ⟨rfl, HB2.out⟩
end Go.Proofs.Ytnppkobckabpcaa
