/- DaysGo: the date of the next number is the day behind, and the next weekday. -/
import Derived.Test.YtglmonjpcgadnaaDoorDBack
import Derived.Test.YtglmonjpcgadnaaDoorDCmp
namespace Go.Proofs.YtglmonjpcgadnaaDoor
open Go.RowKit

theorem go_math {y m d y' m' d' K : Int} (h : RightZ y m d) (hn : numZ y m d = K) (hK : K + 1 ≤ 2932896) (h' : RightZ y' m' d') (hn' : numZ y' m' d' = K + 1) :
    (d < mlZ y m ∧ y' = y ∧ m' = m ∧ d' = d + 1) ∨ (d = mlZ y m ∧ m < 12 ∧ y' = y ∧ m' = m + 1 ∧ d' = 1) ∨ (d = mlZ y m ∧ m = 12 ∧ y' = y + 1 ∧ m' = 1 ∧ d' = 1) := by
  obtain ⟨a, b, c⟩ := num_next h
  have h4 := h.2.2.2
  have hm := h.month
  by_cases hd : d < mlZ y m
  · obtain ⟨r, e⟩ := a hd
    exact Or.inl ⟨hd, num_inj h' r (by omega)⟩
  · have hd' : d = mlZ y m := by omega
    by_cases hm12 : m < 12
    · obtain ⟨r, e⟩ := b hd' hm12
      exact Or.inr (Or.inl ⟨hd', hm12, num_inj h' r (by omega)⟩)
    · obtain ⟨e, r⟩ := c hd' (by omega)
      have hy : y < 9999 := by
        by_cases hy : y < 9999
        · exact hy
        · have h5 := h.2.1
          obtain rfl : y = 9999 := by omega
          have h6 : numZ (9999 + 1) 1 1 = 2932897 := by
            unfold numZ
            rw [show ((9999 : Int) + 1 - 1970).toNat = 8030 by decide, dyZ_last]; decide
          omega
      exact Or.inr (Or.inr ⟨hd', by omega, num_inj h' (r hy) (by omega)⟩)
theorem Laid.setCell {w : World} (h : Laid w) {g : Nat} (hg : 2 ≤ g) (i : Nat) (v : Value) : Laid (w.setCell ⟨g, i, none⟩ v) :=
  h.onM (B := 2) (Nat.le_refl _) ((Below.refl _ w).setCell (p := ⟨g, i, none⟩) hg v)
theorem cmp_next {y m d y' m' d' K : Int} (h : RightZ y m d) (hn : numZ y m d = K) (h' : RightZ y' m' d') (hn' : numZ y' m' d' = K + 1) : cmpZ y m d y' m' d' = -1 := by
  rw [cmp_num h h', hn, hn', if_pos (by omega)]
theorem DateAt.drewN {w : World} {g : Nat} {y m d : Int} (h : DateAt w g y m d) (n : Nat) : DateAt (w.drewN n) g y m d := h
theorem week_next (K : Int) : (K + 1 + 4) % 7 = ((K + 4) % 7 + 1) % 7 := by omega
theorem compare_raw (y m d y' m' d' : Int) (w : World) :
    Calls Tryd.prog 12 #[.agg #[.int .i64 y, .int .i64 m, .int .i64 d], .agg #[.int .i64 y', .int .i64 m', .int .i64 d']] w fun e w' => e = .returned (.int .i64 (cmpZ y m d y' m' d')) ∧ Below w.heap.size w w' := compare_any y m d y' m' d' w
set_option maxRecDepth 100000 in
theorem go_walk (n : Int) (w : World) (hL : Laid w) :
    Calls Tryd.prog 7 #[.int .i64 n] w fun e w' => e = .returned (.bool true) ∧ Below w.heap.size w w' := by
  have hwk := wakes_any _ hL
  have HW := Lib.hid hwk
  have HL := Lib.hid hL
  obtain ⟨k0, k1⟩ := mod_in n 2932896 (by omega) (by omega)
  clear hwk hL
  go_enter Tryd.func7, Tryd.ntmps7
  go_wp2_with fail
  refine HW.out.mono ?_
  rintro e w2 ⟨rfl, hb⟩
  have HL2 := Lib.hid (HL.out.on hb)
  have HB2 := Lib.hid hb
  clear HW HL hb
  go_wp2_with fail
  generalize wrap64 ((IntKind.u64.wrap n).tmod 2932896) = K at *
  refine (at_ok K w2 HL2.out k0 (by omega)).mono ?_
  rintro e w3 ⟨y, m, d, rfl, hR, hN, hb⟩
  unfold dateV
  have hb3 := HB2.out.trans (hb.mono HB2.out.size)
  have HLa := Lib.hid ((HL2.out.on hb).alloc (dateO y m d))
  have HBa := Lib.hid (hb3.alloc hb3.size (dateO y m d))
  have HA := Lib.hid (DateAt.new w3 y m d)
  unfold dateO at *
  clear HL2 HB2 hb hb3
  go_wp2_with fail
  refine (at_ok (K + 1) _ HLa.out (by omega) (by omega)).mono ?_
  rintro e w4 ⟨y', m', d', rfl, hR', hN', hb⟩
  unfold dateV
  have hb4 := HBa.out.trans (hb.mono HBa.out.size)
  have HLb := Lib.hid ((HLa.out.on hb).alloc (dateO y' m' d'))
  have HBb := Lib.hid (hb4.alloc hb4.size (dateO y' m' d'))
  have HA' := Lib.hid ((HA.out.on hb).alloc (dateO y' m' d'))
  have HD' := Lib.hid (DateAt.new w4 y' m' d')
  unfold dateO at *
  clear HLa HBa HA hb hb4
  go_wp2_with fail
  have hw1 := weekday_ok K (w4.alloc (Obj.cells #[Value.int IntKind.i64 y', Value.int IntKind.i64 m', Value.int IntKind.i64 d'] 26)) k0 (by omega)
  have hw2 := weekday_ok (K + 1) (w4.alloc (Obj.cells #[Value.int IntKind.i64 y', Value.int IntKind.i64 m', Value.int IntKind.i64 d'] 26)) (by omega) (by omega)
  generalize w4.alloc _ = w5 at *
  rw [week_next] at hw2
  have HW2 := Lib.hid hw2
  clear hw2
  refine hw1.mono ?_
  rintro e w' ⟨rfl, rfl⟩
  clear hw1
  have v0 : 0 ≤ (K + 4) % 7 := by omega
  have v1 : (K + 4) % 7 < 7 := by omega
  generalize (K + 4) % 7 = v at *
  go_wp2_with fail
  refine HW2.out.mono ?_
  rintro e w' ⟨rfl, rfl⟩
  clear HW2
  obtain ⟨a0, a1, a2⟩ := HA'.out.cells
  obtain ⟨b0, b1, b2⟩ := HD'.out.cells
  go_wp2_with fail
  refine (compare_raw y m d y' m' d' _).mono ?_
  rintro e w6 ⟨rfl, hb⟩
  rw [cmp_next hR hN hR' hN']
  obtain ⟨a0, a1, a2⟩ := (HA'.out.on hb).cells
  obtain ⟨b0, b1, b2⟩ := (HD'.out.on hb).cells
  have HL6 := Lib.hid (HLb.out.on hb)
  have HB6 := Lib.hid (HBb.out.trans (hb.mono HBb.out.size))
  have HA6 := Lib.hid (HA'.out.on hb)
  have HD6 := Lib.hid (HD'.out.on hb)
  have hm := go_math hR hN (by omega) hR' hN'
  have hz6 : 2 ≤ w6.heap.size := HL6.out.lt
  have hq3 : w3.heap.size < w6.heap.size := HA6.out.lt
  have hq4 : w4.heap.size < w6.heap.size := HD6.out.lt
  have hml := mlZ_top y m
  have hy1 := hR.1
  have hy2 := hR.2.1
  have hm1 := hR.month.1
  have hm2 := hR.month.2
  have hd1 := hR.2.2.1
  have hd2 := hR.2.2.2
  have HR := Lib.hid hR; have HR' := Lib.hid hR'; have HN := Lib.hid hN; have HN' := Lib.hid hN'
  clear hb HLb HBb HA' HD' hR hR' hN hN' v0 v1
  rcases hm with ⟨hd, e1, e2, e3⟩ | ⟨hd, hm12, e1, e2, e3⟩ | ⟨hd, hm12, e1, e2, e3⟩
  · have ht : decide (mlZ y m < d + 1) = false := by simp; omega
    have ht2 : decide (12 < m) = false := by simp; omega
    have HE := Lib.hid (And.intro e1 (And.intro e2 e3))
    clear e1 e2 e3
    go_wp2_with fail
    have hW7 : DateAt (w6.alloc (Obj.cells #[Value.int IntKind.i64 y, Value.int IntKind.i64 m, Value.int IntKind.i64 (d + 1)] 26)) w6.heap.size y m (d + 1) := DateAt.new w6 y m (d + 1)
    have hA7 : DateAt (w6.alloc (Obj.cells #[Value.int IntKind.i64 y, Value.int IntKind.i64 m, Value.int IntKind.i64 (d + 1)] 26)) w3.heap.size y m d := HA6.out.alloc _
    have hD7 : DateAt (w6.alloc (Obj.cells #[Value.int IntKind.i64 y, Value.int IntKind.i64 m, Value.int IntKind.i64 (d + 1)] 26)) w4.heap.size y' m' d' := HD6.out.alloc _
    have hL7 : Laid (w6.alloc (Obj.cells #[Value.int IntKind.i64 y, Value.int IntKind.i64 m, Value.int IntKind.i64 (d + 1)] 26)) := HL6.out.alloc _
    have hB7 : Below w.heap.size w (w6.alloc (Obj.cells #[Value.int IntKind.i64 y, Value.int IntKind.i64 m, Value.int IntKind.i64 (d + 1)] 26)) := HB6.out.alloc HB6.out.size _
    generalize w6.alloc (Obj.cells #[Value.int IntKind.i64 y, Value.int IntKind.i64 m, Value.int IntKind.i64 (d + 1)] 26) = w7 at *
    have HB6S := Lib.hid HB6.out.size
    generalize w6.heap.size = g6 at *
    clear a0 a1 a2 b0 b1 b2 HL6 HB6 HA6 HD6
    obtain ⟨a0, a1, a2, af0, af1, af2⟩ := Box.three hW7
    obtain ⟨b0, b1, b2, bf0, bf1, bf2⟩ := Box.three hA7
    obtain ⟨c0, c1, c2, cf0, cf1, cf2⟩ := Box.three hD7
    have HW7 := Lib.hid hW7; have HA7 := Lib.hid hA7; have HD7 := Lib.hid hD7; have HL7 := Lib.hid hL7; have HB7 := Lib.hid hB7
    clear hW7 hA7 hD7 hL7 hB7
    go_quiet ((go_at_call 16; exact Calls.quiet_of_same (long_q _ _ _ (HL7.out.drewN _))))
    go_wp2_with fail
    have hW8 : DateAt (w7.drewN nq) g6 y' m' d' := by rw [HE.out.1, HE.out.2.1, HE.out.2.2]; exact HW7.out.drewN _
    have hA8 : DateAt (w7.drewN nq) w3.heap.size y m d := HA7.out.drewN _
    have hD8 : DateAt (w7.drewN nq) w4.heap.size y' m' d' := HD7.out.drewN _
    have hL8 : Laid (w7.drewN nq) := HL7.out.drewN _
    have hB8 : Below w.heap.size w (w7.drewN nq) := bdrewN HB7.out _
    generalize (w7.drewN nq) = w8 at *
    clear a0 a1 a2 b0 b1 b2 c0 c1 c2 af0 af1 af2 bf0 bf1 bf2 cf0 cf1 cf2 HW7 HA7 HD7 HL7 HB7
    have HX := Lib.hid hW8; have HA8 := Lib.hid hA8; have HD8 := Lib.hid hD8; have HL8 := Lib.hid hL8; have HB8 := Lib.hid hB8
    clear hW8 hA8 hD8 hL8 hB8
    refine (add_ok y m d 1 w8 HL8.out HR.out (by rw [HN.out]; omega) (by rw [HN.out]; omega)).mono ?_
    rintro e w9 ⟨y9, m9, d9, rfl, hR9, hN9, hb⟩
    rw [HN.out] at hN9
    obtain ⟨rfl, rfl, rfl⟩ := num_inj HR'.out hR9 (HN'.out.trans hN9.symm)
    unfold dateV
    have hb9 := HB8.out.trans (hb.mono HB8.out.size)
    have HX9 := Lib.hid ((HX.out.on hb).alloc (dateO y' m' d'))
    have HA9 := Lib.hid ((HA8.out.on hb).alloc (dateO y' m' d'))
    have HD9 := Lib.hid ((HD8.out.on hb).alloc (dateO y' m' d'))
    have HL9 := Lib.hid ((HL8.out.on hb).alloc (dateO y' m' d'))
    have HB9 := Lib.hid (hb9.alloc hb9.size (dateO y' m' d'))
    have HN9 := Lib.hid (DateAt.new w9 y' m' d')
    unfold dateO at *
    clear HX HA8 HD8 HL8 HB8 hb9 hb hR9 hN9
    have hd9 := HD9.out
    obtain ⟨c0, c1, c2⟩ := hd9.cells
    clear hd9
    go_wp2_with fail
    refine (add_ok y' m' d' (-1) _ HL9.out HR'.out (by rw [HN'.out]; omega) (by rw [HN'.out]; omega)).mono ?_
    rintro e w10 ⟨y9, m9, d9, rfl, hR9, hN9, hb⟩
    rw [HN'.out, show K + 1 + -1 = K by omega] at hN9
    obtain ⟨rfl, rfl, rfl⟩ := num_inj HR.out hR9 (HN.out.trans hN9.symm)
    skip
    unfold dateV
    have hb9 := HB9.out.trans (hb.mono HB9.out.size)
    have HX10 := Lib.hid ((HX9.out.on hb).alloc (dateO y m d))
    have HA10 := Lib.hid ((HA9.out.on hb).alloc (dateO y m d))
    have HD10 := Lib.hid ((HD9.out.on hb).alloc (dateO y m d))
    have HN10 := Lib.hid ((HN9.out.on hb).alloc (dateO y m d))
    have HB10 := Lib.hid (hb9.alloc hb9.size (dateO y m d))
    have HP10 := Lib.hid (DateAt.new w10 y m d)
    unfold dateO at *
    clear HX9 HA9 HD9 HL9 HB9 HN9 hb9 hb hR9 hN9 c0 c1 c2
    obtain ⟨a0, a1, a2⟩ := HX10.out.cells
    obtain ⟨b0, b1, b2⟩ := HA10.out.cells
    obtain ⟨c0, c1, c2⟩ := HD10.out.cells
    obtain ⟨d0, d1', d2'⟩ := HN10.out.cells
    obtain ⟨e0, e1, e2⟩ := HP10.out.cells
    clear HX10 HA10 HD10 HN10 HP10
    go_wp2_with fail
    go_ret
    exact ⟨rfl, HB10.out⟩
  · have ht : decide (mlZ y m < d + 1) = true := by simp; omega
    have ht2 : decide (12 < m + 1) = false := by simp; omega
    have HE := Lib.hid (And.intro e1 (And.intro e2 e3))
    have HQ := Lib.hid hd
    clear e1 e2 e3 hd
    go_wp2_with fail
    have hW7 : DateAt (w6.alloc (Obj.cells #[Value.int IntKind.i64 y, Value.int IntKind.i64 m, Value.int IntKind.i64 (d + 1)] 26)) w6.heap.size y m (d + 1) := DateAt.new w6 y m (d + 1)
    have hA7 : DateAt (w6.alloc (Obj.cells #[Value.int IntKind.i64 y, Value.int IntKind.i64 m, Value.int IntKind.i64 (d + 1)] 26)) w3.heap.size y m d := HA6.out.alloc _
    have hD7 : DateAt (w6.alloc (Obj.cells #[Value.int IntKind.i64 y, Value.int IntKind.i64 m, Value.int IntKind.i64 (d + 1)] 26)) w4.heap.size y' m' d' := HD6.out.alloc _
    have hL7 : Laid (w6.alloc (Obj.cells #[Value.int IntKind.i64 y, Value.int IntKind.i64 m, Value.int IntKind.i64 (d + 1)] 26)) := HL6.out.alloc _
    have hB7 : Below w.heap.size w (w6.alloc (Obj.cells #[Value.int IntKind.i64 y, Value.int IntKind.i64 m, Value.int IntKind.i64 (d + 1)] 26)) := HB6.out.alloc HB6.out.size _
    generalize w6.alloc (Obj.cells #[Value.int IntKind.i64 y, Value.int IntKind.i64 m, Value.int IntKind.i64 (d + 1)] 26) = w7 at *
    have HB6S := Lib.hid HB6.out.size
    generalize w6.heap.size = g6 at *
    clear a0 a1 a2 b0 b1 b2 HL6 HB6 HA6 HD6
    obtain ⟨a0, a1, a2, af0, af1, af2⟩ := Box.three hW7
    obtain ⟨b0, b1, b2, bf0, bf1, bf2⟩ := Box.three hA7
    obtain ⟨c0, c1, c2, cf0, cf1, cf2⟩ := Box.three hD7
    have HW7 := Lib.hid hW7; have HA7 := Lib.hid hA7; have HD7 := Lib.hid hD7; have HL7 := Lib.hid hL7; have HB7 := Lib.hid hB7
    clear hW7 hA7 hD7 hL7 hB7
    go_quiet ((go_at_call 16; exact Calls.quiet_of_same (long_q _ _ _ (HL7.out.drewN _))))
    go_wp2_with fail
    have hW8 : DateAt (((w7.drewN nq).setCell ⟨g6, 1, none⟩ (.int .i64 (m + 1))).setCell ⟨g6, 2, none⟩ (.int .i64 1)) g6 y' m' d' := by rw [HE.out.1, HE.out.2.1, HE.out.2.2]; exact ((HW7.out.drewN _).set 1 _).set 2 _
    have hA8 : DateAt (((w7.drewN nq).setCell ⟨g6, 1, none⟩ (.int .i64 (m + 1))).setCell ⟨g6, 2, none⟩ (.int .i64 1)) w3.heap.size y m d := ((HA7.out.drewN _).far (by omega) _).far (by omega) _
    have hD8 : DateAt (((w7.drewN nq).setCell ⟨g6, 1, none⟩ (.int .i64 (m + 1))).setCell ⟨g6, 2, none⟩ (.int .i64 1)) w4.heap.size y' m' d' := ((HD7.out.drewN _).far (by omega) _).far (by omega) _
    have hL8 : Laid (((w7.drewN nq).setCell ⟨g6, 1, none⟩ (.int .i64 (m + 1))).setCell ⟨g6, 2, none⟩ (.int .i64 1)) := ((HL7.out.drewN _).setCell (by omega) _ _).setCell (by omega) _ _
    have hB8 : Below w.heap.size w (((w7.drewN nq).setCell ⟨g6, 1, none⟩ (.int .i64 (m + 1))).setCell ⟨g6, 2, none⟩ (.int .i64 1)) := ((bdrewN HB7.out _).setCell (by show w.heap.size ≤ g6; exact HB6S.out) _).setCell (by show w.heap.size ≤ g6; exact HB6S.out) _
    generalize (((w7.drewN nq).setCell ⟨g6, 1, none⟩ (.int .i64 (m + 1))).setCell ⟨g6, 2, none⟩ (.int .i64 1)) = w8 at *
    clear a0 a1 a2 b0 b1 b2 c0 c1 c2 af0 af1 af2 bf0 bf1 bf2 cf0 cf1 cf2 HW7 HA7 HD7 HL7 HB7
    have HX := Lib.hid hW8; have HA8 := Lib.hid hA8; have HD8 := Lib.hid hD8; have HL8 := Lib.hid hL8; have HB8 := Lib.hid hB8
    clear hW8 hA8 hD8 hL8 hB8
    refine (add_ok y m d 1 w8 HL8.out HR.out (by rw [HN.out]; omega) (by rw [HN.out]; omega)).mono ?_
    rintro e w9 ⟨y9, m9, d9, rfl, hR9, hN9, hb⟩
    rw [HN.out] at hN9
    obtain ⟨rfl, rfl, rfl⟩ := num_inj HR'.out hR9 (HN'.out.trans hN9.symm)
    unfold dateV
    have hb9 := HB8.out.trans (hb.mono HB8.out.size)
    have HX9 := Lib.hid ((HX.out.on hb).alloc (dateO y' m' d'))
    have HA9 := Lib.hid ((HA8.out.on hb).alloc (dateO y' m' d'))
    have HD9 := Lib.hid ((HD8.out.on hb).alloc (dateO y' m' d'))
    have HL9 := Lib.hid ((HL8.out.on hb).alloc (dateO y' m' d'))
    have HB9 := Lib.hid (hb9.alloc hb9.size (dateO y' m' d'))
    have HN9 := Lib.hid (DateAt.new w9 y' m' d')
    unfold dateO at *
    clear HX HA8 HD8 HL8 HB8 hb9 hb hR9 hN9
    have hd9 := HD9.out
    obtain ⟨c0, c1, c2⟩ := hd9.cells
    clear hd9
    go_wp2_with fail
    refine (add_ok y' m' d' (-1) _ HL9.out HR'.out (by rw [HN'.out]; omega) (by rw [HN'.out]; omega)).mono ?_
    rintro e w10 ⟨y9, m9, d9, rfl, hR9, hN9, hb⟩
    rw [HN'.out, show K + 1 + -1 = K by omega] at hN9
    obtain ⟨rfl, rfl, rfl⟩ := num_inj HR.out hR9 (HN.out.trans hN9.symm)
    skip
    unfold dateV
    have hb9 := HB9.out.trans (hb.mono HB9.out.size)
    have HX10 := Lib.hid ((HX9.out.on hb).alloc (dateO y m d))
    have HA10 := Lib.hid ((HA9.out.on hb).alloc (dateO y m d))
    have HD10 := Lib.hid ((HD9.out.on hb).alloc (dateO y m d))
    have HN10 := Lib.hid ((HN9.out.on hb).alloc (dateO y m d))
    have HB10 := Lib.hid (hb9.alloc hb9.size (dateO y m d))
    have HP10 := Lib.hid (DateAt.new w10 y m d)
    unfold dateO at *
    clear HX9 HA9 HD9 HL9 HB9 HN9 hb9 hb hR9 hN9 c0 c1 c2
    obtain ⟨a0, a1, a2⟩ := HX10.out.cells
    obtain ⟨b0, b1, b2⟩ := HA10.out.cells
    obtain ⟨c0, c1, c2⟩ := HD10.out.cells
    obtain ⟨d0, d1', d2'⟩ := HN10.out.cells
    obtain ⟨e0, e1, e2⟩ := HP10.out.cells
    clear HX10 HA10 HD10 HN10 HP10
    go_wp2_with fail
    go_ret
    exact ⟨rfl, HB10.out⟩
  · have ht : decide (mlZ y m < d + 1) = true := by simp; omega
    have HE := Lib.hid (And.intro e1 (And.intro e2 e3))
    have HQ := Lib.hid hd
    clear e1 e2 e3 hd
    obtain rfl : m = 12 := hm12
    go_wp2_with fail
    have hW7 : DateAt (w6.alloc (Obj.cells #[Value.int IntKind.i64 y, Value.int IntKind.i64 12, Value.int IntKind.i64 (d + 1)] 26)) w6.heap.size y 12 (d + 1) := DateAt.new w6 y 12 (d + 1)
    have hA7 : DateAt (w6.alloc (Obj.cells #[Value.int IntKind.i64 y, Value.int IntKind.i64 12, Value.int IntKind.i64 (d + 1)] 26)) w3.heap.size y 12 d := HA6.out.alloc _
    have hD7 : DateAt (w6.alloc (Obj.cells #[Value.int IntKind.i64 y, Value.int IntKind.i64 12, Value.int IntKind.i64 (d + 1)] 26)) w4.heap.size y' m' d' := HD6.out.alloc _
    have hL7 : Laid (w6.alloc (Obj.cells #[Value.int IntKind.i64 y, Value.int IntKind.i64 12, Value.int IntKind.i64 (d + 1)] 26)) := HL6.out.alloc _
    have hB7 : Below w.heap.size w (w6.alloc (Obj.cells #[Value.int IntKind.i64 y, Value.int IntKind.i64 12, Value.int IntKind.i64 (d + 1)] 26)) := HB6.out.alloc HB6.out.size _
    generalize w6.alloc (Obj.cells #[Value.int IntKind.i64 y, Value.int IntKind.i64 12, Value.int IntKind.i64 (d + 1)] 26) = w7 at *
    have HB6S := Lib.hid HB6.out.size
    generalize w6.heap.size = g6 at *
    clear a0 a1 a2 b0 b1 b2 HL6 HB6 HA6 HD6
    obtain ⟨a0, a1, a2, af0, af1, af2⟩ := Box.three hW7
    obtain ⟨b0, b1, b2, bf0, bf1, bf2⟩ := Box.three hA7
    obtain ⟨c0, c1, c2, cf0, cf1, cf2⟩ := Box.three hD7
    have HW7 := Lib.hid hW7; have HA7 := Lib.hid hA7; have HD7 := Lib.hid hD7; have HL7 := Lib.hid hL7; have HB7 := Lib.hid hB7
    clear hW7 hA7 hD7 hL7 hB7
    go_quiet ((go_at_call 16; exact Calls.quiet_of_same (long_q _ _ _ (HL7.out.drewN _))))
    go_wp2_with fail
    have hW8 : DateAt (((((w7.drewN nq).setCell ⟨g6, 1, none⟩ (.int .i64 13)).setCell ⟨g6, 2, none⟩ (.int .i64 1)).setCell ⟨g6, 0, none⟩ (.int .i64 (y + 1))).setCell ⟨g6, 1, none⟩ (.int .i64 1)) g6 y' m' d' := by rw [HE.out.1, HE.out.2.1, HE.out.2.2]; exact ((((HW7.out.drewN _).set 1 _).set 2 _).set 0 _).set 1 _
    have hA8 : DateAt (((((w7.drewN nq).setCell ⟨g6, 1, none⟩ (.int .i64 13)).setCell ⟨g6, 2, none⟩ (.int .i64 1)).setCell ⟨g6, 0, none⟩ (.int .i64 (y + 1))).setCell ⟨g6, 1, none⟩ (.int .i64 1)) w3.heap.size y 12 d := (((((HA7.out.drewN _).far (by omega) _).far (by omega) _).far (by omega) _).far (by omega) _)
    have hD8 : DateAt (((((w7.drewN nq).setCell ⟨g6, 1, none⟩ (.int .i64 13)).setCell ⟨g6, 2, none⟩ (.int .i64 1)).setCell ⟨g6, 0, none⟩ (.int .i64 (y + 1))).setCell ⟨g6, 1, none⟩ (.int .i64 1)) w4.heap.size y' m' d' := (((((HD7.out.drewN _).far (by omega) _).far (by omega) _).far (by omega) _).far (by omega) _)
    have hL8 : Laid (((((w7.drewN nq).setCell ⟨g6, 1, none⟩ (.int .i64 13)).setCell ⟨g6, 2, none⟩ (.int .i64 1)).setCell ⟨g6, 0, none⟩ (.int .i64 (y + 1))).setCell ⟨g6, 1, none⟩ (.int .i64 1)) := ((((HL7.out.drewN _).setCell (by omega) _ _).setCell (by omega) _ _).setCell (by omega) _ _).setCell (by omega) _ _
    have hB8 : Below w.heap.size w (((((w7.drewN nq).setCell ⟨g6, 1, none⟩ (.int .i64 13)).setCell ⟨g6, 2, none⟩ (.int .i64 1)).setCell ⟨g6, 0, none⟩ (.int .i64 (y + 1))).setCell ⟨g6, 1, none⟩ (.int .i64 1)) := ((((bdrewN HB7.out _).setCell (by show w.heap.size ≤ g6; exact HB6S.out) _).setCell (by show w.heap.size ≤ g6; exact HB6S.out) _).setCell (by show w.heap.size ≤ g6; exact HB6S.out) _).setCell (by show w.heap.size ≤ g6; exact HB6S.out) _
    generalize (((((w7.drewN nq).setCell ⟨g6, 1, none⟩ (.int .i64 13)).setCell ⟨g6, 2, none⟩ (.int .i64 1)).setCell ⟨g6, 0, none⟩ (.int .i64 (y + 1))).setCell ⟨g6, 1, none⟩ (.int .i64 1)) = w8 at *
    clear a0 a1 a2 b0 b1 b2 c0 c1 c2 af0 af1 af2 bf0 bf1 bf2 cf0 cf1 cf2 HW7 HA7 HD7 HL7 HB7
    have HX := Lib.hid hW8; have HA8 := Lib.hid hA8; have HD8 := Lib.hid hD8; have HL8 := Lib.hid hL8; have HB8 := Lib.hid hB8
    clear hW8 hA8 hD8 hL8 hB8
    refine (add_ok y 12 d 1 w8 HL8.out HR.out (by rw [HN.out]; omega) (by rw [HN.out]; omega)).mono ?_
    rintro e w9 ⟨y9, m9, d9, rfl, hR9, hN9, hb⟩
    rw [HN.out] at hN9
    obtain ⟨rfl, rfl, rfl⟩ := num_inj HR'.out hR9 (HN'.out.trans hN9.symm)
    unfold dateV
    have hb9 := HB8.out.trans (hb.mono HB8.out.size)
    have HX9 := Lib.hid ((HX.out.on hb).alloc (dateO y' m' d'))
    have HA9 := Lib.hid ((HA8.out.on hb).alloc (dateO y' m' d'))
    have HD9 := Lib.hid ((HD8.out.on hb).alloc (dateO y' m' d'))
    have HL9 := Lib.hid ((HL8.out.on hb).alloc (dateO y' m' d'))
    have HB9 := Lib.hid (hb9.alloc hb9.size (dateO y' m' d'))
    have HN9 := Lib.hid (DateAt.new w9 y' m' d')
    unfold dateO at *
    clear HX HA8 HD8 HL8 HB8 hb9 hb hR9 hN9
    have hd9 := HD9.out
    obtain ⟨c0, c1, c2⟩ := hd9.cells
    clear hd9
    go_wp2_with fail
    refine (add_ok y' m' d' (-1) _ HL9.out HR'.out (by rw [HN'.out]; omega) (by rw [HN'.out]; omega)).mono ?_
    rintro e w10 ⟨y9, m9, d9, rfl, hR9, hN9, hb⟩
    rw [HN'.out, show K + 1 + -1 = K by omega] at hN9
    obtain ⟨rfl, he2, rfl⟩ := num_inj HR.out hR9 (HN.out.trans hN9.symm)
    subst he2
    unfold dateV
    have hb9 := HB9.out.trans (hb.mono HB9.out.size)
    have HX10 := Lib.hid ((HX9.out.on hb).alloc (dateO y 12 d))
    have HA10 := Lib.hid ((HA9.out.on hb).alloc (dateO y 12 d))
    have HD10 := Lib.hid ((HD9.out.on hb).alloc (dateO y 12 d))
    have HN10 := Lib.hid ((HN9.out.on hb).alloc (dateO y 12 d))
    have HB10 := Lib.hid (hb9.alloc hb9.size (dateO y 12 d))
    have HP10 := Lib.hid (DateAt.new w10 y 12 d)
    unfold dateO at *
    clear HX9 HA9 HD9 HL9 HB9 HN9 hb9 hb hR9 hN9 c0 c1 c2
    obtain ⟨a0, a1, a2⟩ := HX10.out.cells
    obtain ⟨b0, b1, b2⟩ := HA10.out.cells
    obtain ⟨c0, c1, c2⟩ := HD10.out.cells
    obtain ⟨d0, d1', d2'⟩ := HN10.out.cells
    obtain ⟨e0, e1, e2⟩ := HP10.out.cells
    clear HX10 HA10 HD10 HN10 HP10
    go_wp2_with fail
    go_ret
    exact ⟨rfl, HB10.out⟩
end Go.Proofs.YtglmonjpcgadnaaDoor
