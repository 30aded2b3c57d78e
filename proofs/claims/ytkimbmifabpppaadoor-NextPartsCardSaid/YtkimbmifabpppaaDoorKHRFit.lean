/- The document's behind and fits: walked. -/
import Derived.Test.YtkimbmifabpppaaDoorK5
import Derived.Test.YtkimbmifabpppaaDoorKHDay
import Derived.Test.YtkimbmifabpppaaDoorKHFit
namespace Go.Proofs.YtkimbmifabpppaaDoor
open Go.RowKit

theorem fit_ref8 {a b c d e : BitVec 64} {y m n : Int} (h : D.RightZ y m n) (hk : crB [a, b, c, d, e] = true) :
    fitD [a, b, c, d, e] y m n = (hasB d m && (if (elems c).length = 31 then hasB c n && hasB e (wdZ y m n) else if (elems e).length = 7 then hasB c n && hasB e (wdZ y m n) else hasB c n || hasB e (wdZ y m n))) := by
  have i2 : (elems c).length = 31 ↔ c = wholeM 2 := whole_iff (k := 2) (by omega) (crB_field hk 2 (by omega))
  have i4 : (elems e).length = 7 ↔ e = wholeM 4 := whole_iff (k := 4) (by omega) (crB_field hk 4 (by omega))
  rw [fit_prog h]
  simp only [i2, i4, beq_iff_eq]
set_option maxRecDepth 100000 in
set_option maxHeartbeats 2000000 in
theorem rfits_any (a b c d e : BitVec 64) (y m n : Int) (w : World) (hk : crB [a, b, c, d, e] = true) (hr : D.RightZ y m n) :
    Calls Tryd.prog 31 #[cronV [a, b, c, d, e], .agg #[.int .i64 y, .int .i64 m, .int .i64 n], .int .i64 (D.numZ y m n)] w fun x w' => x = .returned (.bool (fitD [a, b, c, d, e] y m n)) ∧ Below w.heap.size w w' := by
  obtain ⟨WB, hWB, hb0, hc0, hd0⟩ := five_cells w a b c d e y m n
  rw [cronV_five] at *
  unfold fiveV at *
  have hnr := D.num_range hr
  have HW := Lib.hid (fun W => D.weekdayR_ok (D.numZ y m n) W hnr.1 hnr.2)
  rw [fit_ref8 hr hk]
  have hwd : wdZ y m n = (D.numZ y m n + 4) % 7 := rfl
  rw [hwd]
  have HM := Lib.hid (fun W => rhas_any d m W)
  have HDy := Lib.hid (fun W => (rhas_any c n W).mono fun _ _ ⟨h, k⟩ => (⟨h, k.symm⟩ : _ ∧ _))
  have HWd := Lib.hid (fun W => (rhas_any e ((D.numZ y m n + 4) % 7) W).mono fun _ _ ⟨h, k⟩ => (⟨h, k.symm⟩ : _ ∧ _))
  have HWk := Lib.hid (fun W => (HW.out W).mono fun _ _ ⟨h, k⟩ => (⟨h, k.symm⟩ : _ ∧ _))
  have HA2 := Lib.hid (fun W => rall_row c W); have HA4 := Lib.hid (fun W => rall_row e W)
  have hl2 := elems_64 c; have hl4 := elems_64 e
  clear hwd hk hr HW
  generalize (D.numZ y m n + 4) % 7 = wd at *
  generalize D.numZ y m n = num at *
  cases hm : hasB d m with
  | false =>
    rw [hm] at HM
    clear hm HDy HWd HWk HA2 HA4
    rw [Bool.false_and]
    have HB := Lib.hid hb0
    obtain ⟨c0, c1, c2, c3, c4⟩ := hc0.five
    obtain ⟨d0, d1, d2, _, _, _⟩ := D.Box.three hd0
    clear hb0 hc0 hd0
    go_enter Tryd.func31, Tryd.ntmps31
    go_wp2_with fail
    rw [← hWB]
    clear hWB
    refine (HM.out _).mono ?_
    rintro x w3 ⟨rfl, rfl⟩
    go_wp2_with fail
    go_ret
    exact ⟨rfl, HB.out⟩
  | true =>
    rw [hm] at HM
    rw [Bool.true_and]
    clear hm
    generalize hasB c n = p at *
    generalize hasB e wd = q at *
    generalize (elems c).length = n2 at *
    generalize (elems e).length = n4 at *
    have HB := Lib.hid hb0; have HC := Lib.hid hc0; have HD := Lib.hid hd0
    obtain ⟨c0, c1, c2, c3, c4⟩ := hc0.five
    obtain ⟨d0, d1, d2, _, _, _⟩ := D.Box.three hd0
    obtain ⟨r, hr0⟩ : ∃ r : Bool, (if n2 = 31 then p && q else if n4 = 7 then p && q else p || q) = r := ⟨_, rfl⟩
    rw [hr0]
    have HR := Lib.hid hr0
    clear hr0 hb0 hc0 hd0
    go_enter Tryd.func31, Tryd.ntmps31
    go_wp2_with fail
    rw [← hWB]
    clear hWB
    refine (HM.out _).mono ?_
    rintro x w3 ⟨rfl, rfl⟩
    go_wp2_with fail
    go_quiet (first
      | (go_at_call 43; with_reducible exact Calls.quiet_of_same (HDy.out _))
      | (go_at_call 50; with_reducible exact Calls.quiet_of_same (HWk.out _))
      | (go_at_call 43; with_reducible exact Calls.quiet_of_same (HWd.out _)))
    have HBq := Lib.hid (bdrewN HB.out nq)
    have HCq : Hid (CronAt (WB.drewN nq) w.heap.size [a, b, c, d, e]) := Lib.hid HC.out
    generalize WB.drewN nq = w4 at *
    clear c0 c1 c2 c3 c4 d0 d1 d2 HB HC HD HDy HWd HWk hnr
    obtain ⟨c0, c1, c2, c3, c4⟩ := HCq.out.five
    by_cases h31 : n2 = 31
    · have HRR := Lib.hid (HR.out.symm.trans (if_pos h31))
      have x31 : ((n2 : Int) == 31) = true := by simp; omega
      clear HR h31
      go_wp2_with fail
      refine (HA2.out _).mono ?_
      rintro x w5 ⟨⟨A, c', rfl, _⟩, hb⟩
      have HB5 := Lib.hid (HBq.out.trans (hb.mono HBq.out.size))
      clear hb
      cases p <;> cases q <;>
        (go_wp2_with fail
         go_ret
         exact ⟨by rw [HRR.out]; rfl, HB5.out⟩)
    · have HR2 := HR.out.symm.trans (if_neg h31)
      have x31 : ((n2 : Int) == 31) = false := by simp; omega
      go_wp2_with fail
      refine (HA2.out _).mono ?_
      rintro x w5 ⟨⟨A, c', rfl, _⟩, hb⟩
      have HB5 := Lib.hid (HBq.out.trans (hb.mono HBq.out.size)); have HC5 := Lib.hid (HCq.out.on hb)
      clear hb c0 c1 c2 c3 c4
      obtain ⟨c0, c1, c2, c3, c4⟩ := HC5.out.five
      by_cases h7 : n4 = 7
      · have HRR := Lib.hid (HR2.trans (if_pos h7))
        have x7 : ((n4 : Int) == 7) = true := by simp; omega
        clear HR HR2 h31 h7
        go_wp2_with fail
        refine (HA4.out _).mono ?_
        rintro x w6 ⟨⟨A, c', rfl, _⟩, hb⟩
        have HB6 := Lib.hid (HB5.out.trans (hb.mono HB5.out.size))
        clear hb
        cases p <;> cases q <;>
          (go_wp2_with fail
           go_ret
           exact ⟨by rw [HRR.out]; rfl, HB6.out⟩)
      · have HRR := Lib.hid (HR2.trans (if_neg h7))
        have x7 : ((n4 : Int) == 7) = false := by simp; omega
        clear HR HR2 h31 h7
        go_wp2_with fail
        refine (HA4.out _).mono ?_
        rintro x w6 ⟨⟨A, c', rfl, _⟩, hb⟩
        have HB6 := Lib.hid (HB5.out.trans (hb.mono HB5.out.size))
        clear hb
        cases p <;> cases q <;>
          (go_wp2_with fail
           go_ret
           exact ⟨by rw [HRR.out]; rfl, HB6.out⟩)
/-- The date behind. -/
def behindZ (y m d y' m' d' : Int) : Prop := (d < D.mlZ y m ∧ y' = y ∧ m' = m ∧ d' = d + 1) ∨ (d = D.mlZ y m ∧ m < 12 ∧ y' = y ∧ m' = m + 1 ∧ d' = 1) ∨ (d = D.mlZ y m ∧ m = 12 ∧ y' = y + 1 ∧ m' = 1 ∧ d' = 1)
theorem behind_next {y m d y' m' d' : Int} (h : D.RightZ y m d) (hn : D.numZ y m d + 1 ≤ 2932896) (hb : behindZ y m d y' m' d') : D.RightZ y' m' d' ∧ D.numZ y' m' d' = D.numZ y m d + 1 := by
  obtain ⟨a, b, c⟩ := D.num_next h
  rcases hb with ⟨h1, rfl, rfl, rfl⟩ | ⟨h1, h2, rfl, rfl, rfl⟩ | ⟨h1, h2, rfl, rfl, rfl⟩
  · exact a h1
  · exact b h1 h2
  · obtain ⟨e, r⟩ := c h1 h2
    refine ⟨r ?_, e⟩
    apply Int.not_le.1
    intro hy
    have h5 := h.2.1
    obtain rfl : y = 9999 := by omega
    have h6 : D.numZ (9999 + 1) 1 1 = 2932897 := by
      unfold D.numZ
      rw [show ((9999 : Int) + 1 - 1970).toNat = 8030 by decide, D.dyZ_last]; decide
    omega
theorem two_dates (w : World) (y m d : Int) : ∃ W : World, W = (w.alloc (.cells #[.int .i64 y, .int .i64 m, .int .i64 d] 56)).alloc (.cells #[.int .i64 0, .int .i64 0, .int .i64 0] 56) ∧ Below w.heap.size w W ∧ D.Box W w.heap.size 56 #[.int .i64 y, .int .i64 m, .int .i64 d] ∧ D.Box W (w.heap.size + 1) 56 #[.int .i64 0, .int .i64 0, .int .i64 0] := by
  refine ⟨_, rfl, ((Below.refl _ w).alloc (Nat.le_refl _) _).alloc (by simp) _, (D.Box.new _ _ _).alloc _, ?_⟩
  have := D.Box.new (w.alloc (.cells #[.int .i64 y, .int .i64 m, .int .i64 d] 56)) 56 #[.int .i64 0, .int .i64 0, .int .i64 0]
  rwa [World.size_alloc] at this
theorem set_far {w W : World} {B g i : Nat} (h : Below B w W) (hg : B ≤ g) (u : Value) : Below B w (W.setCell ⟨g, i, none⟩ u) := h.setCell (p := ⟨g, i, none⟩) hg u
set_option maxRecDepth 100000 in
set_option maxHeartbeats 1000000 in
theorem rbehind_any (y m d : Int) (w : World) (h : D.RightZ y m d) :
    Calls Tryd.prog 33 #[.agg #[.int .i64 y, .int .i64 m, .int .i64 d]] w fun x w' => ∃ y' m' d' : Int, x = .returned (.agg #[.int .i64 y', .int .i64 m', .int .i64 d']) ∧ behindZ y m d y' m' d' ∧ Below w.heap.size w w' := by
  obtain ⟨m1, m2, d1, d2⟩ := right_in h
  have hl := D.mlZ_in (y := y) m1 m2
  obtain ⟨y0, y1, _, hd⟩ := h
  have HL := Lib.hid (fun W => D.longR_q y m W)
  unfold behindZ
  generalize D.mlZ y m = ml at *
  obtain ⟨W, hW, hb, hx, hz⟩ := two_dates w y m (d + 1)
  have HB := Lib.hid hb; have HX := Lib.hid hx; have HZ := Lib.hid hz
  obtain ⟨x0, x1, x2, x3, x4, x5⟩ := D.Box.three hx
  clear hb hx hz
  rcases Int.lt_or_le d ml with hlt | hge
  · have e1 : decide (ml < d + 1) = false := by simp; omega
    have e2 : decide (12 < m) = false := by simp; omega
    go_enter Tryd.func33, Tryd.ntmps33
    go_wp2_with fail
    rw [← hW]
    clear hW
    go_quiet ((go_at_call 49; with_reducible exact Calls.quiet_of_same (HL.out _)))
    obtain ⟨x0, x1, x2, x3, x4, x5⟩ := D.Box.three (HX.out.drewN nq)
    obtain ⟨z0, z1, z2, z3, z4, z5⟩ := D.Box.three (HZ.out.drewN nq)
    have HB2 := Lib.hid (bdrewN HB.out nq); have HZ2 := Lib.hid (HZ.out.drewN nq)
    generalize W.drewN nq = w3 at *
    clear HB HX HZ
    go_wp2_with fail
    obtain ⟨⟨r0, r1, r2⟩, hbb⟩ := three_out HZ2.out HB2.out (by omega) (.int .i64 y) (.int .i64 m) (.int .i64 (d + 1))
    generalize (((w3.setCell ⟨w.heap.size + 1, 0, none⟩ (.int .i64 y)).setCell ⟨w.heap.size + 1, 1, none⟩ (.int .i64 m)).setCell ⟨w.heap.size + 1, 2, none⟩ (.int .i64 (d + 1))) = w5 at *
    exact bodyPost_ret (v := .agg #[.int .i64 y, .int .i64 m, .int .i64 (d + 1)]) (by simp [results, Tryd.results33, go_sem, r0, r1, r2]) rfl ⟨y, m, d + 1, rfl, .inl ⟨hlt, rfl, rfl, rfl⟩, hbb⟩
  · have e1 : decide (ml < d + 1) = true := by simp; omega
    have hdm : d = ml := by omega
    have hne : w.heap.size ≠ w.heap.size + 1 := by omega
    rcases Int.lt_or_le m 12 with hm | hm
    · have e2 : decide (12 < m + 1) = false := by simp; omega
      have HDM := Lib.hid hdm
      clear hdm
      go_enter Tryd.func33, Tryd.ntmps33
      go_wp2_with fail
      rw [← hW]
      clear hW
      go_quiet ((go_at_call 49; with_reducible exact Calls.quiet_of_same (HL.out _)))
      obtain ⟨x0, x1, x2, x3, x4, x5⟩ := D.Box.three (HX.out.drewN nq)
      obtain ⟨z0, z1, z2, z3, z4, z5⟩ := D.Box.three (HZ.out.drewN nq)
      have HB2 := Lib.hid (bdrewN HB.out nq); have HZ2 := Lib.hid (HZ.out.drewN nq)
      generalize W.drewN nq = w3 at *
      clear HB HX HZ
      go_wp2_with fail
      have hf : w.heap.size + 1 ≠ w.heap.size := by omega
      have hZ := D.Box.far (i := 2) (D.Box.far (i := 1) HZ2.out hf (.int .i64 (m + 1))) hf (.int .i64 1)
      have hBB := (HB2.out.setCell (p := ⟨w.heap.size, 1, none⟩) (Nat.le_refl _) (.int .i64 (m + 1))).setCell (p := ⟨w.heap.size, 2, none⟩) (Nat.le_refl _) (.int .i64 1)
      generalize (w3.setCell ⟨w.heap.size, 1, none⟩ (.int .i64 (m + 1))).setCell ⟨w.heap.size, 2, none⟩ (.int .i64 1) = w4 at *
      obtain ⟨⟨r0, r1, r2⟩, hbb⟩ := three_out hZ hBB (by omega) (.int .i64 y) (.int .i64 (m + 1)) (.int .i64 1)
      generalize (((w4.setCell ⟨w.heap.size + 1, 0, none⟩ (.int .i64 y)).setCell ⟨w.heap.size + 1, 1, none⟩ (.int .i64 (m + 1))).setCell ⟨w.heap.size + 1, 2, none⟩ (.int .i64 1)) = w5 at *
      exact bodyPost_ret (v := .agg #[.int .i64 y, .int .i64 (m + 1), .int .i64 1]) (by simp [results, Tryd.results33, go_sem, r0, r1, r2]) rfl ⟨y, m + 1, 1, rfl, .inr (.inl ⟨HDM.out, hm, rfl, rfl, rfl⟩), hbb⟩
    · have hm12 : m = 12 := by omega
      subst hm12
      have HDM := Lib.hid hdm
      clear hdm
      go_enter Tryd.func33, Tryd.ntmps33
      go_wp2_with fail
      rw [← hW]
      clear hW
      go_quiet ((go_at_call 49; with_reducible exact Calls.quiet_of_same (HL.out _)))
      obtain ⟨x0, x1, x2, x3, x4, x5⟩ := D.Box.three (HX.out.drewN nq)
      obtain ⟨z0, z1, z2, z3, z4, z5⟩ := D.Box.three (HZ.out.drewN nq)
      have HB2 := Lib.hid (bdrewN HB.out nq); have HZ2 := Lib.hid (HZ.out.drewN nq)
      generalize W.drewN nq = w3 at *
      clear HB HX HZ
      go_wp2_with fail
      have hf : w.heap.size + 1 ≠ w.heap.size := by omega
      have hZ := D.Box.far (i := 1) (D.Box.far (i := 0) (D.Box.far (i := 2) (D.Box.far (i := 1) HZ2.out hf (.int .i64 13)) hf (.int .i64 1)) hf (.int .i64 (y + 1))) hf (.int .i64 1)
      have hBB := (((HB2.out.setCell (p := ⟨w.heap.size, 1, none⟩) (Nat.le_refl _) (.int .i64 13)).setCell (p := ⟨w.heap.size, 2, none⟩) (Nat.le_refl _) (.int .i64 1)).setCell (p := ⟨w.heap.size, 0, none⟩) (Nat.le_refl _) (.int .i64 (y + 1))).setCell (p := ⟨w.heap.size, 1, none⟩) (Nat.le_refl _) (.int .i64 1)
      generalize (((w3.setCell ⟨w.heap.size, 1, none⟩ (.int .i64 13)).setCell ⟨w.heap.size, 2, none⟩ (.int .i64 1)).setCell ⟨w.heap.size, 0, none⟩ (.int .i64 (y + 1))).setCell ⟨w.heap.size, 1, none⟩ (.int .i64 1) = w4 at *
      obtain ⟨⟨r0, r1, r2⟩, hbb⟩ := three_out hZ hBB (by omega) (.int .i64 (y + 1)) (.int .i64 1) (.int .i64 1)
      generalize (((w4.setCell ⟨w.heap.size + 1, 0, none⟩ (.int .i64 (y + 1))).setCell ⟨w.heap.size + 1, 1, none⟩ (.int .i64 1)).setCell ⟨w.heap.size + 1, 2, none⟩ (.int .i64 1)) = w5 at *
      exact bodyPost_ret (v := .agg #[.int .i64 (y + 1), .int .i64 1, .int .i64 1]) (by simp [results, Tryd.results33, go_sem, r0, r1, r2]) rfl ⟨y + 1, 1, 1, rfl, .inr (.inr ⟨HDM.out, trivial, rfl, rfl, rfl⟩), hbb⟩
end Go.Proofs.YtkimbmifabpppaaDoor
