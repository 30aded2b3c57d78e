/- JobTimes: when a job is due: walked. -/
import Derived.Test.YtbaobjbckabnhaaGreatDoorKUEndsW
import Derived.Test.YtbaobjbckabnhaaGreatDoorKURTimes
namespace Go.Proofs.YtbaobjbckabnhaaGreatDoor
open Go.RowKit

theorem span_new (w : World) (s0 s1 : Int) : ∃ W : World, W = w.alloc (.cells #[.int .i64 s0, .int .i64 s1] 40) ∧ Below w.heap.size w W ∧ D.Box W w.heap.size 40 #[.int .i64 s0, .int .i64 s1] := ⟨_, rfl, (Below.refl _ w).alloc (Nat.le_refl _) _, D.Box.new _ _ _⟩
set_option maxRecDepth 100000 in
set_option maxHeartbeats 8000000 in
theorem jtimes_walk (j : JobZ) (A : Option Addr) (n ca : Nat) (most : Int) (w : World) (hL : LaidC w) (hj : j.Fit) (hn : n ≤ maxLen) (hd : SpansAt w w.heap.size A n) (hm : -9223372036854775808 ≤ most ∧ most ≤ 9223372036854775807) :
    Calls Tryz.prog 4 #[jobV j, .slice A n ca, .int .i64 most] w fun x w' => x = .returned (.bool true) ∧ Below w.heap.size w w' := by
  unfold maxLen at hn
  obtain ⟨ev, hev⟩ := ev_is
  have HWK := Lib.hid (fun W hW => jwakes_any ev hev W hW)
  have HRC := Lib.hid (fun W => rcheck_any ev hev j W hj)
  have HL := Lib.hid hL; have HD := Lib.hid hd; have HLW := Lib.hid hL
  obtain ⟨jn, o, L, t, ov, cc, re⟩ := j
  have hj' := hj
  obtain ⟨n0, n1, hl5⟩ := hj
  simp only at hl5
  obtain ⟨a, b, c, d, e, rfl⟩ := list_five hl5
  obtain ⟨W0, hW0, hb0, hj0, hs0⟩ := job_new w jn o a b c d e t ov cc re
  have HB0 := Lib.hid hb0; have HJ := Lib.hid hj0
  have HX0 := Lib.hid (Below.refl W0.heap.size W0)
  rw [jobV_five] at *
  clear hL hb0 hj0 hl5 n0 n1 hd
  go_enter Tryz.func4, Tryz.ntmps4
  go_wp2_with fail
  rw [← hW0]
  clear hW0
  refine (HWK.out _ (HL.out.on HB0.out)).mono ?_
  rintro x w1 ⟨rfl, hb⟩
  have HX1 := Lib.hid (HX0.out.trans (hb.mono HX0.out.size))
  clear hb HX0 HWK
  obtain ⟨c0, c1, c2, c3, c4, c5, c6, c7, c8, c9, c10⟩ := (HJ.out.on HX1.out).cells
  go_wp2_with fail
  refine (HRC.out _).mono ?_
  rintro x w2 ⟨rfl, hb⟩
  have HX2 := Lib.hid (HX1.out.trans (hb.mono HX1.out.size))
  clear hb HX1 HRC c0 c1 c2 c3 c4 c5 c6 c7 c8 c9 c10
  go_wp2_with fail
  obtain ⟨mz, hmz⟩ : ∃ mz, mz = min most (wrap64 (9 + wrap64 (64 * most.tdiv 65))) := ⟨_, rfl⟩
  rw [← hmz]
  clear hmz hm
  have HFI := Lib.hid (fun s W hW => jfirst_any ev hev ⟨jn, o, [a, b, c, d, e], t, ov, cc, re⟩ s W hW hj')
  have HLA := Lib.hid (fun s W hW => jlatest_any ev hev ⟨jn, o, [a, b, c, d, e], t, ov, cc, re⟩ s W hW hj')
  have HTI := Lib.hid (fun s0 s1 W hW => jtimes_any ev hev ⟨jn, o, [a, b, c, d, e], t, ov, cc, re⟩ s0 s1 mz W hW hj')
  have HID := Lib.hid (fun s0 s1 W hW => jidle_any ev hev ⟨jn, o, [a, b, c, d, e], t, ov, cc, re⟩ s0 s1 W hW hj')
  have HRF := Lib.hid (fun he s W => rfirst10_any ev ⟨jn, o, [a, b, c, d, e], t, ov, cc, re⟩ s W hj' he)
  have HRL := Lib.hid (fun he s W => rlatest10_any ev ⟨jn, o, [a, b, c, d, e], t, ov, cc, re⟩ s W hj' he)
  have HRT := Lib.hid (fun he s0 s1 mm W hm => rtimes10_any ev ⟨jn, o, [a, b, c, d, e], t, ov, cc, re⟩ s0 s1 mm W hj' he hm)
  have HBF := Lib.hid (fun h s => first_bad (ev := ev) (j := ⟨jn, o, [a, b, c, d, e], t, ov, cc, re⟩) h s)
  have HBL := Lib.hid (fun h s => latest_bad (ev := ev) (j := ⟨jn, o, [a, b, c, d, e], t, ov, cc, re⟩) h s)
  have HOK := Lib.hid (TT_ok (ev := ev) (j := ⟨jn, o, [a, b, c, d, e], t, ov, cc, re⟩))
  have HI1 := Lib.hid (fun s0 s1 z h he => @idle_bad ev ⟨jn, o, [a, b, c, d, e], t, ov, cc, re⟩ s0 s1 z h he)
  have HI2 := Lib.hid (fun s0 s1 z l h he hc => @idle_ok ev ⟨jn, o, [a, b, c, d, e], t, ov, cc, re⟩ s0 s1 z 0 l h he hc)
  clear hev hj'
  unfold TimesIs at HTI
  unfold RowIs at HRT
  generalize IdleIs ev ⟨jn, o, [a, b, c, d, e], t, ov, cc, re⟩ = II at *
  generalize JobZ.TT ev ⟨jn, o, [a, b, c, d, e], t, ov, cc, re⟩ = TT at *
  generalize JobZ.err ev ⟨jn, o, [a, b, c, d, e], t, ov, cc, re⟩ = z at *
  generalize JobZ.T ⟨jn, o, [a, b, c, d, e], t, ov, cc, re⟩ = TJ at *
  rw [jobV_five] at *
  unfold spanV at *
  have HLB := Lib.hid (HLW.out.on HB0.out)
  have HDB := Lib.hid (HD.out.on HB0.out)
  have hlo0 := HB0.out.size
  clear HL HLW HD
  go_loopw [8, 9, 10, 11, 12, 13, 14, 15, 16, 17, 18, 19, 20, 21, 22, 35] (fun _ _ _ _ _ _ _ _ _ _ _ _ _ _ _ i wr => ∃ k : Nat, k ≤ n ∧ i = .int .i64 (k : Int) ∧ Below W0.heap.size W0 wr) (fun _ _ _ _ _ _ _ _ _ _ _ _ _ _ _ i _ => n - (intOf i).toNat)
  case atStart => exact ⟨0, Nat.zero_le _, rfl, HX2.out⟩
  case round =>
    clear HX2
    obtain ⟨k, hk, rfl, hb⟩ := hrel
    have HB := Lib.hid hb
    by_cases hlt : k < n
    · obtain ⟨bb, off, s0, s1, rfl, hlb, c0, c1⟩ := (HDB.out) k hlt
      have d0 := (hb.cell (p := ⟨bb, off + k * 2, none⟩) (by show bb < W0.heap.size; omega)).trans c0
      have d1 := (hb.cell (p := ⟨bb, off + k * 2 + 1, none⟩) (by show bb < W0.heap.size; omega)).trans c1
      clear hb c0 c1
      by_cases h4 : k = 4
      · subst h4
        rw [show ((4 : Nat) : Int) = 4 by rfl]
        simp only [show (4 : Nat) * 2 = 8 by rfl] at d0 d1
        go_wp2_with fail
        go_ret
        exact ⟨rfl, HB0.out.trans ((HB.out.alloc HB.out.size _).mono HB0.out.size)⟩
      · have h4' : ((k : Int) == 4) = false := by simp; omega
        obtain ⟨w3, hw3, hb3, hx3⟩ := span_new wr s0 s1
        have HX3 := Lib.hid (HB.out.trans (hb3.mono HB.out.size)); have HSP3 := Lib.hid hx3
        clear hb3 hx3 HB
        obtain ⟨c0, c1, c2, c3, c4, c5, c6, c7, c8, c9, c10⟩ := (HJ.out.on HX3.out).cells
        obtain ⟨e0, e1⟩ := two_box HSP3.out
        rw [hw3] at e0 e1 c0 c1 c2 c3 c4 c5 c6 c7 c8 c9 c10
        go_wp2_with fail
        rw [← hw3]
        refine (HFI.out s0 _ (HLB.out.on HX3.out)).mono ?_
        rintro x w4 ⟨⟨y1, ok1, rfl, hy1⟩, hb⟩
        have HY1 := Lib.hid hy1
        have HX4 := Lib.hid (HX3.out.trans (hb.mono HX3.out.size)); have HSP4 := Lib.hid (D.Box.belowAll HSP3.out hb)
        clear hb HX3 HSP3 c0 c1 c2 c3 c4 c5 c6 c7 c8 c9 c10 e0 e1 hy1 hw3
        obtain ⟨c0, c1, c2, c3, c4, c5, c6, c7, c8, c9, c10⟩ := (HJ.out.on HX4.out).cells
        obtain ⟨e0, e1⟩ := two_box HSP4.out
        go_wp2_with fail
        refine (HLA.out s1 _ (HLB.out.on HX4.out)).mono ?_
        rintro x w5 ⟨⟨y2, ok2, rfl, hy2⟩, hb⟩
        have HY2 := Lib.hid hy2
        have HX5 := Lib.hid (HX4.out.trans (hb.mono HX4.out.size)); have HSP5 := Lib.hid (D.Box.belowAll HSP4.out hb)
        clear hb HX4 HSP4 c0 c1 c2 c3 c4 c5 c6 c7 c8 c9 c10 e0 e1 hy2
        obtain ⟨c0, c1, c2, c3, c4, c5, c6, c7, c8, c9, c10⟩ := (HJ.out.on HX5.out).cells
        obtain ⟨e0, e1⟩ := two_box HSP5.out
        go_wp2_with fail
        refine (HTI.out s0 s1 _ (HLB.out.on HX5.out)).mono ?_
        rintro x w6 ⟨hx, hb⟩
        have hlo5 := HX5.out.size
        have HX6 := Lib.hid (HX5.out.trans (hb.mono HX5.out.size)); have HSP6 := Lib.hid (D.Box.belowAll HSP5.out hb)
        clear hb HX5 HSP5 c0 c1 c2 c3 c4 c5 c6 c7 c8 c9 c10 e0 e1 
        obtain ⟨c0, c1, c2, c3, c4, c5, c6, c7, c8, c9, c10⟩ := (HJ.out.on HX6.out).cells
        obtain ⟨e0, e1⟩ := two_box HSP6.out
        rcases hx with ⟨hz, rfl⟩ | ⟨hz, hr, rfl⟩ | ⟨hz, m0, m1, v, l, rfl, hrow, hch⟩
        · have hz1 : (z == 0) = false := by simpa using hz
          have hz3 : (z != 0) = true := by simpa using hz
          obtain ⟨a1, a2⟩ := firstT_one (HBF.out hz s0) HY1.out
          subst a1; subst a2
          obtain ⟨a1, a2⟩ := lastT_one (HBL.out hz s1) HY2.out
          subst a1; subst a2
          go_wp2_with fail
          refine (equal_i64 none none 0 0 0 [] w6 (by unfold maxLen; omega) (⟨rfl, fun i x h => by simp at h⟩) (⟨rfl, fun i x h => by simp at h⟩)).mono ?_
          rintro x wq ⟨rfl, q, rfl⟩
          have HXq := Lib.hid (bdrewN HX6.out q); have HSPq := Lib.hid (D.Box.drewN HSP6.out q)
          clear HX6 HSP6 c0 c1 c2 c3 c4 c5 c6 c7 c8 c9 c10 e0 e1 
          generalize World.drewN w6 q = wq at *
          obtain ⟨c0, c1, c2, c3, c4, c5, c6, c7, c8, c9, c10⟩ := (HJ.out.on HXq.out).cells
          obtain ⟨e0, e1⟩ := two_box HSPq.out
          go_wp2_with fail
          refine (HID.out s0 s1 _ (HLB.out.on HXq.out)).mono ?_
          rintro x wz ⟨z2, rfl, hz2, hb⟩
          obtain rfl := HI1.out s0 s1 z2 hz2 hz
          have HXz := Lib.hid (HXq.out.trans (hb.mono HXq.out.size))
          clear hb hz2 HXq HSPq c0 c1 c2 c3 c4 c5 c6 c7 c8 c9 c10 e0 e1
          go_wp2_with fail
          go_roundw
          case rel => exact ⟨k + 1, by omega, by go_num, HXz.out⟩
          case measure => simp [intOf]; omega
        · subst hz
          have hTT := HOK.out (by simp)
          have hy1 := HY1.out; have hy2 := HY2.out
          rw [hTT] at hy1 hy2
          have HRF2 := Lib.hid (fun s W => HRF.out (by simp) s W); have HRL2 := Lib.hid (fun s W => HRL.out (by simp) s W); have HRT2 := Lib.hid (fun s0 s1 mm W hm => HRT.out (by simp) s0 s1 mm W hm)
          replace HY1 := Lib.hid hy1; replace HY2 := Lib.hid hy2

          clear hy1 hy2 hTT 
          go_wp2_with fail
          refine (HRF2.out s0 _).mono ?_
          rintro x w7 ⟨⟨y3, ok3, rfl, hy3⟩, hb⟩
          obtain ⟨a1, a2⟩ := firstT_one HY1.out hy3
          subst a1; subst a2
          have HX7 := Lib.hid (HX6.out.trans (hb.mono HX6.out.size)); have HSP7 := Lib.hid (D.Box.belowAll HSP6.out hb)
          clear hb HX6 HSP6 c0 c1 c2 c3 c4 c5 c6 c7 c8 c9 c10 e0 e1 hy3
          obtain ⟨c0, c1, c2, c3, c4, c5, c6, c7, c8, c9, c10⟩ := (HJ.out.on HX7.out).cells
          obtain ⟨e0, e1⟩ := two_box HSP7.out
          go_wp2_with fail
          refine (HRL2.out s1 _).mono ?_
          rintro x w8 ⟨⟨y4, ok4, rfl, hy4⟩, hb⟩
          obtain ⟨a1, a2⟩ := lastT_one HY2.out hy4
          subst a1; subst a2
          have HX8 := Lib.hid (HX7.out.trans (hb.mono HX7.out.size)); have HSP8 := Lib.hid (D.Box.belowAll HSP7.out hb)
          clear hb HX7 HSP7 c0 c1 c2 c3 c4 c5 c6 c7 c8 c9 c10 e0 e1 hy4
          obtain ⟨c0, c1, c2, c3, c4, c5, c6, c7, c8, c9, c10⟩ := (HJ.out.on HX8.out).cells
          obtain ⟨e0, e1⟩ := two_box HSP8.out
          go_wp2_with fail
          refine (HRT2.out s0 s1 1 _ (by omega)).mono ?_
          rintro x w9 ⟨⟨vv, lr, rfl, hrr, hcr⟩, hb⟩
          have HCR := Lib.hid hcr
          obtain ⟨Ar, cr, rfl⟩ := own_slice0 hrr
          have HLN : Hid ((((lr.length : Int)) == 0) = decide (lr = [])) := Lib.hid (by rw [Bool.eq_iff_iff]; simp)
          have HX9 := Lib.hid (HX8.out.trans (hb.mono HX8.out.size)); have HSP9 := Lib.hid (D.Box.belowAll HSP8.out hb)
          clear hb HX8 HSP8 c0 c1 c2 c3 c4 c5 c6 c7 c8 c9 c10 e0 e1 hrr hcr
          obtain ⟨c0, c1, c2, c3, c4, c5, c6, c7, c8, c9, c10⟩ := (HJ.out.on HX9.out).cells
          obtain ⟨e0, e1⟩ := two_box HSP9.out
          rcases hr with hr | hr
          · have hd : decide (mz < 0) = true := decide_eq_true hr
            go_wp2_with fail
            refine (equal_i64 none none 0 0 0 [] w9 (by unfold maxLen; omega) (⟨rfl, fun i x h => by simp at h⟩) (⟨rfl, fun i x h => by simp at h⟩)).mono ?_
            rintro x wq ⟨rfl, q, rfl⟩
            have HXq := Lib.hid (bdrewN HX9.out q); have HSPq := Lib.hid (D.Box.drewN HSP9.out q)
            clear HX9 HSP9 c0 c1 c2 c3 c4 c5 c6 c7 c8 c9 c10 e0 e1 
            generalize World.drewN w9 q = wq at *
            obtain ⟨c0, c1, c2, c3, c4, c5, c6, c7, c8, c9, c10⟩ := (HJ.out.on HXq.out).cells
            obtain ⟨e0, e1⟩ := two_box HSPq.out
            go_wp2_with fail
            refine (HID.out s0 s1 _ (HLB.out.on HXq.out)).mono ?_
            rintro x wz ⟨z2, rfl, hz2, hb⟩
            have hz4 := HI2.out s0 s1 z2 lr hz2 (by simp) HCR.out
            rw [← HLN.out] at hz4
            subst hz4
            have HXz := Lib.hid (HXq.out.trans (hb.mono HXq.out.size))
            clear hb hz2 HXq HSPq c0 c1 c2 c3 c4 c5 c6 c7 c8 c9 c10 e0 e1
            go_wp2_with fail
            go_roundw
            case rel => exact ⟨k + 1, by omega, by go_num, HXz.out⟩
            case measure => simp [intOf]; omega
          · have hr0 : ¬ mz < 0 := by omega
            have hd : decide (mz < 0) = false := decide_eq_false hr0
            have hd2 : decide (64 < mz) = true := decide_eq_true hr
            go_wp2_with fail
            refine (equal_i64 none none 0 0 0 [] w9 (by unfold maxLen; omega) (⟨rfl, fun i x h => by simp at h⟩) (⟨rfl, fun i x h => by simp at h⟩)).mono ?_
            rintro x wq ⟨rfl, q, rfl⟩
            have HXq := Lib.hid (bdrewN HX9.out q); have HSPq := Lib.hid (D.Box.drewN HSP9.out q)
            clear HX9 HSP9 c0 c1 c2 c3 c4 c5 c6 c7 c8 c9 c10 e0 e1 
            generalize World.drewN w9 q = wq at *
            obtain ⟨c0, c1, c2, c3, c4, c5, c6, c7, c8, c9, c10⟩ := (HJ.out.on HXq.out).cells
            obtain ⟨e0, e1⟩ := two_box HSPq.out
            go_wp2_with fail
            refine (HID.out s0 s1 _ (HLB.out.on HXq.out)).mono ?_
            rintro x wz ⟨z2, rfl, hz2, hb⟩
            have hz4 := HI2.out s0 s1 z2 lr hz2 (by simp) HCR.out
            rw [← HLN.out] at hz4
            subst hz4
            have HXz := Lib.hid (HXq.out.trans (hb.mono HXq.out.size))
            clear hb hz2 HXq HSPq c0 c1 c2 c3 c4 c5 c6 c7 c8 c9 c10 e0 e1
            go_wp2_with fail
            go_roundw
            case rel => exact ⟨k + 1, by omega, by go_num, HXz.out⟩
            case measure => simp [intOf]; omega
        · subst hz
          have hTT := HOK.out (by simp)
          have hy1 := HY1.out; have hy2 := HY2.out
          rw [hTT] at hy1 hy2
          have HRF2 := Lib.hid (fun s W => HRF.out (by simp) s W); have HRL2 := Lib.hid (fun s W => HRL.out (by simp) s W); have HRT2 := Lib.hid (fun s0 s1 mm W hm => HRT.out (by simp) s0 s1 mm W hm)
          replace HY1 := Lib.hid hy1; replace HY2 := Lib.hid hy2
          have HROW := Lib.hid hrow; have HCH := Lib.hid hch
          obtain ⟨Al, cl, rfl⟩ := own_slice0 hrow
          clear hy1 hy2 hTT hrow hch
          go_wp2_with fail
          refine (HRF2.out s0 _).mono ?_
          rintro x w7 ⟨⟨y3, ok3, rfl, hy3⟩, hb⟩
          obtain ⟨a1, a2⟩ := firstT_one HY1.out hy3
          subst a1; subst a2
          have HX7 := Lib.hid (HX6.out.trans (hb.mono HX6.out.size)); have HSP7 := Lib.hid (D.Box.belowAll HSP6.out hb)
          replace HROW := Lib.hid (own_below HROW.out hb)
          clear hb HX6 HSP6 c0 c1 c2 c3 c4 c5 c6 c7 c8 c9 c10 e0 e1 hy3
          obtain ⟨c0, c1, c2, c3, c4, c5, c6, c7, c8, c9, c10⟩ := (HJ.out.on HX7.out).cells
          obtain ⟨e0, e1⟩ := two_box HSP7.out
          go_wp2_with fail
          refine (HRL2.out s1 _).mono ?_
          rintro x w8 ⟨⟨y4, ok4, rfl, hy4⟩, hb⟩
          obtain ⟨a1, a2⟩ := lastT_one HY2.out hy4
          subst a1; subst a2
          have HX8 := Lib.hid (HX7.out.trans (hb.mono HX7.out.size)); have HSP8 := Lib.hid (D.Box.belowAll HSP7.out hb)
          replace HROW := Lib.hid (own_below HROW.out hb)
          clear hb HX7 HSP7 c0 c1 c2 c3 c4 c5 c6 c7 c8 c9 c10 e0 e1 hy4
          obtain ⟨c0, c1, c2, c3, c4, c5, c6, c7, c8, c9, c10⟩ := (HJ.out.on HX8.out).cells
          obtain ⟨e0, e1⟩ := two_box HSP8.out
          go_wp2_with fail
          refine (HRT2.out s0 s1 1 _ (by omega)).mono ?_
          rintro x w9 ⟨⟨vv, lr, rfl, hrr, hcr⟩, hb⟩
          have HCR := Lib.hid hcr
          obtain ⟨Ar, cr, rfl⟩ := own_slice0 hrr
          have HLN : Hid ((((lr.length : Int)) == 0) = decide (lr = [])) := Lib.hid (by rw [Bool.eq_iff_iff]; simp)
          have HX9 := Lib.hid (HX8.out.trans (hb.mono HX8.out.size)); have HSP9 := Lib.hid (D.Box.belowAll HSP8.out hb)
          replace HROW := Lib.hid (own_below HROW.out hb)
          clear hb HX8 HSP8 c0 c1 c2 c3 c4 c5 c6 c7 c8 c9 c10 e0 e1 hrr hcr
          obtain ⟨c0, c1, c2, c3, c4, c5, c6, c7, c8, c9, c10⟩ := (HJ.out.on HX9.out).cells
          obtain ⟨e0, e1⟩ := two_box HSP9.out
          obtain ⟨mm, rfl⟩ : ∃ mm : Nat, mz = (mm : Int) := ⟨mz.toNat, by omega⟩
          have hmm : mm ≤ 64 := by omega
          have hr0 : ¬ (mm : Int) < 0 := by omega
          have hd : decide ((mm : Int) < 0) = false := decide_eq_false hr0
          have hr1 : ¬ (64 : Int) < (mm : Int) := by omega
          have hd2 : decide ((64 : Int) < (mm : Int)) = false := decide_eq_false hr1
          go_wp2_with fail
          refine (HRT2.out s0 s1 mm _ hmm).mono ?_
          rintro x w10 ⟨⟨v10, l10, rfl, hr10, hc10⟩, hb⟩
          have hll : l10 = l := chain_one _ _ _ _ _ hc10 (by have := HCH.out; rwa [Int.toNat_natCast] at this)
          subst hll
          have HR10 := Lib.hid hr10
          have hl64 : l10.length ≤ 64 := by have := chain_len _ _ _ _ hc10; omega
          obtain ⟨A10, c10', rfl⟩ := own_slice0 hr10
          have HX10 := Lib.hid (HX9.out.trans (hb.mono HX9.out.size)); have HSP10 := Lib.hid (D.Box.belowAll HSP9.out hb)
          replace HROW := Lib.hid (own_below HROW.out hb)
          clear hb HX9 HSP9 c0 c1 c2 c3 c4 c5 c6 c7 c8 c9 c10 e0 e1 hr10 hc10
          obtain ⟨c0, c1, c2, c3, c4, c5, c6, c7, c8, c9, c10⟩ := (HJ.out.on HX10.out).cells
          obtain ⟨e0, e1⟩ := two_box HSP10.out
          go_wp2_with fail
          refine (equal_i64 Al A10 l10.length cl c10' l10 w10 (by unfold maxLen; omega) (own_arr HROW.out) (own_arr HR10.out)).mono ?_
          rintro x wq ⟨rfl, q, rfl⟩
          have HXq := Lib.hid (bdrewN HX10.out q); have HSPq := Lib.hid (D.Box.drewN HSP10.out q)
          clear HX10 HSP10 c0 c1 c2 c3 c4 c5 c6 c7 c8 c9 c10 e0 e1 HROW HR10
          generalize World.drewN w10 q = wq at *
          obtain ⟨c0, c1, c2, c3, c4, c5, c6, c7, c8, c9, c10⟩ := (HJ.out.on HXq.out).cells
          obtain ⟨e0, e1⟩ := two_box HSPq.out
          go_wp2_with fail
          refine (HID.out s0 s1 _ (HLB.out.on HXq.out)).mono ?_
          rintro x wz ⟨z2, rfl, hz2, hb⟩
          have hz4 := HI2.out s0 s1 z2 lr hz2 (by simp) HCR.out
          rw [← HLN.out] at hz4
          subst hz4
          have HXz := Lib.hid (HXq.out.trans (hb.mono HXq.out.size))
          clear hb hz2 HXq HSPq c0 c1 c2 c3 c4 c5 c6 c7 c8 c9 c10 e0 e1
          go_wp2_with fail
          go_roundw
          case rel => exact ⟨k + 1, by omega, by go_num, HXz.out⟩
          case measure => simp [intOf]; omega
    · go_wp2_with fail
      go_ret
      exact ⟨rfl, HB0.out.trans (HB.out.mono HB0.out.size)⟩
end Go.Proofs.YtbaobjbckabnhaaGreatDoor
