/- CronDays: walked. -/
import Derived.Test.YtmjjdccpnepjjaaGreatDoorKGReads7
namespace Go.Proofs.YtmjjdccpnepjjaaGreatDoor
open Go.RowKit

theorem fit_iff {a b c d e : BitVec 64} {y m n : Int} (h : D.RightZ y m n) :
    fitD [a, b, c, d, e] y m n = (hasB d m && (if c = wholeM 2 then hasB e (wdZ y m n) else if e = wholeM 4 then hasB c n else hasB c n || hasB e (wdZ y m n))) := by
  obtain ⟨h1, h2, h3, h4⟩ := right_in h
  obtain ⟨w0, w6⟩ := wd_in y m n
  rw [hasB_pos (show 0 ≤ m by omega), hasB_pos (show 0 ≤ n by omega), hasB_pos w0]
  rfl
theorem civ_cells {w : World} {g : Nat} {y m n h mi s : Int} (hx : D.Box w g 55 #[.int .i64 y, .int .i64 m, .int .i64 n, .int .i64 h, .int .i64 mi, .int .i64 s]) : w.cell? ⟨g, 0, none⟩ = some (.int .i64 y) ∧ w.cell? ⟨g, 1, none⟩ = some (.int .i64 m) ∧ w.cell? ⟨g, 2, none⟩ = some (.int .i64 n) ∧ w.cell? ⟨g, 3, none⟩ = some (.int .i64 h) ∧ w.cell? ⟨g, 4, none⟩ = some (.int .i64 mi) ∧ w.cell? ⟨g, 5, none⟩ = some (.int .i64 s) :=
  ⟨D.Box.cell hx 0, D.Box.cell hx 1, D.Box.cell hx 2, D.Box.cell hx 3, D.Box.cell hx 4, D.Box.cell hx 5⟩
theorem crB_set {a b c d e : BitVec 64} (h : crB [a, b, c, d, e] = true) : crB [a, b, wholeM 2, d, e] = true ∧ crB [a, b, c, d, wholeM 4] = true := by
  have f2 : fieldB 2 (wholeM 2) = true := by decide +kernel
  have f4 : fieldB 4 (wholeM 4) = true := by decide +kernel
  rw [crB_five] at h ⊢
  rw [crB_five]
  unfold fiveB at *
  simp only [Bool.and_eq_true] at *
  exact ⟨⟨h.1, h.2.1, f2, h.2.2.2.1, h.2.2.2.2⟩, ⟨h.1, h.2.1, h.2.2.1, h.2.2.2.1, f4⟩⟩
theorem day_yes {L : List (BitVec 64)} {y m n : Int} (h : D.RightZ y m n) (hk : crB L = true) : dayZ L y m n = fitD L y m n := by
  unfold dayZ; rw [hk, (rightB_iff y m n).2 h]; rfl
theorem day_sets {a b c d e : BitVec 64} {y m n : Int} (h : D.RightZ y m n) (hk : crB [a, b, c, d, e] = true) :
    dayZ [a, b, wholeM 2, d, e] y m n = (hasB d m && hasB e (wdZ y m n)) ∧ dayZ [a, b, c, d, wholeM 4] y m n = (hasB d m && hasB c n) := by
  obtain ⟨h1, h2, h3, h4⟩ := right_in h
  obtain ⟨w0, w6⟩ := wd_in y m n
  obtain ⟨k2, k4⟩ := crB_set hk
  rw [day_yes h k2, day_yes h k4, hasB_pos (show 0 ≤ m by omega), hasB_pos (show 0 ≤ n by omega), hasB_pos w0]
  obtain ⟨p2, _⟩ := dayF_whole c d e n.toNat m.toNat (wdZ y m n).toNat (by omega) (by omega)
  obtain ⟨_, p4⟩ := dayF_whole c d e n.toNat m.toNat (wdZ y m n).toNat (by omega) (by omega)
  exact ⟨p2, p4⟩
set_option maxRecDepth 100000 in
set_option maxHeartbeats 8000000 in
theorem days7_walk (L : List (BitVec 64)) (t : Int) (w : World) (hL : LaidC w) (h5 : L.length = 5) :
    Calls Tryz.prog 7 #[cronV L, .int .i64 t] w fun e w' => e = .returned (.bool true) ∧ Below w.heap.size w w' := by
  have HL := Lib.hid hL
  clear hL
  obtain ⟨a, b, c, d, e, rfl⟩ := list_five h5
  have hb0 : Below w.heap.size w (w.alloc (.cells #[.int .u64 (U a), .int .u64 (U b), .int .u64 (U c), .int .u64 (U d), .int .u64 (U e)] 27)) := (Below.refl _ w).alloc (Nat.le_refl _) _
  have hc0 := CronAt.new w a b c d e
  have HL0 := Lib.hid (HL.out.on hb0)
  by_cases ht : D.TimeZ t
  · obtain ⟨y, m, n, hc, hnum⟩ := D.civ_ex t ht.1 ht.2
    have HTA := Lib.hid (fun W hW => tat_is t y m n _ _ _ W hW hc)
    have HTW := Lib.hid (fun W => D.tweek_ok t W ht)
    have HAt := Lib.hid (fun W hW => cat_is [a, b, c, d, e] t y m n _ _ _ W hW rfl hc)
    have hR := hc.right
    rw [← hnum] at HTW
    have hs0 : t % 60 = t % 60 := rfl
    generalize t / 3600 % 24 = h at *
    generalize t / 60 % 60 = mi at *
    rw [cronV_five] at *
    unfold fiveV at *
    cases hcr : crB [a, b, c, d, e] with
    | false =>
      have HK := Lib.hid (fun W hW => ccheck_any [a, b, c, d, e] W hW rfl)
      rw [cronV_five, crE_no hcr] at HK
      unfold fiveV at HK
      have hz : atZ [a, b, c, d, e] y m n h mi (t % 60) = false := by
        unfold atZ dayZ; rw [hcr]; simp
      rw [hz] at HAt
      clear hz hcr hs0 hnum hR hc
      generalize t % 60 = s at *
      go_enter Tryz.func7, Tryz.ntmps7
      go_wp2_with fail
      generalize w.alloc _ = w0 at *
      refine (cwakes_any w0 HL0.out).mono ?_
      rintro x w1 ⟨rfl, hb⟩
      have HB1 := Lib.hid (hb0.trans (hb.mono hb0.size)); have HC1 := Lib.hid (hc0.on hb); have HL1 := Lib.hid (HL0.out.on hb)
      clear hb hb0 hc0 HL0
      go_wp2_with fail
      refine (HTA.out _ HL1.out.days).mono ?_
      rintro x w2 ⟨rfl, hb⟩
      have HB2 := Lib.hid (HB1.out.trans (hb.mono HB1.out.size)); have HC2 := Lib.hid (HC1.out.on hb); have HL2 := Lib.hid (HL1.out.on hb)
      clear hb HB1 HC1 HL1
      go_wp2_with fail
      have hF : ∃ W : World, W = w2.alloc (.cells #[.int .i64 y, .int .i64 m, .int .i64 n, .int .i64 h, .int .i64 mi, .int .i64 s] 55) ∧ Below w.heap.size w W ∧ LaidC W ∧ CronAt W w.heap.size [a, b, c, d, e] ∧ D.Box W w2.heap.size 55 #[.int .i64 y, .int .i64 m, .int .i64 n, .int .i64 h, .int .i64 mi, .int .i64 s] ∧ w.heap.size < w2.heap.size :=
        ⟨_, rfl, HB2.out.alloc HB2.out.size _, HL2.out.on ((Below.refl _ w2).alloc (Nat.le_refl _) _), HC2.out.alloc _, D.Box.new _ _ _, HC2.out.lt⟩
      obtain ⟨w3, hw3, hb3, hl3, hc3, hx3, hlt3⟩ := hF
      rw [← hw3]
      have HB3 := Lib.hid hb3; have HL3 := Lib.hid hl3; have HC3 := Lib.hid hc3; have HX3 := Lib.hid hx3
      clear hw3 hb3 hl3 hc3 hx3 HB2 HC2 HL2
      refine (HTW.out _).mono ?_
      rintro x w3' ⟨rfl, rfl⟩
      obtain ⟨c0, c1, c2, c3, c4⟩ := HC3.out.five
      go_wp2_with fail
      refine (HK.out _ HL3.out.fld).mono ?_
      rintro x w4 ⟨rfl, hb⟩
      have HB4 := Lib.hid (HB3.out.trans (hb.mono HB3.out.size)); have HL4 := Lib.hid (HL3.out.on hb); have HC4 := Lib.hid (HC3.out.on hb)
      clear hb c0 c1 c2 c3 c4
      obtain ⟨c0, c1, c2, c3, c4⟩ := HC4.out.five
      go_wp2_with fail
      refine (HAt.out _ HL4.out).mono ?_
      rintro x w5 ⟨rfl, hb⟩
      have HB5 := Lib.hid (HB4.out.trans (hb.mono HB4.out.size))
      clear hb
      go_wp2_with fail
      go_ret
      exact ⟨rfl, HB5.out⟩
    | true =>
      have HK := Lib.hid (fun W hW => ccheck_any [a, b, c, d, e] W hW rfl)
      rw [cronV_five, crE_yes hcr] at HK
      unfold fiveV at HK
      obtain ⟨hda, hdb⟩ := day_sets hR hcr
      have hdi := (day_yes hR hcr).trans (fit_iff (a := a) (b := b) hR)
      have hwd : wdZ y m n = (D.numZ y m n + 4) % 7 := rfl
      rw [hwd] at hdi hda
      have HDa := Lib.hid (fun W hW => cday_any [a, b, wholeM 2, d, e] y m n W hW rfl)
      have HDb := Lib.hid (fun W hW => cday_any [a, b, c, d, wholeM 4] y m n W hW rfl)
      have HDi := Lib.hid (fun W hW => cday_any [a, b, c, d, e] y m n W hW rfl)
      rw [cronV_five, hda] at HDa
      rw [cronV_five, hdb] at HDb
      rw [cronV_five] at HDi
      unfold fiveV at HDa HDb HDi
      have hat : atZ [a, b, c, d, e] y m n h mi (t % 60) = (decide (t % 60 = 0) && (hasB a mi && (hasB b h && dayZ [a, b, c, d, e] y m n))) := rfl
      rw [hat] at HAt
      have HW2 := Lib.hid (fun W hW => whole_q 2 W hW (by omega))
      have HW4 := Lib.hid (fun W hW => whole_q 4 W hW (by omega))
      have HMo := Lib.hid (fun W => (has_any d m W).mono fun _ _ ⟨h, k⟩ => (⟨h, k.symm⟩ : _ ∧ _))
      have HWk := Lib.hid (fun W => (has_any e ((D.numZ y m n + 4) % 7) W).mono fun _ _ ⟨h, k⟩ => (⟨h, k.symm⟩ : _ ∧ _))
      have HDy := Lib.hid (fun W => (has_any c n W).mono fun _ _ ⟨h, k⟩ => (⟨h, k.symm⟩ : _ ∧ _))
      have HHo := Lib.hid (fun W => has_any b h W)
      have HMi := Lib.hid (fun W => has_any a mi W)
      generalize hasB d m = mo at *
      generalize hasB e ((D.numZ y m n + 4) % 7) = wk at *
      generalize hasB c n = dy at *
      generalize hasB b h = ho at *
      generalize hasB a mi = mn at *
      generalize dayZ [a, b, c, d, e] y m n = is at *
      generalize (D.numZ y m n + 4) % 7 = wd at *
      generalize hw2 : wholeM 2 = v2 at *
      generalize hw4 : wholeM 4 = v4 at *
      have HIs := Lib.hid hdi
      have htm : t.tmod 60 = 0 ↔ t % 60 = 0 := D.tmod_zero t 60
      have HTm := Lib.hid htm
      clear hda hdb hdi hat hwd hcr hs0 hnum hR hc hw2 hw4 htm
      generalize hsv : t % 60 = s at *
      go_enter Tryz.func7, Tryz.ntmps7
      go_wp2_with fail
      generalize w.alloc _ = w0 at *
      refine (cwakes_any w0 HL0.out).mono ?_
      rintro x w1 ⟨rfl, hb⟩
      have HB1 := Lib.hid (hb0.trans (hb.mono hb0.size)); have HC1 := Lib.hid (hc0.on hb); have HL1 := Lib.hid (HL0.out.on hb)
      clear hb hb0 hc0 HL0
      go_wp2_with fail
      refine (HTA.out _ HL1.out.days).mono ?_
      rintro x w2 ⟨rfl, hb⟩
      have HB2 := Lib.hid (HB1.out.trans (hb.mono HB1.out.size)); have HC2 := Lib.hid (HC1.out.on hb); have HL2 := Lib.hid (HL1.out.on hb)
      clear hb HB1 HC1 HL1
      go_wp2_with fail
      have hF : ∃ W : World, W = w2.alloc (.cells #[.int .i64 y, .int .i64 m, .int .i64 n, .int .i64 h, .int .i64 mi, .int .i64 s] 55) ∧ Below w.heap.size w W ∧ LaidC W ∧ CronAt W w.heap.size [a, b, c, d, e] ∧ D.Box W w2.heap.size 55 #[.int .i64 y, .int .i64 m, .int .i64 n, .int .i64 h, .int .i64 mi, .int .i64 s] ∧ w.heap.size < w2.heap.size :=
        ⟨_, rfl, HB2.out.alloc HB2.out.size _, HL2.out.on ((Below.refl _ w2).alloc (Nat.le_refl _) _), HC2.out.alloc _, D.Box.new _ _ _, HC2.out.lt⟩
      obtain ⟨w3, hw3, hb3, hl3, hc3, hx3, hlt3⟩ := hF
      rw [← hw3]
      have HB3 := Lib.hid hb3; have HL3 := Lib.hid hl3; have HC3 := Lib.hid hc3; have HX3 := Lib.hid hx3
      clear hw3 hb3 hl3 hc3 hx3 HB2 HC2 HL2
      refine (HTW.out _).mono ?_
      rintro x w3' ⟨rfl, rfl⟩
      obtain ⟨c0, c1, c2, c3, c4⟩ := HC3.out.five
      go_wp2_with fail
      refine (HK.out _ HL3.out.fld).mono ?_
      rintro x w4 ⟨rfl, hb⟩
      have HB4 := Lib.hid (HB3.out.trans (hb.mono HB3.out.size)); have HL4 := Lib.hid (HL3.out.on hb); have HC4 := Lib.hid (HC3.out.on hb); have HX4 := Lib.hid (D.Box.belowAll HX3.out hb)
      clear hb c0 c1 c2 c3 c4
      obtain ⟨c0, c1, c2, c3, c4⟩ := HC4.out.five
      have hgl4 := HC4.out.lt
      go_wp2_with fail
      go_region
      · have hF : ∃ (W : World) (g1 g2 : Nat), W = ((w4.alloc (.cells #[.int .u64 (U a), .int .u64 (U b), .int .u64 (U c), .int .u64 (U d), .int .u64 (U e)] 27)).alloc (.cells #[.int .u64 (U a), .int .u64 (U b), .int .u64 (U c), .int .u64 (U d), .int .u64 (U e)] 27)).drew ∧ w4.heap.size = g1 ∧ w4.heap.size + 1 = g2 ∧ Below w.heap.size w W ∧ LaidC W ∧ CronAt W w.heap.size [a, b, c, d, e] ∧ D.Box W w2.heap.size 55 #[.int .i64 y, .int .i64 m, .int .i64 n, .int .i64 h, .int .i64 mi, .int .i64 s] ∧ CronAt W g1 [a, b, c, d, e] ∧ CronAt W g2 [a, b, c, d, e] ∧ w.heap.size < g1 ∧ w2.heap.size < g1 := by
          have hal := (((Below.refl w4.heap.size w4).alloc (Nat.le_refl _) (.cells #[.int .u64 (U a), .int .u64 (U b), .int .u64 (U c), .int .u64 (U d), .int .u64 (U e)] 27)).alloc (by simp) (.cells #[.int .u64 (U a), .int .u64 (U b), .int .u64 (U c), .int .u64 (U d), .int .u64 (U e)] 27)).drew
          refine ⟨_, _, _, rfl, rfl, rfl, HB4.out.trans (hal.mono HB4.out.size), HL4.out.on hal, HC4.out.on hal, D.Box.belowAll HX4.out hal, CronAt.drew ((CronAt.new w4 a b c d e).alloc _), CronAt.drew ?_, HC4.out.lt, D.Box.lt HX4.out⟩
          have := CronAt.new (w4.alloc (.cells #[.int .u64 (U a), .int .u64 (U b), .int .u64 (U c), .int .u64 (U d), .int .u64 (U e)] 27)) a b c d e
          rwa [World.size_alloc] at this
        obtain ⟨w5, g1, g2, hw5, hg1, hg2, hb5, hl5, hc5, hx5, ha5, hg5, hlg, hlg2⟩ := hF
        simp only [hg2]
        simp only [hg1]
        rw [← hw5]
        have hg3 : g1 < g2 := by omega
        have HB5 := Lib.hid hb5; have HL5 := Lib.hid hl5; have HC5 := Lib.hid hc5; have HX5 := Lib.hid hx5; have HA5 := Lib.hid ha5; have HG5 := Lib.hid hg5
        clear hw5 hg1 hg2 hb5 hl5 hc5 hx5 ha5 hg5 HB4 HL4 HC4 HX4 hgl4
        have hg12 : ¬ g1 = g2 := by omega
        have hg21 : ¬ g2 = g1 := by omega
        clear c0 c1 c2 c3 c4
        go_wp2_with fail
        refine (HW2.out _ HL5.out.fld).mono ?_
        rintro x' w5a ⟨rfl, q2, rfl⟩
        have hb := bdrewN (Below.refl w5.heap.size w5) q2
        generalize w5.drewN q2 = w6 at *
        have HB6 := Lib.hid (HB5.out.trans (hb.mono HB5.out.size)); have HL6 := Lib.hid (HL5.out.on hb); have HC6 := Lib.hid (HC5.out.on hb); have HX6 := Lib.hid (D.Box.belowAll HX5.out hb); have HA6 := Lib.hid (HA5.out.on hb); have HG6 := Lib.hid (HG5.out.on hb)
        clear hb HB5 HL5 HC5 HX5 HA5 HG5
        go_wp2_with fail
        refine (HW4.out _ HL6.out.fld).mono ?_
        rintro x' w6a ⟨rfl, q4, rfl⟩
        have hb := bdrewN (Below.refl w6.heap.size w6) q4
        generalize w6.drewN q4 = w7 at *
        have HB7 := Lib.hid (HB6.out.trans (hb.mono HB6.out.size)); have HL7 := Lib.hid (HL6.out.on hb); have HC7 := Lib.hid (HC6.out.on hb); have HX7 := Lib.hid (D.Box.belowAll HX6.out hb); have HA7 := Lib.hid (HA6.out.on hb); have HG7 := Lib.hid (HG6.out.on hb)
        clear hb HB6 HL6 HC6 HX6 HA6 HG6
        obtain ⟨c0, c1, c2, c3, c4⟩ := HC7.out.five
        obtain ⟨p0, p1, p2, p3, p4⟩ := HA7.out.five
        obtain ⟨r0, r1, r2, r3, r4⟩ := HG7.out.five
        obtain ⟨x0, x1, x2, x3, x4, x5⟩ := civ_cells HX7.out
        have fa := HA7.out.frozen 2; have fb := HG7.out.frozen 4
        go_wp2_with fail
        clear fa fb c0 c1 c2 c3 c4 p0 p1 p2 p3 p4 r0 r1 r2 r3 r4 x0 x1 x2 x3 x4 x5
        have hF : ∃ W : World, W = (w7.setCell ⟨g1, 2, none⟩ (.int .u64 (U v2))).setCell ⟨g2, 4, none⟩ (.int .u64 (U v4)) ∧ Below w.heap.size w W ∧ CronAt W w.heap.size [a, b, c, d, e] ∧ D.Box W w2.heap.size 55 #[.int .i64 y, .int .i64 m, .int .i64 n, .int .i64 h, .int .i64 mi, .int .i64 s] ∧ CronAt W g1 [a, b, v2, d, e] ∧ CronAt W g2 [a, b, c, d, v4] :=
          ⟨_, rfl, (HB7.out.setCell (p := ⟨g1, 2, none⟩) (Nat.le_of_lt (by simp only; omega)) _).setCell (p := ⟨g2, 4, none⟩) (Nat.le_of_lt (by simp only; omega)) _, (HC7.out.far (Nat.ne_of_lt (by omega)) _).far (Nat.ne_of_lt (by omega)) _, D.Box.far (p := g2) (D.Box.far (p := g1) HX7.out (by omega) _) (by omega) _, CronAt.far (p := g2) (HA7.out.set 2 v2) (by omega) _, (CronAt.far (p := g1) HG7.out (by omega) _).set 4 v4⟩
        obtain ⟨w8, hw8, hb8, hc8, hx8, ha8, hg8⟩ := hF
        rw [← hw8]
        have HB8 := Lib.hid hb8; have HL8 := Lib.hid (HL.out.on hb8); have HC8 := Lib.hid hc8; have HX8 := Lib.hid hx8; have HA8 := Lib.hid ha8; have HG8 := Lib.hid hg8
        clear hw8 hb8 hc8 hx8 ha8 hg8 HB7 HL7 HC7 HX7 HA7 HG7
        obtain ⟨c0, c1, c2, c3, c4⟩ := HC8.out.five
        obtain ⟨p0, p1, p2, p3, p4⟩ := HA8.out.five
        obtain ⟨r0, r1, r2, r3, r4⟩ := HG8.out.five
        obtain ⟨x0, x1, x2, x3, x4, x5⟩ := civ_cells HX8.out
        go_quiet (first | (go_at_call 27; with_reducible exact Calls.quiet_of_same (HMo.out _)) | (go_at_call 27; with_reducible exact Calls.quiet_of_same (HWk.out _)) | (go_at_call 27; with_reducible exact Calls.quiet_of_same (HDy.out _)))
        have hb := bdrewN (Below.refl w8.heap.size w8) nq
        clear c0 c1 c2 c3 c4 p0 p1 p2 p3 p4 r0 r1 r2 r3 r4 x0 x1 x2 x3 x4 x5
        generalize w8.drewN nq = w9 at *
        have HB9 := Lib.hid (HB8.out.trans (hb.mono HB8.out.size)); have HL9 := Lib.hid (HL8.out.on hb); have HC9 := Lib.hid (HC8.out.on hb); have HX9 := Lib.hid (D.Box.belowAll HX8.out hb); have HA9 := Lib.hid (HA8.out.on hb); have HG9 := Lib.hid (HG8.out.on hb)
        clear hb HB8 HL8 HC8 HX8 HA8 HG8
        obtain ⟨c0, c1, c2, c3, c4⟩ := HC9.out.five
        obtain ⟨p0, p1, p2, p3, p4⟩ := HA9.out.five
        obtain ⟨r0, r1, r2, r3, r4⟩ := HG9.out.five
        obtain ⟨x0, x1, x2, x3, x4, x5⟩ := civ_cells HX9.out
        clear HMo HWk HDy HW2 HW4
        cases mo with
        | false =>
          simp only [Bool.false_and] at HDa HDb
          obtain rfl : is = false := HIs.out.trans (Bool.false_and _)
          go_wp2_with fail
          clear c0 c1 c2 c3 c4 p0 p1 p2 p3 p4 r0 r1 r2 r3 r4 x0 x1 x2 x3 x4 x5
          refine (HDa.out _ HL9.out).mono ?_
          rintro x' wk1 ⟨rfl, hb⟩
          have HBk1 := Lib.hid (HB9.out.trans (hb.mono HB9.out.size)); have HLk1 := Lib.hid (HL9.out.on hb); have HCk1 := Lib.hid (HC9.out.on hb); have HXk1 := Lib.hid (D.Box.belowAll HX9.out hb); have HAk1 := Lib.hid (HA9.out.on hb); have HGk1 := Lib.hid (HG9.out.on hb)
          clear hb HB9 HL9 HC9 HX9 HA9 HG9
          obtain ⟨c0, c1, c2, c3, c4⟩ := HCk1.out.five
          obtain ⟨p0, p1, p2, p3, p4⟩ := HAk1.out.five
          obtain ⟨r0, r1, r2, r3, r4⟩ := HGk1.out.five
          obtain ⟨x0, x1, x2, x3, x4, x5⟩ := civ_cells HXk1.out
          go_wp2_with fail
          clear c0 c1 c2 c3 c4 p0 p1 p2 p3 p4 r0 r1 r2 r3 r4 x0 x1 x2 x3 x4 x5
          refine (HDb.out _ HLk1.out).mono ?_
          rintro x' wk2 ⟨rfl, hb⟩
          have HBk2 := Lib.hid (HBk1.out.trans (hb.mono HBk1.out.size)); have HLk2 := Lib.hid (HLk1.out.on hb); have HCk2 := Lib.hid (HCk1.out.on hb); have HXk2 := Lib.hid (D.Box.belowAll HXk1.out hb); have HAk2 := Lib.hid (HAk1.out.on hb); have HGk2 := Lib.hid (HGk1.out.on hb)
          clear hb HBk1 HLk1 HCk1 HXk1 HAk1 HGk1
          obtain ⟨c0, c1, c2, c3, c4⟩ := HCk2.out.five
          obtain ⟨p0, p1, p2, p3, p4⟩ := HAk2.out.five
          obtain ⟨r0, r1, r2, r3, r4⟩ := HGk2.out.five
          obtain ⟨x0, x1, x2, x3, x4, x5⟩ := civ_cells HXk2.out
          go_wp2_with fail
          clear c0 c1 c2 c3 c4 p0 p1 p2 p3 p4 r0 r1 r2 r3 r4 x0 x1 x2 x3 x4 x5
          refine (HDi.out _ HLk2.out).mono ?_
          rintro x' wk3 ⟨rfl, hb⟩
          have HBk3 := Lib.hid (HBk2.out.trans (hb.mono HBk2.out.size)); have HLk3 := Lib.hid (HLk2.out.on hb); have HCk3 := Lib.hid (HCk2.out.on hb); have HXk3 := Lib.hid (D.Box.belowAll HXk2.out hb); have HAk3 := Lib.hid (HAk2.out.on hb); have HGk3 := Lib.hid (HGk2.out.on hb)
          clear hb HBk2 HLk2 HCk2 HXk2 HAk2 HGk2
          obtain ⟨c0, c1, c2, c3, c4⟩ := HCk3.out.five
          obtain ⟨p0, p1, p2, p3, p4⟩ := HAk3.out.five
          obtain ⟨r0, r1, r2, r3, r4⟩ := HGk3.out.five
          obtain ⟨x0, x1, x2, x3, x4, x5⟩ := civ_cells HXk3.out
          by_cases hc : c = v2
          · subst hc
            go_wp2_with fail
            clear c0 c1 c2 c3 c4 p0 p1 p2 p3 p4 r0 r1 r2 r3 r4 x0 x1 x2 x3 x4 x5
            have hv : (decide (s = 0) && (mn && (ho && false))) = false := by simp
            rw [hv] at HAt
            obtain ⟨c0, c1, c2, c3, c4⟩ := HCk3.out.five
            obtain ⟨p0, p1, p2, p3, p4⟩ := HAk3.out.five
            obtain ⟨r0, r1, r2, r3, r4⟩ := HGk3.out.five
            obtain ⟨x0, x1, x2, x3, x4, x5⟩ := civ_cells HXk3.out
            go_wp2_with fail
            refine (HAt.out _ HLk3.out).mono ?_
            rintro x' wk6 ⟨rfl, hb⟩
            have HBk6 := Lib.hid (HBk3.out.trans (hb.mono HBk3.out.size)); have HLk6 := Lib.hid (HLk3.out.on hb); have HCk6 := Lib.hid (HCk3.out.on hb); have HXk6 := Lib.hid (D.Box.belowAll HXk3.out hb); have HAk6 := Lib.hid (HAk3.out.on hb); have HGk6 := Lib.hid (HGk3.out.on hb)
            clear hb HBk3 HLk3 HCk3 HXk3 HAk3 HGk3
            go_wp2_with fail
            go_ret
            exact ⟨rfl, HBk6.out⟩
          · have uc : ¬ U c = U v2 := fun h => hc (U_inj.1 h)
            by_cases he : e = v4
            · subst he
              go_wp2_with fail
              clear c0 c1 c2 c3 c4 p0 p1 p2 p3 p4 r0 r1 r2 r3 r4 x0 x1 x2 x3 x4 x5
              have hv : (decide (s = 0) && (mn && (ho && false))) = false := by simp
              rw [hv] at HAt
              obtain ⟨c0, c1, c2, c3, c4⟩ := HCk3.out.five
              obtain ⟨p0, p1, p2, p3, p4⟩ := HAk3.out.five
              obtain ⟨r0, r1, r2, r3, r4⟩ := HGk3.out.five
              obtain ⟨x0, x1, x2, x3, x4, x5⟩ := civ_cells HXk3.out
              go_wp2_with fail
              refine (HAt.out _ HLk3.out).mono ?_
              rintro x' wk7 ⟨rfl, hb⟩
              have HBk7 := Lib.hid (HBk3.out.trans (hb.mono HBk3.out.size)); have HLk7 := Lib.hid (HLk3.out.on hb); have HCk7 := Lib.hid (HCk3.out.on hb); have HXk7 := Lib.hid (D.Box.belowAll HXk3.out hb); have HAk7 := Lib.hid (HAk3.out.on hb); have HGk7 := Lib.hid (HGk3.out.on hb)
              clear hb HBk3 HLk3 HCk3 HXk3 HAk3 HGk3
              go_wp2_with fail
              go_ret
              exact ⟨rfl, HBk7.out⟩
            · have ue : ¬ U e = U v4 := fun h => he (U_inj.1 h)
              go_wp2_with fail
              clear c0 c1 c2 c3 c4 p0 p1 p2 p3 p4 r0 r1 r2 r3 r4 x0 x1 x2 x3 x4 x5
              refine (HDa.out _ HLk3.out).mono ?_
              rintro x' wk4 ⟨rfl, hb⟩
              have HBk4 := Lib.hid (HBk3.out.trans (hb.mono HBk3.out.size)); have HLk4 := Lib.hid (HLk3.out.on hb); have HCk4 := Lib.hid (HCk3.out.on hb); have HXk4 := Lib.hid (D.Box.belowAll HXk3.out hb); have HAk4 := Lib.hid (HAk3.out.on hb); have HGk4 := Lib.hid (HGk3.out.on hb)
              clear hb HBk3 HLk3 HCk3 HXk3 HAk3 HGk3
              obtain ⟨c0, c1, c2, c3, c4⟩ := HCk4.out.five
              obtain ⟨p0, p1, p2, p3, p4⟩ := HAk4.out.five
              obtain ⟨r0, r1, r2, r3, r4⟩ := HGk4.out.five
              obtain ⟨x0, x1, x2, x3, x4, x5⟩ := civ_cells HXk4.out
              go_wp2_with fail
              clear c0 c1 c2 c3 c4 p0 p1 p2 p3 p4 r0 r1 r2 r3 r4 x0 x1 x2 x3 x4 x5
              refine (HDb.out _ HLk4.out).mono ?_
              rintro x' wk5 ⟨rfl, hb⟩
              have HBk5 := Lib.hid (HBk4.out.trans (hb.mono HBk4.out.size)); have HLk5 := Lib.hid (HLk4.out.on hb); have HCk5 := Lib.hid (HCk4.out.on hb); have HXk5 := Lib.hid (D.Box.belowAll HXk4.out hb); have HAk5 := Lib.hid (HAk4.out.on hb); have HGk5 := Lib.hid (HGk4.out.on hb)
              clear hb HBk4 HLk4 HCk4 HXk4 HAk4 HGk4
              obtain ⟨c0, c1, c2, c3, c4⟩ := HCk5.out.five
              obtain ⟨p0, p1, p2, p3, p4⟩ := HAk5.out.five
              obtain ⟨r0, r1, r2, r3, r4⟩ := HGk5.out.five
              obtain ⟨x0, x1, x2, x3, x4, x5⟩ := civ_cells HXk5.out
              go_wp2_with fail
              clear c0 c1 c2 c3 c4 p0 p1 p2 p3 p4 r0 r1 r2 r3 r4 x0 x1 x2 x3 x4 x5
              have hv : (decide (s = 0) && (mn && (ho && false))) = false := by simp
              rw [hv] at HAt
              obtain ⟨c0, c1, c2, c3, c4⟩ := HCk5.out.five
              obtain ⟨p0, p1, p2, p3, p4⟩ := HAk5.out.five
              obtain ⟨r0, r1, r2, r3, r4⟩ := HGk5.out.five
              obtain ⟨x0, x1, x2, x3, x4, x5⟩ := civ_cells HXk5.out
              go_wp2_with fail
              refine (HAt.out _ HLk5.out).mono ?_
              rintro x' wk8 ⟨rfl, hb⟩
              have HBk8 := Lib.hid (HBk5.out.trans (hb.mono HBk5.out.size)); have HLk8 := Lib.hid (HLk5.out.on hb); have HCk8 := Lib.hid (HCk5.out.on hb); have HXk8 := Lib.hid (D.Box.belowAll HXk5.out hb); have HAk8 := Lib.hid (HAk5.out.on hb); have HGk8 := Lib.hid (HGk5.out.on hb)
              clear hb HBk5 HLk5 HCk5 HXk5 HAk5 HGk5
              go_wp2_with fail
              go_ret
              exact ⟨rfl, HBk8.out⟩
        | true =>
          simp only [Bool.true_and] at HDa HDb HIs
          go_wp2_with fail
          clear c0 c1 c2 c3 c4 p0 p1 p2 p3 p4 r0 r1 r2 r3 r4 x0 x1 x2 x3 x4 x5
          refine (HDa.out _ HL9.out).mono ?_
          rintro x' wk9 ⟨rfl, hb⟩
          have HBk9 := Lib.hid (HB9.out.trans (hb.mono HB9.out.size)); have HLk9 := Lib.hid (HL9.out.on hb); have HCk9 := Lib.hid (HC9.out.on hb); have HXk9 := Lib.hid (D.Box.belowAll HX9.out hb); have HAk9 := Lib.hid (HA9.out.on hb); have HGk9 := Lib.hid (HG9.out.on hb)
          clear hb HB9 HL9 HC9 HX9 HA9 HG9
          obtain ⟨c0, c1, c2, c3, c4⟩ := HCk9.out.five
          obtain ⟨p0, p1, p2, p3, p4⟩ := HAk9.out.five
          obtain ⟨r0, r1, r2, r3, r4⟩ := HGk9.out.five
          obtain ⟨x0, x1, x2, x3, x4, x5⟩ := civ_cells HXk9.out
          go_wp2_with fail
          clear c0 c1 c2 c3 c4 p0 p1 p2 p3 p4 r0 r1 r2 r3 r4 x0 x1 x2 x3 x4 x5
          refine (HDb.out _ HLk9.out).mono ?_
          rintro x' wk10 ⟨rfl, hb⟩
          have HBk10 := Lib.hid (HBk9.out.trans (hb.mono HBk9.out.size)); have HLk10 := Lib.hid (HLk9.out.on hb); have HCk10 := Lib.hid (HCk9.out.on hb); have HXk10 := Lib.hid (D.Box.belowAll HXk9.out hb); have HAk10 := Lib.hid (HAk9.out.on hb); have HGk10 := Lib.hid (HGk9.out.on hb)
          clear hb HBk9 HLk9 HCk9 HXk9 HAk9 HGk9
          obtain ⟨c0, c1, c2, c3, c4⟩ := HCk10.out.five
          obtain ⟨p0, p1, p2, p3, p4⟩ := HAk10.out.five
          obtain ⟨r0, r1, r2, r3, r4⟩ := HGk10.out.five
          obtain ⟨x0, x1, x2, x3, x4, x5⟩ := civ_cells HXk10.out
          go_wp2_with fail
          clear c0 c1 c2 c3 c4 p0 p1 p2 p3 p4 r0 r1 r2 r3 r4 x0 x1 x2 x3 x4 x5
          refine (HDi.out _ HLk10.out).mono ?_
          rintro x' wk11 ⟨rfl, hb⟩
          have HBk11 := Lib.hid (HBk10.out.trans (hb.mono HBk10.out.size)); have HLk11 := Lib.hid (HLk10.out.on hb); have HCk11 := Lib.hid (HCk10.out.on hb); have HXk11 := Lib.hid (D.Box.belowAll HXk10.out hb); have HAk11 := Lib.hid (HAk10.out.on hb); have HGk11 := Lib.hid (HGk10.out.on hb)
          clear hb HBk10 HLk10 HCk10 HXk10 HAk10 HGk10
          obtain ⟨c0, c1, c2, c3, c4⟩ := HCk11.out.five
          obtain ⟨p0, p1, p2, p3, p4⟩ := HAk11.out.five
          obtain ⟨r0, r1, r2, r3, r4⟩ := HGk11.out.five
          obtain ⟨x0, x1, x2, x3, x4, x5⟩ := civ_cells HXk11.out
          by_cases hc : c = v2
          · subst hc
            obtain rfl : is = wk := HIs.out.trans (if_pos rfl)
            cases is with
            | false =>
              go_wp2_with fail
              clear c0 c1 c2 c3 c4 p0 p1 p2 p3 p4 r0 r1 r2 r3 r4 x0 x1 x2 x3 x4 x5
              have hv : (decide (s = 0) && (mn && (ho && false))) = false := by simp
              rw [hv] at HAt
              obtain ⟨c0, c1, c2, c3, c4⟩ := HCk11.out.five
              obtain ⟨p0, p1, p2, p3, p4⟩ := HAk11.out.five
              obtain ⟨r0, r1, r2, r3, r4⟩ := HGk11.out.five
              obtain ⟨x0, x1, x2, x3, x4, x5⟩ := civ_cells HXk11.out
              go_wp2_with fail
              refine (HAt.out _ HLk11.out).mono ?_
              rintro x' wk17 ⟨rfl, hb⟩
              have HBk17 := Lib.hid (HBk11.out.trans (hb.mono HBk11.out.size)); have HLk17 := Lib.hid (HLk11.out.on hb); have HCk17 := Lib.hid (HCk11.out.on hb); have HXk17 := Lib.hid (D.Box.belowAll HXk11.out hb); have HAk17 := Lib.hid (HAk11.out.on hb); have HGk17 := Lib.hid (HGk11.out.on hb)
              clear hb HBk11 HLk11 HCk11 HXk11 HAk11 HGk11
              go_wp2_with fail
              go_ret
              exact ⟨rfl, HBk17.out⟩
            | true =>
              go_wp2_with fail
              clear c0 c1 c2 c3 c4 p0 p1 p2 p3 p4 r0 r1 r2 r3 r4 x0 x1 x2 x3 x4 x5
              obtain ⟨c0, c1, c2, c3, c4⟩ := HCk11.out.five
              obtain ⟨p0, p1, p2, p3, p4⟩ := HAk11.out.five
              obtain ⟨r0, r1, r2, r3, r4⟩ := HGk11.out.five
              obtain ⟨x0, x1, x2, x3, x4, x5⟩ := civ_cells HXk11.out
              go_wp2_with fail
              clear c0 c1 c2 c3 c4 p0 p1 p2 p3 p4 r0 r1 r2 r3 r4 x0 x1 x2 x3 x4 x5
              by_cases hs : s = 0
              · have q2 : t % 60 = 0 := hsv.trans hs
                have q1 : t.tmod 60 = 0 := HTm.out.2 hs
                rw [decide_eq_true hs, Bool.true_and, Bool.and_true] at HAt
                clear hs
                cases ho with
                | false =>
                  rw [Bool.and_false] at HAt
                  refine (HAt.out _ HLk11.out).mono ?_
                  rintro x' wk18 ⟨rfl, hb⟩
                  have HBk18 := Lib.hid (HBk11.out.trans (hb.mono HBk11.out.size)); have HLk18 := Lib.hid (HLk11.out.on hb); have HCk18 := Lib.hid (HCk11.out.on hb); have HXk18 := Lib.hid (D.Box.belowAll HXk11.out hb); have HAk18 := Lib.hid (HAk11.out.on hb); have HGk18 := Lib.hid (HGk11.out.on hb)
                  clear hb HBk11 HLk11 HCk11 HXk11 HAk11 HGk11
                  obtain ⟨c0, c1, c2, c3, c4⟩ := HCk18.out.five
                  obtain ⟨p0, p1, p2, p3, p4⟩ := HAk18.out.five
                  obtain ⟨r0, r1, r2, r3, r4⟩ := HGk18.out.five
                  obtain ⟨x0, x1, x2, x3, x4, x5⟩ := civ_cells HXk18.out
                  go_wp2_with fail
                  refine (HHo.out _).mono ?_
                  rintro x' wq ⟨rfl, rfl⟩
                  go_wp2_with fail
                  go_ret
                  exact ⟨rfl, HBk18.out⟩
                | true =>
                  rw [Bool.and_true] at HAt
                  refine (HAt.out _ HLk11.out).mono ?_
                  rintro x' wk18 ⟨rfl, hb⟩
                  have HBk18 := Lib.hid (HBk11.out.trans (hb.mono HBk11.out.size)); have HLk18 := Lib.hid (HLk11.out.on hb); have HCk18 := Lib.hid (HCk11.out.on hb); have HXk18 := Lib.hid (D.Box.belowAll HXk11.out hb); have HAk18 := Lib.hid (HAk11.out.on hb); have HGk18 := Lib.hid (HGk11.out.on hb)
                  clear hb HBk11 HLk11 HCk11 HXk11 HAk11 HGk11
                  obtain ⟨c0, c1, c2, c3, c4⟩ := HCk18.out.five
                  obtain ⟨p0, p1, p2, p3, p4⟩ := HAk18.out.five
                  obtain ⟨r0, r1, r2, r3, r4⟩ := HGk18.out.five
                  obtain ⟨x0, x1, x2, x3, x4, x5⟩ := civ_cells HXk18.out
                  go_wp2_with fail
                  refine (HHo.out _).mono ?_
                  rintro x' wq ⟨rfl, rfl⟩
                  go_wp2_with fail
                  refine (HMi.out _).mono ?_
                  rintro x' wq ⟨rfl, rfl⟩
                  cases mn <;>
                    (go_wp2_with fail
                     go_ret
                     exact ⟨rfl, HBk18.out⟩)
              · have q2 : ¬ t % 60 = 0 := fun h => hs (hsv.symm.trans h)
                have q1 : ¬ t.tmod 60 = 0 := fun h => hs (HTm.out.1 h)
                have q3 : (t % 60 == 0) = false := by rw [beq_eq_false_iff_ne]; exact q2
                have q4 : (t.tmod 60 == 0) = false := by rw [beq_eq_false_iff_ne]; exact q1
                rw [decide_eq_false hs, Bool.false_and] at HAt
                clear hs
                refine (HAt.out _ HLk11.out).mono ?_
                rintro x' wk18 ⟨rfl, hb⟩
                have HBk18 := Lib.hid (HBk11.out.trans (hb.mono HBk11.out.size)); have HLk18 := Lib.hid (HLk11.out.on hb); have HCk18 := Lib.hid (HCk11.out.on hb); have HXk18 := Lib.hid (D.Box.belowAll HXk11.out hb); have HAk18 := Lib.hid (HAk11.out.on hb); have HGk18 := Lib.hid (HGk11.out.on hb)
                clear hb HBk11 HLk11 HCk11 HXk11 HAk11 HGk11
                go_wp2_with fail
                go_ret
                exact ⟨rfl, HBk18.out⟩
          · have uc : ¬ U c = U v2 := fun h => hc (U_inj.1 h)
            by_cases he : e = v4
            · subst he
              obtain rfl : is = dy := HIs.out.trans ((if_neg hc).trans (if_pos rfl))
              cases is with
              | false =>
                go_wp2_with fail
                clear c0 c1 c2 c3 c4 p0 p1 p2 p3 p4 r0 r1 r2 r3 r4 x0 x1 x2 x3 x4 x5
                have hv : (decide (s = 0) && (mn && (ho && false))) = false := by simp
                rw [hv] at HAt
                obtain ⟨c0, c1, c2, c3, c4⟩ := HCk11.out.five
                obtain ⟨p0, p1, p2, p3, p4⟩ := HAk11.out.five
                obtain ⟨r0, r1, r2, r3, r4⟩ := HGk11.out.five
                obtain ⟨x0, x1, x2, x3, x4, x5⟩ := civ_cells HXk11.out
                go_wp2_with fail
                refine (HAt.out _ HLk11.out).mono ?_
                rintro x' wk19 ⟨rfl, hb⟩
                have HBk19 := Lib.hid (HBk11.out.trans (hb.mono HBk11.out.size)); have HLk19 := Lib.hid (HLk11.out.on hb); have HCk19 := Lib.hid (HCk11.out.on hb); have HXk19 := Lib.hid (D.Box.belowAll HXk11.out hb); have HAk19 := Lib.hid (HAk11.out.on hb); have HGk19 := Lib.hid (HGk11.out.on hb)
                clear hb HBk11 HLk11 HCk11 HXk11 HAk11 HGk11
                go_wp2_with fail
                go_ret
                exact ⟨rfl, HBk19.out⟩
              | true =>
                go_wp2_with fail
                clear c0 c1 c2 c3 c4 p0 p1 p2 p3 p4 r0 r1 r2 r3 r4 x0 x1 x2 x3 x4 x5
                obtain ⟨c0, c1, c2, c3, c4⟩ := HCk11.out.five
                obtain ⟨p0, p1, p2, p3, p4⟩ := HAk11.out.five
                obtain ⟨r0, r1, r2, r3, r4⟩ := HGk11.out.five
                obtain ⟨x0, x1, x2, x3, x4, x5⟩ := civ_cells HXk11.out
                go_wp2_with fail
                clear c0 c1 c2 c3 c4 p0 p1 p2 p3 p4 r0 r1 r2 r3 r4 x0 x1 x2 x3 x4 x5
                by_cases hs : s = 0
                · have q2 : t % 60 = 0 := hsv.trans hs
                  have q1 : t.tmod 60 = 0 := HTm.out.2 hs
                  rw [decide_eq_true hs, Bool.true_and, Bool.and_true] at HAt
                  clear hs
                  cases ho with
                  | false =>
                    rw [Bool.and_false] at HAt
                    refine (HAt.out _ HLk11.out).mono ?_
                    rintro x' wk20 ⟨rfl, hb⟩
                    have HBk20 := Lib.hid (HBk11.out.trans (hb.mono HBk11.out.size)); have HLk20 := Lib.hid (HLk11.out.on hb); have HCk20 := Lib.hid (HCk11.out.on hb); have HXk20 := Lib.hid (D.Box.belowAll HXk11.out hb); have HAk20 := Lib.hid (HAk11.out.on hb); have HGk20 := Lib.hid (HGk11.out.on hb)
                    clear hb HBk11 HLk11 HCk11 HXk11 HAk11 HGk11
                    obtain ⟨c0, c1, c2, c3, c4⟩ := HCk20.out.five
                    obtain ⟨p0, p1, p2, p3, p4⟩ := HAk20.out.five
                    obtain ⟨r0, r1, r2, r3, r4⟩ := HGk20.out.five
                    obtain ⟨x0, x1, x2, x3, x4, x5⟩ := civ_cells HXk20.out
                    go_wp2_with fail
                    refine (HHo.out _).mono ?_
                    rintro x' wq ⟨rfl, rfl⟩
                    go_wp2_with fail
                    go_ret
                    exact ⟨rfl, HBk20.out⟩
                  | true =>
                    rw [Bool.and_true] at HAt
                    refine (HAt.out _ HLk11.out).mono ?_
                    rintro x' wk20 ⟨rfl, hb⟩
                    have HBk20 := Lib.hid (HBk11.out.trans (hb.mono HBk11.out.size)); have HLk20 := Lib.hid (HLk11.out.on hb); have HCk20 := Lib.hid (HCk11.out.on hb); have HXk20 := Lib.hid (D.Box.belowAll HXk11.out hb); have HAk20 := Lib.hid (HAk11.out.on hb); have HGk20 := Lib.hid (HGk11.out.on hb)
                    clear hb HBk11 HLk11 HCk11 HXk11 HAk11 HGk11
                    obtain ⟨c0, c1, c2, c3, c4⟩ := HCk20.out.five
                    obtain ⟨p0, p1, p2, p3, p4⟩ := HAk20.out.five
                    obtain ⟨r0, r1, r2, r3, r4⟩ := HGk20.out.five
                    obtain ⟨x0, x1, x2, x3, x4, x5⟩ := civ_cells HXk20.out
                    go_wp2_with fail
                    refine (HHo.out _).mono ?_
                    rintro x' wq ⟨rfl, rfl⟩
                    go_wp2_with fail
                    refine (HMi.out _).mono ?_
                    rintro x' wq ⟨rfl, rfl⟩
                    cases mn <;>
                      (go_wp2_with fail
                       go_ret
                       exact ⟨rfl, HBk20.out⟩)
                · have q2 : ¬ t % 60 = 0 := fun h => hs (hsv.symm.trans h)
                  have q1 : ¬ t.tmod 60 = 0 := fun h => hs (HTm.out.1 h)
                  have q3 : (t % 60 == 0) = false := by rw [beq_eq_false_iff_ne]; exact q2
                  have q4 : (t.tmod 60 == 0) = false := by rw [beq_eq_false_iff_ne]; exact q1
                  rw [decide_eq_false hs, Bool.false_and] at HAt
                  clear hs
                  refine (HAt.out _ HLk11.out).mono ?_
                  rintro x' wk20 ⟨rfl, hb⟩
                  have HBk20 := Lib.hid (HBk11.out.trans (hb.mono HBk11.out.size)); have HLk20 := Lib.hid (HLk11.out.on hb); have HCk20 := Lib.hid (HCk11.out.on hb); have HXk20 := Lib.hid (D.Box.belowAll HXk11.out hb); have HAk20 := Lib.hid (HAk11.out.on hb); have HGk20 := Lib.hid (HGk11.out.on hb)
                  clear hb HBk11 HLk11 HCk11 HXk11 HAk11 HGk11
                  go_wp2_with fail
                  go_ret
                  exact ⟨rfl, HBk20.out⟩
            · have hi := HIs.out.trans ((if_neg hc).trans (if_neg he))
              have ue : ¬ U e = U v4 := fun h => he (U_inj.1 h)
              cases wk with
              | false =>
                cases dy with
                | false =>
                  obtain rfl : is = false := hi
                  go_wp2_with fail
                  clear c0 c1 c2 c3 c4 p0 p1 p2 p3 p4 r0 r1 r2 r3 r4 x0 x1 x2 x3 x4 x5
                  refine (HDa.out _ HLk11.out).mono ?_
                  rintro x' wk13 ⟨rfl, hb⟩
                  have HBk13 := Lib.hid (HBk11.out.trans (hb.mono HBk11.out.size)); have HLk13 := Lib.hid (HLk11.out.on hb); have HCk13 := Lib.hid (HCk11.out.on hb); have HXk13 := Lib.hid (D.Box.belowAll HXk11.out hb); have HAk13 := Lib.hid (HAk11.out.on hb); have HGk13 := Lib.hid (HGk11.out.on hb)
                  clear hb HBk11 HLk11 HCk11 HXk11 HAk11 HGk11
                  obtain ⟨c0, c1, c2, c3, c4⟩ := HCk13.out.five
                  obtain ⟨p0, p1, p2, p3, p4⟩ := HAk13.out.five
                  obtain ⟨r0, r1, r2, r3, r4⟩ := HGk13.out.five
                  obtain ⟨x0, x1, x2, x3, x4, x5⟩ := civ_cells HXk13.out
                  go_wp2_with fail
                  clear c0 c1 c2 c3 c4 p0 p1 p2 p3 p4 r0 r1 r2 r3 r4 x0 x1 x2 x3 x4 x5
                  refine (HDb.out _ HLk13.out).mono ?_
                  rintro x' wk14 ⟨rfl, hb⟩
                  have HBk14 := Lib.hid (HBk13.out.trans (hb.mono HBk13.out.size)); have HLk14 := Lib.hid (HLk13.out.on hb); have HCk14 := Lib.hid (HCk13.out.on hb); have HXk14 := Lib.hid (D.Box.belowAll HXk13.out hb); have HAk14 := Lib.hid (HAk13.out.on hb); have HGk14 := Lib.hid (HGk13.out.on hb)
                  clear hb HBk13 HLk13 HCk13 HXk13 HAk13 HGk13
                  obtain ⟨c0, c1, c2, c3, c4⟩ := HCk14.out.five
                  obtain ⟨p0, p1, p2, p3, p4⟩ := HAk14.out.five
                  obtain ⟨r0, r1, r2, r3, r4⟩ := HGk14.out.five
                  obtain ⟨x0, x1, x2, x3, x4, x5⟩ := civ_cells HXk14.out
                  go_wp2_with fail
                  clear c0 c1 c2 c3 c4 p0 p1 p2 p3 p4 r0 r1 r2 r3 r4 x0 x1 x2 x3 x4 x5
                  have hv : (decide (s = 0) && (mn && (ho && false))) = false := by simp
                  rw [hv] at HAt
                  obtain ⟨c0, c1, c2, c3, c4⟩ := HCk14.out.five
                  obtain ⟨p0, p1, p2, p3, p4⟩ := HAk14.out.five
                  obtain ⟨r0, r1, r2, r3, r4⟩ := HGk14.out.five
                  obtain ⟨x0, x1, x2, x3, x4, x5⟩ := civ_cells HXk14.out
                  go_wp2_with fail
                  refine (HAt.out _ HLk14.out).mono ?_
                  rintro x' wk21 ⟨rfl, hb⟩
                  have HBk21 := Lib.hid (HBk14.out.trans (hb.mono HBk14.out.size)); have HLk21 := Lib.hid (HLk14.out.on hb); have HCk21 := Lib.hid (HCk14.out.on hb); have HXk21 := Lib.hid (D.Box.belowAll HXk14.out hb); have HAk21 := Lib.hid (HAk14.out.on hb); have HGk21 := Lib.hid (HGk14.out.on hb)
                  clear hb HBk14 HLk14 HCk14 HXk14 HAk14 HGk14
                  go_wp2_with fail
                  go_ret
                  exact ⟨rfl, HBk21.out⟩
                | true =>
                  obtain rfl : is = true := hi
                  go_wp2_with fail
                  clear c0 c1 c2 c3 c4 p0 p1 p2 p3 p4 r0 r1 r2 r3 r4 x0 x1 x2 x3 x4 x5
                  refine (HDa.out _ HLk11.out).mono ?_
                  rintro x' wk15 ⟨rfl, hb⟩
                  have HBk15 := Lib.hid (HBk11.out.trans (hb.mono HBk11.out.size)); have HLk15 := Lib.hid (HLk11.out.on hb); have HCk15 := Lib.hid (HCk11.out.on hb); have HXk15 := Lib.hid (D.Box.belowAll HXk11.out hb); have HAk15 := Lib.hid (HAk11.out.on hb); have HGk15 := Lib.hid (HGk11.out.on hb)
                  clear hb HBk11 HLk11 HCk11 HXk11 HAk11 HGk11
                  obtain ⟨c0, c1, c2, c3, c4⟩ := HCk15.out.five
                  obtain ⟨p0, p1, p2, p3, p4⟩ := HAk15.out.five
                  obtain ⟨r0, r1, r2, r3, r4⟩ := HGk15.out.five
                  obtain ⟨x0, x1, x2, x3, x4, x5⟩ := civ_cells HXk15.out
                  go_wp2_with fail
                  clear c0 c1 c2 c3 c4 p0 p1 p2 p3 p4 r0 r1 r2 r3 r4 x0 x1 x2 x3 x4 x5
                  refine (HDb.out _ HLk15.out).mono ?_
                  rintro x' wk16 ⟨rfl, hb⟩
                  have HBk16 := Lib.hid (HBk15.out.trans (hb.mono HBk15.out.size)); have HLk16 := Lib.hid (HLk15.out.on hb); have HCk16 := Lib.hid (HCk15.out.on hb); have HXk16 := Lib.hid (D.Box.belowAll HXk15.out hb); have HAk16 := Lib.hid (HAk15.out.on hb); have HGk16 := Lib.hid (HGk15.out.on hb)
                  clear hb HBk15 HLk15 HCk15 HXk15 HAk15 HGk15
                  obtain ⟨c0, c1, c2, c3, c4⟩ := HCk16.out.five
                  obtain ⟨p0, p1, p2, p3, p4⟩ := HAk16.out.five
                  obtain ⟨r0, r1, r2, r3, r4⟩ := HGk16.out.five
                  obtain ⟨x0, x1, x2, x3, x4, x5⟩ := civ_cells HXk16.out
                  go_wp2_with fail
                  clear c0 c1 c2 c3 c4 p0 p1 p2 p3 p4 r0 r1 r2 r3 r4 x0 x1 x2 x3 x4 x5
                  obtain ⟨c0, c1, c2, c3, c4⟩ := HCk16.out.five
                  obtain ⟨p0, p1, p2, p3, p4⟩ := HAk16.out.five
                  obtain ⟨r0, r1, r2, r3, r4⟩ := HGk16.out.five
                  obtain ⟨x0, x1, x2, x3, x4, x5⟩ := civ_cells HXk16.out
                  go_wp2_with fail
                  clear c0 c1 c2 c3 c4 p0 p1 p2 p3 p4 r0 r1 r2 r3 r4 x0 x1 x2 x3 x4 x5
                  by_cases hs : s = 0
                  · have q2 : t % 60 = 0 := hsv.trans hs
                    have q1 : t.tmod 60 = 0 := HTm.out.2 hs
                    rw [decide_eq_true hs, Bool.true_and, Bool.and_true] at HAt
                    clear hs
                    cases ho with
                    | false =>
                      rw [Bool.and_false] at HAt
                      refine (HAt.out _ HLk16.out).mono ?_
                      rintro x' wk22 ⟨rfl, hb⟩
                      have HBk22 := Lib.hid (HBk16.out.trans (hb.mono HBk16.out.size)); have HLk22 := Lib.hid (HLk16.out.on hb); have HCk22 := Lib.hid (HCk16.out.on hb); have HXk22 := Lib.hid (D.Box.belowAll HXk16.out hb); have HAk22 := Lib.hid (HAk16.out.on hb); have HGk22 := Lib.hid (HGk16.out.on hb)
                      clear hb HBk16 HLk16 HCk16 HXk16 HAk16 HGk16
                      obtain ⟨c0, c1, c2, c3, c4⟩ := HCk22.out.five
                      obtain ⟨p0, p1, p2, p3, p4⟩ := HAk22.out.five
                      obtain ⟨r0, r1, r2, r3, r4⟩ := HGk22.out.five
                      obtain ⟨x0, x1, x2, x3, x4, x5⟩ := civ_cells HXk22.out
                      go_wp2_with fail
                      refine (HHo.out _).mono ?_
                      rintro x' wq ⟨rfl, rfl⟩
                      go_wp2_with fail
                      go_ret
                      exact ⟨rfl, HBk22.out⟩
                    | true =>
                      rw [Bool.and_true] at HAt
                      refine (HAt.out _ HLk16.out).mono ?_
                      rintro x' wk22 ⟨rfl, hb⟩
                      have HBk22 := Lib.hid (HBk16.out.trans (hb.mono HBk16.out.size)); have HLk22 := Lib.hid (HLk16.out.on hb); have HCk22 := Lib.hid (HCk16.out.on hb); have HXk22 := Lib.hid (D.Box.belowAll HXk16.out hb); have HAk22 := Lib.hid (HAk16.out.on hb); have HGk22 := Lib.hid (HGk16.out.on hb)
                      clear hb HBk16 HLk16 HCk16 HXk16 HAk16 HGk16
                      obtain ⟨c0, c1, c2, c3, c4⟩ := HCk22.out.five
                      obtain ⟨p0, p1, p2, p3, p4⟩ := HAk22.out.five
                      obtain ⟨r0, r1, r2, r3, r4⟩ := HGk22.out.five
                      obtain ⟨x0, x1, x2, x3, x4, x5⟩ := civ_cells HXk22.out
                      go_wp2_with fail
                      refine (HHo.out _).mono ?_
                      rintro x' wq ⟨rfl, rfl⟩
                      go_wp2_with fail
                      refine (HMi.out _).mono ?_
                      rintro x' wq ⟨rfl, rfl⟩
                      cases mn <;>
                        (go_wp2_with fail
                         go_ret
                         exact ⟨rfl, HBk22.out⟩)
                  · have q2 : ¬ t % 60 = 0 := fun h => hs (hsv.symm.trans h)
                    have q1 : ¬ t.tmod 60 = 0 := fun h => hs (HTm.out.1 h)
                    have q3 : (t % 60 == 0) = false := by rw [beq_eq_false_iff_ne]; exact q2
                    have q4 : (t.tmod 60 == 0) = false := by rw [beq_eq_false_iff_ne]; exact q1
                    rw [decide_eq_false hs, Bool.false_and] at HAt
                    clear hs
                    refine (HAt.out _ HLk16.out).mono ?_
                    rintro x' wk22 ⟨rfl, hb⟩
                    have HBk22 := Lib.hid (HBk16.out.trans (hb.mono HBk16.out.size)); have HLk22 := Lib.hid (HLk16.out.on hb); have HCk22 := Lib.hid (HCk16.out.on hb); have HXk22 := Lib.hid (D.Box.belowAll HXk16.out hb); have HAk22 := Lib.hid (HAk16.out.on hb); have HGk22 := Lib.hid (HGk16.out.on hb)
                    clear hb HBk16 HLk16 HCk16 HXk16 HAk16 HGk16
                    go_wp2_with fail
                    go_ret
                    exact ⟨rfl, HBk22.out⟩
              | true =>
                obtain rfl : is = true := hi.trans (Bool.or_true _)
                clear hi
                go_wp2_with fail
                clear c0 c1 c2 c3 c4 p0 p1 p2 p3 p4 r0 r1 r2 r3 r4 x0 x1 x2 x3 x4 x5
                refine (HDa.out _ HLk11.out).mono ?_
                rintro x' wk12 ⟨rfl, hb⟩
                have HBk12 := Lib.hid (HBk11.out.trans (hb.mono HBk11.out.size)); have HLk12 := Lib.hid (HLk11.out.on hb); have HCk12 := Lib.hid (HCk11.out.on hb); have HXk12 := Lib.hid (D.Box.belowAll HXk11.out hb); have HAk12 := Lib.hid (HAk11.out.on hb); have HGk12 := Lib.hid (HGk11.out.on hb)
                clear hb HBk11 HLk11 HCk11 HXk11 HAk11 HGk11
                obtain ⟨c0, c1, c2, c3, c4⟩ := HCk12.out.five
                obtain ⟨p0, p1, p2, p3, p4⟩ := HAk12.out.five
                obtain ⟨r0, r1, r2, r3, r4⟩ := HGk12.out.five
                obtain ⟨x0, x1, x2, x3, x4, x5⟩ := civ_cells HXk12.out
                go_wp2_with fail
                clear c0 c1 c2 c3 c4 p0 p1 p2 p3 p4 r0 r1 r2 r3 r4 x0 x1 x2 x3 x4 x5
                obtain ⟨c0, c1, c2, c3, c4⟩ := HCk12.out.five
                obtain ⟨p0, p1, p2, p3, p4⟩ := HAk12.out.five
                obtain ⟨r0, r1, r2, r3, r4⟩ := HGk12.out.five
                obtain ⟨x0, x1, x2, x3, x4, x5⟩ := civ_cells HXk12.out
                go_wp2_with fail
                clear c0 c1 c2 c3 c4 p0 p1 p2 p3 p4 r0 r1 r2 r3 r4 x0 x1 x2 x3 x4 x5
                by_cases hs : s = 0
                · have q2 : t % 60 = 0 := hsv.trans hs
                  have q1 : t.tmod 60 = 0 := HTm.out.2 hs
                  rw [decide_eq_true hs, Bool.true_and, Bool.and_true] at HAt
                  clear hs
                  cases ho with
                  | false =>
                    rw [Bool.and_false] at HAt
                    refine (HAt.out _ HLk12.out).mono ?_
                    rintro x' wk23 ⟨rfl, hb⟩
                    have HBk23 := Lib.hid (HBk12.out.trans (hb.mono HBk12.out.size)); have HLk23 := Lib.hid (HLk12.out.on hb); have HCk23 := Lib.hid (HCk12.out.on hb); have HXk23 := Lib.hid (D.Box.belowAll HXk12.out hb); have HAk23 := Lib.hid (HAk12.out.on hb); have HGk23 := Lib.hid (HGk12.out.on hb)
                    clear hb HBk12 HLk12 HCk12 HXk12 HAk12 HGk12
                    obtain ⟨c0, c1, c2, c3, c4⟩ := HCk23.out.five
                    obtain ⟨p0, p1, p2, p3, p4⟩ := HAk23.out.five
                    obtain ⟨r0, r1, r2, r3, r4⟩ := HGk23.out.five
                    obtain ⟨x0, x1, x2, x3, x4, x5⟩ := civ_cells HXk23.out
                    go_wp2_with fail
                    refine (HHo.out _).mono ?_
                    rintro x' wq ⟨rfl, rfl⟩
                    go_wp2_with fail
                    go_ret
                    exact ⟨rfl, HBk23.out⟩
                  | true =>
                    rw [Bool.and_true] at HAt
                    refine (HAt.out _ HLk12.out).mono ?_
                    rintro x' wk23 ⟨rfl, hb⟩
                    have HBk23 := Lib.hid (HBk12.out.trans (hb.mono HBk12.out.size)); have HLk23 := Lib.hid (HLk12.out.on hb); have HCk23 := Lib.hid (HCk12.out.on hb); have HXk23 := Lib.hid (D.Box.belowAll HXk12.out hb); have HAk23 := Lib.hid (HAk12.out.on hb); have HGk23 := Lib.hid (HGk12.out.on hb)
                    clear hb HBk12 HLk12 HCk12 HXk12 HAk12 HGk12
                    obtain ⟨c0, c1, c2, c3, c4⟩ := HCk23.out.five
                    obtain ⟨p0, p1, p2, p3, p4⟩ := HAk23.out.five
                    obtain ⟨r0, r1, r2, r3, r4⟩ := HGk23.out.five
                    obtain ⟨x0, x1, x2, x3, x4, x5⟩ := civ_cells HXk23.out
                    go_wp2_with fail
                    refine (HHo.out _).mono ?_
                    rintro x' wq ⟨rfl, rfl⟩
                    go_wp2_with fail
                    refine (HMi.out _).mono ?_
                    rintro x' wq ⟨rfl, rfl⟩
                    cases mn <;>
                      (go_wp2_with fail
                       go_ret
                       exact ⟨rfl, HBk23.out⟩)
                · have q2 : ¬ t % 60 = 0 := fun h => hs (hsv.symm.trans h)
                  have q1 : ¬ t.tmod 60 = 0 := fun h => hs (HTm.out.1 h)
                  have q3 : (t % 60 == 0) = false := by rw [beq_eq_false_iff_ne]; exact q2
                  have q4 : (t.tmod 60 == 0) = false := by rw [beq_eq_false_iff_ne]; exact q1
                  rw [decide_eq_false hs, Bool.false_and] at HAt
                  clear hs
                  refine (HAt.out _ HLk12.out).mono ?_
                  rintro x' wk23 ⟨rfl, hb⟩
                  have HBk23 := Lib.hid (HBk12.out.trans (hb.mono HBk12.out.size)); have HLk23 := Lib.hid (HLk12.out.on hb); have HCk23 := Lib.hid (HCk12.out.on hb); have HXk23 := Lib.hid (D.Box.belowAll HXk12.out hb); have HAk23 := Lib.hid (HAk12.out.on hb); have HGk23 := Lib.hid (HGk12.out.on hb)
                  clear hb HBk12 HLk12 HCk12 HXk12 HAk12 HGk12
                  go_wp2_with fail
                  go_ret
                  exact ⟨rfl, HBk23.out⟩
      · have hF : ∃ (W : World) (g1 g2 : Nat), W = ((w4.alloc (.cells #[.int .u64 (U a), .int .u64 (U b), .int .u64 (U c), .int .u64 (U d), .int .u64 (U e)] 27)).alloc (.cells #[.int .u64 (U a), .int .u64 (U b), .int .u64 (U c), .int .u64 (U d), .int .u64 (U e)] 27)).drew ∧ w4.heap.size = g1 ∧ w4.heap.size + 1 = g2 ∧ Below w.heap.size w W ∧ LaidC W ∧ CronAt W w.heap.size [a, b, c, d, e] ∧ D.Box W w2.heap.size 55 #[.int .i64 y, .int .i64 m, .int .i64 n, .int .i64 h, .int .i64 mi, .int .i64 s] ∧ CronAt W g1 [a, b, c, d, e] ∧ CronAt W g2 [a, b, c, d, e] ∧ w.heap.size < g1 ∧ w2.heap.size < g1 := by
          have hal := (((Below.refl w4.heap.size w4).alloc (Nat.le_refl _) (.cells #[.int .u64 (U a), .int .u64 (U b), .int .u64 (U c), .int .u64 (U d), .int .u64 (U e)] 27)).alloc (by simp) (.cells #[.int .u64 (U a), .int .u64 (U b), .int .u64 (U c), .int .u64 (U d), .int .u64 (U e)] 27)).drew
          refine ⟨_, _, _, rfl, rfl, rfl, HB4.out.trans (hal.mono HB4.out.size), HL4.out.on hal, HC4.out.on hal, D.Box.belowAll HX4.out hal, CronAt.drew ((CronAt.new w4 a b c d e).alloc _), CronAt.drew ?_, HC4.out.lt, D.Box.lt HX4.out⟩
          have := CronAt.new (w4.alloc (.cells #[.int .u64 (U a), .int .u64 (U b), .int .u64 (U c), .int .u64 (U d), .int .u64 (U e)] 27)) a b c d e
          rwa [World.size_alloc] at this
        obtain ⟨w5, g1, g2, hw5, hg1, hg2, hb5, hl5, hc5, hx5, ha5, hg5, hlg, hlg2⟩ := hF
        simp only [hg2]
        simp only [hg1]
        rw [← hw5]
        have hg3 : g1 < g2 := by omega
        have HB5 := Lib.hid hb5; have HL5 := Lib.hid hl5; have HC5 := Lib.hid hc5; have HX5 := Lib.hid hx5; have HA5 := Lib.hid hg5; have HG5 := Lib.hid ha5
        clear hw5 hg1 hg2 hb5 hl5 hc5 hx5 ha5 hg5 HB4 HL4 HC4 HX4 hgl4
        have hg12 : ¬ g1 = g2 := by omega
        have hg21 : ¬ g2 = g1 := by omega
        clear c0 c1 c2 c3 c4
        go_wp2_with fail
        refine (HW2.out _ HL5.out.fld).mono ?_
        rintro x' w5a ⟨rfl, q2, rfl⟩
        have hb := bdrewN (Below.refl w5.heap.size w5) q2
        generalize w5.drewN q2 = w6 at *
        have HB6 := Lib.hid (HB5.out.trans (hb.mono HB5.out.size)); have HL6 := Lib.hid (HL5.out.on hb); have HC6 := Lib.hid (HC5.out.on hb); have HX6 := Lib.hid (D.Box.belowAll HX5.out hb); have HA6 := Lib.hid (HA5.out.on hb); have HG6 := Lib.hid (HG5.out.on hb)
        clear hb HB5 HL5 HC5 HX5 HA5 HG5
        go_wp2_with fail
        refine (HW4.out _ HL6.out.fld).mono ?_
        rintro x' w6a ⟨rfl, q4, rfl⟩
        have hb := bdrewN (Below.refl w6.heap.size w6) q4
        generalize w6.drewN q4 = w7 at *
        have HB7 := Lib.hid (HB6.out.trans (hb.mono HB6.out.size)); have HL7 := Lib.hid (HL6.out.on hb); have HC7 := Lib.hid (HC6.out.on hb); have HX7 := Lib.hid (D.Box.belowAll HX6.out hb); have HA7 := Lib.hid (HA6.out.on hb); have HG7 := Lib.hid (HG6.out.on hb)
        clear hb HB6 HL6 HC6 HX6 HA6 HG6
        obtain ⟨c0, c1, c2, c3, c4⟩ := HC7.out.five
        obtain ⟨p0, p1, p2, p3, p4⟩ := HA7.out.five
        obtain ⟨r0, r1, r2, r3, r4⟩ := HG7.out.five
        obtain ⟨x0, x1, x2, x3, x4, x5⟩ := civ_cells HX7.out
        have fa := HA7.out.frozen 2; have fb := HG7.out.frozen 4
        go_wp2_with fail
        clear fa fb c0 c1 c2 c3 c4 p0 p1 p2 p3 p4 r0 r1 r2 r3 r4 x0 x1 x2 x3 x4 x5
        have hF : ∃ W : World, W = (w7.setCell ⟨g2, 2, none⟩ (.int .u64 (U v2))).setCell ⟨g1, 4, none⟩ (.int .u64 (U v4)) ∧ Below w.heap.size w W ∧ CronAt W w.heap.size [a, b, c, d, e] ∧ D.Box W w2.heap.size 55 #[.int .i64 y, .int .i64 m, .int .i64 n, .int .i64 h, .int .i64 mi, .int .i64 s] ∧ CronAt W g2 [a, b, v2, d, e] ∧ CronAt W g1 [a, b, c, d, v4] :=
          ⟨_, rfl, (HB7.out.setCell (p := ⟨g2, 2, none⟩) (Nat.le_of_lt (by simp only; omega)) _).setCell (p := ⟨g1, 4, none⟩) (Nat.le_of_lt (by simp only; omega)) _, (HC7.out.far (Nat.ne_of_lt (by omega)) _).far (Nat.ne_of_lt (by omega)) _, D.Box.far (p := g1) (D.Box.far (p := g2) HX7.out (by omega) _) (by omega) _, CronAt.far (p := g1) (HA7.out.set 2 v2) (by omega) _, (CronAt.far (p := g2) HG7.out (by omega) _).set 4 v4⟩
        obtain ⟨w8, hw8, hb8, hc8, hx8, ha8, hg8⟩ := hF
        rw [← hw8]
        have HB8 := Lib.hid hb8; have HL8 := Lib.hid (HL.out.on hb8); have HC8 := Lib.hid hc8; have HX8 := Lib.hid hx8; have HA8 := Lib.hid ha8; have HG8 := Lib.hid hg8
        clear hw8 hb8 hc8 hx8 ha8 hg8 HB7 HL7 HC7 HX7 HA7 HG7
        obtain ⟨c0, c1, c2, c3, c4⟩ := HC8.out.five
        obtain ⟨p0, p1, p2, p3, p4⟩ := HA8.out.five
        obtain ⟨r0, r1, r2, r3, r4⟩ := HG8.out.five
        obtain ⟨x0, x1, x2, x3, x4, x5⟩ := civ_cells HX8.out
        go_quiet (first | (go_at_call 27; with_reducible exact Calls.quiet_of_same (HMo.out _)) | (go_at_call 27; with_reducible exact Calls.quiet_of_same (HWk.out _)) | (go_at_call 27; with_reducible exact Calls.quiet_of_same (HDy.out _)))
        have hb := bdrewN (Below.refl w8.heap.size w8) nq
        clear c0 c1 c2 c3 c4 p0 p1 p2 p3 p4 r0 r1 r2 r3 r4 x0 x1 x2 x3 x4 x5
        generalize w8.drewN nq = w9 at *
        have HB9 := Lib.hid (HB8.out.trans (hb.mono HB8.out.size)); have HL9 := Lib.hid (HL8.out.on hb); have HC9 := Lib.hid (HC8.out.on hb); have HX9 := Lib.hid (D.Box.belowAll HX8.out hb); have HA9 := Lib.hid (HA8.out.on hb); have HG9 := Lib.hid (HG8.out.on hb)
        clear hb HB8 HL8 HC8 HX8 HA8 HG8
        obtain ⟨c0, c1, c2, c3, c4⟩ := HC9.out.five
        obtain ⟨p0, p1, p2, p3, p4⟩ := HA9.out.five
        obtain ⟨r0, r1, r2, r3, r4⟩ := HG9.out.five
        obtain ⟨x0, x1, x2, x3, x4, x5⟩ := civ_cells HX9.out
        clear HMo HWk HDy HW2 HW4
        cases mo with
        | false =>
          simp only [Bool.false_and] at HDa HDb
          obtain rfl : is = false := HIs.out.trans (Bool.false_and _)
          go_wp2_with fail
          clear c0 c1 c2 c3 c4 p0 p1 p2 p3 p4 r0 r1 r2 r3 r4 x0 x1 x2 x3 x4 x5
          refine (HDa.out _ HL9.out).mono ?_
          rintro x' wk24 ⟨rfl, hb⟩
          have HBk24 := Lib.hid (HB9.out.trans (hb.mono HB9.out.size)); have HLk24 := Lib.hid (HL9.out.on hb); have HCk24 := Lib.hid (HC9.out.on hb); have HXk24 := Lib.hid (D.Box.belowAll HX9.out hb); have HAk24 := Lib.hid (HA9.out.on hb); have HGk24 := Lib.hid (HG9.out.on hb)
          clear hb HB9 HL9 HC9 HX9 HA9 HG9
          obtain ⟨c0, c1, c2, c3, c4⟩ := HCk24.out.five
          obtain ⟨p0, p1, p2, p3, p4⟩ := HAk24.out.five
          obtain ⟨r0, r1, r2, r3, r4⟩ := HGk24.out.five
          obtain ⟨x0, x1, x2, x3, x4, x5⟩ := civ_cells HXk24.out
          go_wp2_with fail
          clear c0 c1 c2 c3 c4 p0 p1 p2 p3 p4 r0 r1 r2 r3 r4 x0 x1 x2 x3 x4 x5
          refine (HDb.out _ HLk24.out).mono ?_
          rintro x' wk25 ⟨rfl, hb⟩
          have HBk25 := Lib.hid (HBk24.out.trans (hb.mono HBk24.out.size)); have HLk25 := Lib.hid (HLk24.out.on hb); have HCk25 := Lib.hid (HCk24.out.on hb); have HXk25 := Lib.hid (D.Box.belowAll HXk24.out hb); have HAk25 := Lib.hid (HAk24.out.on hb); have HGk25 := Lib.hid (HGk24.out.on hb)
          clear hb HBk24 HLk24 HCk24 HXk24 HAk24 HGk24
          obtain ⟨c0, c1, c2, c3, c4⟩ := HCk25.out.five
          obtain ⟨p0, p1, p2, p3, p4⟩ := HAk25.out.five
          obtain ⟨r0, r1, r2, r3, r4⟩ := HGk25.out.five
          obtain ⟨x0, x1, x2, x3, x4, x5⟩ := civ_cells HXk25.out
          go_wp2_with fail
          clear c0 c1 c2 c3 c4 p0 p1 p2 p3 p4 r0 r1 r2 r3 r4 x0 x1 x2 x3 x4 x5
          refine (HDi.out _ HLk25.out).mono ?_
          rintro x' wk26 ⟨rfl, hb⟩
          have HBk26 := Lib.hid (HBk25.out.trans (hb.mono HBk25.out.size)); have HLk26 := Lib.hid (HLk25.out.on hb); have HCk26 := Lib.hid (HCk25.out.on hb); have HXk26 := Lib.hid (D.Box.belowAll HXk25.out hb); have HAk26 := Lib.hid (HAk25.out.on hb); have HGk26 := Lib.hid (HGk25.out.on hb)
          clear hb HBk25 HLk25 HCk25 HXk25 HAk25 HGk25
          obtain ⟨c0, c1, c2, c3, c4⟩ := HCk26.out.five
          obtain ⟨p0, p1, p2, p3, p4⟩ := HAk26.out.five
          obtain ⟨r0, r1, r2, r3, r4⟩ := HGk26.out.five
          obtain ⟨x0, x1, x2, x3, x4, x5⟩ := civ_cells HXk26.out
          by_cases hc : c = v2
          · subst hc
            go_wp2_with fail
            clear c0 c1 c2 c3 c4 p0 p1 p2 p3 p4 r0 r1 r2 r3 r4 x0 x1 x2 x3 x4 x5
            have hv : (decide (s = 0) && (mn && (ho && false))) = false := by simp
            rw [hv] at HAt
            obtain ⟨c0, c1, c2, c3, c4⟩ := HCk26.out.five
            obtain ⟨p0, p1, p2, p3, p4⟩ := HAk26.out.five
            obtain ⟨r0, r1, r2, r3, r4⟩ := HGk26.out.five
            obtain ⟨x0, x1, x2, x3, x4, x5⟩ := civ_cells HXk26.out
            go_wp2_with fail
            refine (HAt.out _ HLk26.out).mono ?_
            rintro x' wk29 ⟨rfl, hb⟩
            have HBk29 := Lib.hid (HBk26.out.trans (hb.mono HBk26.out.size)); have HLk29 := Lib.hid (HLk26.out.on hb); have HCk29 := Lib.hid (HCk26.out.on hb); have HXk29 := Lib.hid (D.Box.belowAll HXk26.out hb); have HAk29 := Lib.hid (HAk26.out.on hb); have HGk29 := Lib.hid (HGk26.out.on hb)
            clear hb HBk26 HLk26 HCk26 HXk26 HAk26 HGk26
            go_wp2_with fail
            go_ret
            exact ⟨rfl, HBk29.out⟩
          · have uc : ¬ U c = U v2 := fun h => hc (U_inj.1 h)
            by_cases he : e = v4
            · subst he
              go_wp2_with fail
              clear c0 c1 c2 c3 c4 p0 p1 p2 p3 p4 r0 r1 r2 r3 r4 x0 x1 x2 x3 x4 x5
              have hv : (decide (s = 0) && (mn && (ho && false))) = false := by simp
              rw [hv] at HAt
              obtain ⟨c0, c1, c2, c3, c4⟩ := HCk26.out.five
              obtain ⟨p0, p1, p2, p3, p4⟩ := HAk26.out.five
              obtain ⟨r0, r1, r2, r3, r4⟩ := HGk26.out.five
              obtain ⟨x0, x1, x2, x3, x4, x5⟩ := civ_cells HXk26.out
              go_wp2_with fail
              refine (HAt.out _ HLk26.out).mono ?_
              rintro x' wk30 ⟨rfl, hb⟩
              have HBk30 := Lib.hid (HBk26.out.trans (hb.mono HBk26.out.size)); have HLk30 := Lib.hid (HLk26.out.on hb); have HCk30 := Lib.hid (HCk26.out.on hb); have HXk30 := Lib.hid (D.Box.belowAll HXk26.out hb); have HAk30 := Lib.hid (HAk26.out.on hb); have HGk30 := Lib.hid (HGk26.out.on hb)
              clear hb HBk26 HLk26 HCk26 HXk26 HAk26 HGk26
              go_wp2_with fail
              go_ret
              exact ⟨rfl, HBk30.out⟩
            · have ue : ¬ U e = U v4 := fun h => he (U_inj.1 h)
              go_wp2_with fail
              clear c0 c1 c2 c3 c4 p0 p1 p2 p3 p4 r0 r1 r2 r3 r4 x0 x1 x2 x3 x4 x5
              refine (HDa.out _ HLk26.out).mono ?_
              rintro x' wk27 ⟨rfl, hb⟩
              have HBk27 := Lib.hid (HBk26.out.trans (hb.mono HBk26.out.size)); have HLk27 := Lib.hid (HLk26.out.on hb); have HCk27 := Lib.hid (HCk26.out.on hb); have HXk27 := Lib.hid (D.Box.belowAll HXk26.out hb); have HAk27 := Lib.hid (HAk26.out.on hb); have HGk27 := Lib.hid (HGk26.out.on hb)
              clear hb HBk26 HLk26 HCk26 HXk26 HAk26 HGk26
              obtain ⟨c0, c1, c2, c3, c4⟩ := HCk27.out.five
              obtain ⟨p0, p1, p2, p3, p4⟩ := HAk27.out.five
              obtain ⟨r0, r1, r2, r3, r4⟩ := HGk27.out.five
              obtain ⟨x0, x1, x2, x3, x4, x5⟩ := civ_cells HXk27.out
              go_wp2_with fail
              clear c0 c1 c2 c3 c4 p0 p1 p2 p3 p4 r0 r1 r2 r3 r4 x0 x1 x2 x3 x4 x5
              refine (HDb.out _ HLk27.out).mono ?_
              rintro x' wk28 ⟨rfl, hb⟩
              have HBk28 := Lib.hid (HBk27.out.trans (hb.mono HBk27.out.size)); have HLk28 := Lib.hid (HLk27.out.on hb); have HCk28 := Lib.hid (HCk27.out.on hb); have HXk28 := Lib.hid (D.Box.belowAll HXk27.out hb); have HAk28 := Lib.hid (HAk27.out.on hb); have HGk28 := Lib.hid (HGk27.out.on hb)
              clear hb HBk27 HLk27 HCk27 HXk27 HAk27 HGk27
              obtain ⟨c0, c1, c2, c3, c4⟩ := HCk28.out.five
              obtain ⟨p0, p1, p2, p3, p4⟩ := HAk28.out.five
              obtain ⟨r0, r1, r2, r3, r4⟩ := HGk28.out.five
              obtain ⟨x0, x1, x2, x3, x4, x5⟩ := civ_cells HXk28.out
              go_wp2_with fail
              clear c0 c1 c2 c3 c4 p0 p1 p2 p3 p4 r0 r1 r2 r3 r4 x0 x1 x2 x3 x4 x5
              have hv : (decide (s = 0) && (mn && (ho && false))) = false := by simp
              rw [hv] at HAt
              obtain ⟨c0, c1, c2, c3, c4⟩ := HCk28.out.five
              obtain ⟨p0, p1, p2, p3, p4⟩ := HAk28.out.five
              obtain ⟨r0, r1, r2, r3, r4⟩ := HGk28.out.five
              obtain ⟨x0, x1, x2, x3, x4, x5⟩ := civ_cells HXk28.out
              go_wp2_with fail
              refine (HAt.out _ HLk28.out).mono ?_
              rintro x' wk31 ⟨rfl, hb⟩
              have HBk31 := Lib.hid (HBk28.out.trans (hb.mono HBk28.out.size)); have HLk31 := Lib.hid (HLk28.out.on hb); have HCk31 := Lib.hid (HCk28.out.on hb); have HXk31 := Lib.hid (D.Box.belowAll HXk28.out hb); have HAk31 := Lib.hid (HAk28.out.on hb); have HGk31 := Lib.hid (HGk28.out.on hb)
              clear hb HBk28 HLk28 HCk28 HXk28 HAk28 HGk28
              go_wp2_with fail
              go_ret
              exact ⟨rfl, HBk31.out⟩
        | true =>
          simp only [Bool.true_and] at HDa HDb HIs
          go_wp2_with fail
          clear c0 c1 c2 c3 c4 p0 p1 p2 p3 p4 r0 r1 r2 r3 r4 x0 x1 x2 x3 x4 x5
          refine (HDa.out _ HL9.out).mono ?_
          rintro x' wk32 ⟨rfl, hb⟩
          have HBk32 := Lib.hid (HB9.out.trans (hb.mono HB9.out.size)); have HLk32 := Lib.hid (HL9.out.on hb); have HCk32 := Lib.hid (HC9.out.on hb); have HXk32 := Lib.hid (D.Box.belowAll HX9.out hb); have HAk32 := Lib.hid (HA9.out.on hb); have HGk32 := Lib.hid (HG9.out.on hb)
          clear hb HB9 HL9 HC9 HX9 HA9 HG9
          obtain ⟨c0, c1, c2, c3, c4⟩ := HCk32.out.five
          obtain ⟨p0, p1, p2, p3, p4⟩ := HAk32.out.five
          obtain ⟨r0, r1, r2, r3, r4⟩ := HGk32.out.five
          obtain ⟨x0, x1, x2, x3, x4, x5⟩ := civ_cells HXk32.out
          go_wp2_with fail
          clear c0 c1 c2 c3 c4 p0 p1 p2 p3 p4 r0 r1 r2 r3 r4 x0 x1 x2 x3 x4 x5
          refine (HDb.out _ HLk32.out).mono ?_
          rintro x' wk33 ⟨rfl, hb⟩
          have HBk33 := Lib.hid (HBk32.out.trans (hb.mono HBk32.out.size)); have HLk33 := Lib.hid (HLk32.out.on hb); have HCk33 := Lib.hid (HCk32.out.on hb); have HXk33 := Lib.hid (D.Box.belowAll HXk32.out hb); have HAk33 := Lib.hid (HAk32.out.on hb); have HGk33 := Lib.hid (HGk32.out.on hb)
          clear hb HBk32 HLk32 HCk32 HXk32 HAk32 HGk32
          obtain ⟨c0, c1, c2, c3, c4⟩ := HCk33.out.five
          obtain ⟨p0, p1, p2, p3, p4⟩ := HAk33.out.five
          obtain ⟨r0, r1, r2, r3, r4⟩ := HGk33.out.five
          obtain ⟨x0, x1, x2, x3, x4, x5⟩ := civ_cells HXk33.out
          go_wp2_with fail
          clear c0 c1 c2 c3 c4 p0 p1 p2 p3 p4 r0 r1 r2 r3 r4 x0 x1 x2 x3 x4 x5
          refine (HDi.out _ HLk33.out).mono ?_
          rintro x' wk34 ⟨rfl, hb⟩
          have HBk34 := Lib.hid (HBk33.out.trans (hb.mono HBk33.out.size)); have HLk34 := Lib.hid (HLk33.out.on hb); have HCk34 := Lib.hid (HCk33.out.on hb); have HXk34 := Lib.hid (D.Box.belowAll HXk33.out hb); have HAk34 := Lib.hid (HAk33.out.on hb); have HGk34 := Lib.hid (HGk33.out.on hb)
          clear hb HBk33 HLk33 HCk33 HXk33 HAk33 HGk33
          obtain ⟨c0, c1, c2, c3, c4⟩ := HCk34.out.five
          obtain ⟨p0, p1, p2, p3, p4⟩ := HAk34.out.five
          obtain ⟨r0, r1, r2, r3, r4⟩ := HGk34.out.five
          obtain ⟨x0, x1, x2, x3, x4, x5⟩ := civ_cells HXk34.out
          by_cases hc : c = v2
          · subst hc
            obtain rfl : is = wk := HIs.out.trans (if_pos rfl)
            cases is with
            | false =>
              go_wp2_with fail
              clear c0 c1 c2 c3 c4 p0 p1 p2 p3 p4 r0 r1 r2 r3 r4 x0 x1 x2 x3 x4 x5
              have hv : (decide (s = 0) && (mn && (ho && false))) = false := by simp
              rw [hv] at HAt
              obtain ⟨c0, c1, c2, c3, c4⟩ := HCk34.out.five
              obtain ⟨p0, p1, p2, p3, p4⟩ := HAk34.out.five
              obtain ⟨r0, r1, r2, r3, r4⟩ := HGk34.out.five
              obtain ⟨x0, x1, x2, x3, x4, x5⟩ := civ_cells HXk34.out
              go_wp2_with fail
              refine (HAt.out _ HLk34.out).mono ?_
              rintro x' wk40 ⟨rfl, hb⟩
              have HBk40 := Lib.hid (HBk34.out.trans (hb.mono HBk34.out.size)); have HLk40 := Lib.hid (HLk34.out.on hb); have HCk40 := Lib.hid (HCk34.out.on hb); have HXk40 := Lib.hid (D.Box.belowAll HXk34.out hb); have HAk40 := Lib.hid (HAk34.out.on hb); have HGk40 := Lib.hid (HGk34.out.on hb)
              clear hb HBk34 HLk34 HCk34 HXk34 HAk34 HGk34
              go_wp2_with fail
              go_ret
              exact ⟨rfl, HBk40.out⟩
            | true =>
              go_wp2_with fail
              clear c0 c1 c2 c3 c4 p0 p1 p2 p3 p4 r0 r1 r2 r3 r4 x0 x1 x2 x3 x4 x5
              obtain ⟨c0, c1, c2, c3, c4⟩ := HCk34.out.five
              obtain ⟨p0, p1, p2, p3, p4⟩ := HAk34.out.five
              obtain ⟨r0, r1, r2, r3, r4⟩ := HGk34.out.five
              obtain ⟨x0, x1, x2, x3, x4, x5⟩ := civ_cells HXk34.out
              go_wp2_with fail
              clear c0 c1 c2 c3 c4 p0 p1 p2 p3 p4 r0 r1 r2 r3 r4 x0 x1 x2 x3 x4 x5
              by_cases hs : s = 0
              · have q2 : t % 60 = 0 := hsv.trans hs
                have q1 : t.tmod 60 = 0 := HTm.out.2 hs
                rw [decide_eq_true hs, Bool.true_and, Bool.and_true] at HAt
                clear hs
                cases ho with
                | false =>
                  rw [Bool.and_false] at HAt
                  refine (HAt.out _ HLk34.out).mono ?_
                  rintro x' wk41 ⟨rfl, hb⟩
                  have HBk41 := Lib.hid (HBk34.out.trans (hb.mono HBk34.out.size)); have HLk41 := Lib.hid (HLk34.out.on hb); have HCk41 := Lib.hid (HCk34.out.on hb); have HXk41 := Lib.hid (D.Box.belowAll HXk34.out hb); have HAk41 := Lib.hid (HAk34.out.on hb); have HGk41 := Lib.hid (HGk34.out.on hb)
                  clear hb HBk34 HLk34 HCk34 HXk34 HAk34 HGk34
                  obtain ⟨c0, c1, c2, c3, c4⟩ := HCk41.out.five
                  obtain ⟨p0, p1, p2, p3, p4⟩ := HAk41.out.five
                  obtain ⟨r0, r1, r2, r3, r4⟩ := HGk41.out.five
                  obtain ⟨x0, x1, x2, x3, x4, x5⟩ := civ_cells HXk41.out
                  go_wp2_with fail
                  refine (HHo.out _).mono ?_
                  rintro x' wq ⟨rfl, rfl⟩
                  go_wp2_with fail
                  go_ret
                  exact ⟨rfl, HBk41.out⟩
                | true =>
                  rw [Bool.and_true] at HAt
                  refine (HAt.out _ HLk34.out).mono ?_
                  rintro x' wk41 ⟨rfl, hb⟩
                  have HBk41 := Lib.hid (HBk34.out.trans (hb.mono HBk34.out.size)); have HLk41 := Lib.hid (HLk34.out.on hb); have HCk41 := Lib.hid (HCk34.out.on hb); have HXk41 := Lib.hid (D.Box.belowAll HXk34.out hb); have HAk41 := Lib.hid (HAk34.out.on hb); have HGk41 := Lib.hid (HGk34.out.on hb)
                  clear hb HBk34 HLk34 HCk34 HXk34 HAk34 HGk34
                  obtain ⟨c0, c1, c2, c3, c4⟩ := HCk41.out.five
                  obtain ⟨p0, p1, p2, p3, p4⟩ := HAk41.out.five
                  obtain ⟨r0, r1, r2, r3, r4⟩ := HGk41.out.five
                  obtain ⟨x0, x1, x2, x3, x4, x5⟩ := civ_cells HXk41.out
                  go_wp2_with fail
                  refine (HHo.out _).mono ?_
                  rintro x' wq ⟨rfl, rfl⟩
                  go_wp2_with fail
                  refine (HMi.out _).mono ?_
                  rintro x' wq ⟨rfl, rfl⟩
                  cases mn <;>
                    (go_wp2_with fail
                     go_ret
                     exact ⟨rfl, HBk41.out⟩)
              · have q2 : ¬ t % 60 = 0 := fun h => hs (hsv.symm.trans h)
                have q1 : ¬ t.tmod 60 = 0 := fun h => hs (HTm.out.1 h)
                have q3 : (t % 60 == 0) = false := by rw [beq_eq_false_iff_ne]; exact q2
                have q4 : (t.tmod 60 == 0) = false := by rw [beq_eq_false_iff_ne]; exact q1
                rw [decide_eq_false hs, Bool.false_and] at HAt
                clear hs
                refine (HAt.out _ HLk34.out).mono ?_
                rintro x' wk41 ⟨rfl, hb⟩
                have HBk41 := Lib.hid (HBk34.out.trans (hb.mono HBk34.out.size)); have HLk41 := Lib.hid (HLk34.out.on hb); have HCk41 := Lib.hid (HCk34.out.on hb); have HXk41 := Lib.hid (D.Box.belowAll HXk34.out hb); have HAk41 := Lib.hid (HAk34.out.on hb); have HGk41 := Lib.hid (HGk34.out.on hb)
                clear hb HBk34 HLk34 HCk34 HXk34 HAk34 HGk34
                go_wp2_with fail
                go_ret
                exact ⟨rfl, HBk41.out⟩
          · have uc : ¬ U c = U v2 := fun h => hc (U_inj.1 h)
            by_cases he : e = v4
            · subst he
              obtain rfl : is = dy := HIs.out.trans ((if_neg hc).trans (if_pos rfl))
              cases is with
              | false =>
                go_wp2_with fail
                clear c0 c1 c2 c3 c4 p0 p1 p2 p3 p4 r0 r1 r2 r3 r4 x0 x1 x2 x3 x4 x5
                have hv : (decide (s = 0) && (mn && (ho && false))) = false := by simp
                rw [hv] at HAt
                obtain ⟨c0, c1, c2, c3, c4⟩ := HCk34.out.five
                obtain ⟨p0, p1, p2, p3, p4⟩ := HAk34.out.five
                obtain ⟨r0, r1, r2, r3, r4⟩ := HGk34.out.five
                obtain ⟨x0, x1, x2, x3, x4, x5⟩ := civ_cells HXk34.out
                go_wp2_with fail
                refine (HAt.out _ HLk34.out).mono ?_
                rintro x' wk42 ⟨rfl, hb⟩
                have HBk42 := Lib.hid (HBk34.out.trans (hb.mono HBk34.out.size)); have HLk42 := Lib.hid (HLk34.out.on hb); have HCk42 := Lib.hid (HCk34.out.on hb); have HXk42 := Lib.hid (D.Box.belowAll HXk34.out hb); have HAk42 := Lib.hid (HAk34.out.on hb); have HGk42 := Lib.hid (HGk34.out.on hb)
                clear hb HBk34 HLk34 HCk34 HXk34 HAk34 HGk34
                go_wp2_with fail
                go_ret
                exact ⟨rfl, HBk42.out⟩
              | true =>
                go_wp2_with fail
                clear c0 c1 c2 c3 c4 p0 p1 p2 p3 p4 r0 r1 r2 r3 r4 x0 x1 x2 x3 x4 x5
                obtain ⟨c0, c1, c2, c3, c4⟩ := HCk34.out.five
                obtain ⟨p0, p1, p2, p3, p4⟩ := HAk34.out.five
                obtain ⟨r0, r1, r2, r3, r4⟩ := HGk34.out.five
                obtain ⟨x0, x1, x2, x3, x4, x5⟩ := civ_cells HXk34.out
                go_wp2_with fail
                clear c0 c1 c2 c3 c4 p0 p1 p2 p3 p4 r0 r1 r2 r3 r4 x0 x1 x2 x3 x4 x5
                by_cases hs : s = 0
                · have q2 : t % 60 = 0 := hsv.trans hs
                  have q1 : t.tmod 60 = 0 := HTm.out.2 hs
                  rw [decide_eq_true hs, Bool.true_and, Bool.and_true] at HAt
                  clear hs
                  cases ho with
                  | false =>
                    rw [Bool.and_false] at HAt
                    refine (HAt.out _ HLk34.out).mono ?_
                    rintro x' wk43 ⟨rfl, hb⟩
                    have HBk43 := Lib.hid (HBk34.out.trans (hb.mono HBk34.out.size)); have HLk43 := Lib.hid (HLk34.out.on hb); have HCk43 := Lib.hid (HCk34.out.on hb); have HXk43 := Lib.hid (D.Box.belowAll HXk34.out hb); have HAk43 := Lib.hid (HAk34.out.on hb); have HGk43 := Lib.hid (HGk34.out.on hb)
                    clear hb HBk34 HLk34 HCk34 HXk34 HAk34 HGk34
                    obtain ⟨c0, c1, c2, c3, c4⟩ := HCk43.out.five
                    obtain ⟨p0, p1, p2, p3, p4⟩ := HAk43.out.five
                    obtain ⟨r0, r1, r2, r3, r4⟩ := HGk43.out.five
                    obtain ⟨x0, x1, x2, x3, x4, x5⟩ := civ_cells HXk43.out
                    go_wp2_with fail
                    refine (HHo.out _).mono ?_
                    rintro x' wq ⟨rfl, rfl⟩
                    go_wp2_with fail
                    go_ret
                    exact ⟨rfl, HBk43.out⟩
                  | true =>
                    rw [Bool.and_true] at HAt
                    refine (HAt.out _ HLk34.out).mono ?_
                    rintro x' wk43 ⟨rfl, hb⟩
                    have HBk43 := Lib.hid (HBk34.out.trans (hb.mono HBk34.out.size)); have HLk43 := Lib.hid (HLk34.out.on hb); have HCk43 := Lib.hid (HCk34.out.on hb); have HXk43 := Lib.hid (D.Box.belowAll HXk34.out hb); have HAk43 := Lib.hid (HAk34.out.on hb); have HGk43 := Lib.hid (HGk34.out.on hb)
                    clear hb HBk34 HLk34 HCk34 HXk34 HAk34 HGk34
                    obtain ⟨c0, c1, c2, c3, c4⟩ := HCk43.out.five
                    obtain ⟨p0, p1, p2, p3, p4⟩ := HAk43.out.five
                    obtain ⟨r0, r1, r2, r3, r4⟩ := HGk43.out.five
                    obtain ⟨x0, x1, x2, x3, x4, x5⟩ := civ_cells HXk43.out
                    go_wp2_with fail
                    refine (HHo.out _).mono ?_
                    rintro x' wq ⟨rfl, rfl⟩
                    go_wp2_with fail
                    refine (HMi.out _).mono ?_
                    rintro x' wq ⟨rfl, rfl⟩
                    cases mn <;>
                      (go_wp2_with fail
                       go_ret
                       exact ⟨rfl, HBk43.out⟩)
                · have q2 : ¬ t % 60 = 0 := fun h => hs (hsv.symm.trans h)
                  have q1 : ¬ t.tmod 60 = 0 := fun h => hs (HTm.out.1 h)
                  have q3 : (t % 60 == 0) = false := by rw [beq_eq_false_iff_ne]; exact q2
                  have q4 : (t.tmod 60 == 0) = false := by rw [beq_eq_false_iff_ne]; exact q1
                  rw [decide_eq_false hs, Bool.false_and] at HAt
                  clear hs
                  refine (HAt.out _ HLk34.out).mono ?_
                  rintro x' wk43 ⟨rfl, hb⟩
                  have HBk43 := Lib.hid (HBk34.out.trans (hb.mono HBk34.out.size)); have HLk43 := Lib.hid (HLk34.out.on hb); have HCk43 := Lib.hid (HCk34.out.on hb); have HXk43 := Lib.hid (D.Box.belowAll HXk34.out hb); have HAk43 := Lib.hid (HAk34.out.on hb); have HGk43 := Lib.hid (HGk34.out.on hb)
                  clear hb HBk34 HLk34 HCk34 HXk34 HAk34 HGk34
                  go_wp2_with fail
                  go_ret
                  exact ⟨rfl, HBk43.out⟩
            · have hi := HIs.out.trans ((if_neg hc).trans (if_neg he))
              have ue : ¬ U e = U v4 := fun h => he (U_inj.1 h)
              cases wk with
              | false =>
                cases dy with
                | false =>
                  obtain rfl : is = false := hi
                  go_wp2_with fail
                  clear c0 c1 c2 c3 c4 p0 p1 p2 p3 p4 r0 r1 r2 r3 r4 x0 x1 x2 x3 x4 x5
                  refine (HDa.out _ HLk34.out).mono ?_
                  rintro x' wk36 ⟨rfl, hb⟩
                  have HBk36 := Lib.hid (HBk34.out.trans (hb.mono HBk34.out.size)); have HLk36 := Lib.hid (HLk34.out.on hb); have HCk36 := Lib.hid (HCk34.out.on hb); have HXk36 := Lib.hid (D.Box.belowAll HXk34.out hb); have HAk36 := Lib.hid (HAk34.out.on hb); have HGk36 := Lib.hid (HGk34.out.on hb)
                  clear hb HBk34 HLk34 HCk34 HXk34 HAk34 HGk34
                  obtain ⟨c0, c1, c2, c3, c4⟩ := HCk36.out.five
                  obtain ⟨p0, p1, p2, p3, p4⟩ := HAk36.out.five
                  obtain ⟨r0, r1, r2, r3, r4⟩ := HGk36.out.five
                  obtain ⟨x0, x1, x2, x3, x4, x5⟩ := civ_cells HXk36.out
                  go_wp2_with fail
                  clear c0 c1 c2 c3 c4 p0 p1 p2 p3 p4 r0 r1 r2 r3 r4 x0 x1 x2 x3 x4 x5
                  refine (HDb.out _ HLk36.out).mono ?_
                  rintro x' wk37 ⟨rfl, hb⟩
                  have HBk37 := Lib.hid (HBk36.out.trans (hb.mono HBk36.out.size)); have HLk37 := Lib.hid (HLk36.out.on hb); have HCk37 := Lib.hid (HCk36.out.on hb); have HXk37 := Lib.hid (D.Box.belowAll HXk36.out hb); have HAk37 := Lib.hid (HAk36.out.on hb); have HGk37 := Lib.hid (HGk36.out.on hb)
                  clear hb HBk36 HLk36 HCk36 HXk36 HAk36 HGk36
                  obtain ⟨c0, c1, c2, c3, c4⟩ := HCk37.out.five
                  obtain ⟨p0, p1, p2, p3, p4⟩ := HAk37.out.five
                  obtain ⟨r0, r1, r2, r3, r4⟩ := HGk37.out.five
                  obtain ⟨x0, x1, x2, x3, x4, x5⟩ := civ_cells HXk37.out
                  go_wp2_with fail
                  clear c0 c1 c2 c3 c4 p0 p1 p2 p3 p4 r0 r1 r2 r3 r4 x0 x1 x2 x3 x4 x5
                  have hv : (decide (s = 0) && (mn && (ho && false))) = false := by simp
                  rw [hv] at HAt
                  obtain ⟨c0, c1, c2, c3, c4⟩ := HCk37.out.five
                  obtain ⟨p0, p1, p2, p3, p4⟩ := HAk37.out.five
                  obtain ⟨r0, r1, r2, r3, r4⟩ := HGk37.out.five
                  obtain ⟨x0, x1, x2, x3, x4, x5⟩ := civ_cells HXk37.out
                  go_wp2_with fail
                  refine (HAt.out _ HLk37.out).mono ?_
                  rintro x' wk44 ⟨rfl, hb⟩
                  have HBk44 := Lib.hid (HBk37.out.trans (hb.mono HBk37.out.size)); have HLk44 := Lib.hid (HLk37.out.on hb); have HCk44 := Lib.hid (HCk37.out.on hb); have HXk44 := Lib.hid (D.Box.belowAll HXk37.out hb); have HAk44 := Lib.hid (HAk37.out.on hb); have HGk44 := Lib.hid (HGk37.out.on hb)
                  clear hb HBk37 HLk37 HCk37 HXk37 HAk37 HGk37
                  go_wp2_with fail
                  go_ret
                  exact ⟨rfl, HBk44.out⟩
                | true =>
                  obtain rfl : is = true := hi
                  go_wp2_with fail
                  clear c0 c1 c2 c3 c4 p0 p1 p2 p3 p4 r0 r1 r2 r3 r4 x0 x1 x2 x3 x4 x5
                  refine (HDa.out _ HLk34.out).mono ?_
                  rintro x' wk38 ⟨rfl, hb⟩
                  have HBk38 := Lib.hid (HBk34.out.trans (hb.mono HBk34.out.size)); have HLk38 := Lib.hid (HLk34.out.on hb); have HCk38 := Lib.hid (HCk34.out.on hb); have HXk38 := Lib.hid (D.Box.belowAll HXk34.out hb); have HAk38 := Lib.hid (HAk34.out.on hb); have HGk38 := Lib.hid (HGk34.out.on hb)
                  clear hb HBk34 HLk34 HCk34 HXk34 HAk34 HGk34
                  obtain ⟨c0, c1, c2, c3, c4⟩ := HCk38.out.five
                  obtain ⟨p0, p1, p2, p3, p4⟩ := HAk38.out.five
                  obtain ⟨r0, r1, r2, r3, r4⟩ := HGk38.out.five
                  obtain ⟨x0, x1, x2, x3, x4, x5⟩ := civ_cells HXk38.out
                  go_wp2_with fail
                  clear c0 c1 c2 c3 c4 p0 p1 p2 p3 p4 r0 r1 r2 r3 r4 x0 x1 x2 x3 x4 x5
                  refine (HDb.out _ HLk38.out).mono ?_
                  rintro x' wk39 ⟨rfl, hb⟩
                  have HBk39 := Lib.hid (HBk38.out.trans (hb.mono HBk38.out.size)); have HLk39 := Lib.hid (HLk38.out.on hb); have HCk39 := Lib.hid (HCk38.out.on hb); have HXk39 := Lib.hid (D.Box.belowAll HXk38.out hb); have HAk39 := Lib.hid (HAk38.out.on hb); have HGk39 := Lib.hid (HGk38.out.on hb)
                  clear hb HBk38 HLk38 HCk38 HXk38 HAk38 HGk38
                  obtain ⟨c0, c1, c2, c3, c4⟩ := HCk39.out.five
                  obtain ⟨p0, p1, p2, p3, p4⟩ := HAk39.out.five
                  obtain ⟨r0, r1, r2, r3, r4⟩ := HGk39.out.five
                  obtain ⟨x0, x1, x2, x3, x4, x5⟩ := civ_cells HXk39.out
                  go_wp2_with fail
                  clear c0 c1 c2 c3 c4 p0 p1 p2 p3 p4 r0 r1 r2 r3 r4 x0 x1 x2 x3 x4 x5
                  obtain ⟨c0, c1, c2, c3, c4⟩ := HCk39.out.five
                  obtain ⟨p0, p1, p2, p3, p4⟩ := HAk39.out.five
                  obtain ⟨r0, r1, r2, r3, r4⟩ := HGk39.out.five
                  obtain ⟨x0, x1, x2, x3, x4, x5⟩ := civ_cells HXk39.out
                  go_wp2_with fail
                  clear c0 c1 c2 c3 c4 p0 p1 p2 p3 p4 r0 r1 r2 r3 r4 x0 x1 x2 x3 x4 x5
                  by_cases hs : s = 0
                  · have q2 : t % 60 = 0 := hsv.trans hs
                    have q1 : t.tmod 60 = 0 := HTm.out.2 hs
                    rw [decide_eq_true hs, Bool.true_and, Bool.and_true] at HAt
                    clear hs
                    cases ho with
                    | false =>
                      rw [Bool.and_false] at HAt
                      refine (HAt.out _ HLk39.out).mono ?_
                      rintro x' wk45 ⟨rfl, hb⟩
                      have HBk45 := Lib.hid (HBk39.out.trans (hb.mono HBk39.out.size)); have HLk45 := Lib.hid (HLk39.out.on hb); have HCk45 := Lib.hid (HCk39.out.on hb); have HXk45 := Lib.hid (D.Box.belowAll HXk39.out hb); have HAk45 := Lib.hid (HAk39.out.on hb); have HGk45 := Lib.hid (HGk39.out.on hb)
                      clear hb HBk39 HLk39 HCk39 HXk39 HAk39 HGk39
                      obtain ⟨c0, c1, c2, c3, c4⟩ := HCk45.out.five
                      obtain ⟨p0, p1, p2, p3, p4⟩ := HAk45.out.five
                      obtain ⟨r0, r1, r2, r3, r4⟩ := HGk45.out.five
                      obtain ⟨x0, x1, x2, x3, x4, x5⟩ := civ_cells HXk45.out
                      go_wp2_with fail
                      refine (HHo.out _).mono ?_
                      rintro x' wq ⟨rfl, rfl⟩
                      go_wp2_with fail
                      go_ret
                      exact ⟨rfl, HBk45.out⟩
                    | true =>
                      rw [Bool.and_true] at HAt
                      refine (HAt.out _ HLk39.out).mono ?_
                      rintro x' wk45 ⟨rfl, hb⟩
                      have HBk45 := Lib.hid (HBk39.out.trans (hb.mono HBk39.out.size)); have HLk45 := Lib.hid (HLk39.out.on hb); have HCk45 := Lib.hid (HCk39.out.on hb); have HXk45 := Lib.hid (D.Box.belowAll HXk39.out hb); have HAk45 := Lib.hid (HAk39.out.on hb); have HGk45 := Lib.hid (HGk39.out.on hb)
                      clear hb HBk39 HLk39 HCk39 HXk39 HAk39 HGk39
                      obtain ⟨c0, c1, c2, c3, c4⟩ := HCk45.out.five
                      obtain ⟨p0, p1, p2, p3, p4⟩ := HAk45.out.five
                      obtain ⟨r0, r1, r2, r3, r4⟩ := HGk45.out.five
                      obtain ⟨x0, x1, x2, x3, x4, x5⟩ := civ_cells HXk45.out
                      go_wp2_with fail
                      refine (HHo.out _).mono ?_
                      rintro x' wq ⟨rfl, rfl⟩
                      go_wp2_with fail
                      refine (HMi.out _).mono ?_
                      rintro x' wq ⟨rfl, rfl⟩
                      cases mn <;>
                        (go_wp2_with fail
                         go_ret
                         exact ⟨rfl, HBk45.out⟩)
                  · have q2 : ¬ t % 60 = 0 := fun h => hs (hsv.symm.trans h)
                    have q1 : ¬ t.tmod 60 = 0 := fun h => hs (HTm.out.1 h)
                    have q3 : (t % 60 == 0) = false := by rw [beq_eq_false_iff_ne]; exact q2
                    have q4 : (t.tmod 60 == 0) = false := by rw [beq_eq_false_iff_ne]; exact q1
                    rw [decide_eq_false hs, Bool.false_and] at HAt
                    clear hs
                    refine (HAt.out _ HLk39.out).mono ?_
                    rintro x' wk45 ⟨rfl, hb⟩
                    have HBk45 := Lib.hid (HBk39.out.trans (hb.mono HBk39.out.size)); have HLk45 := Lib.hid (HLk39.out.on hb); have HCk45 := Lib.hid (HCk39.out.on hb); have HXk45 := Lib.hid (D.Box.belowAll HXk39.out hb); have HAk45 := Lib.hid (HAk39.out.on hb); have HGk45 := Lib.hid (HGk39.out.on hb)
                    clear hb HBk39 HLk39 HCk39 HXk39 HAk39 HGk39
                    go_wp2_with fail
                    go_ret
                    exact ⟨rfl, HBk45.out⟩
              | true =>
                obtain rfl : is = true := hi.trans (Bool.or_true _)
                clear hi
                go_wp2_with fail
                clear c0 c1 c2 c3 c4 p0 p1 p2 p3 p4 r0 r1 r2 r3 r4 x0 x1 x2 x3 x4 x5
                refine (HDa.out _ HLk34.out).mono ?_
                rintro x' wk35 ⟨rfl, hb⟩
                have HBk35 := Lib.hid (HBk34.out.trans (hb.mono HBk34.out.size)); have HLk35 := Lib.hid (HLk34.out.on hb); have HCk35 := Lib.hid (HCk34.out.on hb); have HXk35 := Lib.hid (D.Box.belowAll HXk34.out hb); have HAk35 := Lib.hid (HAk34.out.on hb); have HGk35 := Lib.hid (HGk34.out.on hb)
                clear hb HBk34 HLk34 HCk34 HXk34 HAk34 HGk34
                obtain ⟨c0, c1, c2, c3, c4⟩ := HCk35.out.five
                obtain ⟨p0, p1, p2, p3, p4⟩ := HAk35.out.five
                obtain ⟨r0, r1, r2, r3, r4⟩ := HGk35.out.five
                obtain ⟨x0, x1, x2, x3, x4, x5⟩ := civ_cells HXk35.out
                go_wp2_with fail
                clear c0 c1 c2 c3 c4 p0 p1 p2 p3 p4 r0 r1 r2 r3 r4 x0 x1 x2 x3 x4 x5
                obtain ⟨c0, c1, c2, c3, c4⟩ := HCk35.out.five
                obtain ⟨p0, p1, p2, p3, p4⟩ := HAk35.out.five
                obtain ⟨r0, r1, r2, r3, r4⟩ := HGk35.out.five
                obtain ⟨x0, x1, x2, x3, x4, x5⟩ := civ_cells HXk35.out
                go_wp2_with fail
                clear c0 c1 c2 c3 c4 p0 p1 p2 p3 p4 r0 r1 r2 r3 r4 x0 x1 x2 x3 x4 x5
                by_cases hs : s = 0
                · have q2 : t % 60 = 0 := hsv.trans hs
                  have q1 : t.tmod 60 = 0 := HTm.out.2 hs
                  rw [decide_eq_true hs, Bool.true_and, Bool.and_true] at HAt
                  clear hs
                  cases ho with
                  | false =>
                    rw [Bool.and_false] at HAt
                    refine (HAt.out _ HLk35.out).mono ?_
                    rintro x' wk46 ⟨rfl, hb⟩
                    have HBk46 := Lib.hid (HBk35.out.trans (hb.mono HBk35.out.size)); have HLk46 := Lib.hid (HLk35.out.on hb); have HCk46 := Lib.hid (HCk35.out.on hb); have HXk46 := Lib.hid (D.Box.belowAll HXk35.out hb); have HAk46 := Lib.hid (HAk35.out.on hb); have HGk46 := Lib.hid (HGk35.out.on hb)
                    clear hb HBk35 HLk35 HCk35 HXk35 HAk35 HGk35
                    obtain ⟨c0, c1, c2, c3, c4⟩ := HCk46.out.five
                    obtain ⟨p0, p1, p2, p3, p4⟩ := HAk46.out.five
                    obtain ⟨r0, r1, r2, r3, r4⟩ := HGk46.out.five
                    obtain ⟨x0, x1, x2, x3, x4, x5⟩ := civ_cells HXk46.out
                    go_wp2_with fail
                    refine (HHo.out _).mono ?_
                    rintro x' wq ⟨rfl, rfl⟩
                    go_wp2_with fail
                    go_ret
                    exact ⟨rfl, HBk46.out⟩
                  | true =>
                    rw [Bool.and_true] at HAt
                    refine (HAt.out _ HLk35.out).mono ?_
                    rintro x' wk46 ⟨rfl, hb⟩
                    have HBk46 := Lib.hid (HBk35.out.trans (hb.mono HBk35.out.size)); have HLk46 := Lib.hid (HLk35.out.on hb); have HCk46 := Lib.hid (HCk35.out.on hb); have HXk46 := Lib.hid (D.Box.belowAll HXk35.out hb); have HAk46 := Lib.hid (HAk35.out.on hb); have HGk46 := Lib.hid (HGk35.out.on hb)
                    clear hb HBk35 HLk35 HCk35 HXk35 HAk35 HGk35
                    obtain ⟨c0, c1, c2, c3, c4⟩ := HCk46.out.five
                    obtain ⟨p0, p1, p2, p3, p4⟩ := HAk46.out.five
                    obtain ⟨r0, r1, r2, r3, r4⟩ := HGk46.out.five
                    obtain ⟨x0, x1, x2, x3, x4, x5⟩ := civ_cells HXk46.out
                    go_wp2_with fail
                    refine (HHo.out _).mono ?_
                    rintro x' wq ⟨rfl, rfl⟩
                    go_wp2_with fail
                    refine (HMi.out _).mono ?_
                    rintro x' wq ⟨rfl, rfl⟩
                    cases mn <;>
                      (go_wp2_with fail
                       go_ret
                       exact ⟨rfl, HBk46.out⟩)
                · have q2 : ¬ t % 60 = 0 := fun h => hs (hsv.symm.trans h)
                  have q1 : ¬ t.tmod 60 = 0 := fun h => hs (HTm.out.1 h)
                  have q3 : (t % 60 == 0) = false := by rw [beq_eq_false_iff_ne]; exact q2
                  have q4 : (t.tmod 60 == 0) = false := by rw [beq_eq_false_iff_ne]; exact q1
                  rw [decide_eq_false hs, Bool.false_and] at HAt
                  clear hs
                  refine (HAt.out _ HLk35.out).mono ?_
                  rintro x' wk46 ⟨rfl, hb⟩
                  have HBk46 := Lib.hid (HBk35.out.trans (hb.mono HBk35.out.size)); have HLk46 := Lib.hid (HLk35.out.on hb); have HCk46 := Lib.hid (HCk35.out.on hb); have HXk46 := Lib.hid (D.Box.belowAll HXk35.out hb); have HAk46 := Lib.hid (HAk35.out.on hb); have HGk46 := Lib.hid (HGk35.out.on hb)
                  clear hb HBk35 HLk35 HCk35 HXk35 HAk35 HGk35
                  go_wp2_with fail
                  go_ret
                  exact ⟨rfl, HBk46.out⟩
  · have HTA := Lib.hid (fun W => D.tat_no t W ht)
    have HTW := Lib.hid (fun W => D.tweek_no t W ht)
    have HAt := Lib.hid (fun W hW => cat_no [a, b, c, d, e] t W hW rfl ht)
    unfold D.civV at HTA
    clear ht
    rw [cronV_five] at *
    unfold fiveV at *
    go_enter Tryz.func7, Tryz.ntmps7
    go_wp2_with fail
    generalize w.alloc _ = w0 at *
    refine (cwakes_any w0 HL0.out).mono ?_
    rintro x w1 ⟨rfl, hb⟩
    have HB1 := Lib.hid (hb0.trans (hb.mono hb0.size)); have HC1 := Lib.hid (hc0.on hb); have HL1 := Lib.hid (HL0.out.on hb)
    clear hb hb0 hc0 HL0
    go_wp2_with fail
    refine (HTA.out _).mono ?_
    rintro x w2 ⟨rfl, hb⟩
    have HB2 := Lib.hid (HB1.out.trans (hb.mono HB1.out.size)); have HC2 := Lib.hid (HC1.out.on hb); have HL2 := Lib.hid (HL1.out.on hb)
    clear hb HB1 HC1 HL1
    go_wp2_with fail
    have hF : ∃ W : World, W = w2.alloc (.cells #[.int .i64 0, .int .i64 0, .int .i64 0, .int .i64 0, .int .i64 0, .int .i64 0] 55) ∧ Below w.heap.size w W ∧ LaidC W ∧ CronAt W w.heap.size [a, b, c, d, e] ∧ D.Box W w2.heap.size 55 #[.int .i64 0, .int .i64 0, .int .i64 0, .int .i64 0, .int .i64 0, .int .i64 0] ∧ w.heap.size < w2.heap.size :=
      ⟨_, rfl, HB2.out.alloc HB2.out.size _, HL2.out.on ((Below.refl _ w2).alloc (Nat.le_refl _) _), HC2.out.alloc _, D.Box.new _ _ _, HC2.out.lt⟩
    obtain ⟨w3, hw3, hb3, hl3, hc3, hx3, hlt3⟩ := hF
    rw [← hw3]
    have HB3 := Lib.hid hb3; have HL3 := Lib.hid hl3; have HC3 := Lib.hid hc3; have HX3 := Lib.hid hx3
    clear hw3 hb3 hl3 hc3 hx3 HB2 HC2 HL2
    refine (HTW.out _).mono ?_
    rintro x w3' ⟨rfl, rfl⟩
    obtain ⟨c0, c1, c2, c3, c4⟩ := HC3.out.five
    go_wp2_with fail
    refine (HAt.out _ HL3.out).mono ?_
    rintro x w5 ⟨rfl, hb⟩
    have HB5 := Lib.hid (HB3.out.trans (hb.mono HB3.out.size))
    clear hb
    go_wp2_with fail
    go_ret
    exact ⟨rfl, HB5.out⟩
end Go.Proofs.YtmjjdccpnepjjaaGreatDoor
