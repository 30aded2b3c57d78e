/- Day: walked, of the program. -/
import Derived.Test.YtmjjdccpnepjjaaGreatDoorK1
import Derived.Test.YtmjjdccpnepjjaaGreatDoorK3
import Derived.Test.YtmjjdccpnepjjaaGreatDoorKGTextP
import Derived.Deep.QuietTactic
import Derived.BigQuiet
namespace Go.Proofs.YtmjjdccpnepjjaaGreatDoor
open Go.RowKit

theorem whole_q (k : Nat) (w : World) (hL : Laid w) (h : k < 5) :
    Calls Tryz.prog 26 #[.int .i64 (k : Int)] w fun e w' => e = .returned (.int .u64 (U (wholeM k))) ∧ ∃ q, w' = w.drewN q := by
  have h0 := hL.lo k h
  have h1 := hL.hi k h
  have hg : 1 < w.heap.size := by have := hL.lt; show 1 < w.heap.size; omega
  have hk5 : (k : Int) < 5 := by omega
  have HS := Lib.hid (fun W => span_whole k W)
  clear hL
  generalize wholeM k = m at *
  generalize ((loK k : Nat) : Int) = a at *
  generalize ((hiK k : Nat) : Int) = b at *
  go_enter Tryz.func26, Tryz.ntmps26
  go_wp2_with fail
  refine (there_yes k _ h).mono ?_
  rintro e w' ⟨rfl, rfl⟩
  go_wp2_with fail
  go_quiet ((go_at_call 59; with_reducible exact Calls.quiet_of_same (HS.out _)))
  go_wp2_with fail
  go_ret
  exact ⟨rfl, _, rfl⟩
/-- The weekday of a date. -/
def wdZ (y m d : Int) : Int := (D.numZ y m d + 4) % 7
def rightB (y m d : Int) : Bool := decide (1970 ≤ y ∧ y ≤ 9999 ∧ 1 ≤ d ∧ d ≤ D.mlZ y m)
theorem rightB_iff (y m d : Int) : rightB y m d = true ↔ D.RightZ y m d := by unfold rightB D.RightZ; exact decide_eq_true_iff
/-- Does the date fit, given that cron and date may be? -/
def fitD (L : List (BitVec 64)) (y m d : Int) : Bool := dayF (L.getD 2 0#64) (L.getD 3 0#64) (L.getD 4 0#64) d.toNat m.toNat (wdZ y m d).toNat
def dayZ (L : List (BitVec 64)) (y m d : Int) : Bool := crB L && (rightB y m d && fitD L y m d)
theorem hasB_pos {x : BitVec 64} {n : Int} (h : 0 ≤ n) : hasB x n = x.getLsbD n.toNat := by unfold hasB; rw [decide_eq_true h, Bool.true_and]
theorem wd_in (y m d : Int) : 0 ≤ wdZ y m d ∧ wdZ y m d ≤ 6 := by unfold wdZ; omega
theorem right_in {y m d : Int} (h : D.RightZ y m d) : 1 ≤ m ∧ m ≤ 12 ∧ 1 ≤ d ∧ d ≤ 31 := by
  have h1 := D.RightZ.month h
  have h2 := D.mlZ_in (y := y) h1.1 h1.2
  obtain ⟨_, _, h3, h4⟩ := h
  omega
/-- What the program reckons. -/
theorem fit_prog {a b c d e : BitVec 64} {y m n : Int} (h : D.RightZ y m n) :
    fitD [a, b, c, d, e] y m n = (hasB d m && (if (c == wholeM 2) = true then hasB c n && hasB e (wdZ y m n) else if (e == wholeM 4) = true then hasB c n && hasB e (wdZ y m n) else hasB c n || hasB e (wdZ y m n))) := by
  obtain ⟨h1, h2, h3, h4⟩ := right_in h
  obtain ⟨w0, w6⟩ := wd_in y m n
  rw [hasB_pos (show 0 ≤ m by omega), hasB_pos (show 0 ≤ n by omega), hasB_pos w0]
  show dayF c d e n.toNat m.toNat (wdZ y m n).toNat = _
  have b2 : (wholeM 2).getLsbD n.toNat = true := by rw [whole_bit, decide_eq_true_iff]; exact ⟨by omega, by show 1 ≤ _; omega, by show _ ≤ 31; omega⟩
  have b4 : (wholeM 4).getLsbD (wdZ y m n).toNat = true := by rw [whole_bit, decide_eq_true_iff]; exact ⟨by omega, by show 0 ≤ _; omega, by show _ ≤ 6; omega⟩
  unfold dayF
  by_cases hc : c = wholeM 2
  · subst hc
    simp [b2]
  · by_cases he : e = wholeM 4
    · subst he
      simp [hc, b4]
    · simp [hc, he]
def cronV5 (a b c d e : BitVec 64) : Value := .agg #[.int .u64 (U a), .int .u64 (U b), .int .u64 (U c), .int .u64 (U d), .int .u64 (U e)]
theorem five_cells (w : World) (a b c d e : BitVec 64) (y m n : Int) :
    ∃ W : World, W = (w.alloc (.cells #[.int .u64 (U a), .int .u64 (U b), .int .u64 (U c), .int .u64 (U d), .int .u64 (U e)] 27)).alloc (.cells #[.int .i64 y, .int .i64 m, .int .i64 n] 47) ∧ Below w.heap.size w W ∧ CronAt W w.heap.size [a, b, c, d, e] ∧ D.Box W (w.heap.size + 1) 47 #[.int .i64 y, .int .i64 m, .int .i64 n] := by
  refine ⟨_, rfl, ((Below.refl _ w).alloc (Nat.le_refl _) _).alloc (by simp) _, (CronAt.new w a b c d e).alloc _, ?_⟩
  have := D.Box.new (w.alloc (.cells #[.int .u64 (U a), .int .u64 (U b), .int .u64 (U c), .int .u64 (U d), .int .u64 (U e)] 27)) 47 #[.int .i64 y, .int .i64 m, .int .i64 n]
  rwa [World.size_alloc] at this
set_option maxRecDepth 100000 in
set_option maxHeartbeats 2000000 in
theorem cday_any (L : List (BitVec 64)) (y m n : Int) (w : World) (hL : LaidC w) (h5 : L.length = 5) :
    Calls Tryz.prog 18 #[cronV L, .agg #[.int .i64 y, .int .i64 m, .int .i64 n]] w fun x w' => x = .returned (.bool (dayZ L y m n)) ∧ Below w.heap.size w w' := by
  have HL := Lib.hid hL
  clear hL
  have HK := Lib.hid (fun W hW => ccheck_any L W hW h5)
  obtain ⟨a, b, c, d, e, rfl⟩ := list_five h5
  obtain ⟨WB, hWB, hb0, hc0, hd0⟩ := five_cells w a b c d e y m n
  have HL0 := Lib.hid (HL.out.on hb0)
  rw [cronV_five] at *
  unfold fiveV at *
  by_cases hr : D.RightZ y m n
  · have hrb := (rightB_iff y m n).2 hr
    have HO := Lib.hid (fun W hW => D.of_ok y m n W hW hr)
    have HF := Lib.hid (fit_prog (a := a) (b := b) (c := c) (d := d) (e := e) hr)
    have hnr := D.num_range hr
    have HW := Lib.hid (fun W => D.weekday_ok (D.numZ y m n) W hnr.1 hnr.2)
    unfold D.dateV at HO
    cases hcr : crB [a, b, c, d, e] with
    | false =>
      have hz : dayZ [a, b, c, d, e] y m n = false := by unfold dayZ; rw [hcr, Bool.false_and]
      have he : crE [a, b, c, d, e] = 170 := by unfold crE; rw [hcr]; rfl
      rw [hz]
      simp only [he] at HK
      clear hz he hcr HF HW hrb
      generalize D.numZ y m n = num at *
      go_enter Tryz.func18, Tryz.ntmps18
      go_wp2_with fail
      rw [← hWB]
      clear hWB
      refine (HO.out _ HL0.out.days).mono ?_
      rintro x w1 ⟨rfl, hb⟩
      have HB1 := Lib.hid (hb0.trans (hb.mono hb0.size)); have HL1 := Lib.hid (HL0.out.on hb); have HC1 := Lib.hid (hc0.on hb); have HD1 := Lib.hid (D.Box.belowAll hd0 hb)
      clear hb hb0 hc0 hd0 HL0 HO
      obtain ⟨c0, c1, c2, c3, c4⟩ := HC1.out.five
      obtain ⟨d0, d1, d2, _, _, _⟩ := D.Box.three HD1.out
      go_wp2_with fail
      refine (HK.out _ HL1.out.fld).mono ?_
      rintro x w2 ⟨rfl, hb⟩
      have HB2 : Hid (Below w.heap.size w w2) := Lib.hid (HB1.out.trans (hb.mono HB1.out.size))
      clear hb
      go_wp2_with fail
      go_ret
      exact ⟨rfl, HB2.out⟩
    | true =>
      have he : crE [a, b, c, d, e] = 0 := by unfold crE; rw [hcr]; rfl
      have hz : Hid (dayZ [a, b, c, d, e] y m n = fitD [a, b, c, d, e] y m n) := Lib.hid (by unfold dayZ; rw [hcr, hrb]; rfl)
      rw [hz.out, HF.out]
      simp only [he] at HK
      clear hz he hcr hrb HF
      have HM := Lib.hid (fun W => has_any d m W)
      have HDy := Lib.hid (fun W => (has_any c n W).mono fun _ _ ⟨h, k⟩ => (⟨h, k.symm⟩ : _ ∧ _))
      have HWd := Lib.hid (fun W => (has_any e ((D.numZ y m n + 4) % 7) W).mono fun _ _ ⟨h, k⟩ => (⟨h, k.symm⟩ : _ ∧ _))
      have hU2 : ((U c == U (wholeM 2)) : Bool) = (c == wholeM 2) := U_beq _ _
      have hU4 : ((U e == U (wholeM 4)) : Bool) = (e == wholeM 4) := U_beq _ _
      have hV2 : (U c = U (wholeM 2)) ↔ c = wholeM 2 := U_inj
      have hV4 : (U e = U (wholeM 4)) ↔ e = wholeM 4 := U_inj
      have HW2 := Lib.hid (fun W hW => whole_q 2 W hW (by omega))
      have HW4 := Lib.hid (fun W hW => whole_q 4 W hW (by omega))
      have hwd : wdZ y m n = (D.numZ y m n + 4) % 7 := rfl
      rw [hwd]
      clear hwd
      generalize (D.numZ y m n + 4) % 7 = wd at *
      generalize D.numZ y m n = num at *
      generalize wholeM 2 = v2 at *
      generalize wholeM 4 = v4 at *
      simp only [show ((2 : Nat) : Int) = 2 from rfl, show ((4 : Nat) : Int) = 4 from rfl] at *
      cases hm : hasB d m with
      | false =>
        rw [hm] at HM
        clear hm HDy HWd hU2 hU4 hV2 hV4 HW2 HW4 HW
        rw [Bool.false_and]
        go_enter Tryz.func18, Tryz.ntmps18
        go_wp2_with fail
        rw [← hWB]
        clear hWB
        refine (HO.out _ HL0.out.days).mono ?_
        rintro x w1 ⟨rfl, hb⟩
        have HB1 := Lib.hid (hb0.trans (hb.mono hb0.size)); have HL1 := Lib.hid (HL0.out.on hb); have HC1 := Lib.hid (hc0.on hb); have HD1 := Lib.hid (D.Box.belowAll hd0 hb)
        clear hb hb0 hc0 hd0 HL0 HO
        obtain ⟨c0, c1, c2, c3, c4⟩ := HC1.out.five
        obtain ⟨d0, d1, d2, _, _, _⟩ := D.Box.three HD1.out
        go_wp2_with fail
        refine (HK.out _ HL1.out.fld).mono ?_
        rintro x w2 ⟨rfl, hb⟩
        have HB2 : Hid (Below w.heap.size w w2) := Lib.hid (HB1.out.trans (hb.mono HB1.out.size))
        obtain ⟨c0, c1, c2, c3, c4⟩ := (HC1.out.on hb).five
        obtain ⟨d0, d1, d2, _, _, _⟩ := D.Box.three (D.Box.belowAll HD1.out hb)
        clear hb
        go_wp2_with fail
        refine (HM.out _).mono ?_
        rintro x w3 ⟨rfl, rfl⟩
        go_wp2_with fail
        go_ret
        exact ⟨rfl, HB2.out⟩
      | true =>
        rw [hm] at HM
        rw [Bool.true_and]
        clear hm
        generalize hasB c n = p at *
        generalize hasB e wd = q at *
        obtain ⟨r, hr0⟩ : ∃ r : Bool, (if (c == v2) = true then p && q else if (e == v4) = true then p && q else p || q) = r := ⟨_, rfl⟩
        rw [hr0]
        have HR := Lib.hid hr0
        clear hr0 hU2 hU4
        go_enter Tryz.func18, Tryz.ntmps18
        go_wp2_with fail
        rw [← hWB]
        clear hWB
        refine (HO.out _ HL0.out.days).mono ?_
        rintro x w1 ⟨rfl, hb⟩
        have HB1 := Lib.hid (hb0.trans (hb.mono hb0.size)); have HL1 := Lib.hid (HL0.out.on hb); have HC1 := Lib.hid (hc0.on hb); have HD1 := Lib.hid (D.Box.belowAll hd0 hb)
        clear hb hb0 hc0 hd0 HL0 HO
        obtain ⟨c0, c1, c2, c3, c4⟩ := HC1.out.five
        obtain ⟨d0, d1, d2, _, _, _⟩ := D.Box.three HD1.out
        go_wp2_with fail
        refine (HK.out _ HL1.out.fld).mono ?_
        rintro x w2 ⟨rfl, hb⟩
        have HB2 : Hid (Below w.heap.size w w2) := Lib.hid (HB1.out.trans (hb.mono HB1.out.size)); have HL2 := Lib.hid (HL1.out.on hb)
        obtain ⟨c0, c1, c2, c3, c4⟩ := (HC1.out.on hb).five
        obtain ⟨d0, d1, d2, _, _, _⟩ := D.Box.three (D.Box.belowAll HD1.out hb)
        clear hb
        go_wp2_with fail
        refine (HM.out _).mono ?_
        rintro x w3 ⟨rfl, rfl⟩
        go_wp2_with fail
        refine (HW.out _).mono ?_
        rintro x w3 ⟨rfl, rfl⟩
        go_wp2_with fail
        go_quiet (first | (go_at_call 27; with_reducible exact Calls.quiet_of_same (HDy.out _)) | (go_at_call 27; with_reducible exact Calls.quiet_of_same (HWd.out _)))
        have HB3 := Lib.hid (bdrewN HB2.out nq); have HL3 := Lib.hid (HL2.out.on (bdrewN (Below.refl _ _) nq)).fld
        have k2 : (w2.drewN nq).cell? ⟨w.heap.size, 2, none⟩ = some (.int .u64 (U c)) := c2
        have k4 : (w2.drewN nq).cell? ⟨w.heap.size, 4, none⟩ = some (.int .u64 (U e)) := c4
        generalize w2.drewN nq = w3 at *
        clear c0 c1 c2 c3 c4 d0 d1 d2 HDy HWd HM HK HW
        by_cases hc : c = v2
        · have HRR := Lib.hid (HR.out.symm.trans (if_pos (by simpa using hc)))
          subst hc
          clear hV2 hV4 HR
          go_wp2_with fail
          go_quiet (first | (go_at_call 26; with_reducible exact Calls.quiet_of (HW2.out _ (HL3.out.on (bdrewN (Below.refl _ _) _)))))
          have HB4 := Lib.hid (bdrewN HB3.out nq)
          cases p <;> cases q <;>
            (go_wp2_with fail
             go_ret
             exact ⟨by rw [HRR.out]; rfl, HB4.out⟩)
        · have x2 : ¬ U c = U v2 := fun h => hc (U_inj.1 h)
          have HR2 := HR.out.symm.trans (if_neg (by simpa using hc))
          by_cases he : e = v4
          · have HRR := Lib.hid (HR2.trans (if_pos (by simpa using he)))
            subst he
            clear hV2 hV4 HR HR2 hc
            go_wp2_with fail
            go_quiet (first | (go_at_call 26; with_reducible exact Calls.quiet_of (HW2.out _ (HL3.out.on (bdrewN (Below.refl _ _) _)))) | (go_at_call 26; with_reducible exact Calls.quiet_of (HW4.out _ (HL3.out.on (bdrewN (Below.refl _ _) _)))))
            have HB4 := Lib.hid (bdrewN HB3.out nq)
            cases p <;> cases q <;>
              (go_wp2_with fail
               go_ret
               exact ⟨by rw [HRR.out]; rfl, HB4.out⟩)
          · have x4 : (U e == U v4) = false := by rw [beq_eq_false_iff_ne]; exact fun h => he (U_inj.1 h)
            have HRR := Lib.hid (HR2.trans (if_neg (by simpa using he)))
            clear hV2 hV4 HR HR2 hc he
            go_wp2_with fail
            go_quiet (first | (go_at_call 26; with_reducible exact Calls.quiet_of (HW2.out _ (HL3.out.on (bdrewN (Below.refl _ _) _)))) | (go_at_call 26; with_reducible exact Calls.quiet_of (HW4.out _ (HL3.out.on (bdrewN (Below.refl _ _) _)))))
            have HB4 := Lib.hid (bdrewN HB3.out nq)
            cases p <;> cases q <;>
              (go_wp2_with fail
               go_ret
               exact ⟨by rw [HRR.out]; rfl, HB4.out⟩)
  · have HO := Lib.hid (fun W hW => D.of_no y m n W hW hr)
    have hrb : rightB y m n = false := by rw [← Bool.not_eq_true]; exact fun h => hr ((rightB_iff y m n).1 h)
    have hz : dayZ [a, b, c, d, e] y m n = false := by unfold dayZ; rw [hrb]; simp
    unfold D.dateV at HO
    rw [hz]
    clear hz hrb hr HK
    go_enter Tryz.func18, Tryz.ntmps18
    go_wp2_with fail
    rw [← hWB]
    clear hWB
    refine (HO.out _ HL0.out.days).mono ?_
    rintro x w1 ⟨rfl, hb⟩
    have HB1 := Lib.hid (hb0.trans (hb.mono hb0.size))
    clear hb hb0 hc0 hd0 HL0 HO
    go_wp2_with fail
    go_ret
    exact ⟨rfl, HB1.out⟩
/-! times -/
/-- Does the time fit? -/
def atZ (L : List (BitVec 64)) (y m n h mi s : Int) : Bool := decide (s = 0) && (hasB (L.getD 0 0#64) mi && (hasB (L.getD 1 0#64) h && dayZ L y m n))
end Go.Proofs.YtmjjdccpnepjjaaGreatDoor
