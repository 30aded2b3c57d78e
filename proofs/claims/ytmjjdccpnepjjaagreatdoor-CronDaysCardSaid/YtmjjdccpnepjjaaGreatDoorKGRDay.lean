/- The document's Day and At: walked. -/
import Derived.Test.YtmjjdccpnepjjaaGreatDoorKGAt
import Derived.Deep.RegionHeld3
import Derived.Deep.DeepCutAuto
namespace Go.Proofs.YtmjjdccpnepjjaaGreatDoor
open Go.RowKit

/-- What the document reckons. -/
theorem fit_ref {a b c d e : BitVec 64} {y m n : Int} (h : D.RightZ y m n) (hk : crB [a, b, c, d, e] = true) :
    fitD [a, b, c, d, e] y m n = (hasB d m && (if (elems c).length = 31 then hasB e (wdZ y m n) else if (elems e).length = 7 then hasB c n else hasB c n || hasB e (wdZ y m n))) := by
  obtain ⟨h1, h2, h3, h4⟩ := right_in h
  obtain ⟨w0, w6⟩ := wd_in y m n
  have i2 : (elems c).length = 31 ↔ c = wholeM 2 := whole_iff (k := 2) (by omega) (crB_field hk 2 (by omega))
  have i4 : (elems e).length = 7 ↔ e = wholeM 4 := whole_iff (k := 4) (by omega) (crB_field hk 4 (by omega))
  rw [hasB_pos (show 0 ≤ m by omega), hasB_pos (show 0 ≤ n by omega), hasB_pos w0]
  show dayF c d e n.toNat m.toNat (wdZ y m n).toNat = _
  unfold dayF
  simp only [i2, i4]
theorem crB_five' (a b c d e : BitVec 64) (w : World) :
    Calls Tryz.prog 16 #[.agg #[.int .u64 (U a), .int .u64 (U b), .int .u64 (U c), .int .u64 (U d), .int .u64 (U e)]] w fun x w' => x = .returned (.bool (crB [a, b, c, d, e])) ∧ Below w.heap.size w w' := by
  rw [crB_five]; exact rright7_any a b c d e w
set_option maxRecDepth 100000 in
set_option maxHeartbeats 4000000 in
theorem rday7_any (L : List (BitVec 64)) (y m n : Int) (w : World) (h5 : L.length = 5) :
    Calls Tryz.prog 19 #[cronV L, .agg #[.int .i64 y, .int .i64 m, .int .i64 n]] w fun x w' => x = .returned (.bool (dayZ L y m n)) ∧ Below w.heap.size w w' := by
  obtain ⟨a, b, c, d, e, rfl⟩ := list_five h5
  obtain ⟨WB, hWB, hb0, hc0, hd0⟩ := five_cells w a b c d e y m n
  rw [cronV_five] at *
  unfold fiveV at *
  have HK := Lib.hid (fun W => crB_five' a b c d e W)
  cases hcr : crB [a, b, c, d, e] with
  | false =>
    have hz : dayZ [a, b, c, d, e] y m n = false := by unfold dayZ; rw [hcr, Bool.false_and]
    rw [hz]
    rw [hcr] at HK
    clear hz hcr
    go_enter Tryz.func19, Tryz.ntmps19
    go_wp2_with fail
    rw [← hWB]
    clear hWB
    refine (HK.out _).mono ?_
    rintro x w1 ⟨rfl, hb⟩
    have HB1 := Lib.hid (hb0.trans (hb.mono hb0.size)); have HC1 := Lib.hid (hc0.on hb); have HD1 := Lib.hid (D.Box.belowAll hd0 hb)
    clear hb hb0 hc0 hd0
    obtain ⟨c0, c1, c2, c3, c4⟩ := HC1.out.five
    obtain ⟨d0, d1, d2, _, _, _⟩ := D.Box.three HD1.out
    go_wp2_with fail
    go_ret
    exact ⟨rfl, HB1.out⟩
  | true =>
    rw [hcr] at HK
    by_cases hr : D.RightZ y m n
    · have hrb := (rightB_iff y m n).2 hr
      have HRt := Lib.hid (fun W => D.right_ok y m n W hr)
      have HO := Lib.hid (fun W => D.ofR_ok y m n W hr)
      have HF := Lib.hid (fit_ref hr hcr)
      have hz : Hid (dayZ [a, b, c, d, e] y m n = fitD [a, b, c, d, e] y m n) := Lib.hid (by unfold dayZ; rw [hcr, hrb]; rfl)
      have hnr := D.num_range hr
      have HW := Lib.hid (fun W => D.weekdayR_ok (D.numZ y m n) W hnr.1 hnr.2)
      unfold D.dateV at HO HRt
      rw [hz.out, HF.out]
      have hwd : wdZ y m n = (D.numZ y m n + 4) % 7 := rfl
      rw [hwd]
      have HM := Lib.hid (fun W => rhas_any d m W)
      have HDy := Lib.hid (fun W => rhas_any c n W)
      have HWd := Lib.hid (fun W => rhas_any e ((D.numZ y m n + 4) % 7) W)
      have HA2 := Lib.hid (fun W => rall_row c W); have HA4 := Lib.hid (fun W => rall_row e W)
      have hl2 := elems_64 c; have hl4 := elems_64 e
      clear hwd hz hcr hrb HF
      generalize (D.numZ y m n + 4) % 7 = wd at *
      generalize D.numZ y m n = num at *
      cases hm : hasB d m with
      | false =>
        rw [hm] at HM
        clear hm HDy HWd HW HA2 HA4
        rw [Bool.false_and]
        go_enter Tryz.func19, Tryz.ntmps19
        go_wp2_with fail
        rw [← hWB]
        clear hWB
        refine (HK.out _).mono ?_
        rintro x w1 ⟨rfl, hb⟩
        have HB1 := Lib.hid (hb0.trans (hb.mono hb0.size)); have HC1 := Lib.hid (hc0.on hb); have HD1 := Lib.hid (D.Box.belowAll hd0 hb)
        clear hb hb0 hc0 hd0
        obtain ⟨c0, c1, c2, c3, c4⟩ := HC1.out.five
        obtain ⟨d0, d1, d2, _, _, _⟩ := D.Box.three HD1.out
        go_wp2_with fail
        refine (HRt.out _).mono ?_
        rintro x w2 ⟨rfl, hb⟩
        have HB2 : Hid (Below w.heap.size w w2) := Lib.hid (HB1.out.trans (hb.mono HB1.out.size))
        obtain ⟨c0, c1, c2, c3, c4⟩ := (HC1.out.on hb).five
        obtain ⟨d0, d1, d2, _, _, _⟩ := D.Box.three (D.Box.belowAll HD1.out hb)
        clear hb
        go_wp2_with fail
        refine (HM.out _).mono ?_
        rintro x w3 ⟨rfl, rfl⟩
        go_wp2_with fail
        go_ret
        exact ⟨rfl, HB2.out⟩
      | true =>
        rw [hm] at HM
        rw [Bool.true_and]
        clear hm
        generalize hasB c n = p at *
        generalize hasB e wd = q at *
        generalize (elems c).length = n2 at *
        generalize (elems e).length = n4 at *
        obtain ⟨r, hr0⟩ : ∃ r : Bool, (if n2 = 31 then q else if n4 = 7 then p else p || q) = r := ⟨_, rfl⟩
        rw [hr0]
        have HR := Lib.hid hr0
        clear hr0
        go_enter Tryz.func19, Tryz.ntmps19
        go_wp2_with fail
        rw [← hWB]
        clear hWB
        refine (HK.out _).mono ?_
        rintro x w1 ⟨rfl, hb⟩
        have HB1 := Lib.hid (hb0.trans (hb.mono hb0.size)); have HC1 := Lib.hid (hc0.on hb); have HD1 := Lib.hid (D.Box.belowAll hd0 hb)
        clear hb hb0 hc0 hd0
        obtain ⟨c0, c1, c2, c3, c4⟩ := HC1.out.five
        obtain ⟨d0, d1, d2, _, _, _⟩ := D.Box.three HD1.out
        go_wp2_with fail
        refine (HRt.out _).mono ?_
        rintro x w2 ⟨rfl, hb⟩
        have HB2 : Hid (Below w.heap.size w w2) := Lib.hid (HB1.out.trans (hb.mono HB1.out.size)); have HC2 := Lib.hid (HC1.out.on hb); have HD2 := Lib.hid (D.Box.belowAll HD1.out hb)
        clear hb
        obtain ⟨c0, c1, c2, c3, c4⟩ := HC2.out.five
        obtain ⟨d0, d1, d2, _, _, _⟩ := D.Box.three HD2.out
        go_wp2_with fail
        refine (HM.out _).mono ?_
        rintro x w3 ⟨rfl, rfl⟩
        go_wp2_with fail
        refine (HDy.out _).mono ?_
        rintro x w3 ⟨rfl, rfl⟩
        go_wp2_with fail
        have hg1 := HC2.out.lt; have hg2 := D.Box.lt HD2.out
        have HALL : Hid (∀ W, Below w2.heap.size w2 W → (W.cell? ⟨w.heap.size, 4, none⟩ = some (.int .u64 (U e)) ∧ W.cell? ⟨w.heap.size + 1, 0, none⟩ = some (.int .i64 y) ∧ W.cell? ⟨w.heap.size + 1, 1, none⟩ = some (.int .i64 m) ∧ W.cell? ⟨w.heap.size + 1, 2, none⟩ = some (.int .i64 n))) := Lib.hid (fun W hb =>
          ⟨(hb.cell (p := ⟨w.heap.size, 4, none⟩) hg1).trans c4, (hb.cell (p := ⟨w.heap.size + 1, 0, none⟩) hg2).trans d0, (hb.cell (p := ⟨w.heap.size + 1, 1, none⟩) hg2).trans d1, (hb.cell (p := ⟨w.heap.size + 1, 2, none⟩) hg2).trans d2⟩)
        have hBE := Below.refl w2.heap.size w2
        clear c0 c1 c2 c3 c4 d0 d1 d2 hnr
        go_region_held3 (fun W => (W.cell? ⟨w.heap.size, 4, none⟩ = some (.int .u64 (U e)) ∧ W.cell? ⟨w.heap.size + 1, 0, none⟩ = some (.int .i64 y) ∧ W.cell? ⟨w.heap.size + 1, 1, none⟩ = some (.int .i64 m) ∧ W.cell? ⟨w.heap.size + 1, 2, none⟩ = some (.int .i64 n))) (first | exact HALL.out _ hBE | exact HALL.out _ hBE.drew) (first
          | (go_at_call 47; (with_reducible refine (HO.out _).mono ?_); rintro x w4 ⟨rfl, hb⟩; replace hBE := hBE.drew.trans (hb.mono hBE.drew.size))
          | (go_at_call 46; (with_reducible refine (HW.out _).mono ?_); rintro x w4 ⟨rfl, rfl⟩)
          | (go_at_call 45; (with_reducible refine (HWd.out _).mono ?_); rintro x w4 ⟨rfl, rfl⟩))
        rename_i hHeld
        have HB4 : Hid (Below w.heap.size w w4) := Lib.hid (HB2.out.trans (hBE.mono HB2.out.size)); have HC4 := Lib.hid (HC2.out.on hBE)
        clear hHeld hBE hb HALL
        obtain ⟨c0, c1, c2, c3, c4⟩ := HC4.out.five
        by_cases h31 : n2 = 31
        · have HRR := Lib.hid (HR.out.symm.trans (if_pos h31))
          have x31 : ((n2 : Int) == 31) = true := by simp; omega
          clear HR h31
          go_wp2_with fail
          refine (HA2.out _).mono ?_
          rintro x w5 ⟨⟨A, c', rfl, _⟩, hb⟩
          have HB5 : Hid (Below w.heap.size w w5) := Lib.hid (HB4.out.trans (hb.mono HB4.out.size))
          clear hb
          go_wp2_with fail
          go_ret
          exact ⟨by rw [HRR.out]; rfl, HB5.out⟩
        · have HR2 := HR.out.symm.trans (if_neg h31)
          have x31 : ((n2 : Int) == 31) = false := by simp; omega
          by_cases h7 : n4 = 7
          · have HRR := Lib.hid (HR2.trans (if_pos h7))
            have x7 : ((n4 : Int) == 7) = true := by simp; omega
            clear HR HR2 h31 h7
            go_wp2_with fail
            refine (HA2.out _).mono ?_
            rintro x w5 ⟨⟨A, c', rfl, _⟩, hb⟩
            have HB5 : Hid (Below w.heap.size w w5) := Lib.hid (HB4.out.trans (hb.mono HB4.out.size)); have HC5 := Lib.hid (HC4.out.on hb)
            clear hb c0 c1 c2 c3 c4
            obtain ⟨c0, c1, c2, c3, c4⟩ := HC5.out.five
            go_wp2_with fail
            refine (HA4.out _).mono ?_
            rintro x w6 ⟨⟨A, c', rfl, _⟩, hb⟩
            have HB6 : Hid (Below w.heap.size w w6) := Lib.hid (HB5.out.trans (hb.mono HB5.out.size))
            clear hb
            go_wp2_with fail
            go_ret
            exact ⟨by rw [HRR.out]; rfl, HB6.out⟩
          · have HRR := Lib.hid (HR2.trans (if_neg h7))
            have x7 : ((n4 : Int) == 7) = false := by simp; omega
            clear HR HR2 h31 h7
            go_wp2_with fail
            refine (HA2.out _).mono ?_
            rintro x w5 ⟨⟨A, c', rfl, _⟩, hb⟩
            have HB5 : Hid (Below w.heap.size w w5) := Lib.hid (HB4.out.trans (hb.mono HB4.out.size)); have HC5 := Lib.hid (HC4.out.on hb)
            clear hb c0 c1 c2 c3 c4
            obtain ⟨c0, c1, c2, c3, c4⟩ := HC5.out.five
            go_wp2_with fail
            refine (HA4.out _).mono ?_
            rintro x w6 ⟨⟨A, c', rfl, _⟩, hb⟩
            have HB6 : Hid (Below w.heap.size w w6) := Lib.hid (HB5.out.trans (hb.mono HB5.out.size))
            clear hb
            cases p <;>
              (go_wp2_with fail
               go_ret
               exact ⟨by rw [HRR.out]; rfl, HB6.out⟩)
    · have HRt := Lib.hid (fun W => D.right_no y m n W hr)
      have hrb : rightB y m n = false := by rw [← Bool.not_eq_true]; exact fun h => hr ((rightB_iff y m n).1 h)
      have hz : dayZ [a, b, c, d, e] y m n = false := by unfold dayZ; rw [hrb]; simp
      unfold D.dateV at HRt
      rw [hz]
      clear hz hrb hr hcr
      go_enter Tryz.func19, Tryz.ntmps19
      go_wp2_with fail
      rw [← hWB]
      clear hWB
      refine (HK.out _).mono ?_
      rintro x w1 ⟨rfl, hb⟩
      have HB1 := Lib.hid (hb0.trans (hb.mono hb0.size)); have HC1 := Lib.hid (hc0.on hb); have HD1 := Lib.hid (D.Box.belowAll hd0 hb)
      clear hb hb0 hc0 hd0
      obtain ⟨c0, c1, c2, c3, c4⟩ := HC1.out.five
      obtain ⟨d0, d1, d2, _, _, _⟩ := D.Box.three HD1.out
      go_wp2_with fail
      refine (HRt.out _).mono ?_
      rintro x w2 ⟨rfl, hb⟩
      have HB2 : Hid (Below w.heap.size w w2) := Lib.hid (HB1.out.trans (hb.mono HB1.out.size))
      clear hb
      go_wp2_with fail
      go_ret
      exact ⟨rfl, HB2.out⟩
set_option maxRecDepth 100000 in
set_option maxHeartbeats 2000000 in
theorem rat7_is (L : List (BitVec 64)) (t y m n h mi s : Int) (w : World) (h5 : L.length = 5) (hc : D.CivOf t y m n h mi s) :
    Calls Tryz.prog 21 #[cronV L, .int .i64 t] w fun x w' => x = .returned (.bool (atZ L y m n h mi s)) ∧ Below w.heap.size w w' := by
  have HY := Lib.hid (fun W => D.timeR_yes t W hc.timeZ)
  have HT := Lib.hid (fun W => D.tatR_is t y m n h mi s W hc)
  have HD := Lib.hid (fun W => rday7_any L y m n W h5)
  have htm := hc.time
  have hs0 : s = t % 60 := htm.2.2.2.2.2.symm
  have ht0 := htm.1
  obtain ⟨a, b, c, d, e, rfl⟩ := list_five h5
  rw [cronV_five] at *
  unfold fiveV at *
  have hz : atZ [a, b, c, d, e] y m n h mi s = (dayZ [a, b, c, d, e] y m n && (hasB b h && hasB a mi) && decide (s = 0)) := by
    show (decide (s = 0) && (hasB a mi && (hasB b h && dayZ [a, b, c, d, e] y m n))) = _
    cases decide (s = 0) <;> cases hasB a mi <;> cases hasB b h <;> cases dayZ [a, b, c, d, e] y m n <;> rfl
  rw [hz]
  clear hz htm hc
  generalize dayZ [a, b, c, d, e] y m n = dz at *
  have hb0 : Below w.heap.size w (w.alloc (.cells #[.int .u64 (U a), .int .u64 (U b), .int .u64 (U c), .int .u64 (U d), .int .u64 (U e)] 27)) := (Below.refl _ w).alloc (Nat.le_refl _) _
  have hc0 := CronAt.new w a b c d e
  have HM := Lib.hid (fun W => rhas_any a mi W); have HH := Lib.hid (fun W => rhas_any b h W)
  by_cases hs : s = 0
  · have htm : t.tmod 60 = 0 := by rw [D.tmod_zero]; omega
    have htm2 : t % 60 = 0 := by omega
    rw [decide_eq_true hs, Bool.and_true]
    clear hs hs0
    obtain ⟨r, hr0⟩ : ∃ r : Bool, (dz && (hasB b h && hasB a mi)) = r := ⟨_, rfl⟩
    rw [hr0]
    have HR := Lib.hid hr0
    clear hr0
    generalize hasB b h = p at *
    generalize hasB a mi = q at *
    go_enter Tryz.func21, Tryz.ntmps21
    go_wp2_with fail
    generalize w.alloc _ = w0 at *
    refine (HY.out _).mono ?_
    rintro x w1 ⟨rfl, rfl⟩
    go_wp2_with fail
    refine (HT.out _).mono ?_
    rintro x w1 ⟨rfl, hb⟩
    have HB1 := Lib.hid (hb0.trans (hb.mono hb0.size)); have HC1 := Lib.hid (hc0.on hb)
    have hlt := HC1.out.lt
    clear hb hb0 hc0 HT HY
    obtain ⟨c0, c1, c2, c3, c4⟩ := HC1.out.five
    go_wp2_with fail
    have hF : ∃ W : World, W = w1.alloc (.cells #[.int .i64 y, .int .i64 m, .int .i64 n, .int .i64 h, .int .i64 mi, .int .i64 s] 55) ∧ Below w.heap.size w W ∧ CronAt W w.heap.size [a, b, c, d, e] ∧ D.Box W w1.heap.size 55 #[.int .i64 y, .int .i64 m, .int .i64 n, .int .i64 h, .int .i64 mi, .int .i64 s] :=
      ⟨_, rfl, HB1.out.alloc HB1.out.size _, HC1.out.alloc _, D.Box.new _ _ _⟩
    obtain ⟨W2, hW2, hb2, hc2, hd2⟩ := hF
    rw [← hW2]
    clear hW2 c0 c1 c2 c3 c4
    refine (HD.out _).mono ?_
    rintro x w3 ⟨rfl, hb⟩
    have HB3 := Lib.hid (hb2.trans (hb.mono hb2.size)); have HC3 := Lib.hid (hc2.on hb); have HX3 := Lib.hid (D.Box.belowAll hd2 hb)
    clear hb hb2 hc2 hd2 HD HB1
    obtain ⟨c0, c1, c2, c3, c4⟩ := HC3.out.five
    have k3 : w3.cell? ⟨w1.heap.size, 3, none⟩ = some (.int .i64 h) := D.Box.cell HX3.out 3
    have k4 : w3.cell? ⟨w1.heap.size, 4, none⟩ = some (.int .i64 mi) := D.Box.cell HX3.out 4
    cases dz with
    | false =>
      go_wp2_with fail
      go_ret
      exact ⟨by rw [← HR.out]; rfl, HB3.out⟩
    | true =>
      cases p with
      | false =>
        go_wp2_with fail
        refine (HH.out _).mono ?_
        rintro x w4 ⟨rfl, rfl⟩
        go_wp2_with fail
        go_ret
        exact ⟨by rw [← HR.out]; rfl, HB3.out⟩
      | true =>
        go_wp2_with fail
        refine (HH.out _).mono ?_
        rintro x w4 ⟨rfl, rfl⟩
        go_wp2_with fail
        refine (HM.out _).mono ?_
        rintro x w4 ⟨rfl, rfl⟩
        go_wp2_with fail
        go_ret
        exact ⟨by rw [← HR.out]; rfl, HB3.out⟩
  · have htm : ¬ t.tmod 60 = 0 := by rw [D.tmod_zero]; omega
    have htm2 : (t % 60 == 0) = false := by rw [beq_eq_false_iff_ne]; omega
    have htm3 : ¬ t % 60 = 0 := by omega
    have htm4 : (t.tmod 60 == 0) = false := by rw [beq_eq_false_iff_ne]; exact htm
    rw [decide_eq_false hs, Bool.and_false]
    clear hs hs0
    go_enter Tryz.func21, Tryz.ntmps21
    go_wp2_with fail
    generalize w.alloc _ = w0 at *
    refine (HY.out _).mono ?_
    rintro x w1 ⟨rfl, rfl⟩
    go_wp2_with fail
    go_ret
    exact ⟨rfl, hb0⟩
theorem rat7_no (L : List (BitVec 64)) (t : Int) (w : World) (h5 : L.length = 5) (hc : ¬ D.TimeZ t) :
    Calls Tryz.prog 21 #[cronV L, .int .i64 t] w fun x w' => x = .returned (.bool false) ∧ Below w.heap.size w w' := by
  have HY := Lib.hid (fun W => D.timeR_no t W hc)
  clear hc
  obtain ⟨a, b, c, d, e, rfl⟩ := list_five h5
  rw [cronV_five] at *
  unfold fiveV at *
  have hb0 : Below w.heap.size w (w.alloc (.cells #[.int .u64 (U a), .int .u64 (U b), .int .u64 (U c), .int .u64 (U d), .int .u64 (U e)] 27)) := (Below.refl _ w).alloc (Nat.le_refl _) _
  go_enter Tryz.func21, Tryz.ntmps21
  go_wp2_with fail
  generalize w.alloc _ = w0 at *
  refine (HY.out _).mono ?_
  rintro x w1 ⟨rfl, rfl⟩
  go_wp2_with fail
  go_ret
  exact ⟨rfl, hb0⟩
end Go.Proofs.YtmjjdccpnepjjaaGreatDoor
