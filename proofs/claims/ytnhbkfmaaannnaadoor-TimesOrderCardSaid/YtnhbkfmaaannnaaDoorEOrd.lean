/- TimesOrder, walked. -/
import Derived.Test.YtnhbkfmaaannnaaDoorERead
namespace Go.Proofs.YtnhbkfmaaannnaaDoor
open Go.RowKit

theorem text_some (t : Int) (w : World) (hL : Laid w) :
    Calls Tryd.prog 25 #[.int .i64 t] w fun e w' => (∃ l z, e = .returned (.tuple #[strV l, .int .i64 z])) ∧ Below w.heap.size w w' := by
  by_cases h : TimeZ t
  · refine (text_ok t w hL h).mono ?_
    rintro e w' ⟨y, m, d, hh, mi, s, rfl, _, hb⟩
    exact ⟨⟨_, _, rfl⟩, hb⟩
  · refine (text_no t w h).mono ?_
    rintro e w' ⟨rfl, hb⟩
    exact ⟨⟨_, _, rfl⟩, hb⟩
/-- Texts stand as their times do. -/
theorem text_two {t y m d h mi s t' y' m' d' h' mi' s' : Int} (c : CivOf t y m d h mi s) (c' : CivOf t' y' m' d' h' mi' s') :
    Op.bytesLess (textZ y m d h mi s) (textZ y' m' d' h' mi' s') = decide (t < t') ∧ ((textZ y m d h mi s == textZ y' m' d' h' mi' s') = (t == t')) := by
  refine ⟨text_lt c c', ?_⟩
  rw [Bool.eq_iff_iff, beq_iff_eq, beq_iff_eq]
  exact text_inj c c'
set_option maxRecDepth 100000 in
set_option maxHeartbeats 1000000 in
theorem order_walk (a b n : Int) (w : World) (hL : Laid w) (hb0 : I64 b) (hn0 : I64 n) :
    Calls Tryd.prog 7 #[.int .i64 a, .int .i64 b, .int .i64 n] w fun e w' => e = .returned (.bool true) ∧ Below w.heap.size w w' := by
  have HL := Lib.hid hL; have HB0 := Lib.hid hb0; have HN0 := Lib.hid hn0
  clear hL hb0 hn0
  go_enter Tryd.func7, Tryd.ntmps7
  go_wp2_with fail
  refine (wakes_any w HL.out).mono ?_
  rintro e w2 ⟨rfl, hb⟩
  have HB := Lib.hid hb; have HL2 := Lib.hid (HL.out.on hb)
  clear hb HL
  go_wp2_with fail
  by_cases ha : TimeZ a
  · refine (text_ok a w2 HL2.out ha).mono ?_
    rintro e w3 ⟨y, m, d, h, mi, s, rfl, hca, hb⟩
    have HCA := Lib.hid hca; have HB3 := Lib.hid (HB.out.trans (hb.mono HB.out.size)); have HL3 := Lib.hid (HL2.out.on hb)
    clear hca hb HB HL2
    by_cases hbt : TimeZ b
    · go_wp2_with fail
      refine (text_ok b w3 HL3.out hbt).mono ?_
      rintro e w4 ⟨y', m', d', h', mi', s', rfl, hcb, hb⟩
      have HB4 := Lib.hid (HB3.out.trans (hb.mono HB3.out.size))
      obtain ⟨q1, q2⟩ := text_two HCA.out hcb
      clear hb hcb HB3 HL3 HCA
      generalize textZ y m d h mi s = l at *
      generalize textZ y' m' d' h' mi' s' = l' at *
      unfold strV
      by_cases hS : SumZ a b
      · have HA := Lib.hid (add_ok a b w4 hS)
        have hs1 := hS.2
        have hbr : -253402300799 ≤ b ∧ b ≤ 253402300799 := by have := ha; unfold TimeZ at this hs1; omega
        obtain ⟨b0, b1⟩ := hbr
        have e3 : decide (253402300799 < b) = false := by simp; omega
        have e4 : decide (b < -253402300799) = false := by simp; omega
        by_cases hS2 : SumZ (a + b) n
        · have HA2 := Lib.hid (add_ok (a + b) n w4 hS2)
          have hs2 := hS2.2
          have hnr : -253402300799 ≤ n ∧ n ≤ 253402300799 := by unfold TimeZ at hs1 hs2; omega
          obtain ⟨n0, n1⟩ := hnr
          have e1 : decide (253402300799 < n) = false := by simp; omega
          have e2 : decide (n < -253402300799) = false := by simp; omega
          have HA3 := Lib.hid (add_ok a (b + n) w4 ⟨ha, by rw [show a + (b + n) = a + b + n by omega]; exact hs2⟩)
          rw [show a + (b + n) = a + b + n by omega] at HA3
          have HM := Lib.hid (may_yes (a + b) w4 hs1)
          clear hS hs1 hS2 hs2 ha hbt
          generalize hsg : a + b = s at *
          have HSG := Lib.hid hsg
          clear hsg
          generalize s + n = u at *
          go_wp2_with fail
          refine HA.out.mono ?_
          rintro e w5 ⟨rfl, rfl⟩
          go_wp2_with fail
          refine HA2.out.mono ?_
          rintro e w5 ⟨rfl, rfl⟩
          go_wp2_with fail
          refine HA3.out.mono ?_
          rintro e w5 ⟨rfl, rfl⟩
          go_wp2_with fail
          refine HM.out.mono ?_
          rintro e w5 ⟨rfl, rfl⟩
          go_wp2_with fail
          go_ret
          exact ⟨rfl, HB4.out⟩
        · have HA2 := Lib.hid (add_no (a + b) n w4 HN0.out hS2)
          have hs2 : ¬ TimeZ (a + b + n) := fun q => hS2 ⟨hs1, q⟩
          have hnr : (-253402300799 ≤ n ∧ n ≤ 253402300799) ∨ n < -253402300799 ∨ 253402300799 < n := by omega
          rcases hnr with ⟨n0, n1⟩ | n0 | n0
          · have e1 : decide (253402300799 < n) = false := by simp; omega
            have e2 : decide (n < -253402300799) = false := by simp; omega
            have HA3 := Lib.hid (add_no a (b + n) w4 ⟨by omega, by omega⟩ (fun q => hs2 (by have := q.2; rwa [show a + (b + n) = a + b + n by omega] at this)))
            have HM := Lib.hid (may_yes (a + b) w4 hs1)
            clear hS hs1 hS2 hs2 ha hbt
            generalize hsg : a + b = s at *
            have HSG := Lib.hid hsg
            clear hsg
            go_wp2_with fail
            refine HA.out.mono ?_
            rintro e w5 ⟨rfl, rfl⟩
            go_wp2_with fail
            refine HA2.out.mono ?_
            rintro e w5 ⟨rfl, rfl⟩
            go_wp2_with fail
            refine HA3.out.mono ?_
            rintro e w5 ⟨rfl, rfl⟩
            go_wp2_with fail
            refine HM.out.mono ?_
            rintro e w5 ⟨rfl, rfl⟩
            go_wp2_with fail
            go_ret
            exact ⟨rfl, HB4.out⟩
          · have e1 : decide (253402300799 < n) = false := by simp; omega
            have e2 : decide (n < -253402300799) = true := by simp; omega
            clear hS hs1 hS2 hs2 ha hbt
            generalize hsg : a + b = s at *
            have HSG := Lib.hid hsg
            clear hsg
            go_wp2_with fail
            refine HA.out.mono ?_
            rintro e w5 ⟨rfl, rfl⟩
            go_wp2_with fail
            refine HA2.out.mono ?_
            rintro e w5 ⟨rfl, rfl⟩
            go_wp2_with fail
            go_ret
            exact ⟨rfl, HB4.out⟩
          · have e1 : decide (253402300799 < n) = true := by simp; omega
            clear hS hs1 hS2 hs2 ha hbt
            generalize hsg : a + b = s at *
            have HSG := Lib.hid hsg
            clear hsg
            go_wp2_with fail
            refine HA.out.mono ?_
            rintro e w5 ⟨rfl, rfl⟩
            go_wp2_with fail
            refine HA2.out.mono ?_
            rintro e w5 ⟨rfl, rfl⟩
            go_wp2_with fail
            go_ret
            exact ⟨rfl, HB4.out⟩
      · have HA := Lib.hid (add_no a b w4 HB0.out hS)
        clear hS ha hbt
        go_wp2_with fail
        refine HA.out.mono ?_
        rintro e w5 ⟨rfl, rfl⟩
        go_wp2_with fail
        go_ret
        exact ⟨rfl, HB4.out⟩
    · go_wp2_with fail
      refine (text_no b w3 hbt).mono ?_
      rintro e w4 ⟨rfl, hb⟩
      have HB4 := Lib.hid (HB3.out.trans (hb.mono HB3.out.size))
      clear hb HB3 HL3 HCA
      generalize textZ y m d h mi s = l at *
      unfold strV
      by_cases hS : SumZ a b
      · have HA := Lib.hid (add_ok a b w4 hS)
        have hs1 := hS.2
        have hbr : -253402300799 ≤ b ∧ b ≤ 253402300799 := by have := ha; unfold TimeZ at this hs1; omega
        obtain ⟨b0, b1⟩ := hbr
        have e3 : decide (253402300799 < b) = false := by simp; omega
        have e4 : decide (b < -253402300799) = false := by simp; omega
        by_cases hS2 : SumZ (a + b) n
        · have HA2 := Lib.hid (add_ok (a + b) n w4 hS2)
          have hs2 := hS2.2
          have hnr : -253402300799 ≤ n ∧ n ≤ 253402300799 := by unfold TimeZ at hs1 hs2; omega
          obtain ⟨n0, n1⟩ := hnr
          have e1 : decide (253402300799 < n) = false := by simp; omega
          have e2 : decide (n < -253402300799) = false := by simp; omega
          have HA3 := Lib.hid (add_ok a (b + n) w4 ⟨ha, by rw [show a + (b + n) = a + b + n by omega]; exact hs2⟩)
          rw [show a + (b + n) = a + b + n by omega] at HA3
          have HM := Lib.hid (may_yes (a + b) w4 hs1)
          clear hS hs1 hS2 hs2 ha hbt
          generalize hsg : a + b = s at *
          have HSG := Lib.hid hsg
          clear hsg
          generalize s + n = u at *
          go_wp2_with fail
          refine HA.out.mono ?_
          rintro e w5 ⟨rfl, rfl⟩
          go_wp2_with fail
          refine HA2.out.mono ?_
          rintro e w5 ⟨rfl, rfl⟩
          go_wp2_with fail
          refine HA3.out.mono ?_
          rintro e w5 ⟨rfl, rfl⟩
          go_wp2_with fail
          refine HM.out.mono ?_
          rintro e w5 ⟨rfl, rfl⟩
          go_wp2_with fail
          go_ret
          exact ⟨rfl, HB4.out⟩
        · have HA2 := Lib.hid (add_no (a + b) n w4 HN0.out hS2)
          have hs2 : ¬ TimeZ (a + b + n) := fun q => hS2 ⟨hs1, q⟩
          have hnr : (-253402300799 ≤ n ∧ n ≤ 253402300799) ∨ n < -253402300799 ∨ 253402300799 < n := by omega
          rcases hnr with ⟨n0, n1⟩ | n0 | n0
          · have e1 : decide (253402300799 < n) = false := by simp; omega
            have e2 : decide (n < -253402300799) = false := by simp; omega
            have HA3 := Lib.hid (add_no a (b + n) w4 ⟨by omega, by omega⟩ (fun q => hs2 (by have := q.2; rwa [show a + (b + n) = a + b + n by omega] at this)))
            have HM := Lib.hid (may_yes (a + b) w4 hs1)
            clear hS hs1 hS2 hs2 ha hbt
            generalize hsg : a + b = s at *
            have HSG := Lib.hid hsg
            clear hsg
            go_wp2_with fail
            refine HA.out.mono ?_
            rintro e w5 ⟨rfl, rfl⟩
            go_wp2_with fail
            refine HA2.out.mono ?_
            rintro e w5 ⟨rfl, rfl⟩
            go_wp2_with fail
            refine HA3.out.mono ?_
            rintro e w5 ⟨rfl, rfl⟩
            go_wp2_with fail
            refine HM.out.mono ?_
            rintro e w5 ⟨rfl, rfl⟩
            go_wp2_with fail
            go_ret
            exact ⟨rfl, HB4.out⟩
          · have e1 : decide (253402300799 < n) = false := by simp; omega
            have e2 : decide (n < -253402300799) = true := by simp; omega
            clear hS hs1 hS2 hs2 ha hbt
            generalize hsg : a + b = s at *
            have HSG := Lib.hid hsg
            clear hsg
            go_wp2_with fail
            refine HA.out.mono ?_
            rintro e w5 ⟨rfl, rfl⟩
            go_wp2_with fail
            refine HA2.out.mono ?_
            rintro e w5 ⟨rfl, rfl⟩
            go_wp2_with fail
            go_ret
            exact ⟨rfl, HB4.out⟩
          · have e1 : decide (253402300799 < n) = true := by simp; omega
            clear hS hs1 hS2 hs2 ha hbt
            generalize hsg : a + b = s at *
            have HSG := Lib.hid hsg
            clear hsg
            go_wp2_with fail
            refine HA.out.mono ?_
            rintro e w5 ⟨rfl, rfl⟩
            go_wp2_with fail
            refine HA2.out.mono ?_
            rintro e w5 ⟨rfl, rfl⟩
            go_wp2_with fail
            go_ret
            exact ⟨rfl, HB4.out⟩
      · have HA := Lib.hid (add_no a b w4 HB0.out hS)
        clear hS ha hbt
        go_wp2_with fail
        refine HA.out.mono ?_
        rintro e w5 ⟨rfl, rfl⟩
        go_wp2_with fail
        go_ret
        exact ⟨rfl, HB4.out⟩
  · refine (text_no a w2 ha).mono ?_
    rintro e w3 ⟨rfl, hb⟩
    have HB3 := Lib.hid (HB.out.trans (hb.mono HB.out.size)); have HL3 := Lib.hid (HL2.out.on hb)
    clear hb HB HL2
    go_wp2_with fail
    refine (text_some b w3 HL3.out).mono ?_
    rintro e w4 ⟨⟨l, z, rfl⟩, hb⟩
    have HB4 := Lib.hid (HB3.out.trans (hb.mono HB3.out.size))
    have HA := Lib.hid (add_no a b w4 HB0.out (fun q => ha q.1))
    clear hb HB3 HL3 ha
    unfold strV
    go_wp2_with fail
    refine HA.out.mono ?_
    rintro e w5 ⟨rfl, rfl⟩
    go_wp2_with fail
    go_ret
    exact ⟨rfl, HB4.out⟩
end Go.Proofs.YtnhbkfmaaannnaaDoor
