/- TimesBack, walked. -/
import Derived.Test.YtnhbkfmaaannnaaDoorEParse
import Derived.Deep.DeepCutAuto
namespace Go.Proofs.YtnhbkfmaaannnaaDoor
open Go.RowKit

theorem parse_l (l : List UInt8) (w : World) (hL : Laid w) (hl : l.length ≤ maxLen) : Calls Tryd.prog 27 #[strV l] w (ParseIs l w) := by
  have h := parse_any ⟨l.toArray⟩ w hL hl
  simpa [strV] using h
theorem tat_gen (t : Int) (w : World) (hL : Laid w) : Calls Tryd.prog 11 #[.int .i64 t] w fun e w' =>
    (∃ y m d h mi s z : Int, e = .returned (.tuple #[.agg #[.int .i64 y, .int .i64 m, .int .i64 d, .int .i64 h, .int .i64 mi, .int .i64 s], .int .i64 z]) ∧ (z = 0 ∧ CivOf t y m d h mi s ∨ z = 2 ∧ ¬ TimeZ t)) ∧ Below w.heap.size w w' := by
  refine (tat_any t w hL).mono ?_
  rintro e w' ⟨⟨y, m, d, h, mi, s, rfl, c⟩ | ⟨hn, rfl⟩, hb⟩
  · exact ⟨⟨y, m, d, h, mi, s, 0, rfl, .inl ⟨rfl, c⟩⟩, hb⟩
  · exact ⟨⟨0, 0, 0, 0, 0, 0, 2, rfl, .inr ⟨rfl, hn⟩⟩, hb⟩
theorem tof_gen (y m d h mi s : Int) (w : World) (hL : Laid w) : Calls Tryd.prog 16 #[.agg #[.int .i64 y, .int .i64 m, .int .i64 d, .int .i64 h, .int .i64 mi, .int .i64 s]] w fun e w' =>
    (∃ t z : Int, e = .returned (.tuple #[.int .i64 t, .int .i64 z]) ∧ (z = 0 ∧ CivOf t y m d h mi s ∨ z = 150 ∧ ¬ CivR y m d h mi s)) ∧ Below w.heap.size w w' := by
  refine (tof_any y m d h mi s w hL).mono ?_
  rintro e w' ⟨⟨c, rfl⟩ | ⟨hn, rfl⟩, hb⟩
  · exact ⟨⟨_, 0, rfl, .inl ⟨rfl, c.of⟩⟩, hb⟩
  · exact ⟨⟨0, 150, rfl, .inr ⟨rfl, hn⟩⟩, hb⟩
theorem parse_gen (l : List UInt8) (w : World) (hL : Laid w) (hl : l.length ≤ maxLen) : Calls Tryd.prog 27 #[strV l] w fun e w' =>
    (∃ t z : Int, e = .returned (.tuple #[.int .i64 t, .int .i64 z]) ∧ (z = 0 ∧ Says l t ∨ z = 151 ∧ ∀ t, ¬ Says l t)) ∧ Below w.heap.size w w' := by
  refine (parse_l l w hL hl).mono ?_
  rintro e w' ⟨⟨t, c, rfl⟩ | ⟨hn, rfl⟩, hb⟩
  · exact ⟨⟨t, 0, rfl, .inl ⟨rfl, c⟩⟩, hb⟩
  · exact ⟨⟨0, 151, rfl, .inr ⟨rfl, hn⟩⟩, hb⟩
set_option maxRecDepth 100000 in
set_option maxHeartbeats 2000000 in
theorem back_walk (t y m d h mi s : Int) (l : List UInt8) (w : World) (hL : Laid w) (hl : l.length ≤ maxLen) :
    Calls Tryd.prog 6 #[.int .i64 t, civV y m d h mi s, strV l] w fun e w' => e = .returned (.bool true) ∧ Below w.heap.size w w' := by
  obtain ⟨b0, bB, bs⟩ := box_civ w y m d h mi s
  have HW := Lib.hid (wakes_any _ (hL.on bB))
  have HL := Lib.hid (hL.on bB); have HX := Lib.hid b0; have HB := Lib.hid bB; have HS := Lib.hid hl; have HZ := Lib.hid bs
  unfold civO civV at *
  clear hL b0 bB bs hl
  go_enter Tryd.func6, Tryd.ntmps6
  go_wp2_with fail
  refine HW.out.mono ?_
  rintro e w2 ⟨rfl, hb⟩
  have HB2 := Lib.hid (HB.out.trans (hb.mono (Nat.le_of_lt HZ.out))); have HL2 := Lib.hid (HL.out.on hb); have HX2 := Lib.hid (HX.out.belowAll hb)
  have HZ2 := Lib.hid (show w.heap.size < w2.heap.size from HX2.out.lt)
  clear hb HB HL HX HZ HW
  go_upto_if 37 with fail
  refine (tat_gen t w2 HL2.out).mono ?_
  rintro e w3 ⟨⟨a0, a1, a2, a3, a4, a5, z, rfl, hz⟩, hb⟩
  have HB3 := Lib.hid (HB2.out.trans (hb.mono (Nat.le_of_lt HZ2.out))); have HL3 := Lib.hid (HL2.out.on hb); have HX3 := Lib.hid (HX2.out.belowAll hb); have HC := Lib.hid hz
  have HZ3 := Lib.hid (show w.heap.size < w3.heap.size from HX3.out.lt)
  clear hb HB2 HL2 HX2 HZ2 hz
  go_upto_if 37 with fail
  have hA := Box.new w3 29 #[.int .i64 a0, .int .i64 a1, .int .i64 a2, .int .i64 a3, .int .i64 a4, .int .i64 a5]
  have HB4 := Lib.hid (HB3.out.alloc HB3.out.size (.cells #[.int .i64 a0, .int .i64 a1, .int .i64 a2, .int .i64 a3, .int .i64 a4, .int .i64 a5] 29))
  have HL4 := Lib.hid (HL3.out.alloc (.cells #[.int .i64 a0, .int .i64 a1, .int .i64 a2, .int .i64 a3, .int .i64 a4, .int .i64 a5] 29))
  have HX4 := Lib.hid (HX3.out.alloc (.cells #[.int .i64 a0, .int .i64 a1, .int .i64 a2, .int .i64 a3, .int .i64 a4, .int .i64 a5] 29))
  have HA := Lib.hid hA
  clear hA HB3 HL3 HX3
  generalize w3.alloc _ = w4 at *
  generalize w3.heap.size = g at *
  go_cut [9, 10, 11, 12, 13, 14, 15, 16, 17, 18, 19, 20] from 38 to 111 (fun _ _ _ _ _ _ _ _ _ _ _ _ wx => Below w4.heap.size w4 wx)
  case first =>
    rcases HC.out with ⟨rfl, hc⟩ | ⟨rfl, hn⟩
    rotate_left
    · go_wp2_with fail
      go_meet
      exact Below.refl _ _
    obtain ⟨x0, x1, x2, x3, x4, x5, _⟩ := HA.out.six
    have HCC := Lib.hid hc
    have HT := Lib.hid hc.timeZ
    have HR := Lib.hid hc.right
    have HTM := Lib.hid hc.time
    have hof := tof_ok a0 a1 a2 a3 a4 a5 w4 HL4.out hc.r
    rw [hc.is] at hof
    have HOF := Lib.hid hof
    clear hc hof
    go_wp2_with fail
    unfold civV at HOF
    refine HOF.out.mono ?_
    rintro e w5 ⟨rfl, hb⟩
    have HB5 := Lib.hid hb; have HL5 := Lib.hid (HL4.out.on hb); have HA5 := Lib.hid (HA.out.belowAll hb)
    clear hb x0 x1 x2 x3 x4 x5 HOF
    go_wp2_with fail
    refine (text_ok t w5 HL5.out HT.out).mono ?_
    rintro e w6 ⟨b0, b1, b2, b3, b4, b5, rfl, hc, hb⟩
    obtain ⟨rfl, rfl, rfl, rfl, rfl, rfl⟩ := civ_inj hc HCC.out
    have HSY := Lib.hid (show Says (textZ b0 b1 b2 b3 b4 b5) t from ⟨_, _, _, _, _, _, hc, rfl⟩)
    have HB6 := Lib.hid (HB5.out.trans (hb.mono HB5.out.size)); have HL6 := Lib.hid (HL5.out.on hb); have HA6 := Lib.hid (HA5.out.belowAll hb)
    have hln : (textZ b0 b1 b2 b3 b4 b5).length ≤ maxLen := by rw [show (textZ b0 b1 b2 b3 b4 b5).length = 19 by rfl]; unfold maxLen; omega
    have HLN := Lib.hid hln
    clear hb hc HB5 HL5 HA5 hln
    generalize textZ b0 b1 b2 b3 b4 b5 = tx at *
    go_wp2_with fail
    refine (parse_gen tx w6 HL6.out HLN.out).mono ?_
    rintro e w7 ⟨⟨t2, z2, rfl, hz⟩, hb⟩
    rcases hz with ⟨rfl, hy⟩ | ⟨_, hn⟩
    rotate_left
    · exact absurd HSY.out (hn t)
    obtain rfl := HSY.out.one hy
    have HB7 := Lib.hid (HB6.out.trans (hb.mono HB6.out.size)); have HL7 := Lib.hid (HL6.out.on hb); have HA7 := Lib.hid (HA6.out.belowAll hb)
    clear hb hy HB6 HL6 HA6 HLN
    obtain ⟨x0, x1, x2, x3, x4, x5, _⟩ := HA7.out.six
    have hdo := of_ok b0 b1 b2 w7 HL7.out HR.out
    unfold dateV at hdo
    have HDO := Lib.hid hdo
    clear hdo
    go_wp2_with fail
    refine HDO.out.mono ?_
    rintro e w8 ⟨rfl, hb⟩
    have HB8 := Lib.hid (HB7.out.trans (hb.mono HB7.out.size))
    obtain ⟨t0, t1, tn, _, _, _⟩ := HTM.out
    rw [← tn]
    have HWD := Lib.hid (weekday_ok (t / 86400) w8 (by omega) (by omega)); have HTW := Lib.hid (tweek_ok t w8 HT.out)
    clear hb HB7 HL7 HA7 x0 x1 x2 x3 x4 x5 HDO tn
    go_wp2_with fail
    refine HWD.out.mono ?_
    rintro e w9 ⟨rfl, rfl⟩
    go_wp2_with fail
    refine HTW.out.mono ?_
    rintro e w9 ⟨rfl, rfl⟩
    go_wp2_with fail
    go_meet
    exact HB8.out
  case rest =>
    have HB5 := Lib.hid (HB4.out.trans (hcut.mono HB4.out.size)); have HL5 := Lib.hid (HL4.out.on hcut); have HX5 := Lib.hid (HX4.out.belowAll hcut)
    clear hcut HB4 HL4 HX4 HA HC
    obtain ⟨x0, x1, x2, x3, x4, x5, _⟩ := HX5.out.six
    go_upto_if 118 with fail
    refine (tof_gen y m d h mi s wc HL5.out).mono ?_
    rintro e w6 ⟨⟨t2, z2, rfl, hz⟩, hb⟩
    have HB6 := Lib.hid (HB5.out.trans (hb.mono HB5.out.size)); have HL6 := Lib.hid (HL5.out.on hb); have HX6 := Lib.hid (HX5.out.belowAll hb); have HC := Lib.hid hz
    clear hb hz HB5 HL5 HX5 x0 x1 x2 x3 x4 x5
    go_upto_if 118 with fail
    go_cut [23, 24] from 119 to 135 (fun _ _ wx => Below w6.heap.size w6 wx)
    case first =>
      rcases HC.out with ⟨rfl, hc⟩ | ⟨rfl, hn⟩
      rotate_left
      · go_wp2_with fail
        go_meet
        exact Below.refl _ _
      have HCC := Lib.hid hc
      clear hc
      go_wp2_with fail
      refine (tat_ok t2 w6 HL6.out HCC.out.timeZ).mono ?_
      rintro e w7 ⟨b0, b1, b2, b3, b4, b5, rfl, hc, hb⟩
      obtain ⟨rfl, rfl, rfl, rfl, rfl, rfl⟩ := civ_inj hc HCC.out
      have HB7 := Lib.hid hb
      obtain ⟨x0, x1, x2, x3, x4, x5, _⟩ := (HX6.out.belowAll hb).six
      have HM := Lib.hid (fun W => may_yes t2 W HCC.out.timeZ)
      have hlt : w.heap.size < w7.heap.size := (HX6.out.belowAll hb).lt
      clear hb hc
      unfold civV
      go_wp2_with fail
      refine (HM.out _).mono ?_
      rintro e w9 ⟨rfl, rfl⟩
      go_wp2_with fail
      go_meet
      exact HB7.out.alloc HB7.out.size _
    case rest =>
      have HB7 := Lib.hid (HB6.out.trans (hcut.mono HB6.out.size)); have HL7 := Lib.hid (HL6.out.on hcut)
      clear hcut HB6 HL6 HX6 HC
      go_upto_if 142 with fail
      refine (parse_gen l _ HL7.out HS.out).mono ?_
      rintro e w8 ⟨⟨t3, z3, rfl, hz⟩, hb⟩
      have HB8 := Lib.hid (HB7.out.trans (hb.mono HB7.out.size)); have HL8 := Lib.hid (HL7.out.on hb)
      clear hb HB7 HL7
      rcases hz with ⟨rfl, hy⟩ | ⟨rfl, hn⟩
      rotate_left
      · clear hn
        go_wp2_with fail
        go_ret
        exact ⟨rfl, HB8.out⟩
      have HSY := Lib.hid hy
      clear hy
      go_wp2_with fail
      refine (text_ok t3 w8 HL8.out HSY.out.time).mono ?_
      rintro e w9 ⟨b0, b1, b2, b3, b4, b5, rfl, hc, hb⟩
      have HB9 := Lib.hid (HB8.out.trans (hb.mono HB8.out.size))
      obtain ⟨c0, c1, c2, c3, c4, c5, hc', hl'⟩ := HSY.out
      obtain ⟨rfl, rfl, rfl, rfl, rfl, rfl⟩ := civ_inj hc hc'
      subst hl'
      clear hb hc hc' HB8 HL8 HSY HS
      generalize textZ b0 b1 b2 b3 b4 b5 = tx at *
      unfold strV
      go_wp2_with fail
      go_ret
      exact ⟨rfl, HB9.out⟩
end Go.Proofs.YtnhbkfmaaannnaaDoor
