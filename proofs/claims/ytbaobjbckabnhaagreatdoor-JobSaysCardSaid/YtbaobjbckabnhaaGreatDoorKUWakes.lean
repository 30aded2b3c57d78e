/- The law's wakes: walked. -/
import Derived.Test.YtbaobjbckabnhaaGreatDoorK8
import Derived.Test.YtbaobjbckabnhaaGreatDoorKUWish
import Derived.Test.YtbaobjbckabnhaaGreatDoorKUWithin
import Derived.Test.YtbaobjbckabnhaaGreatDoorKUWakeP
namespace Go.Proofs.YtbaobjbckabnhaaGreatDoor
open Go.RowKit

def hourlyJ : JobZ := ⟨7, false, hourlyL, 0, 0, 1, 3⟩
def aloneJ : JobZ := ⟨7, true, nilF, 90, 0, 0, 0⟩
theorem hourly_fit : hourlyJ.Fit := ⟨by decide, by decide, rfl⟩
theorem alone_fit : aloneJ.Fit := ⟨by decide, by decide, rfl⟩
theorem ev_hourly {ev : List (BitVec 64) → Bool} (hev : EvIs ev) : ev hourlyL = true := (hev _).2 hourly_ever
theorem ev_never {ev : List (BitVec 64) → Bool} (hev : EvIs ev) : ev neverL = false := by
  cases h : ev neverL with
  | false => rfl
  | true => exact absurd ((hev _).1 h) never_never
theorem of_hourly {ev : List (BitVec 64) → Bool} (hev : EvIs ev) : ofZ ev ⟨7, [64, 104, 111, 117, 114, 108, 121], 0, 0, 1, 3⟩ = (hourlyJ, 0) := by
  have hr : readE [64, 104, 111, 117, 114, 108, 121] = (some hourlyL, 0) := by unfold readE; rw [if_neg (by decide), w_hourly]
  unfold ofZ
  rw [if_neg (by decide), if_neg (by decide)]
  simp only [hr, ev_hourly hev, Bool.true_eq_false, if_false]
  rfl
theorem of_never {ev : List (BitVec 64) → Bool} (hev : EvIs ev) : ofZ ev ⟨7, [48, 32, 48, 32, 51, 49, 32, 50, 32, 42], 0, 0, 0, 0⟩ = (zeroJ, 201) := by
  have hr : readE [48, 32, 48, 32, 51, 49, 32, 50, 32, 42] = (some neverL, 0) := by unfold readE; rw [if_neg (by decide), w_never]
  unfold ofZ
  rw [if_neg (by decide), if_neg (by decide)]
  simp only [hr, ev_never hev, if_true]
theorem hourly_err {ev : List (BitVec 64) → Bool} (hev : EvIs ev) : hourlyJ.err ev = 0 := err_is (by decide) (.inr ⟨rfl, hourly_ok, ev_hourly hev⟩)
theorem of_alone (ev : List (BitVec 64) → Bool) : ofZ ev ⟨7, [], 90, 0, 0, 0⟩ = (aloneJ, 0) := by
  unfold ofZ
  rw [if_neg (by decide), if_pos rfl]
  rfl
theorem alone_err (ev : List (BitVec 64) → Bool) : aloneJ.err ev = 0 := err_is (by decide) (.inl ⟨rfl, rfl⟩)
theorem first_alone {t : Int} {ok : Bool} (ev : List (BitVec 64) → Bool) (h : FirstT (aloneJ.TT ev) 89 t ok) : t = 90 ∧ ok = true := by
  rw [TT_ok (alone_err ev), T_once rfl] at h
  exact firstT_one (firstT_alone 90 89) h
theorem times_hourly {ev : List (BitVec 64) → Bool} (hev : EvIs ev) {B : Nat} {x : Ending} {w : World} (h : TimesIs ev hourlyJ 0 7200 9 B x w) : ∃ y : Value, x = .returned (.tuple #[y, .int .i64 0]) ∧ w.ownsRow B 2 1 y 2 [.int .i64 3600, .int .i64 7200] := by
  rcases h with ⟨h, _⟩ | ⟨_, h, _⟩ | ⟨_, _, _, y, l, rfl, hr, hc⟩
  · exact absurd (hourly_err hev) h
  · omega
  · rw [T_cron rfl] at hc
    obtain rfl := chain_one _ _ _ _ _ hourly_chain hc
    exact ⟨y, rfl, hr⟩
theorem idle_hourly {ev : List (BitVec 64) → Bool} (hev : EvIs ev) {z : Bool} (h : IdleIs ev hourlyJ 0 3599 z) : z = true := by
  rcases h with ⟨h, _⟩ | ⟨_, l, hc, rfl⟩
  · exact absurd (hourly_err hev) h
  · rw [T_cron rfl] at hc
    obtain rfl := chain_one _ _ _ _ _ hourly_idle hc
    rfl
set_option maxRecDepth 100000 in
set_option maxHeartbeats 4000000 in
theorem jwakes_any (ev : List (BitVec 64) → Bool) (hev : EvIs ev) (w : World) (hL : LaidC w) :
    Calls Tryz.prog 8 #[] w fun e w' => e = .returned (.bool true) ∧ Below w.heap.size w w' := by
  have H1 := Lib.hid (fun W hW => jof_any ev hev ⟨7, [64, 104, 111, 117, 114, 108, 121], 0, 0, 1, 3⟩ W hW ⟨by decide, by decide⟩ (by decide))
  have H2 := Lib.hid (fun W hW => jof_any ev hev ⟨7, [], 90, 0, 0, 0⟩ W hW ⟨by decide, by decide⟩ (by decide))
  have H3 := Lib.hid (fun W hW => jof_any ev hev ⟨7, [48, 32, 48, 32, 51, 49, 32, 50, 32, 42], 0, 0, 0, 0⟩ W hW ⟨by decide, by decide⟩ (by decide))
  have HT := Lib.hid (fun W hW => jtimes_any ev hev hourlyJ 0 7200 9 W hW hourly_fit)
  have HF := Lib.hid (fun W hW => jfirst_any ev hev aloneJ 89 W hW alone_fit)
  have HI := Lib.hid (fun W hW => jidle_any ev hev hourlyJ 0 3599 W hW hourly_fit)
  have HX1 := Lib.hid (fun B x w h => @times_hourly ev hev B x w h)
  have HX2 := Lib.hid (fun t ok h => @first_alone t ok ev h)
  have HX3 := Lib.hid (fun z h => @idle_hourly ev hev z h)
  rw [of_hourly hev] at H1
  rw [of_alone ev] at H2
  rw [of_never hev] at H3
  simp only at H1 H2 H3
  rw [wishV_six] at H1 H2 H3
  have hj1 : jobV hourlyJ = .agg #[.int .u32 7, .bool false, .int .u64 1, .int .u64 16777215, .int .u64 4294967294, .int .u64 8190, .int .u64 127, .int .i64 0, .int .i64 0, .int .i64 1, .int .i64 3] := rfl
  have hj2 : jobV aloneJ = .agg #[.int .u32 7, .bool true, .int .u64 0, .int .u64 0, .int .u64 0, .int .u64 0, .int .u64 0, .int .i64 90, .int .i64 0, .int .i64 0, .int .i64 0] := rfl
  have hj3 : jobV zeroJ = .agg #[.int .u32 0, .bool false, .int .u64 0, .int .u64 0, .int .u64 0, .int .u64 0, .int .u64 0, .int .i64 0, .int .i64 0, .int .i64 0, .int .i64 0] := rfl
  rw [hj1] at H1 HT HI
  rw [hj2] at H2 HF
  rw [hj3] at H3
  unfold spanV at HT HI
  have HL := Lib.hid hL
  clear hL hev hj1 hj2 hj3
  go_enter Tryz.func8, Tryz.ntmps8
  go_wp2_with fail
  refine (H1.out _ HL.out).mono ?_
  rintro x w1 ⟨rfl, hb⟩
  have HB1 := Lib.hid hb
  obtain ⟨w2, hw2, hb2, hx2⟩ : ∃ W : World, W = w1.alloc (.cells #[.int .u32 7, .bool false, .int .u64 1, .int .u64 16777215, .int .u64 4294967294, .int .u64 8190, .int .u64 127, .int .i64 0, .int .i64 0, .int .i64 1, .int .i64 3] 33) ∧ Below w1.heap.size w1 W ∧ D.Box W w1.heap.size 33 #[.int .u32 7, .bool false, .int .u64 1, .int .u64 16777215, .int .u64 4294967294, .int .u64 8190, .int .u64 127, .int .i64 0, .int .i64 0, .int .i64 1, .int .i64 3] := ⟨_, rfl, (Below.refl _ w1).alloc (Nat.le_refl _) _, D.Box.new _ _ _⟩
  have HB2 := Lib.hid (HB1.out.trans (hb2.mono HB1.out.size)); have HJ2 := Lib.hid hx2
  clear hb hb2 hx2
  go_wp2_with fail
  rw [← hw2]
  refine (H2.out _ (HL.out.on HB2.out)).mono ?_
  rintro x w3 ⟨rfl, hb⟩
  have HB3 := Lib.hid (HB2.out.trans (hb.mono HB2.out.size)); have HJ3 := Lib.hid (D.Box.belowAll HJ2.out hb)
  obtain ⟨w4, hw4, hb4, hx4⟩ : ∃ W : World, W = w3.alloc (.cells #[.int .u32 7, .bool true, .int .u64 0, .int .u64 0, .int .u64 0, .int .u64 0, .int .u64 0, .int .i64 90, .int .i64 0, .int .i64 0, .int .i64 0] 33) ∧ Below w3.heap.size w3 W ∧ D.Box W w3.heap.size 33 #[.int .u32 7, .bool true, .int .u64 0, .int .u64 0, .int .u64 0, .int .u64 0, .int .u64 0, .int .i64 90, .int .i64 0, .int .i64 0, .int .i64 0] := ⟨_, rfl, (Below.refl _ w3).alloc (Nat.le_refl _) _, D.Box.new _ _ _⟩
  have HB4 := Lib.hid (HB3.out.trans (hb4.mono HB3.out.size)); have HJ4 := Lib.hid (D.Box.belowAll HJ3.out hb4); have HK4 := Lib.hid hx4
  clear hb hb4 hx4 HB1 HB2 HB3 HJ2 HJ3 hw2
  obtain ⟨c0, c1, c2, c3, c4, c5, c6, c7, c8, c9, c10⟩ := box_eleven HJ4.out
  rw [hw4] at c0 c1 c2 c3 c4 c5 c6 c7 c8 c9 c10
  go_wp2_with fail
  rw [← hw4]
  clear hw4 c0 c1 c2 c3 c4 c5 c6 c7 c8 c9 c10
  refine (HT.out _ (HL.out.on HB4.out)).mono ?_
  rintro x w5 ⟨hx, hb⟩
  obtain ⟨y, rfl, hr⟩ := HX1.out _ _ _ hx
  have HB5 := Lib.hid (HB4.out.trans (hb.mono HB4.out.size)); have HJ5 := Lib.hid (D.Box.belowAll HJ4.out hb); have HK5 := Lib.hid (D.Box.belowAll HK4.out hb)
  have HR5 := Lib.hid (own_low hr HB4.out.size)
  clear hb hx hr HB4 HJ4 HK4 HT HX1 H1 H2
  obtain ⟨c0, c1, c2, c3, c4, c5, c6, c7, c8, c9, c10⟩ := box_eleven HK5.out
  go_wp2_with fail
  refine (HF.out _ (HL.out.on HB5.out)).mono ?_
  rintro x w6 ⟨⟨t, ok, rfl, ht⟩, hb⟩
  obtain ⟨rfl, rfl⟩ := HX2.out t ok ht
  have HB6 := Lib.hid (HB5.out.trans (hb.mono HB5.out.size)); have HJ6 := Lib.hid (D.Box.belowAll HJ5.out hb); have HK6 := Lib.hid (D.Box.belowAll HK5.out hb)
  have HR6 := Lib.hid (own_below HR5.out hb)
  clear hb ht HB5 HJ5 HK5 HR5 HX2 HF c0 c1 c2 c3 c4 c5 c6 c7 c8 c9 c10
  go_wp2_with fail
  refine (H3.out _ (HL.out.on HB6.out)).mono ?_
  rintro x w7 ⟨rfl, hb⟩
  obtain ⟨w8, hw8, hb8, hs8⟩ : ∃ W : World, W = w7.alloc (.cells #[.int .u32 0, .bool false, .int .u64 0, .int .u64 0, .int .u64 0, .int .u64 0, .int .u64 0, .int .i64 0, .int .i64 0, .int .i64 0, .int .i64 0] 33) ∧ Below w7.heap.size w7 W ∧ W.heap.size = w7.heap.size + 1 := ⟨_, rfl, (Below.refl _ w7).alloc (Nat.le_refl _) _, by simp⟩
  have HB8 := Lib.hid ((HB6.out.trans (hb.mono HB6.out.size)).trans (hb8.mono (Nat.le_trans HB6.out.size hb.size)))
  have hb68 : Below w6.heap.size w6 w8 := hb.trans (hb8.mono hb.size)
  have HJ8 := Lib.hid (D.Box.belowAll HJ6.out hb68); have HK8 := Lib.hid (D.Box.belowAll HK6.out hb68); have HR8 := Lib.hid (own_below HR6.out hb68)
  clear hb hb8 hb68 HB6 HJ6 HK6 HR6 H3
  obtain ⟨c0, c1, c2, c3, c4, c5, c6, c7, c8, c9, c10⟩ := box_eleven HJ8.out
  obtain ⟨d0, d1, d2, d3, d4, d5, d6, d7, d8, d9, d10⟩ := box_eleven HK8.out
  obtain ⟨A, cp, rfl⟩ := own_slice0 HR8.out
  rw [hw8] at c0 c1 c2 c3 c4 c5 c6 c7 c8 c9 c10 d0 d1 d2 d3 d4 d5 d6 d7 d8 d9 d10
  go_wp2_with fail
  rw [← hw8]
  clear c0 c1 c2 c3 c4 c5 c6 c7 c8 c9 c10 d0 d1 d2 d3 d4 d5 d6 d7 d8 d9 d10
  have hB9 : Below w8.heap.size w8 (w8.alloc (.cells #[.int .i64 3600, .int .i64 7200] 2)) := (Below.refl _ w8).alloc (Nat.le_refl _) _
  have hA1 : ArrT (w8.alloc (.cells #[.int .i64 3600, .int .i64 7200] 2)) A 2 [3600, 7200] := (own_arr (l := [3600, 7200]) HR8.out).on hB9
  have hA2 : ArrT (w8.alloc (.cells #[.int .i64 3600, .int .i64 7200] 2)) (some ⟨w7.heap.size + 1, 0, none⟩) 2 [3600, 7200] := by
    rw [← hs8]
    refine ⟨rfl, fun i x h => ⟨w8.heap.size, 0, rfl, by simp, ?_⟩⟩
    have hlt := (List.getElem?_eq_some_iff.1 h).1
    have hc : i = 0 ∨ i = 1 := by simp at hlt; omega
    rcases hc with rfl | rfl
    · cases h; simp
    · cases h; simp
  have HJ9 := Lib.hid (D.Box.belowAll HJ8.out hB9)
  have HB9 := Lib.hid (HB8.out.trans (hB9.mono HB8.out.size))
  refine (equal_i64 A (some ⟨w7.heap.size + 1, 0, none⟩) 2 cp 2 [3600, 7200] _ (by unfold maxLen; omega) hA1 hA2).mono ?_
  rintro x w9 ⟨rfl, q, rfl⟩
  have HB10 := Lib.hid (bdrewN HB9.out q); have HJ10 := Lib.hid (D.Box.drewN HJ9.out q)
  clear hB9 hA1 hA2 HJ9 HB9 HJ8 HK8 HR8 HB8 hw8
  generalize (w8.alloc (.cells #[.int .i64 3600, .int .i64 7200] 2)).drewN q = w10 at *
  obtain ⟨c0, c1, c2, c3, c4, c5, c6, c7, c8, c9, c10⟩ := box_eleven HJ10.out
  go_wp2_with fail
  refine (HI.out _ (HL.out.on HB10.out)).mono ?_
  rintro x w11 ⟨z, rfl, hz, hb⟩
  obtain rfl := HX3.out z hz
  have HB11 := Lib.hid (HB10.out.trans (hb.mono HB10.out.size))
  clear hz hb HB10 HJ10 c0 c1 c2 c3 c4 c5 c6 c7 c8 c9 c10
  go_wp2_with fail
  go_ret
  exact ⟨rfl, HB11.out⟩
end Go.Proofs.YtbaobjbckabnhaaGreatDoor
