/- wakes: walked. -/
import Derived.Test.YtmjjdccpnepjjaaGreatDoorKGAt
namespace Go.Proofs.YtmjjdccpnepjjaaGreatDoor
open Go.RowKit

theorem w_cr1 : creadV [48, 32, 57, 32, 49, 51, 32, 42, 32, 77, 79, 78, 45, 70, 82, 73] = .tuple #[.agg #[.int .u64 1, .int .u64 512, .int .u64 8192, .int .u64 8190, .int .u64 62], .int .i64 0, .int .i64 0] := creadV_some w_cron1
theorem w_cr2 : creadV [48, 32, 50, 53, 32, 42, 32, 42, 32, 42] = .tuple #[.agg #[.int .u64 0, .int .u64 0, .int .u64 0, .int .u64 0, .int .u64 0], .int .i64 2, .int .i64 170] := creadV_none w_cron2
def wakeL : List (BitVec 64) := [1#64, 512#64, 8192#64, 8190#64, 62#64]
theorem w_right : crB wakeL = true := by decide +kernel
theorem w_ct : ctextV wakeL = .tuple #[.string ⟨#[48, 32, 57, 32, 49, 51, 32, 42, 32, 49, 45, 53]⟩, .int .i64 0] := by
  unfold ctextV
  rw [w_right, if_pos rfl]
  show errT (textC 1#64 512#64 8192#64 8190#64 62#64) 0 = _
  rw [w_cron3]; rfl
theorem w_day : dayZ wakeL 2026 11 16 = true := by decide +kernel
theorem w_civ : D.CivOf 32400 1970 1 1 9 0 0 := ⟨⟨by decide, by decide, by decide, by decide⟩, by decide, by decide, by decide, by decide, by decide, by decide, by decide +kernel⟩
theorem w_at : atZ wakeL 1970 1 1 9 0 0 = true := by decide +kernel
set_option maxRecDepth 100000 in
set_option maxHeartbeats 2000000 in
theorem cwakes_any (w : World) (hL : LaidC w) :
    Calls Tryz.prog 9 #[] w fun e w' => e = .returned (.bool true) ∧ Below w.heap.size w w' := by
  have HL := Lib.hid hL
  clear hL
  have H0 := Lib.hid (fun W hW => cread_short [48, 32, 57, 32, 49, 51, 32, 42, 32, 77, 79, 78, 45, 70, 82, 73] W hW (by decide))
  have H1 := Lib.hid (fun W hW => ctext_any wakeL W hW rfl)
  have H2 := Lib.hid (fun W hW => cread_short [48, 32, 50, 53, 32, 42, 32, 42, 32, 42] W hW (by decide))
  have H3 := Lib.hid (fun W hW => cday_any wakeL 2026 11 16 W hW rfl)
  have H4 := Lib.hid (fun W hW => cat_is wakeL 32400 1970 1 1 9 0 0 W hW rfl w_civ)
  rw [w_cr1] at H0
  rw [w_ct] at H1
  rw [w_cr2] at H2
  rw [w_day] at H3
  rw [w_at] at H4
  rw [show cronV wakeL = .agg #[.int .u64 1, .int .u64 512, .int .u64 8192, .int .u64 8190, .int .u64 62] from rfl] at H1 H3 H4
  unfold strV at H0 H2
  go_enter Tryz.func9, Tryz.ntmps9
  go_wp2_with fail
  refine (H0.out _ HL.out).mono ?_
  rintro e w1 ⟨rfl, hb⟩
  have HB1 := Lib.hid hb; have HL1 := Lib.hid (HL.out.on hb)
  clear hb
  go_wp2_with fail
  have hC := CronAt.new w1 1#64 512#64 8192#64 8190#64 62#64
  simp only [show U 1#64 = 1 from rfl, show U 512#64 = 512 from rfl, show U 8192#64 = 8192 from rfl, show U 8190#64 = 8190 from rfl, show U 62#64 = 62 from rfl] at hC
  have hal := (Below.refl w1.heap.size w1).alloc (Nat.le_refl _) (.cells #[.int .u64 1, .int .u64 512, .int .u64 8192, .int .u64 8190, .int .u64 62] 27)
  have HC2 := Lib.hid hC; have HB2 := Lib.hid (HB1.out.trans (hal.mono HB1.out.size)); have HL2 := Lib.hid (HL1.out.on hal)
  have HG : Hid (w1.heap.size < (w1.alloc (.cells #[.int .u64 1, .int .u64 512, .int .u64 8192, .int .u64 8190, .int .u64 62] 27)).heap.size) := Lib.hid hC.lt
  clear hC hal
  generalize w1.alloc _ = w2 at *
  refine (H1.out _ HL2.out).mono ?_
  rintro e w3 ⟨rfl, hb⟩
  have HB3 := Lib.hid (HB2.out.trans (hb.mono HB2.out.size)); have HL3 := Lib.hid (HL2.out.on hb); have HC3 := Lib.hid (HC2.out.on hb)
  clear hb
  go_wp2_with fail
  refine (H2.out _ HL3.out).mono ?_
  rintro e w4 ⟨rfl, hb⟩
  have HB4 := Lib.hid (HB3.out.trans (hb.mono HB3.out.size)); have HL4 := Lib.hid (HL3.out.on hb); have HC4 := Lib.hid (HC3.out.on hb)
  clear hb
  obtain ⟨c0, c1, c2, c3, c4⟩ := HC4.out.five
  simp only [show U 1#64 = 1 from rfl, show U 512#64 = 512 from rfl, show U 8192#64 = 8192 from rfl, show U 8190#64 = 8190 from rfl, show U 62#64 = 62 from rfl] at c0 c1 c2 c3 c4
  have hgl := HC4.out.lt
  go_wp2_with fail
  have hal := (Below.refl w4.heap.size w4).alloc (Nat.le_refl _) (.cells #[.int .u64 0, .int .u64 0, .int .u64 0, .int .u64 0, .int .u64 0] 27)
  have HB5 := Lib.hid (HB4.out.trans (hal.mono HB4.out.size)); have HL5 := Lib.hid (HL4.out.on hal); have HC5 := Lib.hid (HC4.out.on hal)
  clear hal c0 c1 c2 c3 c4
  generalize w4.alloc _ = w5 at *
  refine (H3.out _ HL5.out).mono ?_
  rintro e w6 ⟨rfl, hb⟩
  have HB6 := Lib.hid (HB5.out.trans (hb.mono HB5.out.size)); have HL6 := Lib.hid (HL5.out.on hb); have HC6 := Lib.hid (HC5.out.on hb)
  clear hb
  obtain ⟨c0, c1, c2, c3, c4⟩ := HC6.out.five
  simp only [show U 1#64 = 1 from rfl, show U 512#64 = 512 from rfl, show U 8192#64 = 8192 from rfl, show U 8190#64 = 8190 from rfl, show U 62#64 = 62 from rfl] at c0 c1 c2 c3 c4
  go_wp2_with fail
  refine (H4.out _ HL6.out).mono ?_
  rintro e w7 ⟨rfl, hb⟩
  have HB7 := Lib.hid (HB6.out.trans (hb.mono HB6.out.size))
  clear hb
  go_wp2_with fail
  go_ret
  exact ⟨rfl, HB7.out⟩
end Go.Proofs.YtmjjdccpnepjjaaGreatDoor
