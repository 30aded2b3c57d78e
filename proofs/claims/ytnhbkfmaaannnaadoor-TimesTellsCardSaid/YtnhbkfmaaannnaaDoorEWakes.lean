/- wakes: the layer does something. -/
import Derived.Test.YtnhbkfmaaannnaaDoorEWrite
namespace Go.Proofs.YtnhbkfmaaannnaaDoor
open Go.RowKit

theorem wake_civ : CivR 2000 2 28 23 59 59 := ⟨⟨by decide, by decide, by decide, by decide⟩, by decide, by decide, by decide, by decide, by decide, by decide⟩
theorem wake_num : numZ 2000 2 28 = 11015 := by decide +kernel
theorem wake_time : timeZ 2000 2 28 23 59 59 = 951782399 := by unfold timeZ; rw [wake_num]; decide
theorem wake_text : textZ 2000 2 28 23 59 59 = [50, 48, 48, 48, 45, 48, 50, 45, 50, 56, 32, 50, 51, 58, 53, 57, 58, 53, 57] := by decide +kernel
set_option maxRecDepth 100000 in
theorem wakes_any (w : World) (hL : Laid w) :
    Calls Tryd.prog 9 #[] w fun e w' => e = .returned (.bool true) ∧ Below w.heap.size w w' := by
  have HL := Lib.hid hL
  clear hL
  go_enter Tryd.func9, Tryd.ntmps9
  go_wp2_with fail
  refine (tof_ok 2000 2 28 23 59 59 w HL.out wake_civ).mono ?_
  rintro e w2 ⟨rfl, hb⟩
  rw [wake_time]
  have HL2 := Lib.hid (HL.out.on hb); have HB2 := Lib.hid hb
  clear hb HL
  go_wp2_with fail
  refine (text_ok 951782399 w2 HL2.out ⟨by omega, by omega⟩).mono ?_
  rintro e w3 ⟨y, m, d, h, mi, s, rfl, hc, hb⟩
  have hc0 := wake_civ.of
  rw [wake_time] at hc0
  obtain ⟨rfl, rfl, rfl, rfl, rfl, rfl⟩ := civ_inj hc hc0
  rw [wake_text]
  have HB3 := Lib.hid (HB2.out.trans (hb.mono HB2.out.size))
  clear hb hc hc0 HL2 HB2
  unfold strV
  go_wp2_with fail
  refine (read_yes 100 101 w3 ⟨by omega, by omega⟩).mono ?_
  rintro e w4 ⟨rfl, rfl⟩
  rw [if_pos (by omega)]
  go_wp2_with fail
  go_ret
  exact ⟨rfl, HB3.out⟩
end Go.Proofs.YtnhbkfmaaannnaaDoor
