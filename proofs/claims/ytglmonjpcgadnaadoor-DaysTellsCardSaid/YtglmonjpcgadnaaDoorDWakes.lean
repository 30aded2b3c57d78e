/- wakes: the layer does something. -/
import Derived.Test.YtglmonjpcgadnaaDoorDAtR
namespace Go.Proofs.YtglmonjpcgadnaaDoor
open Go.RowKit

theorem right_a : RightZ 2000 3 1 := ⟨by decide, by decide, by decide, by decide⟩
theorem right_b : RightZ 1972 2 29 := ⟨by decide, by decide, by decide, by decide⟩
theorem right_c : RightZ 2024 2 28 := ⟨by decide, by decide, by decide, by decide⟩
theorem right_d : RightZ 2024 3 1 := ⟨by decide, by decide, by decide, by decide⟩
theorem num_a : numZ 2000 3 1 = 11017 := by decide +kernel
theorem num_b : numZ 1972 2 29 = 789 := by decide +kernel
theorem num_c : numZ 2024 2 28 = 19781 := by decide +kernel
theorem num_d : numZ 2024 3 1 = 19783 := by decide +kernel
set_option maxRecDepth 100000 in
theorem wakes_any (w : World) (hL : Laid w) :
    Calls Tryd.prog 9 #[] w fun e w' => e = .returned (.bool true) ∧ Below w.heap.size w w' := by
  have HL := Lib.hid hL
  clear hL
  go_enter Tryd.func9, Tryd.ntmps9
  go_wp2_with fail
  refine (of_ok 2000 3 1 w HL.out right_a).mono ?_
  rintro e w2 ⟨rfl, hb⟩
  rw [num_a]
  have HL2 := Lib.hid (HL.out.on hb)
  have HB2 := Lib.hid hb
  clear hb HL
  go_wp2_with fail
  refine (at_ok 789 w2 HL2.out (by omega) (by omega)).mono ?_
  rintro e w3 ⟨y, m, d, rfl, hR, hN, hb⟩
  obtain ⟨rfl, rfl, rfl⟩ := num_inj hR right_b (hN.trans num_b.symm)
  have HL3 := Lib.hid (HL2.out.on hb)
  have HB3 := Lib.hid (HB2.out.trans (hb.mono HB2.out.size))
  clear hb HL2 HB2 hR hN
  unfold dateV
  go_wp2_with fail
  have hb4 : Below w.heap.size w (w3.alloc (dateO 1972 2 29)) := HB3.out.alloc HB3.out.size _
  have hc0 : (w3.alloc (dateO 1972 2 29)).cell? ⟨w3.heap.size, 0, none⟩ = some (.int .i64 1972) := by unfold dateO; simp
  have hc1 : (w3.alloc (dateO 1972 2 29)).cell? ⟨w3.heap.size, 1, none⟩ = some (.int .i64 2) := by unfold dateO; simp
  have hc2 : (w3.alloc (dateO 1972 2 29)).cell? ⟨w3.heap.size, 2, none⟩ = some (.int .i64 29) := by unfold dateO; simp
  have hw := weekday_ok 3 (w3.alloc (dateO 1972 2 29)) (by omega) (by omega)
  have hL4 := HL3.out.alloc (dateO 1972 2 29)
  have hs4 : w3.heap.size < (w3.alloc (dateO 1972 2 29)).heap.size := by simp
  unfold dateO at *
  refine hw.mono ?_
  rintro e w4 ⟨rfl, rfl⟩
  generalize w3.alloc _ = w4 at *
  have HL4 := Lib.hid hL4
  have HB4 := Lib.hid hb4
  clear HL3 hL4 hb4 hw HB3
  rw [show (3 + 4 : Int) % 7 = 0 by decide]
  go_wp2_with fail
  refine (add_ok 2024 2 28 2 w4 HL4.out right_c (by rw [num_c]; omega) (by rw [num_c]; omega)).mono ?_
  rintro e w5 ⟨y, m, d, rfl, hR, hN, hb⟩
  rw [num_c] at hN
  obtain ⟨rfl, rfl, rfl⟩ := num_inj hR right_d (hN.trans num_d.symm)
  have HB5 := Lib.hid (HB4.out.trans (hb.mono HB4.out.size))
  have hd0 := (hb.cell (p := ⟨w3.heap.size, 0, none⟩) hs4).trans hc0
  have hd1 := (hb.cell (p := ⟨w3.heap.size, 1, none⟩) hs4).trans hc1
  have hd2 := (hb.cell (p := ⟨w3.heap.size, 2, none⟩) hs4).trans hc2
  have hs5 := Nat.lt_of_lt_of_le hs4 hb.size
  clear hb HL4 HB4 hR hN hc0 hc1 hc2 hs4
  unfold dateV
  go_wp2_with fail
  go_ret
  exact ⟨rfl, HB5.out.alloc HB5.out.size _⟩
end Go.Proofs.YtglmonjpcgadnaaDoor
