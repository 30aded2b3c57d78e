/- DaysBack: dates and their numbers lead back to one another. -/
import Derived.Test.YtglmonjpcgadnaaDoorDWakes
namespace Go.Proofs.YtglmonjpcgadnaaDoor
open Go.RowKit

theorem date_block (w : World) (y m d : Int) : (w.alloc (dateO y m d)).cell? ⟨w.heap.size, 0, none⟩ = some (.int .i64 y) ∧ (w.alloc (dateO y m d)).cell? ⟨w.heap.size, 1, none⟩ = some (.int .i64 m) ∧ (w.alloc (dateO y m d)).cell? ⟨w.heap.size, 2, none⟩ = some (.int .i64 d) ∧ w.heap.size < (w.alloc (dateO y m d)).heap.size := by
  unfold dateO
  refine ⟨by simp, by simp, by simp, by simp⟩
theorem wrap64_of (x : Int) (h0 : 0 ≤ x) (h1 : x ≤ 2932897) : wrap64 x = x := by unfold wrap64; omega
theorem mod_in (n c : Int) (h0 : 0 < c) (h1 : c ≤ 2932897) : 0 ≤ wrap64 ((IntKind.u64.wrap n).tmod c) ∧ wrap64 ((IntKind.u64.wrap n).tmod c) < c := by
  have h2 : 0 ≤ IntKind.u64.wrap n := by rw [IntKind.wrap_u64]; omega
  rw [Int.tmod_eq_emod_of_nonneg h2]
  have h3 := Int.emod_nonneg (IntKind.u64.wrap n) (show c ≠ 0 by omega)
  have h4 := Int.emod_lt_of_pos (IntKind.u64.wrap n) h0
  rw [wrap64_of _ (by omega) (by omega)]
  exact ⟨h3, h4⟩
/-- A date stands in block g. -/
def DateAt (w : World) (g : Nat) (y m d : Int) : Prop := Box w g 26 #[.int .i64 y, .int .i64 m, .int .i64 d]
theorem DateAt.new (w : World) (y m d : Int) : DateAt (w.alloc (dateO y m d)) w.heap.size y m d := Box.new _ _ _
theorem DateAt.cells {w : World} {g : Nat} {y m d : Int} (h : DateAt w g y m d) : w.cell? ⟨g, 0, none⟩ = some (.int .i64 y) ∧ w.cell? ⟨g, 1, none⟩ = some (.int .i64 m) ∧ w.cell? ⟨g, 2, none⟩ = some (.int .i64 d) := ⟨h.cell 0, h.cell 1, h.cell 2⟩
theorem DateAt.on {w w' : World} {g : Nat} {y m d : Int} (h : DateAt w g y m d) (hb : Below w.heap.size w w') : DateAt w' g y m d := Box.belowAll h hb
theorem DateAt.lt {w : World} {g : Nat} {y m d : Int} (h : DateAt w g y m d) : g < w.heap.size := Box.lt h
theorem DateAt.alloc {w : World} {g : Nat} {y m d : Int} (h : DateAt w g y m d) (o : Obj) : DateAt (w.alloc o) g y m d := Box.alloc h o
set_option maxRecDepth 100000 in
theorem back_walk (y m d n : Int) (w : World) (hL : Laid w) :
    Calls Tryd.prog 6 #[dateV y m d, .int .i64 n] w fun e w' => e = .returned (.bool true) ∧ Below w.heap.size w w' := by
  have hA := DateAt.new w y m d
  have hB : Below w.heap.size w (w.alloc (dateO y m d)) := (Below.refl _ w).alloc (Nat.le_refl _) _
  have hL1 := hL.alloc (dateO y m d)
  have hwk := wakes_any _ hL1
  unfold dateV
  unfold dateO at *
  have HW := Lib.hid hwk
  have HA := Lib.hid hA; have HB := Lib.hid hB; have HL := Lib.hid hL1
  clear hwk hA hB hL hL1
  go_enter Tryd.func6, Tryd.ntmps6
  go_wp2_with fail
  refine HW.out.mono ?_
  rintro e w2 ⟨rfl, hb⟩
  have hA := HA.out.on hb
  obtain ⟨c0, c1, c2⟩ := hA.cells
  have HA2 := Lib.hid hA
  have HL2 := Lib.hid (HL.out.on hb)
  have HB2 := Lib.hid (HB.out.trans (hb.mono HB.out.size))
  clear HW HA HB HL hb hA
  go_wp2_with fail
  by_cases hr : RightZ y m d
  · have hof := fun w h => of_ok y m d w h hr
    unfold dateV at hof
    have hnr := num_range hr
    refine (hof w2 HL2.out).mono ?_
    rintro e w3 ⟨rfl, hb⟩
    have hA := HA2.out.on hb
    have HA3 := Lib.hid hA
    have HL3 := Lib.hid (HL2.out.on hb)
    have HB3 := Lib.hid (HB2.out.trans (hb.mono HB2.out.size))
    clear HA2 HL2 HB2 hb hA c0 c1 c2 hof
    have HR := Lib.hid hr
    obtain ⟨q0, q1⟩ := hnr
    generalize hN : numZ y m d = N at *
    have HN := Lib.hid hN
    clear hN hr
    go_wp2_with fail
    refine (at_ok N w3 HL3.out q0 q1).mono ?_
    rintro e w4 ⟨y', m', d', rfl, hR', hN', hb⟩
    obtain ⟨rfl, rfl, rfl⟩ := num_inj hR' HR.out (hN'.trans HN.out.symm)
    unfold dateV
    have hA := (HA3.out.on hb).alloc (dateO y' m' d')
    have hX := DateAt.new w4 y' m' d'
    have HL4 := Lib.hid ((HL3.out.on hb).alloc (dateO y' m' d'))
    have HB4 := Lib.hid ((HB3.out.trans (hb.mono HB3.out.size)).alloc (HB3.out.trans (hb.mono HB3.out.size)).size (dateO y' m' d'))
    unfold dateO at *
    obtain ⟨c0, c1, c2⟩ := hA.cells
    obtain ⟨x0, x1, x2⟩ := hX.cells
    clear HA3 HL3 HB3 hb hR' hN' hX hA
    go_wp2_with fail
    obtain ⟨k0, k1⟩ := mod_in n 2932897 (by omega) (by omega)
    generalize wrap64 ((IntKind.u64.wrap n).tmod 2932897) = K at *
    refine (at_ok K _ HL4.out k0 (by omega)).mono ?_
    rintro e w5 ⟨y5, m5, d5, rfl, hR5, hN5, hb⟩
    have hb5 := HB4.out.trans (hb.mono HB4.out.size)
    have hL5 := (HL4.out.on hb).alloc (dateO y5 m5 d5)
    have hB5 := hb5.alloc hb5.size (dateO y5 m5 d5)
    have hX := DateAt.new w5 y5 m5 d5
    have hof := of_ok y5 m5 d5 _ hL5 hR5
    rw [hN5] at hof
    have HC := Lib.hid (fun w h => check_ok y5 m5 d5 w h hR5)
    unfold dateV
    unfold dateV at hof
    unfold dateO at *
    obtain ⟨x0, x1, x2⟩ := hX.cells
    have HO := Lib.hid hof
    have HX := Lib.hid hX
    have HL5 := Lib.hid hL5
    have HB5 := Lib.hid hB5
    clear hof hX hL5 hB5 hb5 hb hN5 hR5 c0 c1 c2 HL4 HB4
    go_wp2_with fail
    refine HO.out.mono ?_
    rintro e w6 ⟨rfl, hb⟩
    have hX := HX.out.on hb
    have hL6 := HL5.out.on hb
    have hB6 := HB5.out.trans (hb.mono HB5.out.size)
    have hck := HC.out w6 hL6
    unfold dateV at hck
    have HCK := Lib.hid hck
    have HB6 := Lib.hid hB6
    clear x0 x1 x2 HO HL5 HB5 hL6 hck hB6 HC HX
    obtain ⟨x0, x1, x2⟩ := hX.cells
    clear hb hX
    go_wp2_with fail
    refine HCK.out.mono ?_
    rintro e w7 ⟨rfl, hb⟩
    have HB7 := Lib.hid (HB6.out.trans (hb.mono HB6.out.size))
    clear HCK HB6 x0 x1 x2 hb
    go_wp2_with fail
    go_ret
    exact ⟨rfl, HB7.out⟩
  · have hof := fun w h => of_no y m d w h hr
    unfold dateV at hof
    refine (hof w2 HL2.out).mono ?_
    rintro e w3 ⟨rfl, hb⟩
    have HL3 := Lib.hid (HL2.out.on hb)
    have HB3 := Lib.hid (HB2.out.trans (hb.mono HB2.out.size))
    clear HA2 HL2 HB2 hb c0 c1 c2 hof hr
    go_wp2_with fail
    obtain ⟨k0, k1⟩ := mod_in n 2932897 (by omega) (by omega)
    generalize wrap64 ((IntKind.u64.wrap n).tmod 2932897) = K at *
    refine (at_ok K _ HL3.out k0 (by omega)).mono ?_
    rintro e w5 ⟨y5, m5, d5, rfl, hR5, hN5, hb⟩
    have hb5 := HB3.out.trans (hb.mono HB3.out.size)
    have hL5 := (HL3.out.on hb).alloc (dateO y5 m5 d5)
    have hB5 := hb5.alloc hb5.size (dateO y5 m5 d5)
    have hX := DateAt.new w5 y5 m5 d5
    have hof := of_ok y5 m5 d5 _ hL5 hR5
    rw [hN5] at hof
    have HC := Lib.hid (fun w h => check_ok y5 m5 d5 w h hR5)
    unfold dateV
    unfold dateV at hof
    unfold dateO at *
    obtain ⟨x0, x1, x2⟩ := hX.cells
    have HO := Lib.hid hof
    have HX := Lib.hid hX
    have HL5 := Lib.hid hL5
    have HB5 := Lib.hid hB5
    clear hof hX hL5 hB5 hb5 hb hN5 hR5 HL3 HB3
    go_wp2_with fail
    refine HO.out.mono ?_
    rintro e w6 ⟨rfl, hb⟩
    have hX := HX.out.on hb
    have hL6 := HL5.out.on hb
    have hB6 := HB5.out.trans (hb.mono HB5.out.size)
    have hck := HC.out w6 hL6
    unfold dateV at hck
    have HCK := Lib.hid hck
    have HB6 := Lib.hid hB6
    clear x0 x1 x2 HO HL5 HB5 hL6 hck hB6 HC HX
    obtain ⟨x0, x1, x2⟩ := hX.cells
    clear hb hX
    go_wp2_with fail
    refine HCK.out.mono ?_
    rintro e w7 ⟨rfl, hb⟩
    have HB7 := Lib.hid (HB6.out.trans (hb.mono HB6.out.size))
    clear HCK HB6 x0 x1 x2 hb
    go_wp2_with fail
    go_ret
    exact ⟨rfl, HB7.out⟩
end Go.Proofs.YtglmonjpcgadnaaDoor
