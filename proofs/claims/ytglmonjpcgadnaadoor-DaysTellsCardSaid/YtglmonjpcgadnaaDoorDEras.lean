/- DaysEras: four hundred years on the calendar is the same; by parts days are added as at once. -/
import Derived.Test.YtglmonjpcgadnaaDoorDGo
namespace Go.Proofs.YtglmonjpcgadnaaDoor
open Go.RowKit

theorem week_era (K : Int) : (K + 146097 + 4) % 7 = (K + 4) % 7 := by omega
theorem not_zero : ¬ RightZ 0 0 0 := fun h => by have := h.1; omega
set_option maxRecDepth 100000 in
theorem eras_walk (y m d n k : Int) (w : World) (hL : Laid w) :
    Calls Tryd.prog 8 #[dateV y m d, .int .i64 n, .int .i64 k] w fun e w' => e = .returned (.bool true) ∧ Below w.heap.size w w' := by
  have hA := DateAt.new w y m d
  have hB : Below w.heap.size w (w.alloc (dateO y m d)) := (Below.refl _ w).alloc (Nat.le_refl _) _
  have hL1 := hL.alloc (dateO y m d)
  have hwk := wakes_any _ hL1
  obtain ⟨k0, k1⟩ := mod_in n 2786800 (by omega) (by omega)
  obtain ⟨j0, j1⟩ := mod_in k 4000 (by omega) (by omega)
  unfold dateV
  unfold dateO at *
  have HW := Lib.hid hwk
  have HA := Lib.hid hA; have HB := Lib.hid hB; have HL := Lib.hid hL1
  clear hwk hA hB hL hL1
  go_enter Tryd.func8, Tryd.ntmps8
  go_wp2_with fail
  refine HW.out.mono ?_
  rintro e w2 ⟨rfl, hb⟩
  have HL2 := Lib.hid (HL.out.on hb)
  have HB2 := Lib.hid (HB.out.trans (hb.mono HB.out.size))
  have HA2 := Lib.hid (HA.out.on hb)
  clear HW HL HB HA hb
  go_wp2_with fail
  generalize wrap64 ((IntKind.u64.wrap n).tmod 2786800) = K at *
  refine (at_ok K w2 HL2.out k0 (by omega)).mono ?_
  rintro e w3 ⟨ya, ma, da, rfl, hR, hN, hb⟩
  unfold dateV
  have hb3 := HB2.out.trans (hb.mono HB2.out.size)
  have HLa := Lib.hid ((HL2.out.on hb).alloc (dateO ya ma da))
  have HBa := Lib.hid (hb3.alloc hb3.size (dateO ya ma da))
  have HAa := Lib.hid ((HA2.out.on hb).alloc (dateO ya ma da))
  have HDa := Lib.hid (DateAt.new w3 ya ma da)
  have ya1 := hR.1
  have ya2 := hR.2.1
  unfold dateO at *
  clear HL2 HB2 HA2 hb hb3
  go_wp2_with fail
  refine (at_ok (K + 146097) _ HLa.out (by omega) (by omega)).mono ?_
  rintro e w4 ⟨y', m', d', rfl, hR', hN', hb⟩
  obtain ⟨he1, he2⟩ := num_era hR
  rw [hN] at he1 he2
  obtain ⟨e1, e2, e3⟩ := num_inj (he2 (by omega)) hR' (he1.trans hN'.symm)
  subst e1 e2 e3
  clear he1 he2 hR' hN' hR hN
  unfold dateV
  have hb4 := HBa.out.trans (hb.mono HBa.out.size)
  have HLb := Lib.hid ((HLa.out.on hb).alloc (dateO (ya + 400) ma da))
  have HBb := Lib.hid (hb4.alloc hb4.size (dateO (ya + 400) ma da))
  have HAb := Lib.hid ((HAa.out.on hb).alloc (dateO (ya + 400) ma da))
  have HDb := Lib.hid ((HDa.out.on hb).alloc (dateO (ya + 400) ma da))
  have HEb := Lib.hid (DateAt.new w4 (ya + 400) ma da)
  unfold dateO at *
  clear HLa HBa HAa HDa hb hb4
  go_wp2_with fail
  have hw1 := weekday_ok K (w4.alloc (Obj.cells #[Value.int IntKind.i64 (ya + 400), Value.int IntKind.i64 ma, Value.int IntKind.i64 da] 26)) k0 (by omega)
  have hw2 := weekday_ok (K + 146097) (w4.alloc (Obj.cells #[Value.int IntKind.i64 (ya + 400), Value.int IntKind.i64 ma, Value.int IntKind.i64 da] 26)) (by omega) (by omega)
  generalize w4.alloc _ = w5 at *
  rw [week_era] at hw2
  have HW2 := Lib.hid hw2
  clear hw2
  refine hw1.mono ?_
  rintro e w' ⟨rfl, rfl⟩
  clear hw1
  generalize (K + 4) % 7 = v at *
  go_wp2_with fail
  refine HW2.out.mono ?_
  rintro e w' ⟨rfl, rfl⟩
  clear HW2
  obtain ⟨a0, a1, a2⟩ := HAb.out.cells
  obtain ⟨b0, b1, b2⟩ := HDb.out.cells
  obtain ⟨c0, c1, c2⟩ := HEb.out.cells
  go_wp2_with fail
  clear b0 b1 b2 c0 c1 c2 a0 a1 a2 HDb HEb
  generalize wrap64 ((IntKind.u64.wrap k).tmod 4000) = M at *
  have t7 : 0 ≤ 7 * M := by omega
  by_cases hr : RightZ y m d
  · obtain ⟨q0, q1⟩ := num_range hr
    have HR := Lib.hid hr
    clear hr
    by_cases h8 : numZ y m d + 8 * M ≤ 2932896
    · skip
      refine (add_ok y m d M _ HLb.out HR.out (by omega) (by omega)).mono ?_
      rintro e w6 ⟨y6, m6, d6, rfl, hR6, hN6, hb⟩
      have HR6 := Lib.hid hR6; have HN6 := Lib.hid hN6
      clear hR6 hN6
      unfold dateV
      have hbI := HBb.out.trans (hb.mono HBb.out.size)
      have HLw6 := Lib.hid ((HLb.out.on hb).alloc (dateO y6 m6 d6))
      have HBw6 := Lib.hid (hbI.alloc hbI.size (dateO y6 m6 d6))
      have HAw6 := Lib.hid ((HAb.out.on hb).alloc (dateO y6 m6 d6))
      have HDw6 := Lib.hid (DateAt.new w6 y6 m6 d6)
      unfold dateO at *
      clear HLb HBb HAb hb hbI
      obtain ⟨p0, p1, p2⟩ := HAw6.out.cells
      go_wp2_with fail
      clear p0 p1 p2
      refine (add_ok y6 m6 d6 (7 * M) _ HLw6.out HR6.out (by rw [HN6.out]; omega) (by rw [HN6.out]; omega)).mono ?_
      rintro e w7 ⟨y7, m7, d7, rfl, hR7, hN7, hb⟩
      have HR7 := Lib.hid hR7; have HN7 := Lib.hid hN7
      clear hR7 hN7
      unfold dateV
      have hbI := HBw6.out.trans (hb.mono HBw6.out.size)
      have HLw7 := Lib.hid ((HLw6.out.on hb).alloc (dateO y7 m7 d7))
      have HBw7 := Lib.hid (hbI.alloc hbI.size (dateO y7 m7 d7))
      have HAw7 := Lib.hid ((HAw6.out.on hb).alloc (dateO y7 m7 d7))
      have Xw6w7 := Lib.hid ((HDw6.out.on hb).alloc (dateO y7 m7 d7))
      have HDw7 := Lib.hid (DateAt.new w7 y7 m7 d7)
      unfold dateO at *
      clear HLw6 HBw6 HAw6 HDw6 hb hbI
      obtain ⟨p0, p1, p2⟩ := HAw7.out.cells
      go_wp2_with fail
      clear p0 p1 p2
      refine (add_ok y m d (8 * M) _ HLw7.out HR.out (by omega) (by omega)).mono ?_
      rintro e w8 ⟨y8, m8, d8, rfl, hR8, hN8, hb⟩
      obtain ⟨e1, e2, e3⟩ := num_inj HR7.out hR8 (by rw [HN7.out, HN6.out, hN8]; omega)
      subst e1 e2 e3
      clear hR8 hN8
      unfold dateV
      have hbI := HBw7.out.trans (hb.mono HBw7.out.size)
      have HLw8 := Lib.hid ((HLw7.out.on hb).alloc (dateO y7 m7 d7))
      have HBw8 := Lib.hid (hbI.alloc hbI.size (dateO y7 m7 d7))
      have HAw8 := Lib.hid ((HAw7.out.on hb).alloc (dateO y7 m7 d7))
      have Xw6w8 := Lib.hid ((Xw6w7.out.on hb).alloc (dateO y7 m7 d7))
      have Xw7w8 := Lib.hid ((HDw7.out.on hb).alloc (dateO y7 m7 d7))
      have HDw8 := Lib.hid (DateAt.new w8 y7 m7 d7)
      unfold dateO at *
      clear HLw7 HBw7 HAw7 Xw6w7 HDw7 hb hbI
      obtain ⟨p0, p1, p2⟩ := HAw8.out.cells
      obtain ⟨p3, p4, p5⟩ := Xw6w8.out.cells
      obtain ⟨p6, p7, p8⟩ := Xw7w8.out.cells
      obtain ⟨p9, p10, p11⟩ := HDw8.out.cells
      go_wp2_with fail
      have hcc : cmpZ y m d y6 m6 d6 = if M = 0 then 0 else -1 := by
        rw [cmp_num HR.out HR6.out, HN6.out]
        by_cases hM : M = 0
        · rw [if_neg (by omega), if_pos (by omega), if_pos hM]
        · rw [if_pos (by omega), if_neg hM]
      by_cases hM : M = 0
      · rw [if_pos hM] at hcc
        have hMb : (M == 0) = true := by simpa using hM
        have HCC := Lib.hid hcc
        have HM := Lib.hid hM
        clear hcc hM
        refine (compare_raw y m d y6 m6 d6 _).mono ?_
        rintro e w9 ⟨rfl, hb⟩
        rw [HCC.out]
        have HB9 := Lib.hid (HBw8.out.trans (hb.mono HBw8.out.size))
        have HA9 := Lib.hid (HAw8.out.on hb)
        have HX9 := Lib.hid (Xw6w8.out.on hb)
        clear HBw8 HAw8 Xw6w8 Xw7w8 HDw8 HLw8 hb p0 p1 p2 p3 p4 p5 p6 p7 p8 p9 p10 p11
        obtain ⟨p0, p1, p2⟩ := HA9.out.cells
        obtain ⟨p3, p4, p5⟩ := HX9.out.cells
        go_wp2_with fail
        refine (compare_raw y m d y6 m6 d6 _).mono ?_
        rintro e w10 ⟨rfl, hb⟩
        rw [HCC.out]
        have HB10 := Lib.hid (HB9.out.trans (hb.mono HB9.out.size))
        clear HB9 HA9 HX9 hb p0 p1 p2 p3 p4 p5
        go_wp2_with fail
        go_ret
        exact ⟨rfl, HB10.out⟩
      · rw [if_neg hM] at hcc
        have hMb : (M == 0) = false := by simpa using hM
        have HCC := Lib.hid hcc
        have HM := Lib.hid hM
        clear hcc hM
        refine (compare_raw y m d y6 m6 d6 _).mono ?_
        rintro e w9 ⟨rfl, hb⟩
        rw [HCC.out]
        have HB9 := Lib.hid (HBw8.out.trans (hb.mono HBw8.out.size))
        have HA9 := Lib.hid (HAw8.out.on hb)
        have HX9 := Lib.hid (Xw6w8.out.on hb)
        clear HBw8 HAw8 Xw6w8 Xw7w8 HDw8 HLw8 hb p0 p1 p2 p3 p4 p5 p6 p7 p8 p9 p10 p11
        obtain ⟨p0, p1, p2⟩ := HA9.out.cells
        obtain ⟨p3, p4, p5⟩ := HX9.out.cells
        go_wp2_with fail
        refine (compare_raw y m d y6 m6 d6 _).mono ?_
        rintro e w10 ⟨rfl, hb⟩
        rw [HCC.out]
        have HB10 := Lib.hid (HB9.out.trans (hb.mono HB9.out.size))
        clear HB9 HA9 HX9 hb p0 p1 p2 p3 p4 p5
        go_wp2_with fail
        go_ret
        exact ⟨rfl, HB10.out⟩
    · by_cases h1 : numZ y m d + M ≤ 2932896
      · skip
        refine (add_ok y m d M _ HLb.out HR.out (by omega) (by omega)).mono ?_
        rintro e w6 ⟨y6, m6, d6, rfl, hR6, hN6, hb⟩
        have HR6 := Lib.hid hR6; have HN6 := Lib.hid hN6
        clear hR6 hN6
        unfold dateV
        have hbI := HBb.out.trans (hb.mono HBb.out.size)
        have HLw6 := Lib.hid ((HLb.out.on hb).alloc (dateO y6 m6 d6))
        have HBw6 := Lib.hid (hbI.alloc hbI.size (dateO y6 m6 d6))
        have HAw6 := Lib.hid ((HAb.out.on hb).alloc (dateO y6 m6 d6))
        have HDw6 := Lib.hid (DateAt.new w6 y6 m6 d6)
        unfold dateO at *
        clear HLb HBb HAb hb hbI
        obtain ⟨p0, p1, p2⟩ := HAw6.out.cells
        go_wp2_with fail
        clear p0 p1 p2
        refine (add_out y6 m6 d6 (7 * M) _ HLw6.out HR6.out (by omega) (by omega) (by rw [HN6.out]; omega)).mono ?_
        rintro e w7 ⟨rfl, hb⟩
        unfold dateV
        have hbI := HBw6.out.trans (hb.mono HBw6.out.size)
        have HLw7 := Lib.hid ((HLw6.out.on hb).alloc (dateO 0 0 0))
        have HBw7 := Lib.hid (hbI.alloc hbI.size (dateO 0 0 0))
        have HAw7 := Lib.hid ((HAw6.out.on hb).alloc (dateO 0 0 0))
        have Xw6w7 := Lib.hid ((HDw6.out.on hb).alloc (dateO 0 0 0))
        have HDw7 := Lib.hid (DateAt.new w7 0 0 0)
        unfold dateO at *
        clear HLw6 HBw6 HAw6 HDw6 hb hbI
        obtain ⟨p0, p1, p2⟩ := HAw7.out.cells
        go_wp2_with fail
        clear p0 p1 p2
        refine (add_out y m d (8 * M) _ HLw7.out HR.out (by omega) (by omega) (by omega)).mono ?_
        rintro e w8 ⟨rfl, hb⟩
        unfold dateV
        have hbI := HBw7.out.trans (hb.mono HBw7.out.size)
        have HLw8 := Lib.hid ((HLw7.out.on hb).alloc (dateO 0 0 0))
        have HBw8 := Lib.hid (hbI.alloc hbI.size (dateO 0 0 0))
        have HAw8 := Lib.hid ((HAw7.out.on hb).alloc (dateO 0 0 0))
        have Xw6w8 := Lib.hid ((Xw6w7.out.on hb).alloc (dateO 0 0 0))
        have Xw7w8 := Lib.hid ((HDw7.out.on hb).alloc (dateO 0 0 0))
        have HDw8 := Lib.hid (DateAt.new w8 0 0 0)
        unfold dateO at *
        clear HLw7 HBw7 HAw7 Xw6w7 HDw7 hb hbI
        obtain ⟨p0, p1, p2⟩ := HAw8.out.cells
        go_wp2_with fail
        clear p0 p1 p2
        go_ret
        exact ⟨rfl, HBw8.out⟩
      · skip
        refine (add_out y m d M _ HLb.out HR.out (by omega) (by omega) (by omega)).mono ?_
        rintro e w6 ⟨rfl, hb⟩
        unfold dateV
        have hbI := HBb.out.trans (hb.mono HBb.out.size)
        have HLw6 := Lib.hid ((HLb.out.on hb).alloc (dateO 0 0 0))
        have HBw6 := Lib.hid (hbI.alloc hbI.size (dateO 0 0 0))
        have HAw6 := Lib.hid ((HAb.out.on hb).alloc (dateO 0 0 0))
        have HDw6 := Lib.hid (DateAt.new w6 0 0 0)
        unfold dateO at *
        clear HLb HBb HAb hb hbI
        obtain ⟨p0, p1, p2⟩ := HAw6.out.cells
        go_wp2_with fail
        clear p0 p1 p2
        refine (add_no 0 0 0 (7 * M) _ HLw6.out not_zero).mono ?_
        rintro e w7 ⟨rfl, hb⟩
        unfold dateV
        have hbI := HBw6.out.trans (hb.mono HBw6.out.size)
        have HLw7 := Lib.hid ((HLw6.out.on hb).alloc (dateO 0 0 0))
        have HBw7 := Lib.hid (hbI.alloc hbI.size (dateO 0 0 0))
        have HAw7 := Lib.hid ((HAw6.out.on hb).alloc (dateO 0 0 0))
        have Xw6w7 := Lib.hid ((HDw6.out.on hb).alloc (dateO 0 0 0))
        have HDw7 := Lib.hid (DateAt.new w7 0 0 0)
        unfold dateO at *
        clear HLw6 HBw6 HAw6 HDw6 hb hbI
        obtain ⟨p0, p1, p2⟩ := HAw7.out.cells
        go_wp2_with fail
        clear p0 p1 p2
        refine (add_out y m d (8 * M) _ HLw7.out HR.out (by omega) (by omega) (by omega)).mono ?_
        rintro e w8 ⟨rfl, hb⟩
        unfold dateV
        have hbI := HBw7.out.trans (hb.mono HBw7.out.size)
        have HLw8 := Lib.hid ((HLw7.out.on hb).alloc (dateO 0 0 0))
        have HBw8 := Lib.hid (hbI.alloc hbI.size (dateO 0 0 0))
        have HAw8 := Lib.hid ((HAw7.out.on hb).alloc (dateO 0 0 0))
        have Xw6w8 := Lib.hid ((Xw6w7.out.on hb).alloc (dateO 0 0 0))
        have Xw7w8 := Lib.hid ((HDw7.out.on hb).alloc (dateO 0 0 0))
        have HDw8 := Lib.hid (DateAt.new w8 0 0 0)
        unfold dateO at *
        clear HLw7 HBw7 HAw7 Xw6w7 HDw7 hb hbI
        obtain ⟨p0, p1, p2⟩ := HAw8.out.cells
        go_wp2_with fail
        clear p0 p1 p2
        go_ret
        exact ⟨rfl, HBw8.out⟩
  · skip
    refine (add_no y m d M _ HLb.out hr).mono ?_
    rintro e w6 ⟨rfl, hb⟩
    unfold dateV
    have hbI := HBb.out.trans (hb.mono HBb.out.size)
    have HLw6 := Lib.hid ((HLb.out.on hb).alloc (dateO 0 0 0))
    have HBw6 := Lib.hid (hbI.alloc hbI.size (dateO 0 0 0))
    have HAw6 := Lib.hid ((HAb.out.on hb).alloc (dateO 0 0 0))
    have HDw6 := Lib.hid (DateAt.new w6 0 0 0)
    unfold dateO at *
    clear HLb HBb HAb hb hbI
    obtain ⟨p0, p1, p2⟩ := HAw6.out.cells
    go_wp2_with fail
    clear p0 p1 p2
    refine (add_no 0 0 0 (7 * M) _ HLw6.out not_zero).mono ?_
    rintro e w7 ⟨rfl, hb⟩
    unfold dateV
    have hbI := HBw6.out.trans (hb.mono HBw6.out.size)
    have HLw7 := Lib.hid ((HLw6.out.on hb).alloc (dateO 0 0 0))
    have HBw7 := Lib.hid (hbI.alloc hbI.size (dateO 0 0 0))
    have HAw7 := Lib.hid ((HAw6.out.on hb).alloc (dateO 0 0 0))
    have Xw6w7 := Lib.hid ((HDw6.out.on hb).alloc (dateO 0 0 0))
    have HDw7 := Lib.hid (DateAt.new w7 0 0 0)
    unfold dateO at *
    clear HLw6 HBw6 HAw6 HDw6 hb hbI
    obtain ⟨p0, p1, p2⟩ := HAw7.out.cells
    go_wp2_with fail
    clear p0 p1 p2
    refine (add_no y m d (8 * M) _ HLw7.out hr).mono ?_
    rintro e w8 ⟨rfl, hb⟩
    unfold dateV
    have hbI := HBw7.out.trans (hb.mono HBw7.out.size)
    have HLw8 := Lib.hid ((HLw7.out.on hb).alloc (dateO 0 0 0))
    have HBw8 := Lib.hid (hbI.alloc hbI.size (dateO 0 0 0))
    have HAw8 := Lib.hid ((HAw7.out.on hb).alloc (dateO 0 0 0))
    have Xw6w8 := Lib.hid ((Xw6w7.out.on hb).alloc (dateO 0 0 0))
    have Xw7w8 := Lib.hid ((HDw7.out.on hb).alloc (dateO 0 0 0))
    have HDw8 := Lib.hid (DateAt.new w8 0 0 0)
    unfold dateO at *
    clear HLw7 HBw7 HAw7 Xw6w7 HDw7 hb hbI
    obtain ⟨p0, p1, p2⟩ := HAw8.out.cells
    go_wp2_with fail
    clear p0 p1 p2
    go_ret
    exact ⟨rfl, HBw8.out⟩
end Go.Proofs.YtglmonjpcgadnaaDoor
