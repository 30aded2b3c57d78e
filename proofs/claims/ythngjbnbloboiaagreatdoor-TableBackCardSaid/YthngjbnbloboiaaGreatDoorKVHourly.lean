/- The law's job that is due each hour: walked, and its times. -/
import Derived.Test.YthngjbnbloboiaaGreatDoorK7
import Derived.Test.YthngjbnbloboiaaGreatDoorKVRowF
namespace Go.Proofs.YthngjbnbloboiaaGreatDoor
open Go.RowKit

def hourZ (n : Int) : JobZ := ⟨n, false, hourlyL, 0, 0, 0, 0⟩
theorem hourZ_fit {n : Int} (h : 0 ≤ n ∧ n ≤ 4294967295) : (hourZ n).Fit := ⟨h.1, h.2, rfl⟩
theorem hour_err {ev : List (BitVec 64) → Bool} (hev : EvIs ev) : (hourZ 7).err ev = 0 := err_is (by decide) (.inr ⟨rfl, hourly_ok, (hev _).2 hourly_ever⟩)
theorem hour_first (h : Int) (hh : 0 ≤ h ∧ h ≤ 23) (a : Int) (ha : (h - 1) * 3600 ≤ a ∧ a < h * 3600) : FirstT (TC hourlyL) a (h * 3600) true := .inl ⟨rfl, hourly_in hh, ha.2, fun u hu h0 => by have := hourly_is hu; omega⟩
theorem hour_100 {ev : List (BitVec 64) → Bool} (hev : EvIs ev) : FirstT ((hourZ 7).TT ev) 100 3600 true := by
  rw [TT_ok (hour_err hev), T_cron rfl]
  exact hour_first 1 (by omega) 100 (by omega)
theorem hour_7200 {ev : List (BitVec 64) → Bool} (hev : EvIs ev) : FirstT ((hourZ 7).TT ev) 7200 10800 true := by
  rw [TT_ok (hour_err hev), T_cron rfl]
  exact hour_first 3 (by omega) 7200 (by omega)
set_option maxRecDepth 100000 in
set_option maxHeartbeats 1000000 in
theorem hourall_any (w : World) :
    (Calls Tryz.prog 49 #[.int .i64 0, .int .i64 23] w fun e w' => e = .returned (.int .u64 16777215) ∧ Below w.heap.size w w') ∧
    (Calls Tryz.prog 49 #[.int .i64 1, .int .i64 31] w fun e w' => e = .returned (.int .u64 4294967294) ∧ Below w.heap.size w w') ∧
    (Calls Tryz.prog 49 #[.int .i64 1, .int .i64 12] w fun e w' => e = .returned (.int .u64 8190) ∧ Below w.heap.size w w') ∧
    (Calls Tryz.prog 49 #[.int .i64 0, .int .i64 6] w fun e w' => e = .returned (.int .u64 127) ∧ Below w.heap.size w w') := by
  have hB : ∀ q, Below w.heap.size w (w.drewN q) := fun q => bdrewN (Below.refl _ w) q
  refine ⟨?_, ?_, ?_, ?_⟩
  all_goals
    go_enter Tryz.func49, Tryz.ntmps49
    go_wp2_with fail
    go_quiet (fail)
    go_wp2_with fail
    go_ret
    exact ⟨rfl, hB _⟩
set_option maxRecDepth 100000 in
set_option maxHeartbeats 1000000 in
theorem hourly_any (n : Int) (w : World) :
    Calls Tryz.prog 19 #[.int .u32 n] w fun e w' => e = .returned (jobV (hourZ n)) ∧ Below w.heap.size w w' := by
  have hjv : jobV (hourZ n) = .agg #[.int .u32 n, .bool false, .int .u64 1, .int .u64 16777215, .int .u64 4294967294, .int .u64 8190, .int .u64 127, .int .i64 0, .int .i64 0, .int .i64 0, .int .i64 0] := rfl
  rw [hjv]
  have HA := Lib.hid (fun W => hourall_any W)
  obtain ⟨W0, hW0⟩ : ∃ W : World, W = w.alloc (.cells #[.int .u32 0, .bool false, .int .u64 0, .int .u64 0, .int .u64 0, .int .u64 0, .int .u64 0, .int .i64 0, .int .i64 0, .int .i64 0, .int .i64 0] 29) := ⟨_, rfl⟩
  have hx0 : D.Box W0 w.heap.size 29 #[.int .u32 0, .bool false, .int .u64 0, .int .u64 0, .int .u64 0, .int .u64 0, .int .u64 0, .int .i64 0, .int .i64 0, .int .i64 0, .int .i64 0] := by rw [hW0]; exact D.Box.new _ _ _
  have hb0 : Below w.heap.size w W0 := by rw [hW0]; exact (Below.refl _ w).alloc (Nat.le_refl _) _
  have HX0 := Lib.hid hx0; have HB0 := Lib.hid hb0
  clear hx0 hb0 hjv
  go_enter Tryz.func19, Tryz.ntmps19
  go_upto_region 1 with fail
  rw [← hW0]
  clear hW0
  go_wp2_with fail
  refine (HA.out _).1.mono ?_
  rintro e w1 ⟨rfl, hb1⟩
  have HB1 := Lib.hid hb1
  clear hb1
  go_wp2_with fail
  refine (HA.out _).2.1.mono ?_
  rintro e w2 ⟨rfl, hb⟩
  have HB2 := Lib.hid (HB1.out.trans (hb.mono HB1.out.size))
  clear hb HB1
  go_wp2_with fail
  refine (HA.out _).2.2.1.mono ?_
  rintro e w3 ⟨rfl, hb⟩
  have HB3 := Lib.hid (HB2.out.trans (hb.mono HB2.out.size))
  clear hb HB2
  go_wp2_with fail
  refine (HA.out _).2.2.2.mono ?_
  rintro e w4 ⟨rfl, hb⟩
  have HB4 := Lib.hid (HB3.out.trans (hb.mono HB3.out.size))
  clear hb HB3 HA
  have hx4 := D.Box.belowAll HX0.out HB4.out
  obtain ⟨c0, c1, c2, c3, c4, c5, c6, c7, c8, c9, c10⟩ := box_eleven hx4
  have f0 := hx4.frozen 0; have f1 := hx4.frozen 1; have f2 := hx4.frozen 2; have f3 := hx4.frozen 3; have f4 := hx4.frozen 4; have f5 := hx4.frozen 5; have f6 := hx4.frozen 6; have f7 := hx4.frozen 7; have f8 := hx4.frozen 8; have f9 := hx4.frozen 9; have f10 := hx4.frozen 10
  have hbx := box_set11 hx4 (.int .u32 n) (.bool false) (.int .u64 1) (.int .u64 16777215) (.int .u64 4294967294) (.int .u64 8190) (.int .u64 127) (.int .i64 0) (.int .i64 0) (.int .i64 0) (.int .i64 0)
  have hbl := below_11 (HB0.out.trans (HB4.out.mono HB0.out.size)) (Nat.le_refl _) (.int .u32 n) (.bool false) (.int .u64 1) (.int .u64 16777215) (.int .u64 4294967294) (.int .u64 8190) (.int .u64 127) (.int .i64 0) (.int .i64 0) (.int .i64 0) (.int .i64 0)
  have hlv := loadVar_of (cs := [.int .u32 n, .bool false, .int .u64 1, .int .u64 16777215, .int .u64 4294967294, .int .u64 8190, .int .u64 127, .int .i64 0, .int .i64 0, .int .i64 0, .int .i64 0]) hbx 11 und_job size_job rfl
  have HBL := Lib.hid hbl; have HLV := Lib.hid hlv
  clear hx4 hbx hbl hlv
  go_wp2_with fail
  exact bodyPost_ret (v := .agg #[.int .u32 n, .bool false, .int .u64 1, .int .u64 16777215, .int .u64 4294967294, .int .u64 8190, .int .u64 127, .int .i64 0, .int .i64 0, .int .i64 0, .int .i64 0]) (results_cell Tryz.results19 (by rfl) HLV.out) rfl ⟨rfl, HBL.out⟩
end Go.Proofs.YthngjbnbloboiaaGreatDoor
