/- WheelNone: walked. -/
import Derived.Test.YtidgiohjgkfjcaaDoorQNil
namespace Go.Proofs.YtidgiohjgkfjcaaDoor
open Go.RowKit

theorem place_nil (num : Int) (w : World) : Calls Tryd.prog 19 #[.pointer none, .int .u64 num] w fun e w' => e = .returned (.tuple #[.int .i64 0, .int .i64 0, .bool false]) ∧ Below w.heap.size w w' := by
  have HF := Lib.hid (find_nil num w)
  go_enter Tryd.func19, Tryd.ntmps19
  go_wp2_with fail
  refine HF.out.mono ?_
  rintro e w1 ⟨rfl, hb1⟩
  obtain ⟨W, hWe⟩ : ∃ W, W = w1.alloc (.cells #[.int .i64 0, .int .i64 0] 80) := ⟨_, rfl⟩
  have bP : QBox W w1.heap.size 80 #[.int .i64 0, .int .i64 0] := by rw [hWe]; exact QBox.new _ _ _
  have HB := Lib.hid (show Below w.heap.size w W by rw [hWe]; exact hb1.alloc hb1.size _)
  obtain ⟨c0, c1, _, _⟩ := bP.two
  clear hb1 bP
  go_wp2_with fail
  rw [← hWe]
  clear hWe
  go_region
  go_wp2_with fail
  refine bodyPost_ret (v := .tuple #[.int .i64 0, .int .i64 0, .bool false]) (by simp [results, Tryd.results19, go_sem]) rfl ⟨rfl, HB.out.drew⟩
theorem turn_nil (u : Int) (w : World) : Calls Tryd.prog 16 #[.pointer none, .int .i64 u] w fun e w' => e = .returned (.tuple #[.slice none 0 0, .int .i64 1]) ∧ Below w.heap.size w w' := by
  have hB : Below w.heap.size w ((w.alloc (.cells #[.pointer none] 24)).alloc (.cells #[.int .i64 u] 2)) := ((Below.refl _ _).alloc (Nat.le_refl _) _).alloc (by simp) _
  go_enter Tryd.func16, Tryd.ntmps16
  go_wp2_with fail
  refine bodyPost_ret (v := .tuple #[.slice none 0 0, .int .i64 1]) (by simp [results, Tryd.results16, go_sem]) rfl ⟨rfl, hB⟩
theorem first_nil (w : World) : Calls Tryd.prog 25 #[.pointer none] w fun e w' => e = .returned (.tuple #[dueV (0, 0), .bool false]) ∧ Below w.heap.size w w' := by
  have hB : Below w.heap.size w (w.alloc (.cells #[.int .i64 0, .int .u64 0] 39)) := (Below.refl _ _).alloc (Nat.le_refl _) _
  have HB := Lib.hid hB
  have HQ := Lib.hid (QBox.new w 39 #[.int .i64 0, .int .u64 0])
  clear hB
  go_enter Tryd.func25, Tryd.ntmps25
  go_wp2_with fail
  obtain ⟨z0, z1, _, _⟩ := HQ.out.two
  refine bodyPost_ret (v := .tuple #[.agg #[.int .i64 0, .int .u64 0], .bool false]) (by simp [results, Tryd.results25, go_sem]) rfl ⟨rfl, HB.out⟩
theorem put_nil (d : Int × Int) (w : World) : Calls Tryd.prog 12 #[.pointer none, dueV d] w fun e w' => e = .returned (.int .i64 1) ∧ Below w.heap.size w w' := by
  unfold dueV
  have hB : Below w.heap.size w (w.alloc (.cells #[.int .i64 d.1, .int .u64 d.2] 39)) := (Below.refl _ _).alloc (Nat.le_refl _) _
  go_enter Tryd.func12, Tryd.ntmps12
  go_wp2_with fail
  go_ret
  exact ⟨rfl, hB⟩
theorem cut_nil (num : Int) (w : World) : Calls Tryd.prog 14 #[.pointer none, .int .u64 num] w fun e w' => e = .returned (.int .i64 1) ∧ w' = w := by
  go_enter Tryd.func14, Tryd.ntmps14
  go_wp2_with fail
  go_ret
  exact ⟨rfl, rfl⟩
set_option maxRecDepth 100000 in
set_option maxHeartbeats 2000000 in
theorem none_law (d0 d1 u : Int) (w : World) (hT : Tab w) (hg : 0 < w.heap.size) :
    Calls Tryd.prog 5 #[.agg #[.int .i64 d0, .int .u64 d1], .int .i64 u] w fun e w' => e = .returned (.bool true) ∧ Below w.heap.size w w' := by
  obtain ⟨W, hWe⟩ : ∃ W, W = w.alloc (.cells #[.int .i64 d0, .int .u64 d1] 39) := ⟨_, rfl⟩
  have hB : Below w.heap.size w W := by rw [hWe]; exact (Below.refl _ _).alloc (Nat.le_refl _) _
  have bD : QBox W w.heap.size 39 #[.int .i64 d0, .int .u64 d1] := by rw [hWe]; exact QBox.new _ _ _
  have HWK := Lib.hid (wakes_any9 W (hT.below hg hB) (Nat.lt_of_lt_of_le hg hB.size))
  have HB := Lib.hid hB; have HD := Lib.hid bD
  clear hT hg hB bD
  go_enter Tryd.func5, Tryd.ntmps5
  go_wp2_with fail
  rw [← hWe]
  clear hWe
  refine HWK.out.mono ?_
  rintro e w1 ⟨rfl, hb1⟩
  have HB1 := Lib.hid (HB.out.trans (hb1.mono HB.out.size)); have HD1 := Lib.hid (HD.out.belowAll hb1)
  clear hb1 HWK
  go_wp2_with fail
  refine (turn_nil u _).mono ?_
  rintro e w2 ⟨rfl, hb2⟩
  have HB2 := Lib.hid (HB1.out.trans (hb2.mono HB1.out.size)); have HD2 := Lib.hid (HD1.out.belowAll hb2)
  clear hb2
  go_wp2_with fail
  refine (first_nil _).mono ?_
  unfold dueV
  rintro e w3 ⟨rfl, hb3⟩
  dsimp only
  have HB3 := Lib.hid (HB2.out.trans (hb3.mono HB2.out.size)); have HD3 := Lib.hid (HD2.out.belowAll hb3)
  obtain ⟨a0, a1, _, _⟩ := HD3.out.two
  have hl := HD3.out.lt
  have hn := Nat.ne_of_lt hl
  have HQ3 := Lib.hid (QBox.new w3 39 #[.int .i64 0, .int .u64 0])
  have HB3' := Lib.hid (HB3.out.alloc HB3.out.size (.cells #[.int .i64 0, .int .u64 0] 39))
  have HD3' := Lib.hid (HD3.out.alloc (.cells #[.int .i64 0, .int .u64 0] 39))
  clear hb3
  go_wp2_with fail
  generalize w3.alloc (.cells #[.int .i64 0, .int .u64 0] 39) = W3 at *
  refine (place_nil d1 _).mono ?_
  rintro e w4 ⟨rfl, hb4⟩
  have HB4 := Lib.hid (HB3'.out.trans (hb4.mono HB3'.out.size)); have HD4 := Lib.hid (HD3'.out.belowAll hb4); have HQ4 := Lib.hid (HQ3.out.belowAll hb4)
  clear a0 a1 hb4 HB3' HD3' HQ3
  obtain ⟨a0, a1, _, _⟩ := HD4.out.two
  go_wp2_with fail
  refine (put_nil (d0, d1) _).mono ?_
  rintro e w5 ⟨rfl, hb5⟩
  have HB5 := Lib.hid (HB4.out.trans (hb5.mono HB4.out.size)); have HD5 := Lib.hid (HD4.out.belowAll hb5); have HQ5 := Lib.hid (HQ4.out.belowAll hb5)
  clear a0 a1 hb5
  obtain ⟨a0, a1, _, _⟩ := HD5.out.two
  go_wp2_with fail
  refine (cut_nil d1 _).mono ?_
  rintro e w6 ⟨rfl, rfl⟩
  obtain ⟨q0, q1, _, _⟩ := HQ5.out.two
  go_wp2_with fail
  refine (now_nil _).mono ?_
  rintro e w6 ⟨rfl, rfl⟩
  go_wp2_with fail
  refine (len_nil _).mono ?_
  rintro e w7 ⟨rfl, hb7⟩
  have HB7 := Lib.hid (HB5.out.trans (hb7.mono HB5.out.size))
  clear hb7 a0 a1 q0 q1
  go_wp2_with fail
  refine (all_nil _).mono ?_
  rintro e w8 ⟨rfl, hb8⟩
  have HB8 := Lib.hid (HB7.out.trans (hb8.mono HB7.out.size))
  clear hb8
  go_wp2_with fail
  go_ret
  exact ⟨rfl, HB8.out⟩
end Go.Proofs.YtidgiohjgkfjcaaDoor
