/- NextTurns: Last of Next is it, Next of what is one less is it again: walked. -/
import Derived.Test.YtkimbmifabpppaaDoorKHWakes
namespace Go.Proofs.YtkimbmifabpppaaDoor
open Go.RowKit

theorem cron_cell1 (w : World) (a b c d e : BitVec 64) : ∃ W : World, W = w.alloc (.cells #[.int .u64 (U a), .int .u64 (U b), .int .u64 (U c), .int .u64 (U d), .int .u64 (U e)] 25) ∧ Below w.heap.size w W ∧ CronAt W w.heap.size [a, b, c, d, e] := ⟨_, rfl, (Below.refl _ w).alloc (Nat.le_refl _) _, CronAt.new w a b c d e⟩
set_option maxRecDepth 100000 in
set_option maxHeartbeats 2000000 in
theorem turns_walk (a b c d e : BitVec 64) (t : Int) (w : World) (hL : LaidC w) :
    Calls Tryd.prog 6 #[cronV [a, b, c, d, e], .int .i64 t] w fun x w' => x = .returned (.bool true) ∧ Below w.heap.size w w' := by
  obtain ⟨WB, hWB, hb0, hc0⟩ := cron_cell1 w a b c d e
  have HWK := Lib.hid hwakes_any
  have HNX := Lib.hid (fun t W hW => next_any [a, b, c, d, e] t W hW rfl)
  have HLS := Lib.hid (fun t W hW => nlast_any [a, b, c, d, e] t W hW rfl)
  have HB0 := Lib.hid hb0; have HC := Lib.hid hc0; have HL := Lib.hid (hL.on hb0)
  have HX0 := Lib.hid (Below.refl WB.heap.size WB)
  have HTT := Lib.hid (TC_times [a, b, c, d, e])
  rw [cronV_five] at *
  unfold fiveV at *
  clear hL hb0 hc0
  go_enter Tryd.func6, Tryd.ntmps6
  go_wp2_with fail
  rw [← hWB]
  clear hWB
  refine (HWK.out _ HL.out).mono ?_
  rintro x w1 ⟨rfl, hb⟩
  have HX1 := Lib.hid (HX0.out.trans (hb.mono HX0.out.size))
  clear hb HX0
  obtain ⟨c0, c1, c2, c3, c4⟩ := (HC.out.on HX1.out).five
  go_wp2_with fail
  clear c0 c1 c2 c3 c4
  refine (HNX.out t _ (HL.out.on HX1.out)).mono ?_
  rintro x w2 ⟨hx, hb⟩
  have HX2 := Lib.hid (HX1.out.trans (hb.mono HX1.out.size))
  clear hb HX1
  rcases hx with ⟨n, hn, rfl⟩ | ⟨hn, rfl⟩
  · have HT := Lib.hid (next_turns HTT.out hn)
    obtain ⟨n0, n1⟩ := HTT.out n hn.1
    clear hn
    obtain ⟨c0, c1, c2, c3, c4⟩ := (HC.out.on HX2.out).five
    go_wp2_with fail
    clear c0 c1 c2 c3 c4
    refine (HLS.out n _ (HL.out.on HX2.out)).mono ?_
    rintro x w3 ⟨hx, hb⟩
    have HX3 := Lib.hid (HX2.out.trans (hb.mono HX2.out.size))
    clear hb HX2
    rcases hx with ⟨m, hm, rfl⟩ | ⟨hm, rfl⟩
    case inr => exact (last_none HT.out.1 hm).elim
    obtain rfl := last_one HT.out.1 hm
    clear hm
    obtain ⟨c0, c1, c2, c3, c4⟩ := (HC.out.on HX3.out).five
    go_wp2_with fail
    clear c0 c1 c2 c3 c4
    refine (HNX.out (n - 1) _ (HL.out.on HX3.out)).mono ?_
    rintro x w4 ⟨hx, hb⟩
    have HX4 := Lib.hid (HX3.out.trans (hb.mono HX3.out.size))
    clear hb HX3
    rcases hx with ⟨m, hm, rfl⟩ | ⟨hm, rfl⟩
    case inr => exact (next_none HT.out.2 hm).elim
    obtain rfl := next_one HT.out.2 hm
    clear hm HT
    obtain ⟨c0, c1, c2, c3, c4⟩ := (HC.out.on HX4.out).five
    go_wp2_with fail
    clear c0 c1 c2 c3 c4
    refine (HLS.out t _ (HL.out.on HX4.out)).mono ?_
    rintro x w5 ⟨hx, hb⟩
    have HX5 := Lib.hid (HX4.out.trans (hb.mono HX4.out.size))
    clear hb HX4
    rcases hx with ⟨n, hn, rfl⟩ | ⟨hn, rfl⟩
    · have HN := Lib.hid hn; have HT := Lib.hid (last_turns HTT.out hn)
      obtain ⟨n0, n1⟩ := HTT.out n hn.1
      clear hn
      obtain ⟨c0, c1, c2, c3, c4⟩ := (HC.out.on HX5.out).five
      go_wp2_with fail
      clear c0 c1 c2 c3 c4
      refine (HNX.out (n - 1) _ (HL.out.on HX5.out)).mono ?_
      rintro x w6 ⟨hx, hb⟩
      have HX6 := Lib.hid (HX5.out.trans (hb.mono HX5.out.size))
      clear hb HX5
      rcases hx with ⟨m, hm, rfl⟩ | ⟨hm, rfl⟩
      case inr => exact (next_none HT.out.1 hm).elim
      obtain rfl := next_one HT.out.1 hm
      clear hm
      obtain ⟨c0, c1, c2, c3, c4⟩ := (HC.out.on HX6.out).five
      go_wp2_with fail
      clear c0 c1 c2 c3 c4
      refine (HLS.out n _ (HL.out.on HX6.out)).mono ?_
      rintro x w7 ⟨hx, hb⟩
      have HX7 := Lib.hid (HX6.out.trans (hb.mono HX6.out.size))
      clear hb HX6
      rcases hx with ⟨m, hm, rfl⟩ | ⟨hm, rfl⟩
      case inr => exact (last_none HT.out.2 hm).elim
      obtain rfl := last_one HT.out.2 hm
      clear hm
      go_wp2_with fail
      go_ret
      exact ⟨rfl, HB0.out.trans (HX7.out.mono HB0.out.size)⟩
    · clear hn
      go_wp2_with fail
      go_ret
      exact ⟨rfl, HB0.out.trans (HX5.out.mono HB0.out.size)⟩
  · clear hn
    obtain ⟨c0, c1, c2, c3, c4⟩ := (HC.out.on HX2.out).five
    go_wp2_with fail
    clear c0 c1 c2 c3 c4
    refine (HLS.out t _ (HL.out.on HX2.out)).mono ?_
    rintro x w3 ⟨hx, hb⟩
    have HX3 := Lib.hid (HX2.out.trans (hb.mono HX2.out.size))
    clear hb HX2
    rcases hx with ⟨n, hn, rfl⟩ | ⟨hn, rfl⟩
    · have HN := Lib.hid hn; have HT := Lib.hid (last_turns HTT.out hn)
      obtain ⟨n0, n1⟩ := HTT.out n hn.1
      clear hn
      obtain ⟨c0, c1, c2, c3, c4⟩ := (HC.out.on HX3.out).five
      go_wp2_with fail
      clear c0 c1 c2 c3 c4
      refine (HNX.out (n - 1) _ (HL.out.on HX3.out)).mono ?_
      rintro x w4 ⟨hx, hb⟩
      have HX4 := Lib.hid (HX3.out.trans (hb.mono HX3.out.size))
      clear hb HX3
      rcases hx with ⟨m, hm, rfl⟩ | ⟨hm, rfl⟩
      case inr => exact (next_none HT.out.1 hm).elim
      obtain rfl := next_one HT.out.1 hm
      clear hm
      obtain ⟨c0, c1, c2, c3, c4⟩ := (HC.out.on HX4.out).five
      go_wp2_with fail
      clear c0 c1 c2 c3 c4
      refine (HLS.out n _ (HL.out.on HX4.out)).mono ?_
      rintro x w5 ⟨hx, hb⟩
      have HX5 := Lib.hid (HX4.out.trans (hb.mono HX4.out.size))
      clear hb HX4
      rcases hx with ⟨m, hm, rfl⟩ | ⟨hm, rfl⟩
      case inr => exact (last_none HT.out.2 hm).elim
      obtain rfl := last_one HT.out.2 hm
      clear hm
      go_wp2_with fail
      go_ret
      exact ⟨rfl, HB0.out.trans (HX5.out.mono HB0.out.size)⟩
    · clear hn
      go_wp2_with fail
      go_ret
      exact ⟨rfl, HB0.out.trans (HX3.out.mono HB0.out.size)⟩
end Go.Proofs.YtkimbmifabpppaaDoor
