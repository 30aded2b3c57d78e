/- JobCron: who is launched once has one time; others have those of their cron: walked. -/
import Derived.Test.YtbaobjbckabnhaaGreatDoorKUWakes
import Derived.Test.YtbaobjbckabnhaaGreatDoorKUAt
namespace Go.Proofs.YtbaobjbckabnhaaGreatDoor
open Go.RowKit

theorem ever_true {ev : List (BitVec 64) → Bool} (hev : EvIs ev) {L : List (BitVec 64)} (h : ev L = true) (w : World) (hL : LaidC w) (h5 : L.length = 5) :
    Calls Tryz.prog 25 #[cronV L] w fun x w' => x = .returned (.bool true) ∧ Below w.heap.size w w' := by
  refine (ever_any L w hL h5).mono ?_
  rintro x w' ⟨z, rfl, hz, hb⟩
  rw [hz.2 ((hev L).1 h)]
  exact ⟨rfl, hb⟩
theorem first_time {T : Int → Prop} {a t : Int} (h : FirstT T a t true) : T t := by
  rcases h with ⟨_, h⟩ | ⟨h, _⟩
  · exact h.1
  · cases h
set_option maxRecDepth 100000 in
set_option maxHeartbeats 4000000 in
theorem jcron_walk (j : JobZ) (t : Int) (w : World) (hL : LaidC w) (hj : j.Fit) :
    Calls Tryz.prog 7 #[jobV j, .int .i64 t] w fun x w' => x = .returned (.bool true) ∧ Below w.heap.size w w' := by
  obtain ⟨ev, hev⟩ := ev_is
  have HWK := Lib.hid (fun W hW => jwakes_any ev hev W hW)
  have HFI := Lib.hid (fun W hW => jfirst_any ev hev j t W hW hj)
  have HLA := Lib.hid (fun W hW => jlatest_any ev hev j t W hW hj)
  have HCK := Lib.hid (fun W hW => jcheck_any ev hev j W hW hj)
  have HNX := Lib.hid (fun W hW => next_first j.L t W hW hj.2.2)
  have HBAD := Lib.hid (fun h => first_bad (ev := ev) (j := j) h t)
  have HOK := Lib.hid (TT_ok (ev := ev) (j := j))
  have HT1 := Lib.hid (T_once (j := j)); have HT2 := Lib.hid (T_cron (j := j))
  have HEO := Lib.hid (fun (h : j.err ev = 0) (ho : j.o = false) W hW => ever_true hev (by rcases (err_ok h).2 with ⟨h, _⟩ | ⟨_, _, h⟩; rw [h] at ho; cases ho; exact h) W hW hj.2.2)
  have HAT := Lib.hid (fun (u : Int) (h : TC j.L u) W hW => jat_yes h W hW hj.2.2)
  have H1 := Lib.hid (firstT_alone j.t t); have H2 := Lib.hid (lastT_alone j.t t)
  clear hev
  generalize j.TT ev = TT at *
  generalize j.err ev = z at *
  generalize j.T = TJ at *
  obtain ⟨n, o, L, at_, ov, ca, re⟩ := j
  obtain ⟨n0, n1, hl5⟩ := hj
  simp only at hl5
  obtain ⟨a, b, c, d, e, rfl⟩ := list_five hl5
  obtain ⟨W0, hW0, hb0, hj0, hs0⟩ := job_new w n o a b c d e at_ ov ca re
  have HB0 := Lib.hid hb0; have HJ := Lib.hid hj0; have HL := Lib.hid (hL.on hb0)
  have HX0 := Lib.hid (Below.refl W0.heap.size W0)
  simp only at HNX HT1 HT2 HEO HAT H1 H2
  rw [jobV_five] at *
  rw [cronV_five] at *
  unfold fiveV at *
  clear hL hb0 hj0 hl5 n0 n1
  go_enter Tryz.func7, Tryz.ntmps7
  go_wp2_with fail
  rw [← hW0]
  clear hW0
  refine (HWK.out _ HL.out).mono ?_
  rintro x w1 ⟨rfl, hb⟩
  have HX1 := Lib.hid (HX0.out.trans (hb.mono HX0.out.size))
  clear hb HX0 HWK
  obtain ⟨c0, c1, c2, c3, c4, c5, c6, c7, c8, c9, c10⟩ := (HJ.out.on HX1.out).cells
  go_wp2_with fail
  refine (HFI.out _ (HL.out.on HX1.out)).mono ?_
  rintro x w2 ⟨⟨y, ok, rfl, hy⟩, hb⟩
  have HX2 := Lib.hid (HX1.out.trans (hb.mono HX1.out.size)); have HY := Lib.hid hy
  clear hb hy HX1 HFI c0 c1 c2 c3 c4 c5 c6 c7 c8 c9 c10
  obtain ⟨c0, c1, c2, c3, c4, c5, c6, c7, c8, c9, c10⟩ := (HJ.out.on HX2.out).cells
  go_wp2_with fail
  refine (HCK.out _ (HL.out.on HX2.out)).mono ?_
  rintro x w3 ⟨rfl, hb⟩
  have HX3 := Lib.hid (HX2.out.trans (hb.mono HX2.out.size))
  clear hb HX2 HCK c0 c1 c2 c3 c4 c5 c6 c7 c8 c9 c10
  obtain ⟨c0, c1, c2, c3, c4, c5, c6, c7, c8, c9, c10⟩ := (HJ.out.on HX3.out).cells
  by_cases hz : z = 0
  · subst hz
    have hTT := HOK.out rfl
    have hHY := HY.out
    rw [hTT] at hHY
    cases o with
    | true =>
      have hTJ := HT1.out rfl
      rw [hTJ] at hHY
      obtain ⟨ey, eo⟩ := firstT_one H1.out hHY
      have HLA2 := Lib.hid (fun W hW => HLA.out W hW)
      rw [hTT, hTJ] at HLA2
      clear HBAD HOK HT1 HT2 HEO HAT HNX HY hTT hTJ hHY HLA
      by_cases hlt : t < at_
      · rw [if_pos hlt] at ey
        rw [decide_eq_true hlt] at eo
        subst ey; subst eo
        go_wp2_with fail
        refine (HLA2.out _ (HL.out.on HX3.out)).mono ?_
        rintro x w4 ⟨⟨y2, ok2, rfl, hy2⟩, hb⟩
        obtain ⟨e2, o2⟩ := lastT_one H2.out hy2
        rw [if_neg (by omega)] at e2
        rw [decide_eq_false (by omega)] at o2
        subst e2; subst o2
        have HX4 := Lib.hid (HX3.out.trans (hb.mono HX3.out.size))
        clear hb hy2 c0 c1 c2 c3 c4 c5 c6 c7 c8 c9 c10 H1 H2 HLA2
        obtain ⟨c0, c1, c2, c3, c4, c5, c6, c7, c8, c9, c10⟩ := (HJ.out.on HX4.out).cells
        go_wp2_with fail
        go_ret
        exact ⟨rfl, HB0.out.trans (HX4.out.mono HB0.out.size)⟩
      · rw [if_neg hlt] at ey
        rw [decide_eq_false hlt] at eo
        subst ey; subst eo
        go_wp2_with fail
        refine (HLA2.out _ (HL.out.on HX3.out)).mono ?_
        rintro x w4 ⟨⟨y2, ok2, rfl, hy2⟩, hb⟩
        obtain ⟨e2, o2⟩ := lastT_one H2.out hy2
        rw [if_pos (by omega)] at e2
        rw [decide_eq_true (by omega)] at o2
        subst e2; subst o2
        have HX4 := Lib.hid (HX3.out.trans (hb.mono HX3.out.size))
        clear hb hy2 c0 c1 c2 c3 c4 c5 c6 c7 c8 c9 c10 H1 H2 HLA2
        obtain ⟨c0, c1, c2, c3, c4, c5, c6, c7, c8, c9, c10⟩ := (HJ.out.on HX4.out).cells
        go_wp2_with fail
        go_ret
        exact ⟨rfl, HB0.out.trans (HX4.out.mono HB0.out.size)⟩
    | false =>
      have hTJ := HT2.out rfl
      rw [hTJ] at hHY
      have HY2 := Lib.hid hHY
      have HEO2 := Lib.hid (HEO.out rfl rfl)
      clear HBAD HOK HT1 HT2 HEO HY hTT hTJ hHY HLA H1 H2
      go_wp2_with fail
      refine (HNX.out _ (HL.out.on HX3.out)).mono ?_
      rintro x w4 ⟨⟨y2, ok2, rfl, hy2⟩, hb⟩
      obtain ⟨e2, o2⟩ := firstT_one HY2.out hy2
      subst e2; subst o2
      have HX4 := Lib.hid (HX3.out.trans (hb.mono HX3.out.size))
      clear hb hy2 c0 c1 c2 c3 c4 c5 c6 c7 c8 c9 c10 HX3 HNX
      obtain ⟨c0, c1, c2, c3, c4, c5, c6, c7, c8, c9, c10⟩ := (HJ.out.on HX4.out).cells
      cases ok2 with
      | true =>
        have HA := Lib.hid (HAT.out y2 (first_time HY2.out))
        clear HAT HY2
        go_wp2_with fail
        refine (HA.out _ (HL.out.on HX4.out)).mono ?_
        rintro x w5 ⟨rfl, hb⟩
        have HX5 := Lib.hid (HX4.out.trans (hb.mono HX4.out.size))
        clear hb c0 c1 c2 c3 c4 c5 c6 c7 c8 c9 c10 HA
        obtain ⟨c0, c1, c2, c3, c4, c5, c6, c7, c8, c9, c10⟩ := (HJ.out.on HX5.out).cells
        go_wp2_with fail
        refine (HEO2.out _ (HL.out.on HX5.out)).mono ?_
        rintro x w6 ⟨rfl, hb⟩
        have HX6 := Lib.hid (HX5.out.trans (hb.mono HX5.out.size))
        clear hb
        go_wp2_with fail
        go_ret
        exact ⟨rfl, HB0.out.trans (HX6.out.mono HB0.out.size)⟩
      | false =>
        clear HAT HY2
        go_wp2_with fail
        refine (HEO2.out _ (HL.out.on HX4.out)).mono ?_
        rintro x w6 ⟨rfl, hb⟩
        have HX6 := Lib.hid (HX4.out.trans (hb.mono HX4.out.size))
        clear hb
        go_wp2_with fail
        go_ret
        exact ⟨rfl, HB0.out.trans (HX6.out.mono HB0.out.size)⟩
  · have hz1 : (z != 0) = true := by simpa using hz
    obtain ⟨ey, eo⟩ := firstT_one (HBAD.out hz) HY.out
    subst ey; subst eo
    clear HBAD HOK HT1 HT2 HEO HAT HNX HLA HY H1 H2
    go_wp2_with fail
    go_ret
    exact ⟨rfl, HB0.out.trans (HX3.out.mono HB0.out.size)⟩
end Go.Proofs.YtbaobjbckabnhaaGreatDoor
