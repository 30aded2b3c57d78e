/- The document's plain, time and Check: walked. -/
import Derived.Test.YtbaobjbckabnhaaGreatDoorK7
import Derived.Test.YtbaobjbckabnhaaGreatDoorK8
import Derived.Test.YtbaobjbckabnhaaGreatDoorKUWithin
namespace Go.Proofs.YtbaobjbckabnhaaGreatDoor
open Go.RowKit

/-- The numbers of a job such as they may be. -/
def PlainP (n ov ca re : Int) : Prop := n ≠ 0 ∧ (ov = 0 ∨ ov = 1) ∧ 0 ≤ ca ∧ ca ≤ 2 ∧ 0 ≤ re ∧ re ≤ 3
/-- A Bool of its own for what is asked. -/
def IsB (P : Prop) (x : Ending) : Prop := ∃ z : Bool, x = .returned (.bool z) ∧ (z = true ↔ P)
def TimeP (t : Int) : Prop := 0 ≤ t ∧ t ≤ maxT
theorem hold_plain {n : Int} {o : Bool} {t ov ca re : Int} (h0 : 0 ≤ n) (h1 : n ≤ 4294967295) : holdB (limsZ n o t ov ca re) = true ↔ PlainP n ov ca re ∧ (if o then TimeP t else t = 0) := by
  rw [hold_iff]
  unfold PlainP TimeP
  cases o with
  | true => simp only [if_true]; omega
  | false => simp only [Bool.false_eq_true, if_false]; omega
theorem hold_no {n : Int} {o : Bool} {t ov ca re : Int} (h0 : 0 ≤ n) (h1 : n ≤ 4294967295) (h : ¬ (PlainP n ov ca re ∧ (if o then TimeP t else t = 0))) : holdB (limsZ n o t ov ca re) = false := by
  cases hz : holdB (limsZ n o t ov ca re) with
  | false => rfl
  | true => exact absurd ((hold_plain h0 h1).1 hz) h
set_option maxRecDepth 100000 in
set_option maxHeartbeats 2000000 in
theorem rplain_any (n ov ca re : Int) (w : World) :
    Calls Tryz.prog 29 #[.int .u32 n, .int .i64 ov, .int .i64 ca, .int .i64 re] w fun x w' => IsB (PlainP n ov ca re) x ∧ w' = w := by
  by_cases h0 : n = 0
  · have g0 : (n != 0) = false := by simpa using h0
    go_enter Tryz.func29, Tryz.ntmps29
    go_wp2_with fail
    go_ret
    exact ⟨⟨false, rfl, ⟨fun h => (by cases h), fun h => (by unfold PlainP at h; omega)⟩⟩, rfl⟩
  · have g0 : (n != 0) = true := by simpa using h0
    by_cases h1 : ov = 0
    · have g1 : (ov == 0) = true := by simpa using h1
      by_cases k0 : 0 ≤ ca
      · have e0 : decide (0 ≤ ca) = true := decide_eq_true k0
        by_cases k1 : ca ≤ 2
        · have e1 : decide (ca ≤ 2) = true := decide_eq_true k1
          by_cases k2 : 0 ≤ re
          · have e2 : decide (0 ≤ re) = true := decide_eq_true k2
            by_cases k3 : re ≤ 3
            · have e3 : decide (re ≤ 3) = true := decide_eq_true k3
              go_enter Tryz.func29, Tryz.ntmps29
              go_wp2_with fail
              go_ret
              exact ⟨⟨true, rfl, ⟨fun h => (by unfold PlainP; omega), fun h => (rfl)⟩⟩, rfl⟩
            · have e3 : decide (re ≤ 3) = false := decide_eq_false k3
              go_enter Tryz.func29, Tryz.ntmps29
              go_wp2_with fail
              go_ret
              exact ⟨⟨false, rfl, ⟨fun h => (by cases h), fun h => (by unfold PlainP at h; omega)⟩⟩, rfl⟩
          · have e2 : decide (0 ≤ re) = false := decide_eq_false k2
            go_enter Tryz.func29, Tryz.ntmps29
            go_wp2_with fail
            go_ret
            exact ⟨⟨false, rfl, ⟨fun h => (by cases h), fun h => (by unfold PlainP at h; omega)⟩⟩, rfl⟩
        · have e1 : decide (ca ≤ 2) = false := decide_eq_false k1
          go_enter Tryz.func29, Tryz.ntmps29
          go_wp2_with fail
          go_ret
          exact ⟨⟨false, rfl, ⟨fun h => (by cases h), fun h => (by unfold PlainP at h; omega)⟩⟩, rfl⟩
      · have e0 : decide (0 ≤ ca) = false := decide_eq_false k0
        go_enter Tryz.func29, Tryz.ntmps29
        go_wp2_with fail
        go_ret
        exact ⟨⟨false, rfl, ⟨fun h => (by cases h), fun h => (by unfold PlainP at h; omega)⟩⟩, rfl⟩
    · have g1 : (ov == 0) = false := by simpa using h1
      by_cases h2 : ov = 1
      · have g2 : (ov == 1) = true := by simpa using h2
        by_cases k0 : 0 ≤ ca
        · have e0 : decide (0 ≤ ca) = true := decide_eq_true k0
          by_cases k1 : ca ≤ 2
          · have e1 : decide (ca ≤ 2) = true := decide_eq_true k1
            by_cases k2 : 0 ≤ re
            · have e2 : decide (0 ≤ re) = true := decide_eq_true k2
              by_cases k3 : re ≤ 3
              · have e3 : decide (re ≤ 3) = true := decide_eq_true k3
                go_enter Tryz.func29, Tryz.ntmps29
                go_wp2_with fail
                go_ret
                exact ⟨⟨true, rfl, ⟨fun h => (by unfold PlainP; omega), fun h => (rfl)⟩⟩, rfl⟩
              · have e3 : decide (re ≤ 3) = false := decide_eq_false k3
                go_enter Tryz.func29, Tryz.ntmps29
                go_wp2_with fail
                go_ret
                exact ⟨⟨false, rfl, ⟨fun h => (by cases h), fun h => (by unfold PlainP at h; omega)⟩⟩, rfl⟩
            · have e2 : decide (0 ≤ re) = false := decide_eq_false k2
              go_enter Tryz.func29, Tryz.ntmps29
              go_wp2_with fail
              go_ret
              exact ⟨⟨false, rfl, ⟨fun h => (by cases h), fun h => (by unfold PlainP at h; omega)⟩⟩, rfl⟩
          · have e1 : decide (ca ≤ 2) = false := decide_eq_false k1
            go_enter Tryz.func29, Tryz.ntmps29
            go_wp2_with fail
            go_ret
            exact ⟨⟨false, rfl, ⟨fun h => (by cases h), fun h => (by unfold PlainP at h; omega)⟩⟩, rfl⟩
        · have e0 : decide (0 ≤ ca) = false := decide_eq_false k0
          go_enter Tryz.func29, Tryz.ntmps29
          go_wp2_with fail
          go_ret
          exact ⟨⟨false, rfl, ⟨fun h => (by cases h), fun h => (by unfold PlainP at h; omega)⟩⟩, rfl⟩
      · have g2 : (ov == 1) = false := by simpa using h2
        go_enter Tryz.func29, Tryz.ntmps29
        go_wp2_with fail
        go_ret
        exact ⟨⟨false, rfl, ⟨fun h => (by cases h), fun h => (by unfold PlainP at h; omega)⟩⟩, rfl⟩
set_option maxRecDepth 100000 in
theorem rtime10_any (t : Int) (w : World) :
    Calls Tryz.prog 30 #[.int .i64 t] w fun x w' => IsB (TimeP t) x ∧ w' = w := by
  by_cases k0 : 0 ≤ t
  · have e0 : decide (0 ≤ t) = true := decide_eq_true k0
    by_cases k1 : t ≤ 253402300799
    · have e1 : decide (t ≤ 253402300799) = true := decide_eq_true k1
      go_enter Tryz.func30, Tryz.ntmps30
      go_wp2_with fail
      go_ret
      exact ⟨⟨true, rfl, ⟨fun h => (by unfold TimeP maxT; omega), fun h => (rfl)⟩⟩, rfl⟩
    · have e1 : decide (t ≤ 253402300799) = false := decide_eq_false k1
      go_enter Tryz.func30, Tryz.ntmps30
      go_wp2_with fail
      go_ret
      exact ⟨⟨false, rfl, ⟨fun h => (by cases h), fun h => (by unfold TimeP maxT at h; omega)⟩⟩, rfl⟩
  · have e0 : decide (0 ≤ t) = false := decide_eq_false k0
    go_enter Tryz.func30, Tryz.ntmps30
    go_wp2_with fail
    go_ret
    exact ⟨⟨false, rfl, ⟨fun h => (by cases h), fun h => (by unfold TimeP maxT at h; omega)⟩⟩, rfl⟩
set_option maxRecDepth 100000 in
set_option maxHeartbeats 4000000 in
theorem rcheck_any (ev : List (BitVec 64) → Bool) (hev : EvIs ev) (j : JobZ) (w : World) (hj : j.Fit) :
    Calls Tryz.prog 12 #[jobV j] w fun x w' => x = .returned (.int .i64 (j.err ev)) ∧ Below w.heap.size w w' := by
  have HVE := Lib.hid (hev j.L)
  have h1 := Lib.hid (fun h => err_hold (ev := ev) (j := j) (hold_no hj.1 hj.2.1 h))
  have h2 := Lib.hid (fun h => err_once (ev := ev) (j := j) ((hold_plain hj.1 hj.2.1).2 h)); have h3 := Lib.hid (fun h => err_both (ev := ev) (j := j) ((hold_plain hj.1 hj.2.1).2 h))
  have h4 := Lib.hid (fun h => err_cron (ev := ev) (j := j) ((hold_plain hj.1 hj.2.1).2 h)); have h5 := Lib.hid (fun h => err_never (ev := ev) (j := j) ((hold_plain hj.1 hj.2.1).2 h)); have h6 := Lib.hid (fun h => err_ever (ev := ev) (j := j) ((hold_plain hj.1 hj.2.1).2 h))
  clear hev
  generalize j.err ev = z at *
  obtain ⟨n, o, L, t, ov, ca, re⟩ := j
  obtain ⟨n0, n1, hl5⟩ := hj
  simp only at hl5
  obtain ⟨a, b, c, d, e, rfl⟩ := list_five hl5
  have HPL := Lib.hid (fun W => rplain_any n ov ca re W)
  have HTI := Lib.hid (fun W => rtime10_any t W)
  have HRI := Lib.hid (fun W => crB_five' a b c d e W)
  have HEV := Lib.hid (fun W hk => rever_any a b c d e W hk)
  have HNIL := Lib.hid (five_nil a b c d e)
  obtain ⟨WB, hWB, hb0, hj0, _⟩ := job_new w n o a b c d e t ov ca re
  have HB0 := Lib.hid hb0; have HJ := Lib.hid hj0
  have HX0 := Lib.hid (Below.refl WB.heap.size WB)
  clear hb0 hj0 hl5 n0 n1
  simp only at h1 h2 h3 h4 h5 h6 HVE
  rw [jobV_five] at *
  rw [cronV_five] at *
  unfold fiveV at *
  generalize ev [a, b, c, d, e] = ez at *
  generalize crB [a, b, c, d, e] = cb at *
  obtain ⟨c0, c1, c2, c3, c4, c5, c6, c7, c8, c9, c10⟩ := HJ.out.cells
  go_enter Tryz.func12, Tryz.ntmps12
  go_wp2_with fail
  rw [← hWB]
  clear hWB
  refine (HPL.out _).mono ?_
  rintro x w1 ⟨⟨pz, rfl, hpz⟩, rfl⟩
  cases pz with
  | false =>
    have hnp : ¬ PlainP n ov ca re := fun h => by have := hpz.2 h; cases this
    clear hpz
    have HZ := Lib.hid (h1.out (fun h => hnp h.1))
    go_wp2_with fail
    go_ret
    exact ⟨by rw [HZ.out]; try rfl, HB0.out.trans (HX0.out.mono HB0.out.size)⟩
  | true =>
    have hpl := hpz.1 rfl
    clear hpz
    cases o with
    | true =>
      go_wp2_with fail
      refine (HTI.out _).mono ?_
      rintro x w2 ⟨⟨tz, rfl, htz⟩, rfl⟩
      cases tz with
      | false =>
        have hnt : ¬ TimeP t := fun h => by have := htz.2 h; cases this
        clear htz
        have HZ := Lib.hid (h1.out (fun h => hnt (by simpa using h.2)))
        go_wp2_with fail
        go_ret
        exact ⟨by rw [HZ.out]; try rfl, HB0.out.trans (HX0.out.mono HB0.out.size)⟩
      | true =>
        have htp := htz.1 rfl
        clear htz
        rcases HNIL.out with ⟨hn, u0, u1, u2, u3, u4⟩ | ⟨hn, hcase⟩
        · have HZ0 := Lib.hid (h2.out ⟨hpl, by simpa using htp⟩ (by simp) hn)
          clear h1 h2 h3 h4 h5 h6 hn
          have HZ := Lib.hid (HZ0.out)
          go_wp2_with fail
          go_ret
          exact ⟨by rw [HZ.out]; try rfl, HB0.out.trans (HX0.out.mono HB0.out.size)⟩
        · have HZ0 := Lib.hid (h3.out ⟨hpl, by simpa using htp⟩ (by simp) hn)
          clear h1 h2 h3 h4 h5 h6 hn
          rcases hcase with u0 | ⟨u0, u1 | ⟨u1, u2 | ⟨u2, u3 | ⟨u3, u4⟩⟩⟩⟩
          all_goals
            have HZ := Lib.hid (HZ0.out)
            go_wp2_with fail
            go_ret
            exact ⟨by rw [HZ.out]; try rfl, HB0.out.trans (HX0.out.mono HB0.out.size)⟩
    | false =>
      by_cases ht : t = 0
      · have g0 : (t != 0) = false := by simpa using ht
        go_wp2_with fail
        refine (HRI.out _).mono ?_
        rintro x w2 ⟨rfl, hb⟩
        have HX2 := Lib.hid (HX0.out.trans (hb.mono HX0.out.size))
        clear hb c0 c1 c2 c3 c4 c5 c6 c7 c8 c9 c10
        obtain ⟨c0, c1, c2, c3, c4, c5, c6, c7, c8, c9, c10⟩ := (HJ.out.on HX2.out).cells
        cases cb with
        | false =>
          have HZ0 := Lib.hid (h4.out ⟨hpl, by simpa using ht⟩ (by simp) (by simp))
          clear h1 h2 h3 h4 h5 h6
          have HZ := Lib.hid (HZ0.out)
          go_wp2_with fail
          go_ret
          exact ⟨by rw [HZ.out]; try rfl, HB0.out.trans (HX2.out.mono HB0.out.size)⟩
        | true =>
          have HE1 := Lib.hid (h5.out ⟨hpl, by simpa using ht⟩ (by simp) (by simp)); have HE2 := Lib.hid (h6.out ⟨hpl, by simpa using ht⟩ (by simp) (by simp))
          have HEV2 := Lib.hid (fun W => HEV.out W rfl)
          clear h1 h2 h3 h4 h5 h6 HEV
          go_wp2_with fail
          refine (HEV2.out _).mono ?_
          rintro x w3 ⟨z', rfl, hz', hb⟩
          have HX3 := Lib.hid (HX2.out.trans (hb.mono HX2.out.size))
          have hze : z' = ez := by
            have h := hz'.trans HVE.out.symm
            cases z' <;> cases ez <;> simp_all
          subst hze
          clear hb c0 c1 c2 c3 c4 c5 c6 c7 c8 c9 c10 hz'
          cases z' with
          | false =>
            have HZ := Lib.hid (HE1.out (by simp))
            go_wp2_with fail
            go_ret
            exact ⟨by rw [HZ.out]; try rfl, HB0.out.trans (HX3.out.mono HB0.out.size)⟩
          | true =>
            have HZ := Lib.hid (HE2.out (by simp))
            go_wp2_with fail
            go_ret
            exact ⟨by rw [HZ.out]; try rfl, HB0.out.trans (HX3.out.mono HB0.out.size)⟩
      · have g0 : (t != 0) = true := by simpa using ht
        have HZ := Lib.hid (h1.out (fun h => ht (by simpa using h.2)))
        go_wp2_with fail
        go_ret
        exact ⟨by rw [HZ.out]; try rfl, HB0.out.trans (HX0.out.mono HB0.out.size)⟩
end Go.Proofs.YtbaobjbckabnhaaGreatDoor
