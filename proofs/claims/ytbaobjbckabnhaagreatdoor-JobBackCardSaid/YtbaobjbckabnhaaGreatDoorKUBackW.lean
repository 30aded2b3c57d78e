/- JobBack: jobs and their wishes lead back to one another: walked. -/
import Derived.Test.YtbaobjbckabnhaaGreatDoorKUWakes
import Derived.Test.YtbaobjbckabnhaaGreatDoorKUCut
namespace Go.Proofs.YtbaobjbckabnhaaGreatDoor
open Go.RowKit

theorem str_ne {s : List UInt8} (h : s ≠ []) : ((⟨s.toArray⟩ : ByteArray) == ⟨#[]⟩) = false := by
  cases s with
  | nil => exact absurd rfl h
  | cons b r => rfl
theorem wish_len {ev : List (BitVec 64) → Bool} {j : JobZ} (h : j.err ev = 0) : j.wish.s.length ≤ maxLen := by
  unfold JobZ.wish maxLen
  simp only
  split
  · simp
  · rename_i ho
    rcases (err_ok h).2 with ⟨h, _⟩ | ⟨_, h, _⟩
    · exact absurd h ho
    · have := text_len_ok h; omega
theorem wish_fit {j : JobZ} (h : j.Fit) : j.wish.Fit := ⟨h.1, h.2.1⟩
theorem wish_pair (w : World) (n : Int) (o : Bool) (a b c d e : BitVec 64) (t ov ca re xn : Int) (xs : List UInt8) (xt xov xca xre : Int) : ∃ W : World, W = (w.alloc (.cells #[.int .u32 n, .bool o, .int .u64 (U a), .int .u64 (U b), .int .u64 (U c), .int .u64 (U d), .int .u64 (U e), .int .i64 t, .int .i64 ov, .int .i64 ca, .int .i64 re] 33)).alloc (.cells #[.int .u32 xn, .string ⟨xs.toArray⟩, .int .i64 xt, .int .i64 xov, .int .i64 xca, .int .i64 xre] 26) ∧ Below w.heap.size w W ∧ JobAt W w.heap.size ⟨n, o, [a, b, c, d, e], t, ov, ca, re⟩ ∧ WishAt W (w.heap.size + 1) ⟨xn, xs, xt, xov, xca, xre⟩ := by
  refine ⟨_, rfl, ((Below.refl _ w).alloc (Nat.le_refl _) _).alloc (by simp) _, (JobAt.new w n o a b c d e t ov ca re).alloc _, ?_⟩
  have := WishAt.new (w.alloc (.cells #[.int .u32 n, .bool o, .int .u64 (U a), .int .u64 (U b), .int .u64 (U c), .int .u64 (U d), .int .u64 (U e), .int .i64 t, .int .i64 ov, .int .i64 ca, .int .i64 re] 33)) xn xs xt xov xca xre
  rwa [World.size_alloc] at this
/-- What comes of a wish's job. -/
def BackOf (xn xt : Int) (ux : List UInt8) (J : JobZ) : Prop := ∃ (jo : Bool) (q0 q1 q2 q3 q4 : BitVec 64) (jov jca jre : Int) (tx : List UInt8), J = ⟨xn, jo, [q0, q1, q2, q3, q4], xt, jov, jca, jre⟩ ∧ ((tx = [] ∧ ux = []) ∨ (tx ≠ [] ∧ ux ≠ [])) ∧
  Hid (∀ W, LaidC W → Calls Tryz.prog 21 #[.agg #[.int .u32 xn, .bool jo, .int .u64 (U q0), .int .u64 (U q1), .int .u64 (U q2), .int .u64 (U q3), .int .u64 (U q4), .int .i64 xt, .int .i64 jov, .int .i64 jca, .int .i64 jre]] W fun y w' => y = .returned (.tuple #[.agg #[.int .u32 xn, .string ⟨tx.toArray⟩, .int .i64 xt, .int .i64 jov, .int .i64 jca, .int .i64 jre], .int .i64 0]) ∧ Below W.heap.size W w') ∧
  Hid (∀ W, LaidC W → Calls Tryz.prog 22 #[.agg #[.int .u32 xn, .bool jo, .int .u64 (U q0), .int .u64 (U q1), .int .u64 (U q2), .int .u64 (U q3), .int .u64 (U q4), .int .i64 xt, .int .i64 jov, .int .i64 jca, .int .i64 jre]] W fun y w' => y = .returned (.int .i64 0) ∧ Below W.heap.size W w') ∧
  Hid (∀ W, LaidC W → Calls Tryz.prog 10 #[.agg #[.int .u32 xn, .string ⟨tx.toArray⟩, .int .i64 xt, .int .i64 jov, .int .i64 jca, .int .i64 jre]] W fun y w' => y = .returned (.tuple #[.agg #[.int .u32 xn, .bool jo, .int .u64 (U q0), .int .u64 (U q1), .int .u64 (U q2), .int .u64 (U q3), .int .u64 (U q4), .int .i64 xt, .int .i64 jov, .int .i64 jca, .int .i64 jre], .int .i64 0]) ∧ Below W.heap.size W w')
theorem back_of {ev : List (BitVec 64) → Bool} (hev : EvIs ev) {xn xt xov xca xre : Int} {ux : List UInt8} (hx : WishZ.Fit ⟨xn, ux, xt, xov, xca, xre⟩) {J : JobZ} (h : ofZ ev ⟨xn, ux, xt, xov, xca, xre⟩ = (J, 0)) : BackOf xn xt ux J := by
  obtain ⟨hfit, herr, hn, ht, ho⟩ := of_ok hx h
  have hw := wish_fit hfit
  have hl := wish_len herr
  have hof := of_wish hfit.2.2 herr
  have hwe : J.wishE ev = J.wish := by unfold JobZ.wishE; rw [if_pos herr]
  have hW := fun W hW => jwish_any ev hev J W hW hfit
  have hC := fun W hW => jcheck_any ev hev J W hW hfit
  have hO := fun W hW => jof_any ev hev J.wish W hW hw hl
  rw [hwe, herr] at hW
  rw [herr] at hC
  rw [hof] at hO
  have hok := (err_ok herr).2
  obtain ⟨n, jo, L, t, jov, jca, jre⟩ := J
  simp only at hn ht ho hok
  subst hn; subst ht
  obtain ⟨q0, q1, q2, q3, q4, rfl⟩ := list_five hfit.2.2
  refine ⟨jo, q0, q1, q2, q3, q4, jov, jca, jre, (JobZ.wish ⟨n, jo, [q0, q1, q2, q3, q4], t, jov, jca, jre⟩).s, rfl, ?_, Lib.hid hW, Lib.hid hC, Lib.hid hO⟩
  cases ux with
  | nil => exact .inl ⟨by unfold JobZ.wish; rw [ho]; rfl, rfl⟩
  | cons b r =>
    have ho' : jo = false := ho
    refine .inr ⟨?_, by simp⟩
    rcases hok with ⟨h, _⟩ | ⟨_, h, _⟩
    · rw [ho'] at h; cases h
    · unfold JobZ.wish
      simp only [ho', Bool.false_eq_true, if_false]
      exact text_some h rfl
set_option maxRecDepth 100000 in
set_option maxHeartbeats 8000000 in
theorem jback_walk (j : JobZ) (x : WishZ) (w : World) (hL : LaidC w) (hj : j.Fit) (hx : x.Fit) (hs : x.s.length ≤ maxLen) :
    Calls Tryz.prog 5 #[jobV j, wishV x] w fun y w' => y = .returned (.bool true) ∧ Below w.heap.size w w' := by
  obtain ⟨ev, hev⟩ := ev_is
  have HWK := Lib.hid (fun W hW => jwakes_any ev hev W hW)
  have HWI := Lib.hid (fun W hW => jwish_any ev hev j W hW hj)
  have HOF := Lib.hid (fun (h : j.err ev = 0) W hW => by have := jof_any ev hev j.wish W hW (wish_fit hj) (wish_len h); rw [of_wish hj.2.2 h] at this; exact this)
  have HWE : Hid (j.err ev = 0 → j.wishE ev = j.wish) := Lib.hid (fun h => by unfold JobZ.wishE; rw [if_pos h])
  have HWZ : Hid (j.err ev ≠ 0 → j.wishE ev = zeroW) := Lib.hid (fun h => by unfold JobZ.wishE; rw [if_neg h])
  have HCUT := Lib.hid (fun W => jcut_any x W hs)
  obtain ⟨J, E, hJE⟩ : ∃ J E, ofZ ev x.cut = (J, E) := ⟨_, _, rfl⟩
  have HOX := Lib.hid (fun W hW => by have := jof_any ev hev x.cut W hW ⟨hx.1, hx.2⟩ (by have := cutW_len x; unfold maxLen; omega); rw [hJE] at this; exact this)
  have HBADX : Hid (E ≠ 0 → J = zeroJ) := Lib.hid (fun h => of_bad hJE h)
  have HOKX : Hid (E = 0 → BackOf x.cut.n x.cut.t x.cut.s J) := Lib.hid (fun h => by subst h; exact back_of (xn := x.n) (ux := x.s.take 260) (xt := x.t) (xov := x.ov) (xca := x.ca) (xre := x.re) hev (show WishZ.Fit ⟨x.n, x.s.take 260, x.t, x.ov, x.ca, x.re⟩ from ⟨hx.1, hx.2⟩) hJE)
  clear hJE hev
  have hwn : j.wish.n = j.n ∧ j.wish.t = j.t ∧ j.wish.ov = j.ov ∧ j.wish.ca = j.ca ∧ j.wish.re = j.re := ⟨rfl, rfl, rfl, rfl, rfl⟩
  obtain ⟨n, o, L, t, ov, ca, re⟩ := j
  obtain ⟨n0, n1, hl5⟩ := hj
  simp only at hl5
  obtain ⟨a, b, c, d, e, rfl⟩ := list_five hl5
  have hwf : JobZ.wish ⟨n, o, [a, b, c, d, e], t, ov, ca, re⟩ = ⟨n, (JobZ.wish ⟨n, o, [a, b, c, d, e], t, ov, ca, re⟩).s, t, ov, ca, re⟩ := rfl
  rw [hwf] at HOF HWE
  generalize (JobZ.wish ⟨n, o, [a, b, c, d, e], t, ov, ca, re⟩).s = tx at *
  generalize JobZ.wishE ev ⟨n, o, [a, b, c, d, e], t, ov, ca, re⟩ = we at *
  generalize JobZ.err ev ⟨n, o, [a, b, c, d, e], t, ov, ca, re⟩ = z at *
  obtain ⟨xn, xs, xt, xov, xca, xre⟩ := x
  unfold WishZ.cut at *
  simp only at HOKX HOX HCUT
  generalize xs.take 260 = ux at *
  obtain ⟨W0, hW0, hb0, hj0, hx0⟩ := wish_pair w n o a b c d e t ov ca re xn xs xt xov xca xre
  have HB0 := Lib.hid hb0; have HJ0 := Lib.hid hj0; have HX0 := Lib.hid hx0; have HLW := Lib.hid hL
  rw [jobV_five] at HWI HOF
  rw [jobV_five]
  rw [wishV_six] at HOF HCUT HOX
  rw [wishV_six] at HCUT
  rw [wishV_six]
  clear hL hb0 hj0 hx0 hl5 n0 n1 hs hx hwf hwn
  go_enter Tryz.func5, Tryz.ntmps5
  go_wp2_with fail
  rw [← hW0]
  clear hW0
  refine (HWK.out _ (HLW.out.on HB0.out)).mono ?_
  rintro x w1 ⟨rfl, hb⟩
  have HB1 := Lib.hid (HB0.out.trans (hb.mono HB0.out.size)); have HJ1 := Lib.hid (HJ0.out.on hb); have HX1 := Lib.hid (HX0.out.on hb)
  clear hb HB0 HJ0 HX0 HWK
  obtain ⟨c0, c1, c2, c3, c4, c5, c6, c7, c8, c9, c10⟩ := HJ1.out.cells
  go_wp2_with fail
  refine (HWI.out _ (HLW.out.on HB1.out)).mono ?_
  rintro x w2 ⟨rfl, hb⟩
  have HB2 := Lib.hid (HB1.out.trans (hb.mono HB1.out.size)); have HJ2 := Lib.hid (HJ1.out.on hb); have HX2 := Lib.hid (HX1.out.on hb)
  clear hb HB1 HJ1 HX1 HWI c0 c1 c2 c3 c4 c5 c6 c7 c8 c9 c10
  by_cases hz : z = 0
  · subst hz
    have hwe := HWE.out rfl
    subst hwe
    rw [wishV_six]
    have HOF2 := Lib.hid (HOF.out rfl)
    clear HOF HWE HWZ
    obtain ⟨w3, hw3, hb3, hy3, _⟩ := wish_new w2 n tx t ov ca re
    have HB3 := Lib.hid (HB2.out.trans (hb3.mono HB2.out.size)); have HJ3 := Lib.hid (HJ2.out.on hb3); have HX3 := Lib.hid (HX2.out.on hb3)
    obtain ⟨r0, r1, r2, r3, r4, r5⟩ := hy3.cells
    rw [hw3] at r0 r1 r2 r3 r4 r5
    clear hb3 hy3 HB2 HJ2 HX2
    go_wp2_with fail
    rw [← hw3]
    clear hw3 r0 r1 r2 r3 r4 r5
    refine (HOF2.out _ (HLW.out.on HB3.out)).mono ?_
    rintro x w4 ⟨rfl, hb⟩
    have HB4 := Lib.hid (HB3.out.trans (hb.mono HB3.out.size)); have HJ4 := Lib.hid (HJ3.out.on hb); have HX4 := Lib.hid (HX3.out.on hb)
    clear hb HB3 HJ3 HX3 HOF2
    obtain ⟨wp, hwp, hbp, hjp, _⟩ := job_new w4 n o a b c d e t ov ca re
    have HBp := Lib.hid (HB4.out.trans (hbp.mono HB4.out.size)); have HXp := Lib.hid (HX4.out.on hbp)
    obtain ⟨c0, c1, c2, c3, c4, c5, c6, c7, c8, c9, c10⟩ := (HJ4.out.on hbp).cells
    clear hjp hbp HB4 HX4 HJ4
    obtain ⟨r0, r1, r2, r3, r4, r5⟩ := HXp.out.cells
    rw [hwp] at c0 c1 c2 c3 c4 c5 c6 c7 c8 c9 c10 r0 r1 r2 r3 r4 r5
    go_wp2_with fail
    rw [← hwp]
    clear hwp c0 c1 c2 c3 c4 c5 c6 c7 c8 c9 c10 r0 r1 r2 r3 r4 r5
    refine (HCUT.out _).mono ?_
    rintro x w6 ⟨rfl, hb⟩
    have HB6 := Lib.hid (HBp.out.trans (hb.mono HBp.out.size)); have HX6 := Lib.hid (HXp.out.on hb)
    clear hb HBp HXp
    obtain ⟨r0, r1, r2, r3, r4, r5⟩ := HX6.out.cells
    have g0 := HX6.out.frozen 0; have g1 := HX6.out.frozen 1; have g2 := HX6.out.frozen 2; have g3 := HX6.out.frozen 3; have g4 := HX6.out.frozen 4; have g5 := HX6.out.frozen 5
    go_wp2_with fail
    obtain ⟨w7, hw7, hx7, hb7⟩ := set6_run HX6.out HB6.out (Nat.le_succ _) xn ux xt xov xca xre
    unfold set6V at hw7
    rw [← hw7]
    have HB7 := Lib.hid hb7; have HX7 := Lib.hid hx7
    clear hw7 hb7 hx7 r0 r1 r2 r3 r4 r5 g0 g1 g2 g3 g4 g5 HB6 HX6
    refine (HOX.out _ (HLW.out.on HB7.out)).mono ?_
    rintro x w8 ⟨rfl, hb⟩
    have HB8 := Lib.hid (HB7.out.trans (hb.mono HB7.out.size)); have HX8 := Lib.hid (HX7.out.on hb)
    clear hb HB7 HX7 HOX HCUT
    by_cases hE : E = 0
    · subst hE
      obtain ⟨jo, q0, q1, q2, q3, q4, jov, jca, jre, tx2, rfl, htx, HJW, HJC, HJO⟩ := HOKX.out rfl
      rw [jobV_five]
      clear HOKX HBADX
      obtain ⟨w9, hw9, hb9, hj9, _⟩ := job_new w8 xn jo q0 q1 q2 q3 q4 xt jov jca jre
      have HB9 := Lib.hid (HB8.out.trans (hb9.mono HB8.out.size)); have HX9 := Lib.hid (HX8.out.on hb9); have HK9 := Lib.hid hj9
      clear hb9 hj9 HB8 HX8
      obtain ⟨c0, c1, c2, c3, c4, c5, c6, c7, c8, c9, c10⟩ := HK9.out.cells
      rw [hw9] at c0 c1 c2 c3 c4 c5 c6 c7 c8 c9 c10
      go_wp2_with fail
      rw [← hw9]
      clear hw9 c0 c1 c2 c3 c4 c5 c6 c7 c8 c9 c10
      refine (HJW.out _ (HLW.out.on HB9.out)).mono ?_
      rintro x w10 ⟨rfl, hb⟩
      have HB10 := Lib.hid (HB9.out.trans (hb.mono HB9.out.size)); have HX10 := Lib.hid (HX9.out.on hb); have HK10 := Lib.hid (HK9.out.on hb)
      clear hb HB9 HX9 HK9
      obtain ⟨w11, hw11, hb11, hy11, _⟩ := wish_new w10 xn tx2 xt jov jca jre
      have HB11 := Lib.hid (HB10.out.trans (hb11.mono HB10.out.size)); have HX11 := Lib.hid (HX10.out.on hb11); have HK11 := Lib.hid (HK10.out.on hb11); have HY11 := Lib.hid hy11
      clear hb11 hy11 HB10 HX10 HK10
      obtain ⟨r0, r1, r2, r3, r4, r5⟩ := HY11.out.cells
      rw [hw11] at r0 r1 r2 r3 r4 r5
      go_wp2_with fail
      rw [← hw11]
      clear hw11 r0 r1 r2 r3 r4 r5
      refine (HJO.out _ (HLW.out.on HB11.out)).mono ?_
      rintro x w12 ⟨rfl, hb⟩
      have HB12 := Lib.hid (HB11.out.trans (hb.mono HB11.out.size)); have HX12 := Lib.hid (HX11.out.on hb); have HK12 := Lib.hid (HK11.out.on hb); have HY12 := Lib.hid (HY11.out.on hb)
      clear hb HB11 HX11 HK11 HY11
      obtain ⟨w13, hw13, hb13, hj13, _⟩ := job_new w12 xn jo q0 q1 q2 q3 q4 xt jov jca jre
      have HB13 := Lib.hid (HB12.out.trans (hb13.mono HB12.out.size)); have HX13 := Lib.hid (HX12.out.on hb13); have HK13 := Lib.hid (HK12.out.on hb13); have HY13 := Lib.hid (HY12.out.on hb13); have HN13 := Lib.hid hj13
      clear hb13 hj13 HB12 HX12 HK12 HY12
      obtain ⟨c0, c1, c2, c3, c4, c5, c6, c7, c8, c9, c10⟩ := HK13.out.cells
      rw [hw13] at c0 c1 c2 c3 c4 c5 c6 c7 c8 c9 c10
      go_wp2_with fail
      rw [← hw13]
      clear hw13 c0 c1 c2 c3 c4 c5 c6 c7 c8 c9 c10
      refine (HJC.out _ (HLW.out.on HB13.out)).mono ?_
      rintro x w14 ⟨rfl, hb⟩
      have HB14 := Lib.hid (HB13.out.trans (hb.mono HB13.out.size))
      obtain ⟨c0, c1, c2, c3, c4, c5, c6, c7, c8, c9, c10⟩ := (HK13.out.on hb).cells
      obtain ⟨d0, d1, d2, d3, d4, d5, d6, d7, d8, d9, d10⟩ := (HN13.out.on hb).cells
      obtain ⟨r0, r1, r2, r3, r4, r5⟩ := (HX13.out.on hb).cells
      obtain ⟨s0, s1, s2, s3, s4, s5⟩ := (HY13.out.on hb).cells
      clear hb HB13 HX13 HK13 HY13 HN13 HJW HJC HJO
      rcases htx with ⟨rfl, rfl⟩ | ⟨h1, h2⟩
      · go_wp2_with fail
        go_ret
        exact ⟨rfl, HB14.out⟩
      · have e1 : ((⟨tx2.toArray⟩ : ByteArray) == ⟨#[]⟩) = false := str_ne h1
        have e2 : ((⟨ux.toArray⟩ : ByteArray) == ⟨#[]⟩) = false := str_ne h2
        have e3 : tx2.isEmpty = false := by cases tx2; exact absurd rfl h1; rfl
        have e4 : ux.isEmpty = false := by cases ux; exact absurd rfl h2; rfl
        go_wp2_with fail
        go_ret
        exact ⟨rfl, HB14.out⟩
    · have hE1 : (E != 0) = true := by simpa using hE
      have hz := HBADX.out hE
      subst hz
      have hj3 : jobV zeroJ = .agg #[.int .u32 0, .bool false, .int .u64 0, .int .u64 0, .int .u64 0, .int .u64 0, .int .u64 0, .int .i64 0, .int .i64 0, .int .i64 0, .int .i64 0] := rfl
      rw [hj3]
      have HB9 := Lib.hid (HB8.out.alloc HB8.out.size (.cells #[.int .u32 0, .bool false, .int .u64 0, .int .u64 0, .int .u64 0, .int .u64 0, .int .u64 0, .int .i64 0, .int .i64 0, .int .i64 0, .int .i64 0] 33))
      clear HOKX HBADX
      go_wp2_with fail
      go_ret
      exact ⟨rfl, HB9.out⟩
  · have hz1 : (z == 0) = false := by simpa using hz
    have hwe := HWZ.out hz
    subst hwe
    have hzw : wishV zeroW = .agg #[.int .u32 0, .string ⟨#[]⟩, .int .i64 0, .int .i64 0, .int .i64 0, .int .i64 0] := rfl
    rw [hzw]
    clear HOF HWE HWZ
    obtain ⟨wp, hwp, hbp⟩ : ∃ W : World, W = w2.alloc (.cells #[.int .u32 0, .string ⟨#[]⟩, .int .i64 0, .int .i64 0, .int .i64 0, .int .i64 0] 26) ∧ Below w2.heap.size w2 W := ⟨_, rfl, (Below.refl _ w2).alloc (Nat.le_refl _) _⟩
    have HBp := Lib.hid (HB2.out.trans (hbp.mono HB2.out.size)); have HXp := Lib.hid (HX2.out.on hbp)
    clear hbp HB2 HX2 HJ2
    obtain ⟨r0, r1, r2, r3, r4, r5⟩ := HXp.out.cells
    rw [hwp] at r0 r1 r2 r3 r4 r5
    go_wp2_with fail
    rw [← hwp]
    clear hwp r0 r1 r2 r3 r4 r5
    refine (HCUT.out _).mono ?_
    rintro x w6 ⟨rfl, hb⟩
    have HB6 := Lib.hid (HBp.out.trans (hb.mono HBp.out.size)); have HX6 := Lib.hid (HXp.out.on hb)
    clear hb HBp HXp
    obtain ⟨r0, r1, r2, r3, r4, r5⟩ := HX6.out.cells
    have g0 := HX6.out.frozen 0; have g1 := HX6.out.frozen 1; have g2 := HX6.out.frozen 2; have g3 := HX6.out.frozen 3; have g4 := HX6.out.frozen 4; have g5 := HX6.out.frozen 5
    go_wp2_with fail
    obtain ⟨w7, hw7, hx7, hb7⟩ := set6_run HX6.out HB6.out (Nat.le_succ _) xn ux xt xov xca xre
    unfold set6V at hw7
    rw [← hw7]
    have HB7 := Lib.hid hb7; have HX7 := Lib.hid hx7
    clear hw7 hb7 hx7 r0 r1 r2 r3 r4 r5 g0 g1 g2 g3 g4 g5 HB6 HX6
    refine (HOX.out _ (HLW.out.on HB7.out)).mono ?_
    rintro x w8 ⟨rfl, hb⟩
    have HB8 := Lib.hid (HB7.out.trans (hb.mono HB7.out.size)); have HX8 := Lib.hid (HX7.out.on hb)
    clear hb HB7 HX7 HOX HCUT
    by_cases hE : E = 0
    · subst hE
      obtain ⟨jo, q0, q1, q2, q3, q4, jov, jca, jre, tx2, rfl, htx, HJW, HJC, HJO⟩ := HOKX.out rfl
      rw [jobV_five]
      clear HOKX HBADX
      obtain ⟨w9, hw9, hb9, hj9, _⟩ := job_new w8 xn jo q0 q1 q2 q3 q4 xt jov jca jre
      have HB9 := Lib.hid (HB8.out.trans (hb9.mono HB8.out.size)); have HX9 := Lib.hid (HX8.out.on hb9); have HK9 := Lib.hid hj9
      clear hb9 hj9 HB8 HX8
      obtain ⟨c0, c1, c2, c3, c4, c5, c6, c7, c8, c9, c10⟩ := HK9.out.cells
      rw [hw9] at c0 c1 c2 c3 c4 c5 c6 c7 c8 c9 c10
      go_wp2_with fail
      rw [← hw9]
      clear hw9 c0 c1 c2 c3 c4 c5 c6 c7 c8 c9 c10
      refine (HJW.out _ (HLW.out.on HB9.out)).mono ?_
      rintro x w10 ⟨rfl, hb⟩
      have HB10 := Lib.hid (HB9.out.trans (hb.mono HB9.out.size)); have HX10 := Lib.hid (HX9.out.on hb); have HK10 := Lib.hid (HK9.out.on hb)
      clear hb HB9 HX9 HK9
      obtain ⟨w11, hw11, hb11, hy11, _⟩ := wish_new w10 xn tx2 xt jov jca jre
      have HB11 := Lib.hid (HB10.out.trans (hb11.mono HB10.out.size)); have HX11 := Lib.hid (HX10.out.on hb11); have HK11 := Lib.hid (HK10.out.on hb11); have HY11 := Lib.hid hy11
      clear hb11 hy11 HB10 HX10 HK10
      obtain ⟨r0, r1, r2, r3, r4, r5⟩ := HY11.out.cells
      rw [hw11] at r0 r1 r2 r3 r4 r5
      go_wp2_with fail
      rw [← hw11]
      clear hw11 r0 r1 r2 r3 r4 r5
      refine (HJO.out _ (HLW.out.on HB11.out)).mono ?_
      rintro x w12 ⟨rfl, hb⟩
      have HB12 := Lib.hid (HB11.out.trans (hb.mono HB11.out.size)); have HX12 := Lib.hid (HX11.out.on hb); have HK12 := Lib.hid (HK11.out.on hb); have HY12 := Lib.hid (HY11.out.on hb)
      clear hb HB11 HX11 HK11 HY11
      obtain ⟨w13, hw13, hb13, hj13, _⟩ := job_new w12 xn jo q0 q1 q2 q3 q4 xt jov jca jre
      have HB13 := Lib.hid (HB12.out.trans (hb13.mono HB12.out.size)); have HX13 := Lib.hid (HX12.out.on hb13); have HK13 := Lib.hid (HK12.out.on hb13); have HY13 := Lib.hid (HY12.out.on hb13); have HN13 := Lib.hid hj13
      clear hb13 hj13 HB12 HX12 HK12 HY12
      obtain ⟨c0, c1, c2, c3, c4, c5, c6, c7, c8, c9, c10⟩ := HK13.out.cells
      rw [hw13] at c0 c1 c2 c3 c4 c5 c6 c7 c8 c9 c10
      go_wp2_with fail
      rw [← hw13]
      clear hw13 c0 c1 c2 c3 c4 c5 c6 c7 c8 c9 c10
      refine (HJC.out _ (HLW.out.on HB13.out)).mono ?_
      rintro x w14 ⟨rfl, hb⟩
      have HB14 := Lib.hid (HB13.out.trans (hb.mono HB13.out.size))
      obtain ⟨c0, c1, c2, c3, c4, c5, c6, c7, c8, c9, c10⟩ := (HK13.out.on hb).cells
      obtain ⟨d0, d1, d2, d3, d4, d5, d6, d7, d8, d9, d10⟩ := (HN13.out.on hb).cells
      obtain ⟨r0, r1, r2, r3, r4, r5⟩ := (HX13.out.on hb).cells
      obtain ⟨s0, s1, s2, s3, s4, s5⟩ := (HY13.out.on hb).cells
      clear hb HB13 HX13 HK13 HY13 HN13 HJW HJC HJO
      rcases htx with ⟨rfl, rfl⟩ | ⟨h1, h2⟩
      · go_wp2_with fail
        go_ret
        exact ⟨rfl, HB14.out⟩
      · have e1 : ((⟨tx2.toArray⟩ : ByteArray) == ⟨#[]⟩) = false := str_ne h1
        have e2 : ((⟨ux.toArray⟩ : ByteArray) == ⟨#[]⟩) = false := str_ne h2
        have e3 : tx2.isEmpty = false := by cases tx2; exact absurd rfl h1; rfl
        have e4 : ux.isEmpty = false := by cases ux; exact absurd rfl h2; rfl
        go_wp2_with fail
        go_ret
        exact ⟨rfl, HB14.out⟩
    · have hE1 : (E != 0) = true := by simpa using hE
      have hz := HBADX.out hE
      subst hz
      have hj3 : jobV zeroJ = .agg #[.int .u32 0, .bool false, .int .u64 0, .int .u64 0, .int .u64 0, .int .u64 0, .int .u64 0, .int .i64 0, .int .i64 0, .int .i64 0, .int .i64 0] := rfl
      rw [hj3]
      have HB9 := Lib.hid (HB8.out.alloc HB8.out.size (.cells #[.int .u32 0, .bool false, .int .u64 0, .int .u64 0, .int .u64 0, .int .u64 0, .int .u64 0, .int .i64 0, .int .i64 0, .int .i64 0, .int .i64 0] 33))
      clear HOKX HBADX
      go_wp2_with fail
      go_ret
      exact ⟨rfl, HB9.out⟩
end Go.Proofs.YtbaobjbckabnhaaGreatDoor
