/- Check of jobs: walked, of the program. -/
import Derived.Test.YtbaobjbckabnhaaGreatDoorKUHold
namespace Go.Proofs.YtbaobjbckabnhaaGreatDoor
open Go.RowKit

section
variable {ev : List (BitVec 64) → Bool} {j : JobZ}
theorem err_hold (h : holdB j.lims = false) : j.err ev = 200 := by unfold JobZ.err; rw [if_pos h]
theorem err_once (h : holdB j.lims = true) (ho : j.o = true) (hl : j.L = nilF) : j.err ev = 0 := by unfold JobZ.err; rw [if_neg (by rw [h]; simp), if_pos ⟨ho, hl⟩]
theorem err_both (h : holdB j.lims = true) (ho : j.o = true) (hl : j.L ≠ nilF) : j.err ev = 200 := by unfold JobZ.err; rw [if_neg (by rw [h]; simp), if_neg (fun h => hl h.2), if_pos (.inl ho)]
theorem err_cron (h : holdB j.lims = true) (ho : j.o = false) (hl : crB j.L = false) : j.err ev = 200 := by unfold JobZ.err; rw [if_neg (by rw [h]; simp), if_neg (fun h => by rw [ho] at h; cases h.1), if_pos (.inr hl)]
theorem err_never (h : holdB j.lims = true) (ho : j.o = false) (hl : crB j.L = true) (he : ev j.L = false) : j.err ev = 201 := by unfold JobZ.err; rw [if_neg (by rw [h]; simp), if_neg (fun h => by rw [ho] at h; cases h.1), if_neg (fun h => by rw [ho, hl] at h; rcases h with h | h <;> cases h), if_pos he]
theorem err_ever (h : holdB j.lims = true) (ho : j.o = false) (hl : crB j.L = true) (he : ev j.L = true) : j.err ev = 0 := err_is h (.inr ⟨ho, hl, he⟩)
end
theorem five_nil (a b c d e : BitVec 64) :
    (([a, b, c, d, e] : List (BitVec 64)) = nilF ∧ U a = 0 ∧ U b = 0 ∧ U c = 0 ∧ U d = 0 ∧ U e = 0) ∨
    (([a, b, c, d, e] : List (BitVec 64)) ≠ nilF ∧ (¬ U a = 0 ∨ U a = 0 ∧ (¬ U b = 0 ∨ U b = 0 ∧ (¬ U c = 0 ∨ U c = 0 ∧ (¬ U d = 0 ∨ U d = 0 ∧ ¬ U e = 0))))) := by
  rcases five_case a b c d e with ⟨h, h'⟩ | ⟨h, h'⟩
  · exact .inl ⟨by simpa using h, h'⟩
  · exact .inr ⟨by simpa using h, h'⟩
theorem crE_of {L : List (BitVec 64)} {z : Bool} (h : crB L = z) : crE L = if z then 0 else 170 := by unfold crE; rw [h]
set_option maxRecDepth 100000 in
set_option maxHeartbeats 2000000 in
theorem jcheck_any (ev : List (BitVec 64) → Bool) (hev : EvIs ev) (j : JobZ) (w : World) (hL : LaidC w) (hj : j.Fit) :
    Calls Tryz.prog 22 #[jobV j] w fun x w' => x = .returned (.int .i64 (j.err ev)) ∧ Below w.heap.size w w' := by
  have HLIM := Lib.hid (fun W => limits_any j W hj)
  have HHOLD := Lib.hid (fun A c W h => hold_any A c j.lims 5 W rfl (by omega) h)
  have HCK := Lib.hid (fun W hW => ccheck_any j.L W hW hj.2.2)
  have HEV := Lib.hid (fun W hW => ever_any j.L W hW hj.2.2)
  have h1 := Lib.hid (err_hold (ev := ev) (j := j)); have h2 := Lib.hid (err_once (ev := ev) (j := j)); have h3 := Lib.hid (err_both (ev := ev) (j := j))
  have h4 := Lib.hid (err_cron (ev := ev) (j := j)); have h5 := Lib.hid (err_never (ev := ev) (j := j)); have h6 := Lib.hid (err_ever (ev := ev) (j := j))
  have HVE := Lib.hid (hev j.L)
  clear hev
  generalize j.err ev = z at *
  generalize hcb : crB j.L = cb at *
  rw [crE_of hcb] at HCK
  clear hcb
  obtain ⟨n, o, L, t, ov, ca, re⟩ := j
  obtain ⟨n0, n1, hl5⟩ := hj
  simp only at hl5
  obtain ⟨a, b, c, d, e, rfl⟩ := list_five hl5
  obtain ⟨WB, hWB, hb0, hj0, _⟩ := job_new w n o a b c d e t ov ca re
  have HB0 := Lib.hid hb0; have HJ := Lib.hid hj0; have HL := Lib.hid (hL.on hb0)
  have HX0 := Lib.hid (Below.refl WB.heap.size WB)
  have HNIL := Lib.hid (five_nil a b c d e)
  obtain ⟨c0, c1, c2, c3, c4, c5, c6, c7, c8, c9, c10⟩ := hj0.cells
  clear hL hb0 hj0 hl5 n0 n1
  simp only at h1 h2 h3 h4 h5 h6 HCK HEV HVE
  rw [jobV_five] at *
  rw [cronV_five] at *
  unfold fiveV at *
  generalize ev [a, b, c, d, e] = ez at *
  generalize holdB _ = hz at *
  go_enter Tryz.func22, Tryz.ntmps22
  go_wp2_with fail
  rw [← hWB]
  clear hWB
  refine (HLIM.out _).mono ?_
  rintro x w1 ⟨A, cp, rfl, hla, hb⟩
  have HX1 := Lib.hid (HX0.out.trans (hb.mono HX0.out.size))
  have HLA := Lib.hid hla
  clear hb HX0 hla c0 c1 c2 c3 c4 c5 c6 c7 c8 c9 c10
  go_wp2_with fail
  refine (HHOLD.out A cp _ HLA.out).mono ?_
  rintro x w2 ⟨rfl, hb⟩
  have HX2 := Lib.hid (HX1.out.trans (hb.mono HX1.out.size))
  clear hb HX1 HLA
  obtain ⟨c0, c1, c2, c3, c4, c5, c6, c7, c8, c9, c10⟩ := (HJ.out.on HX2.out).cells
  cases hz with
  | false =>
    have HZ := Lib.hid (h1.out (by simp))
    clear h1 h2 h3 h4 h5 h6
    go_wp2_with fail
    go_ret
    exact ⟨by rw [HZ.out]; try rfl, HB0.out.trans (HX2.out.mono HB0.out.size)⟩
  | true =>
    cases o with
    | true =>
      rcases HNIL.out with ⟨hn, u0, u1, u2, u3, u4⟩ | ⟨hn, hcase⟩
      · have HZ := Lib.hid (h2.out (by simp) (by simp) hn)
        clear h1 h2 h3 h4 h5 h6 hn
        go_wp2_with fail
        go_ret
        exact ⟨by rw [HZ.out]; try rfl, HB0.out.trans (HX2.out.mono HB0.out.size)⟩
      · have HZ := Lib.hid (h3.out (by simp) (by simp) hn)
        clear h1 h2 h3 h4 h5 h6 hn
        rcases hcase with u0 | ⟨u0, u1 | ⟨u1, u2 | ⟨u2, u3 | ⟨u3, u4⟩⟩⟩⟩
        all_goals
          go_wp2_with fail
          go_ret
          exact ⟨by rw [HZ.out]; try rfl, HB0.out.trans (HX2.out.mono HB0.out.size)⟩
    | false =>
      go_wp2_with fail
      refine (HCK.out _ (HL.out.on HX2.out).fld).mono ?_
      rintro x w3 ⟨rfl, hb⟩
      have HX3 := Lib.hid (HX2.out.trans (hb.mono HX2.out.size))
      clear hb HX2 c0 c1 c2 c3 c4 c5 c6 c7 c8 c9 c10
      obtain ⟨c0, c1, c2, c3, c4, c5, c6, c7, c8, c9, c10⟩ := (HJ.out.on HX3.out).cells
      cases cb with
      | false =>
        have HZ := Lib.hid (h4.out (by simp) (by simp) (by simp))
        clear h1 h2 h3 h4 h5 h6
        go_wp2_with fail
        go_ret
        exact ⟨by rw [HZ.out]; try rfl, HB0.out.trans (HX3.out.mono HB0.out.size)⟩
      | true =>
        go_wp2_with fail
        refine (HEV.out _ (HL.out.on HX3.out)).mono ?_
        rintro x w4 ⟨z', rfl, hz', hb⟩
        have HX4 := Lib.hid (HX3.out.trans (hb.mono HX3.out.size))
        have hze : z' = ez := by
          have h := hz'.trans HVE.out.symm
          cases z' <;> cases ez <;> simp_all
        subst hze
        clear hb HX3 c0 c1 c2 c3 c4 c5 c6 c7 c8 c9 c10 hz'
        cases z' with
        | false =>
          have HZ := Lib.hid (h5.out (by simp) (by simp) (by simp) (by simp))
          clear h1 h2 h3 h4 h5 h6
          go_wp2_with fail
          go_ret
          exact ⟨by rw [HZ.out]; try rfl, HB0.out.trans (HX4.out.mono HB0.out.size)⟩
        | true =>
          have HZ := Lib.hid (h6.out (by simp) (by simp) (by simp) (by simp))
          clear h1 h2 h3 h4 h5 h6
          go_wp2_with fail
          go_ret
          exact ⟨by rw [HZ.out]; try rfl, HB0.out.trans (HX4.out.mono HB0.out.size)⟩
end Go.Proofs.YtbaobjbckabnhaaGreatDoor
