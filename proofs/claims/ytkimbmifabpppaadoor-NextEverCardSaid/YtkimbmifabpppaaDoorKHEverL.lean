/- NextEver: who ever matches does so within each horizon: walked. -/
import Derived.Test.YtkimbmifabpppaaDoorKHTurns
namespace Go.Proofs.YtkimbmifabpppaaDoor
open Go.RowKit

set_option maxRecDepth 100000 in
set_option maxHeartbeats 2000000 in
theorem ever_walk (a b c d e : BitVec 64) (t : Int) (w : World) (hL : LaidC w) :
    Calls Tryd.prog 7 #[cronV [a, b, c, d, e], .int .i64 t] w fun x w' => x = .returned (.bool true) ∧ Below w.heap.size w w' := by
  obtain ⟨WB, hWB, hb0, hc0⟩ := cron_cell1 w a b c d e
  have HWK := Lib.hid hwakes_any
  have HNX := Lib.hid (fun t W hW => next_any [a, b, c, d, e] t W hW rfl)
  have HLS := Lib.hid (fun t W hW => nlast_any [a, b, c, d, e] t W hW rfl)
  have HB0 := Lib.hid hb0; have HC := Lib.hid hc0; have HL := Lib.hid (hL.on hb0)
  have HX0 := Lib.hid (Below.refl WB.heap.size WB)
  have HEV := Lib.hid (fun W hW => ever_any [a, b, c, d, e] W hW rfl)
  have HCK := Lib.hid (fun W hW => ccheck_any [a, b, c, d, e] W hW rfl)
  obtain ⟨s, hs⟩ : ∃ s, s = wrap64 ((IntKind.u64.wrap t).tmod 253149753600) := ⟨_, rfl⟩
  have hsr : 0 ≤ s ∧ s < 253149753600 := by
    rw [hs]
    have h0 : 0 ≤ IntKind.u64.wrap t := by rw [IntKind.wrap_u64]; omega
    rw [Int.tmod_eq_emod_of_nonneg h0]
    unfold wrap64
    omega
  obtain ⟨s0, s1⟩ := hsr
  rw [cronV_five] at *
  unfold fiveV at *
  clear hL hb0 hc0
  go_enter Tryd.func7, Tryd.ntmps7
  go_wp2_with fail
  rw [← hWB]
  clear hWB
  refine (HWK.out _ HL.out).mono ?_
  rintro x w1 ⟨rfl, hb⟩
  have HX1 := Lib.hid (HX0.out.trans (hb.mono HX0.out.size))
  clear hb HX0
  obtain ⟨c0, c1, c2, c3, c4⟩ := (HC.out.on HX1.out).five
  go_wp2_with fail
  clear c0 c1 c2 c3 c4
  refine (HEV.out _ (HL.out.on HX1.out)).mono ?_
  rintro x w2 ⟨z, rfl, hz, hb⟩
  have HX2 := Lib.hid (HX1.out.trans (hb.mono HX1.out.size))
  clear hb HX1
  have HZ := Lib.hid hz
  clear hz
  obtain ⟨c0, c1, c2, c3, c4⟩ := (HC.out.on HX2.out).five
  go_wp2_with fail
  rw [← hs]
  clear hs
  clear c0 c1 c2 c3 c4
  refine (HNX.out s _ (HL.out.on HX2.out)).mono ?_
  rintro x w3 ⟨hx, hb⟩
  have HX3 := Lib.hid (HX2.out.trans (hb.mono HX2.out.size))
  clear hb HX2
  have h2 : s + 2922 * 86400 = s + 252460800 := by omega
  cases z with
  | true =>
    obtain ⟨u, hu, _⟩ := HZ.out.1 rfl
    have hev := ever_next (TC_window [a, b, c, d, e]) hu s0 (by omega)
    rw [h2] at hev
    have hcr : crE [a, b, c, d, e] = 0 := by unfold crE; rw [hu.1]; rfl
    rw [hcr] at HCK
    have HEVN := Lib.hid hev
    clear hev hu hcr h2
    rcases hx with ⟨n, hn, rfl⟩ | ⟨hn, rfl⟩
    case inr => exact absurd hn HEVN.out.1
    clear hn
    obtain ⟨c0, c1, c2, c3, c4⟩ := (HC.out.on HX3.out).five
    go_wp2_with fail
    clear c0 c1 c2 c3 c4
    refine (HLS.out (s + 252460800) _ (HL.out.on HX3.out)).mono ?_
    rintro x w4 ⟨hx, hb⟩
    have HX4 := Lib.hid (HX3.out.trans (hb.mono HX3.out.size))
    clear hb HX3
    rcases hx with ⟨m, hm, rfl⟩ | ⟨hm, rfl⟩
    case inr => exact absurd hm HEVN.out.2
    clear hm
    obtain ⟨c0, c1, c2, c3, c4⟩ := (HC.out.on HX4.out).five
    go_wp2_with fail
    clear c0 c1 c2 c3 c4
    refine (HCK.out _ (HL.out.on HX4.out).fld).mono ?_
    rintro x w5 ⟨rfl, hb⟩
    have HX5 := Lib.hid (HX4.out.trans (hb.mono HX4.out.size))
    clear hb HX4
    go_wp2_with fail
    go_ret
    exact ⟨rfl, HB0.out.trans (HX5.out.mono HB0.out.size)⟩
  | false =>
    have hno : ∀ u, ¬ TC [a, b, c, d, e] u := fun u hu => by
      obtain ⟨x, h1, h2⟩ := ever_first (TC_window [a, b, c, d, e]) hu
      have := HZ.out.2 ⟨x, h1, h2⟩
      cases this
    have HNO := Lib.hid hno
    clear hno h2
    rcases hx with ⟨n, hn, rfl⟩ | ⟨hn, rfl⟩
    case inl => exact absurd hn.1 (HNO.out n)
    clear hn
    obtain ⟨c0, c1, c2, c3, c4⟩ := (HC.out.on HX3.out).five
    go_wp2_with fail
    clear c0 c1 c2 c3 c4
    refine (HLS.out (s + 252460800) _ (HL.out.on HX3.out)).mono ?_
    rintro x w4 ⟨hx, hb⟩
    have HX4 := Lib.hid (HX3.out.trans (hb.mono HX3.out.size))
    clear hb HX3
    rcases hx with ⟨m, hm, rfl⟩ | ⟨hm, rfl⟩
    case inl => exact absurd hm.1 (HNO.out m)
    clear hm
    obtain ⟨c0, c1, c2, c3, c4⟩ := (HC.out.on HX4.out).five
    go_wp2_with fail
    clear c0 c1 c2 c3 c4
    refine (HCK.out _ (HL.out.on HX4.out).fld).mono ?_
    rintro x w5 ⟨rfl, hb⟩
    have HX5 := Lib.hid (HX4.out.trans (hb.mono HX4.out.size))
    clear hb HX4
    generalize crE [a, b, c, d, e] = ce at *
    by_cases h0 : ce = 0
    · subst h0
      go_wp2_with fail
      go_ret
      exact ⟨rfl, HB0.out.trans (HX5.out.mono HB0.out.size)⟩
    · have hd : (ce == 0) = false := by simpa using h0
      go_wp2_with fail
      go_ret
      exact ⟨rfl, HB0.out.trans (HX5.out.mono HB0.out.size)⟩
end Go.Proofs.YtkimbmifabpppaaDoor
