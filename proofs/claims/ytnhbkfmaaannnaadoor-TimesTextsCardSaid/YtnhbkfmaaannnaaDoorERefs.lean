/- Right, Of and At of the document. -/
import Derived.Test.YtnhbkfmaaannnaaDoorEOf
import Derived.Deep.RegionHeld3
namespace Go.Proofs.YtnhbkfmaaannnaaDoor
open Go.RowKit

theorem tatR_is (t y m d h mi s : Int) (w : World) (hc : CivOf t y m d h mi s) :
    Calls Tryd.prog 14 #[.int .i64 t] w fun e w' => e = .returned (.agg #[.int .i64 y, .int .i64 m, .int .i64 d, .int .i64 h, .int .i64 mi, .int .i64 s]) ∧ Below w.heap.size w w' := by
  refine (tatR_ok t w hc.timeZ).mono ?_
  rintro e w' ⟨y', m', d', h', mi', s', rfl, hc', hb⟩
  obtain ⟨rfl, rfl, rfl, rfl, rfl, rfl⟩ := civ_inj hc hc'
  exact ⟨rfl, hb⟩
theorem not_civ {y m d h mi s : Int} (hc : ¬ CivR y m d h mi s) (hr : RightZ y m d) : h < 0 ∨ 0 ≤ h ∧ (24 ≤ h ∨ h < 24 ∧ (mi < 0 ∨ 0 ≤ mi ∧ (60 ≤ mi ∨ mi < 60 ∧ (s < 0 ∨ 0 ≤ s ∧ 60 ≤ s)))) := by
  unfold CivR at hc
  have : ¬ (0 ≤ h ∧ h < 24 ∧ 0 ≤ mi ∧ mi < 60 ∧ 0 ≤ s ∧ s < 60) := fun q => hc ⟨hr, q⟩
  omega
set_option maxRecDepth 100000 in
theorem cright_ok (y m d h mi s : Int) (w : World) (hc : CivR y m d h mi s) :
    Calls Tryd.prog 18 #[.agg #[.int .i64 y, .int .i64 m, .int .i64 d, .int .i64 h, .int .i64 mi, .int .i64 s]] w fun e w' => e = .returned (.bool true) ∧ Below w.heap.size w w' := by
  obtain ⟨b0, bB, bs⟩ := box_civ w y m d h mi s
  unfold civO at b0 bB bs
  have HB := Lib.hid bB; have HX := Lib.hid b0
  clear bB b0 bs
  obtain ⟨hr, h0, h1, m0, m1, s0, s1⟩ := hc
  have HR := Lib.hid hr
  clear hr
  go_enter Tryd.func18, Tryd.ntmps18
  go_wp2_with fail
  refine (right_ok y m d _ HR.out).mono ?_
  rintro e w2 ⟨rfl, hb⟩
  obtain ⟨x0, x1, x2, x3, x4, x5, _⟩ := (HX.out.belowAll hb).six
  have HB2 := Lib.hid (HB.out.trans (hb.mono HB.out.size))
  clear hb HB HX
  go_wp2_with fail
  go_ret
  exact ⟨rfl, HB2.out⟩
set_option maxRecDepth 100000 in
theorem cright_no (y m d h mi s : Int) (w : World) (hc : ¬ CivR y m d h mi s) :
    Calls Tryd.prog 18 #[.agg #[.int .i64 y, .int .i64 m, .int .i64 d, .int .i64 h, .int .i64 mi, .int .i64 s]] w fun e w' => e = .returned (.bool false) ∧ Below w.heap.size w w' := by
  obtain ⟨b0, bB, bs⟩ := box_civ w y m d h mi s
  unfold civO at b0 bB bs
  have HB := Lib.hid bB; have HX := Lib.hid b0
  clear bB b0 bs
  by_cases hr : RightZ y m d
  · have HR := Lib.hid hr
    rcases not_civ hc hr with a1 | ⟨b1, a2 | ⟨b2, a3 | ⟨b3, a4 | ⟨b4, a5 | ⟨b5, a6⟩⟩⟩⟩⟩
    · have f0 : decide (0 ≤ h) = false := by simp; omega
      clear hc hr a1
      go_enter Tryd.func18, Tryd.ntmps18
      go_wp2_with fail
      refine (right_ok y m d _ HR.out).mono ?_
      rintro e w2 ⟨rfl, hb⟩
      obtain ⟨x0, x1, x2, x3, x4, x5, _⟩ := (HX.out.belowAll hb).six
      have HB2 := Lib.hid (HB.out.trans (hb.mono HB.out.size))
      clear hb HB HX
      go_wp2_with fail
      go_ret
      exact ⟨rfl, HB2.out⟩
    · have f0 : decide (0 ≤ h) = true := by simp; omega
      have f1 : decide (h < 24) = false := by simp; omega
      clear hc hr a2 b1
      go_enter Tryd.func18, Tryd.ntmps18
      go_wp2_with fail
      refine (right_ok y m d _ HR.out).mono ?_
      rintro e w2 ⟨rfl, hb⟩
      obtain ⟨x0, x1, x2, x3, x4, x5, _⟩ := (HX.out.belowAll hb).six
      have HB2 := Lib.hid (HB.out.trans (hb.mono HB.out.size))
      clear hb HB HX
      go_wp2_with fail
      go_ret
      exact ⟨rfl, HB2.out⟩
    · have f0 : decide (0 ≤ h) = true := by simp; omega
      have f1 : decide (h < 24) = true := by simp; omega
      have f2 : decide (0 ≤ mi) = false := by simp; omega
      clear hc hr a3 b1 b2
      go_enter Tryd.func18, Tryd.ntmps18
      go_wp2_with fail
      refine (right_ok y m d _ HR.out).mono ?_
      rintro e w2 ⟨rfl, hb⟩
      obtain ⟨x0, x1, x2, x3, x4, x5, _⟩ := (HX.out.belowAll hb).six
      have HB2 := Lib.hid (HB.out.trans (hb.mono HB.out.size))
      clear hb HB HX
      go_wp2_with fail
      go_ret
      exact ⟨rfl, HB2.out⟩
    · have f0 : decide (0 ≤ h) = true := by simp; omega
      have f1 : decide (h < 24) = true := by simp; omega
      have f2 : decide (0 ≤ mi) = true := by simp; omega
      have f3 : decide (mi < 60) = false := by simp; omega
      clear hc hr a4 b1 b2 b3
      go_enter Tryd.func18, Tryd.ntmps18
      go_wp2_with fail
      refine (right_ok y m d _ HR.out).mono ?_
      rintro e w2 ⟨rfl, hb⟩
      obtain ⟨x0, x1, x2, x3, x4, x5, _⟩ := (HX.out.belowAll hb).six
      have HB2 := Lib.hid (HB.out.trans (hb.mono HB.out.size))
      clear hb HB HX
      go_wp2_with fail
      go_ret
      exact ⟨rfl, HB2.out⟩
    · have f0 : decide (0 ≤ h) = true := by simp; omega
      have f1 : decide (h < 24) = true := by simp; omega
      have f2 : decide (0 ≤ mi) = true := by simp; omega
      have f3 : decide (mi < 60) = true := by simp; omega
      have f4 : decide (0 ≤ s) = false := by simp; omega
      clear hc hr a5 b1 b2 b3 b4
      go_enter Tryd.func18, Tryd.ntmps18
      go_wp2_with fail
      refine (right_ok y m d _ HR.out).mono ?_
      rintro e w2 ⟨rfl, hb⟩
      obtain ⟨x0, x1, x2, x3, x4, x5, _⟩ := (HX.out.belowAll hb).six
      have HB2 := Lib.hid (HB.out.trans (hb.mono HB.out.size))
      clear hb HB HX
      go_wp2_with fail
      go_ret
      exact ⟨rfl, HB2.out⟩
    · have f0 : decide (0 ≤ h) = true := by simp; omega
      have f1 : decide (h < 24) = true := by simp; omega
      have f2 : decide (0 ≤ mi) = true := by simp; omega
      have f3 : decide (mi < 60) = true := by simp; omega
      have f4 : decide (0 ≤ s) = true := by simp; omega
      have f5 : decide (s < 60) = false := by simp; omega
      clear hc hr a6 b1 b2 b3 b4 b5
      go_enter Tryd.func18, Tryd.ntmps18
      go_wp2_with fail
      refine (right_ok y m d _ HR.out).mono ?_
      rintro e w2 ⟨rfl, hb⟩
      obtain ⟨x0, x1, x2, x3, x4, x5, _⟩ := (HX.out.belowAll hb).six
      have HB2 := Lib.hid (HB.out.trans (hb.mono HB.out.size))
      clear hb HB HX
      go_wp2_with fail
      go_ret
      exact ⟨rfl, HB2.out⟩
  · have HR := Lib.hid hr
    clear hc hr
    go_enter Tryd.func18, Tryd.ntmps18
    go_wp2_with fail
    refine (right_no y m d _ HR.out).mono ?_
    rintro e w2 ⟨rfl, hb⟩
    obtain ⟨x0, x1, x2, x3, x4, x5, _⟩ := (HX.out.belowAll hb).six
    have HB2 := Lib.hid (HB.out.trans (hb.mono HB.out.size))
    clear hb HB HX
    go_wp2_with fail
    go_ret
    exact ⟨rfl, HB2.out⟩
set_option maxRecDepth 100000 in
set_option maxHeartbeats 1000000 in
theorem cofR_ok (t y m d h mi s : Int) (w : World) (hc : CivOf t y m d h mi s) :
    Calls Tryd.prog 19 #[.agg #[.int .i64 y, .int .i64 m, .int .i64 d, .int .i64 h, .int .i64 mi, .int .i64 s]] w fun e w' => e = .returned (.int .i64 t) ∧ Below w.heap.size w w' := by
  obtain ⟨b0, bB, bs⟩ := box_civ w y m d h mi s
  unfold civO at b0 bB bs
  have ht : 60 * (60 * (24 * numZ y m d + h) + mi) + s = t := by have := hc.at_; omega
  obtain ⟨n0, n1⟩ := num_range hc.right
  have h0 := hc.h0; have h1 := hc.h1; have m0 := hc.m0; have m1 := hc.m1; have s0 := hc.s0; have s1 := hc.s1
  have hof := fun w => ofR_ok y m d w hc.right
  unfold dateV at hof
  have HB := Lib.hid bB; have HX := Lib.hid b0; have HT := Lib.hid ht; have HO := Lib.hid hof; have HS := Lib.hid bs
  clear bB b0 bs ht hof hc
  generalize numZ y m d = n at *
  go_enter Tryd.func19, Tryd.ntmps19
  go_wp2_with fail
  generalize w.alloc _ = w1 at *
  generalize hg : w.heap.size = g at *
  have hKX : ∀ w', Below w1.heap.size w1 w' → w'.cell? ⟨g, 0, none⟩ = some (.int .i64 y) ∧ w'.cell? ⟨g, 1, none⟩ = some (.int .i64 m) ∧ w'.cell? ⟨g, 2, none⟩ = some (.int .i64 d) ∧ w'.cell? ⟨g, 3, none⟩ = some (.int .i64 h) := fun w' hb => by
    obtain ⟨x0, x1, x2, x3, _⟩ := (HX.out.belowAll hb).six
    exact ⟨x0, x1, x2, x3⟩
  have hBE := Below.refl w1.heap.size w1
  have HK := Lib.hid hKX
  have HG := Lib.hid hg
  have hw1 : IntKind.i64.wrap (24 * n) = 24 * n := by rw [IntKind.wrap_i64]; omega
  have hw2 : IntKind.i64.wrap (24 * n + h) = 24 * n + h := by rw [IntKind.wrap_i64]; omega
  clear hKX hg
  go_region_held3 (fun w' => w'.cell? ⟨g, 0, none⟩ = some (.int .i64 y) ∧ w'.cell? ⟨g, 1, none⟩ = some (.int .i64 m) ∧ w'.cell? ⟨g, 2, none⟩ = some (.int .i64 d) ∧ w'.cell? ⟨g, 3, none⟩ = some (.int .i64 h)) (first | exact HK.out _ hBE | exact HK.out _ hBE.drew) (first
    | (go_at_call 36; (with_reducible refine (HO.out _).mono ?_); rintro e w6 ⟨rfl, hb⟩; replace hBE := hBE.drew.trans hb)
    | (go_at_call 36; (with_reducible refine (HO.out _).mono ?_); rintro e w6 ⟨rfl, hb⟩; replace hBE := hBE.trans hb))
  rename_i hHeld
  have HB6 := Lib.hid (HB.out.trans (hBE.mono (by have := HB.out.size; have := HG.out; omega)))
  obtain ⟨x0, x1, x2, x3, x4, x5, _⟩ := (HX.out.belowAll hBE).six
  clear hHeld hw1 hw2 hBE hb
  go_wp2_with fail
  go_ret
  exact ⟨ret_int HT.out, by rw [HG.out]; exact HB6.out⟩
end Go.Proofs.YtnhbkfmaaannnaaDoor
