/- What tells the date of a number that fits: walked, of the program. -/
import Derived.Test.YtkimbmifabpppaaDoorK5
import Derived.Test.YtkimbmifabpppaaDoorKHDay
namespace Go.Proofs.YtkimbmifabpppaaDoor
open Go.RowKit

theorem Sole.drew {g B : Nat} {a b : World} (h : Sole g B a b) : Sole g B a b.drew := ⟨h.os, h.tape, h.output, h.size, h.block⟩
/-- The result's cells are written last. -/
theorem three_out {w W : World} {g : Nat} {t : TypeId} {a b c : Value} (hX : D.Box W g t #[a, b, c]) (hB : Below w.heap.size w W) (hg : w.heap.size ≤ g) (u0 u1 u2 : Value) :
    ((((W.setCell ⟨g, 0, none⟩ u0).setCell ⟨g, 1, none⟩ u1).setCell ⟨g, 2, none⟩ u2).cell? ⟨g, 0, none⟩ = some u0 ∧ (((W.setCell ⟨g, 0, none⟩ u0).setCell ⟨g, 1, none⟩ u1).setCell ⟨g, 2, none⟩ u2).cell? ⟨g, 1, none⟩ = some u1 ∧ (((W.setCell ⟨g, 0, none⟩ u0).setCell ⟨g, 1, none⟩ u1).setCell ⟨g, 2, none⟩ u2).cell? ⟨g, 2, none⟩ = some u2) ∧
    Below w.heap.size w (((W.setCell ⟨g, 0, none⟩ u0).setCell ⟨g, 1, none⟩ u1).setCell ⟨g, 2, none⟩ u2) := by
  obtain ⟨e0, e1, e2, _, _, _⟩ := D.Box.three (D.Box.onDate hX u0 u1 u2)
  exact ⟨⟨e0, e1, e2⟩, ((hB.setCell (p := ⟨g, 0, none⟩) hg u0).setCell (p := ⟨g, 1, none⟩) hg u1).setCell (p := ⟨g, 2, none⟩) hg u2⟩
set_option maxRecDepth 100000 in
set_option maxHeartbeats 1000000 in
theorem fit1_no (n : Int) (g : Nat) (w : World) (hn : n < 0 ∨ 2932896 < n) :
    Calls Tryd.prog 75 #[.int .i64 n, .pointer (some ⟨g, 0, none⟩)] w fun x w' => x = .returned (.tuple #[.agg #[.int .i64 0, .int .i64 0, .int .i64 0], .bool false]) ∧ Below w.heap.size w w' := by
  have HA := Lib.hid (fun W => D.at_no n W hn)
  unfold D.dateV at HA
  have hB0 : Below w.heap.size w (w.alloc (.cells #[.int .i64 0, .int .i64 0, .int .i64 0] 56)) := (Below.refl _ w).alloc (Nat.le_refl _) _
  have hX0 := D.Box.new w 56 #[.int .i64 0, .int .i64 0, .int .i64 0]
  clear hn
  go_enter Tryd.func75, Tryd.ntmps75
  go_wp2_with fail
  refine (HA.out _).mono ?_
  rintro x w1 ⟨rfl, hb⟩
  have hX1 := D.Box.belowAll hX0 hb
  have hlt := D.Box.lt hX1
  have HB1 := Lib.hid (hB0.trans (hb.mono hB0.size))
  have HX1 := Lib.hid hX1
  obtain ⟨x0, x1, x2, _, _, _⟩ := D.Box.three hX1
  clear hb hB0 hX0 HA hX1
  go_wp2_with fail
  go_region
  have hz := three_out HX1.out HB1.out (Nat.le_refl _) (.int .i64 0) (.int .i64 0) (.int .i64 0)
  have hs : w.heap.size < (((w1.setCell ⟨w.heap.size, 0, none⟩ (.int .i64 0)).setCell ⟨w.heap.size, 1, none⟩ (.int .i64 0)).setCell ⟨w.heap.size, 2, none⟩ (.int .i64 0)).heap.size := by simpa using hlt
  generalize (((w1.setCell ⟨w.heap.size, 0, none⟩ (.int .i64 0)).setCell ⟨w.heap.size, 1, none⟩ (.int .i64 0)).setCell ⟨w.heap.size, 2, none⟩ (.int .i64 0)) = w2 at *
  obtain ⟨⟨z0, z1, z2⟩, hB2⟩ := hz
  clear x0 x1 x2 HX1 HB1
  go_wp2_with fail
  refine bodyPost_ret (v := .tuple #[.agg #[.int .i64 0, .int .i64 0, .int .i64 0], .bool false]) (by simp [results, Tryd.results75, go_sem, z0, z1, z2, hs]) rfl ⟨rfl, ?_⟩
  exact (hB2.alloc (Nat.le_of_lt hs) _).drew
set_option maxRecDepth 100000 in
set_option maxHeartbeats 1000000 in
theorem fit1_yes (L : List (BitVec 64)) (n : Int) (g : Nat) (w : World) (hL : LaidC w) (hC : CronAt w g L) (hk : crB L = true) (h0 : 0 ≤ n) (h1 : n ≤ 2932896) :
    Calls Tryd.prog 75 #[.int .i64 n, .pointer (some ⟨g, 0, none⟩)] w fun x w' => ∃ (y m d : Int) (z : Bool), x = .returned (.tuple #[.agg #[.int .i64 y, .int .i64 m, .int .i64 d], .bool z]) ∧ Below w.heap.size w w' ∧ D.RightZ y m d ∧ D.numZ y m d = n ∧ z = fitD L y m d := by
  have HA := Lib.hid (fun W hW => D.at_ok n W hW h0 h1)
  unfold D.dateV at HA
  have hB0 : Below w.heap.size w (w.alloc (.cells #[.int .i64 0, .int .i64 0, .int .i64 0] 56)) := (Below.refl _ w).alloc (Nat.le_refl _) _
  have hX0 := D.Box.new w 56 #[.int .i64 0, .int .i64 0, .int .i64 0]
  have HL0 := Lib.hid (hL.on hB0)
  have HC0 := Lib.hid (hC.on hB0)
  have hgw := hC.lt
  clear h0 h1 hL hC
  go_enter Tryd.func75, Tryd.ntmps75
  go_wp2_with fail
  refine (HA.out _ HL0.out.days).mono ?_
  rintro x w0 ⟨y, m, d, rfl, hr, hn, hb⟩
  have hX1 := D.Box.belowAll hX0 hb
  obtain ⟨w1, hw1, hsz, hbw⟩ : ∃ w1 : World, w1 = w0.alloc (.cells #[.int .i64 y, .int .i64 m, .int .i64 d] 56) ∧ w1.heap.size = w0.heap.size + 1 ∧ Below w0.heap.size w0 w1 := ⟨_, rfl, by simp, (Below.refl _ w0).alloc (Nat.le_refl _) _⟩
  have HB1 := Lib.hid ((hB0.trans (hb.mono hB0.size)).trans (hbw.mono (Nat.le_trans (Nat.le_of_lt hX0.lt) hb.size)))
  have hlt : w.heap.size < w0.heap.size := D.Box.lt hX1
  have HX1 := Lib.hid (D.Box.belowAll hX1 hbw)
  have HL1 := Lib.hid ((HL0.out.on hb).on hbw)
  have HC1 := Lib.hid ((HC0.out.on hb).on hbw)
  have hD1 : D.Box w1 w0.heap.size 56 #[.int .i64 y, .int .i64 m, .int .i64 d] := by rw [hw1]; exact D.Box.new _ _ _
  have hrb := (rightB_iff y m d).2 hr
  have hdz : Hid (dayZ L y m d = fitD L y m d) := Lib.hid (by unfold dayZ; rw [hk, hrb]; rfl)
  have HR := Lib.hid hr; have HN := Lib.hid hn
  have hmz : Hid (fitD L y m d = (hasB (L.getD 3 0#64) m && fitD L y m d)) := Lib.hid (by
    have hm := (right_in hr).1
    rw [hasB_pos (by omega)]
    unfold fitD dayF
    cases (L.getD 3 0#64).getLsbD m.toNat <;> simp)
  clear hb hB0 hX0 HA hr hn hrb hk HL0 HC0 hbw
  have h5 := HC1.out.1
  have HD := Lib.hid (fun W hW => cday_any L y m d W hW h5)
  rw [hdz.out] at HD
  obtain ⟨ma, mb, mc, md, me, rfl⟩ := list_five h5
  rw [cronV_five] at HD
  unfold fiveV at HD
  simp only [show ([ma, mb, mc, md, me] : List (BitVec 64)).getD 3 0#64 = md from rfl] at hmz
  have HM := Lib.hid (fun W => has_any md m W)
  have HD1 := Lib.hid hD1
  clear hD1 hX1
  generalize hz : fitD [ma, mb, mc, md, me] y m d = z at *
  have HZ := Lib.hid hz
  clear h5 hdz hz
  cases hm : hasB md m with
  | false =>
    have hz2 : z = false := by rw [hmz.out, hm]; rfl
    subst hz2
    rw [hm] at HM
    clear hm hmz HD
    go_wp2_with fail
    rw [← hw1]
    obtain ⟨x0, x1, x2, x3, x4, x5⟩ := D.Box.three HX1.out
    obtain ⟨d0, d1, d2, d3, d4, d5⟩ := D.Box.three HD1.out
    obtain ⟨c0, c1, c2, c3, c4⟩ := HC1.out.five
    clear hw1
    go_region_with ((go_at_call 36; (with_reducible refine (HM.out _).mono ?_); rintro x w4 ⟨rfl, rfl⟩))
    all_goals
      obtain ⟨⟨z0, z1, z2⟩, hB2⟩ := three_out HX1.out HB1.out (Nat.le_refl _) (.int .i64 y) (.int .i64 m) (.int .i64 d)
      generalize (((w1.setCell ⟨w.heap.size, 0, none⟩ (.int .i64 y)).setCell ⟨w.heap.size, 1, none⟩ (.int .i64 m)).setCell ⟨w.heap.size, 2, none⟩ (.int .i64 d)) = w2 at *
      clear x0 x1 x2 x3 x4 x5 d0 d1 d2 d3 d4 d5 c0 c1 c2 c3 c4 HX1 HB1 HM HD1
      go_wp2_with fail
      refine bodyPost_ret (v := .tuple #[.agg #[.int .i64 y, .int .i64 m, .int .i64 d], .bool false]) (by simp [results, Tryd.results75, go_sem, z0, z1, z2, Act.put]) rfl ⟨y, m, d, false, rfl, hB2.drew, HR.out, HN.out, HZ.out.symm⟩
  | true =>
    rw [hm] at HM
    clear hm hmz
    go_wp2_with fail
    rw [← hw1]
    obtain ⟨x0, x1, x2, x3, x4, x5⟩ := D.Box.three HX1.out
    obtain ⟨d0, d1, d2, d3, d4, d5⟩ := D.Box.three HD1.out
    obtain ⟨c0, c1, c2, c3, c4⟩ := HC1.out.five
    have hgw2 : g ≠ w.heap.size := by omega
    have hgw3 : w0.heap.size ≠ w.heap.size := by omega
    have HALL := Lib.hid (fun (W : World) (hW : Sole w.heap.size w1.heap.size w1 W) => (⟨by
      have hc : CronAt W g [ma, mb, mc, md, me] := HC1.out.block hW hgw2
      obtain ⟨c0, c1, c2, c3, c4⟩ := hc.five
      have hd : D.Box W w0.heap.size 56 #[.int .i64 y, .int .i64 m, .int .i64 d] := (hW.block _ HD1.out.lt hgw3).trans HD1.out
      obtain ⟨d0, d1, d2, _, _, _⟩ := D.Box.three hd
      exact ⟨c0, c1, c2, c3, c4, d0, d1, d2⟩⟩ : PLift (W.cell? ⟨g, 0, none⟩ = some (.int .u64 (U ma)) ∧ W.cell? ⟨g, 1, none⟩ = some (.int .u64 (U mb)) ∧ W.cell? ⟨g, 2, none⟩ = some (.int .u64 (U mc)) ∧ W.cell? ⟨g, 3, none⟩ = some (.int .u64 (U md)) ∧ W.cell? ⟨g, 4, none⟩ = some (.int .u64 (U me)) ∧ W.cell? ⟨w0.heap.size, 0, none⟩ = some (.int .i64 y) ∧ W.cell? ⟨w0.heap.size, 1, none⟩ = some (.int .i64 m) ∧ W.cell? ⟨w0.heap.size, 2, none⟩ = some (.int .i64 d))).down)
    have hBE : Sole w.heap.size w1.heap.size w1 w1 := Sole.of (Below.refl _ _)
    have hBX := Below.refl w1.heap.size w1
    clear hw1
    go_region_held3 (fun W => W.cell? ⟨g, 0, none⟩ = some (.int .u64 (U ma)) ∧ W.cell? ⟨g, 1, none⟩ = some (.int .u64 (U mb)) ∧ W.cell? ⟨g, 2, none⟩ = some (.int .u64 (U mc)) ∧ W.cell? ⟨g, 3, none⟩ = some (.int .u64 (U md)) ∧ W.cell? ⟨g, 4, none⟩ = some (.int .u64 (U me)) ∧ W.cell? ⟨w0.heap.size, 0, none⟩ = some (.int .i64 y) ∧ W.cell? ⟨w0.heap.size, 1, none⟩ = some (.int .i64 m) ∧ W.cell? ⟨w0.heap.size, 2, none⟩ = some (.int .i64 d)) ((refine HALL.out _ ?_; repeat (first | exact hBE | refine Sole.drew ?_ | refine Sole.set ?_ _))) (first
      | (go_at_call 36; (with_reducible refine (HM.out _).mono ?_); rintro x w4 ⟨rfl, rfl⟩)
      | (go_at_call 37; (with_reducible refine (HD.out _ (HL1.out.on hBX.drew)).mono ?_); rintro x w4 ⟨rfl, hb⟩; replace hBE : Sole w.heap.size w1.heap.size w1 w4 := Sole.of (hBX.drew.trans hb); have HX4 := Lib.hid (D.Box.belowAll HX1.out (hBX.drew.trans hb)); have HB4 := Lib.hid (HB1.out.drew.trans (hb.mono HB1.out.size)); obtain ⟨q0, q1, q2, q3, q4, q5⟩ := D.Box.three HX4.out; clear hb))
    rename_i hheld
    clear hheld
    obtain ⟨⟨z0, z1, z2⟩, hB2⟩ := three_out HX4.out HB4.out (Nat.le_refl _) (.int .i64 y) (.int .i64 m) (.int .i64 d)
    generalize (((w4.setCell ⟨w.heap.size, 0, none⟩ (.int .i64 y)).setCell ⟨w.heap.size, 1, none⟩ (.int .i64 m)).setCell ⟨w.heap.size, 2, none⟩ (.int .i64 d)) = w2 at *
    clear x0 x1 x2 x3 x4 x5 d0 d1 d2 d3 d4 d5 c0 c1 c2 c3 c4 HX1 HB1 HM HD1 HALL hBE hBX HX4 HB4 q0 q1 q2 q3 q4 q5
    go_wp2_with fail
    refine bodyPost_ret (v := .tuple #[.agg #[.int .i64 y, .int .i64 m, .int .i64 d], .bool z]) (by simp [results, Tryd.results75, go_sem, z0, z1, z2]) rfl ⟨y, m, d, z, rfl, hB2, HR.out, HN.out, HZ.out.symm⟩
/-- A date, and whether it fits. -/
theorem fit1_any (L : List (BitVec 64)) (n : Int) (g : Nat) (w : World) (hL : LaidC w) (hC : CronAt w g L) (hk : crB L = true) :
    Calls Tryd.prog 75 #[.int .i64 n, .pointer (some ⟨g, 0, none⟩)] w fun x w' => ∃ (y m d : Int) (z : Bool), x = .returned (.tuple #[.agg #[.int .i64 y, .int .i64 m, .int .i64 d], .bool z]) ∧ Below w.heap.size w w' ∧ ((z = true ∧ D.RightZ y m d ∧ D.numZ y m d = n ∧ DayOk L n) ∨ (z = false ∧ ¬ DayOk L n)) := by
  by_cases hn : n < 0 ∨ 2932896 < n
  · refine (fit1_no n g w hn).mono ?_
    rintro x w' ⟨rfl, hb⟩
    exact ⟨0, 0, 0, false, rfl, hb, .inr ⟨rfl, fun h => by have := h.1; have := h.2.1; omega⟩⟩
  · refine (fit1_yes L n g w hL hC hk (by omega) (by omega)).mono ?_
    rintro x w' ⟨y, m, d, z, rfl, hb, hr, hnum, hz⟩
    refine ⟨y, m, d, z, rfl, hb, ?_⟩
    have hf := fitN_is (L := L) hr
    rw [hnum] at hf
    cases z with
    | true => exact .inl ⟨rfl, hr, hnum, by omega, by omega, hf.2 hz.symm⟩
    | false => exact .inr ⟨rfl, fun h => by have := hf.1 h.2.2; rw [← hz] at this; cases this⟩
end Go.Proofs.YtkimbmifabpppaaDoor
