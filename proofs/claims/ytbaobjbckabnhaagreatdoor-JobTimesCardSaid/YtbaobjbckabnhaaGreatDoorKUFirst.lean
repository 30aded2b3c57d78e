/- planOf, First and Latest: walked, of the program. -/
import Derived.Test.YtbaobjbckabnhaaGreatDoorKUPlan
import Derived.Test.YtbaobjbckabnhaaGreatDoorKUMem
namespace Go.Proofs.YtbaobjbckabnhaaGreatDoor
open Go.RowKit

/-- The times of a job, if it may be. -/
def JobZ.TT (ev : List (BitVec 64) → Bool) (j : JobZ) (u : Int) : Prop := j.err ev = 0 ∧ j.T u
theorem TT_ok {ev : List (BitVec 64) → Bool} {j : JobZ} (h : j.err ev = 0) : j.TT ev = j.T := by funext u; unfold JobZ.TT; simp [h]
theorem TT_bad {ev : List (BitVec 64) → Bool} {j : JobZ} (h : j.err ev ≠ 0) (u : Int) : ¬ j.TT ev u := fun hu => h hu.1
theorem first_bad {ev : List (BitVec 64) → Bool} {j : JobZ} (h : j.err ev ≠ 0) (a : Int) : FirstT (j.TT ev) a 0 false := .inr ⟨rfl, rfl, fun u hu => absurd hu (TT_bad h u)⟩
theorem latest_bad {ev : List (BitVec 64) → Bool} {j : JobZ} (h : j.err ev ≠ 0) (a : Int) : LastT (j.TT ev) a 0 false := .inr ⟨rfl, rfl, fun u hu => absurd hu (TT_bad h u)⟩
theorem box_two {W : World} {g : Nat} {t : TypeId} {x y : Value} (h : D.Box W g t #[x, y]) : W.cell? ⟨g, 0, none⟩ = some x ∧ W.cell? ⟨g, 1, none⟩ = some y ∧ W.frozen? ⟨g, 0, none⟩ = false ∧ W.frozen? ⟨g, 1, none⟩ = false := ⟨h.cell 0, h.cell 1, h.frozen 0, h.frozen 1⟩
/-- What planOf tells: the plan, or why there is none. -/
def PlanOk (T : Int → Prop) (z : Int) (w : World) (u v : Value) : Prop := (z = 0 → PlanIs T w (.agg #[u, v])) ∧ (z ≠ 0 → u = .nilFunc ∧ v = .nilFunc)
theorem box_set2' {W : World} {g : Nat} {t : TypeId} {x y : Value} (h : D.Box W g t #[x, y]) (u v : Value) : D.Box ((W.setCell ⟨g, 0, none⟩ u).setCell ⟨g, 1, none⟩ v) g t #[u, v] := by
  have h0 : D.Box _ g t #[u, y] := h.set 0 u
  have h1 : D.Box _ g t #[u, v] := h0.set 1 v
  exact h1
set_option maxRecDepth 100000 in
set_option maxHeartbeats 1000000 in
theorem planOf_any (ev : List (BitVec 64) → Bool) (hev : EvIs ev) (j : JobZ) (w : World) (hL : LaidC w) (hj : j.Fit) :
    Calls Tryz.prog 34 #[jobV j] w fun x w' => ∃ u v, x = .returned (.tuple #[.agg #[u, v], .int .i64 (j.err ev)]) ∧ PlanOk j.T (j.err ev) w' u v ∧ Below w.heap.size w w' := by
  have HCK := Lib.hid (fun W hW => jcheck_any ev hev j W hW hj)
  have hT1 := Lib.hid (T_once (j := j)); have hT2 := Lib.hid (T_cron (j := j))
  have HAL := Lib.hid (fun W => alone_any j.t W)
  have HRE := Lib.hid (fun W => recurring_any j.L W hj.2.2)
  clear hev
  generalize j.err ev = z at *
  generalize j.T = TJ at *
  obtain ⟨n, o, L, t, ov, ca, re⟩ := j
  obtain ⟨n0, n1, hl5⟩ := hj
  simp only at hl5
  obtain ⟨a, b, c, d, e, rfl⟩ := list_five hl5
  simp only at hT1 hT2 HAL HRE
  obtain ⟨W0, hW0, hb0, hj0, hs0⟩ := job_new w n o a b c d e t ov ca re
  have HB0 := Lib.hid hb0; have HJ := Lib.hid hj0; have HL := Lib.hid (hL.on hb0); have HLW := Lib.hid hL
  rw [jobV_five] at *
  rw [cronV_five] at *
  unfold fiveV at *
  clear hL hb0 hj0 hl5 n0 n1
  go_enter Tryz.func34, Tryz.ntmps34
  go_wp2_with fail
  rw [← hW0]
  clear hW0
  obtain ⟨W1, hW1, hb1, hx1, hs1⟩ : ∃ W : World, W = W0.alloc (.cells #[.nilFunc, .nilFunc] 68) ∧ Below w.heap.size w W ∧ D.Box W (w.heap.size + 1) 68 #[.nilFunc, .nilFunc] ∧ W.heap.size = w.heap.size + 2 := by
    refine ⟨_, rfl, HB0.out.alloc HB0.out.size _, ?_, by simp [hs0]⟩
    have := D.Box.new W0 68 #[.nilFunc, .nilFunc]
    rwa [hs0] at this
  have HJ1 : Hid (JobAt W1 w.heap.size ⟨n, o, [a, b, c, d, e], t, ov, ca, re⟩) := Lib.hid (by rw [hW1]; exact HJ.out.alloc _)
  have HB1 := Lib.hid hb1; have HX1 := Lib.hid hx1; have HL1 : Hid (LaidC W1) := Lib.hid (by rw [hW1]; exact HL.out.on ((Below.refl _ W0).alloc (Nat.le_refl _) _))
  rw [← hW1]
  clear hW1 hb1 hx1 HB0 HJ HL
  refine (HCK.out _ HL1.out).mono ?_
  rintro x w2 ⟨rfl, hb⟩
  have HB2 := Lib.hid (HB1.out.trans (hb.mono HB1.out.size)); have HJ2 := Lib.hid (HJ1.out.on hb); have HX2 := Lib.hid (D.Box.belowAll HX1.out hb)
  have hs2 : w.heap.size + 2 ≤ w2.heap.size := by have := hb.size; omega
  clear hb HB1 HX1 HJ1 HL1 HCK hs1 hs0
  obtain ⟨c0, c1, c2, c3, c4, c5, c6, c7, c8, c9, c10⟩ := HJ2.out.cells
  by_cases hz : z = 0
  · subst hz
    cases o with
    | true =>
      have HT := Lib.hid (hT1.out rfl)
      clear hT1 hT2
      go_wp2_with fail
      refine (HAL.out _).mono ?_
      rintro x w3 ⟨f, g, l, l', rfl, hp, hb⟩
      have HP := Lib.hid (hp.low hs2)
      have HX3 := Lib.hid (D.Box.belowAll HX2.out hb)
      have HB3 := Lib.hid (HB2.out.trans (hb.mono HB2.out.size))
      obtain ⟨x0, x1, f0, f1⟩ := box_two HX3.out
      clear hb hp c0 c1 c2 c3 c4 c5 c6 c7 c8 c9 c10
      go_wp2_with fail
      have hbf := (HB3.out.setCell (p := ⟨w.heap.size + 1, 0, none⟩) (Nat.le_succ _) (.func f #[] l)).setCell (p := ⟨w.heap.size + 1, 1, none⟩) (Nat.le_succ _) (.func g #[] l')
      obtain ⟨y0, y1, _⟩ := box_two (box_set2' HX3.out (.func f #[] l) (.func g #[] l'))
      exact bodyPost_ret (v := .tuple #[.agg #[.func f #[] l, .func g #[] l'], .int .i64 0]) (by simp [results, Tryz.results34, go_sem, y0, y1]) rfl ⟨_, _, rfl, ⟨(fun _ => by rw [HT.out]; exact ((HP.out.far (by omega) _).far (by omega) _).tells (HLW.out.on hbf)), (fun h => absurd rfl h)⟩, hbf⟩
    | false =>
      have HT := Lib.hid (hT2.out rfl)
      clear hT1 hT2
      go_wp2_with fail
      refine (HRE.out _).mono ?_
      rintro x w3 ⟨f, g, l, l', rfl, hp, hb⟩
      have HP := Lib.hid (hp.low hs2)
      have HX3 := Lib.hid (D.Box.belowAll HX2.out hb)
      have HB3 := Lib.hid (HB2.out.trans (hb.mono HB2.out.size))
      obtain ⟨x0, x1, f0, f1⟩ := box_two HX3.out
      clear hb hp c0 c1 c2 c3 c4 c5 c6 c7 c8 c9 c10
      go_wp2_with fail
      have hbf := (HB3.out.setCell (p := ⟨w.heap.size + 1, 0, none⟩) (Nat.le_succ _) (.func f #[] l)).setCell (p := ⟨w.heap.size + 1, 1, none⟩) (Nat.le_succ _) (.func g #[] l')
      obtain ⟨y0, y1, _⟩ := box_two (box_set2' HX3.out (.func f #[] l) (.func g #[] l'))
      exact bodyPost_ret (v := .tuple #[.agg #[.func f #[] l, .func g #[] l'], .int .i64 0]) (by simp [results, Tryz.results34, go_sem, y0, y1]) rfl ⟨_, _, rfl, ⟨(fun _ => by rw [HT.out]; exact ((HP.out.far (by omega) _).far (by omega) _).tells (HLW.out.on hbf)), (fun h => absurd rfl h)⟩, hbf⟩
  · have hz1 : (z != 0) = true := by simpa using hz
    obtain ⟨x0, x1, f0, f1⟩ := box_two HX2.out
    go_wp2_with fail
    have hbf := (HB2.out.setCell (p := ⟨w.heap.size + 1, 0, none⟩) (Nat.le_succ _) .nilFunc).setCell (p := ⟨w.heap.size + 1, 1, none⟩) (Nat.le_succ _) .nilFunc
    obtain ⟨y0, y1, _⟩ := box_two (box_set2' HX2.out .nilFunc .nilFunc)
    exact bodyPost_ret (v := .tuple #[.agg #[.nilFunc, .nilFunc], .int .i64 z]) (by simp [results, Tryz.results34, go_sem, y0, y1]) rfl ⟨_, _, rfl, ⟨(fun h => absurd h hz), (fun _ => ⟨rfl, rfl⟩)⟩, hbf⟩
set_option maxRecDepth 100000 in
set_option maxHeartbeats 1000000 in
theorem jfirst_any (ev : List (BitVec 64) → Bool) (hev : EvIs ev) (j : JobZ) (s : Int) (w : World) (hL : LaidC w) (hj : j.Fit) :
    Calls Tryz.prog 13 #[jobV j, .int .i64 s] w fun x w' => TimeIs (FirstT (j.TT ev) s) x ∧ Below w.heap.size w w' := by
  have HPL := Lib.hid (fun W hW => planOf_any ev hev j W hW hj)
  have HBAD := Lib.hid (fun h => first_bad (ev := ev) (j := j) h s)
  have HOK := Lib.hid (TT_ok (ev := ev) (j := j))
  clear hev
  generalize j.TT ev = TT at *
  generalize j.err ev = z at *
  generalize j.T = TJ at *
  obtain ⟨n, o, L, t, ov, ca, re⟩ := j
  obtain ⟨n0, n1, hl5⟩ := hj
  simp only at hl5
  obtain ⟨a, b, c, d, e, rfl⟩ := list_five hl5
  obtain ⟨W0, hW0, hb0, hj0, hs0⟩ := job_new w n o a b c d e t ov ca re
  have HB0 := Lib.hid hb0; have HL := Lib.hid (hL.on hb0)
  rw [jobV_five] at *
  obtain ⟨c0, c1, c2, c3, c4, c5, c6, c7, c8, c9, c10⟩ := hj0.cells
  clear hL hb0 hj0 hl5 n0 n1
  go_enter Tryz.func13, Tryz.ntmps13
  go_wp2_with fail
  rw [← hW0]
  clear hW0
  refine (HPL.out _ HL.out).mono ?_
  rintro x w2 ⟨u, v, rfl, ⟨hp, hno⟩, hb⟩
  have HB2 := Lib.hid (HB0.out.trans (hb.mono HB0.out.size)); have HP := Lib.hid hp
  clear hb hp HPL HL HB0 c0 c1 c2 c3 c4 c5 c6 c7 c8 c9 c10
  have HB3 := Lib.hid (HB2.out.alloc HB2.out.size (.cells #[u, v] 68))
  by_cases hz : z = 0
  · subst hz
    obtain ⟨f, g, lb, lb', e0, hf, hg⟩ := HP.out rfl
    have e0 := congrArg (fun v : Value => v.cells.toList) e0
    simp only [Value.cells, List.cons.injEq, and_true] at e0
    obtain ⟨rfl, rfl⟩ := e0
    have hE := hf.1
    have HF := Lib.hid (hf.2 s _ ((Below.refl _ w2).alloc (Nat.le_refl _) (.cells #[.func (.func f) #[] lb, .func (.func g) #[] lb'] 68)))
    have HO := Lib.hid (HOK.out rfl)
    clear hf hg
    go_wp2_with fail
    refine HF.out.mono ?_
    rintro x w3 ⟨⟨y, ok, rfl, ht⟩, hb⟩
    have HB4 := Lib.hid (HB3.out.trans (hb.mono HB3.out.size)); have HT := Lib.hid ht
    clear hb ht
    go_wp2_with fail
    exact bodyPost_ret (v := .tuple #[.int .i64 y, .bool ok]) (by simp [results, Tryz.results13, go_sem]) rfl ⟨⟨_, _, rfl, by rw [HO.out]; exact HT.out⟩, HB4.out⟩
  · have hz1 : (z != 0) = true := by simpa using hz
    have HF := Lib.hid (HBAD.out hz)
    obtain ⟨rfl, rfl⟩ := hno hz
    go_wp2_with fail
    exact bodyPost_ret (v := .tuple #[.int .i64 0, .bool false]) (by simp [results, Tryz.results13, go_sem]) rfl ⟨⟨_, _, rfl, HF.out⟩, HB3.out⟩
set_option maxRecDepth 100000 in
set_option maxHeartbeats 1000000 in
theorem jlatest_any (ev : List (BitVec 64) → Bool) (hev : EvIs ev) (j : JobZ) (s : Int) (w : World) (hL : LaidC w) (hj : j.Fit) :
    Calls Tryz.prog 14 #[jobV j, .int .i64 s] w fun x w' => TimeIs (LastT (j.TT ev) s) x ∧ Below w.heap.size w w' := by
  have HPL := Lib.hid (fun W hW => planOf_any ev hev j W hW hj)
  have HBAD := Lib.hid (fun h => latest_bad (ev := ev) (j := j) h s)
  have HOK := Lib.hid (TT_ok (ev := ev) (j := j))
  clear hev
  generalize j.TT ev = TT at *
  generalize j.err ev = z at *
  generalize j.T = TJ at *
  obtain ⟨n, o, L, t, ov, ca, re⟩ := j
  obtain ⟨n0, n1, hl5⟩ := hj
  simp only at hl5
  obtain ⟨a, b, c, d, e, rfl⟩ := list_five hl5
  obtain ⟨W0, hW0, hb0, hj0, hs0⟩ := job_new w n o a b c d e t ov ca re
  have HB0 := Lib.hid hb0; have HL := Lib.hid (hL.on hb0)
  rw [jobV_five] at *
  obtain ⟨c0, c1, c2, c3, c4, c5, c6, c7, c8, c9, c10⟩ := hj0.cells
  clear hL hb0 hj0 hl5 n0 n1
  go_enter Tryz.func14, Tryz.ntmps14
  go_wp2_with fail
  rw [← hW0]
  clear hW0
  refine (HPL.out _ HL.out).mono ?_
  rintro x w2 ⟨u, v, rfl, ⟨hp, hno⟩, hb⟩
  have HB2 := Lib.hid (HB0.out.trans (hb.mono HB0.out.size)); have HP := Lib.hid hp
  clear hb hp HPL HL HB0 c0 c1 c2 c3 c4 c5 c6 c7 c8 c9 c10
  have HB3 := Lib.hid (HB2.out.alloc HB2.out.size (.cells #[u, v] 68))
  by_cases hz : z = 0
  · subst hz
    obtain ⟨f, g, lb, lb', e0, hf, hg⟩ := HP.out rfl
    have e0 := congrArg (fun v : Value => v.cells.toList) e0
    simp only [Value.cells, List.cons.injEq, and_true] at e0
    obtain ⟨rfl, rfl⟩ := e0
    have hE := hg.1
    have HF := Lib.hid (hg.2 s _ ((Below.refl _ w2).alloc (Nat.le_refl _) (.cells #[.func (.func f) #[] lb, .func (.func g) #[] lb'] 68)))
    have HO := Lib.hid (HOK.out rfl)
    clear hf hg
    go_wp2_with fail
    refine HF.out.mono ?_
    rintro x w3 ⟨⟨y, ok, rfl, ht⟩, hb⟩
    have HB4 := Lib.hid (HB3.out.trans (hb.mono HB3.out.size)); have HT := Lib.hid ht
    clear hb ht
    go_wp2_with fail
    exact bodyPost_ret (v := .tuple #[.int .i64 y, .bool ok]) (by simp [results, Tryz.results14, go_sem]) rfl ⟨⟨_, _, rfl, by rw [HO.out]; exact HT.out⟩, HB4.out⟩
  · have hz1 : (z != 0) = true := by simpa using hz
    have HF := Lib.hid (HBAD.out hz)
    obtain ⟨rfl, rfl⟩ := hno hz
    go_wp2_with fail
    exact bodyPost_ret (v := .tuple #[.int .i64 0, .bool false]) (by simp [results, Tryz.results14, go_sem]) rfl ⟨⟨_, _, rfl, HF.out⟩, HB3.out⟩
end Go.Proofs.YtbaobjbckabnhaaGreatDoor
