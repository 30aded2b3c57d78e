/- At: the civil time of a time. -/
import Derived.Test.YtnhbkfmaaannnaaDoorEApart
import Derived.Test.YtnhbkfmaaannnaaDoorEOrder
import Derived.Test.YtnhbkfmaaannnaaDoorDAtR
namespace Go.Proofs.YtnhbkfmaaannnaaDoor
open Go.RowKit

def civV (y m d h mi s : Int) : Value := .agg #[.int .i64 y, .int .i64 m, .int .i64 d, .int .i64 h, .int .i64 mi, .int .i64 s]
def civO (y m d h mi s : Int) : Obj := .cells #[.int .i64 y, .int .i64 m, .int .i64 d, .int .i64 h, .int .i64 mi, .int .i64 s] 29
theorem tat_no (t : Int) (w : World) (h : ¬ TimeZ t) :
    Calls Tryd.prog 11 #[.int .i64 t] w fun e w' => e = .returned (.tuple #[civV 0 0 0 0 0 0, .int .i64 2]) ∧ Below w.heap.size w w' := by
  unfold civV
  have H1 := Lib.hid h
  clear h
  go_enter Tryd.func11, Tryd.ntmps11
  go_wp2_with fail
  refine (may_no _ _ H1.out).mono ?_
  rintro e w' ⟨rfl, rfl⟩
  go_wp2_with fail
  refine bodyPost_ret (v := .tuple #[.agg #[.int .i64 0, .int .i64 0, .int .i64 0, .int .i64 0, .int .i64 0, .int .i64 0], .int .i64 2]) (by simp [results, Tryd.results11, go_sem]) rfl ⟨rfl, ?_⟩
  exact (Below.refl _ w).alloc (Nat.le_refl _) _
theorem alloc_cell {w : World} {g j : Nat} {v : Value} (hc : w.cell? ⟨g, j, none⟩ = some v) (hg : g < w.heap.size) (o : Obj) : (w.alloc o).cell? ⟨g, j, none⟩ = some v :=
  (((Below.refl w.heap.size w).alloc (Nat.le_refl _) o).cell (p := ⟨g, j, none⟩) hg).trans hc
theorem below_six {B g : Nat} {a w : World} (h : Below B a w) (hg : B ≤ g) (u0 u1 u2 u3 u4 u5 : Value) :
    Below B a ((((((w.setCell ⟨g, 0, none⟩ u0).setCell ⟨g, 1, none⟩ u1).setCell ⟨g, 2, none⟩ u2).setCell ⟨g, 3, none⟩ u3).setCell ⟨g, 4, none⟩ u4).setCell ⟨g, 5, none⟩ u5) :=
  (((((h.setCell hg _).setCell hg _).setCell hg _).setCell hg _).setCell hg _).setCell hg _
theorem Box.six {w : World} {g : Nat} {t : TypeId} {a b c d e f : Value} (h : Box w g t #[a, b, c, d, e, f]) :
    w.cell? ⟨g, 0, none⟩ = some a ∧ w.cell? ⟨g, 1, none⟩ = some b ∧ w.cell? ⟨g, 2, none⟩ = some c ∧ w.cell? ⟨g, 3, none⟩ = some d ∧ w.cell? ⟨g, 4, none⟩ = some e ∧ w.cell? ⟨g, 5, none⟩ = some f ∧ w.frozen? ⟨g, 0, none⟩ = false ∧ w.frozen? ⟨g, 1, none⟩ = false ∧ w.frozen? ⟨g, 2, none⟩ = false ∧ w.frozen? ⟨g, 3, none⟩ = false ∧ w.frozen? ⟨g, 4, none⟩ = false ∧ w.frozen? ⟨g, 5, none⟩ = false :=
  ⟨h.cell 0, h.cell 1, h.cell 2, h.cell 3, h.cell 4, h.cell 5, h.frozen 0, h.frozen 1, h.frozen 2, h.frozen 3, h.frozen 4, h.frozen 5⟩
set_option maxRecDepth 100000 in
set_option maxHeartbeats 1000000 in
theorem tat_ok (t : Int) (w : World) (hL : Laid w) (ht : TimeZ t) :
    Calls Tryd.prog 11 #[.int .i64 t] w fun e w' => ∃ y m d h mi s : Int, e = .returned (.tuple #[civV y m d h mi s, .int .i64 0]) ∧ CivOf t y m d h mi s ∧ Below w.heap.size w w' := by
  unfold civV
  have H1 := Lib.hid ht
  have HL := Lib.hid hL
  clear ht hL
  go_enter Tryd.func11, Tryd.ntmps11
  go_wp2_with fail
  refine (may_yes _ _ H1.out).mono ?_
  rintro e w' ⟨rfl, rfl⟩
  go_wp2_with fail
  have b0 : Box ((w.alloc (civO 0 0 0 0 0 0)).alloc (.cells #[.int .i64 86400, .int .i64 3600, .int .i64 60, .int .i64 1] 2)) w.heap.size 29 #[.int .i64 0, .int .i64 0, .int .i64 0, .int .i64 0, .int .i64 0, .int .i64 0] := (Box.new _ _ _).alloc _
  have b1 : Box ((w.alloc (civO 0 0 0 0 0 0)).alloc (.cells #[.int .i64 86400, .int .i64 3600, .int .i64 60, .int .i64 1] 2)) (w.heap.size + 1) 2 #[.int .i64 86400, .int .i64 3600, .int .i64 60, .int .i64 1] := by
    have := Box.new (w.alloc (civO 0 0 0 0 0 0)) 2 #[.int .i64 86400, .int .i64 3600, .int .i64 60, .int .i64 1]
    rwa [show (w.alloc (civO 0 0 0 0 0 0)).heap.size = w.heap.size + 1 by simp] at this
  have bB : Below w.heap.size w ((w.alloc (civO 0 0 0 0 0 0)).alloc (.cells #[.int .i64 86400, .int .i64 3600, .int .i64 60, .int .i64 1] 2)) := ((Below.refl _ w).alloc (Nat.le_refl _) _).alloc (by simp) _
  unfold civO at b0 b1 bB
  refine (apart_any t _ _ H1.out b1).mono ?_
  rintro e w2 ⟨v, rfl, hrow, hb⟩
  obtain ⟨g, c, rfl, hg, hgl, c0, c1, c2, c3⟩ := own_cells hrow
  obtain ⟨q0, q1, q2, q3⟩ := quo_is t
  rw [q0] at c0
  rw [q1] at c1
  rw [q2] at c2
  rw [q3] at c3
  clear q0 q1 q2 q3 hrow
  have hx2 := b0.belowAll hb
  have hs2 : w.heap.size + 1 < w2.heap.size := by have := hb.size; simp at this; omega
  have hg2 : w.heap.size + 1 < g := by simp at hg; omega
  have HB2 := Lib.hid (bB.trans (hb.mono bB.size)); have HX2 := Lib.hid hx2
  have HL2 := Lib.hid (HL.out.on HB2.out)
  clear hb b0 b1 bB hx2 hg HL
  obtain ⟨f0, f1, f2, f3⟩ : 0 ≤ t / 86400 ∧ t / 86400 ≤ 2932896 ∧ 0 ≤ t ∧ t ≤ 253402300799 := by have := H1.out; unfold TimeZ at this; omega
  go_wp2_with fail
  refine (at_ok (t / 86400) _ HL2.out f0 f1).mono ?_
  rintro e w3 ⟨y, m, d, rfl, hR, hN, hb⟩
  have d1 := (hb.cell (p := ⟨g, 1, none⟩) hgl).trans c1
  have d2 := (hb.cell (p := ⟨g, 2, none⟩) hgl).trans c2
  have d3 := (hb.cell (p := ⟨g, 3, none⟩) hgl).trans c3
  have hx3 := HX2.out.belowAll hb
  have hs3 : w.heap.size + 1 < w3.heap.size := by have := hb.size; omega
  have hg3 : g < w3.heap.size := by have := hb.size; omega
  have HB3 := Lib.hid (HB2.out.trans (hb.mono HB2.out.size)); have HX3 := Lib.hid hx3
  have HR := Lib.hid hR; have HN := Lib.hid hN
  clear c0 c1 c2 c3 hb hx3 hR hN HB2 HX2 HL2
  unfold dateV
  go_wp2_with fail
  have hd := Box.new w3 27 #[.int .i64 y, .int .i64 m, .int .i64 d]
  have hxx := HX3.out.alloc (.cells #[.int .i64 y, .int .i64 m, .int .i64 d] 27)
  have hBB := HB3.out.alloc HB3.out.size (.cells #[.int .i64 y, .int .i64 m, .int .i64 d] 27)
  have e1 := alloc_cell d1 hg3 (.cells #[.int .i64 y, .int .i64 m, .int .i64 d] 27)
  have e2 := alloc_cell d2 hg3 (.cells #[.int .i64 y, .int .i64 m, .int .i64 d] 27)
  have e3 := alloc_cell d3 hg3 (.cells #[.int .i64 y, .int .i64 m, .int .i64 d] 27)
  have HBB := Lib.hid hBB
  clear d1 d2 d3 hBB HB3 HX3 hgl hg3 hs2
  generalize w3.alloc _ = w4 at *
  obtain ⟨z0, z1, z2, y0, y1, y2⟩ := hd.three
  obtain ⟨x0, x1, x2, x3, x4, x5, u0, u1, u2, u3, u4, u5⟩ := hxx.six
  clear hd hxx y0 y1 y2
  go_region
  go_wp2_with fail
  refine bodyPost_ret (v := .tuple #[.agg #[.int .i64 y, .int .i64 m, .int .i64 d, .int .i64 (t / 3600 % 24), .int .i64 (t / 60 % 60), .int .i64 (t % 60)], .int .i64 0]) (by simp [results, Tryd.results11, go_sem, x0, x1, x2, x3, x4, x5]) rfl ⟨y, m, d, _, _, _, rfl, ?_, ?_⟩
  · exact ⟨HR.out, by omega, by omega, by omega, by omega, by omega, by omega, by rw [HN.out]; omega⟩
  · exact (below_six HBB.out (Nat.le_refl _) ..).drew
set_option maxRecDepth 100000 in
set_option maxHeartbeats 1000000 in
theorem tatR_ok (t : Int) (w : World) (ht : TimeZ t) :
    Calls Tryd.prog 14 #[.int .i64 t] w fun e w' => ∃ y m d h mi s : Int, e = .returned (civV y m d h mi s) ∧ CivOf t y m d h mi s ∧ Below w.heap.size w w' := by
  unfold civV
  obtain ⟨f0, f1, f2, f3, f4⟩ : 0 ≤ t ∧ t ≤ 253402300799 ∧ 0 ≤ t / 3600 / 24 ∧ t / 3600 / 24 ≤ 2932896 ∧ t / 3600 / 24 = t / 86400 := by unfold TimeZ at ht; omega
  have HE := Lib.hid f4
  clear ht f4
  go_enter Tryd.func14, Tryd.ntmps14
  go_wp2_with fail
  refine (atR_ok (t / 3600 / 24) _ f2 f3).mono ?_
  rintro e w2 ⟨y, m, d, rfl, hR, hN, hb⟩
  have hbx : Box w2 w.heap.size 29 #[.int .i64 0, .int .i64 0, .int .i64 0, .int .i64 0, .int .i64 0, .int .i64 0] := (Box.new w _ _).belowAll hb
  have hB : Below w.heap.size w w2 := ((Below.refl _ w).alloc (Nat.le_refl _) _).trans (hb.mono (by simp))
  have HB := Lib.hid hB; have HR := Lib.hid hR; have HN := Lib.hid hN
  obtain ⟨x0, x1, x2, x3, x4, x5, u0, u1, u2, u3, u4, u5⟩ := hbx.six
  clear hb hB hR hN hbx
  unfold dateV
  go_wp2_with fail
  refine bodyPost_ret (v := .agg #[.int .i64 y, .int .i64 m, .int .i64 d, .int .i64 (t / 3600 % 24), .int .i64 (t / 60 % 60), .int .i64 (t % 60)]) (by simp [results, Tryd.results14, go_sem, x0, x1, x2, x3, x4, x5]) rfl ⟨y, m, d, _, _, _, rfl, ?_, ?_⟩
  · exact ⟨HR.out, by omega, by omega, by omega, by omega, by omega, by omega, by rw [HN.out, HE.out]; omega⟩
  · exact below_six HB.out (Nat.le_refl _) ..
/-! weekdays -/
theorem tweek_no (t : Int) (w : World) (h : ¬ TimeZ t) :
    Calls Tryd.prog 12 #[.int .i64 t] w fun e w' => e = .returned (.tuple #[.int .i64 0, .int .i64 2]) ∧ w = w' := by
  have H1 := Lib.hid h
  clear h
  go_enter Tryd.func12, Tryd.ntmps12
  go_wp2_with fail
  refine (may_no _ _ H1.out).mono ?_
  rintro e w' ⟨rfl, rfl⟩
  go_wp2_with fail
  go_ret2
  exact ⟨rfl, rfl⟩
theorem tweek_ok (t : Int) (w : World) (h : TimeZ t) :
    Calls Tryd.prog 12 #[.int .i64 t] w fun e w' => e = .returned (.tuple #[.int .i64 ((t / 86400 + 4) % 7), .int .i64 0]) ∧ w = w' := by
  obtain ⟨f0, f1, f2, f3⟩ : 0 ≤ t ∧ t ≤ 253402300799 ∧ 0 ≤ t / 86400 ∧ t / 86400 ≤ 2932896 := by unfold TimeZ at h; omega
  have H1 := Lib.hid h
  clear h
  go_enter Tryd.func12, Tryd.ntmps12
  go_wp2_with fail
  refine (may_yes _ _ H1.out).mono ?_
  rintro e w' ⟨rfl, rfl⟩
  go_wp2_with fail
  refine (weekday_ok _ _ f2 f3).mono ?_
  rintro e w' ⟨rfl, rfl⟩
  go_wp2_with fail
  go_ret2
  exact ⟨rfl, rfl⟩
theorem tweekR_ok (t : Int) (w : World) (h : TimeZ t) :
    Calls Tryd.prog 15 #[.int .i64 t] w fun e w' => e = .returned (.int .i64 ((t / 86400 + 4) % 7)) ∧ w = w' := by
  obtain ⟨f0, f1, f2, f3⟩ : 0 ≤ t ∧ t ≤ 253402300799 ∧ 0 ≤ t / 86400 ∧ t / 86400 ≤ 2932896 := by unfold TimeZ at h; omega
  clear h
  go_enter Tryd.func15, Tryd.ntmps15
  go_wp2_with fail
  refine (weekdayR_ok _ _ f2 f3).mono ?_
  rintro e w' ⟨rfl, rfl⟩
  go_wp2_with fail
  go_ret
  exact ⟨rfl, rfl⟩
end Go.Proofs.YtnhbkfmaaannnaaDoor
