/- dayOf: the date that is so many days behind the first one of a year. -/
import Derived.Test.YtnhbkfmaaannnaaDoorDOf
import Derived.Test.YtnhbkfmaaannnaaDoorDBox
namespace Go.Proofs.YtnhbkfmaaannnaaDoor
open Go.RowKit

set_option maxRecDepth 100000 in
theorem dayof_ok (y left : Int) (w : World) (hL : Laid w) (_ : 1601 ≤ y) (_ : y ≤ 9999) (l0 : 0 ≤ left) (l1 : left < ylZ y) :
    Calls Tryd.prog 50 #[.int .i64 y, .int .i64 left] w fun e w' => ∃ m d : Int, e = .returned (.agg #[.int .i64 y, .int .i64 m, .int .i64 d]) ∧ 1 ≤ m ∧ m ≤ 12 ∧ 1 ≤ d ∧ d ≤ mlZ y m ∧ dmZ y (m - 1).toNat + (d - 1) = left ∧ Below w.heap.size w w' := by
  have l2 : left ≤ 366 := by have := ylZ_pos y; omega
  go_enter Tryd.func50, Tryd.ntmps50
  go_wp2_with fail
  go_step3
  go_wp2_with fail
  go_step3
  go_wp2_with fail
  have b0 : Box ((w.alloc (Obj.cells #[Value.int IntKind.i64 0, Value.int IntKind.i64 0, Value.int IntKind.i64 0] 27)).alloc (Obj.cells #[Value.int IntKind.i64 y, Value.int IntKind.i64 1, Value.int IntKind.i64 (left + 1)] 27)) w.heap.size 27 #[.int .i64 0, .int .i64 0, .int .i64 0] := (Box.new _ _ _).alloc _
  have b1 : Box ((w.alloc (Obj.cells #[Value.int IntKind.i64 0, Value.int IntKind.i64 0, Value.int IntKind.i64 0] 27)).alloc (Obj.cells #[Value.int IntKind.i64 y, Value.int IntKind.i64 1, Value.int IntKind.i64 (left + 1)] 27)) (w.heap.size + 1) 27 #[.int .i64 y, .int .i64 1, .int .i64 (left + 1)] := by
    have := Box.new (w.alloc (Obj.cells #[Value.int IntKind.i64 0, Value.int IntKind.i64 0, Value.int IntKind.i64 0] 27)) 27 #[.int .i64 y, .int .i64 1, .int .i64 (left + 1)]
    simpa using this
  have hw1 : Below w.heap.size w ((w.alloc (Obj.cells #[Value.int IntKind.i64 0, Value.int IntKind.i64 0, Value.int IntKind.i64 0] 27)).alloc (Obj.cells #[Value.int IntKind.i64 y, Value.int IntKind.i64 1, Value.int IntKind.i64 (left + 1)] 27)) := ((Below.refl _ w).alloc (Nat.le_refl _) _).alloc (by simp) _
  have HL := Lib.hid hL
  clear hL
  go_loopw [6] (fun _ wr => ∃ (k : Nat) (dd : Int), k ≤ 11 ∧ dd + dmZ y k = left + 1 ∧ 1 ≤ dd ∧ Below w.heap.size w wr ∧ Box wr w.heap.size 27 #[.int .i64 0, .int .i64 0, .int .i64 0] ∧ Box wr (w.heap.size + 1) 27 #[.int .i64 y, .int .i64 ((k : Int) + 1), .int .i64 dd]) (fun _ wr => (12 - intOf ((wr.cell? ⟨w.heap.size + 1, 1, none⟩).getD undef)).toNat)
  case atStart => exact ⟨0, left + 1, by omega, by simp [dmZ], by omega, hw1, b0, b1⟩
  case round =>
    obtain ⟨k, dd, hk, hd, hd1, hB, hb0, hb1⟩ := hrel
    clear b0 b1 hw1
    have hkm := dmZ_in y (k := k) (by omega)
    have hms := dmZ_succ y k
    have hml := mlZ_top y ((k : Int) + 1)
    have hlast := dmZ_year y
    obtain ⟨z0, z1, z2, f0, f1, f2⟩ := hb0.three
    obtain ⟨c0, c1, c2, g0, g1, g2⟩ := hb1.three
    have HB := Lib.hid hB; have H0 := Lib.hid hb0; have H1 := Lib.hid hb1; have HD := Lib.hid hd
    have dd2 : dd ≤ 367 := by omega
    clear hB hb0 hb1 hd
    by_cases hlt : mlZ y ((k : Int) + 1) < dd
    · have hk11 : k < 11 := by
        by_cases h11 : k = 11
        · subst h11
          have h12 := hms.symm.trans hlast
          have := HD.out
          omega
        · omega
      have hn : dd - mlZ y ((k : Int) + 1) + dmZ y (k + 1) = left + 1 := by have := HD.out; omega
      have HN := Lib.hid hn
      clear hn hms hlast
      go_wp2_with fail
      refine (long_any y _ wr (HL.out.on HB.out)).mono ?_
      rintro e w' ⟨rfl, rfl⟩
      obtain ⟨ml0, ml1⟩ := hml
      generalize mlZ y ((k : Int) + 1) = L at *
      go_wp2_with fail
      have hbx := H1.out.set2 (.int .i64 (dd - L)) (.int .i64 ((k : Int) + 1 + 1))
      have hms : (12 - intOf ((((wr.setCell { block := w.heap.size + 1, off := 2 } (Value.int IntKind.i64 (dd - L))).setCell { block := w.heap.size + 1, off := 1 } (Value.int IntKind.i64 ((k : Int) + 1 + 1))).cell? { block := w.heap.size + 1, off := 1 }).getD undef)).toNat < (12 - intOf ((wr.cell? { block := w.heap.size + 1, off := 1 }).getD undef)).toNat := by
        rw [hbx.three.2.1, c1]; simp [intOf]; omega
      refine ⟨⟨k + 1, dd - L, by omega, HN.out, by omega, (HB.out.setCell (by show w.heap.size ≤ w.heap.size + 1; omega) _).setCell (by show w.heap.size ≤ w.heap.size + 1; omega) _, (H0.out.far (by omega) _).far (by omega) _, ?_⟩, hms⟩
      rw [show (((k + 1 : Nat) : Int) + 1) = (k : Int) + 1 + 1 by omega]
      exact hbx
    · have hlt' : decide (mlZ y ((k : Int) + 1) < dd) = false := by simpa using hlt
      clear hms hlast
      go_wp2_with fail
      refine (long_any y _ wr (HL.out.on HB.out)).mono ?_
      rintro e w' ⟨rfl, rfl⟩
      obtain ⟨ml0, ml1⟩ := hml
      generalize hL0 : mlZ y ((k : Int) + 1) = L at *
      have HL0 := Lib.hid hL0
      clear hL0
      go_wp2_with fail
      rw [Exit.noGoto_ret]
      refine bodyPost_ret (v := .agg #[.int .i64 y, .int .i64 ((k : Int) + 1), .int .i64 dd]) ?_ rfl ⟨(k : Int) + 1, dd, rfl, by omega, by omega, hd1, by rw [HL0.out]; exact hlt, ?_, ((HB.out.setCell (Nat.le_refl _) _).setCell (Nat.le_refl _) _).setCell (Nat.le_refl _) _⟩
      · simp [results, Tryd.results50, go_sem, z0, z1, z2]
      · have := HD.out
        rw [show ((k : Int) + 1 - 1).toNat = k by omega]
        omega
end Go.Proofs.YtnhbkfmaaannnaaDoor
