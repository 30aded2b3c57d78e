/- wakes: the layer does something. -/
import Derived.Test.YtnppkobckabpcaaTPuts
import Derived.Test.YtnppkobckabpcaaTAsks
namespace Go.Proofs.Ytnppkobckabpcaa
open Go.RowKit

def wk : List Nat := [5, 172, 2, 1, 2, 7, 8]
theorem wk_puts : shs [5, 300] = [5, 172, 2] := by unfold shs; simp [sh_lt, sh_ge]
theorem wk_take1 (w : World) : MostIs w 7 wk 0 0 18446744073709551615 = TakeIs w wk 1 0 (.num .u64 5) := by
  unfold MostIs
  rw [show goT 7 0 0 (rdS (rest wk 0)).2.1 (mostE (rest wk 0) 18446744073709551615) = (1, 0, true) by decide, show (rdS (rest wk 0)).1 = 5 by decide]; rfl
theorem wk_take2 (w : World) : MostIs w 7 wk 1 0 18446744073709551615 = TakeIs w wk 3 0 (.num .u64 300) := by
  unfold MostIs
  rw [show goT 7 1 0 (rdS (rest wk 1)).2.1 (mostE (rest wk 1) 18446744073709551615) = (3, 0, true) by decide, show (rdS (rest wk 1)).1 = 300 by decide]; rfl
theorem wk_take3 (w : World) : IntIs w 7 wk 3 0 = TakeIs w wk 4 0 (.num .i64 (-1)) := by
  unfold IntIs
  rw [show goT 7 3 0 (rdS (rest wk 3)).2.1 ((rdS (rest wk 3)).2.2 : Int) = (4, 0, true) by decide, show (rdS (rest wk 3)).1 = 1 by decide]; rfl
theorem wk_take4 (w : World) : BytesIs w 7 wk 4 0 2 = TakeIs w wk 7 0 (.bytes [7, 8]) := by
  unfold BytesIs
  rw [show goT 7 4 0 (bytesR (rest wk 4) 2).2.1 (bytesR (rest wk 4) 2).2.2 = (7, 0, true) by decide, show (bytesR (rest wk 4) 2).1 = [7, 8] by decide]; rfl
theorem RowU.pair (w : World) : RowU (w.alloc (.cells #[.int .u64 5, .int .u64 300] 27)) (w.heap.size + 1) (some ⟨w.heap.size, 0, none⟩) 2 [5, 300] :=
  ⟨rfl, by simp, fun k hk => ⟨w.heap.size, 0, rfl, by omega, by
    rw [cell_of_row _ w.heap.size (0 + k) _ _ _ (heap_alloc_new w _)]
    match k, hk with
    | 0, _ => rfl
    | 1, _ => rfl⟩⟩
theorem RowB.pair (w : World) : RowB (w.alloc (.cells #[.int .u8 7, .int .u8 8] 5)) (w.heap.size + 1) (some ⟨w.heap.size, 0, none⟩) 2 2 [7, 8] :=
  ⟨rfl, by simp, by omega, by unfold maxLen; omega, (fun e => by cases e), fun k hk => ⟨w.heap.size, 0, rfl, by omega, by
    rw [cell_of_row _ w.heap.size (0 + k) _ _ _ (heap_alloc_new w _)]
    match k, hk with
    | 0, _ => rfl
    | 1, _ => rfl⟩⟩
theorem b_alloc (w : World) (o : Obj) : Below w.heap.size w (w.alloc o) := (Below.refl _ w).alloc (Nat.le_refl _) o
set_option maxRecDepth 100000 in
set_option maxHeartbeats 8000000 in
theorem wakes_any (w : World) : Calls Try.prog 8 #[] w fun e w' => e = .returned (.bool true) ∧ Below w.heap.size w w' := by
  have h0 := put_any none (some ⟨w.heap.size, 0, none⟩) 0 0 2 2 [] [5, 300] (w.alloc (.cells #[.int .u64 5, .int .u64 300] 27)) (RowB.none_ _ _) (by omega) (by have := RowU.pair w; rwa [show w.heap.size + 1 = (w.alloc (.cells #[.int .u64 5, .int .u64 300] 27)).heap.size by simp] at this) (by omega)
  rw [wk_puts, List.nil_append] at h0
  have H0 := Lib.hid h0
  clear h0
  go_enter Try.func8, Try.ntmps8
  go_wp2_with fail
  refine H0.out.mono ?_; rintro e w1 ⟨v1, rfl, ho1, hb1⟩
  have B1 := Lib.hid (gr_trans (b_alloc w _) hb1)
  obtain ⟨A1, c1, rfl, r1⟩ := ho1.row
  have R1 := Lib.hid r1
  clear H0 ho1 hb1 r1
  go_wp2_with fail
  refine (putInt_any A1 3 c1 (-1) _ w1 R1.out (by omega) (by omega) (by omega)).mono ?_; rintro e w2 ⟨v2, rfl, ho2, hb2⟩
  rw [show sh (turnZ (-1)).toNat = [1] from sh_lt (by decide)] at ho2
  have B2 := Lib.hid (gr_trans B1.out hb2)
  obtain ⟨A2, c2, rfl, r2⟩ := ho2.row
  have R2 := Lib.hid r2
  clear R1 ho2 hb2 r2 B1
  go_wp2_with fail
  have r2' := R2.out.below (b_alloc w2 (.cells #[.int .u8 7, .int .u8 8] 5))
  have rp := RowB.pair w2
  refine (putBytes_any A2 (some ⟨w2.heap.size, 0, none⟩) 4 c2 2 2 _ [7, 8] _ (r2'.mono (by simp)) (by omega) (rp.mono (by simp)) (by omega)).mono ?_; rintro e w3 ⟨v3, rfl, ho3, hb3⟩
  rw [show sh [7, 8].length = [2] from sh_lt (by decide)] at ho3
  have ho3' : OwnB w3 _ v3 wk := ho3
  have B3 := Lib.hid (gr_trans (gr_trans B2.out (b_alloc w2 _)) hb3)
  obtain ⟨A3, c3, rfl, r3⟩ := ho3'.row
  rw [show wk.length = 7 from rfl] at r3 ⊢
  have R3 := Lib.hid r3
  clear R2 ho3 ho3' hb3 r3 B2 r2' rp
  go_wp2_with fail
  refine (of_any A3 7 c3 wk w3 R3.out (by omega)).mono ?_; rintro e w4 ⟨⟨v4, rfl, s4, rfl, ho4⟩, hb4⟩
  have B4 := Lib.hid (gr_trans B3.out hb4)
  obtain ⟨A4, c4, rfl, r4⟩ := ho4.row
  rw [show wk.length = 7 from rfl] at r4 ⊢
  have R4 := Lib.hid r4
  clear R3 ho4 hb4 r4 B3
  go_wp2_with fail
  have t1 := take_any A4 7 c4 0 0 wk w4 R4.out (by omega)
  rw [wk_take1] at t1
  refine t1.mono ?_; rintro e w5 ⟨v5, x5, rfl, ⟨s5, rfl, ho5⟩, rfl, hb5⟩
  have B5 := Lib.hid (gr_trans B4.out hb5)
  obtain ⟨A5, c5, rfl, r5⟩ := ho5.row
  rw [show wk.length = 7 from rfl] at r5 ⊢
  have R5 := Lib.hid r5
  clear R4 ho5 hb5 r5 B4 t1
  go_wp2_with fail
  have bx0 := Box.new w5 40 #[.slice A5 7 c5, .int .i64 1, .int .i64 0]
  have a6 := b_alloc w5 (.cells #[.slice A5 7 c5, .int .i64 1, .int .i64 0] 40)
  have r6 := (R5.out.below a6).mono (B' := (w5.alloc (.cells #[.slice A5 7 c5, .int .i64 1, .int .i64 0] 40)).heap.size) a6.size
  have B6 := Lib.hid (gr_trans B5.out a6)
  have t2 := take_any A5 7 c5 1 0 wk _ r6 (by omega)
  rw [wk_take2] at t2
  refine t2.mono ?_; rintro e w6 ⟨v6, x6, rfl, ⟨s6, rfl, ho6⟩, rfl, hb6⟩
  obtain ⟨A6, c6, rfl, r6'⟩ := ho6.row
  rw [show wk.length = 7 from rfl] at r6' ⊢
  have bx1 := bx0.belowAll hb6
  obtain ⟨d0, d1, d2, f0, f1, f2⟩ := bx1.three
  have BX1 := Lib.hid bx1
  have hT : w.heap.size ≤ w5.heap.size := B5.out.size
  have hT6 : w5.heap.size < w6.heap.size := bx1.lt
  have B7 := Lib.hid (below_set3 (gr_trans B6.out hb6) hT (.slice A6 7 c6) (.int .i64 3) (.int .i64 0))
  have os6 := ho6.set3 (p := w5.heap.size) (by simp) (.slice A6 7 c6) (.int .i64 3) (.int .i64 0)
  obtain ⟨A6', c6', e6, r7⟩ := os6.row
  rw [show wk.length = 7 from rfl] at e6 r7
  cases e6
  have bx2 := BX1.out.set3 (.slice A6 7 c6) (.int .i64 3) (.int .i64 0)
  clear R5 B5 B6 ho6 hb6 a6 r6 t2 bx0 bx1 os6 r6'
  have R7 := Lib.hid r7; have BX2 := Lib.hid bx2
  clear r7 bx2
  go_wp2_with fail
  have t3 := takeInt_any A6 7 c6 3 0 wk _ R7.out (by omega)
  rw [wk_take3] at t3
  refine t3.mono ?_; rintro e w7 ⟨v7, x7, rfl, ⟨s7, rfl, ho7⟩, rfl, hb7⟩
  obtain ⟨A7, c7, rfl, _⟩ := ho7.row
  rw [show wk.length = 7 from rfl]
  have bx1 := BX2.out.belowAll hb7
  clear d0 d1 d2 f0 f1 f2
  obtain ⟨d0, d1, d2, f0, f1, f2⟩ := bx1.three
  have BX3 := Lib.hid bx1
  have hT7 : w5.heap.size < w7.heap.size := bx1.lt
  have B8 := Lib.hid (below_set3 (gr_trans B7.out hb7) hT (.slice A7 7 c7) (.int .i64 4) (.int .i64 0))
  have os7 := ho7.set3 (p := w5.heap.size) (by simpa using hT6) (.slice A7 7 c7) (.int .i64 4) (.int .i64 0)
  obtain ⟨A7', c7', e7, r8⟩ := os7.row
  rw [show wk.length = 7 from rfl] at e7 r8
  cases e7
  have bx2 := BX3.out.set3 (.slice A7 7 c7) (.int .i64 4) (.int .i64 0)
  have R8 := Lib.hid r8; have BX4 := Lib.hid bx2
  clear r8 bx2 bx1 ho7 hb7 t3 os7 R7 B7 BX2 BX3
  go_wp2_with fail
  have t4 := takeBytes_any A7 7 c7 4 0 2 wk _ R8.out (by omega) (by omega)
  rw [wk_take4] at t4
  refine t4.mono ?_; rintro e w8 ⟨v8, x8, rfl, ⟨s8, rfl, ho8⟩, hx8, hb8⟩
  obtain ⟨A8, c8, rfl, _⟩ := ho8.row
  rw [show wk.length = 7 from rfl]
  have hx8' : OwnB w8 _ x8 [7, 8] := hx8
  obtain ⟨A9, c9, rfl, _⟩ := hx8'.row
  have bx1 := BX4.out.belowAll hb8
  clear d0 d1 d2 f0 f1 f2
  obtain ⟨d0, d1, d2, f0, f1, f2⟩ := bx1.three
  have BX5 := Lib.hid bx1
  have hT8 : w5.heap.size < w8.heap.size := bx1.lt
  have b9 := below_set3 (gr_trans B8.out hb8) hT (.slice A8 7 c8) (.int .i64 7) (.int .i64 0)
  have B9 := Lib.hid b9
  have ox := hx8'.set3 (p := w5.heap.size) (by simpa using hT7) (.slice A8 7 c8) (.int .i64 7) (.int .i64 0)
  have oxa := ox.alloc (.cells #[.int .u8 7, .int .u8 8] 5)
  obtain ⟨A9', c9', e9, r9⟩ := oxa.row
  rw [show [7, 8].length = 2 from rfl] at e9 r9
  cases e9
  have rp := RowB.pair (((w8.setCell ⟨w5.heap.size, 0, none⟩ (.slice A8 7 c8)).setCell ⟨w5.heap.size, 1, none⟩ (.int .i64 7)).setCell ⟨w5.heap.size, 2, none⟩ (.int .i64 0))
  have bxl := (BX5.out.set3 (.slice A8 7 c8) (.int .i64 7) (.int .i64 0)).alloc (.cells #[.int .u8 7, .int .u8 8] 5)
  have hsz8 : (((w8.setCell ⟨w5.heap.size, 0, none⟩ (.slice A8 7 c8)).setCell ⟨w5.heap.size, 1, none⟩ (.int .i64 7)).setCell ⟨w5.heap.size, 2, none⟩ (.int .i64 0)).heap.size = w8.heap.size := by simp
  rw [hsz8] at rp
  clear hsz8
  have R9 := Lib.hid r9; have RP := Lib.hid rp; have BX6 := Lib.hid bxl
  clear r9 rp bxl bx1 ho8 hb8 t4 ox oxa hx8 hx8' R8 B8 BX4 BX5 b9
  go_wp2_with fail
  refine (same_bytes A9 (some ⟨w8.heap.size, 0, none⟩) 2 c9 2 _ _ [7, 8] _ R9.out RP.out).mono ?_; rintro e w9 ⟨rfl, q, hw9⟩
  have bx1 := BX6.out.drewN q
  rw [← hw9] at bx1
  have b10 := below_drew (gr_alloc B9.out (.cells #[.int .u8 7, .int .u8 8] 5)) q
  rw [← hw9] at b10
  have B10 := Lib.hid b10
  clear d0 d1 d2 f0 f1 f2 hw9 b10
  obtain ⟨d0, d1, d2, f0, f1, f2⟩ := bx1.three
  clear bx1 R9 RP BX6 B9
  go_wp2_with fail
  refine (over_any A8 7 c8 7 0 w9).mono ?_; rintro e w10 ⟨rfl, hb10⟩
  rw [show overT 7 7 0 = 0 by decide]
  have B11 := Lib.hid (gr_trans B10.out hb10)
  clear d0 d1 d2 f0 f1 f2 hb10 B10
  go_wp2_with fail
  have sz := size_any 128 w10 (by omega)
  rw [show (sh 128).length = 2 by simp [sh_lt, sh_ge]] at sz
  refine sz.mono ?_; rintro e w11 ⟨rfl, rfl⟩
  clear sz
  go_wp2_with fail
  go_ret
  exact ⟨rfl, B11.out⟩
end Go.Proofs.Ytnppkobckabpcaa
