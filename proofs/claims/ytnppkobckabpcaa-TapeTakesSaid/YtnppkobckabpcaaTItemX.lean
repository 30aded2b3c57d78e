/- Items: what was put is taken (the walk, bytes). -/
import Derived.Test.YtnppkobckabpcaaTItemW
import Derived.Deep.RegionWith
namespace Go.Proofs.Ytnppkobckabpcaa
open Go.RowKit

set_option maxRecDepth 100000 in
set_option maxHeartbeats 4000000 in
theorem itemT_bytes (k : Int) (N : Nat) (I : Int) (b : Bool) (B A : Option Addr) (m d n c tn : Nat) (t2 : Int) (bs xs : List Nat) (w : World) (hq : kindOf k = 3)
    (hx0 : RowB w w.heap.size B m d xs) (h : RowB w w.heap.size A n c bs) (_hn : n ≤ 16384)
    (hc : ∀ W, RowB W W.heap.size A n c bs → Calls Try.prog 36 #[tv A n c (tn : Int) 0, .int .i64 300] W (TakeIs W bs t2 0 (.bytes (xs.take 300)))) :
    Calls Try.prog 30 #[iv k N I b B m d, tv A n c (tn : Int) 0] w (ItemIs w bs t2) := by
  have hk := fun W => kind_any k N I b B m d W
  rw [hq] at hk
  have h3 := Three.new w #[.int .i64 k, .int .u64 (N : Int), .int .i64 I, .bool b, .slice B m d] #[.slice A n c, .int .i64 (tn : Int), .int .i64 0] #[.slice none 0 0, .int .i64 0, .int .i64 0]
  have ha := h.below h3.bel
  have hxa := hx0.below h3.bel
  have HK := Lib.hid hk; have H3 := Lib.hid h3; have HA := Lib.hid ha; have HX := Lib.hid hxa; have HC := Lib.hid hc
  clear hk h3 ha h hc hq hxa hx0
  unfold iv tv at *
  go_enter Try.func30, Try.ntmps30
  go_wp2_with fail
  refine (HK.out _).mono ?_; rintro e w1 ⟨rfl, hb1⟩
  have h3 := H3.out.call hb1
  have ha := (HA.out.mono (Nat.le_of_lt H3.out.b0.lt)).below hb1
  obtain ⟨c0, c1, c2, c3, c4⟩ := h3.b0.five
  obtain ⟨d0, d1, d2, f0, f1, f2⟩ := h3.b1.three
  have HA1 := Lib.hid (ha.mono hb1.size)
  have HX1 := Lib.hid (((HX.out.mono (Nat.le_of_lt H3.out.b0.lt)).below hb1).mono hb1.size)
  have H31 := Lib.hid h3
  clear HA HX H3 h3 ha hb1
  go_wp2_with fail
  refine (HC.out _ HA1.out).mono ?_; rintro e w2 ⟨v, x, rfl, ⟨s, rfl, ho⟩, hx, hb2⟩
  have hx' : OwnB w2 w1.heap.size x (xs.take 300) := hx
  obtain ⟨A4, cc4, rfl, r4⟩ := hx'.row
  have h3 := H31.out.call hb2
  have HB2 := Lib.hid hb2
  have HO := Lib.hid ho
  obtain ⟨A2, cc2, rfl, _⟩ := ho.row
  have hal := b_alloc w2 (.cells #[.slice A2 bs.length cc2, .int .i64 t2, .int .i64 0] 40)
  have h4 := h3.call hal
  have HR4 := Lib.hid (r4.below hal)
  have HX2 := Lib.hid ((HX1.out.below hb2).mono hb2.size |>.below hal)
  have HAL := Lib.hid hal
  clear c0 c1 c2 c3 c4 d0 d1 d2 f0 f1 f2
  obtain ⟨c0, c1, c2, c3, c4⟩ := h4.b0.five
  have bu := Box.new w2 40 #[.slice A2 bs.length cc2, .int .i64 t2, .int .i64 0]
  obtain ⟨e0, e1, e2, g0, g1, g2⟩ := bu.three
  have H4 := Lib.hid h4; have BU := Lib.hid bu
  have hsz : (w2.alloc (.cells #[.slice A2 bs.length cc2, .int .i64 t2, .int .i64 0] 40)).heap.size = w2.heap.size + 1 := by simp
  have hF := (few_any B m d 300 xs ((w2.alloc (.cells #[.slice A2 bs.length cc2, .int .i64 t2, .int .i64 0] 40)).drewN 1) ((HX2.out.drewN 1).mono (by show w2.heap.size ≤ (w2.alloc _).heap.size; omega)) (by omega)).mono (fun e w' (h : ∃ v, e = .returned v ∧ OwnB w' ((w2.alloc (.cells #[.slice A2 bs.length cc2, .int .i64 t2, .int .i64 0] 40)).drewN 1).heap.size v (xs.take 300) ∧ Below ((w2.alloc (.cells #[.slice A2 bs.length cc2, .int .i64 t2, .int .i64 0] 40)).drewN 1).heap.size ((w2.alloc (.cells #[.slice A2 bs.length cc2, .int .i64 t2, .int .i64 0] 40)).drewN 1) w') => (show ∃ v, e = .returned v ∧ OwnB w' (w2.heap.size + 1) v (xs.take 300) ∧ Below (w2.alloc (.cells #[.slice A2 bs.length cc2, .int .i64 t2, .int .i64 0] 40)).heap.size (w2.alloc (.cells #[.slice A2 bs.length cc2, .int .i64 t2, .int .i64 0] 40)) w' from by
    obtain ⟨v, h1, h2, h3⟩ := h
    exact ⟨v, h1, h2.mono (by show w2.heap.size + 1 ≤ (w2.alloc _).heap.size; omega), ⟨h3.os, h3.tape, h3.output, h3.size, h3.block⟩⟩))
  rw [show ((300 : Nat) : Int) = 300 from rfl] at hF
  have hF' : Calls Try.prog 9 #[.slice B m d, .int .i64 300] (w2.alloc (.cells #[.slice A2 bs.length cc2, .int .i64 t2, .int .i64 0] 40)).drew _ := hF
  have HF := Lib.hid hF'
  have HS := Lib.hid hsz
  clear h3 h4 ho hb2 hx hx' r4 hal hF hF' bu hsz
  generalize xs.take 300 = ys at *
  go_wp2_with fail
  go_region_with (first
    | (go_at_call 9
       refine HF.out.mono ?_
       rintro e w5 ⟨v5, rfl, ho5, hb5⟩
       obtain ⟨A5, cc5, rfl, r5⟩ := ho5.row
       have h5 := H4.out.call hb5
       have u5 := BU.out.belowAll hb5
       have HR5 := Lib.hid r5
       have HR45 := Lib.hid ((HR4.out.mono (by rw [HS.out]; omega)).below hb5)
       have HB5 := Lib.hid hb5
       have H5 := Lib.hid h5
       obtain ⟨x0, x1, x2, y0, y1, y2⟩ := u5.three
       obtain ⟨d0, d1, d2, f0, f1, f2⟩ := h5.b2.three
       clear ho5 hb5 h5 u5 r5)
    | (go_at_call 12
       refine (same_bytes _ _ _ _ _ _ _ _ w5 HR45.out HR5.out).mono ?_
       rintro e w6 ⟨rfl, q6, rfl⟩))
  all_goals
    go_wp2_with fail
    clear c0 c1 c2 c3 c4 e0 e1 e2 g0 g1 g2 x0 x1 x2 y0 y1 y2 d0 d1 d2 f0 f1 f2
    have b6 := (H5.out.b2.drewN q6).set3 (.slice A2 bs.length cc2) (.int .i64 t2) (.int .i64 0)
    obtain ⟨c0, c1, c2, _, _, _⟩ := b6.three
    have hlt := H31.out.b2.lt
    have ho5 := (((HO.out.alloc (.cells #[.slice A2 bs.length cc2, .int .i64 t2, .int .i64 0] 40)).below HB5.out).drewN q6).set3 (p := w.heap.size + 1 + 1) (by omega) (.slice A2 bs.length cc2) (.int .i64 t2) (.int .i64 0)
    refine bodyPost_ret (v := .tuple #[.agg #[.slice A2 bs.length cc2, .int .i64 t2, .int .i64 0], .bool true]) (by simp [results, Try.results30, go_sem, Act.put, c0, c1, c2]) (by simp [Act.put]) ?_
    exact ⟨_, _, rfl, ⟨_, rfl, ho5.mono H31.out.bel.size⟩, rfl, below_set3 (below_drew H5.out.bel q6) (by omega) _ _ _⟩
end Go.Proofs.Ytnppkobckabpcaa
