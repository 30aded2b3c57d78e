/- Items: what was put is taken (the walk). -/
import Derived.Test.YtnppkobckabpcaaTItemT
namespace Go.Proofs.Ytnppkobckabpcaa
open Go.RowKit

theorem ItemIs.out {w w1 w2 : World} {g : Nat} {bs : List Nat} {t : Int} {s : Value} {x y z : Array Value} {o : Obj} (hg : g = w.heap.size) (h3 : Three w w1 g x y z) (ho : OwnB w2 w1.heap.size s bs) (hb : Below w1.heap.size w1 w2) :
    ItemIs w bs t (.returned (.tuple #[.agg #[s, .int .i64 t, .int .i64 0], .bool true])) (((((w2.alloc o).setCell ⟨g + 1 + 1, 0, none⟩ s).setCell ⟨g + 1 + 1, 1, none⟩ (.int .i64 t)).setCell ⟨g + 1 + 1, 2, none⟩ (.int .i64 0)).drew) := by
  have hlt := h3.b2.lt
  have h4 := (ho.alloc o).set3 (p := g + 1 + 1) (by omega) s (.int .i64 t) (.int .i64 0)
  subst hg
  refine ⟨_, _, rfl, ⟨_, rfl, ⟨h4.1, h4.2⟩ |> fun h => OwnB.mono h h3.bel.size⟩, rfl, ?_⟩
  exact (below_set3 (gr_trans (gr_trans h3.bel hb) (b_alloc _ _)) (by omega) _ _ _).drew
set_option maxRecDepth 100000 in
set_option maxHeartbeats 4000000 in
theorem itemT_num (k : Int) (N : Nat) (I : Int) (b : Bool) (B A : Option Addr) (m d n c tn : Nat) (t2 : Int) (bs : List Nat) (w : World) (hq : kindOf k = 0)
    (h : RowB w w.heap.size A n c bs) (_hn : n ≤ 16384)
    (hc : ∀ W, RowB W W.heap.size A n c bs → Calls Try.prog 34 #[tv A n c (tn : Int) 0] W (TakeIs W bs t2 0 (.num .u64 (N : Int)))) :
    Calls Try.prog 30 #[iv k N I b B m d, tv A n c (tn : Int) 0] w (ItemIs w bs t2) := by
  have hk := fun W => kind_any k N I b B m d W
  rw [hq] at hk
  have h3 := Three.new w #[.int .i64 k, .int .u64 (N : Int), .int .i64 I, .bool b, .slice B m d] #[.slice A n c, .int .i64 (tn : Int), .int .i64 0] #[.slice none 0 0, .int .i64 0, .int .i64 0]
  have ha := h.below h3.bel
  have HK := Lib.hid hk; have H3 := Lib.hid h3; have HA := Lib.hid ha; have HC := Lib.hid hc
  clear hk h3 ha h hc hq
  unfold iv tv at *
  go_enter Try.func30, Try.ntmps30
  go_wp2_with fail
  refine (HK.out _).mono ?_; rintro e w1 ⟨rfl, hb1⟩
  have h3 := H3.out.call hb1
  have ha := (HA.out.mono (Nat.le_of_lt H3.out.b0.lt)).below hb1
  obtain ⟨c0, c1, c2, c3, c4⟩ := h3.b0.five
  obtain ⟨d0, d1, d2, f0, f1, f2⟩ := h3.b1.three
  have HA1 := Lib.hid (ha.mono hb1.size)
  have H31 := Lib.hid h3
  clear HA H3 h3 ha hb1
  go_wp2_with fail
  refine (HC.out _ HA1.out).mono ?_; rintro e w2 ⟨v, x, rfl, ⟨s, rfl, ho⟩, hx, hb2⟩
  obtain rfl : x = .int .u64 (N : Int) := hx
  have h3 := H31.out.call hb2
  have HB2 := Lib.hid hb2
  have HO := Lib.hid ho
  obtain ⟨A2, cc2, rfl, _⟩ := ho.row
  have h4 := h3.call (b_alloc w2 (.cells #[.slice A2 bs.length cc2, .int .i64 t2, .int .i64 0] 40))
  clear c0 c1 c2 c3 c4 d0 d1 d2 f0 f1 f2
  obtain ⟨c0, c1, c2, c3, c4⟩ := h4.b0.five
  obtain ⟨d0, d1, d2, f0, f1, f2⟩ := h4.b2.three
  obtain ⟨e0, e1, e2, g0, g1, g2⟩ := (Box.new w2 40 #[.slice A2 bs.length cc2, .int .i64 t2, .int .i64 0]).three
  have b5 := (h4.b2.set3 (.slice A2 bs.length cc2) (.int .i64 t2) (.int .i64 0)).drew1
  have B5 := Lib.hid b5
  clear h3 h4 ho hb2 b5
  go_wp2_with fail
  go_region
  go_wp2_with fail
  clear c0 c1 c2 c3 c4 d0 d1 d2 f0 f1 f2 e0 e1 e2 g0 g1 g2
  obtain ⟨c0, c1, c2, _, _, _⟩ := B5.out.three
  refine bodyPost_ret (v := .tuple #[.agg #[.slice A2 bs.length cc2, .int .i64 t2, .int .i64 0], .bool true]) (by simp [results, Try.results30, go_sem, c0, c1, c2]) rfl ?_
  exact ItemIs.out rfl H31.out HO.out HB2.out
set_option maxRecDepth 100000 in
set_option maxHeartbeats 4000000 in
theorem itemT_int (k : Int) (N : Nat) (I : Int) (b : Bool) (B A : Option Addr) (m d n c tn : Nat) (t2 : Int) (bs : List Nat) (w : World) (hq : kindOf k = 1)
    (h : RowB w w.heap.size A n c bs) (_hn : n ≤ 16384)
    (hc : ∀ W, RowB W W.heap.size A n c bs → Calls Try.prog 35 #[tv A n c (tn : Int) 0] W (TakeIs W bs t2 0 (.num .i64 I))) :
    Calls Try.prog 30 #[iv k N I b B m d, tv A n c (tn : Int) 0] w (ItemIs w bs t2) := by
  have hk := fun W => kind_any k N I b B m d W
  rw [hq] at hk
  have h3 := Three.new w #[.int .i64 k, .int .u64 (N : Int), .int .i64 I, .bool b, .slice B m d] #[.slice A n c, .int .i64 (tn : Int), .int .i64 0] #[.slice none 0 0, .int .i64 0, .int .i64 0]
  have ha := h.below h3.bel
  have HK := Lib.hid hk; have H3 := Lib.hid h3; have HA := Lib.hid ha; have HC := Lib.hid hc
  clear hk h3 ha h hc hq
  unfold iv tv at *
  go_enter Try.func30, Try.ntmps30
  go_wp2_with fail
  refine (HK.out _).mono ?_; rintro e w1 ⟨rfl, hb1⟩
  have h3 := H3.out.call hb1
  have ha := (HA.out.mono (Nat.le_of_lt H3.out.b0.lt)).below hb1
  obtain ⟨c0, c1, c2, c3, c4⟩ := h3.b0.five
  obtain ⟨d0, d1, d2, f0, f1, f2⟩ := h3.b1.three
  have HA1 := Lib.hid (ha.mono hb1.size)
  have H31 := Lib.hid h3
  clear HA H3 h3 ha hb1
  go_wp2_with fail
  refine (HC.out _ HA1.out).mono ?_; rintro e w2 ⟨v, x, rfl, ⟨s, rfl, ho⟩, hx, hb2⟩
  obtain rfl : x = .int .i64 I := hx
  have h3 := H31.out.call hb2
  have HB2 := Lib.hid hb2
  have HO := Lib.hid ho
  obtain ⟨A2, cc2, rfl, _⟩ := ho.row
  have h4 := h3.call (b_alloc w2 (.cells #[.slice A2 bs.length cc2, .int .i64 t2, .int .i64 0] 40))
  clear c0 c1 c2 c3 c4 d0 d1 d2 f0 f1 f2
  obtain ⟨c0, c1, c2, c3, c4⟩ := h4.b0.five
  obtain ⟨d0, d1, d2, f0, f1, f2⟩ := h4.b2.three
  obtain ⟨e0, e1, e2, g0, g1, g2⟩ := (Box.new w2 40 #[.slice A2 bs.length cc2, .int .i64 t2, .int .i64 0]).three
  have b5 := (h4.b2.set3 (.slice A2 bs.length cc2) (.int .i64 t2) (.int .i64 0)).drew1
  have B5 := Lib.hid b5
  clear h3 h4 ho hb2 b5
  go_wp2_with fail
  go_region
  go_wp2_with fail
  clear c0 c1 c2 c3 c4 d0 d1 d2 f0 f1 f2 e0 e1 e2 g0 g1 g2
  obtain ⟨c0, c1, c2, _, _, _⟩ := B5.out.three
  refine bodyPost_ret (v := .tuple #[.agg #[.slice A2 bs.length cc2, .int .i64 t2, .int .i64 0], .bool true]) (by simp [results, Try.results30, go_sem, c0, c1, c2]) rfl ?_
  exact ItemIs.out rfl H31.out HO.out HB2.out
set_option maxRecDepth 100000 in
set_option maxHeartbeats 4000000 in
theorem itemT_flag (k : Int) (N : Nat) (I : Int) (b : Bool) (B A : Option Addr) (m d n c tn : Nat) (t2 : Int) (bs : List Nat) (w : World) (hq : kindOf k = 2)
    (h : RowB w w.heap.size A n c bs) (_hn : n ≤ 16384)
    (hc : ∀ W, RowB W W.heap.size A n c bs → Calls Try.prog 43 #[tv A n c (tn : Int) 0] W (TakeIs W bs t2 0 (.flag b))) :
    Calls Try.prog 30 #[iv k N I b B m d, tv A n c (tn : Int) 0] w (ItemIs w bs t2) := by
  have hk := fun W => kind_any k N I b B m d W
  rw [hq] at hk
  have h3 := Three.new w #[.int .i64 k, .int .u64 (N : Int), .int .i64 I, .bool b, .slice B m d] #[.slice A n c, .int .i64 (tn : Int), .int .i64 0] #[.slice none 0 0, .int .i64 0, .int .i64 0]
  have ha := h.below h3.bel
  have HK := Lib.hid hk; have H3 := Lib.hid h3; have HA := Lib.hid ha; have HC := Lib.hid hc
  clear hk h3 ha h hc hq
  unfold iv tv at *
  go_enter Try.func30, Try.ntmps30
  go_wp2_with fail
  refine (HK.out _).mono ?_; rintro e w1 ⟨rfl, hb1⟩
  have h3 := H3.out.call hb1
  have ha := (HA.out.mono (Nat.le_of_lt H3.out.b0.lt)).below hb1
  obtain ⟨c0, c1, c2, c3, c4⟩ := h3.b0.five
  obtain ⟨d0, d1, d2, f0, f1, f2⟩ := h3.b1.three
  have HA1 := Lib.hid (ha.mono hb1.size)
  have H31 := Lib.hid h3
  clear HA H3 h3 ha hb1
  go_wp2_with fail
  refine (HC.out _ HA1.out).mono ?_; rintro e w2 ⟨v, x, rfl, ⟨s, rfl, ho⟩, hx, hb2⟩
  obtain rfl : x = .bool b := hx
  have h3 := H31.out.call hb2
  have HB2 := Lib.hid hb2
  have HO := Lib.hid ho
  obtain ⟨A2, cc2, rfl, _⟩ := ho.row
  have h4 := h3.call (b_alloc w2 (.cells #[.slice A2 bs.length cc2, .int .i64 t2, .int .i64 0] 40))
  clear c0 c1 c2 c3 c4 d0 d1 d2 f0 f1 f2
  obtain ⟨c0, c1, c2, c3, c4⟩ := h4.b0.five
  obtain ⟨d0, d1, d2, f0, f1, f2⟩ := h4.b2.three
  obtain ⟨e0, e1, e2, g0, g1, g2⟩ := (Box.new w2 40 #[.slice A2 bs.length cc2, .int .i64 t2, .int .i64 0]).three
  have b5 := (h4.b2.set3 (.slice A2 bs.length cc2) (.int .i64 t2) (.int .i64 0)).drew1
  have B5 := Lib.hid b5
  clear h3 h4 ho hb2 b5
  go_wp2_with fail
  go_region
  go_wp2_with fail
  clear c0 c1 c2 c3 c4 d0 d1 d2 f0 f1 f2 e0 e1 e2 g0 g1 g2
  obtain ⟨c0, c1, c2, _, _, _⟩ := B5.out.three
  refine bodyPost_ret (v := .tuple #[.agg #[.slice A2 bs.length cc2, .int .i64 t2, .int .i64 0], .bool true]) (by simp [results, Try.results30, go_sem, c0, c1, c2]) rfl ?_
  exact ItemIs.out rfl H31.out HO.out HB2.out
end Go.Proofs.Ytnppkobckabpcaa
