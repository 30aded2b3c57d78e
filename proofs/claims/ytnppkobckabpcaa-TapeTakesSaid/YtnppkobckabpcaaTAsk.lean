/- What is asked of a tape, and told: by the five kinds. -/
import Derived.Test.YtnppkobckabpcaaTAsk0
namespace Go.Proofs.Ytnppkobckabpcaa
open Go.RowKit

set_option maxRecDepth 100000 in
set_option maxHeartbeats 4000000 in
theorem askT_num (k N M : Int) (A : Option Addr) (n c : Nat) (t err t2 err2 : Int) (z : Int) (bs : List Nat) (w : World) (hk : (IntKind.u64.wrap k).tmod 5 = (0 : Int)) (h : RowB w w.heap.size A n c bs)
    (hc : ∀ W, RowB W W.heap.size A n c bs → Calls Try.prog 34 #[tv A n c t err] W (TakeIs W bs t2 err2 (.num .u64 z))) :
    Calls Try.prog 24 #[.agg #[.int .i64 k, .int .u64 N, .int .i64 M], tv A n c t err] w (AskIs w bs t2 err2 ⟨z, 0, false, []⟩) := by
  have h3 := ThreeA.new w #[.int .i64 k, .int .u64 N, .int .i64 M] #[.slice A n c, .int .i64 t, .int .i64 err] #[.slice none 0 0, .int .i64 0, .int .i64 0, .int .u64 0, .int .i64 0, .bool false, .slice none 0 0]
  have ha := (h.below h3.bel).mono h3.bel.size
  have H3 := Lib.hid h3; have HA := Lib.hid ha; have HC := Lib.hid hc
  clear h3 ha h hc
  unfold tv at *
  go_enter Try.func24, Try.ntmps24
  go_wp2_with fail
  refine (HC.out _ HA.out).mono ?_; rintro e w2 ⟨v, x, rfl, ⟨s, rfl, ho⟩, hx, hb2⟩
  obtain rfl : x = .int .u64 z := hx
  have h3 := H3.out.call hb2
  have HO := Lib.hid ho
  have HB2 := Lib.hid hb2
  obtain ⟨A2, cc2, rfl, _⟩ := ho.row
  obtain ⟨c0, c1, c2, c3', c4, c5, c6⟩ := h3.b2.seven
  have f0 := h3.b2.frozen 0; have f1 := h3.b2.frozen 1; have f2 := h3.b2.frozen 2; have f3 := h3.b2.frozen 3; have f4 := h3.b2.frozen 4; have f5 := h3.b2.frozen 5; have f6 := h3.b2.frozen 6
  have b5 := (((h3.b2.s0 (.slice A2 bs.length cc2)).s1 (.int .i64 t2)).s2 (.int .i64 err2)).s3 (.int .u64 z)
  have b6 := Box.set7 b5 (.slice A2 bs.length cc2) (.int .i64 t2) (.int .i64 err2) (.int .u64 z) (.int .i64 0) (.bool false) (.slice none 0 0)
  have B6 := Lib.hid b6
  have hlt := h3.b2.lt
  have hlt0 := h3.b0.lt
  have HL := Lib.hid hlt
  have hs2 := Lib.hid (H3.out.b2.lt)
  have HBEL := Lib.hid h3.bel
  clear h3 ho hb2 b5 b6 hlt hlt0
  go_wp2_with fail
  clear c0 c1 c2 c3' c4 c5 c6 f0 f1 f2 f3 f4 f5 f6
  obtain ⟨c0, c1, c2, c3', c4, c5, c6⟩ := B6.out.seven
  refine bodyPost_ret (v := toldV (.slice A2 bs.length cc2) t2 err2  z  0 false (.slice none 0 0)) (by simp [results, Try.results24, go_sem, c0, c1, c2, c3', c4, c5, c6, toldV]) rfl ?_
  have hp : w.heap.size + 1 + 1 < (((w.alloc (.cells #[.int .i64 k, .int .u64 N, .int .i64 M] 44)).alloc (.cells #[.slice A n c, .int .i64 t, .int .i64 err] 40)).alloc (.cells #[.slice none 0 0, .int .i64 0, .int .i64 0, .int .u64 0, .int .i64 0, .bool false, .slice none 0 0] 48)).heap.size := hs2.out
  refine ⟨_, rfl, ⟨_, _, rfl, OwnB.mono (OwnB.set7 (OwnB.set (OwnB.set (OwnB.set (OwnB.set HO.out hp _) hp _) hp _) hp _) hp _ _ _ _ _ _ _) (by omega), OwnB.nil _ _⟩, below_set7 (below_set (below_set (below_set (below_set HBEL.out (by omega) _) (by omega) _) (by omega) _) (by omega) _) (by omega) _ _ _ _ _ _ _⟩
set_option maxRecDepth 100000 in
set_option maxHeartbeats 4000000 in
theorem askT_most (k N M : Int) (A : Option Addr) (n c : Nat) (t err t2 err2 : Int) (z : Int) (bs : List Nat) (w : World) (hk : (IntKind.u64.wrap k).tmod 5 = (1 : Int)) (h : RowB w w.heap.size A n c bs)
    (hc : ∀ W, RowB W W.heap.size A n c bs → Calls Try.prog 42 #[tv A n c t err, .int .u64 N] W (TakeIs W bs t2 err2 (.num .u64 z))) :
    Calls Try.prog 24 #[.agg #[.int .i64 k, .int .u64 N, .int .i64 M], tv A n c t err] w (AskIs w bs t2 err2 ⟨z, 0, false, []⟩) := by
  have h3 := ThreeA.new w #[.int .i64 k, .int .u64 N, .int .i64 M] #[.slice A n c, .int .i64 t, .int .i64 err] #[.slice none 0 0, .int .i64 0, .int .i64 0, .int .u64 0, .int .i64 0, .bool false, .slice none 0 0]
  have ha := (h.below h3.bel).mono h3.bel.size
  have H3 := Lib.hid h3; have HA := Lib.hid ha; have HC := Lib.hid hc
  clear h3 ha h hc
  unfold tv at *
  go_enter Try.func24, Try.ntmps24
  go_wp2_with fail
  refine (HC.out _ HA.out).mono ?_; rintro e w2 ⟨v, x, rfl, ⟨s, rfl, ho⟩, hx, hb2⟩
  obtain rfl : x = .int .u64 z := hx
  have h3 := H3.out.call hb2
  have HO := Lib.hid ho
  have HB2 := Lib.hid hb2
  obtain ⟨A2, cc2, rfl, _⟩ := ho.row
  obtain ⟨c0, c1, c2, c3', c4, c5, c6⟩ := h3.b2.seven
  have f0 := h3.b2.frozen 0; have f1 := h3.b2.frozen 1; have f2 := h3.b2.frozen 2; have f3 := h3.b2.frozen 3; have f4 := h3.b2.frozen 4; have f5 := h3.b2.frozen 5; have f6 := h3.b2.frozen 6
  have b5 := (((h3.b2.s0 (.slice A2 bs.length cc2)).s1 (.int .i64 t2)).s2 (.int .i64 err2)).s3 (.int .u64 z)
  have b6 := Box.set7 b5 (.slice A2 bs.length cc2) (.int .i64 t2) (.int .i64 err2) (.int .u64 z) (.int .i64 0) (.bool false) (.slice none 0 0)
  have B6 := Lib.hid b6
  have hlt := h3.b2.lt
  have hlt0 := h3.b0.lt
  have HL := Lib.hid hlt
  have hs2 := Lib.hid (H3.out.b2.lt)
  have HBEL := Lib.hid h3.bel
  clear h3 ho hb2 b5 b6 hlt hlt0
  go_wp2_with fail
  clear c0 c1 c2 c3' c4 c5 c6 f0 f1 f2 f3 f4 f5 f6
  obtain ⟨c0, c1, c2, c3', c4, c5, c6⟩ := B6.out.seven
  refine bodyPost_ret (v := toldV (.slice A2 bs.length cc2) t2 err2  z  0 false (.slice none 0 0)) (by simp [results, Try.results24, go_sem, c0, c1, c2, c3', c4, c5, c6, toldV]) rfl ?_
  have hp : w.heap.size + 1 + 1 < (((w.alloc (.cells #[.int .i64 k, .int .u64 N, .int .i64 M] 44)).alloc (.cells #[.slice A n c, .int .i64 t, .int .i64 err] 40)).alloc (.cells #[.slice none 0 0, .int .i64 0, .int .i64 0, .int .u64 0, .int .i64 0, .bool false, .slice none 0 0] 48)).heap.size := hs2.out
  refine ⟨_, rfl, ⟨_, _, rfl, OwnB.mono (OwnB.set7 (OwnB.set (OwnB.set (OwnB.set (OwnB.set HO.out hp _) hp _) hp _) hp _) hp _ _ _ _ _ _ _) (by omega), OwnB.nil _ _⟩, below_set7 (below_set (below_set (below_set (below_set HBEL.out (by omega) _) (by omega) _) (by omega) _) (by omega) _) (by omega) _ _ _ _ _ _ _⟩
set_option maxRecDepth 100000 in
set_option maxHeartbeats 4000000 in
theorem askT_int (k N M : Int) (A : Option Addr) (n c : Nat) (t err t2 err2 : Int) (i : Int) (bs : List Nat) (w : World) (hk : (IntKind.u64.wrap k).tmod 5 = (2 : Int)) (h : RowB w w.heap.size A n c bs)
    (hc : ∀ W, RowB W W.heap.size A n c bs → Calls Try.prog 35 #[tv A n c t err] W (TakeIs W bs t2 err2 (.num .i64 i))) :
    Calls Try.prog 24 #[.agg #[.int .i64 k, .int .u64 N, .int .i64 M], tv A n c t err] w (AskIs w bs t2 err2 ⟨0, i, false, []⟩) := by
  have h3 := ThreeA.new w #[.int .i64 k, .int .u64 N, .int .i64 M] #[.slice A n c, .int .i64 t, .int .i64 err] #[.slice none 0 0, .int .i64 0, .int .i64 0, .int .u64 0, .int .i64 0, .bool false, .slice none 0 0]
  have ha := (h.below h3.bel).mono h3.bel.size
  have H3 := Lib.hid h3; have HA := Lib.hid ha; have HC := Lib.hid hc
  clear h3 ha h hc
  unfold tv at *
  go_enter Try.func24, Try.ntmps24
  go_wp2_with fail
  refine (HC.out _ HA.out).mono ?_; rintro e w2 ⟨v, x, rfl, ⟨s, rfl, ho⟩, hx, hb2⟩
  obtain rfl : x = .int .i64 i := hx
  have h3 := H3.out.call hb2
  have HO := Lib.hid ho
  have HB2 := Lib.hid hb2
  obtain ⟨A2, cc2, rfl, _⟩ := ho.row
  obtain ⟨c0, c1, c2, c3', c4, c5, c6⟩ := h3.b2.seven
  have f0 := h3.b2.frozen 0; have f1 := h3.b2.frozen 1; have f2 := h3.b2.frozen 2; have f3 := h3.b2.frozen 3; have f4 := h3.b2.frozen 4; have f5 := h3.b2.frozen 5; have f6 := h3.b2.frozen 6
  have b5 := (((h3.b2.s0 (.slice A2 bs.length cc2)).s1 (.int .i64 t2)).s2 (.int .i64 err2)).s4 (.int .i64 i)
  have b6 := Box.set7 b5 (.slice A2 bs.length cc2) (.int .i64 t2) (.int .i64 err2) (.int .u64 0) (.int .i64 i) (.bool false) (.slice none 0 0)
  have B6 := Lib.hid b6
  have hlt := h3.b2.lt
  have hlt0 := h3.b0.lt
  have HL := Lib.hid hlt
  have hs2 := Lib.hid (H3.out.b2.lt)
  have HBEL := Lib.hid h3.bel
  clear h3 ho hb2 b5 b6 hlt hlt0
  go_wp2_with fail
  clear c0 c1 c2 c3' c4 c5 c6 f0 f1 f2 f3 f4 f5 f6
  obtain ⟨c0, c1, c2, c3', c4, c5, c6⟩ := B6.out.seven
  refine bodyPost_ret (v := toldV (.slice A2 bs.length cc2) t2 err2  0  i false (.slice none 0 0)) (by simp [results, Try.results24, go_sem, c0, c1, c2, c3', c4, c5, c6, toldV]) rfl ?_
  have hp : w.heap.size + 1 + 1 < (((w.alloc (.cells #[.int .i64 k, .int .u64 N, .int .i64 M] 44)).alloc (.cells #[.slice A n c, .int .i64 t, .int .i64 err] 40)).alloc (.cells #[.slice none 0 0, .int .i64 0, .int .i64 0, .int .u64 0, .int .i64 0, .bool false, .slice none 0 0] 48)).heap.size := hs2.out
  refine ⟨_, rfl, ⟨_, _, rfl, OwnB.mono (OwnB.set7 (OwnB.set (OwnB.set (OwnB.set (OwnB.set HO.out hp _) hp _) hp _) hp _) hp _ _ _ _ _ _ _) (by omega), OwnB.nil _ _⟩, below_set7 (below_set (below_set (below_set (below_set HBEL.out (by omega) _) (by omega) _) (by omega) _) (by omega) _) (by omega) _ _ _ _ _ _ _⟩
set_option maxRecDepth 100000 in
set_option maxHeartbeats 4000000 in
theorem askT_flag (k N M : Int) (A : Option Addr) (n c : Nat) (t err t2 err2 : Int) (f : Bool) (bs : List Nat) (w : World) (hk : (IntKind.u64.wrap k).tmod 5 = (3 : Int)) (h : RowB w w.heap.size A n c bs)
    (hc : ∀ W, RowB W W.heap.size A n c bs → Calls Try.prog 43 #[tv A n c t err] W (TakeIs W bs t2 err2 (.flag f))) :
    Calls Try.prog 24 #[.agg #[.int .i64 k, .int .u64 N, .int .i64 M], tv A n c t err] w (AskIs w bs t2 err2 ⟨0, 0, f, []⟩) := by
  have h3 := ThreeA.new w #[.int .i64 k, .int .u64 N, .int .i64 M] #[.slice A n c, .int .i64 t, .int .i64 err] #[.slice none 0 0, .int .i64 0, .int .i64 0, .int .u64 0, .int .i64 0, .bool false, .slice none 0 0]
  have ha := (h.below h3.bel).mono h3.bel.size
  have H3 := Lib.hid h3; have HA := Lib.hid ha; have HC := Lib.hid hc
  clear h3 ha h hc
  unfold tv at *
  go_enter Try.func24, Try.ntmps24
  go_wp2_with fail
  refine (HC.out _ HA.out).mono ?_; rintro e w2 ⟨v, x, rfl, ⟨s, rfl, ho⟩, hx, hb2⟩
  obtain rfl : x = .bool f := hx
  have h3 := H3.out.call hb2
  have HO := Lib.hid ho
  have HB2 := Lib.hid hb2
  obtain ⟨A2, cc2, rfl, _⟩ := ho.row
  obtain ⟨c0, c1, c2, c3', c4, c5, c6⟩ := h3.b2.seven
  have f0 := h3.b2.frozen 0; have f1 := h3.b2.frozen 1; have f2 := h3.b2.frozen 2; have f3 := h3.b2.frozen 3; have f4 := h3.b2.frozen 4; have f5 := h3.b2.frozen 5; have f6 := h3.b2.frozen 6
  have b5 := (((h3.b2.s0 (.slice A2 bs.length cc2)).s1 (.int .i64 t2)).s2 (.int .i64 err2)).s5 (.bool f)
  have b6 := Box.set7 b5 (.slice A2 bs.length cc2) (.int .i64 t2) (.int .i64 err2) (.int .u64 0) (.int .i64 0) (.bool f) (.slice none 0 0)
  have B6 := Lib.hid b6
  have hlt := h3.b2.lt
  have hlt0 := h3.b0.lt
  have HL := Lib.hid hlt
  have hs2 := Lib.hid (H3.out.b2.lt)
  have HBEL := Lib.hid h3.bel
  clear h3 ho hb2 b5 b6 hlt hlt0
  go_wp2_with fail
  clear c0 c1 c2 c3' c4 c5 c6 f0 f1 f2 f3 f4 f5 f6
  obtain ⟨c0, c1, c2, c3', c4, c5, c6⟩ := B6.out.seven
  refine bodyPost_ret (v := toldV (.slice A2 bs.length cc2) t2 err2  0  0 f (.slice none 0 0)) (by simp [results, Try.results24, go_sem, c0, c1, c2, c3', c4, c5, c6, toldV]) rfl ?_
  have hp : w.heap.size + 1 + 1 < (((w.alloc (.cells #[.int .i64 k, .int .u64 N, .int .i64 M] 44)).alloc (.cells #[.slice A n c, .int .i64 t, .int .i64 err] 40)).alloc (.cells #[.slice none 0 0, .int .i64 0, .int .i64 0, .int .u64 0, .int .i64 0, .bool false, .slice none 0 0] 48)).heap.size := hs2.out
  refine ⟨_, rfl, ⟨_, _, rfl, OwnB.mono (OwnB.set7 (OwnB.set (OwnB.set (OwnB.set (OwnB.set HO.out hp _) hp _) hp _) hp _) hp _ _ _ _ _ _ _) (by omega), OwnB.nil _ _⟩, below_set7 (below_set (below_set (below_set (below_set HBEL.out (by omega) _) (by omega) _) (by omega) _) (by omega) _) (by omega) _ _ _ _ _ _ _⟩
set_option maxRecDepth 100000 in
set_option maxHeartbeats 4000000 in
theorem askT_bytes (k N M : Int) (A : Option Addr) (n c : Nat) (t err t2 err2 : Int) (xs : List Nat) (bs : List Nat) (w : World) (hk : (IntKind.u64.wrap k).tmod 5 = (4 : Int)) (h : RowB w w.heap.size A n c bs)
    (hc : ∀ W, RowB W W.heap.size A n c bs → Calls Try.prog 36 #[tv A n c t err, .int .i64 M] W (TakeIs W bs t2 err2 (.bytes xs))) :
    Calls Try.prog 24 #[.agg #[.int .i64 k, .int .u64 N, .int .i64 M], tv A n c t err] w (AskIs w bs t2 err2 ⟨0, 0, false, xs⟩) := by
  have h3 := ThreeA.new w #[.int .i64 k, .int .u64 N, .int .i64 M] #[.slice A n c, .int .i64 t, .int .i64 err] #[.slice none 0 0, .int .i64 0, .int .i64 0, .int .u64 0, .int .i64 0, .bool false, .slice none 0 0]
  have ha := (h.below h3.bel).mono h3.bel.size
  have H3 := Lib.hid h3; have HA := Lib.hid ha; have HC := Lib.hid hc
  clear h3 ha h hc
  unfold tv at *
  go_enter Try.func24, Try.ntmps24
  go_wp2_with fail
  refine (HC.out _ HA.out).mono ?_; rintro e w2 ⟨v, x, rfl, ⟨s, rfl, ho⟩, hx, hb2⟩
  have hox : OwnB w2 _ x xs := hx
  have HX := Lib.hid hox
  obtain ⟨A3, c3, rfl, _⟩ := hox.row
  clear hox hx
  have h3 := H3.out.call hb2
  have HO := Lib.hid ho
  have HB2 := Lib.hid hb2
  obtain ⟨A2, cc2, rfl, _⟩ := ho.row
  obtain ⟨c0, c1, c2, c3', c4, c5, c6⟩ := h3.b2.seven
  have f0 := h3.b2.frozen 0; have f1 := h3.b2.frozen 1; have f2 := h3.b2.frozen 2; have f3 := h3.b2.frozen 3; have f4 := h3.b2.frozen 4; have f5 := h3.b2.frozen 5; have f6 := h3.b2.frozen 6
  have b5 := (((h3.b2.s0 (.slice A2 bs.length cc2)).s1 (.int .i64 t2)).s2 (.int .i64 err2)).s6 (.slice A3 xs.length c3)
  have b6 := Box.set7 b5 (.slice A2 bs.length cc2) (.int .i64 t2) (.int .i64 err2) (.int .u64 0) (.int .i64 0) (.bool false) (.slice A3 xs.length c3)
  have B6 := Lib.hid b6
  have hlt := h3.b2.lt
  have hlt0 := h3.b0.lt
  have HL := Lib.hid hlt
  have hs2 := Lib.hid (H3.out.b2.lt)
  have HBEL := Lib.hid h3.bel
  clear h3 ho hb2 b5 b6 hlt hlt0
  go_wp2_with fail
  clear c0 c1 c2 c3' c4 c5 c6 f0 f1 f2 f3 f4 f5 f6
  obtain ⟨c0, c1, c2, c3', c4, c5, c6⟩ := B6.out.seven
  refine bodyPost_ret (v := toldV (.slice A2 bs.length cc2) t2 err2  0  0 false (.slice A3 xs.length c3)) (by simp [results, Try.results24, go_sem, c0, c1, c2, c3', c4, c5, c6, toldV]) rfl ?_
  have hp : w.heap.size + 1 + 1 < (((w.alloc (.cells #[.int .i64 k, .int .u64 N, .int .i64 M] 44)).alloc (.cells #[.slice A n c, .int .i64 t, .int .i64 err] 40)).alloc (.cells #[.slice none 0 0, .int .i64 0, .int .i64 0, .int .u64 0, .int .i64 0, .bool false, .slice none 0 0] 48)).heap.size := hs2.out
  refine ⟨_, rfl, ⟨_, _, rfl, OwnB.mono (OwnB.set7 (OwnB.set (OwnB.set (OwnB.set (OwnB.set HO.out hp _) hp _) hp _) hp _) hp _ _ _ _ _ _ _) (by omega), OwnB.mono (OwnB.set7 (OwnB.set (OwnB.set (OwnB.set (OwnB.set HX.out hp _) hp _) hp _) hp _) hp _ _ _ _ _ _ _) (by omega)⟩, below_set7 (below_set (below_set (below_set (below_set HBEL.out (by omega) _) (by omega) _) (by omega) _) (by omega) _) (by omega) _ _ _ _ _ _ _⟩
end Go.Proofs.Ytnppkobckabpcaa
