/- Whether a row, a table may be: walked. -/
import Derived.Test.YthghcffibljclaaDoorRVMay
import Derived.Test.YthghcffibljclaaDoorRVOwn
import Derived.WalkMore
namespace Go.Proofs.YthghcffibljclaaDoor
open Go.RowKit

/-- No fault if it is so, else that of a table. -/
def ErrIs (p : Prop) (x : Ending) : Prop := (p ∧ x = .returned (.int .i64 0)) ∨ (¬ p ∧ x = .returned (.int .i64 210))
theorem may_right (ev : List (BitVec 64) → Bool) (hev : EvIs ev) (r : RowZ) (v : Value) (now : Int) (w : World) (hL : LaidC w) (hf : r.Fit) (hq : QR w v r.q) :
    Calls Tryd.prog 19 #[rowNV r v now] w fun e w' => BoolIs (r.Right ev) e ∧ Below w.heap.size w w' := by
  refine (may_any ev hev r v now w hL hf hq).mono ?_
  rintro x w' ⟨h, hb⟩
  rw [asked_iff hf.2] at h
  exact ⟨h, hb⟩
set_option maxRecDepth 100000 in
set_option maxHeartbeats 1000000 in
theorem checkrow_any (ev : List (BitVec 64) → Bool) (hev : EvIs ev) (r : RowZ) (v : Value) (w : World) (hL : LaidC w) (hf : r.Fit) (hq : QR w v r.q) :
    Calls Tryd.prog 8 #[rowV r v] w fun e w' => ErrIs (r.Right ev) e ∧ Below w.heap.size w w' := by
  have hB := new_below w
  have HM := Lib.hid (fun W h1 h2 => may_right ev hev r v 0 W h1 hf h2)
  generalize r.Right ev = P at *
  obtain ⟨n, o, a, b, c, d, e, t, ov, ca, re, pa, nx, num, due, tr, qv, q, rfl, rfl⟩ := row_letters hf v
  simp only at hq
  rw [rowNV_all] at HM
  rw [rowV_all]
  have HM0 := Lib.hid (HM.out _ (hL.on (hB (.cells #[.int .u32 n, .bool o, .int .u64 (U a), .int .u64 (U b), .int .u64 (U c), .int .u64 (U d), .int .u64 (U e), .int .i64 t, .int .i64 ov, .int .i64 ca, .int .i64 re, .bool pa, .int .i64 nx, .int .u64 num, .int .i64 due, .int .i64 tr, qv] 33))) (hq.on (hB (.cells #[.int .u32 n, .bool o, .int .u64 (U a), .int .u64 (U b), .int .u64 (U c), .int .u64 (U d), .int .u64 (U e), .int .i64 t, .int .i64 ov, .int .i64 ca, .int .i64 re, .bool pa, .int .i64 nx, .int .u64 num, .int .i64 due, .int .i64 tr, qv] 33))))
  have HB0 := Lib.hid (hB (.cells #[.int .u32 n, .bool o, .int .u64 (U a), .int .u64 (U b), .int .u64 (U c), .int .u64 (U d), .int .u64 (U e), .int .i64 t, .int .i64 ov, .int .i64 ca, .int .i64 re, .bool pa, .int .i64 nx, .int .u64 num, .int .i64 due, .int .i64 tr, qv] 33))
  clear HM hL hq hB hf hev
  go_enter Tryd.func8, Tryd.ntmps8
  go_wp2_with fail
  refine HM0.out.mono ?_
  rintro x w2 ⟨⟨B, rfl, hB⟩, hb⟩
  have HB2 := Lib.hid (HB0.out.trans (hb.mono HB0.out.size)); have HBB := Lib.hid hB
  clear hb hB HB0 HM0
  cases B with
  | false =>
    go_wp2_with fail
    go_ret
    exact ⟨.inr ⟨fun h => (by have := HBB.out.2 h; cases this), rfl⟩, HB2.out⟩
  | true =>
    go_wp2_with fail
    go_ret
    exact ⟨.inl ⟨HBB.out.1 (by first | rfl | trivial), rfl⟩, HB2.out⟩
end Go.Proofs.YthghcffibljclaaDoor
