/- Small functions over rows: the closures that seek one, what runs, what is done to one: walked. -/
import Derived.Test.YthghcffibljclaaDoorRVMem
import Derived.Test.YthghcffibljclaaDoorRVRight
namespace Go.Proofs.YthghcffibljclaaDoor
open Go.RowKit

/-- A row, and the time at which something is done to it. -/
def rowNV (r : RowZ) (v : Value) (now : Int) : Value := .agg (rowC r v ++ [Value.int .i64 now]).toArray
theorem rowNV_all (n : Int) (o : Bool) (a b c d e : BitVec 64) (t ov ca re : Int) (pa : Bool) (nx num due tr : Int) (qv : Value) (q : List Int) (now : Int) : rowNV ⟨⟨n, o, [a, b, c, d, e], t, ov, ca, re⟩, pa, nx, num, due, tr, q⟩ qv now = .agg #[.int .u32 n, .bool o, .int .u64 (U a), .int .u64 (U b), .int .u64 (U c), .int .u64 (U d), .int .u64 (U e), .int .i64 t, .int .i64 ov, .int .i64 ca, .int .i64 re, .bool pa, .int .i64 nx, .int .u64 num, .int .i64 due, .int .i64 tr, qv, .int .i64 now] := rfl
theorem row_letters {r : RowZ} (h : r.Fit) (v : Value) : ∃ (n : Int) (o : Bool) (a b c d e : BitVec 64) (t ov ca re : Int) (pa : Bool) (nx num due tr : Int) (qv : Value) (q : List Int), r = ⟨⟨n, o, [a, b, c, d, e], t, ov, ca, re⟩, pa, nx, num, due, tr, q⟩ ∧ qv = v := by
  obtain ⟨n, o, a, b, c, d, e, t, ov, ca, re, pa, nx, num, due, tr, qv, q, h⟩ := rowM_twelve (m := (r, v)) h
  injection h with h1 h2
  exact ⟨n, o, a, b, c, d, e, t, ov, ca, re, pa, nx, num, due, tr, qv, q, h1, h2.symm⟩
theorem new_below (w : World) (o : Obj) : Below w.heap.size w (w.alloc o) := (Below.refl _ _).alloc (Nat.le_refl _) _
set_option maxRecDepth 100000 in
set_option maxHeartbeats 1000000 in
theorem rowruns_any (r : RowZ) (v : Value) (now : Int) (w : World) (hf : r.Fit) :
    Calls Tryd.prog 33 #[rowNV r v now] w fun e w' => e = .returned (.bool (decide r.runs)) ∧ Below w.heap.size w w' := by
  have hB := new_below w
  have he := Lib.hid (show decide r.runs = !(decide (r.num = 0) && (decide (r.due = 0) && decide (r.tr = 0))) by unfold RowZ.runs; rw [Bool.eq_iff_iff]; simp)
  obtain ⟨n, o, a, b, c, d, e, t, ov, ca, re, pa, nx, num, due, tr, qv, q, rfl, rfl⟩ := row_letters hf v
  rw [rowNV_all]
  rw [he.out]
  simp only
  clear he
  go_enter Tryd.func33, Tryd.ntmps33
  go_wp2_with fail
  all_goals (go_ret; exact ⟨by simp_all, hB _⟩)
end Go.Proofs.YthghcffibljclaaDoor
