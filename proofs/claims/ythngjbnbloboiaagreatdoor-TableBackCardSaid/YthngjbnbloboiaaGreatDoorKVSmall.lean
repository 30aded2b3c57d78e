/- Small functions over rows: the closures that seek one, what runs, what is done to one: walked. -/
import Derived.Test.YthngjbnbloboiaaGreatDoorKVMem
import Derived.Test.YthngjbnbloboiaaGreatDoorKVRight
namespace Go.Proofs.YthngjbnbloboiaaGreatDoor
open Go.RowKit

/-- A row, and the time at which something is done to it. -/
def rowNV (r : RowZ) (v : Value) (now : Int) : Value := .agg (rowC r v ++ [Value.int .i64 now]).toArray
theorem rowNV_all (n : Int) (o : Bool) (a b c d e : BitVec 64) (t ov ca re : Int) (pa : Bool) (nx num due tr : Int) (qv : Value) (q : List Int) (now : Int) : rowNV ⟨⟨n, o, [a, b, c, d, e], t, ov, ca, re⟩, pa, nx, num, due, tr, q⟩ qv now = .agg #[.int .u32 n, .bool o, .int .u64 (U a), .int .u64 (U b), .int .u64 (U c), .int .u64 (U d), .int .u64 (U e), .int .i64 t, .int .i64 ov, .int .i64 ca, .int .i64 re, .bool pa, .int .i64 nx, .int .u64 num, .int .i64 due, .int .i64 tr, qv, .int .i64 now] := rfl
theorem row_letters {r : RowZ} (h : r.Fit) (v : Value) : ∃ (n : Int) (o : Bool) (a b c d e : BitVec 64) (t ov ca re : Int) (pa : Bool) (nx num due tr : Int) (qv : Value) (q : List Int), r = ⟨⟨n, o, [a, b, c, d, e], t, ov, ca, re⟩, pa, nx, num, due, tr, q⟩ ∧ qv = v := by
  obtain ⟨n, o, a, b, c, d, e, t, ov, ca, re, pa, nx, num, due, tr, qv, q, h⟩ := rowM_twelve (m := (r, v)) h
  injection h with h1 h2
  exact ⟨n, o, a, b, c, d, e, t, ov, ca, re, pa, nx, num, due, tr, qv, q, h1, h2.symm⟩
theorem new_below (w : World) (o : Obj) : Below w.heap.size w (w.alloc o) := (Below.refl _ _).alloc (Nat.le_refl _) _
set_option maxRecDepth 100000 in
set_option maxHeartbeats 1000000 in
theorem named1_any (r : RowZ) (v : Value) (gx : Nat) (name : Int) (w : World) (hf : r.Fit) (hl : gx < w.heap.size) (hc : w.cell? ⟨gx, 0, none⟩ = some (.int .u32 name)) :
    Calls Tryz.prog 56 #[rowV r v, .pointer (some ⟨gx, 0, none⟩)] w fun e w' => e = .returned (.bool (decide (r.j.n = name))) ∧ Below w.heap.size w w' := by
  obtain ⟨n, o, a, b, c, d, e, t, ov, ca, re, pa, nx, num, due, tr, qv, q, rfl, rfl⟩ := row_letters hf v
  rw [rowV_all]
  have hc2 : (w.alloc (.cells #[.int .u32 n, .bool o, .int .u64 (U a), .int .u64 (U b), .int .u64 (U c), .int .u64 (U d), .int .u64 (U e), .int .i64 t, .int .i64 ov, .int .i64 ca, .int .i64 re, .bool pa, .int .i64 nx, .int .u64 num, .int .i64 due, .int .i64 tr, qv] 39)).cell? ⟨gx, 0, none⟩ = some (.int .u32 name) := ((new_below w _).cell (p := ⟨gx, 0, none⟩) hl).trans hc
  have hB := new_below w
  have he : (n == name) = decide (n = name) := by rw [Bool.eq_iff_iff]; simp
  simp only
  rw [← he]
  clear hc he hf
  go_enter Tryz.func56, Tryz.ntmps56
  go_wp2_with fail
  go_ret
  exact ⟨rfl, hB _⟩
set_option maxRecDepth 100000 in
set_option maxHeartbeats 1000000 in
theorem add1_any (r : RowZ) (v : Value) (gx : Nat) (name : Int) (w : World) (hf : r.Fit) (hl : gx < w.heap.size) (hc : w.cell? ⟨gx, 0, none⟩ = some (.int .u32 name)) :
    Calls Tryz.prog 25 #[rowV r v, .pointer (some ⟨gx, 0, none⟩)] w fun e w' => e = .returned (.bool (decide (name < r.j.n))) ∧ Below w.heap.size w w' := by
  obtain ⟨n, o, a, b, c, d, e, t, ov, ca, re, pa, nx, num, due, tr, qv, q, rfl, rfl⟩ := row_letters hf v
  rw [rowV_all]
  have hc2 : (w.alloc (.cells #[.int .u32 n, .bool o, .int .u64 (U a), .int .u64 (U b), .int .u64 (U c), .int .u64 (U d), .int .u64 (U e), .int .i64 t, .int .i64 ov, .int .i64 ca, .int .i64 re, .bool pa, .int .i64 nx, .int .u64 num, .int .i64 due, .int .i64 tr, qv] 39)).cell? ⟨gx, 0, none⟩ = some (.int .u32 name) := ((new_below w _).cell (p := ⟨gx, 0, none⟩) hl).trans hc
  have hB := new_below w
  clear hc hf
  go_enter Tryz.func25, Tryz.ntmps25
  go_wp2_with fail
  go_ret
  exact ⟨rfl, hB _⟩
set_option maxRecDepth 100000 in
set_option maxHeartbeats 1000000 in
theorem running1_any (r : RowZ) (v : Value) (gx : Nat) (m : Int) (w : World) (hf : r.Fit) (hl : gx < w.heap.size) (hc : w.cell? ⟨gx, 0, none⟩ = some (.int .u64 m)) :
    Calls Tryz.prog 66 #[rowV r v, .pointer (some ⟨gx, 0, none⟩)] w fun e w' => e = .returned (.bool (decide (r.num = m ∧ 0 < m))) ∧ Below w.heap.size w w' := by
  obtain ⟨n, o, a, b, c, d, e, t, ov, ca, re, pa, nx, num, due, tr, qv, q, rfl, rfl⟩ := row_letters hf v
  rw [rowV_all]
  have hc2 : (w.alloc (.cells #[.int .u32 n, .bool o, .int .u64 (U a), .int .u64 (U b), .int .u64 (U c), .int .u64 (U d), .int .u64 (U e), .int .i64 t, .int .i64 ov, .int .i64 ca, .int .i64 re, .bool pa, .int .i64 nx, .int .u64 num, .int .i64 due, .int .i64 tr, qv] 39)).cell? ⟨gx, 0, none⟩ = some (.int .u64 m) := ((new_below w _).cell (p := ⟨gx, 0, none⟩) hl).trans hc
  have hB := new_below w
  clear hc hf
  by_cases h0 : 0 < m
  · have hd : decide (0 < m) = true := decide_eq_true h0
    have he : decide (num = m ∧ 0 < m) = (num == m) := by rw [Bool.eq_iff_iff]; simp [h0]
    simp only
    rw [he]
    go_enter Tryz.func66, Tryz.ntmps66
    go_wp2_with fail
    go_ret
    exact ⟨rfl, hB _⟩
  · have hd : decide (0 < m) = false := decide_eq_false h0
    have he : decide (num = m ∧ 0 < m) = false := by simp [h0]
    simp only
    rw [he]
    go_enter Tryz.func66, Tryz.ntmps66
    go_wp2_with fail
    go_ret
    exact ⟨rfl, hB _⟩
theorem named_any (name : Int) (w : World) : Calls Tryz.prog 24 #[.int .u32 name] w fun e w' => e = .returned (.func (.func 56) #[] #[.pointer (some ⟨w.heap.size, 0, none⟩)]) ∧ w.heap.size < w'.heap.size ∧ w'.cell? ⟨w.heap.size, 0, none⟩ = some (.int .u32 name) ∧ Below w.heap.size w w' := by
  have hB := new_below w
  go_enter Tryz.func24, Tryz.ntmps24
  go_wp2_with fail
  go_ret
  exact ⟨rfl, by simp, by simp, hB _⟩
theorem running_any (num : Int) (w : World) : Calls Tryz.prog 45 #[.int .u64 num] w fun e w' => e = .returned (.func (.func 66) #[] #[.pointer (some ⟨w.heap.size, 0, none⟩)]) ∧ w.heap.size < w'.heap.size ∧ w'.cell? ⟨w.heap.size, 0, none⟩ = some (.int .u64 num) ∧ Below w.heap.size w w' := by
  have hB := new_below w
  go_enter Tryz.func45, Tryz.ntmps45
  go_wp2_with fail
  go_ret
  exact ⟨rfl, by simp, by simp, hB _⟩
set_option maxRecDepth 100000 in
set_option maxHeartbeats 1000000 in
theorem rowruns_any (r : RowZ) (v : Value) (now : Int) (w : World) (hf : r.Fit) :
    Calls Tryz.prog 90 #[rowNV r v now] w fun e w' => e = .returned (.bool (decide r.runs)) ∧ Below w.heap.size w w' := by
  have hB := new_below w
  have he := Lib.hid (show decide r.runs = !(decide (r.num = 0) && (decide (r.due = 0) && decide (r.tr = 0))) by unfold RowZ.runs; rw [Bool.eq_iff_iff]; simp)
  obtain ⟨n, o, a, b, c, d, e, t, ov, ca, re, pa, nx, num, due, tr, qv, q, rfl, rfl⟩ := row_letters hf v
  rw [rowNV_all]
  rw [he.out]
  simp only
  clear he
  go_enter Tryz.func90, Tryz.ntmps90
  go_wp2_with fail
  all_goals (go_ret; exact ⟨by simp_all, hB _⟩)
set_option maxRecDepth 100000 in
set_option maxHeartbeats 1000000 in
theorem removed_any (r : RowZ) (v : Value) (now : Int) (w : World) (hf : r.Fit) :
    Calls Tryz.prog 31 #[rowNV r v now] w fun e w' => e = .returned (.slice none 0 0) ∧ Below w.heap.size w w' := by
  have hB := new_below w
  obtain ⟨n, o, a, b, c, d, e, t, ov, ca, re, pa, nx, num, due, tr, qv, q, rfl, rfl⟩ := row_letters hf v
  rw [rowNV_all]
  go_enter Tryz.func31, Tryz.ntmps31
  go_wp2_with fail
  go_ret
  exact ⟨rfl, hB _⟩
set_option maxRecDepth 100000 in
set_option maxHeartbeats 1000000 in
theorem itself_any (r : RowZ) (v : Value) (now : Int) (w : World) (hf : r.Fit) (hq : QR w v r.q) :
    Calls Tryz.prog 60 #[rowNV r v now] w fun e w' => ∃ g, e = .returned (.slice (some ⟨g, 0, none⟩) 1 1) ∧ TabR w' (some ⟨g, 0, none⟩) 1 1 [(r, v)] ∧ Below w.heap.size w w' := by
  have hF := Lib.hid hf; have hQ := Lib.hid hq
  obtain ⟨n, o, a, b, c, d, e, t, ov, ca, re, pa, nx, num, due, tr, qv, q, rfl, rfl⟩ := row_letters hf v
  rw [rowNV_all]
  clear hq
  have hB2 := fun o o' => (new_below w o).trans ((new_below (w.alloc o) o').mono (by simp))
  go_enter Tryz.func60, Tryz.ntmps60
  go_wp2_with fail
  go_ret
  refine ⟨_, rfl, ?_, hB2 _ _⟩
  have hx := D.Box.new (w.alloc (.cells #[.int .u32 n, .bool o, .int .u64 (U a), .int .u64 (U b), .int .u64 (U c), .int .u64 (U d), .int .u64 (U e), .int .i64 t, .int .i64 ov, .int .i64 ca, .int .i64 re, .bool pa, .int .i64 nx, .int .u64 num, .int .i64 due, .int .i64 tr, qv, .int .i64 now] 75)) 39 #[.int .u32 n, .bool o, .int .u64 (U a), .int .u64 (U b), .int .u64 (U c), .int .u64 (U d), .int .u64 (U e), .int .i64 t, .int .i64 ov, .int .i64 ca, .int .i64 re, .bool pa, .int .i64 nx, .int .u64 num, .int .i64 due, .int .i64 tr, qv]
  rw [World.size_alloc] at hx
  refine ⟨rfl, by omega, by decide, fun h => by (cases h), fun j u hj => ⟨_, 0, rfl, D.Box.lt hx, ?_⟩, fun m hm => ?_⟩
  · rw [Nat.zero_add, D.Box.cell hx j]
    rw [List.flatMap_cons, List.flatMap_nil, List.append_nil] at hj
    rw [show (#[.int .u32 n, .bool o, .int .u64 (U a), .int .u64 (U b), .int .u64 (U c), .int .u64 (U d), .int .u64 (U e), .int .i64 t, .int .i64 ov, .int .i64 ca, .int .i64 re, .bool pa, .int .i64 nx, .int .u64 num, .int .i64 due, .int .i64 tr, qv] : Array Value) = (rowC ⟨⟨n, o, [a, b, c, d, e], t, ov, ca, re⟩, pa, nx, num, due, tr, q⟩ qv).toArray from rfl, List.getElem?_toArray]
    exact hj
  · rw [List.mem_singleton] at hm
    subst hm
    exact ⟨hF.out, hQ.out.on (hB2 _ _)⟩
end Go.Proofs.YthngjbnbloboiaaGreatDoor
