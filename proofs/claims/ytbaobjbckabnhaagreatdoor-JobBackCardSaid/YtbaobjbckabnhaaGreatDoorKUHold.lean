/- What a job is in memory; its limits, and whether they are kept: walked, of the program. -/
import Derived.Test.YtbaobjbckabnhaaGreatDoorKUJob
namespace Go.Proofs.YtbaobjbckabnhaaGreatDoor
open Go.RowKit

def jobC (j : JobZ) : List Value := [.int .u32 j.n, .bool j.o] ++ j.L.map menc ++ [.int .i64 j.t, .int .i64 j.ov, .int .i64 j.ca, .int .i64 j.re]
def jobV (j : JobZ) : Value := .agg (jobC j).toArray
theorem jobV_five (n : Int) (o : Bool) (a b c d e : BitVec 64) (t ov ca re : Int) : jobV ⟨n, o, [a, b, c, d, e], t, ov, ca, re⟩ = .agg #[.int .u32 n, .bool o, .int .u64 (U a), .int .u64 (U b), .int .u64 (U c), .int .u64 (U d), .int .u64 (U e), .int .i64 t, .int .i64 ov, .int .i64 ca, .int .i64 re] := rfl
/-- A job stands in block g. -/
def JobAt (w : World) (g : Nat) (j : JobZ) : Prop := j.L.length = 5 ∧ D.Box w g 33 (jobC j).toArray
section
variable {w w' : World} {g : Nat} {j : JobZ}
theorem JobAt.lt (h : JobAt w g j) : g < w.heap.size := D.Box.lt h.2
theorem JobAt.below {B : Nat} (h : JobAt w g j) (hb : Below B w w') (hg : g < B) : JobAt w' g j := ⟨h.1, D.Box.below h.2 hb hg⟩
theorem JobAt.on (h : JobAt w g j) (hb : Below w.heap.size w w') : JobAt w' g j := h.below hb h.lt
theorem JobAt.alloc (h : JobAt w g j) (o : Obj) : JobAt (w.alloc o) g j := ⟨h.1, D.Box.alloc h.2 o⟩
end
theorem JobAt.new (w : World) (n : Int) (o : Bool) (a b c d e : BitVec 64) (t ov ca re : Int) : JobAt (w.alloc (.cells #[.int .u32 n, .bool o, .int .u64 (U a), .int .u64 (U b), .int .u64 (U c), .int .u64 (U d), .int .u64 (U e), .int .i64 t, .int .i64 ov, .int .i64 ca, .int .i64 re] 33)) w.heap.size ⟨n, o, [a, b, c, d, e], t, ov, ca, re⟩ := ⟨rfl, D.Box.new _ _ _⟩
theorem JobAt.cells {w : World} {g : Nat} {n : Int} {o : Bool} {a b c d e : BitVec 64} {t ov ca re : Int} (h : JobAt w g ⟨n, o, [a, b, c, d, e], t, ov, ca, re⟩) :
    w.cell? ⟨g, 0, none⟩ = some (.int .u32 n) ∧ w.cell? ⟨g, 1, none⟩ = some (.bool o) ∧ w.cell? ⟨g, 2, none⟩ = some (.int .u64 (U a)) ∧ w.cell? ⟨g, 3, none⟩ = some (.int .u64 (U b)) ∧ w.cell? ⟨g, 4, none⟩ = some (.int .u64 (U c)) ∧ w.cell? ⟨g, 5, none⟩ = some (.int .u64 (U d)) ∧ w.cell? ⟨g, 6, none⟩ = some (.int .u64 (U e)) ∧ w.cell? ⟨g, 7, none⟩ = some (.int .i64 t) ∧ w.cell? ⟨g, 8, none⟩ = some (.int .i64 ov) ∧ w.cell? ⟨g, 9, none⟩ = some (.int .i64 ca) ∧ w.cell? ⟨g, 10, none⟩ = some (.int .i64 re) :=
  ⟨D.Box.cell h.2 0, D.Box.cell h.2 1, D.Box.cell h.2 2, D.Box.cell h.2 3, D.Box.cell h.2 4, D.Box.cell h.2 5, D.Box.cell h.2 6, D.Box.cell h.2 7, D.Box.cell h.2 8, D.Box.cell h.2 9, D.Box.cell h.2 10⟩
/-- A job that comes in is laid anew. -/
theorem job_new (w : World) (n : Int) (o : Bool) (a b c d e : BitVec 64) (t ov ca re : Int) : ∃ W : World, W = w.alloc (.cells #[.int .u32 n, .bool o, .int .u64 (U a), .int .u64 (U b), .int .u64 (U c), .int .u64 (U d), .int .u64 (U e), .int .i64 t, .int .i64 ov, .int .i64 ca, .int .i64 re] 33) ∧ Below w.heap.size w W ∧ JobAt W w.heap.size ⟨n, o, [a, b, c, d, e], t, ov, ca, re⟩ ∧ W.heap.size = w.heap.size + 1 :=
  ⟨_, rfl, (Below.refl _ w).alloc (Nat.le_refl _) _, JobAt.new w n o a b c d e t ov ca re, by simp⟩
/-! limits -/
def LimsAt (w : World) (A : Option Addr) (l : List (Int × Int × Int)) : Prop := ∀ k x, l[k]? = some x → ∃ g, A = some ⟨g, 0, none⟩ ∧ g < w.heap.size ∧ w.cell? ⟨g, k * 3, none⟩ = some (.int .i64 x.1) ∧ w.cell? ⟨g, k * 3 + 1, none⟩ = some (.int .i64 x.2.1) ∧ w.cell? ⟨g, k * 3 + 2, none⟩ = some (.int .i64 x.2.2)
theorem LimsAt.on {w w' : World} {A : Option Addr} {l : List (Int × Int × Int)} (h : LimsAt w A l) (hb : Below w.heap.size w w') : LimsAt w' A l := fun k x hx => by
  obtain ⟨g, rfl, hg, c0, c1, c2⟩ := h k x hx
  exact ⟨g, rfl, Nat.lt_of_lt_of_le hg hb.size, (hb.cell (p := ⟨g, k * 3, none⟩) hg).trans c0, (hb.cell (p := ⟨g, k * 3 + 1, none⟩) hg).trans c1, (hb.cell (p := ⟨g, k * 3 + 2, none⟩) hg).trans c2⟩
set_option maxRecDepth 100000 in
set_option maxHeartbeats 1000000 in
theorem hold_any (A : Option Addr) (c : Nat) (l : List (Int × Int × Int)) (m : Nat) (w : World) (hm : l.length = m) (hn : m ≤ 64) (h : LimsAt w A l) :
    Calls Tryz.prog 26 #[.slice A m c] w fun x w' => x = .returned (.bool (holdB l)) ∧ Below w.heap.size w w' := by
  have HH := Lib.hid h; have HM := Lib.hid hm
  clear h hm
  go_enter Tryz.func26, Tryz.ntmps26
  go_wp2_with fail
  go_loopw [4, 7] (fun _ i wr => ∃ k : Nat, k ≤ m ∧ i = .int .i64 (k : Int) ∧ Below w.heap.size w wr ∧ Hid (∀ q x, q < k → l[q]? = some x → x.2.1 ≤ x.1 ∧ x.1 ≤ x.2.2)) (fun _ i _ => m - (intOf i).toNat)
  case atStart => exact ⟨0, by omega, rfl, Below.refl _ _, Lib.hid (fun q x hq => absurd hq (by omega))⟩
  case round =>
    obtain ⟨k, hk, rfl, hb, HA⟩ := hrel
    have HB := Lib.hid hb
    by_cases hlt : k < m
    · obtain ⟨x, hx⟩ : ∃ x, l[k]? = some x := ⟨_, List.getElem?_eq_getElem (by have := HM.out; omega)⟩
      obtain ⟨g, rfl, hg, c0, c1, c2⟩ := (HH.out.on hb) k x hx
      obtain ⟨v, lo, hi⟩ := x
      have HX := Lib.hid hx
      simp only at c0 c1 c2
      clear hb hx
      have HNO : Hid (¬ (lo ≤ v ∧ v ≤ hi) → holdB l = false) := Lib.hid (fun hn => by
        cases hz : holdB l with
        | false => rfl
        | true =>
          have := List.all_eq_true.1 hz _ (List.mem_of_getElem? HX.out)
          exact absurd (of_decide_eq_true this) hn)
      by_cases h1 : v < lo
      · have hd : decide (v < lo) = true := decide_eq_true h1
        have HZ := Lib.hid (HNO.out (by omega))
        go_wp2_with fail
        go_ret
        exact ⟨by rw [HZ.out]; try rfl, HB.out.alloc HB.out.size _⟩
      · have hd : decide (v < lo) = false := decide_eq_false h1
        by_cases h2 : hi < v
        · have hd2 : decide (hi < v) = true := decide_eq_true h2
          have HZ := Lib.hid (HNO.out (by omega))
          go_wp2_with fail
          go_ret
          exact ⟨by rw [HZ.out]; try rfl, HB.out.alloc HB.out.size _⟩
        · have hd2 : decide (hi < v) = false := decide_eq_false h2
          go_wp2_with fail
          go_roundw
          case rel => exact ⟨k + 1, by omega, by go_num, HB.out.alloc HB.out.size _, Lib.hid (fun q x hq hx => by
            by_cases e : q = k
            · subst e
              rw [HX.out] at hx; cases hx
              exact ⟨show lo ≤ v by omega, show v ≤ hi by omega⟩
            · exact HA.out q x (by omega) hx)⟩
          case measure => simp [intOf]; omega
    · have HZ : Hid (holdB l = true) := Lib.hid (List.all_eq_true.2 fun x hx => by
        obtain ⟨q, hq⟩ := List.mem_iff_getElem?.1 hx
        have hlt := (List.getElem?_eq_some_iff.1 hq).1
        have := HM.out
        exact decide_eq_true (HA.out q x (by omega) hq))
      clear hb
      go_wp2_with fail
      go_ret
      exact ⟨by rw [HZ.out]; try rfl, HB.out⟩
theorem lims_new {W : World} {ty : TypeId} {g : Nat} (n : Int) (o : Bool) (t ov ca re : Int) (hi : Int) (hh : hi = if o then maxT else 0) (hg : g = W.heap.size) :
    LimsAt (W.alloc (.cells #[.int .i64 t, .int .i64 0, .int .i64 hi, .int .i64 n, .int .i64 1, .int .i64 4294967295, .int .i64 ov, .int .i64 0, .int .i64 1, .int .i64 ca, .int .i64 0, .int .i64 2, .int .i64 re, .int .i64 0, .int .i64 3] ty)) (some ⟨g, 0, none⟩) (limsZ n o t ov ca re) := by
  subst hh; subst hg
  have hb := D.Box.new W ty #[.int .i64 t, .int .i64 0, .int .i64 (if o then maxT else 0), .int .i64 n, .int .i64 1, .int .i64 4294967295, .int .i64 ov, .int .i64 0, .int .i64 1, .int .i64 ca, .int .i64 0, .int .i64 2, .int .i64 re, .int .i64 0, .int .i64 3]
  intro k x hx
  refine ⟨_, rfl, D.Box.lt hb, ?_⟩
  have hk := (List.getElem?_eq_some_iff.1 hx).1
  have hk5 : k < 5 := hk
  rcases five hk5 with rfl | rfl | rfl | rfl | rfl <;> cases hx
  · exact ⟨D.Box.cell hb 0, D.Box.cell hb 1, D.Box.cell hb 2⟩
  · exact ⟨D.Box.cell hb 3, D.Box.cell hb 4, D.Box.cell hb 5⟩
  · exact ⟨D.Box.cell hb 6, D.Box.cell hb 7, D.Box.cell hb 8⟩
  · exact ⟨D.Box.cell hb 9, D.Box.cell hb 10, D.Box.cell hb 11⟩
  · exact ⟨D.Box.cell hb 12, D.Box.cell hb 13, D.Box.cell hb 14⟩
set_option maxRecDepth 100000 in
set_option maxHeartbeats 1000000 in
theorem limits_any (j : JobZ) (w : World) (hj : j.Fit) :
    Calls Tryz.prog 27 #[jobV j] w fun x w' => ∃ (A : Option Addr) (c : Nat), x = .returned (.slice A 5 c) ∧ LimsAt w' A j.lims ∧ Below w.heap.size w w' := by
  obtain ⟨n, o, L, t, ov, ca, re⟩ := j
  obtain ⟨n0, n1, h5⟩ := hj
  simp only at n0 n1 h5
  obtain ⟨a, b, c, d, e, rfl⟩ := list_five h5
  rw [jobV_five]
  have hwr : IntKind.i64.wrap n = n := by rw [IntKind.wrap_i64]; omega
  clear h5
  cases o with
  | true =>
    go_enter Tryz.func27, Tryz.ntmps27
    go_wp2_with fail
    go_ret
    refine ⟨_, _, rfl, lims_new n true t ov ca re _ rfl (by simp), ?_⟩
    exact ((((Below.refl _ w).alloc (Nat.le_refl _) _).alloc (by simp) _)).alloc (by simp; omega) _
  | false =>
    go_enter Tryz.func27, Tryz.ntmps27
    go_wp2_with fail
    go_ret
    refine ⟨_, _, rfl, lims_new n false t ov ca re _ rfl (by simp), ?_⟩
    exact ((((Below.refl _ w).alloc (Nat.le_refl _) _).alloc (by simp) _)).alloc (by simp; omega) _
end Go.Proofs.YtbaobjbckabnhaaGreatDoor
