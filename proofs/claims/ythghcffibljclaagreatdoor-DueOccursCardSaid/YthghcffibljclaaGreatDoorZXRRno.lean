/- Where a row may not be, by the document: walked. -/
import Derived.Test.YthghcffibljclaaGreatDoorZ8
import Derived.Test.YthghcffibljclaaGreatDoorZXStep
import Derived.Test.YthghcffibljclaaGreatDoorZXLoad
namespace Go.Proofs.YthghcffibljclaaGreatDoor
open Go.RowKit

set_option maxRecDepth 100000 in
set_option maxHeartbeats 4000000 in
theorem rr_no1 (ev : List (BitVec 64) → Bool) (hev : EvIs ev) (r : RowZ) (v : Value) (w : World) (hf : r.Fit) (hq : QR w v r.q) (he : r.j.err ev ≠ 0) :
    Calls Tryz.prog 7 #[rowV r v] w fun e w' => e = .returned (.bool false) ∧ Below w.heap.size w w' := by
  have hx0 := D.Box.new w 33 (rowC r v).toArray
  have hb0 := new_below w (.cells (rowC r v).toArray 33)
  obtain ⟨W0, hW0⟩ : ∃ W : World, W = w.alloc (.cells (rowC r v).toArray 33) := ⟨_, rfl⟩
  rw [← hW0] at hx0 hb0
  have HX0 := Lib.hid hx0; have HB0 := Lib.hid hb0; have HF := Lib.hid hf
  have HCK := Lib.hid (rcheck_any ev hev r.j W0 hf.1)
  have HLJ := Lib.hid (loadS (row_job hf hx0))
  obtain ⟨A1, k1, rfl, u1, u2, u3, u4⟩ := hq
  have HCE := Lib.hid (fun (W : World) (hb : Below W0.heap.size W0 W) => cellsF_of hf (row_range (D.Box.belowAll hx0 hb)))
  have HGO := Lib.hid (fun (W : World) (hb : Below W0.heap.size W0 W) => row_going hf (row_range (D.Box.belowAll hx0 hb)))
  have hrv : Hid (rowV r (.slice A1 r.q.length k1) = .agg (rowC r (.slice A1 r.q.length k1)).toArray) := Lib.hid rfl
  rw [hrv.out]
  clear hrv
  generalize rowC r (.slice A1 r.q.length k1) = CS at *
  clear hx0 hb0 hf u1 u2 u3 u4 hev
  go_enter Tryz.func7, Tryz.ntmps7
  go_upto_region 1 with fail
  rw [← hW0]
  clear hW0 HX0
  go_wp2_with (refine list_loadS rfl _ rfl rfl HLJ.out ?_)
  refine HCK.out.mono ?_
  rintro e w1 ⟨rfl, hb⟩
  have HBF := Lib.hid (HB0.out.trans (hb.mono HB0.out.size))
  have hcf := HCE.out w1 hb
  have HG := Lib.hid (loadS (HGO.out w1 hb))
  clear hcf hb HCK HLJ HCE HGO HB0 HF
  have q0 : (r.j.err ev != 0) = true := by simpa using he
  generalize r.j.err ev = z at *
  clear he
  go_wp2_with fail
  go_ret
  exact ⟨rfl, HBF.out⟩

set_option maxRecDepth 100000 in
set_option maxHeartbeats 4000000 in
theorem rr_no2 (ev : List (BitVec 64) → Bool) (hev : EvIs ev) (r : RowZ) (v : Value) (w : World) (hf : r.Fit) (hq : QR w v r.q) (he : r.j.err ev = 0) (p1 : r.pa = true) (p2 : r.nx ≠ -1) :
    Calls Tryz.prog 7 #[rowV r v] w fun e w' => e = .returned (.bool false) ∧ Below w.heap.size w w' := by
  have hx0 := D.Box.new w 33 (rowC r v).toArray
  have hb0 := new_below w (.cells (rowC r v).toArray 33)
  obtain ⟨W0, hW0⟩ : ∃ W : World, W = w.alloc (.cells (rowC r v).toArray 33) := ⟨_, rfl⟩
  rw [← hW0] at hx0 hb0
  have HX0 := Lib.hid hx0; have HB0 := Lib.hid hb0; have HF := Lib.hid hf
  have HCK := Lib.hid (rcheck_any ev hev r.j W0 hf.1)
  have HLJ := Lib.hid (loadS (row_job hf hx0))
  obtain ⟨A1, k1, rfl, u1, u2, u3, u4⟩ := hq
  have HCE := Lib.hid (fun (W : World) (hb : Below W0.heap.size W0 W) => cellsF_of hf (row_range (D.Box.belowAll hx0 hb)))
  have HGO := Lib.hid (fun (W : World) (hb : Below W0.heap.size W0 W) => row_going hf (row_range (D.Box.belowAll hx0 hb)))
  have hrv : Hid (rowV r (.slice A1 r.q.length k1) = .agg (rowC r (.slice A1 r.q.length k1)).toArray) := Lib.hid rfl
  rw [hrv.out]
  clear hrv
  generalize rowC r (.slice A1 r.q.length k1) = CS at *
  clear hx0 hb0 hf u1 u2 u3 u4 hev
  go_enter Tryz.func7, Tryz.ntmps7
  go_upto_region 1 with fail
  rw [← hW0]
  clear hW0 HX0
  go_wp2_with (refine list_loadS rfl _ rfl rfl HLJ.out ?_)
  refine HCK.out.mono ?_
  rintro e w1 ⟨rfl, hb⟩
  have HBF := Lib.hid (HB0.out.trans (hb.mono HB0.out.size))
  have hcf := HCE.out w1 hb
  have HG := Lib.hid (loadS (HGO.out w1 hb))
  have c11 := hcf.pa
  have c12 := hcf.nx
  rw [Nat.zero_add] at c11 c12
  clear hcf hb HCK HLJ HCE HGO HB0 HF
  rw [he]
  clear he
  rw [p1] at c11
  have q1 : (r.nx != -1) = true := by simpa using p2
  clear p1 p2
  go_wp2_with fail
  go_ret
  exact ⟨rfl, HBF.out⟩
set_option maxRecDepth 100000 in
set_option maxHeartbeats 4000000 in
theorem rr_no3A (ev : List (BitVec 64) → Bool) (hev : EvIs ev) (r : RowZ) (v : Value) (w : World) (hf : r.Fit) (hq : QR w v r.q) (he : r.j.err ev = 0) (hpa : r.pa = false) (h0 : r.tr < 0) :
    Calls Tryz.prog 7 #[rowV r v] w fun e w' => e = .returned (.bool false) ∧ Below w.heap.size w w' := by
  have hx0 := D.Box.new w 33 (rowC r v).toArray
  have hb0 := new_below w (.cells (rowC r v).toArray 33)
  obtain ⟨W0, hW0⟩ : ∃ W : World, W = w.alloc (.cells (rowC r v).toArray 33) := ⟨_, rfl⟩
  rw [← hW0] at hx0 hb0
  have HX0 := Lib.hid hx0; have HB0 := Lib.hid hb0; have HF := Lib.hid hf
  have HCK := Lib.hid (rcheck_any ev hev r.j W0 hf.1)
  have HLJ := Lib.hid (loadS (row_job hf hx0))
  obtain ⟨A1, k1, rfl, u1, u2, u3, u4⟩ := hq
  have HCE := Lib.hid (fun (W : World) (hb : Below W0.heap.size W0 W) => cellsF_of hf (row_range (D.Box.belowAll hx0 hb)))
  have HGO := Lib.hid (fun (W : World) (hb : Below W0.heap.size W0 W) => row_going hf (row_range (D.Box.belowAll hx0 hb)))
  have hrv : Hid (rowV r (.slice A1 r.q.length k1) = .agg (rowC r (.slice A1 r.q.length k1)).toArray) := Lib.hid rfl
  rw [hrv.out]
  clear hrv
  generalize rowC r (.slice A1 r.q.length k1) = CS at *
  clear hx0 hb0 hf u1 u2 u3 u4 hev
  go_enter Tryz.func7, Tryz.ntmps7
  go_upto_region 1 with fail
  rw [← hW0]
  clear hW0 HX0
  go_wp2_with (refine list_loadS rfl _ rfl rfl HLJ.out ?_)
  refine HCK.out.mono ?_
  rintro e w1 ⟨rfl, hb⟩
  have HBF := Lib.hid (HB0.out.trans (hb.mono HB0.out.size))
  have hcf := HCE.out w1 hb
  have HG := Lib.hid (loadS (HGO.out w1 hb))
  have c11 := hcf.pa
  have c12 := hcf.nx
  have c15 := hcf.tr
  rw [Nat.zero_add] at c11 c12 c15
  clear hcf hb HCK HLJ HCE HGO HB0 HF
  rw [he]
  clear he
  rw [hpa] at c11
  clear hpa
  have q2 : decide (r.tr < 0) = true := decide_eq_true h0
  clear h0
  go_wp2_with fail
  go_ret
  exact ⟨rfl, HBF.out⟩
set_option maxRecDepth 100000 in
set_option maxHeartbeats 4000000 in
theorem rr_no3B (ev : List (BitVec 64) → Bool) (hev : EvIs ev) (r : RowZ) (v : Value) (w : World) (hf : r.Fit) (hq : QR w v r.q) (he : r.j.err ev = 0) (hpa : r.pa = true) (hnx : r.nx = -1) (h0 : r.tr < 0) :
    Calls Tryz.prog 7 #[rowV r v] w fun e w' => e = .returned (.bool false) ∧ Below w.heap.size w w' := by
  have hx0 := D.Box.new w 33 (rowC r v).toArray
  have hb0 := new_below w (.cells (rowC r v).toArray 33)
  obtain ⟨W0, hW0⟩ : ∃ W : World, W = w.alloc (.cells (rowC r v).toArray 33) := ⟨_, rfl⟩
  rw [← hW0] at hx0 hb0
  have HX0 := Lib.hid hx0; have HB0 := Lib.hid hb0; have HF := Lib.hid hf
  have HCK := Lib.hid (rcheck_any ev hev r.j W0 hf.1)
  have HLJ := Lib.hid (loadS (row_job hf hx0))
  obtain ⟨A1, k1, rfl, u1, u2, u3, u4⟩ := hq
  have HCE := Lib.hid (fun (W : World) (hb : Below W0.heap.size W0 W) => cellsF_of hf (row_range (D.Box.belowAll hx0 hb)))
  have HGO := Lib.hid (fun (W : World) (hb : Below W0.heap.size W0 W) => row_going hf (row_range (D.Box.belowAll hx0 hb)))
  have hrv : Hid (rowV r (.slice A1 r.q.length k1) = .agg (rowC r (.slice A1 r.q.length k1)).toArray) := Lib.hid rfl
  rw [hrv.out]
  clear hrv
  generalize rowC r (.slice A1 r.q.length k1) = CS at *
  clear hx0 hb0 hf u1 u2 u3 u4 hev
  go_enter Tryz.func7, Tryz.ntmps7
  go_upto_region 1 with fail
  rw [← hW0]
  clear hW0 HX0
  go_wp2_with (refine list_loadS rfl _ rfl rfl HLJ.out ?_)
  refine HCK.out.mono ?_
  rintro e w1 ⟨rfl, hb⟩
  have HBF := Lib.hid (HB0.out.trans (hb.mono HB0.out.size))
  have hcf := HCE.out w1 hb
  have HG := Lib.hid (loadS (HGO.out w1 hb))
  have c11 := hcf.pa
  have c12 := hcf.nx
  have c15 := hcf.tr
  rw [Nat.zero_add] at c11 c12 c15
  clear hcf hb HCK HLJ HCE HGO HB0 HF
  rw [he]
  clear he
  rw [hpa] at c11
  rw [hnx] at c12
  clear hpa hnx
  have q2 : decide (r.tr < 0) = true := decide_eq_true h0
  clear h0
  go_wp2_with fail
  go_ret
  exact ⟨rfl, HBF.out⟩

set_option maxRecDepth 100000 in
set_option maxHeartbeats 4000000 in
theorem rr_no4A (ev : List (BitVec 64) → Bool) (hev : EvIs ev) (r : RowZ) (v : Value) (w : World) (hf : r.Fit) (hq : QR w v r.q) (he : r.j.err ev = 0) (hpa : r.pa = false) (h0 : 0 ≤ r.tr) (h1 : r.j.re < r.tr) :
    Calls Tryz.prog 7 #[rowV r v] w fun e w' => e = .returned (.bool false) ∧ Below w.heap.size w w' := by
  have hx0 := D.Box.new w 33 (rowC r v).toArray
  have hb0 := new_below w (.cells (rowC r v).toArray 33)
  obtain ⟨W0, hW0⟩ : ∃ W : World, W = w.alloc (.cells (rowC r v).toArray 33) := ⟨_, rfl⟩
  rw [← hW0] at hx0 hb0
  have HX0 := Lib.hid hx0; have HB0 := Lib.hid hb0; have HF := Lib.hid hf
  have HCK := Lib.hid (rcheck_any ev hev r.j W0 hf.1)
  have HLJ := Lib.hid (loadS (row_job hf hx0))
  obtain ⟨A1, k1, rfl, u1, u2, u3, u4⟩ := hq
  have HCE := Lib.hid (fun (W : World) (hb : Below W0.heap.size W0 W) => cellsF_of hf (row_range (D.Box.belowAll hx0 hb)))
  have HGO := Lib.hid (fun (W : World) (hb : Below W0.heap.size W0 W) => row_going hf (row_range (D.Box.belowAll hx0 hb)))
  have hrv : Hid (rowV r (.slice A1 r.q.length k1) = .agg (rowC r (.slice A1 r.q.length k1)).toArray) := Lib.hid rfl
  rw [hrv.out]
  clear hrv
  generalize rowC r (.slice A1 r.q.length k1) = CS at *
  clear hx0 hb0 hf u1 u2 u3 u4 hev
  go_enter Tryz.func7, Tryz.ntmps7
  go_upto_region 1 with fail
  rw [← hW0]
  clear hW0 HX0
  go_wp2_with (refine list_loadS rfl _ rfl rfl HLJ.out ?_)
  refine HCK.out.mono ?_
  rintro e w1 ⟨rfl, hb⟩
  have HBF := Lib.hid (HB0.out.trans (hb.mono HB0.out.size))
  have hcf := HCE.out w1 hb
  have HG := Lib.hid (loadS (HGO.out w1 hb))
  have c11 := hcf.pa
  have c12 := hcf.nx
  have c15 := hcf.tr
  have c10 := hcf.re
  rw [Nat.zero_add] at c11 c12 c15 c10
  clear hcf hb HCK HLJ HCE HGO HB0 HF
  rw [he]
  clear he
  rw [hpa] at c11
  clear hpa
  have q2 : decide (r.tr < 0) = false := decide_eq_false (by omega)
  have q3 : decide (r.j.re < r.tr) = true := decide_eq_true h1
  clear h0 h1
  go_wp2_with fail
  go_ret
  exact ⟨rfl, HBF.out⟩
set_option maxRecDepth 100000 in
set_option maxHeartbeats 4000000 in
theorem rr_no4B (ev : List (BitVec 64) → Bool) (hev : EvIs ev) (r : RowZ) (v : Value) (w : World) (hf : r.Fit) (hq : QR w v r.q) (he : r.j.err ev = 0) (hpa : r.pa = true) (hnx : r.nx = -1) (h0 : 0 ≤ r.tr) (h1 : r.j.re < r.tr) :
    Calls Tryz.prog 7 #[rowV r v] w fun e w' => e = .returned (.bool false) ∧ Below w.heap.size w w' := by
  have hx0 := D.Box.new w 33 (rowC r v).toArray
  have hb0 := new_below w (.cells (rowC r v).toArray 33)
  obtain ⟨W0, hW0⟩ : ∃ W : World, W = w.alloc (.cells (rowC r v).toArray 33) := ⟨_, rfl⟩
  rw [← hW0] at hx0 hb0
  have HX0 := Lib.hid hx0; have HB0 := Lib.hid hb0; have HF := Lib.hid hf
  have HCK := Lib.hid (rcheck_any ev hev r.j W0 hf.1)
  have HLJ := Lib.hid (loadS (row_job hf hx0))
  obtain ⟨A1, k1, rfl, u1, u2, u3, u4⟩ := hq
  have HCE := Lib.hid (fun (W : World) (hb : Below W0.heap.size W0 W) => cellsF_of hf (row_range (D.Box.belowAll hx0 hb)))
  have HGO := Lib.hid (fun (W : World) (hb : Below W0.heap.size W0 W) => row_going hf (row_range (D.Box.belowAll hx0 hb)))
  have hrv : Hid (rowV r (.slice A1 r.q.length k1) = .agg (rowC r (.slice A1 r.q.length k1)).toArray) := Lib.hid rfl
  rw [hrv.out]
  clear hrv
  generalize rowC r (.slice A1 r.q.length k1) = CS at *
  clear hx0 hb0 hf u1 u2 u3 u4 hev
  go_enter Tryz.func7, Tryz.ntmps7
  go_upto_region 1 with fail
  rw [← hW0]
  clear hW0 HX0
  go_wp2_with (refine list_loadS rfl _ rfl rfl HLJ.out ?_)
  refine HCK.out.mono ?_
  rintro e w1 ⟨rfl, hb⟩
  have HBF := Lib.hid (HB0.out.trans (hb.mono HB0.out.size))
  have hcf := HCE.out w1 hb
  have HG := Lib.hid (loadS (HGO.out w1 hb))
  have c11 := hcf.pa
  have c12 := hcf.nx
  have c15 := hcf.tr
  have c10 := hcf.re
  rw [Nat.zero_add] at c11 c12 c15 c10
  clear hcf hb HCK HLJ HCE HGO HB0 HF
  rw [he]
  clear he
  rw [hpa] at c11
  rw [hnx] at c12
  clear hpa hnx
  have q2 : decide (r.tr < 0) = false := decide_eq_false (by omega)
  have q3 : decide (r.j.re < r.tr) = true := decide_eq_true h1
  clear h0 h1
  go_wp2_with fail
  go_ret
  exact ⟨rfl, HBF.out⟩

set_option maxRecDepth 100000 in
set_option maxHeartbeats 4000000 in
theorem rr_no5A (ev : List (BitVec 64) → Bool) (hev : EvIs ev) (r : RowZ) (v : Value) (w : World) (hf : r.Fit) (hq : QR w v r.q) (he : r.j.err ev = 0) (hpa : r.pa = false) (h0 : 0 ≤ r.tr) (h1 : r.tr ≤ r.j.re) (h3 : 3 < r.q.length) :
    Calls Tryz.prog 7 #[rowV r v] w fun e w' => e = .returned (.bool false) ∧ Below w.heap.size w w' := by
  have hx0 := D.Box.new w 33 (rowC r v).toArray
  have hb0 := new_below w (.cells (rowC r v).toArray 33)
  obtain ⟨W0, hW0⟩ : ∃ W : World, W = w.alloc (.cells (rowC r v).toArray 33) := ⟨_, rfl⟩
  rw [← hW0] at hx0 hb0
  have HX0 := Lib.hid hx0; have HB0 := Lib.hid hb0; have HF := Lib.hid hf
  have HCK := Lib.hid (rcheck_any ev hev r.j W0 hf.1)
  have HLJ := Lib.hid (loadS (row_job hf hx0))
  obtain ⟨A1, k1, rfl, u1, u2, u3, u4⟩ := hq
  have HCE := Lib.hid (fun (W : World) (hb : Below W0.heap.size W0 W) => cellsF_of hf (row_range (D.Box.belowAll hx0 hb)))
  have HGO := Lib.hid (fun (W : World) (hb : Below W0.heap.size W0 W) => row_going hf (row_range (D.Box.belowAll hx0 hb)))
  have hrv : Hid (rowV r (.slice A1 r.q.length k1) = .agg (rowC r (.slice A1 r.q.length k1)).toArray) := Lib.hid rfl
  rw [hrv.out]
  clear hrv
  generalize rowC r (.slice A1 r.q.length k1) = CS at *
  clear hx0 hb0 hf u1 u2 u3 u4 hev
  go_enter Tryz.func7, Tryz.ntmps7
  go_upto_region 1 with fail
  rw [← hW0]
  clear hW0 HX0
  go_wp2_with (refine list_loadS rfl _ rfl rfl HLJ.out ?_)
  refine HCK.out.mono ?_
  rintro e w1 ⟨rfl, hb⟩
  have HBF := Lib.hid (HB0.out.trans (hb.mono HB0.out.size))
  have hcf := HCE.out w1 hb
  have HG := Lib.hid (loadS (HGO.out w1 hb))
  have c11 := hcf.pa
  have c12 := hcf.nx
  have c15 := hcf.tr
  have c10 := hcf.re
  have c16 := hcf.q
  rw [Nat.zero_add] at c11 c12 c15 c10 c16
  clear hcf hb HCK HLJ HCE HGO HB0 HF
  rw [he]
  clear he
  rw [hpa] at c11
  clear hpa
  have q2 : decide (r.tr < 0) = false := decide_eq_false (by omega)
  have q3 : decide (r.j.re < r.tr) = false := decide_eq_false (by omega)
  have q4 : decide ((3 : Int) < (r.q.length : Int)) = true := decide_eq_true (by omega)
  clear h0 h1 h3
  go_wp2_with fail
  go_ret
  exact ⟨rfl, HBF.out⟩
set_option maxRecDepth 100000 in
set_option maxHeartbeats 4000000 in
theorem rr_no5B (ev : List (BitVec 64) → Bool) (hev : EvIs ev) (r : RowZ) (v : Value) (w : World) (hf : r.Fit) (hq : QR w v r.q) (he : r.j.err ev = 0) (hpa : r.pa = true) (hnx : r.nx = -1) (h0 : 0 ≤ r.tr) (h1 : r.tr ≤ r.j.re) (h3 : 3 < r.q.length) :
    Calls Tryz.prog 7 #[rowV r v] w fun e w' => e = .returned (.bool false) ∧ Below w.heap.size w w' := by
  have hx0 := D.Box.new w 33 (rowC r v).toArray
  have hb0 := new_below w (.cells (rowC r v).toArray 33)
  obtain ⟨W0, hW0⟩ : ∃ W : World, W = w.alloc (.cells (rowC r v).toArray 33) := ⟨_, rfl⟩
  rw [← hW0] at hx0 hb0
  have HX0 := Lib.hid hx0; have HB0 := Lib.hid hb0; have HF := Lib.hid hf
  have HCK := Lib.hid (rcheck_any ev hev r.j W0 hf.1)
  have HLJ := Lib.hid (loadS (row_job hf hx0))
  obtain ⟨A1, k1, rfl, u1, u2, u3, u4⟩ := hq
  have HCE := Lib.hid (fun (W : World) (hb : Below W0.heap.size W0 W) => cellsF_of hf (row_range (D.Box.belowAll hx0 hb)))
  have HGO := Lib.hid (fun (W : World) (hb : Below W0.heap.size W0 W) => row_going hf (row_range (D.Box.belowAll hx0 hb)))
  have hrv : Hid (rowV r (.slice A1 r.q.length k1) = .agg (rowC r (.slice A1 r.q.length k1)).toArray) := Lib.hid rfl
  rw [hrv.out]
  clear hrv
  generalize rowC r (.slice A1 r.q.length k1) = CS at *
  clear hx0 hb0 hf u1 u2 u3 u4 hev
  go_enter Tryz.func7, Tryz.ntmps7
  go_upto_region 1 with fail
  rw [← hW0]
  clear hW0 HX0
  go_wp2_with (refine list_loadS rfl _ rfl rfl HLJ.out ?_)
  refine HCK.out.mono ?_
  rintro e w1 ⟨rfl, hb⟩
  have HBF := Lib.hid (HB0.out.trans (hb.mono HB0.out.size))
  have hcf := HCE.out w1 hb
  have HG := Lib.hid (loadS (HGO.out w1 hb))
  have c11 := hcf.pa
  have c12 := hcf.nx
  have c15 := hcf.tr
  have c10 := hcf.re
  have c16 := hcf.q
  rw [Nat.zero_add] at c11 c12 c15 c10 c16
  clear hcf hb HCK HLJ HCE HGO HB0 HF
  rw [he]
  clear he
  rw [hpa] at c11
  rw [hnx] at c12
  clear hpa hnx
  have q2 : decide (r.tr < 0) = false := decide_eq_false (by omega)
  have q3 : decide (r.j.re < r.tr) = false := decide_eq_false (by omega)
  have q4 : decide ((3 : Int) < (r.q.length : Int)) = true := decide_eq_true (by omega)
  clear h0 h1 h3
  go_wp2_with fail
  go_ret
  exact ⟨rfl, HBF.out⟩

set_option maxRecDepth 100000 in
set_option maxHeartbeats 4000000 in
theorem rr_no6A (ev : List (BitVec 64) → Bool) (hev : EvIs ev) (r : RowZ) (v : Value) (w : World) (hf : r.Fit) (hq : QR w v r.q) (he : r.j.err ev = 0) (hpa : r.pa = false) (h0 : 0 ≤ r.tr) (h1 : r.tr ≤ r.j.re) (h3 : r.q.length ≤ 3) (hn : r.num = 0) (hd : r.due ≠ 0) :
    Calls Tryz.prog 7 #[rowV r v] w fun e w' => e = .returned (.bool false) ∧ Below w.heap.size w w' := by
  have hx0 := D.Box.new w 33 (rowC r v).toArray
  have hb0 := new_below w (.cells (rowC r v).toArray 33)
  obtain ⟨W0, hW0⟩ : ∃ W : World, W = w.alloc (.cells (rowC r v).toArray 33) := ⟨_, rfl⟩
  rw [← hW0] at hx0 hb0
  have HX0 := Lib.hid hx0; have HB0 := Lib.hid hb0; have HF := Lib.hid hf
  have HCK := Lib.hid (rcheck_any ev hev r.j W0 hf.1)
  have HLJ := Lib.hid (loadS (row_job hf hx0))
  obtain ⟨A1, k1, rfl, u1, u2, u3, u4⟩ := hq
  have HCE := Lib.hid (fun (W : World) (hb : Below W0.heap.size W0 W) => cellsF_of hf (row_range (D.Box.belowAll hx0 hb)))
  have HGO := Lib.hid (fun (W : World) (hb : Below W0.heap.size W0 W) => row_going hf (row_range (D.Box.belowAll hx0 hb)))
  have hrv : Hid (rowV r (.slice A1 r.q.length k1) = .agg (rowC r (.slice A1 r.q.length k1)).toArray) := Lib.hid rfl
  rw [hrv.out]
  clear hrv
  generalize rowC r (.slice A1 r.q.length k1) = CS at *
  clear hx0 hb0 hf u1 u2 u3 u4 hev
  go_enter Tryz.func7, Tryz.ntmps7
  go_upto_region 1 with fail
  rw [← hW0]
  clear hW0 HX0
  go_wp2_with (refine list_loadS rfl _ rfl rfl HLJ.out ?_)
  refine HCK.out.mono ?_
  rintro e w1 ⟨rfl, hb⟩
  have HBF := Lib.hid (HB0.out.trans (hb.mono HB0.out.size))
  have hcf := HCE.out w1 hb
  have HG := Lib.hid (loadS (HGO.out w1 hb))
  have c11 := hcf.pa
  have c12 := hcf.nx
  have c15 := hcf.tr
  have c10 := hcf.re
  have c16 := hcf.q
  have c13 := hcf.num
  rw [Nat.zero_add] at c11 c12 c15 c10 c16 c13
  clear hcf hb HCK HLJ HCE HGO HB0 HF
  rw [he]
  clear he
  rw [hpa] at c11
  clear hpa
  have q2 : decide (r.tr < 0) = false := decide_eq_false (by omega)
  have q3 : decide (r.j.re < r.tr) = false := decide_eq_false (by omega)
  have q4 : decide ((3 : Int) < (r.q.length : Int)) = false := decide_eq_false (by omega)
  rw [hn] at c13 HG
  have q5 : (r.due == 0) = false := by simpa using hd
  clear h0 h1 h3 hn hd
  go_wp2_with (first | (refine list_stop 52 rfl ?_; (iterate 27 (first | go_values | go_skip | go_guarded | go_step | go_upon | go_back)); go_ret; exact ⟨rfl, HBF.out⟩) | refine list_loadwS (t := 30) _ rfl rfl HG.out (by rfl) ?_)
set_option maxRecDepth 100000 in
set_option maxHeartbeats 4000000 in
theorem rr_no7A (ev : List (BitVec 64) → Bool) (hev : EvIs ev) (r : RowZ) (v : Value) (w : World) (hf : r.Fit) (hq : QR w v r.q) (he : r.j.err ev = 0) (hpa : r.pa = false) (h0 : 0 ≤ r.tr) (h1 : r.tr ≤ r.j.re) (h3 : r.q.length ≤ 3) (hn : r.num = 0) (hd : r.due = 0) (ht : r.tr ≠ 0) :
    Calls Tryz.prog 7 #[rowV r v] w fun e w' => e = .returned (.bool false) ∧ Below w.heap.size w w' := by
  have hx0 := D.Box.new w 33 (rowC r v).toArray
  have hb0 := new_below w (.cells (rowC r v).toArray 33)
  obtain ⟨W0, hW0⟩ : ∃ W : World, W = w.alloc (.cells (rowC r v).toArray 33) := ⟨_, rfl⟩
  rw [← hW0] at hx0 hb0
  have HX0 := Lib.hid hx0; have HB0 := Lib.hid hb0; have HF := Lib.hid hf
  have HCK := Lib.hid (rcheck_any ev hev r.j W0 hf.1)
  have HLJ := Lib.hid (loadS (row_job hf hx0))
  obtain ⟨A1, k1, rfl, u1, u2, u3, u4⟩ := hq
  have HCE := Lib.hid (fun (W : World) (hb : Below W0.heap.size W0 W) => cellsF_of hf (row_range (D.Box.belowAll hx0 hb)))
  have HGO := Lib.hid (fun (W : World) (hb : Below W0.heap.size W0 W) => row_going hf (row_range (D.Box.belowAll hx0 hb)))
  have hrv : Hid (rowV r (.slice A1 r.q.length k1) = .agg (rowC r (.slice A1 r.q.length k1)).toArray) := Lib.hid rfl
  rw [hrv.out]
  clear hrv
  generalize rowC r (.slice A1 r.q.length k1) = CS at *
  clear hx0 hb0 hf u1 u2 u3 u4 hev
  go_enter Tryz.func7, Tryz.ntmps7
  go_upto_region 1 with fail
  rw [← hW0]
  clear hW0 HX0
  go_wp2_with (refine list_loadS rfl _ rfl rfl HLJ.out ?_)
  refine HCK.out.mono ?_
  rintro e w1 ⟨rfl, hb⟩
  have HBF := Lib.hid (HB0.out.trans (hb.mono HB0.out.size))
  have hcf := HCE.out w1 hb
  have HG := Lib.hid (loadS (HGO.out w1 hb))
  have c11 := hcf.pa
  have c12 := hcf.nx
  have c15 := hcf.tr
  have c10 := hcf.re
  have c16 := hcf.q
  have c13 := hcf.num
  rw [Nat.zero_add] at c11 c12 c15 c10 c16 c13
  clear hcf hb HCK HLJ HCE HGO HB0 HF
  rw [he]
  clear he
  rw [hpa] at c11
  clear hpa
  have q2 : decide (r.tr < 0) = false := decide_eq_false (by omega)
  have q3 : decide (r.j.re < r.tr) = false := decide_eq_false (by omega)
  have q4 : decide ((3 : Int) < (r.q.length : Int)) = false := decide_eq_false (by omega)
  rw [hn] at c13
  rw [hn, hd] at HG
  have q5 : (r.tr == 0) = false := by simpa using ht
  clear h0 h1 h3 hn hd ht
  go_wp2_with (first | (refine list_stop 52 rfl ?_; (iterate 27 (first | go_values | go_skip | go_guarded | go_step | go_upon | go_back)); go_ret; exact ⟨rfl, HBF.out⟩) | refine list_loadwS (t := 30) _ rfl rfl HG.out (by rfl) ?_)
set_option maxRecDepth 100000 in
set_option maxHeartbeats 4000000 in
theorem rr_no6B (ev : List (BitVec 64) → Bool) (hev : EvIs ev) (r : RowZ) (v : Value) (w : World) (hf : r.Fit) (hq : QR w v r.q) (he : r.j.err ev = 0) (hpa : r.pa = true) (hnx : r.nx = -1) (h0 : 0 ≤ r.tr) (h1 : r.tr ≤ r.j.re) (h3 : r.q.length ≤ 3) (hn : r.num = 0) (hd : r.due ≠ 0) :
    Calls Tryz.prog 7 #[rowV r v] w fun e w' => e = .returned (.bool false) ∧ Below w.heap.size w w' := by
  have hx0 := D.Box.new w 33 (rowC r v).toArray
  have hb0 := new_below w (.cells (rowC r v).toArray 33)
  obtain ⟨W0, hW0⟩ : ∃ W : World, W = w.alloc (.cells (rowC r v).toArray 33) := ⟨_, rfl⟩
  rw [← hW0] at hx0 hb0
  have HX0 := Lib.hid hx0; have HB0 := Lib.hid hb0; have HF := Lib.hid hf
  have HCK := Lib.hid (rcheck_any ev hev r.j W0 hf.1)
  have HLJ := Lib.hid (loadS (row_job hf hx0))
  obtain ⟨A1, k1, rfl, u1, u2, u3, u4⟩ := hq
  have HCE := Lib.hid (fun (W : World) (hb : Below W0.heap.size W0 W) => cellsF_of hf (row_range (D.Box.belowAll hx0 hb)))
  have HGO := Lib.hid (fun (W : World) (hb : Below W0.heap.size W0 W) => row_going hf (row_range (D.Box.belowAll hx0 hb)))
  have hrv : Hid (rowV r (.slice A1 r.q.length k1) = .agg (rowC r (.slice A1 r.q.length k1)).toArray) := Lib.hid rfl
  rw [hrv.out]
  clear hrv
  generalize rowC r (.slice A1 r.q.length k1) = CS at *
  clear hx0 hb0 hf u1 u2 u3 u4 hev
  go_enter Tryz.func7, Tryz.ntmps7
  go_upto_region 1 with fail
  rw [← hW0]
  clear hW0 HX0
  go_wp2_with (refine list_loadS rfl _ rfl rfl HLJ.out ?_)
  refine HCK.out.mono ?_
  rintro e w1 ⟨rfl, hb⟩
  have HBF := Lib.hid (HB0.out.trans (hb.mono HB0.out.size))
  have hcf := HCE.out w1 hb
  have HG := Lib.hid (loadS (HGO.out w1 hb))
  have c11 := hcf.pa
  have c12 := hcf.nx
  have c15 := hcf.tr
  have c10 := hcf.re
  have c16 := hcf.q
  have c13 := hcf.num
  rw [Nat.zero_add] at c11 c12 c15 c10 c16 c13
  clear hcf hb HCK HLJ HCE HGO HB0 HF
  rw [he]
  clear he
  rw [hpa] at c11
  rw [hnx] at c12
  clear hpa hnx
  have q2 : decide (r.tr < 0) = false := decide_eq_false (by omega)
  have q3 : decide (r.j.re < r.tr) = false := decide_eq_false (by omega)
  have q4 : decide ((3 : Int) < (r.q.length : Int)) = false := decide_eq_false (by omega)
  rw [hn] at c13 HG
  have q5 : (r.due == 0) = false := by simpa using hd
  clear h0 h1 h3 hn hd
  go_wp2_with (first | (refine list_stop 52 rfl ?_; (iterate 27 (first | go_values | go_skip | go_guarded | go_step | go_upon | go_back)); go_ret; exact ⟨rfl, HBF.out⟩) | refine list_loadwS (t := 30) _ rfl rfl HG.out (by rfl) ?_)
set_option maxRecDepth 100000 in
set_option maxHeartbeats 4000000 in
theorem rr_no7B (ev : List (BitVec 64) → Bool) (hev : EvIs ev) (r : RowZ) (v : Value) (w : World) (hf : r.Fit) (hq : QR w v r.q) (he : r.j.err ev = 0) (hpa : r.pa = true) (hnx : r.nx = -1) (h0 : 0 ≤ r.tr) (h1 : r.tr ≤ r.j.re) (h3 : r.q.length ≤ 3) (hn : r.num = 0) (hd : r.due = 0) (ht : r.tr ≠ 0) :
    Calls Tryz.prog 7 #[rowV r v] w fun e w' => e = .returned (.bool false) ∧ Below w.heap.size w w' := by
  have hx0 := D.Box.new w 33 (rowC r v).toArray
  have hb0 := new_below w (.cells (rowC r v).toArray 33)
  obtain ⟨W0, hW0⟩ : ∃ W : World, W = w.alloc (.cells (rowC r v).toArray 33) := ⟨_, rfl⟩
  rw [← hW0] at hx0 hb0
  have HX0 := Lib.hid hx0; have HB0 := Lib.hid hb0; have HF := Lib.hid hf
  have HCK := Lib.hid (rcheck_any ev hev r.j W0 hf.1)
  have HLJ := Lib.hid (loadS (row_job hf hx0))
  obtain ⟨A1, k1, rfl, u1, u2, u3, u4⟩ := hq
  have HCE := Lib.hid (fun (W : World) (hb : Below W0.heap.size W0 W) => cellsF_of hf (row_range (D.Box.belowAll hx0 hb)))
  have HGO := Lib.hid (fun (W : World) (hb : Below W0.heap.size W0 W) => row_going hf (row_range (D.Box.belowAll hx0 hb)))
  have hrv : Hid (rowV r (.slice A1 r.q.length k1) = .agg (rowC r (.slice A1 r.q.length k1)).toArray) := Lib.hid rfl
  rw [hrv.out]
  clear hrv
  generalize rowC r (.slice A1 r.q.length k1) = CS at *
  clear hx0 hb0 hf u1 u2 u3 u4 hev
  go_enter Tryz.func7, Tryz.ntmps7
  go_upto_region 1 with fail
  rw [← hW0]
  clear hW0 HX0
  go_wp2_with (refine list_loadS rfl _ rfl rfl HLJ.out ?_)
  refine HCK.out.mono ?_
  rintro e w1 ⟨rfl, hb⟩
  have HBF := Lib.hid (HB0.out.trans (hb.mono HB0.out.size))
  have hcf := HCE.out w1 hb
  have HG := Lib.hid (loadS (HGO.out w1 hb))
  have c11 := hcf.pa
  have c12 := hcf.nx
  have c15 := hcf.tr
  have c10 := hcf.re
  have c16 := hcf.q
  have c13 := hcf.num
  rw [Nat.zero_add] at c11 c12 c15 c10 c16 c13
  clear hcf hb HCK HLJ HCE HGO HB0 HF
  rw [he]
  clear he
  rw [hpa] at c11
  rw [hnx] at c12
  clear hpa hnx
  have q2 : decide (r.tr < 0) = false := decide_eq_false (by omega)
  have q3 : decide (r.j.re < r.tr) = false := decide_eq_false (by omega)
  have q4 : decide ((3 : Int) < (r.q.length : Int)) = false := decide_eq_false (by omega)
  rw [hn] at c13
  rw [hn, hd] at HG
  have q5 : (r.tr == 0) = false := by simpa using ht
  clear h0 h1 h3 hn hd ht
  go_wp2_with (first | (refine list_stop 52 rfl ?_; (iterate 27 (first | go_values | go_skip | go_guarded | go_step | go_upon | go_back)); go_ret; exact ⟨rfl, HBF.out⟩) | refine list_loadwS (t := 30) _ rfl rfl HG.out (by rfl) ?_)

set_option maxRecDepth 100000 in
set_option maxHeartbeats 4000000 in
theorem rr_no8A (ev : List (BitVec 64) → Bool) (hev : EvIs ev) (r : RowZ) (v : Value) (w : World) (hf : r.Fit) (hq : QR w v r.q) (he : r.j.err ev = 0) (hpa : r.pa = false) (_h0 : 0 ≤ r.tr) (h1 : r.tr ≤ r.j.re) (h3 : r.q.length ≤ 3) (hn : r.num = 0) (hd : r.due = 0) (ht : r.tr = 0) (hq0 : r.q ≠ []) :
    Calls Tryz.prog 7 #[rowV r v] w fun e w' => e = .returned (.bool false) ∧ Below w.heap.size w w' := by
  have hx0 := D.Box.new w 33 (rowC r v).toArray
  have hb0 := new_below w (.cells (rowC r v).toArray 33)
  obtain ⟨W0, hW0⟩ : ∃ W : World, W = w.alloc (.cells (rowC r v).toArray 33) := ⟨_, rfl⟩
  rw [← hW0] at hx0 hb0
  have HX0 := Lib.hid hx0; have HB0 := Lib.hid hb0; have HF := Lib.hid hf
  have HCK := Lib.hid (rcheck_any ev hev r.j W0 hf.1)
  have HLJ := Lib.hid (loadS (row_job hf hx0))
  obtain ⟨A1, k1, rfl, u1, u2, u3, u4⟩ := hq
  have HCE := Lib.hid (fun (W : World) (hb : Below W0.heap.size W0 W) => cellsF_of hf (row_range (D.Box.belowAll hx0 hb)))
  have HGO := Lib.hid (fun (W : World) (hb : Below W0.heap.size W0 W) => row_going hf (row_range (D.Box.belowAll hx0 hb)))
  have hrv : Hid (rowV r (.slice A1 r.q.length k1) = .agg (rowC r (.slice A1 r.q.length k1)).toArray) := Lib.hid rfl
  rw [hrv.out]
  clear hrv
  generalize rowC r (.slice A1 r.q.length k1) = CS at *
  clear hx0 hb0 hf u1 u2 u3 u4 hev
  go_enter Tryz.func7, Tryz.ntmps7
  go_upto_region 1 with fail
  rw [← hW0]
  clear hW0 HX0
  go_wp2_with (refine list_loadS rfl _ rfl rfl HLJ.out ?_)
  refine HCK.out.mono ?_
  rintro e w1 ⟨rfl, hb⟩
  have HBF := Lib.hid (HB0.out.trans (hb.mono HB0.out.size))
  have hcf := HCE.out w1 hb
  have HG := Lib.hid (loadS (HGO.out w1 hb))
  have c11 := hcf.pa
  have c12 := hcf.nx
  have c15 := hcf.tr
  have c10 := hcf.re
  have c16 := hcf.q
  have c13 := hcf.num
  rw [Nat.zero_add] at c11 c12 c15 c10 c16 c13
  clear hcf hb HCK HLJ HCE HGO HB0 HF
  rw [he]
  clear he
  rw [hpa] at c11
  clear hpa
  have q2 : decide (r.tr < 0) = false := decide_eq_false (by omega)
  have q3 : decide (r.j.re < r.tr) = false := decide_eq_false (by omega)
  have q4 : decide ((3 : Int) < (r.q.length : Int)) = false := decide_eq_false (by omega)
  have q6 : decide ((0 : Int) < (r.q.length : Int)) = true := decide_eq_true (by have := List.length_pos_iff.2 hq0; omega)
  have q7 : 0 < r.q.length := List.length_pos_iff.2 hq0
  rw [ht] at c15 q2 q3
  rw [hn] at c13
  rw [hn, hd, ht] at HG
  clear _h0 h1 h3 hn hd ht hq0
  go_wp2_with (first | (refine list_stop 52 rfl ?_; (iterate 40 (first | go_values | go_skip | go_guarded | go_step | go_upon | go_back)); go_ret; exact ⟨rfl, HBF.out⟩) | refine list_loadwS (t := 30) _ rfl rfl HG.out (by rfl) ?_)
set_option maxRecDepth 100000 in
set_option maxHeartbeats 4000000 in
theorem rr_no8B (ev : List (BitVec 64) → Bool) (hev : EvIs ev) (r : RowZ) (v : Value) (w : World) (hf : r.Fit) (hq : QR w v r.q) (he : r.j.err ev = 0) (hpa : r.pa = true) (hnx : r.nx = -1) (_h0 : 0 ≤ r.tr) (h1 : r.tr ≤ r.j.re) (h3 : r.q.length ≤ 3) (hn : r.num = 0) (hd : r.due = 0) (ht : r.tr = 0) (hq0 : r.q ≠ []) :
    Calls Tryz.prog 7 #[rowV r v] w fun e w' => e = .returned (.bool false) ∧ Below w.heap.size w w' := by
  have hx0 := D.Box.new w 33 (rowC r v).toArray
  have hb0 := new_below w (.cells (rowC r v).toArray 33)
  obtain ⟨W0, hW0⟩ : ∃ W : World, W = w.alloc (.cells (rowC r v).toArray 33) := ⟨_, rfl⟩
  rw [← hW0] at hx0 hb0
  have HX0 := Lib.hid hx0; have HB0 := Lib.hid hb0; have HF := Lib.hid hf
  have HCK := Lib.hid (rcheck_any ev hev r.j W0 hf.1)
  have HLJ := Lib.hid (loadS (row_job hf hx0))
  obtain ⟨A1, k1, rfl, u1, u2, u3, u4⟩ := hq
  have HCE := Lib.hid (fun (W : World) (hb : Below W0.heap.size W0 W) => cellsF_of hf (row_range (D.Box.belowAll hx0 hb)))
  have HGO := Lib.hid (fun (W : World) (hb : Below W0.heap.size W0 W) => row_going hf (row_range (D.Box.belowAll hx0 hb)))
  have hrv : Hid (rowV r (.slice A1 r.q.length k1) = .agg (rowC r (.slice A1 r.q.length k1)).toArray) := Lib.hid rfl
  rw [hrv.out]
  clear hrv
  generalize rowC r (.slice A1 r.q.length k1) = CS at *
  clear hx0 hb0 hf u1 u2 u3 u4 hev
  go_enter Tryz.func7, Tryz.ntmps7
  go_upto_region 1 with fail
  rw [← hW0]
  clear hW0 HX0
  go_wp2_with (refine list_loadS rfl _ rfl rfl HLJ.out ?_)
  refine HCK.out.mono ?_
  rintro e w1 ⟨rfl, hb⟩
  have HBF := Lib.hid (HB0.out.trans (hb.mono HB0.out.size))
  have hcf := HCE.out w1 hb
  have HG := Lib.hid (loadS (HGO.out w1 hb))
  have c11 := hcf.pa
  have c12 := hcf.nx
  have c15 := hcf.tr
  have c10 := hcf.re
  have c16 := hcf.q
  have c13 := hcf.num
  rw [Nat.zero_add] at c11 c12 c15 c10 c16 c13
  clear hcf hb HCK HLJ HCE HGO HB0 HF
  rw [he]
  clear he
  rw [hpa] at c11
  rw [hnx] at c12
  clear hpa hnx
  have q2 : decide (r.tr < 0) = false := decide_eq_false (by omega)
  have q3 : decide (r.j.re < r.tr) = false := decide_eq_false (by omega)
  have q4 : decide ((3 : Int) < (r.q.length : Int)) = false := decide_eq_false (by omega)
  have q6 : decide ((0 : Int) < (r.q.length : Int)) = true := decide_eq_true (by have := List.length_pos_iff.2 hq0; omega)
  have q7 : 0 < r.q.length := List.length_pos_iff.2 hq0
  rw [ht] at c15 q2 q3
  rw [hn] at c13
  rw [hn, hd, ht] at HG
  clear _h0 h1 h3 hn hd ht hq0
  go_wp2_with (first | (refine list_stop 52 rfl ?_; (iterate 40 (first | go_values | go_skip | go_guarded | go_step | go_upon | go_back)); go_ret; exact ⟨rfl, HBF.out⟩) | refine list_loadwS (t := 30) _ rfl rfl HG.out (by rfl) ?_)

set_option maxRecDepth 100000 in
set_option maxHeartbeats 4000000 in
theorem rr_no9A (ev : List (BitVec 64) → Bool) (hev : EvIs ev) (r : RowZ) (v : Value) (w : World) (hf : r.Fit) (hq : QR w v r.q) (he : r.j.err ev = 0) (hpa : r.pa = false) (h0 : 0 ≤ r.tr) (h1 : r.tr ≤ r.j.re) (h3 : r.q.length ≤ 3) (hn : r.num ≠ 0) (ho : r.j.ov = 0) (hq0 : r.q ≠ []) :
    Calls Tryz.prog 7 #[rowV r v] w fun e w' => e = .returned (.bool false) ∧ Below w.heap.size w w' := by
  have hx0 := D.Box.new w 33 (rowC r v).toArray
  have hb0 := new_below w (.cells (rowC r v).toArray 33)
  obtain ⟨W0, hW0⟩ : ∃ W : World, W = w.alloc (.cells (rowC r v).toArray 33) := ⟨_, rfl⟩
  rw [← hW0] at hx0 hb0
  have HX0 := Lib.hid hx0; have HB0 := Lib.hid hb0; have HF := Lib.hid hf
  have HCK := Lib.hid (rcheck_any ev hev r.j W0 hf.1)
  have HLJ := Lib.hid (loadS (row_job hf hx0))
  obtain ⟨A1, k1, rfl, u1, u2, u3, u4⟩ := hq
  have HCE := Lib.hid (fun (W : World) (hb : Below W0.heap.size W0 W) => cellsF_of hf (row_range (D.Box.belowAll hx0 hb)))
  have HGO := Lib.hid (fun (W : World) (hb : Below W0.heap.size W0 W) => row_going hf (row_range (D.Box.belowAll hx0 hb)))
  have hrv : Hid (rowV r (.slice A1 r.q.length k1) = .agg (rowC r (.slice A1 r.q.length k1)).toArray) := Lib.hid rfl
  rw [hrv.out]
  clear hrv
  generalize rowC r (.slice A1 r.q.length k1) = CS at *
  clear hx0 hb0 hf u1 u2 u3 u4 hev
  go_enter Tryz.func7, Tryz.ntmps7
  go_upto_region 1 with fail
  rw [← hW0]
  clear hW0 HX0
  go_wp2_with (refine list_loadS rfl _ rfl rfl HLJ.out ?_)
  refine HCK.out.mono ?_
  rintro e w1 ⟨rfl, hb⟩
  have HBF := Lib.hid (HB0.out.trans (hb.mono HB0.out.size))
  have hcf := HCE.out w1 hb
  have HG := Lib.hid (loadS (HGO.out w1 hb))
  have c11 := hcf.pa
  have c12 := hcf.nx
  have c15 := hcf.tr
  have c10 := hcf.re
  have c16 := hcf.q
  have c13 := hcf.num
  have c8 := hcf.ov
  rw [Nat.zero_add] at c11 c12 c15 c10 c16 c13 c8
  clear hcf hb HCK HLJ HCE HGO HB0 HF
  rw [he]
  clear he
  rw [hpa] at c11
  clear hpa
  have q2 : decide (r.tr < 0) = false := decide_eq_false (by omega)
  have q3 : decide (r.j.re < r.tr) = false := decide_eq_false (by omega)
  have q4 : decide ((3 : Int) < (r.q.length : Int)) = false := decide_eq_false (by omega)
  have q6 : decide ((0 : Int) < (r.q.length : Int)) = true := decide_eq_true (by have := List.length_pos_iff.2 hq0; omega)
  have q7 : 0 < r.q.length := List.length_pos_iff.2 hq0
  have q8 : (r.num == 0) = false := by simpa using hn
  rw [ho] at c8
  clear h0 h1 h3 hn ho hq0
  go_wp2_with (first | (refine list_stop 42 rfl ?_; (iterate 68 (first | go_values | go_skip | go_guarded | go_step | go_upon | go_back)); go_ret; exact ⟨rfl, HBF.out⟩) | refine list_loadwS (t := 30) _ rfl rfl HG.out (by rfl) ?_)
set_option maxRecDepth 100000 in
set_option maxHeartbeats 4000000 in
theorem rr_no9B (ev : List (BitVec 64) → Bool) (hev : EvIs ev) (r : RowZ) (v : Value) (w : World) (hf : r.Fit) (hq : QR w v r.q) (he : r.j.err ev = 0) (hpa : r.pa = true) (hnx : r.nx = -1) (h0 : 0 ≤ r.tr) (h1 : r.tr ≤ r.j.re) (h3 : r.q.length ≤ 3) (hn : r.num ≠ 0) (ho : r.j.ov = 0) (hq0 : r.q ≠ []) :
    Calls Tryz.prog 7 #[rowV r v] w fun e w' => e = .returned (.bool false) ∧ Below w.heap.size w w' := by
  have hx0 := D.Box.new w 33 (rowC r v).toArray
  have hb0 := new_below w (.cells (rowC r v).toArray 33)
  obtain ⟨W0, hW0⟩ : ∃ W : World, W = w.alloc (.cells (rowC r v).toArray 33) := ⟨_, rfl⟩
  rw [← hW0] at hx0 hb0
  have HX0 := Lib.hid hx0; have HB0 := Lib.hid hb0; have HF := Lib.hid hf
  have HCK := Lib.hid (rcheck_any ev hev r.j W0 hf.1)
  have HLJ := Lib.hid (loadS (row_job hf hx0))
  obtain ⟨A1, k1, rfl, u1, u2, u3, u4⟩ := hq
  have HCE := Lib.hid (fun (W : World) (hb : Below W0.heap.size W0 W) => cellsF_of hf (row_range (D.Box.belowAll hx0 hb)))
  have HGO := Lib.hid (fun (W : World) (hb : Below W0.heap.size W0 W) => row_going hf (row_range (D.Box.belowAll hx0 hb)))
  have hrv : Hid (rowV r (.slice A1 r.q.length k1) = .agg (rowC r (.slice A1 r.q.length k1)).toArray) := Lib.hid rfl
  rw [hrv.out]
  clear hrv
  generalize rowC r (.slice A1 r.q.length k1) = CS at *
  clear hx0 hb0 hf u1 u2 u3 u4 hev
  go_enter Tryz.func7, Tryz.ntmps7
  go_upto_region 1 with fail
  rw [← hW0]
  clear hW0 HX0
  go_wp2_with (refine list_loadS rfl _ rfl rfl HLJ.out ?_)
  refine HCK.out.mono ?_
  rintro e w1 ⟨rfl, hb⟩
  have HBF := Lib.hid (HB0.out.trans (hb.mono HB0.out.size))
  have hcf := HCE.out w1 hb
  have HG := Lib.hid (loadS (HGO.out w1 hb))
  have c11 := hcf.pa
  have c12 := hcf.nx
  have c15 := hcf.tr
  have c10 := hcf.re
  have c16 := hcf.q
  have c13 := hcf.num
  have c8 := hcf.ov
  rw [Nat.zero_add] at c11 c12 c15 c10 c16 c13 c8
  clear hcf hb HCK HLJ HCE HGO HB0 HF
  rw [he]
  clear he
  rw [hpa] at c11
  rw [hnx] at c12
  clear hpa hnx
  have q2 : decide (r.tr < 0) = false := decide_eq_false (by omega)
  have q3 : decide (r.j.re < r.tr) = false := decide_eq_false (by omega)
  have q4 : decide ((3 : Int) < (r.q.length : Int)) = false := decide_eq_false (by omega)
  have q6 : decide ((0 : Int) < (r.q.length : Int)) = true := decide_eq_true (by have := List.length_pos_iff.2 hq0; omega)
  have q7 : 0 < r.q.length := List.length_pos_iff.2 hq0
  have q8 : (r.num == 0) = false := by simpa using hn
  rw [ho] at c8
  clear h0 h1 h3 hn ho hq0
  go_wp2_with (first | (refine list_stop 42 rfl ?_; (iterate 68 (first | go_values | go_skip | go_guarded | go_step | go_upon | go_back)); go_ret; exact ⟨rfl, HBF.out⟩) | refine list_loadwS (t := 30) _ rfl rfl HG.out (by rfl) ?_)
end Go.Proofs.YthghcffibljclaaGreatDoor
