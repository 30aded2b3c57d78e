/- A row that goes on: it begins: walked. -/
import Derived.Test.YthghcffibljclaaDoorRXCourse
import Derived.Great.BuildSlice
namespace Go.Proofs.YthghcffibljclaaDoor
open Go.RowKit

theorem built_all22 (x0 x1 x2 x3 x4 x5 x6 x7 x8 x9 x10 x11 x12 x13 x14 x15 x16 : Value) : Tryd.prog.built 68 [(0, .agg #[x0, x1, x2, x3, x4, x5, x6, x7, x8, x9, x10, x11, x12, x13, x14, x15, x16])] = some #[x0, x1, x2, x3, x4, x5, x6, x7, x8, x9, x10, x11, x12, x13, x14, x15, x16, .int .u64 0, .int .u32 0, .int .i64 0, .int .i64 0, .int .i64 0] := by kernel_rfl
theorem list_build1 {w : World} {ops : Array Oper} {rest : List Oper} {o : Oper} {a : Act} {Q : Exit → Act → World → Prop} {t : TypeId} {v : Value} {cells : Array Value} (hgd : o.guard = none) (x : Operand) (ho : o.op = .build t #[(0, x)]) (hx : a.eval x = v) (hb : Tryd.prog.built t [(0, v)] = some cells)
    (h : wpList Tryd.prog ops Q rest (a.put o.dst (.agg cells)) w) : wpList Tryd.prog ops Q (o :: rest) a w :=
  wpList_buildTo hgd t _ ho o.dst rfl cells (by simp only [List.map_toArray, List.map_cons, List.map_nil, hx]; exact hb) h
theorem built_course {r : RowZ} (hf : r.Fit) (v : Value) : Tryd.prog.built 68 [(0, rowV r v)] = some (courseC r v []).toArray := by
  obtain ⟨⟨n, o, L, t, ov, ca, re⟩, pa, nx, num, due, tr, q⟩ := r
  obtain ⟨⟨_, _, hl5⟩, _⟩ := hf
  obtain ⟨a, b, c, d, e, rfl⟩ := list_five hl5
  exact built_all22 _ _ _ _ _ _ _ _ _ _ _ _ _ _ _ _ _
theorem courseC_one {r : RowZ} {v : Value} (hf : r.Fit) (hv : v.oneCell' = true) : ∀ u ∈ courseC r v [], u.oneCell' = true := by
  intro u hu
  simp only [courseC, List.mem_append] at hu
  rcases hu with (hu | hu) | hu
  · exact rowC_one hf hv u hu
  · simp only [toldC, List.mem_cons, List.not_mem_nil, or_false] at hu
    rcases hu with rfl | rfl | rfl | rfl <;> rfl
  · rw [List.mem_singleton] at hu
    subst hu
    rfl
abbrev zero22 : List Value := [.int .u32 0, .bool false, .int .u64 0, .int .u64 0, .int .u64 0, .int .u64 0, .int .u64 0, .int .i64 0, .int .i64 0, .int .i64 0, .int .i64 0, .bool false, .int .i64 0, .int .u64 0, .int .i64 0, .int .i64 0, .slice none 0 0, .int .u64 0, .int .u32 0, .int .i64 0, .int .i64 0, .int .i64 0]
set_option maxRecDepth 100000 in
set_option maxHeartbeats 4000000 in
theorem begin_any (r : RowZ) (v : Value) (w : World) (hf : r.Fit) (hq : QR w v r.q) (hl : r.q.length ≤ 100) :
    Calls Tryd.prog 21 #[rowV r v] w fun e w' => (∃ v', e = .returned (courseV r v' []) ∧ OwnT w' w.heap.size v' r.q) ∧ Below w.heap.size w w' := by
  have hx0 := D.Box.new w 33 (rowC r v).toArray
  have hx1 := hx0.alloc (.cells zero22.toArray 68)
  have hz1 : D.Box ((w.alloc (.cells (rowC r v).toArray 33)).alloc (.cells zero22.toArray 68)) (w.heap.size + 1) 68 zero22.toArray := by
    have := D.Box.new (w.alloc (.cells (rowC r v).toArray 33)) 68 zero22.toArray
    rwa [World.size_alloc] at this
  have hb0 : Below w.heap.size w ((w.alloc (.cells (rowC r v).toArray 33)).alloc (.cells zero22.toArray 68)) := ((Below.refl _ w).alloc (Nat.le_refl _) _).alloc (by simp) _
  have hs0 : ((w.alloc (.cells (rowC r v).toArray 33)).alloc (.cells zero22.toArray 68)).heap.size = w.heap.size + 2 := by simp
  obtain ⟨W0, hW0⟩ : ∃ W : World, W = (w.alloc (.cells (rowC r v).toArray 33)).alloc (.cells zero22.toArray 68) := ⟨_, rfl⟩
  rw [← hW0] at hx1 hz1 hb0 hs0
  have HF := Lib.hid hf; have HB0 := Lib.hid hb0; have HX0 := Lib.hid hx1; have HZ0 := Lib.hid hz1; have HQ0 := Lib.hid (hq.on hb0); have HS0 := Lib.hid hs0; have HLQ := Lib.hid hl
  have hc16 : W0.cell? ⟨w.heap.size, 16, none⟩ = some v := by rw [D.Box.cell hx1 16, List.getElem?_toArray]; exact rowC_nth hf v
  have HPUT := Lib.hid (rowC_put hf v); have HLEN := Lib.hid (rowC_len hf)
  have HRV : Hid (∀ y, rowV r y = .agg (rowC r y).toArray) := Lib.hid (fun _ => rfl)
  have HCL := Lib.hid (fun y => courseC_len hf y []); have HCO := Lib.hid (fun y h => courseC_one (v := y) hf h); have HBU := Lib.hid (fun y => built_course hf y)
  have HCV : Hid (∀ y, courseV r y [] = .agg (courseC r y []).toArray) := Lib.hid (fun _ => rfl)
  rw [HRV.out v]
  generalize rowC r v = CS at *
  generalize r.q = q at *
  rw [hW0] at hc16
  clear hb0 hx0 hx1 hz1 hq hf hl
  go_enter Tryd.func21, Tryd.ntmps21
  go_upto_region 1 with fail
  rw [← hW0] at hc16 ⊢
  clear hW0 hs0
  go_upto_region 2 with (at_builtin; refine list_times (l := []) rfl _ _ rfl rfl rfl (OwnT.nil W0 W0.heap.size) HQ0.out (Nat.le_refl _) (by simp; have := HLQ.out; omega) W0 (Below.refl _ _) ?_; intro y w1 ho1 hb1; try (replace ho1 : OwnT w1 W0.heap.size y q := ho1); try (obtain ⟨Ay, cy, rfl⟩ := own_slice0 ho1); have HB1 := Lib.hid hb1; have HO1 := Lib.hid ho1; try (have hfz := D.Box.frozen (D.Box.belowAll HX0.out hb1) 16); try (have hcz : w1.cell? ⟨w.heap.size, 16, none⟩ = some v := by (rw [D.Box.cell (D.Box.belowAll HX0.out hb1) 16, ← D.Box.cell HX0.out 16]; exact hc16)); try clear hc16 hb1 ho1)
  have hx2 := (D.Box.belowAll HX0.out HB1.out).set 16 (Value.slice Ay q.length cy)
  rw [HPUT.out] at hx2
  have hz2 := (D.Box.belowAll HZ0.out HB1.out).far (show w.heap.size + 1 ≠ w.heap.size by omega) (i := 16) (Value.slice Ay q.length cy)
  have HZ2 := Lib.hid hz2
  clear hz2
  have HB2 := Lib.hid ((HB0.out.trans (HB1.out.mono HB0.out.size)).setCell (p := ⟨w.heap.size, 16, none⟩) (Nat.le_refl _) (Value.slice Ay q.length cy))
  have HO2 : Hid (OwnT (w1.setCell ⟨w.heap.size, 16, none⟩ (Value.slice Ay q.length cy)) (w.heap.size + 2) (Value.slice Ay q.length cy) q) := Lib.hid (by
    have h := ownsRow_setCell_below HO1.out (a := ⟨w.heap.size, 16, none⟩) (by show w.heap.size < W0.heap.size; have := HS0.out; omega) (Value.slice Ay q.length cy)
    rw [HS0.out] at h
    exact h)
  clear hfz hcz HZ0
  generalize w1.setCell ⟨w.heap.size, 16, none⟩ (Value.slice Ay q.length cy) = w2 at *
  have hlen := HLEN.out (Value.slice Ay q.length cy)
  have HCV2 := Lib.hid (HCV.out (Value.slice Ay q.length cy)); have HBU2 := Lib.hid (HBU.out (Value.slice Ay q.length cy))
  have hcl := HCL.out (Value.slice Ay q.length cy); have hco := HCO.out (Value.slice Ay q.length cy) rfl
  rw [HRV.out] at HBU2
  clear HCV HLEN HPUT HB1 HO1 HBU HCL HCO HRV
  generalize rowC r (Value.slice Ay q.length cy) = CY at *
  generalize courseC r (Value.slice Ay q.length cy) [] = CC at *
  have HL2 : Hid (LoadIs w2 33 w.heap.size 0 (.agg CY.toArray)) := Lib.hid (load_of hx2 0 17 CY (fun j u hj => by rw [Nat.zero_add]; exact hj) und_row size_row hlen)
  have hs2 : StoreIs w2 68 (w.heap.size + 1) 0 (.agg CC.toArray) (w2.setRow (w.heap.size + 1) CC.toArray) := store_all HZ2.out (by rw [hcl]; rfl) (by rw [size_course, hcl]) hco
  have hx3 := HZ2.out.setRow CC.toArray
  have HB3 := Lib.hid (below_setRow HB2.out (Nat.le_succ _) CC.toArray)
  have HO3 := Lib.hid (own_row HO2.out (show w.heap.size + 1 < w.heap.size + 2 by omega) CC.toArray rfl)
  obtain ⟨w3, hw3⟩ : ∃ w3, w3 = w2.setRow (w.heap.size + 1) CC.toArray := ⟨_, rfl⟩
  rw [← hw3] at hs2 hx3 HB3 HO3
  have HL3 := Lib.hid (loadVar_of hx3 22 und_course size_course hcl)
  have HS2 := Lib.hid hs2
  clear hw3 hx2 hx3 hs2 hco HB2 HO2 HZ2
  go_wp2_with (first | refine list_load rfl _ rfl rfl HL2.out ?_ | refine list_build1 rfl _ rfl rfl HBU2.out ?_ | refine list_store rfl _ _ rfl rfl rfl HS2.out ?_)
  exact bodyPost_ret (v := .agg CC.toArray) (results_cell Tryd.results21 (by rfl) HL3.out) rfl ⟨⟨_, by rw [← HCV2.out], OwnT.low HO3.out (by omega)⟩, HB3.out⟩
end Go.Proofs.YthghcffibljclaaDoor
