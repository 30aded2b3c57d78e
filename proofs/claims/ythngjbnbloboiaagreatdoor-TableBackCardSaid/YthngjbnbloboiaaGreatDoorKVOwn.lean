/- A row with a queue of its own memory: walked. -/
import Derived.Test.YthngjbnbloboiaaGreatDoorKVTimes
import Derived.Test.YthngjbnbloboiaaGreatDoorKVRowF
namespace Go.Proofs.YthngjbnbloboiaaGreatDoor
open Go.RowKit

/-- Values stored over a part of a block. -/
theorem store_at {W : World} {g o : Nat} {t ty : TypeId} {cs : Array Value} {vs : List Value} (h : D.Box W g t cs) (hfit : o + vs.length ≤ cs.size) (hs : (Tryz.prog.info? ty).map (·.size) = some vs.length) (h1 : ∀ v ∈ vs, v.oneCell' = true) :
    StoreIs W ty g o (.agg vs.toArray) (W.setRow g (cs.toList.take o ++ vs ++ cs.toList.drop (o + vs.length)).toArray) := by
  have := run_storeCells_at Tryz.prog g o t vs 0 cs W h (by simpa using hfit) h1
  simp only [Nat.add_zero] at this
  cases hq : Tryz.prog.info? ty with
  | none => simp [hq] at hs
  | some i =>
    have hi : vs.toArray.size = i.size := by simp [hq] at hs; simp [hs]
    unfold StoreIs
    simp [Instr.storeAt, Instr.sureAddr, storeVar, sizeOf, typeInfo, hq, Value.cells, hi, this]
theorem store_all {W : World} {g : Nat} {t ty : TypeId} {cs : Array Value} {vs : List Value} (h : D.Box W g t cs) (hfit : vs.length = cs.size) (hs : (Tryz.prog.info? ty).map (·.size) = some vs.length) (h1 : ∀ v ∈ vs, v.oneCell' = true) :
    StoreIs W ty g 0 (.agg vs.toArray) (W.setRow g vs.toArray) := by
  have := store_at (o := 0) h (by omega) hs h1
  rw [List.take_zero, List.nil_append, Nat.zero_add, List.drop_of_length_le (by rw [Array.length_toList]; omega), List.append_nil] at this
  exact this
theorem rowC_one {r : RowZ} {v : Value} (hf : r.Fit) (hv : v.oneCell' = true) : ∀ u ∈ rowC r v, u.oneCell' = true := by
  obtain ⟨⟨n, o, L, t, ov, ca, re⟩, pa, nx, num, due, tr, q⟩ := r
  obtain ⟨⟨_, _, hl5⟩, _⟩ := hf
  obtain ⟨a, b, c, d, e, rfl⟩ := list_five hl5
  intro u hu
  simp only [rowC_all, List.mem_cons, List.not_mem_nil, or_false] at hu
  rcases hu with rfl | rfl | rfl | rfl | rfl | rfl | rfl | rfl | rfl | rfl | rfl | rfl | rfl | rfl | rfl | rfl | rfl <;> first | exact hv | rfl
theorem rowC_put {r : RowZ} (hf : r.Fit) (v y : Value) : (rowC r v).toArray.setIfInBounds 16 y = (rowC r y).toArray := by
  obtain ⟨⟨n, o, L, t, ov, ca, re⟩, pa, nx, num, due, tr, q⟩ := r
  obtain ⟨⟨_, _, hl5⟩, _⟩ := hf
  obtain ⟨a, b, c, d, e, rfl⟩ := list_five hl5
  rfl
abbrev zeroC : List Value := [.int .u32 0, .bool false, .int .u64 0, .int .u64 0, .int .u64 0, .int .u64 0, .int .u64 0, .int .i64 0, .int .i64 0, .int .i64 0, .int .i64 0, .bool false, .int .i64 0, .int .u64 0, .int .i64 0, .int .i64 0, .slice none 0 0]
theorem own_row {w w' : World} {base p : Nat} {e : TypeId} {size n : Nat} {v : Value} {xs : List Value} (h : w.ownsRow base e size v n xs) (hp : p < base) (cs : Array Value) (he : w' = w.setRow p cs) : w'.ownsRow base e size v n xs := by
  subst he
  refine ⟨h.1, ?_⟩
  rcases h.2 with h2 | ⟨g, cap, cur, hv, hg, hh, r⟩
  · exact .inl h2
  · exact .inr ⟨g, cap, cur, hv, hg, (setRow_other w p g cs (by omega)).trans hh, r⟩
set_option maxRecDepth 100000 in
set_option maxHeartbeats 2000000 in
theorem own_any (r : RowZ) (v : Value) (w : World) (hf : r.Fit) (hq : QR w v r.q) (hl : r.q.length ≤ 100) :
    Calls Tryz.prog 57 #[rowV r v] w fun e w' => (∃ v', e = .returned (rowV r v') ∧ OwnT w' w.heap.size v' r.q) ∧ Below w.heap.size w w' := by
  have hx0 := D.Box.new w 39 (rowC r v).toArray
  have hx1 := hx0.alloc (.cells zeroC.toArray 39)
  have hz1 : D.Box ((w.alloc (.cells (rowC r v).toArray 39)).alloc (.cells zeroC.toArray 39)) (w.heap.size + 1) 39 zeroC.toArray := by
    have := D.Box.new (w.alloc (.cells (rowC r v).toArray 39)) 39 zeroC.toArray
    rwa [World.size_alloc] at this
  have hb0 : Below w.heap.size w ((w.alloc (.cells (rowC r v).toArray 39)).alloc (.cells zeroC.toArray 39)) := ((Below.refl _ w).alloc (Nat.le_refl _) _).alloc (by simp) _
  have hs0 : ((w.alloc (.cells (rowC r v).toArray 39)).alloc (.cells zeroC.toArray 39)).heap.size = w.heap.size + 2 := by simp
  obtain ⟨W0, hW0⟩ : ∃ W : World, W = (w.alloc (.cells (rowC r v).toArray 39)).alloc (.cells zeroC.toArray 39) := ⟨_, rfl⟩
  rw [← hW0] at hx1 hz1 hb0 hs0
  have HF := Lib.hid hf; have HB0 := Lib.hid hb0; have HX0 := Lib.hid hx1; have HZ0 := Lib.hid hz1; have HQ0 := Lib.hid (hq.on hb0); have HS0 := Lib.hid hs0; have HLQ := Lib.hid hl
  have hc16 : W0.cell? ⟨w.heap.size, 16, none⟩ = some v := by rw [D.Box.cell hx1 16, List.getElem?_toArray]; exact rowC_nth hf v
  have HPUT := Lib.hid (rowC_put hf v); have HLEN := Lib.hid (rowC_len hf); have HONE := Lib.hid (fun y h => rowC_one (v := y) hf h)
  have HRV : Hid (∀ y, rowV r y = .agg (rowC r y).toArray) := Lib.hid (fun _ => rfl)
  rw [HRV.out v]
  generalize rowC r v = CS at *
  generalize r.q = q at *
  rw [hW0] at hc16
  clear hb0 hx0 hx1 hz1 hq hf hl
  go_enter Tryz.func57, Tryz.ntmps57
  go_upto_region 1 with fail
  rw [← hW0] at hc16 ⊢
  clear hW0 hs0
  go_upto_region 2 with (at_builtin; refine list_times (l := []) rfl _ _ rfl rfl rfl (OwnT.nil W0 W0.heap.size) HQ0.out (Nat.le_refl _) (by simp; have := HLQ.out; omega) W0 (Below.refl _ _) ?_; intro y w1 ho1 hb1; try (replace ho1 : OwnT w1 W0.heap.size y q := ho1); try (obtain ⟨Ay, cy, rfl⟩ := own_slice0 ho1); have HB1 := Lib.hid hb1; have HO1 := Lib.hid ho1; try (have hfz := D.Box.frozen (D.Box.belowAll HX0.out hb1) 16); try (have hcz : w1.cell? ⟨w.heap.size, 16, none⟩ = some v := by (rw [D.Box.cell (D.Box.belowAll HX0.out hb1) 16, ← D.Box.cell HX0.out 16]; exact hc16)); try clear hc16 hb1 ho1)
  have hx2 := (D.Box.belowAll HX0.out HB1.out).set 16 (Value.slice Ay q.length cy)
  rw [HPUT.out] at hx2
  have hz2 := (D.Box.belowAll HZ0.out HB1.out).far (show w.heap.size + 1 ≠ w.heap.size by omega) (i := 16) (Value.slice Ay q.length cy)
  have HB2 := Lib.hid ((HB0.out.trans (HB1.out.mono HB0.out.size)).setCell (p := ⟨w.heap.size, 16, none⟩) (Nat.le_refl _) (Value.slice Ay q.length cy))
  have HO2 : Hid (OwnT (w1.setCell ⟨w.heap.size, 16, none⟩ (Value.slice Ay q.length cy)) (w.heap.size + 2) (Value.slice Ay q.length cy) q) := Lib.hid (by
    have h := ownsRow_setCell_below HO1.out (a := ⟨w.heap.size, 16, none⟩) (by show w.heap.size < W0.heap.size; have := HS0.out; omega) (Value.slice Ay q.length cy)
    rw [HS0.out] at h
    exact h)
  clear hfz hcz
  generalize w1.setCell ⟨w.heap.size, 16, none⟩ (Value.slice Ay q.length cy) = w2 at *
  have hlen := HLEN.out (Value.slice Ay q.length cy)
  have hone := HONE.out (Value.slice Ay q.length cy) rfl
  have HRV2 := Lib.hid (HRV.out (Value.slice Ay q.length cy))
  clear HRV HONE HLEN HPUT HB1 HO1
  generalize rowC r (Value.slice Ay q.length cy) = CY at *
  have hl2 : LoadIs w2 39 w.heap.size 0 (.agg CY.toArray) := load_of hx2 0 17 CY (fun j u hj => by rw [Nat.zero_add]; exact hj) und_row size_row hlen
  have hs2 : StoreIs w2 39 (w.heap.size + 1) 0 (.agg CY.toArray) (w2.setRow (w.heap.size + 1) CY.toArray) := store_all hz2 (by rw [hlen]; rfl) (by rw [size_row, hlen]) hone
  have hx3 := hz2.setRow CY.toArray
  have HB3 := Lib.hid (below_setRow HB2.out (Nat.le_succ _) CY.toArray)
  have HO3 := Lib.hid (own_row HO2.out (show w.heap.size + 1 < w.heap.size + 2 by omega) CY.toArray rfl)
  obtain ⟨w3, hw3⟩ : ∃ w3, w3 = w2.setRow (w.heap.size + 1) CY.toArray := ⟨_, rfl⟩
  rw [← hw3] at hs2 hx3 HB3 HO3
  have hl3 := loadVar_of hx3 17 und_row size_row hlen
  clear hw3 hx2 hz2 hx3 hone HB2 HO2
  have HL2 := Lib.hid hl2; have HS2 := Lib.hid hs2
  clear hl2 hs2
  go_wp2_with (first | refine list_load rfl _ rfl rfl HL2.out ?_ | refine list_store rfl _ _ rfl rfl rfl HS2.out ?_)
  exact bodyPost_ret (v := .agg CY.toArray) (results_cell Tryz.results57 (by rfl) hl3) rfl ⟨⟨_, by rw [← HRV2.out], OwnT.low HO3.out (by omega)⟩, HB3.out⟩
end Go.Proofs.YthngjbnbloboiaaGreatDoor
