/- One's own row of the law: walked. -/
import Derived.Test.YthghcffibljclaaDoorRVOwnL
import Derived.Test.YthghcffibljclaaDoorRVOwn
namespace Go.Proofs.YthghcffibljclaaDoor
open Go.RowKit

set_option maxRecDepth 100000 in
set_option maxHeartbeats 2000000 in
theorem xown_any (r : RowZ) (v : Value) (w : World) (hf : r.Fit) (hq : QR w v r.q) :
    Calls Tryd.prog 7 #[rowV r v] w fun e w' => (∃ v', e = .returned (rowV (cutZ r) v') ∧ OwnT w' w.heap.size v' (cutZ r).q) ∧ Below w.heap.size w w' := by
  have hx0 := D.Box.new w 33 (rowC r v).toArray
  have hx1 := hx0.alloc (.cells zeroC.toArray 33)
  have hz1 : D.Box ((w.alloc (.cells (rowC r v).toArray 33)).alloc (.cells zeroC.toArray 33)) (w.heap.size + 1) 33 zeroC.toArray := by
    have := D.Box.new (w.alloc (.cells (rowC r v).toArray 33)) 33 zeroC.toArray
    rwa [World.size_alloc] at this
  have hb0 : Below w.heap.size w ((w.alloc (.cells (rowC r v).toArray 33)).alloc (.cells zeroC.toArray 33)) := ((Below.refl _ w).alloc (Nat.le_refl _) _).alloc (by simp) _
  have hs0 : ((w.alloc (.cells (rowC r v).toArray 33)).alloc (.cells zeroC.toArray 33)).heap.size = w.heap.size + 2 := by simp
  obtain ⟨W0, hW0⟩ : ∃ W : World, W = (w.alloc (.cells (rowC r v).toArray 33)).alloc (.cells zeroC.toArray 33) := ⟨_, rfl⟩
  rw [← hW0] at hx1 hz1 hb0 hs0
  have HF := Lib.hid hf; have HB0 := Lib.hid hb0; have HX0 := Lib.hid hx1; have HZ0 := Lib.hid hz1; have HS0 := Lib.hid hs0
  have hc16 : W0.cell? ⟨w.heap.size, 16, none⟩ = some v := by rw [D.Box.cell hx1 16, List.getElem?_toArray]; exact rowC_nth hf v
  obtain ⟨A, c, rfl, h1, h2, h3, h4⟩ := hq.on hb0
  have HCL := Lib.hid (clone_any (.slice A (min r.q.length 5) c) (r.q.take (min r.q.length 5)) W0 (qr_take h1 h2 h3 h4 _ (Nat.min_le_left _ _)) (by rw [List.length_take]; omega))
  have htk : r.q.take (min r.q.length 5) = r.q.take 5 := by rw [← List.take_take]; exact List.take_of_length_le (by rw [List.length_take]; omega)
  rw [htk] at HCL
  have HPUT := Lib.hid (rowC_put hf (.slice A r.q.length c)); have HLEN := Lib.hid (rowC_len hf); have HONE := Lib.hid (fun y h => rowC_one (v := y) hf h)
  have HRV : Hid (∀ y, rowV (cutZ r) y = .agg (rowC r y).toArray) := Lib.hid (fun _ => rfl)
  have hrv : rowV r (.slice A r.q.length c) = .agg (rowC r (.slice A r.q.length c)).toArray := rfl
  have hcq : (cutZ r).q = r.q.take 5 := rfl
  rw [hrv, hcq]
  generalize r.q.length = ql at *
  have hmin : min (ql : Int) 5 = ((min ql 5 : Nat) : Int) := by omega
  have hmx : ((min ql 5 : Nat) : Int) ≤ (c : Int) := by omega
  obtain ⟨mm, hmm⟩ : ∃ mm, min ql 5 = mm := ⟨_, rfl⟩
  rw [hmm] at HCL
  have HCL2 := Lib.hid (fun (k : Nat) (hk : k = mm) => (by rw [hk]; exact HCL.out : Calls Tryd.prog 18 #[.slice A k c] W0 fun e w' => (∃ v, e = .returned v ∧ OwnT w' W0.heap.size v (r.q.take 5)) ∧ Below W0.heap.size W0 w'))
  have HMM := Lib.hid hmm
  have hqc : (ql : Int) ≤ (c : Int) := by omega
  clear HCL hmin hmx hmm
  generalize r.q.take 5 = q5 at *
  generalize rowC r (.slice A ql c) = CS at *
  rw [hW0] at hc16
  clear hb0 hx0 hx1 hz1 hq hf h1 h2 h3 h4 htk hrv hcq
  go_enter Tryd.func7, Tryd.ntmps7
  go_upto_region 1 with fail
  rw [← hW0] at hc16 ⊢
  clear hW0 hs0
  go_wp2_with fail
  all_goals
    refine (HCL2.out _ (by have := HMM.out; omega)).mono ?_
    rintro e w1 ⟨⟨y, rfl, ho1⟩, hb1⟩
    obtain ⟨Ay, cy, rfl⟩ := own_slice0 ho1
    have HB1 := Lib.hid hb1; have HO1 := Lib.hid ho1
    have hfz := D.Box.frozen (D.Box.belowAll HX0.out hb1) 16
    have hcz : w1.cell? ⟨w.heap.size, 16, none⟩ = some (.slice A ql c) := (hb1.cell (p := ⟨w.heap.size, 16, none⟩) (D.Box.lt HX0.out)).trans hc16
    clear hc16 hb1 ho1 HCL2
    go_upto_region 2 with fail
    have hx2 := (D.Box.belowAll HX0.out HB1.out).set 16 (Value.slice Ay q5.length cy)
    rw [HPUT.out] at hx2
    have hz2 := (D.Box.belowAll HZ0.out HB1.out).far (show w.heap.size + 1 ≠ w.heap.size by omega) (i := 16) (Value.slice Ay q5.length cy)
    have HB2 := Lib.hid ((HB0.out.trans (HB1.out.mono HB0.out.size)).setCell (p := ⟨w.heap.size, 16, none⟩) (Nat.le_refl _) (Value.slice Ay q5.length cy))
    have HO2 : Hid (OwnT (w1.setCell ⟨w.heap.size, 16, none⟩ (Value.slice Ay q5.length cy)) (w.heap.size + 2) (Value.slice Ay q5.length cy) q5) := Lib.hid (by
      have h := ownsRow_setCell_below HO1.out (a := ⟨w.heap.size, 16, none⟩) (by show w.heap.size < W0.heap.size; have := HS0.out; omega) (Value.slice Ay q5.length cy)
      rw [HS0.out] at h
      exact h)
    clear hfz hcz
    generalize w1.setCell ⟨w.heap.size, 16, none⟩ (Value.slice Ay q5.length cy) = w2 at *
    have hlen := HLEN.out (Value.slice Ay q5.length cy)
    have hone := HONE.out (Value.slice Ay q5.length cy) rfl
    have HRV2 := Lib.hid (HRV.out (Value.slice Ay q5.length cy))
    clear HRV HONE HLEN HPUT HB1 HO1
    generalize rowC r (Value.slice Ay q5.length cy) = CY at *
    have HL2 := Lib.hid (load_of hx2 0 17 CY (fun j u hj => by rw [Nat.zero_add]; exact hj) und_row size_row hlen : LoadIs w2 33 w.heap.size 0 (.agg CY.toArray))
    have hs2 : StoreIs w2 33 (w.heap.size + 1) 0 (.agg CY.toArray) (w2.setRow (w.heap.size + 1) CY.toArray) := store_all hz2 (by rw [hlen]; rfl) (by rw [size_row, hlen]) hone
    have hx3 := hz2.setRow CY.toArray
    have HB3 := Lib.hid (below_setRow HB2.out (Nat.le_succ _) CY.toArray)
    have HO3 := Lib.hid (own_row HO2.out (show w.heap.size + 1 < w.heap.size + 2 by omega) CY.toArray rfl)
    obtain ⟨w3, hw3⟩ : ∃ w3, w3 = w2.setRow (w.heap.size + 1) CY.toArray := ⟨_, rfl⟩
    rw [← hw3] at hs2 hx3 HB3 HO3
    have HL3 := Lib.hid (loadVar_of hx3 17 und_row size_row hlen)
    have HS2 := Lib.hid hs2
    clear hw3 hx2 hz2 hx3 hone HB2 HO2 hs2
    go_wp2_with (first | refine list_load rfl _ rfl rfl HL2.out ?_ | refine list_store rfl _ _ rfl rfl rfl HS2.out ?_)
    exact bodyPost_ret (v := .agg CY.toArray) (results_cell Tryd.results7 (by rfl) HL3.out) rfl ⟨⟨_, by rw [← HRV2.out], OwnT.low HO3.out (by omega)⟩, HB3.out⟩
end Go.Proofs.YthghcffibljclaaDoor
