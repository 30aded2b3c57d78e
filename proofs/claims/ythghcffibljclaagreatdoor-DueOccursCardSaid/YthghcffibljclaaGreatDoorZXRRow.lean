/- The document's copy of a row, and whether two are one: walked. -/
import Derived.Test.YthghcffibljclaaGreatDoorZ6
import Derived.Test.YthghcffibljclaaGreatDoorZXStep
import Derived.Test.YthghcffibljclaaGreatDoorZVRise
namespace Go.Proofs.YthghcffibljclaaGreatDoor
open Go.RowKit

set_option maxRecDepth 100000 in
set_option maxHeartbeats 2000000 in
theorem rsame_any (r : RowZ) (v1 v2 : Value) (w : World) (hf : r.Fit) (h1 : QR w v1 r.q) (h2 : QR w v2 r.q) (hl : r.q.length ≤ 100) :
    Calls Tryz.prog 12 #[rowV r v1, rowV r v2] w fun e w' => e = .returned (.bool true) ∧ Below w.heap.size w w' := by
  have hx0 := (D.Box.new w 33 (rowC r v1).toArray).alloc (.cells (rowC r v2).toArray 33)
  have hy0 : D.Box ((w.alloc (.cells (rowC r v1).toArray 33)).alloc (.cells (rowC r v2).toArray 33)) (w.heap.size + 1) 33 (rowC r v2).toArray := by
    have := D.Box.new (w.alloc (.cells (rowC r v1).toArray 33)) 33 (rowC r v2).toArray
    rwa [World.size_alloc] at this
  have hb0 : Below w.heap.size w ((w.alloc (.cells (rowC r v1).toArray 33)).alloc (.cells (rowC r v2).toArray 33)) := ((Below.refl _ w).alloc (Nat.le_refl _) _).alloc (by simp) _
  obtain ⟨W0, hW0⟩ : ∃ W : World, W = (w.alloc (.cells (rowC r v1).toArray 33)).alloc (.cells (rowC r v2).toArray 33) := ⟨_, rfl⟩
  rw [← hW0] at hx0 hy0 hb0
  have HX := Lib.hid hx0; have HY := Lib.hid hy0; have HB0 := Lib.hid hb0; have HF := Lib.hid hf
  have hc1 := cellsF_of hf (row_range hx0); have hc2 := cellsF_of hf (row_range hy0)
  have a3 := hc1.q; have b3 := hc2.q
  rw [Nat.zero_add] at a3 b3
  obtain ⟨A1, k1, rfl, u1, u2, u3, u4⟩ := h1
  obtain ⟨A2, k2, rfl, s1, s2, s3, s4⟩ := h2
  have H1 := Lib.hid (u4.on hb0); have H2 := Lib.hid (s4.on hb0)
  have HRV : Hid (∀ v, rowV r v = .agg (rowC r v).toArray) := Lib.hid (fun _ => rfl)
  rw [HRV.out, HRV.out]
  obtain ⟨n, hn⟩ : ∃ n, r.q.length = n := ⟨_, rfl⟩
  rw [hn] at a3 b3 hW0 hl ⊢
  have HN := Lib.hid hn
  clear hx0 hy0 hb0 hc1 hc2 hf u1 u2 u3 u4 s1 s2 s3 s4 HRV hn
  go_enter Tryz.func12, Tryz.ntmps12
  go_upto_region 1 with fail
  rw [← hW0]
  clear hW0
  go_wp2_with fail
  go_loopw [16] (fun i wr => ∃ k : Nat, k ≤ n ∧ i = .int .i64 (k : Int) ∧ Below W0.heap.size W0 wr) (fun i _ => n - (intOf i).toNat)
  case atStart => exact ⟨0, Nat.zero_le _, rfl, Below.refl _ _⟩
  case round =>
    obtain ⟨k, hk, rfl, hb⟩ := hrel
    have HB := Lib.hid hb
    have HX7 := Lib.hid (D.Box.belowAll HX.out hb); have HY7 := Lib.hid (D.Box.belowAll HY.out hb)
    clear hb a3 b3
    by_cases hlt : k < n
    · obtain ⟨t, ht⟩ : ∃ t, r.q[k]? = some t := ⟨_, List.getElem?_eq_getElem (by have := HN.out; omega)⟩
      obtain ⟨b1, o1, rfl, hbl1, k1'⟩ := qr_at H1.out ht
      obtain ⟨b2, o2, rfl, hbl2, k2'⟩ := qr_at H2.out ht
      have e1 := (HB.out.cell (p := ⟨b1, o1 + k, none⟩) hbl1).trans k1'
      have e2 := (HB.out.cell (p := ⟨b2, o2 + k, none⟩) hbl2).trans k2'
      have a3 := (cellsF_of HF.out (row_range HX7.out)).q
      have b3 := (cellsF_of HF.out (row_range HY7.out)).q
      rw [Nat.zero_add, HN.out] at a3 b3
      have g1 : (0 : Int) ≤ (k : Int) := by omega
      have g2 : (k : Int) < (n : Int) := by omega
      clear ht hbl1 hbl2 k1' k2'
      go_wp2_with fail
      go_quiet (fail)
      go_wp2_with fail
      go_roundw
      case rel => exact ⟨k + 1, by omega, by go_num, bdrewN HB.out _⟩
      case measure => simp [intOf]; omega
    · have HLJ1 := Lib.hid (row_job HF.out HX7.out); have HLJ2 := Lib.hid (row_job HF.out HY7.out)
      have HLG1 := Lib.hid (row_going HF.out (row_range HX7.out)); have HLG2 := Lib.hid (row_going HF.out (row_range HY7.out))
      have hc1 := cellsF_of HF.out (row_range HX7.out); have hc2 := cellsF_of HF.out (row_range HY7.out)
      have a1 := hc1.pa; have a2 := hc1.nx; have b1 := hc2.pa; have b2 := hc2.nx
      rw [Nat.zero_add] at a1 a2 b1 b2
      have HBF := Lib.hid (HB0.out.trans (HB.out.mono HB0.out.size))
      have hf5 := HF.out.1.2.2
      clear hc1 hc2 HX7 HY7
      obtain ⟨⟨nn, ob, L, t, ov, ca, re⟩, pa, nx, num, due, tr, q⟩ := r
      simp only at hf5
      obtain ⟨a, b, c, d, e, rfl⟩ := list_five hf5
      rw [jobV_five] at HLJ1 HLJ2
      simp only at HLG1 HLG2 a1 a2 b1 b2
      clear hf5 H1 H2 HX HY HF HN
      go_wp2_with (first | refine list_load rfl _ rfl rfl HLJ1.out ?_ | refine list_load rfl _ rfl rfl HLJ2.out ?_ | refine list_loadw (by rfl) _ rfl rfl HLG1.out ?_ | refine list_loadw (by rfl) _ rfl rfl HLG2.out ?_)
      go_ret
      exact ⟨by first | rfl | simp, HBF.out⟩
end Go.Proofs.YthghcffibljclaaGreatDoor
