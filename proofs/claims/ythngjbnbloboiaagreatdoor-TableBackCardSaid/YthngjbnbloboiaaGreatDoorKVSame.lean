/- Whether tables are the same: walked, where they are. -/
import Derived.Test.YthngjbnbloboiaaGreatDoorK6
import Derived.Test.YthngjbnbloboiaaGreatDoorKVOwn
namespace Go.Proofs.YthngjbnbloboiaaGreatDoor
open Go.RowKit

theorem qr_arr {w : World} {A : Option Addr} {q : List Int} (h : Reads w A (q.map int1)) : ArrT w A q.length q :=
  ⟨rfl, fun i x hx => by
    obtain ⟨b, o, e, hl, hc⟩ := h i (int1 x) (by rw [List.getElem?_map, hx]; rfl)
    exact ⟨b, o, e, hl, hc⟩⟩
theorem row_going {W : World} {g : Nat} {r : RowZ} {v : Value} (hf : r.Fit) (h : W.rangeAt g 0 (rowC r v)) : LoadIs W 36 g 13 (.agg #[.int .u64 r.num, .int .i64 r.due, .int .i64 r.tr]) := by
  obtain ⟨d, hd, hr⟩ := und_going
  refine run_loadAt_mid W g 13 36 [.int .u64 r.num, .int .i64 r.due, .int .i64 r.tr] d (fun j u hj => ?_) hd hr (by rw [size_going]; rfl)
  obtain ⟨⟨n, o, L, t, ov, ca, re⟩, pa, nx, num, due, tr, q⟩ := r
  obtain ⟨⟨_, _, hl5⟩, _⟩ := hf
  obtain ⟨a, b, c, d', e, rfl⟩ := list_five hl5
  have hj3 := (List.getElem?_eq_some_iff.1 hj).1
  simp only [List.length_cons, List.length_nil] at hj3
  have hc : j = 0 ∨ j = 1 ∨ j = 2 := by omega
  rcases hc with rfl | rfl | rfl
  · have := h 13 u hj; rwa [Nat.zero_add] at this
  · have := h 14 u hj; rwa [Nat.zero_add] at this
  · have := h 15 u hj; rwa [Nat.zero_add] at this
set_option maxRecDepth 100000 in
set_option maxHeartbeats 2000000 in
theorem same1_any (r : RowZ) (v1 v2 : Value) (w : World) (hf : r.Fit) (h1 : QR w v1 r.q) (h2 : QR w v2 r.q) :
    Calls Tryz.prog 33 #[rowV r v1, rowV r v2] w fun e w' => e = .returned (.bool true) ∧ Below w.heap.size w w' := by
  have hx0 := (D.Box.new w 39 (rowC r v1).toArray).alloc (.cells (rowC r v2).toArray 39)
  have hy0 : D.Box ((w.alloc (.cells (rowC r v1).toArray 39)).alloc (.cells (rowC r v2).toArray 39)) (w.heap.size + 1) 39 (rowC r v2).toArray := by
    have := D.Box.new (w.alloc (.cells (rowC r v1).toArray 39)) 39 (rowC r v2).toArray
    rwa [World.size_alloc] at this
  have hb0 : Below w.heap.size w ((w.alloc (.cells (rowC r v1).toArray 39)).alloc (.cells (rowC r v2).toArray 39)) := ((Below.refl _ w).alloc (Nat.le_refl _) _).alloc (by simp) _
  obtain ⟨W0, hW0⟩ : ∃ W : World, W = (w.alloc (.cells (rowC r v1).toArray 39)).alloc (.cells (rowC r v2).toArray 39) := ⟨_, rfl⟩
  rw [← hW0] at hx0 hy0 hb0
  have HLJ1 := Lib.hid (row_job hf hx0); have HLJ2 := Lib.hid (row_job hf hy0)
  have HLG1 := Lib.hid (row_going hf (row_range hx0)); have HLG2 := Lib.hid (row_going hf (row_range hy0))
  have hc1 := cellsF_of hf (row_range hx0); have hc2 := cellsF_of hf (row_range hy0)
  have a1 := hc1.pa; have a2 := hc1.nx; have a3 := hc1.q; have b1 := hc2.pa; have b2 := hc2.nx; have b3 := hc2.q
  rw [Nat.zero_add] at a1 a2 a3 b1 b2 b3
  have HB0 := Lib.hid hb0
  obtain ⟨A1, k1, rfl, u1, u2, u3, u4⟩ := h1
  obtain ⟨A2, k2, rfl, s1, s2, s3, s4⟩ := h2
  have HEQ := Lib.hid (fun (W : World) (hb : Below w.heap.size w W) => equal_i64 A1 A2 r.q.length k1 k2 r.q W (by have := u1; omega) (qr_arr (u4.on hb)) (qr_arr (s4.on hb)))
  have hf5 := hf.1.2.2
  obtain ⟨⟨n, o, L, t, ov, ca, re⟩, pa, nx, num, due, tr, q⟩ := r
  simp only at hf5
  obtain ⟨a, b, c, d, e, rfl⟩ := list_five hf5
  rw [jobV_five] at HLJ1 HLJ2
  simp only at HLG1 HLG2 a1 a2 b1 b2 HEQ
  have HRV : Hid (∀ v, rowV ⟨⟨n, o, [a, b, c, d, e], t, ov, ca, re⟩, pa, nx, num, due, tr, q⟩ v = .agg (rowC ⟨⟨n, o, [a, b, c, d, e], t, ov, ca, re⟩, pa, nx, num, due, tr, q⟩ v).toArray) := Lib.hid (fun _ => rfl)
  rw [HRV.out, HRV.out]
  generalize (rowC ⟨⟨n, o, [a, b, c, d, e], t, ov, ca, re⟩, pa, nx, num, due, tr, q⟩ (.slice A1 q.length k1)).toArray = C1 at *
  generalize (rowC ⟨⟨n, o, [a, b, c, d, e], t, ov, ca, re⟩, pa, nx, num, due, tr, q⟩ (.slice A2 q.length k2)).toArray = C2 at *
  clear hx0 hy0 hb0 hc1 hc2 hf hf5 u1 u2 u3 u4 s1 s2 s3 s4 HRV
  go_enter Tryz.func33, Tryz.ntmps33
  go_upto_region 1 with fail
  rw [← hW0]
  clear hW0
  go_wp2_with (first | refine list_load rfl _ rfl rfl HLJ1.out ?_ | refine list_load rfl _ rfl rfl HLJ2.out ?_ | refine list_loadw (by rfl) _ rfl rfl HLG1.out ?_ | refine list_loadw (by rfl) _ rfl rfl HLG2.out ?_)
  refine (HEQ.out _ HB0.out).mono ?_
  rintro e w2 ⟨rfl, d2, rfl⟩
  have HB2 := Lib.hid (bdrewN HB0.out d2)
  clear a1 a2 a3 b1 b2 b3 HEQ
  go_wp2_with fail
  go_ret
  exact ⟨rfl, HB2.out⟩
end Go.Proofs.YthngjbnbloboiaaGreatDoor
