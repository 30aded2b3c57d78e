/- Compare of the document. -/
import Derived.Test.YtglmonjpcgadnaaDoorDCmp
import Derived.Deep.RegionHeld3
namespace Go.Proofs.YtglmonjpcgadnaaDoor
open Go.RowKit

def tri (y m d : Int) (k : Nat) : Int := if k = 0 then y else if k = 1 then m else d
theorem tri_lt {y m d y' m' d' : Int} {k : Nat} (hk : k < 3) (he : ∀ j, j < k → tri y m d j = tri y' m' d' j) (h : tri y m d k < tri y' m' d' k) : cmpZ y m d y' m' d' = -1 := by
  have h3 : k = 0 ∨ k = 1 ∨ k = 2 := by omega
  refine cmpZ_lt.2 ?_
  rcases h3 with rfl | rfl | rfl
  · exact Or.inl h
  · have h0 := he 0 (by omega)
    exact Or.inr ⟨h0, Or.inl h⟩
  · have h0 := he 0 (by omega)
    have h1 := he 1 (by omega)
    exact Or.inr ⟨h0, Or.inr ⟨h1, h⟩⟩
theorem tri_gt {y m d y' m' d' : Int} {k : Nat} (hk : k < 3) (he : ∀ j, j < k → tri y m d j = tri y' m' d' j) (h : tri y' m' d' k < tri y m d k) : cmpZ y m d y' m' d' = 1 := by
  have := tri_lt hk (fun j hj => (he j hj).symm) h
  exact cmpZ_gt.2 (cmpZ_lt.1 this)
theorem tri_eq {y m d y' m' d' : Int} (he : ∀ j, j < 3 → tri y m d j = tri y' m' d' j) : cmpZ y m d y' m' d' = 0 :=
  cmpZ_eq.2 ⟨he 0 (by omega), he 1 (by omega), he 2 (by omega)⟩
theorem three_cells {w : World} {p : Nat} {t : TypeId} {y m d : Int} (h : w.heap[p]? = some (.cells #[.int .i64 y, .int .i64 m, .int .i64 d] t (0, 0))) (k : Nat) (hk : k < 3) : w.cell? ⟨p, k, none⟩ = some (.int .i64 (tri y m d k)) := by
  rw [cell_of_row w p k _ t (0, 0) h]
  have h3 : k = 0 ∨ k = 1 ∨ k = 2 := by omega
  rcases h3 with rfl | rfl | rfl <;> rfl
theorem two_new (W : World) (o1 o2 : Obj) : ((W.alloc o1).alloc o2).drew.heap[W.heap.size]? = some o1 ∧ ((W.alloc o1).alloc o2).drew.heap[W.heap.size + 1]? = some o2 := by
  constructor
  · exact (Below.heap_alloc (W.alloc o1) o2 W.heap.size (by simp)).trans (heap_alloc_new W o1)
  · have h := heap_alloc_new (W.alloc o1) o2
    have e : (W.alloc o1).heap.size = W.heap.size + 1 := by simp
    rw [e] at h
    exact h
set_option maxHeartbeats 2000000 in
set_option maxRecDepth 100000 in
theorem compareR_any (y m d y' m' d' : Int) (w : World) :
    Calls Tryd.prog 13 #[dateV y m d, dateV y' m' d'] w fun e w' => e = .returned (.int .i64 (cmpZ y m d y' m' d')) ∧ Below w.heap.size w w' := by
  have h0 : Below w.heap.size w ((w.alloc (dateO y m d)).alloc (dateO y' m' d')) := ((Below.refl _ w).alloc (Nat.le_refl _) _).alloc (by simp) _
  have hz : ((w.alloc (dateO y m d)).alloc (dateO y' m' d')).heap.size = w.heap.size + 2 := by simp
  have c0 : ((w.alloc (dateO y m d)).alloc (dateO y' m' d')).cell? ⟨w.heap.size, 0, none⟩ = some (.int .i64 y) := by unfold dateO; simp
  have c1 : ((w.alloc (dateO y m d)).alloc (dateO y' m' d')).cell? ⟨w.heap.size, 1, none⟩ = some (.int .i64 m) := by unfold dateO; simp
  have c2 : ((w.alloc (dateO y m d)).alloc (dateO y' m' d')).cell? ⟨w.heap.size, 2, none⟩ = some (.int .i64 d) := by unfold dateO; simp
  have c3 : ((w.alloc (dateO y m d)).alloc (dateO y' m' d')).cell? ⟨w.heap.size + 1, 0, none⟩ = some (.int .i64 y') := by unfold dateO; simp
  have c4 : ((w.alloc (dateO y m d)).alloc (dateO y' m' d')).cell? ⟨w.heap.size + 1, 1, none⟩ = some (.int .i64 m') := by unfold dateO; simp
  have c5 : ((w.alloc (dateO y m d)).alloc (dateO y' m' d')).cell? ⟨w.heap.size + 1, 2, none⟩ = some (.int .i64 d') := by unfold dateO; simp
  unfold dateV
  unfold dateO at *
  go_enter Tryd.func13, Tryd.ntmps13
  go_wp2_with fail
  generalize hW : (w.alloc (Obj.cells #[Value.int IntKind.i64 y, Value.int IntKind.i64 m, Value.int IntKind.i64 d] 26)).alloc (Obj.cells #[Value.int IntKind.i64 y', Value.int IntKind.i64 m', Value.int IntKind.i64 d'] 26) = W at *
  have KS : ∀ w', Below W.heap.size W w' → w'.cell? ⟨w.heap.size, 0, none⟩ = some (.int .i64 y) ∧ w'.cell? ⟨w.heap.size, 1, none⟩ = some (.int .i64 m) ∧ w'.cell? ⟨w.heap.size, 2, none⟩ = some (.int .i64 d) ∧ w'.cell? ⟨w.heap.size + 1, 0, none⟩ = some (.int .i64 y') ∧ w'.cell? ⟨w.heap.size + 1, 1, none⟩ = some (.int .i64 m') ∧ w'.cell? ⟨w.heap.size + 1, 2, none⟩ = some (.int .i64 d') := fun w' hb =>
    have q0 : w.heap.size < W.heap.size := by omega
    have q1 : w.heap.size + 1 < W.heap.size := by omega
    ⟨(hb.cell (p := ⟨_, 0, none⟩) q0).trans c0, (hb.cell (p := ⟨_, 1, none⟩) q0).trans c1, (hb.cell (p := ⟨_, 2, none⟩) q0).trans c2, (hb.cell (p := ⟨_, 0, none⟩) q1).trans c3, (hb.cell (p := ⟨_, 1, none⟩) q1).trans c4, (hb.cell (p := ⟨_, 2, none⟩) q1).trans c5⟩
  have HK := Lib.hid KS
  have H0 := Lib.hid h0
  have HZ := Lib.hid hz
  clear h0 hz hW KS c0 c1 c2 c3 c4 c5
  go_region_held3 (fun w' => w'.cell? ⟨w.heap.size, 0, none⟩ = some (.int .i64 y) ∧ w'.cell? ⟨w.heap.size, 1, none⟩ = some (.int .i64 m) ∧ w'.cell? ⟨w.heap.size, 2, none⟩ = some (.int .i64 d) ∧ w'.cell? ⟨w.heap.size + 1, 0, none⟩ = some (.int .i64 y') ∧ w'.cell? ⟨w.heap.size + 1, 1, none⟩ = some (.int .i64 m') ∧ w'.cell? ⟨w.heap.size + 1, 2, none⟩ = some (.int .i64 d')) ((refine HK.out _ ?_; repeat (first | exact Below.refl _ _ | refine Below.drew ?_ | refine Below.setCell ?_ (by simp) _ | refine Below.alloc ?_ (by simp) _ ))) (first | fail | fail)
  · rename_i hHeld
    clear hHeld
    have hA : (((W.alloc (Obj.cells #[Value.int IntKind.i64 y, Value.int IntKind.i64 m, Value.int IntKind.i64 d] 49)).alloc (Obj.cells #[Value.int IntKind.i64 y', Value.int IntKind.i64 m', Value.int IntKind.i64 d'] 49)).drew).heap[W.heap.size]? = some (.cells #[Value.int IntKind.i64 y, Value.int IntKind.i64 m, Value.int IntKind.i64 d] 49 (0, 0)) := (two_new W _ _).1
    have hB : (((W.alloc (Obj.cells #[Value.int IntKind.i64 y, Value.int IntKind.i64 m, Value.int IntKind.i64 d] 49)).alloc (Obj.cells #[Value.int IntKind.i64 y', Value.int IntKind.i64 m', Value.int IntKind.i64 d'] 49)).drew).heap[W.heap.size + 1]? = some (.cells #[Value.int IntKind.i64 y', Value.int IntKind.i64 m', Value.int IntKind.i64 d'] 49 (0, 0)) := (two_new W _ _).2
    have hb : Below w.heap.size w (((W.alloc (Obj.cells #[Value.int IntKind.i64 y, Value.int IntKind.i64 m, Value.int IntKind.i64 d] 49)).alloc (Obj.cells #[Value.int IntKind.i64 y', Value.int IntKind.i64 m', Value.int IntKind.i64 d'] 49)).drew) := (((H0.out).alloc (by rw [HZ.out]; omega) _).alloc (by simp; rw [HZ.out]; omega) _).drew
    generalize ((W.alloc (Obj.cells #[Value.int IntKind.i64 y, Value.int IntKind.i64 m, Value.int IntKind.i64 d] 49)).alloc (Obj.cells #[Value.int IntKind.i64 y', Value.int IntKind.i64 m', Value.int IntKind.i64 d'] 49)).drew = WX at *
    generalize W.heap.size + 1 = pB at *
    generalize W.heap.size = pA at *
    have HA := Lib.hid (three_cells hA)
    have HB := Lib.hid (three_cells hB)
    have HBW := Lib.hid hb
    clear hA hB hb H0 HZ HK
    go_wp2_with fail
    go_loopw [22] (fun i wr => ∃ k : Nat, k ≤ 3 ∧ i = .int .i64 k ∧ (∀ j, j < k → tri y m d j = tri y' m' d' j) ∧ Below w.heap.size w wr ∧ (∀ k, k < 3 → wr.cell? ⟨pA, k, none⟩ = some (.int .i64 (tri y m d k))) ∧ (∀ k, k < 3 → wr.cell? ⟨pB, k, none⟩ = some (.int .i64 (tri y' m' d' k)))) (fun i _ => 3 - (intOf i).toNat)
    case atStart => exact ⟨0, by omega, rfl, fun j hj => absurd hj (by omega), HBW.out, HA.out, HB.out⟩
    case round =>
      obtain ⟨k, hk, rfl, he, hbr, hAr, hBr⟩ := hrel
      clear HA HB HBW
      have HE := Lib.hid he
      have HBR := Lib.hid hbr
      have HA := Lib.hid hAr
      have HB := Lib.hid hBr
      clear he hbr hAr hBr
      by_cases hk3 : k < 3
      · have cA := HA.out k hk3
        have cB := HB.out k hk3
        have i0 : (0 : Int) ≤ (k : Int) := by omega
        have i3 : (k : Int) < 3 := by omega
        generalize hx : tri y m d k = x at *
        generalize hx' : tri y' m' d' k = x' at *
        have HX := Lib.hid hx
        have HX' := Lib.hid hx'
        clear hx hx'
        by_cases hlt : x < x'
        · go_wp2_with fail
          go_quiet (fail)
          go_wp2_with fail
          go_ret
          exact ⟨ret_int (tri_lt hk3 HE.out (by rw [HX.out, HX'.out]; exact hlt)).symm, bdrewN HBR.out _⟩
        · have hlt' : decide (x < x') = false := by simpa using hlt
          by_cases hgt : x' < x
          · go_wp2_with fail
            go_quiet (fail)
            go_wp2_with fail
            go_quiet (fail)
            go_wp2_with fail
            go_ret
            exact ⟨ret_int (tri_gt hk3 HE.out (by rw [HX.out, HX'.out]; exact hgt)).symm, bdrewN (bdrewN HBR.out _) _⟩
          · have hgt' : decide (x' < x) = false := by simpa using hgt
            go_wp2_with fail
            go_quiet (fail)
            go_wp2_with fail
            go_quiet (fail)
            go_wp2_with fail
            go_roundw
            case rel =>
              refine ⟨k + 1, by omega, by go_num, fun j hj => ?_, bdrewN HBR.out _, HA.out, HB.out⟩
              by_cases hjk : j < k
              · exact HE.out j hjk
              · obtain rfl : j = k := by omega
                rw [HX.out, HX'.out]; omega
            case measure => simp [intOf]; omega
      · obtain rfl : k = 3 := by omega
        go_wp2_with fail
        go_ret
        exact ⟨ret_int (tri_eq HE.out).symm, HBR.out⟩
  · rename_i hHeld
    clear hHeld
    have hA : (((W.alloc (Obj.cells #[Value.int IntKind.i64 y', Value.int IntKind.i64 m', Value.int IntKind.i64 d'] 49)).alloc (Obj.cells #[Value.int IntKind.i64 y, Value.int IntKind.i64 m, Value.int IntKind.i64 d] 49)).drew).heap[W.heap.size + 1]? = some (.cells #[Value.int IntKind.i64 y, Value.int IntKind.i64 m, Value.int IntKind.i64 d] 49 (0, 0)) := (two_new W _ _).2
    have hB : (((W.alloc (Obj.cells #[Value.int IntKind.i64 y', Value.int IntKind.i64 m', Value.int IntKind.i64 d'] 49)).alloc (Obj.cells #[Value.int IntKind.i64 y, Value.int IntKind.i64 m, Value.int IntKind.i64 d] 49)).drew).heap[W.heap.size]? = some (.cells #[Value.int IntKind.i64 y', Value.int IntKind.i64 m', Value.int IntKind.i64 d'] 49 (0, 0)) := (two_new W _ _).1
    have hb : Below w.heap.size w (((W.alloc (Obj.cells #[Value.int IntKind.i64 y', Value.int IntKind.i64 m', Value.int IntKind.i64 d'] 49)).alloc (Obj.cells #[Value.int IntKind.i64 y, Value.int IntKind.i64 m, Value.int IntKind.i64 d] 49)).drew) := (((H0.out).alloc (by rw [HZ.out]; omega) _).alloc (by simp; rw [HZ.out]; omega) _).drew
    generalize ((W.alloc (Obj.cells #[Value.int IntKind.i64 y', Value.int IntKind.i64 m', Value.int IntKind.i64 d'] 49)).alloc (Obj.cells #[Value.int IntKind.i64 y, Value.int IntKind.i64 m, Value.int IntKind.i64 d] 49)).drew = WX at *
    generalize W.heap.size + 1 = pA at *
    generalize W.heap.size = pB at *
    have HA := Lib.hid (three_cells hA)
    have HB := Lib.hid (three_cells hB)
    have HBW := Lib.hid hb
    clear hA hB hb H0 HZ HK
    go_wp2_with fail
    go_loopw [22] (fun i wr => ∃ k : Nat, k ≤ 3 ∧ i = .int .i64 k ∧ (∀ j, j < k → tri y m d j = tri y' m' d' j) ∧ Below w.heap.size w wr ∧ (∀ k, k < 3 → wr.cell? ⟨pA, k, none⟩ = some (.int .i64 (tri y m d k))) ∧ (∀ k, k < 3 → wr.cell? ⟨pB, k, none⟩ = some (.int .i64 (tri y' m' d' k)))) (fun i _ => 3 - (intOf i).toNat)
    case atStart => exact ⟨0, by omega, rfl, fun j hj => absurd hj (by omega), HBW.out, HA.out, HB.out⟩
    case round =>
      obtain ⟨k, hk, rfl, he, hbr, hAr, hBr⟩ := hrel
      clear HA HB HBW
      have HE := Lib.hid he
      have HBR := Lib.hid hbr
      have HA := Lib.hid hAr
      have HB := Lib.hid hBr
      clear he hbr hAr hBr
      by_cases hk3 : k < 3
      · have cA := HA.out k hk3
        have cB := HB.out k hk3
        have i0 : (0 : Int) ≤ (k : Int) := by omega
        have i3 : (k : Int) < 3 := by omega
        generalize hx : tri y m d k = x at *
        generalize hx' : tri y' m' d' k = x' at *
        have HX := Lib.hid hx
        have HX' := Lib.hid hx'
        clear hx hx'
        by_cases hlt : x < x'
        · go_wp2_with fail
          go_quiet (fail)
          go_wp2_with fail
          go_ret
          exact ⟨ret_int (tri_lt hk3 HE.out (by rw [HX.out, HX'.out]; exact hlt)).symm, bdrewN HBR.out _⟩
        · have hlt' : decide (x < x') = false := by simpa using hlt
          by_cases hgt : x' < x
          · go_wp2_with fail
            go_quiet (fail)
            go_wp2_with fail
            go_quiet (fail)
            go_wp2_with fail
            go_ret
            exact ⟨ret_int (tri_gt hk3 HE.out (by rw [HX.out, HX'.out]; exact hgt)).symm, bdrewN (bdrewN HBR.out _) _⟩
          · have hgt' : decide (x' < x) = false := by simpa using hgt
            go_wp2_with fail
            go_quiet (fail)
            go_wp2_with fail
            go_quiet (fail)
            go_wp2_with fail
            go_roundw
            case rel =>
              refine ⟨k + 1, by omega, by go_num, fun j hj => ?_, bdrewN HBR.out _, HA.out, HB.out⟩
              by_cases hjk : j < k
              · exact HE.out j hjk
              · obtain rfl : j = k := by omega
                rw [HX.out, HX'.out]; omega
            case measure => simp [intOf]; omega
      · obtain rfl : k = 3 := by omega
        go_wp2_with fail
        go_ret
        exact ⟨ret_int (tri_eq HE.out).symm, HBR.out⟩
end Go.Proofs.YtglmonjpcgadnaaDoor
