/- slices.Sort of three: walked. -/
import Derived.Test.YtkimbmifabpppaaDoorKHSomeW
namespace Go.Proofs.YtkimbmifabpppaaDoor
open Go.RowKit

theorem less_i64 (a b : Int) (w : World) : Calls Tryd.prog 67 #[.int .i64 a, .int .i64 b] w fun e w' => e = .returned (.bool (decide (a < b))) ∧ w' = w := by
  go_enter Tryd.func67, Tryd.ntmps67
  go_wp2_with go_in
  go_ret
  exact ⟨rfl, rfl⟩
theorem Sole.drewN {g B : Nat} {a b : World} (h : Sole g B a b) (n : Nat) : Sole g B a (b.drewN n) := ⟨h.os, h.tape, h.output, h.size, h.block⟩
/-- How far the three are in order. -/
def Ord1 (i p q r : Int) : Prop := i = 1 ∨ (i = 2 ∧ p ≤ q) ∨ (i = 3 ∧ p ≤ q ∧ q ≤ r)
def Ord2 (i j p q r : Int) : Prop := (i = 1 ∧ j = 1) ∨ (i = 1 ∧ j = 0 ∧ p ≤ q) ∨ (i = 2 ∧ j = 2 ∧ p ≤ q) ∨ (i = 2 ∧ j = 1 ∧ p ≤ r ∧ q ≤ r) ∨ (i = 2 ∧ j = 0 ∧ p ≤ q ∧ q ≤ r)
set_option maxRecDepth 100000 in
set_option maxHeartbeats 2000000 in
theorem sort3_any (g : Nat) (ty : TypeId) (p q r : Int) (w : World) (hX : D.Box w g ty #[.int .i64 p, .int .i64 q, .int .i64 r]) :
    Calls Tryd.prog 61 #[.slice (some ⟨g, 0, none⟩) 3 3, .int .i64 0, .int .i64 3] w fun e w' => e = .returned (.tuple #[]) ∧ ∃ p q r : Int, D.Box w' g ty #[.int .i64 p, .int .i64 q, .int .i64 r] ∧ p ≤ q ∧ q ≤ r ∧ Sole g w.heap.size w w' := by
  have hlt := hX.lt
  have HX := Lib.hid hX
  clear hX
  go_enter Tryd.func61, Tryd.ntmps61
  go_wp2_with fail
  go_loopw [6] (fun i wr => ∃ i' p q r : Int, i = .int .i64 i' ∧ D.Box wr g ty #[.int .i64 p, .int .i64 q, .int .i64 r] ∧ Hid (Ord1 i' p q r) ∧ Sole g w.heap.size w wr) (fun i _ => (3 - intOf i).toNat)
  case atStart => exact ⟨1, p, q, r, rfl, HX.out, Lib.hid (.inl rfl), Sole.of (Below.refl _ _)⟩
  case round =>
    clear HX
    obtain ⟨i, p, q, r, rfl, hbx, HO, hs⟩ := hrel
    have HBX := Lib.hid hbx; have HS := Lib.hid hs
    clear hbx hs
    by_cases h3 : i = 3
    · subst h3
      have hpq : p ≤ q ∧ q ≤ r := by rcases HO.out with h | h | h <;> omega
      go_wp2_with fail
      go_end0
      exact ⟨rfl, p, q, r, HBX.out, hpq.1, hpq.2, HS.out⟩
    · have hi3 : i < 3 := by rcases HO.out with h | h | h <;> omega
      have hstart : Ord2 i i p q r := by unfold Ord2; rcases HO.out with h | h | h <;> omega
      have HO2 := Lib.hid hstart
      have hi1 : 1 ≤ i := by rcases HO.out with h | h | h <;> omega
      clear hstart h3 HO
      go_wp2_with fail
      generalize hwe : wr = we at *
      go_loopw [7] (fun j wr => ∃ j' p q r : Int, j = .int .i64 j' ∧ D.Box wr g ty #[.int .i64 p, .int .i64 q, .int .i64 r] ∧ Hid (Ord2 i j' p q r) ∧ Sole g w.heap.size w wr) (fun j _ => (intOf j).toNat)
      case atStart => exact ⟨i, p, q, r, rfl, HBX.out, HO2, HS.out⟩
      case round =>
        clear HBX HO2 HS
        obtain ⟨j, p, q, r, rfl, hbx, HO, hs⟩ := hrel
        have HBX := Lib.hid hbx; have HS := Lib.hid hs
        obtain ⟨x0, x1, x2, y0, y1, y2⟩ := D.Box.three hbx
        clear hbx hs
        rcases HO.out with ⟨rfl, rfl⟩ | ⟨rfl, rfl, h⟩ | ⟨rfl, rfl, h⟩ | ⟨rfl, rfl, h, h'⟩ | ⟨rfl, rfl, h, h'⟩
        · skip
          by_cases hl : q < p
          · have hd : decide (q < p) = true := decide_eq_true hl
            have HLS := Lib.hid (fun W => less_i64 q p W)
            rw [hd] at HLS
            go_wp2_with fail
            go_quiet ((go_at_call 67; with_reducible exact Calls.quiet_of_same (HLS.out _)))
            have HBX2 := Lib.hid (HBX.out.drewN nq); have HS2 := Lib.hid (HS.out.drewN nq)
            generalize wr.drewN nq = w4 at *
            clear HBX HS x0 x1 x2 y0 y1 y2
            obtain ⟨x0, x1, x2, y0, y1, y2⟩ := D.Box.three HBX2.out
            have HO3 : Hid (Ord2 1 0 q p r) := Lib.hid (by unfold Ord2; omega)
            go_wp2_with fail
            go_region
            go_wp2_with fail
            go_roundw
            case rel => exact ⟨0, q, p, r, rfl, (HBX2.out.set 1 (.int .i64 p)).set 0 (.int .i64 q), HO3, ((HS2.out.set (i := 1) _).set (i := 0) _).drew⟩
            case measure => simp [intOf]
          · have hd : decide (q < p) = false := decide_eq_false hl
            have HLS := Lib.hid (fun W => less_i64 q p W)
            rw [hd] at HLS
            go_wp2_with fail
            go_quiet ((go_at_call 67; with_reducible exact Calls.quiet_of_same (HLS.out _)))
            have HBX2 := Lib.hid (HBX.out.drewN nq); have HS2 := Lib.hid (HS.out.drewN nq)
            generalize wr.drewN nq = w4 at *
            clear HBX HS x0 x1 x2 y0 y1 y2
            have HO3 : Hid (Ord1 2 p q r) := Lib.hid (by unfold Ord1; omega)
            go_wp2_with fail
            go_roundw
            case rel => exact ⟨2, p, q, r, rfl, HBX2.out, HO3, HS2.out⟩
            case measure => simp [intOf]
        · skip
          go_wp2_with fail
          go_quiet (fail)
          have HBX2 := Lib.hid (HBX.out.drewN nq); have HS2 := Lib.hid (HS.out.drewN nq)
          generalize wr.drewN nq = w4 at *
          clear HBX HS x0 x1 x2 y0 y1 y2
          have HO3 : Hid (Ord1 2 p q r) := Lib.hid (by unfold Ord1; omega)
          go_wp2_with fail
          go_roundw
          case rel => exact ⟨2, p, q, r, rfl, HBX2.out, HO3, HS2.out⟩
          case measure => simp [intOf]
        · skip
          by_cases hl : r < q
          · have hd : decide (r < q) = true := decide_eq_true hl
            have HLS := Lib.hid (fun W => less_i64 r q W)
            rw [hd] at HLS
            go_wp2_with fail
            go_quiet ((go_at_call 67; with_reducible exact Calls.quiet_of_same (HLS.out _)))
            have HBX2 := Lib.hid (HBX.out.drewN nq); have HS2 := Lib.hid (HS.out.drewN nq)
            generalize wr.drewN nq = w4 at *
            clear HBX HS x0 x1 x2 y0 y1 y2
            obtain ⟨x0, x1, x2, y0, y1, y2⟩ := D.Box.three HBX2.out
            have HO3 : Hid (Ord2 2 1 p r q) := Lib.hid (by unfold Ord2; omega)
            go_wp2_with fail
            go_region
            go_wp2_with fail
            go_roundw
            case rel => exact ⟨1, p, r, q, rfl, (HBX2.out.set 2 (.int .i64 q)).set 1 (.int .i64 r), HO3, ((HS2.out.set (i := 2) _).set (i := 1) _).drew⟩
            case measure => simp [intOf]
          · have hd : decide (r < q) = false := decide_eq_false hl
            have HLS := Lib.hid (fun W => less_i64 r q W)
            rw [hd] at HLS
            go_wp2_with fail
            go_quiet ((go_at_call 67; with_reducible exact Calls.quiet_of_same (HLS.out _)))
            have HBX2 := Lib.hid (HBX.out.drewN nq); have HS2 := Lib.hid (HS.out.drewN nq)
            generalize wr.drewN nq = w4 at *
            clear HBX HS x0 x1 x2 y0 y1 y2
            have HO3 : Hid (Ord1 3 p q r) := Lib.hid (by unfold Ord1; omega)
            go_wp2_with fail
            go_roundw
            case rel => exact ⟨3, p, q, r, rfl, HBX2.out, HO3, HS2.out⟩
            case measure => simp [intOf]
        · skip
          by_cases hl : q < p
          · have hd : decide (q < p) = true := decide_eq_true hl
            have HLS := Lib.hid (fun W => less_i64 q p W)
            rw [hd] at HLS
            go_wp2_with fail
            go_quiet ((go_at_call 67; with_reducible exact Calls.quiet_of_same (HLS.out _)))
            have HBX2 := Lib.hid (HBX.out.drewN nq); have HS2 := Lib.hid (HS.out.drewN nq)
            generalize wr.drewN nq = w4 at *
            clear HBX HS x0 x1 x2 y0 y1 y2
            obtain ⟨x0, x1, x2, y0, y1, y2⟩ := D.Box.three HBX2.out
            have HO3 : Hid (Ord2 2 0 q p r) := Lib.hid (by unfold Ord2; omega)
            go_wp2_with fail
            go_region
            go_wp2_with fail
            go_roundw
            case rel => exact ⟨0, q, p, r, rfl, (HBX2.out.set 1 (.int .i64 p)).set 0 (.int .i64 q), HO3, ((HS2.out.set (i := 1) _).set (i := 0) _).drew⟩
            case measure => simp [intOf]
          · have hd : decide (q < p) = false := decide_eq_false hl
            have HLS := Lib.hid (fun W => less_i64 q p W)
            rw [hd] at HLS
            go_wp2_with fail
            go_quiet ((go_at_call 67; with_reducible exact Calls.quiet_of_same (HLS.out _)))
            have HBX2 := Lib.hid (HBX.out.drewN nq); have HS2 := Lib.hid (HS.out.drewN nq)
            generalize wr.drewN nq = w4 at *
            clear HBX HS x0 x1 x2 y0 y1 y2
            have HO3 : Hid (Ord1 3 p q r) := Lib.hid (by unfold Ord1; omega)
            go_wp2_with fail
            go_roundw
            case rel => exact ⟨3, p, q, r, rfl, HBX2.out, HO3, HS2.out⟩
            case measure => simp [intOf]
        · skip
          go_wp2_with fail
          go_quiet (fail)
          have HBX2 := Lib.hid (HBX.out.drewN nq); have HS2 := Lib.hid (HS.out.drewN nq)
          generalize wr.drewN nq = w4 at *
          clear HBX HS x0 x1 x2 y0 y1 y2
          have HO3 : Hid (Ord1 3 p q r) := Lib.hid (by unfold Ord1; omega)
          go_wp2_with fail
          go_roundw
          case rel => exact ⟨3, p, q, r, rfl, HBX2.out, HO3, HS2.out⟩
          case measure => simp [intOf]
theorem Sole.call {g B : Nat} {a b c : World} (h : Sole g B a b) (k : Sole g b.heap.size b c) (hB : B ≤ b.heap.size) : Sole g B a c := h.trans (k.mono hB)
end Go.Proofs.YtkimbmifabpppaaDoor
