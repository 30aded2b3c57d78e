/- apart: a time by days, hours, minutes and seconds. -/
import Derived.Test.YtnhbkfmaaannnaaDoorEBase
import Derived.Test.YtnhbkfmaaannnaaDoorDBox
import Derived.Laws.OwnMore
import Derived.Laws.MakeOwn
import Derived.Laws.AppendOwn
import Derived.RangeFuncBox
import Derived.Maps.AppendAt
namespace Go.Proofs.YtnhbkfmaaannnaaDoor
open Go.RowKit

def unitC : Nat → Int | 0 => 86400 | 1 => 3600 | 2 => 60 | _ => 1
def remC (t : Int) : Nat → Int | 0 => t | 1 => t % 86400 | 2 => t % 3600 | 3 => t % 60 | _ => 0
def quoC (t : Int) (k : Nat) : Int := remC t k / unitC k
theorem unit_pos (k : Nat) : 1 ≤ unitC k := by unfold unitC; split <;> omega
theorem rem_in {t : Int} (h : TimeZ t) (k : Nat) : 0 ≤ remC t k ∧ remC t k ≤ 253402300799 := by
  unfold TimeZ at h; unfold remC; split <;> omega
theorem rem_next {t : Int} {k : Nat} (hk : k < 4) : remC t (k + 1) = remC t k % unitC k := by
  have hc : k = 0 ∨ k = 1 ∨ k = 2 ∨ k = 3 := by omega
  rcases hc with rfl | rfl | rfl | rfl <;> simp only [remC, unitC] <;> omega
def quoL (t : Int) (k : Nat) : List Value := (List.range k).map fun j => .int .i64 (quoC t j)
theorem quoL_len (t : Int) (k : Nat) : (quoL t k).length = k := by simp [quoL]
theorem quoL_next (t : Int) (k : Nat) : quoL t (k + 1) = quoL t k ++ [.int .i64 (quoC t k)] := by unfold quoL; rw [List.range_succ]; simp
theorem info_int : (Tryd.prog.info? 3).map (fun i => (i.zero, i.size, i.bytes)) = some (some (.int .i64 0), 1, 8) := by kernel_rfl
set_option maxRecDepth 100000 in
set_option maxHeartbeats 1000000 in
theorem apart_any (t : Int) (h : Nat) (w : World) (ht : TimeZ t) (hb : Box w h 2 #[.int .i64 86400, .int .i64 3600, .int .i64 60, .int .i64 1]) :
    Calls Tryd.prog 31 #[.int .i64 t, .slice (some ⟨h, 0, none⟩) 4 4] w fun e w' => ∃ v, e = .returned v ∧ w'.ownsRow w.heap.size 3 1 v 4 (quoL t 4) ∧ Below w.heap.size w w' := by
  obtain ⟨i0, hi, hz0, hz1, hz2⟩ := info_parts info_int
  have HB := Lib.hid hb
  have hlt := hb.lt
  clear hb
  go_enter Tryd.func31, Tryd.ntmps31
  go_wp2_with (at_make; refine wpList_make_own _ rfl _ _ 62 rfl w.heap.size 3 i0 (.int .i64 0) 1 Tryd.underlying62 hi hz0 hz1 _ _ _ 4 rfl rfl rfl (by rw [hz2]; omega) (by unfold maxLen; omega) (Nat.le_refl _) ?_; intro w1 hown hgrow)
  have hB1 : Below w.heap.size w w1 := (Below.refl w.heap.size w).grown hgrow (Nat.le_refl _) (fun j e => by cases e)
  have HB1 := Lib.hid hB1; have HO := Lib.hid hown
  clear hB1 hown hgrow
  go_loopw [0, 5, 13] (fun r v i wr => ∃ k : Nat, k ≤ 4 ∧ i = .int .i64 k ∧ r = .int .i64 (remC t k) ∧ wr.ownsRow w.heap.size 3 1 v k (quoL t k) ∧ Below w.heap.size w wr) (fun _ _ i _ => 4 - (intOf i).toNat)
  case atStart => exact ⟨0, by omega, rfl, rfl, HO.out, HB1.out⟩
  case round =>
    clear HB1 HO
    obtain ⟨k, hk, rfl, rfl, hrow, hB⟩ := hrel
    have HBr := Lib.hid hB; have HR := Lib.hid hrow
    by_cases hlt2 : k < 4
    · have hu : wr.cell? ⟨h, k, none⟩ = some (.int .i64 (unitC k)) := by
        rw [(HB.out.below hB hlt).cell k]
        have hc : k = 0 ∨ k = 1 ∨ k = 2 ∨ k = 3 := by omega
        rcases hc with rfl | rfl | rfl | rfl <;> rfl
      have hup := unit_pos k
      have hri := rem_in ht k
      have hrn := rem_next (t := t) hlt2
      have hq : remC t k / unitC k = quoC t k := rfl
      have hql := quoL_next t k
      have HRN := Lib.hid hrn; have HQ := Lib.hid hq; have HQL := Lib.hid hql
      have hz : (unitC k == 0) = false := by simp; omega
      have hsz := hB.size
      have hq0 : 0 ≤ remC t k / unitC k := Int.ediv_nonneg hri.1 (by omega)
      have hq1 : remC t k / unitC k ≤ 253402300799 := by
        have := Int.ediv_le_self (unitC k) hri.1
        omega
      obtain ⟨ri0, ri1⟩ := hri
      clear hrn hq hql hB hrow
      generalize hgn : remC t (k + 1) = r' at *
      have HGN := Lib.hid hgn
      clear hgn
      generalize remC t k = r at *
      generalize unitC k = u at *
      go_wp2_with (at_builtin; refine wpList_append_own _ rfl _ _ 62 rfl w.heap.size 3 i0 (.int .i64 0) 1 8 Tryd.underlying62 hi hz0 hz1 hz2 rfl (by decide) _ _ _ rfl (HR.out.alloc _) ⟨wr.heap.size, 0, none⟩ 1 1 [.int .i64 (r / u)] rfl rfl (cell_one_new _ _ _) (by simp [Value.oneCell']) (by unfold maxLen; omega) (by omega) (by simp; omega) ?_; intro v' w2 hown' hgrow' _)
      go_roundw
      case rel =>
        refine ⟨k + 1, by omega, by go_num, by rw [HGN.out, HRN.out], ?_, ?_⟩
        · rw [HQL.out, ← HQ.out]; exact hown'
        · exact (HBr.out.alloc hsz _).grown hgrow' (by simp; omega) (fun j e => (HR.out.lt j e).1)
      case measure => simp [intOf]; omega
    · obtain rfl : k = 4 := by omega
      clear hB hrow
      go_wp2_with fail
      go_ret
      exact ⟨_, rfl, HR.out, HBr.out⟩
/-- The four numbers, where they lie. -/
theorem own_cells {w : World} {base : Nat} {v : Value} {t : Int} (h : w.ownsRow base 3 1 v 4 (quoL t 4)) :
    ∃ g c, v = .slice (some ⟨g, 0, none⟩) 4 c ∧ base ≤ g ∧ g < w.heap.size ∧ w.cell? ⟨g, 0, none⟩ = some (.int .i64 (quoC t 0)) ∧ w.cell? ⟨g, 1, none⟩ = some (.int .i64 (quoC t 1)) ∧ w.cell? ⟨g, 2, none⟩ = some (.int .i64 (quoC t 2)) ∧ w.cell? ⟨g, 3, none⟩ = some (.int .i64 (quoC t 3)) := by
  obtain ⟨g, c, rfl⟩ := ownsRow_succ h
  have hl := h.lt g rfl
  exact ⟨g, c, rfl, hl.1, hl.2, h.cellAt 0 (by omega), h.cellAt 1 (by omega), h.cellAt 2 (by omega), h.cellAt 3 (by omega)⟩
theorem quo_is (t : Int) : quoC t 0 = t / 86400 ∧ quoC t 1 = t / 3600 % 24 ∧ quoC t 2 = t / 60 % 60 ∧ quoC t 3 = t % 60 := by
  show t / 86400 = _ ∧ t % 86400 / 3600 = _ ∧ t % 3600 / 60 = _ ∧ t % 60 / 1 = _
  omega
end Go.Proofs.YtnhbkfmaaannnaaDoor
