/- cut: eras cut off, of years, and of days. -/
import Derived.Test.YtnhbkfmaaannnaaDoorDCutM
namespace Go.Proofs.YtnhbkfmaaannnaaDoor
open Go.RowKit

theorem sidesOf (a b c : Int) (w : World) :
    Calls Tryd.prog 46 #[.agg #[.int .i64 a, .int .i64 b, .int .i64 c]] w fun e w' => e = .returned (.tuple #[.int .i64 a, .int .i64 b]) ∧ Below w.heap.size w w' := by
  go_enter Tryd.func46, Tryd.ntmps46
  go_wp2_with fail
  go_quiet (fail)
  go_wp2_with fail
  go_ret2
  exact ⟨rfl, bdrewN ((Below.refl _ w).alloc (Nat.le_refl _) _) _⟩
theorem sidesAt (a b c : Int) (w : World) :
    Calls Tryd.prog 49 #[.agg #[.int .i64 a, .int .i64 b, .int .i64 c]] w fun e w' => e = .returned (.tuple #[.int .i64 b, .int .i64 a]) ∧ Below w.heap.size w w' := by
  go_enter Tryd.func49, Tryd.ntmps49
  go_wp2_with fail
  go_quiet (fail)
  go_wp2_with fail
  go_ret2
  exact ⟨rfl, bdrewN ((Below.refl _ w).alloc (Nat.le_refl _) _) _⟩
theorem lfE_succ (sw : Bool) (x : Int) (k : Nat) : lfE sw x (k + 1) = lfE sw x k - cnE sw (lfE sw x k) k * ofE sw k := rfl
theorem whE_succ (sw : Bool) (x : Int) (k : Nat) : whE sw x (k + 1) = whE sw x k + cnE sw (lfE sw x k) k * ofE (!sw) k := rfl
theorem cnE_eq (sw : Bool) (l : Int) (k : Nat) : cnE sw l k = min (l / ofE sw k) (moE k) := rfl
def eraA : Array Value := #[.int .i64 400, .int .i64 146097, .int .i64 20, .int .i64 100, .int .i64 36524, .int .i64 3, .int .i64 4, .int .i64 1461, .int .i64 24, .int .i64 1, .int .i64 365, .int .i64 3]
theorem index_era (k : Nat) (hk : k < 4) (w : World) : (Instr.index 90 (.agg eraA) (.int .i64 (k : Int))).run Tryd.prog w = .ok (.agg #[.int .i64 (eraC (3 * k)), .int .i64 (eraC (3 * k + 1)), .int .i64 (eraC (3 * k + 2))]) w := by
  rcases four_k hk with rfl | rfl | rfl | rfl <;>
  simp [Instr.index, asIntOf, Sem.run_bind, run_underlying Tryd.underlying90, Tryd.sizeOf84, Tryd.isAgg84, part, Result.andThen, eraA, eraC]
set_option maxRecDepth 100000 in
theorem cut_of (x : Int) (w : World) (hL : Laid w) (h0 : 0 ≤ x) (h1 : x ≤ 4000000) :
    Calls Tryd.prog 45 #[.int .i64 x, .func (.func 46) #[] #[]] w fun e w' => e = .returned (.tuple #[.int .i64 (whE false x 4), .int .i64 (lfE false x 4)]) ∧ Below w.heap.size w w' := by
  have hl := lfE_in false h0 h1
  have hw := whE_in false h0 h1
  have HLF := Lib.hid hl
  have HWH := Lib.hid hw
  clear hl hw
  have HL := Lib.hid hL
  have c0 : w.cell? ⟨0, 0, none⟩ = some (.int .i64 400) := hL.era 0 (by decide)
  have c1 : w.cell? ⟨0, 1, none⟩ = some (.int .i64 146097) := hL.era 1 (by decide)
  have c2 : w.cell? ⟨0, 2, none⟩ = some (.int .i64 20) := hL.era 2 (by decide)
  have c3 : w.cell? ⟨0, 3, none⟩ = some (.int .i64 100) := hL.era 3 (by decide)
  have c4 : w.cell? ⟨0, 4, none⟩ = some (.int .i64 36524) := hL.era 4 (by decide)
  have c5 : w.cell? ⟨0, 5, none⟩ = some (.int .i64 3) := hL.era 5 (by decide)
  have c6 : w.cell? ⟨0, 6, none⟩ = some (.int .i64 4) := hL.era 6 (by decide)
  have c7 : w.cell? ⟨0, 7, none⟩ = some (.int .i64 1461) := hL.era 7 (by decide)
  have c8 : w.cell? ⟨0, 8, none⟩ = some (.int .i64 24) := hL.era 8 (by decide)
  have c9 : w.cell? ⟨0, 9, none⟩ = some (.int .i64 1) := hL.era 9 (by decide)
  have c10 : w.cell? ⟨0, 10, none⟩ = some (.int .i64 365) := hL.era 10 (by decide)
  have c11 : w.cell? ⟨0, 11, none⟩ = some (.int .i64 3) := hL.era 11 (by decide)
  clear hL
  go_enter Tryd.func45, Tryd.ntmps45
  go_wp2_with fail
  clear c0 c1 c2 c3 c4 c5 c6 c7 c8 c9 c10 c11
  go_loopw [0, 4, 12] (fun l wh i wr => ∃ k : Nat, k ≤ 4 ∧ i = .int .i64 k ∧ l = .int .i64 (lfE false x k) ∧ wh = .int .i64 (whE false x k) ∧ Below w.heap.size w wr) (fun _ _ i _ => 4 - (intOf i).toNat)
  case atStart => exact ⟨0, by omega, rfl, rfl, rfl, Below.refl _ _⟩
  case round =>
    obtain ⟨k, hk, rfl, rfl, rfl, hB⟩ := hrel
    have hsz := hB.size
    have HB := Lib.hid hB
    clear hB
    by_cases hk4 : k < 4
    · have hix := index_era k hk4 wr
      obtain ⟨l0, l1⟩ := HLF.out k hk
      obtain ⟨h0', h1'⟩ := HWH.out k hk
      have hcn := cnE_in false hk4 l0
      have hel := lfE_succ false x k
      have hew := whE_succ false x k
      have hcd := cnE_eq false (lfE false x k) k
      have ha := ofE_in false hk4
      have hb := ofE_in true hk4
      have hm := moE_in hk4
      simp only [Bool.not_false] at hew hcn
      have e1 : eraC (3 * k) = ofE false k := rfl
      have e2 : eraC (3 * k + 1) = ofE true k := rfl
      have e3 : eraC (3 * k + 2) = moE k := rfl
      unfold eraA at hix
      rw [e1, e2, e3] at hix
      clear e1 e2 e3
      generalize ofE false k = a at *
      generalize ofE true k = b at *
      generalize moE k = c at *
      generalize hgl : lfE false x (k + 1) = l' at *
      generalize hgw : whE false x (k + 1) = wh' at *
      have HGL := Lib.hid hgl
      have HGW := Lib.hid hgw
      clear hgl hgw
      generalize lfE false x k = l at *
      generalize whE false x k = wh at *
      generalize cnE false l k = cn at *
      have i0 : (0 : Int) ≤ (k : Int) := by omega
      have i4 : (k : Int) < 4 := by omega
      have HEL := Lib.hid hel
      have HEW := Lib.hid hew
      have HCD := Lib.hid hcd
      clear hel hew hcd
      go_wp2_with fail
      refine (sidesOf a b c _).mono ?_
      rintro e w2 ⟨rfl, hb2⟩
      have hce : w2.cell? ⟨wr.heap.size, 2, none⟩ = some (.int .i64 c) := (hb2.cell (p := ⟨wr.heap.size, 2, none⟩) (by simp)).trans (by simp)
      have hBB : Below w.heap.size w w2 := HB.out.trans ((((Below.refl _ wr).alloc (Nat.le_refl _) _).trans (hb2.mono (by simp))).mono hsz)
      have HBB := Lib.hid hBB
      clear hb2 hBB hix HB
      obtain ⟨a0, a1⟩ := ha
      obtain ⟨n0, n1, n2, n3, n4, n5⟩ := hcn
      go_wp2_with fail
      go_region
      have hmin : (if c < l / a then c else l / a) = cn := by
        rw [HCD.out]
        split <;> omega
      rw [hmin]
      clear hmin
      go_wp2_with fail
      go_roundw
      case rel => exact ⟨k + 1, by omega, by go_num, by rw [← HEL.out, HGL.out], by rw [← HEW.out, HGW.out], HBB.out.drew⟩
      case measure => simp [intOf]; omega
    · obtain rfl : k = 4 := by omega
      go_wp2_with fail
      go_ret2
      exact ⟨rfl, HB.out⟩
set_option maxRecDepth 100000 in
theorem cut_at (x : Int) (w : World) (hL : Laid w) (h0 : 0 ≤ x) (h1 : x ≤ 4000000) :
    Calls Tryd.prog 45 #[.int .i64 x, .func (.func 49) #[] #[]] w fun e w' => e = .returned (.tuple #[.int .i64 (whE true x 4), .int .i64 (lfE true x 4)]) ∧ Below w.heap.size w w' := by
  have hl := lfE_in true h0 h1
  have hw := whE_in true h0 h1
  have HLF := Lib.hid hl
  have HWH := Lib.hid hw
  clear hl hw
  have HL := Lib.hid hL
  have c0 : w.cell? ⟨0, 0, none⟩ = some (.int .i64 400) := hL.era 0 (by decide)
  have c1 : w.cell? ⟨0, 1, none⟩ = some (.int .i64 146097) := hL.era 1 (by decide)
  have c2 : w.cell? ⟨0, 2, none⟩ = some (.int .i64 20) := hL.era 2 (by decide)
  have c3 : w.cell? ⟨0, 3, none⟩ = some (.int .i64 100) := hL.era 3 (by decide)
  have c4 : w.cell? ⟨0, 4, none⟩ = some (.int .i64 36524) := hL.era 4 (by decide)
  have c5 : w.cell? ⟨0, 5, none⟩ = some (.int .i64 3) := hL.era 5 (by decide)
  have c6 : w.cell? ⟨0, 6, none⟩ = some (.int .i64 4) := hL.era 6 (by decide)
  have c7 : w.cell? ⟨0, 7, none⟩ = some (.int .i64 1461) := hL.era 7 (by decide)
  have c8 : w.cell? ⟨0, 8, none⟩ = some (.int .i64 24) := hL.era 8 (by decide)
  have c9 : w.cell? ⟨0, 9, none⟩ = some (.int .i64 1) := hL.era 9 (by decide)
  have c10 : w.cell? ⟨0, 10, none⟩ = some (.int .i64 365) := hL.era 10 (by decide)
  have c11 : w.cell? ⟨0, 11, none⟩ = some (.int .i64 3) := hL.era 11 (by decide)
  clear hL
  go_enter Tryd.func45, Tryd.ntmps45
  go_wp2_with fail
  clear c0 c1 c2 c3 c4 c5 c6 c7 c8 c9 c10 c11
  go_loopw [0, 4, 12] (fun l wh i wr => ∃ k : Nat, k ≤ 4 ∧ i = .int .i64 k ∧ l = .int .i64 (lfE true x k) ∧ wh = .int .i64 (whE true x k) ∧ Below w.heap.size w wr) (fun _ _ i _ => 4 - (intOf i).toNat)
  case atStart => exact ⟨0, by omega, rfl, rfl, rfl, Below.refl _ _⟩
  case round =>
    obtain ⟨k, hk, rfl, rfl, rfl, hB⟩ := hrel
    have hsz := hB.size
    have HB := Lib.hid hB
    clear hB
    by_cases hk4 : k < 4
    · have hix := index_era k hk4 wr
      obtain ⟨l0, l1⟩ := HLF.out k hk
      obtain ⟨h0', h1'⟩ := HWH.out k hk
      have hcn := cnE_in true hk4 l0
      have hel := lfE_succ true x k
      have hew := whE_succ true x k
      have hcd := cnE_eq true (lfE true x k) k
      have ha := ofE_in true hk4
      have hb := ofE_in false hk4
      have hm := moE_in hk4
      simp only [Bool.not_true] at hew hcn
      have e1 : eraC (3 * k) = ofE false k := rfl
      have e2 : eraC (3 * k + 1) = ofE true k := rfl
      have e3 : eraC (3 * k + 2) = moE k := rfl
      unfold eraA at hix
      rw [e1, e2, e3] at hix
      clear e1 e2 e3
      generalize ofE true k = a at *
      generalize ofE false k = b at *
      generalize moE k = c at *
      generalize hgl : lfE true x (k + 1) = l' at *
      generalize hgw : whE true x (k + 1) = wh' at *
      have HGL := Lib.hid hgl
      have HGW := Lib.hid hgw
      clear hgl hgw
      generalize lfE true x k = l at *
      generalize whE true x k = wh at *
      generalize cnE true l k = cn at *
      have i0 : (0 : Int) ≤ (k : Int) := by omega
      have i4 : (k : Int) < 4 := by omega
      have HEL := Lib.hid hel
      have HEW := Lib.hid hew
      have HCD := Lib.hid hcd
      clear hel hew hcd
      go_wp2_with fail
      refine (sidesAt b a c _).mono ?_
      rintro e w2 ⟨rfl, hb2⟩
      have hce : w2.cell? ⟨wr.heap.size, 2, none⟩ = some (.int .i64 c) := (hb2.cell (p := ⟨wr.heap.size, 2, none⟩) (by simp)).trans (by simp)
      have hBB : Below w.heap.size w w2 := HB.out.trans ((((Below.refl _ wr).alloc (Nat.le_refl _) _).trans (hb2.mono (by simp))).mono hsz)
      have HBB := Lib.hid hBB
      clear hb2 hBB hix HB
      obtain ⟨a0, a1⟩ := ha
      obtain ⟨n0, n1, n2, n3, n4, n5⟩ := hcn
      go_wp2_with fail
      go_region
      have hmin : (if c < l / a then c else l / a) = cn := by
        rw [HCD.out]
        split <;> omega
      rw [hmin]
      clear hmin
      go_wp2_with fail
      go_roundw
      case rel => exact ⟨k + 1, by omega, by go_num, by rw [← HEL.out, HGL.out], by rw [← HEW.out, HGW.out], HBB.out.drew⟩
      case measure => simp [intOf]; omega
    · obtain rfl : k = 4 := by omega
      go_wp2_with fail
      go_ret2
      exact ⟨rfl, HB.out⟩
end Go.Proofs.YtnhbkfmaaannnaaDoor
