/- The document's fields of a cron, and the cron of fields: walked. -/
import Derived.Test.YtmjjdccpnepjjaaGreatDoorKGRMacro
namespace Go.Proofs.YtmjjdccpnepjjaaGreatDoor
open Go.RowKit

/-- A cron, and an array of five masks: five cells. -/
def fiveV (a b c d e : BitVec 64) : Value := .agg #[.int .u64 (U a), .int .u64 (U b), .int .u64 (U c), .int .u64 (U d), .int .u64 (U e)]
theorem below_five {B g : Nat} {a w : World} (h : Below B a w) (hg : B ≤ g) (u0 u1 u2 u3 u4 : Value) :
    Below B a (((((w.setCell ⟨g, 0, none⟩ u0).setCell ⟨g, 1, none⟩ u1).setCell ⟨g, 2, none⟩ u2).setCell ⟨g, 3, none⟩ u3).setCell ⟨g, 4, none⟩ u4) :=
  ((((h.setCell hg _).setCell hg _).setCell hg _).setCell hg _).setCell hg _
set_option maxRecDepth 100000 in
set_option maxHeartbeats 1000000 in
theorem rfields_any (a b c d e : BitVec 64) (w : World) :
    Calls Tryz.prog 39 #[fiveV a b c d e] w fun x w' => x = .returned (fiveV a b c d e) ∧ Below w.heap.size w w' := by
  unfold fiveV
  generalize U a = a; generalize U b = b; generalize U c = c; generalize U d = d; generalize U e = e
  go_enter Tryz.func39, Tryz.ntmps39
  go_wp2_with fail
  refine bodyPost_ret (v := .agg #[.int .u64 a, .int .u64 b, .int .u64 c, .int .u64 d, .int .u64 e]) (by simp [results, Tryz.results39, go_sem]) rfl ⟨rfl, ((Below.refl _ _).alloc (Nat.le_refl _) _).alloc (by simp) _⟩
set_option maxRecDepth 100000 in
set_option maxHeartbeats 1000000 in
theorem rofive_any (a b c d e : BitVec 64) (w : World) :
    Calls Tryz.prog 33 #[fiveV a b c d e] w fun x w' => x = .returned (fiveV a b c d e) ∧ Below w.heap.size w w' := by
  unfold fiveV
  generalize U a = a; generalize U b = b; generalize U c = c; generalize U d = d; generalize U e = e
  go_enter Tryz.func33, Tryz.ntmps33
  go_wp2_with fail
  refine bodyPost_ret (v := .agg #[.int .u64 a, .int .u64 b, .int .u64 c, .int .u64 d, .int .u64 e]) (by simp [results, Tryz.results33, go_sem]) rfl ⟨rfl, ((Below.refl _ _).alloc (Nat.le_refl _) _).alloc (by simp) _⟩
theorem index_five (a b c d e : BitVec 64) (k : Nat) (hk : k < 5) (w : World) : (Instr.index 74 (fiveV a b c d e) (.int .i64 (k : Int))).run Tryz.prog w = .ok (.int .u64 (U ([a, b, c, d, e].getD k 0#64))) w := by
  rcases five hk with rfl | rfl | rfl | rfl | rfl <;>
  simp [Instr.index, asIntOf, Sem.run_bind, run_underlying Tryz.underlying74, Tryz.sizeOf25, Tryz.isAgg25, Go.part, Result.andThen, fiveV]
def fiveB (a b c d e : BitVec 64) : Bool := fieldB 0 a && (fieldB 1 b && (fieldB 2 c && (fieldB 3 d && fieldB 4 e)))
theorem five_yes {a b c d e : BitVec 64} (h : ∀ j : Nat, j < 5 → fieldB j ([a, b, c, d, e].getD j 0#64) = true) : fiveB a b c d e = true := by
  have h0 := h 0 (by omega); have h1 := h 1 (by omega); have h2 := h 2 (by omega); have h3 := h 3 (by omega); have h4 := h 4 (by omega)
  simp at h0 h1 h2 h3 h4
  simp [fiveB, h0, h1, h2, h3, h4]
theorem five_no {a b c d e : BitVec 64} {j : Nat} (hj : j < 5) (h : fieldB j ([a, b, c, d, e].getD j 0#64) = false) : fiveB a b c d e = false := by
  rcases five hj with rfl | rfl | rfl | rfl | rfl <;> simp at h <;> simp [fiveB, h]
set_option maxRecDepth 100000 in
set_option maxHeartbeats 1000000 in
theorem rright7_any (a b c d e : BitVec 64) (w : World) :
    Calls Tryz.prog 16 #[fiveV a b c d e] w fun x w' => x = .returned (.bool (fiveB a b c d e)) ∧ Below w.heap.size w w' := by
  have HI := Lib.hid (fun (k : Nat) hk W => index_five a b c d e k hk W)
  have HF := Lib.hid (fun W => rfields_any a b c d e W)
  have HY := Lib.hid (five_yes (a := a) (b := b) (c := c) (d := d) (e := e))
  have HN := Lib.hid (fun (j : Nat) (hj : j < 5) => five_no (a := a) (b := b) (c := c) (d := d) (e := e) hj)
  generalize fiveB a b c d e = z at *
  generalize [a, b, c, d, e] = L at *
  unfold fiveV at *
  go_enter Tryz.func16, Tryz.ntmps16
  go_wp2_with fail
  refine (HF.out _).mono ?_
  rintro x w1 ⟨rfl, hb⟩
  have HB1 : Hid (Below w.heap.size w w1) := Lib.hid (((Below.refl _ w).alloc (Nat.le_refl _) _).trans (hb.mono (by simp)))
  clear hb
  go_wp2_with fail
  go_loopw [3, 4, 7] (fun k m i wr => ∃ j : Nat, j ≤ 5 ∧ i = .int .i64 (j : Int) ∧ Below w.heap.size w wr ∧ ∀ q : Nat, q < j → fieldB q (L.getD q 0#64) = true) (fun _ _ i _ => 5 - (intOf i).toNat)
  case atStart => exact ⟨0, by omega, rfl, HB1.out, fun q hq => by omega⟩
  case round =>
    obtain ⟨j, hj, rfl, hb, hall⟩ := hrel
    have HB := Lib.hid hb; have HA := Lib.hid hall
    clear hb hall
    by_cases hlt : j < 5
    · have hj5 : (j : Int) < 5 := by omega
      have hix := fun W => HI.out j hlt W
      have HR := Lib.hid (fun W => rright_any j (L.getD j 0#64) W hlt)
      have HN' := Lib.hid (HN.out j hlt)
      have HN2 : Hid (fieldB j (L.getD j 0#64) = true → ∀ q : Nat, q < j + 1 → fieldB q (L.getD q 0#64) = true) := Lib.hid (fun h q hq => by
        rcases Nat.lt_succ_iff_lt_or_eq.1 hq with h' | rfl
        · exact HA.out q h'
        · exact h)
      generalize L.getD j 0#64 = m at *
      generalize fieldB j m = y at *
      go_wp2_with fail
      refine (HR.out _).mono ?_
      rintro x w2 ⟨rfl, hb⟩
      have HB2 := Lib.hid (HB.out.trans (hb.mono HB.out.size))
      clear hb
      cases y with
      | true =>
        go_wp2_with fail
        go_roundw
        case rel => exact ⟨j + 1, by omega, by go_num, HB2.out, HN2.out (by simp)⟩
        case measure => simp [intOf]; omega
      | false =>
        go_wp2_with fail
        go_ret
        exact ⟨by rw [HN'.out (by simp)]; rfl, HB2.out⟩
    · have hj5 : j = 5 := by omega
      subst hj5
      go_wp2_with fail
      go_ret
      exact ⟨by rw [HY.out HA.out]; rfl, HB.out⟩
end Go.Proofs.YtmjjdccpnepjjaaGreatDoor
