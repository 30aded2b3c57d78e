/- The document's one text of a cron: walked. -/
import Derived.Test.YtmjjdccpnepjjaaGreatDoorKGRFields
namespace Go.Proofs.YtmjjdccpnepjjaaGreatDoor
open Go.RowKit

def outT (L : List (BitVec 64)) : Nat → List UInt8
  | 0 => []
  | j + 1 => (if 0 < j then outT L j ++ [32] else outT L j) ++ textL j (L.getD j 0#64)
theorem outT_five (a b c d e : BitVec 64) : outT [a, b, c, d, e] 5 = textC a b c d e := by simp [outT, textC]
theorem outT_len {L : List (BitVec 64)} (h : ∀ k, k < 5 → FieldM k (L.getD k 0#64)) : ∀ j, j ≤ 5 → (outT L j).length ≤ j * 120
  | 0, _ => by simp [outT]
  | j + 1, hj => by
    have h1 := outT_len h j (by omega)
    have h2 := text_top (show j < 5 by omega) (h j (by omega))
    have h3 : topL j ≤ 114 := by rcases five (show j < 5 by omega) with rfl | rfl | rfl | rfl | rfl <;> decide
    rw [outT, List.length_append]
    split
    · rw [List.length_append, List.length_singleton]; omega
    · omega
theorem text_len {L : List (BitVec 64)} (h : ∀ k, k < 5 → FieldM k (L.getD k 0#64)) {j : Nat} (hj : j < 5) : (textL j (L.getD j 0#64)).length ≤ 114 := by
  have h2 := text_top hj (h j hj)
  have h3 : topL j ≤ 114 := by rcases five hj with rfl | rfl | rfl | rfl | rfl <;> decide
  omega
set_option maxRecDepth 100000 in
set_option maxHeartbeats 1000000 in
theorem rtext7_any (a b c d e : BitVec 64) (w : World) (h : ∀ k, k < 5 → FieldM k ([a, b, c, d, e].getD k 0#64)) :
    Calls Tryz.prog 17 #[fiveV a b c d e] w fun x w' => x = .returned (strV (textC a b c d e)) ∧ Below w.heap.size w w' := by
  rw [← outT_five]
  have HI := Lib.hid (fun (k : Nat) hk W => index_five a b c d e k hk W)
  have HF := Lib.hid (fun W => rfields_any a b c d e W)
  have HO := Lib.hid (outT_len h)
  have HT := Lib.hid (fun (j : Nat) (hj : j < 5) => text_len h hj)
  clear h
  generalize [a, b, c, d, e] = L at *
  unfold fiveV at *
  unfold strV
  go_enter Tryz.func17, Tryz.ntmps17
  go_wp2_with fail
  refine (HF.out _).mono ?_
  rintro x w1 ⟨rfl, hb⟩
  have HB1 : Hid (Below w.heap.size w w1) := Lib.hid (((Below.refl _ w).alloc (Nat.le_refl _) _).trans (hb.mono (by simp)))
  clear hb
  go_wp2_with fail
  go_loopw [3, 4, 5, 8] (fun out k m i wr => ∃ j : Nat, j ≤ 5 ∧ i = .int .i64 (j : Int) ∧ Below w.heap.size w wr ∧ out = .string ⟨(outT L j).toArray⟩) (fun _ _ _ i _ => 5 - (intOf i).toNat)
  case atStart => exact ⟨0, by omega, rfl, HB1.out, rfl⟩
  case round =>
    obtain ⟨j, hj, rfl, hb, rfl⟩ := hrel
    have HB := Lib.hid hb
    have hl := HO.out j hj
    clear hb
    by_cases hlt : j < 5
    · have hj5 : (j : Int) < 5 := by omega
      have hix := fun W => HI.out j hlt W
      have HR := Lib.hid (fun W => rtext_any j (L.getD j 0#64) W hlt)
      have ht := HT.out j hlt
      have HN : Hid (outT L (j + 1) = (if 0 < j then outT L j ++ [32] else outT L j) ++ textL j (L.getD j 0#64)) := Lib.hid rfl
      unfold strV at HR
      generalize textL j (L.getD j 0#64) = t at *
      generalize L.getD j 0#64 = m at *
      generalize outT L j = p at *
      have hl6 : p.length ≤ 600 := by omega
      clear hl
      by_cases hz : j = 0
      · subst hz
        have ha := str_add' p t
        simp only [show ((0 : Nat) : Int) = 0 from rfl] at hix HR
        go_wp2_with fail
        refine (HR.out _).mono ?_
        rintro x w2 ⟨rfl, hb⟩
        have HB2 := Lib.hid (HB.out.trans (hb.mono HB.out.size))
        clear hb
        go_wp2_with fail
        go_roundw
        case rel => exact ⟨0 + 1, by omega, by go_num, HB2.out, by rw [HN.out, if_neg (by omega)]⟩
        case measure => simp [intOf]
      · have hz' : decide (0 < (j : Int)) = true := by simp; omega
        have hz2 : 0 < j := by omega
        have ha1 := str_add' p [32]
        have ha := str_add' (p ++ [32]) t
        go_wp2_with fail
        refine (HR.out _).mono ?_
        rintro x w2 ⟨rfl, hb⟩
        have HB2 := Lib.hid (HB.out.trans (hb.mono HB.out.size))
        clear hb
        go_wp2_with fail
        go_roundw
        case rel => exact ⟨j + 1, by omega, by go_num, HB2.out, by rw [HN.out, if_pos hz2, List.append_assoc]; rfl⟩
        case measure => simp [intOf]; omega
    · have hj5 : j = 5 := by omega
      subst hj5
      go_wp2_with fail
      go_ret
      exact ⟨rfl, HB.out⟩
end Go.Proofs.YtmjjdccpnepjjaaGreatDoor
