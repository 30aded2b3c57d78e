/- The macros of the program, in their variable: plain. -/
import Derived.Test.YtmjjdccpnepjjaaGreatDoorKGRun
namespace Go.Proofs.YtmjjdccpnepjjaaGreatDoor
open Go Go.Op

/-- A row's word, then its five texts; seven rows. -/
def macS : List (List UInt8) := [
  [64, 121, 101, 97, 114, 108, 121], [48], [48], [49], [49], [42],
  [64, 97, 110, 110, 117, 97, 108, 108, 121], [48], [48], [49], [49], [42],
  [64, 109, 111, 110, 116, 104, 108, 121], [48], [48], [49], [42], [42],
  [64, 119, 101, 101, 107, 108, 121], [48], [48], [42], [42], [48],
  [64, 100, 97, 105, 108, 121], [48], [48], [42], [42], [42],
  [64, 109, 105, 100, 110, 105, 103, 104, 116], [48], [48], [42], [42], [42],
  [64, 104, 111, 117, 114, 108, 121], [48], [42], [42], [42], [42]]
def macN (j : Nat) : List UInt8 := macS.getD (6 * j) []
def macT (j q : Nat) : List UInt8 := macS.getD (6 * j + 1 + q) []
def nilF : List (BitVec 64) := [0#64, 0#64, 0#64, 0#64, 0#64]
def putN (c : List (BitVec 64)) (j : Nat) : Nat → List (BitVec 64)
  | 0 => c
  | q + 1 => (putN c j q).set q (readL q (macT j q)).1
def macC (l : List UInt8) : Nat → List (BitVec 64)
  | 0 => nilF
  | j + 1 => if macN j = l then putN (macC l j) j 5 else macC l j
theorem putN_len {c : List (BitVec 64)} (j : Nat) (h : c.length = 5) : ∀ q, (putN c j q).length = 5
  | 0 => h
  | q + 1 => by rw [putN, List.length_set]; exact putN_len j h q
theorem macC_len (l : List UInt8) : ∀ j, (macC l j).length = 5
  | 0 => rfl
  | j + 1 => by
    rw [macC]
    split
    · exact putN_len j (macC_len l j) 5
    · exact macC_len l j
theorem macT_len : ∀ j, j < 7 → ∀ q, q < 5 → (macT j q).length ≤ 200 := by decide
theorem macC_is (l : List UInt8) : macC l 7 = (macroM l).getD nilF ∧ (macC l 7 != nilF) = (macroM l).isSome := by
  by_cases h0 : l = [64, 121, 101, 97, 114, 108, 121]
  · subst h0; decide +kernel
  by_cases h1 : l = [64, 97, 110, 110, 117, 97, 108, 108, 121]
  · subst h1; decide +kernel
  by_cases h2 : l = [64, 109, 111, 110, 116, 104, 108, 121]
  · subst h2; decide +kernel
  by_cases h3 : l = [64, 119, 101, 101, 107, 108, 121]
  · subst h3; decide +kernel
  by_cases h4 : l = [64, 100, 97, 105, 108, 121]
  · subst h4; decide +kernel
  by_cases h5 : l = [64, 109, 105, 100, 110, 105, 103, 104, 116]
  · subst h5; decide +kernel
  by_cases h6 : l = [64, 104, 111, 117, 114, 108, 121]
  · subst h6; decide +kernel
  have hm : macroL l = none := by
    unfold macroL
    rw [if_neg (by rintro (h | h); exact h0 h; exact h1 h), if_neg h2, if_neg h3, if_neg (by rintro (h | h); exact h4 h; exact h5 h), if_neg h6]
  have hM : macroM l = none := by unfold macroM; rw [hm]; rfl
  have hC : macC l 7 = nilF := by
    simp only [macC]
    rw [if_neg (fun e => h6 e.symm), if_neg (fun e => h5 e.symm), if_neg (fun e => h4 e.symm), if_neg (fun e => h3 e.symm), if_neg (fun e => h2 e.symm), if_neg (fun e => h1 e.symm), if_neg (fun e => h0 e.symm)]
  rw [hM, hC]
  exact ⟨rfl, by decide⟩
end Go.Proofs.YtmjjdccpnepjjaaGreatDoor
