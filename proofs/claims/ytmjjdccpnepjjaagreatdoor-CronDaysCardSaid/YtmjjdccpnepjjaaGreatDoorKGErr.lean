/- Crons, plain: macros read; where a text is wrong lies within; wakes' texts. -/
import Derived.Test.YtmjjdccpnepjjaaGreatDoorKGLaw
namespace Go.Proofs.YtmjjdccpnepjjaaGreatDoor
open Go Go.Op

def macroM (w : List UInt8) : Option (List (BitVec 64)) := (macroL w).bind fun x => (readW x.length 0 (wordsL x) []).1
theorem macro_reads {w x : List UInt8} (h : macroL w = some x) : ∃ l, readW x.length 0 (wordsL x) [] = (some l, 0) ∧ readC x = (some l, 0) ∧ macroM w = some l := by
  have e : macroM w = (readW x.length 0 (wordsL x) []).1 := by unfold macroM; rw [h]; rfl
  rw [e]
  clear e
  unfold macroL at h
  split at h
  · cases h; exact ⟨_, rfl, rfl, rfl⟩
  · split at h
    · cases h; exact ⟨_, rfl, rfl, rfl⟩
    · split at h
      · cases h; exact ⟨_, rfl, rfl, rfl⟩
      · split at h
        · cases h; exact ⟨_, rfl, rfl, rfl⟩
        · split at h
          · cases h; exact ⟨_, rfl, rfl, rfl⟩
          · cases h
theorem readW_err {n b : Nat} : ∀ (ws : List (Nat × List UInt8)) (k : Nat) (acc : List (BitVec 64)) (p : Nat), k ≤ 5 → n ≤ b → (∀ x ∈ ws, x.1 + x.2.length ≤ b) → readW n k ws acc = (none, p) → p ≤ b
  | [], k, acc, p, hk, hn, hw, h => by
    rw [readW] at h
    split at h
    · cases h
    · cases h; exact hn
  | w :: ws, k, acc, p, hk, hn, hw, h => by
    have h1 := hw w (List.mem_cons_self ..)
    rw [readW] at h
    split at h
    · cases h; omega
    · rename_i h5
      split at h
      · exact readW_err ws _ _ p (by omega) hn (fun x hx => hw x (List.mem_cons_of_mem _ hx)) h
      · cases h
        rcases readL_right (show k < 5 by omega) w.2 with ⟨_, h2, _⟩ | ⟨_, _, h2⟩ <;> omega
theorem readC_err {s : List UInt8} {p : Nat} (h : readC s = (none, p)) : p ≤ s.length := by
  have hin : ∀ x ∈ wordsL s, x.1 + x.2.length ≤ s.length := fun x hx => by
    have := (words_in s 0 none (fun _ e => by cases e) x hx).2.2
    omega
  unfold readC at h
  split at h
  · cases h; exact Nat.le_refl _
  · rename_i w ws hw
    rw [hw] at hin
    have h1 := hin w (List.mem_cons_self ..)
    split at h
    · split at h
      · cases h; omega
      · rename_i x hx
        split at h
        · obtain ⟨l, hl, _⟩ := macro_reads hx
          rw [hl] at h; cases h
        · rename_i v _
          cases h
          have := hin v (by simp)
          omega
    · exact readW_err _ _ _ _ (by omega) (Nat.le_refl _) hin h
theorem w_cron1 : readC [48, 32, 57, 32, 49, 51, 32, 42, 32, 77, 79, 78, 45, 70, 82, 73] = (some [1#64, 512#64, 8192#64, 8190#64, 62#64], 0) := by decide +kernel
theorem w_cron2 : readC [48, 32, 50, 53, 32, 42, 32, 42, 32, 42] = (none, 2) := by decide +kernel
theorem w_cron3 : textC 1#64 512#64 8192#64 8190#64 62#64 = [48, 32, 57, 32, 49, 51, 32, 42, 32, 49, 45, 53] := by decide +kernel
end Go.Proofs.YtmjjdccpnepjjaaGreatDoor
