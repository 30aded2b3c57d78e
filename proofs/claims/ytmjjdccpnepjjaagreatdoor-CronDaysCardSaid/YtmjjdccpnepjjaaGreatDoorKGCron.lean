/- Crons, plain: what a text reads as; the one text, read, is the cron; more blanks change nothing. -/
import Derived.Test.YtmjjdccpnepjjaaGreatDoorKGWords
namespace Go.Proofs.YtmjjdccpnepjjaaGreatDoor
open Go Go.Op

/-- What a macro means, as words. -/
def macroL (w : List UInt8) : Option (List UInt8) :=
  if w = [64, 121, 101, 97, 114, 108, 121] ∨ w = [64, 97, 110, 110, 117, 97, 108, 108, 121] then some [48, 32, 48, 32, 49, 32, 49, 32, 42]
  else if w = [64, 109, 111, 110, 116, 104, 108, 121] then some [48, 32, 48, 32, 49, 32, 42, 32, 42]
  else if w = [64, 119, 101, 101, 107, 108, 121] then some [48, 32, 48, 32, 42, 32, 42, 32, 48]
  else if w = [64, 100, 97, 105, 108, 121] ∨ w = [64, 109, 105, 100, 110, 105, 103, 104, 116] then some [48, 32, 48, 32, 42, 32, 42, 32, 42]
  else if w = [64, 104, 111, 117, 114, 108, 121] then some [48, 32, 42, 32, 42, 32, 42, 32, 42]
  else none
/-- Five words, one behind the other: the fields; or where it is wrong. -/
def readW (n : Nat) : Nat → List (Nat × List UInt8) → List (BitVec 64) → Option (List (BitVec 64)) × Nat
  | k, [], acc => if k = 5 then (some acc, 0) else (none, n)
  | k, w :: ws, acc => if k = 5 then (none, w.1) else if (readL k w.2).2.2 = 0 then readW n (k + 1) ws (acc ++ [(readL k w.2).1]) else (none, w.1 + (readL k w.2).2.1)
def readC (s : List UInt8) : Option (List (BitVec 64)) × Nat :=
  match wordsL s with
  | [] => (none, s.length)
  | w :: ws => if w.2.head? = some 64 then match macroL w.2 with
      | none => (none, w.1)
      | some x => match ws with
        | [] => readW x.length 0 (wordsL x) []
        | v :: _ => (none, v.1)
    else readW s.length 0 (w :: ws) []
/-- The one text of five fields. -/
def textC (a b c d e : BitVec 64) : List UInt8 := textL 0 a ++ 32 :: (textL 1 b ++ 32 :: (textL 2 c ++ 32 :: (textL 3 d ++ 32 :: textL 4 e)))
theorem textC_len {a b c d e : BitVec 64} (ha : FieldM 0 a) (hb : FieldM 1 b) (hc : FieldM 2 c) (hd : FieldM 3 d) (he : FieldM 4 e) : (textC a b c d e).length ≤ 245 := by
  have h0 := text_top (by omega) ha
  have h1 := text_top (by omega) hb
  have h2 := text_top (by omega) hc
  have h3 := text_top (by omega) hd
  have h4 := text_top (by omega) he
  have t0 : topL 0 = 114 := rfl
  have t1 : topL 1 = 42 := rfl
  have t2 : topL 2 = 57 := rfl
  have t3 : topL 3 = 19 := rfl
  have t4 : topL 4 = 9 := rfl
  unfold textC
  simp only [List.length_append, List.length_cons]
  omega
theorem words_textC {a b c d e : BitVec 64} (ha : FieldM 0 a) (hb : FieldM 1 b) (hc : FieldM 2 c) (hd : FieldM 3 d) (he : FieldM 4 e) :
    ∃ p1 p2 p3 p4 : Nat, wordsL (textC a b c d e) = [(0, textL 0 a), (p1, textL 1 b), (p2, textL 2 c), (p3, textL 3 d), (p4, textL 4 e)] := by
  have h0 := text_blank ha
  have h1 := text_blank hb
  have h2 := text_blank hc
  have h3 := text_blank hd
  have h4 := text_blank he
  unfold wordsL textC
  rw [words_word _ _ h0.2.1 h0.1, words_word _ _ h1.2.1 h1.1, words_word _ _ h2.2.1 h2.1, words_word _ _ h3.2.1 h3.1, words_last _ h4.2.1 h4.1]
  exact ⟨_, _, _, _, rfl⟩
/-- The one text, read, is the cron. -/
theorem read_textC {a b c d e : BitVec 64} (ha : FieldM 0 a) (hb : FieldM 1 b) (hc : FieldM 2 c) (hd : FieldM 3 d) (he : FieldM 4 e) : readC (textC a b c d e) = (some [a, b, c, d, e], 0) := by
  obtain ⟨p1, p2, p3, p4, hw⟩ := words_textC ha hb hc hd he
  have hn : (textL 0 a).head? ≠ some 64 := fun q => by
    have := List.mem_of_head? q
    exact (text_blank ha).2.2 this
  unfold readC
  rw [hw]
  show (if (textL 0 a).head? = some 64 then _ else _) = _
  rw [if_neg hn]
  simp [readW, read_text ha, read_text hb, read_text hc, read_text hd, read_text he]
/-- What is read are fields. -/
theorem readW_right (n : Nat) : ∀ (ws : List (Nat × List UInt8)) (k : Nat) (acc : List (BitVec 64)) (l : List (BitVec 64)), k ≤ 5 → acc.length = k → (∀ i (h : i < acc.length), FieldM i acc[i]) → (readW n k ws acc).1 = some l → l.length = 5 ∧ (readW n k ws acc).2 = 0 ∧ ∀ i (h : i < l.length), FieldM i l[i]
  | [], k, acc, l, hk, hl, hf, h => by
    unfold readW at h ⊢
    split at h
    · cases h; rename_i e; rw [if_pos e]; exact ⟨by omega, rfl, hf⟩
    · cases h
  | w :: ws, k, acc, l, hk, hl, hf, h => by
    unfold readW at h ⊢
    split at h
    · cases h
    · rename_i e
      rw [if_neg e]
      split at h
      · rename_i h0
        rw [if_pos h0]
        have hk5 : k < 5 := by omega
        have hr : FieldM k (readL k w.2).1 := by
          rcases readL_right hk5 w.2 with ⟨_, _, c⟩ | ⟨c, _⟩
          · exact c
          · rcases c with c | c <;> rw [c] at h0 <;> cases h0
        refine readW_right n ws (k + 1) _ l (by omega) (by simp [hl]) ?_ h
        intro i hi
        rw [List.getElem_append]
        split
        · exact hf i ‹_›
        · simp at hi
          have : i = k := by omega
          subst this
          simpa [hl] using hr
      · cases h
/-- Places do not matter to who reads well. -/
theorem readW_places (n n' : Nat) : ∀ (ws vs : List (Nat × List UInt8)) (k : Nat) (acc : List (BitVec 64)) (l : List (BitVec 64)), ws.map (·.2) = vs.map (·.2) → readW n k ws acc = (some l, 0) → readW n' k vs acc = (some l, 0)
  | [], [], k, acc, l, _, h => by
    unfold readW at h ⊢
    split at h
    · rename_i e; rw [if_pos e]; exact h
    · cases h
  | [], v :: vs, k, acc, l, e, h => by simp at e
  | w :: ws, [], k, acc, l, e, h => by simp at e
  | w :: ws, v :: vs, k, acc, l, e, h => by
    simp only [List.map_cons, List.cons.injEq] at e
    unfold readW at h ⊢
    split at h
    · cases h
    · rename_i ek
      rw [if_neg ek, ← e.1]
      split at h
      · rename_i h0
        rw [if_pos h0]
        exact readW_places n n' ws vs _ _ l e.2 h
      · cases h
theorem readC_places {s t : List UInt8} {l : List (BitVec 64)} (e : (wordsL s).map (·.2) = (wordsL t).map (·.2)) (h : readC s = (some l, 0)) : readC t = (some l, 0) := by
  unfold readC at h ⊢
  cases hs : wordsL s with
  | nil => rw [hs] at h; cases h
  | cons w ws =>
    cases ht : wordsL t with
    | nil => rw [hs, ht] at e; simp at e
    | cons v vs =>
      rw [hs, ht] at e
      simp only [List.map_cons, List.cons.injEq] at e
      rw [hs] at h
      simp only [] at h ⊢
      rw [← e.1]
      split at h
      · rename_i h64
        rw [if_pos h64]
        cases hm : macroL w.2 with
        | none => rw [hm] at h; cases h
        | some x =>
          rw [hm] at h
          cases ws with
          | nil =>
            cases vs with
            | nil => exact h
            | cons v' vs => simp at e
          | cons w' ws => cases h
      · rename_i h64
        rw [if_neg h64]
        exact readW_places s.length t.length (w :: ws) (v :: vs) 0 [] l (by simp [e.1, e.2]) h
/-- More blanks change nothing. -/
theorem read_wide {s : List UInt8} {l : List (BitVec 64)} (h : readC s = (some l, 0)) : readC (32 :: 32 :: (wideL s ++ [32])) = (some l, 0) := by
  refine readC_places ?_ h
  have e1 : wordsL (32 :: 32 :: (wideL s ++ [32])) = wordsF (wideL s ++ [32]) 2 none := by
    unfold wordsL
    simp [wordsF]
  rw [e1, words_wide s 2 0 none none rfl]; rfl
theorem readC_right {s : List UInt8} {l : List (BitVec 64)} {p : Nat} (h : readC s = (some l, p)) : l.length = 5 ∧ p = 0 ∧ ∀ i (h : i < l.length), FieldM i l[i] := by
  have key : ∀ n ws, readW n 0 ws [] = (some l, p) → l.length = 5 ∧ p = 0 ∧ ∀ i (h : i < l.length), FieldM i l[i] := fun n ws hw => by
    have := readW_right n ws 0 [] l (by omega) rfl (fun i h => by simp at h) (by rw [hw])
    rw [hw] at this
    exact this
  unfold readC at h
  cases hs : wordsL s with
  | nil => rw [hs] at h; cases h
  | cons w ws =>
    rw [hs] at h
    simp only [] at h
    split at h
    · cases hm : macroL w.2 with
      | none => rw [hm] at h; cases h
      | some x =>
        rw [hm] at h
        cases ws with
        | nil => exact key _ _ h
        | cons w' ws => cases h
    · exact key _ _ h
end Go.Proofs.YtmjjdccpnepjjaaGreatDoor
