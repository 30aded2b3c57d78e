/- Reading, word by word: plain. -/
import Derived.Test.YtmjjdccpnepjjaaGreatDoorKGErr
namespace Go.Proofs.YtmjjdccpnepjjaaGreatDoor
open Go Go.Op

/-! pieces, cut at a byte -/
def splitW (c : UInt8) : List UInt8 → List (List UInt8)
  | [] => [[]]
  | b :: l => if b = c then [] :: splitW c l else match splitW c l with
    | [] => [[b]]
    | p :: ps => (b :: p) :: ps
theorem splitW_ne (c : UInt8) : ∀ l, splitW c l ≠ []
  | [] => by simp [splitW]
  | b :: l => by
    rw [splitW]
    split
    · simp
    · split <;> simp
theorem splitW_cut (c : UInt8) : ∀ l : List UInt8, splitW c l = (cutB l c).1 :: (match (cutB l c).2 with | none => [] | some r => splitW c r)
  | [] => rfl
  | b :: l => by
    rw [splitW, cutB]
    by_cases h : b = c
    · rw [if_pos h, if_pos h]
    · rw [if_neg h, if_neg h, splitW_cut c l]
theorem splitK_w (c : UInt8) : ∀ (n : Nat) (l : List UInt8), Lib.count l [c] = n → Lib.splitK [c] 0 n l = splitW c l
  | 0, l, h => by
    rcases index_one c l with ⟨h1, h2⟩ | ⟨r, h1, h2, h3⟩
    · rw [Lib.splitK, splitW_cut, cutB_none h1]
    · rw [Lib.count_hit (by simp) h3] at h; omega
  | n + 1, l, h => by
    rcases index_one c l with ⟨h1, h2⟩ | ⟨r, h1, h2, h3⟩
    · rw [Lib.count_miss h2] at h; omega
    · rw [Lib.count_hit (by simp) h3] at h
      have hd : l.drop ((cutB l c).1.length + [c].length) = r := by
        generalize (cutB l c).1 = a at *
        subst h1
        simp
      have ht : l.take ((cutB l c).1.length + 0) = (cutB l c).1 := by
        generalize (cutB l c).1 = a at *
        subst h1
        simp
      rw [hd] at h
      rw [Lib.splitK, h3, if_neg (by simp), Int.toNat_natCast, hd, ht, splitK_w c n r (by omega), splitW_cut c l, h2]
theorem splitW_sum (c : UInt8) : ∀ l, ((splitW c l).map fun p => p.length + 1).sum = l.length + 1
  | [] => rfl
  | b :: l => by
    have ih := splitW_sum c l
    rw [splitW]
    split
    · simp [ih]; omega
    · cases h : splitW c l with
      | nil => exact absurd h (splitW_ne c l)
      | cons p ps => rw [h] at ih; simp at ih ⊢; omega
/-- The words among pieces. -/
def wordsP : List (List UInt8) → Nat → List (Nat × List UInt8)
  | [], _ => []
  | p :: ps, a => if p = [] then wordsP ps (a + 1) else (a, p) :: wordsP ps (a + p.length + 1)
theorem words_split : ∀ (l : List UInt8) (a : Nat), wordsF l a none = wordsP (splitW 32 l) a ∧
    ∀ (w : Nat × List UInt8) p ps, splitW 32 l = p :: ps → wordsF l a (some w) = (w.1, w.2 ++ p) :: wordsP ps (a + p.length + 1)
  | [], a => ⟨rfl, fun w p ps h => by cases h; simp [wordsF, wordsP]⟩
  | b :: l, a => by
    obtain ⟨ih1, ih2⟩ := words_split l (a + 1)
    by_cases hb : b = 32
    · refine ⟨?_, fun w p ps h => ?_⟩
      · rw [wordsF, if_pos hb, splitW, if_pos hb, wordsP, if_pos rfl, ih1]
      · rw [splitW, if_pos hb] at h
        cases h
        rw [wordsF, if_pos hb, ih1]
        simp
    · obtain ⟨p, ps, hp⟩ : ∃ p ps, splitW 32 l = p :: ps := by
        cases h : splitW 32 l with
        | nil => exact absurd h (splitW_ne 32 l)
        | cons p ps => exact ⟨p, ps, rfl⟩
      refine ⟨?_, fun w q qs h => ?_⟩
      · rw [wordsF, if_neg hb, splitW, if_neg hb, hp, ih2 _ p ps hp, wordsP, if_neg (by simp)]
        simp only [List.cons_append, List.nil_append, List.length_cons]
        rw [show a + 1 + p.length + 1 = a + (p.length + 1) + 1 by omega]
      · rw [splitW, if_neg hb, hp] at h
        cases h
        rw [wordsF, if_neg hb, ih2 _ p ps hp]
        simp only [List.append_assoc, List.cons_append, List.nil_append, List.length_cons]
        rw [show a + 1 + p.length + 1 = a + (p.length + 1) + 1 by omega]
theorem words_pieces (l : List UInt8) : wordsL l = wordsP (splitW 32 l) 0 := (words_split l 0).1
/-- How far the first so many pieces reach. -/
def atP (ps : List (List UInt8)) (k : Nat) : Nat := ((ps.take k).map fun p => p.length + 1).sum
theorem atP_zero (ps : List (List UInt8)) : atP ps 0 = 0 := rfl
theorem atP_succ {ps : List (List UInt8)} {k : Nat} {p : List UInt8} (h : ps[k]? = some p) : atP ps (k + 1) = atP ps k + p.length + 1 := by
  unfold atP
  rw [List.take_add_one, h]
  simp; omega
theorem atP_le (c : UInt8) (l : List UInt8) (k : Nat) : atP (splitW c l) k ≤ l.length + 1 := by
  rw [← splitW_sum c l]
  unfold atP
  generalize splitW c l = ps
  induction ps generalizing k with
  | nil => simp
  | cons p ps ih =>
    cases k with
    | zero => simp
    | succ k => have := ih k; simp at this ⊢; omega
theorem wordsP_append : ∀ (a b : List (List UInt8)) (n : Nat), wordsP (a ++ b) n = wordsP a n ++ wordsP b (n + (a.map fun p => p.length + 1).sum)
  | [], b, n => by simp [wordsP]
  | p :: a, b, n => by
    rw [List.cons_append, wordsP, wordsP]
    split
    · rename_i h; subst h; rw [wordsP_append a b]; simp; rw [show n + 1 + (a.map fun p => p.length + 1).sum = n + (1 + (a.map fun p => p.length + 1).sum) by omega]
    · rw [wordsP_append a b]; simp; rw [show n + p.length + 1 + (a.map fun p => p.length + 1).sum = n + (p.length + 1 + (a.map fun p => p.length + 1).sum) by omega]
theorem wordsP_next {ps : List (List UInt8)} {k : Nat} {p : List UInt8} (h : ps[k]? = some p) :
    wordsP (ps.take (k + 1)) 0 = wordsP (ps.take k) 0 ++ (if p = [] then [] else [(atP ps k, p)]) := by
  rw [List.take_add_one, h, Option.toList_some, wordsP_append]
  unfold atP
  rw [wordsP, Nat.zero_add]
  split <;> rfl
theorem wordsP_front (ps : List (List UInt8)) (k : Nat) : wordsP (ps.take k) 0 <+: wordsP ps 0 := by
  refine ⟨wordsP (ps.drop k) (0 + ((ps.take k).map fun p => p.length + 1).sum), ?_⟩
  rw [← wordsP_append, List.take_append_drop]
theorem split_at (c : UInt8) {l : List UInt8} {k : Nat} {p : List UInt8} (h : (splitW c l)[k]? = some p) : atP (splitW c l) k + p.length ≤ l.length := by
  have h1 := atP_succ h
  have h2 := atP_le c l (k + 1)
  omega

/-! reading -/
/-- What a word does to the fields, of which so many are filled: the fields, how many more are filled then, or 0, and the place. -/
def fillC (l : List (BitVec 64)) (f : Nat) (w : List UInt8) : List (BitVec 64) × Nat × Nat :=
  if f = 5 then (l, 0, 0)
  else if f = 0 ∧ w.head? = some 64 then match macroM w with
    | none => (l, 0, 0)
    | some m => (m, 5, 0)
  else if (readL f w).2.2 = 0 then (l.set f (readL f w).1, 1, 0) else (l.set f (readL f w).1, 0, (readL f w).2.1)
def runC (n : Nat) : List (Nat × List UInt8) → List (BitVec 64) → Nat → Option (List (BitVec 64)) × Nat
  | [], l, f => if f < 5 then (none, n) else (some l, 0)
  | w :: ws, l, f => if (fillC l f w.2).2.1 = 0 then (none, w.1 + (fillC l f w.2).2.2) else runC n ws (fillC l f w.2).1 (f + (fillC l f w.2).2.1)
theorem runC_full (n : Nat) (l : List (BitVec 64)) (ws : List (Nat × List UInt8)) : runC n ws l 5 = match ws with | [] => (some l, 0) | w :: _ => (none, w.1) := by
  cases ws with
  | nil => rfl
  | cons w ws => simp [runC, fillC]
theorem runC_readW (n : Nat) : ∀ (ws : List (Nat × List UInt8)) (k : Nat) (acc : List (BitVec 64)), k ≤ 5 → acc.length = k → (k ≠ 0 ∨ ∀ w, ws.head? = some w → w.2.head? ≠ some 64) →
    runC n ws (acc ++ List.replicate (5 - k) 0#64) k = readW n k ws acc
  | [], k, acc, hk, ha, _ => by
    rw [runC, readW]
    by_cases h : k = 5
    · subst h; simp
    · rw [if_pos (by omega), if_neg h]
  | w :: ws, k, acc, hk, ha, hm => by
    rw [runC, readW]
    by_cases h : k = 5
    · subst h; simp [fillC]
    · have hm2 : ¬ (k = 0 ∧ w.2.head? = some 64) := by
        rintro ⟨h0, h1⟩
        rcases hm with hm | hm
        · exact hm h0
        · exact hm w rfl h1
      have hf : fillC (acc ++ List.replicate (5 - k) 0#64) k w.2 = if (readL k w.2).2.2 = 0 then ((acc ++ List.replicate (5 - k) 0#64).set k (readL k w.2).1, 1, 0) else ((acc ++ List.replicate (5 - k) 0#64).set k (readL k w.2).1, 0, (readL k w.2).2.1) := by
        unfold fillC
        rw [if_neg h, if_neg hm2]
      rw [hf, if_neg h]
      by_cases he : (readL k w.2).2.2 = 0
      · rw [if_pos he, if_pos he]
        simp only [Nat.one_ne_zero, if_false]
        have hs : (acc ++ List.replicate (5 - k) 0#64).set k (readL k w.2).1 = (acc ++ [(readL k w.2).1]) ++ List.replicate (5 - (k + 1)) 0#64 := by
          rw [show 5 - k = (5 - (k + 1)) + 1 by omega, List.replicate_succ, List.set_append_right _ _ (by omega), ha, Nat.sub_self]
          simp
        rw [hs]
        exact runC_readW n ws (k + 1) (acc ++ [(readL k w.2).1]) (by omega) (by simp [ha]) (.inl (by omega))
      · rw [if_neg he, if_neg he]
        simp
theorem runC_read (s : List UInt8) : runC s.length (wordsL s) [0#64, 0#64, 0#64, 0#64, 0#64] 0 = readC s := by
  unfold readC
  cases h : wordsL s with
  | nil => rfl
  | cons w ws =>
    simp only
    by_cases h64 : w.2.head? = some 64
    · rw [if_pos h64, runC]
      have hf : fillC [0#64, 0#64, 0#64, 0#64, 0#64] 0 w.2 = match macroM w.2 with
          | none => ([0#64, 0#64, 0#64, 0#64, 0#64], 0, 0)
          | some m => (m, 5, 0) := by
        unfold fillC
        rw [if_neg (by omega), if_pos ⟨rfl, h64⟩]
      rw [hf]
      cases hm : macroL w.2 with
      | none =>
        have hM : macroM w.2 = none := by unfold macroM; rw [hm]; rfl
        rw [hM]
        simp
      | some x =>
        obtain ⟨l, h1, h2, h3⟩ := macro_reads hm
        rw [h3]
        simp only [Nat.zero_add]
        rw [if_neg (by omega), runC_full]
        cases ws with
        | nil => exact h1.symm
        | cons v vs => rfl
    · rw [if_neg h64]
      exact runC_readW s.length (w :: ws) 0 [] (by omega) rfl (.inr fun v hv => by cases hv; exact h64)
theorem readL_zero {k : Nat} {s : List UInt8} (h : (readL k s).2.2 ≠ 0) : (readL k s).1 = 0#64 := by
  unfold readL at *
  by_cases hn : 256 < s.length
  · rw [if_pos hn]
  · rw [if_neg hn] at h ⊢
    have key : ∀ (ps : List (List UInt8)) (a : Nat) (m : BitVec 64), (readP k ps a m).2.2 ≠ 0 → (readP k ps a m).1 = 0#64 := by
      intro ps
      induction ps with
      | nil => intro a m h; exact absurd rfl h
      | cons p ps ih =>
        intro a m h
        rw [readP] at h ⊢
        cases hi : itemL k p with
        | none => rfl
        | some x => rw [hi] at h; exact ih _ _ h
    exact key _ _ _ h
theorem fillC_len {l : List (BitVec 64)} {f : Nat} {w : List UInt8} (h : l.length = 5) : (fillC l f w).1.length = 5 := by
  unfold fillC
  split
  · exact h
  · split
    · cases hm : macroM w with
      | none => exact h
      | some m =>
        obtain ⟨x, hx, hy⟩ := Option.bind_eq_some_iff.1 hm
        obtain ⟨q, h1, h2, h3⟩ := macro_reads hx
        have := (readC_right h2).1
        rw [h3] at hm; cases hm
        exact this
    · split <;> simp [h]
theorem fillC_count {l : List (BitVec 64)} {f : Nat} {w : List UInt8} (h : f ≤ 5) : f + (fillC l f w).2.1 ≤ 5 := by
  unfold fillC
  split
  · exact h
  · split
    · rename_i h0
      cases macroM w with
      | none => exact h
      | some m => simp; omega
    · split <;> simp <;> omega
theorem fillC_place {l : List (BitVec 64)} {f : Nat} {w : List UInt8} (h : f ≤ 5) : (fillC l f w).2.2 ≤ w.length := by
  unfold fillC
  split
  · exact Nat.zero_le _
  · split
    · cases macroM w <;> exact Nat.zero_le _
    · split
      · exact Nat.zero_le _
      · rename_i h5 _ he
        rcases readL_right (show f < 5 by omega) w with ⟨h1, _, _⟩ | ⟨_, _, h2⟩
        · exact absurd h1 he
        · exact h2
/-- The run goes on behind so many words. -/
theorem runC_on {n : Nat} {pre : List (Nat × List UInt8)} {x : Nat × List UInt8} {Z l : List (BitVec 64)} {f : Nat} (h : ∀ rest, runC n (pre ++ rest) Z 0 = runC n rest l f) :
    (if (fillC l f x.2).2.1 = 0 then ∀ rest, runC n (pre ++ [x] ++ rest) Z 0 = (none, x.1 + (fillC l f x.2).2.2) else ∀ rest, runC n (pre ++ [x] ++ rest) Z 0 = runC n rest (fillC l f x.2).1 (f + (fillC l f x.2).2.1)) := by
  split
  · rename_i h0
    intro rest
    rw [List.append_assoc, h, List.cons_append, List.nil_append, runC, if_pos h0]
  · rename_i h0
    intro rest
    rw [List.append_assoc, h, List.cons_append, List.nil_append, runC, if_neg h0]
end Go.Proofs.YtmjjdccpnepjjaaGreatDoor
