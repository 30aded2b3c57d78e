/- Crons, plain: words of a text; how long the one texts are. -/
import Derived.Test.YtmjjdccpnepjjaaGreatDoorK1
namespace Go.Proofs.YtmjjdccpnepjjaaGreatDoor
open Go Go.Op

/-! how long a field's one text is -/
/-- Three times what stands at most for the numbers below p. -/
def costU (p : Nat) : Nat := if p ≤ 10 then 4 * p else 40 + 6 * (p - 10)
theorem dgs_len' (n : Nat) : (dgsN n).length = if n < 10 then 1 else 2 := by unfold dgsN; split <;> simp [d2]
theorem run_cost (r : Nat × Nat) (h : r.1 ≤ r.2) : 3 * ((runL r).length + 1) + costU r.1 ≤ costU (r.2 + 2) := by
  unfold runL costU
  have h1 := dgs_len' r.1
  have h2 := dgs_len' r.2
  split
  · simp only [List.length_append, List.length_cons, h1, h2]
    split <;> split <;> split <;> split <;> omega
  · rw [h1]
    split <;> split <;> split <;> omega
theorem cost_le {p q : Nat} (h : p ≤ q) : costU p ≤ costU q := by unfold costU; split <;> split <;> omega
theorem runs_cost (hi : Nat) : ∀ (rs : List (Nat × Nat)), (∀ r ∈ rs, r.1 ≤ r.2 ∧ r.2 ≤ hi) → rs.Pairwise (fun r s => r.2 + 1 < s.1) → ∀ r l, rs = r :: l → 3 * ((rs.map runL).map fun s => s.length + 1).sum + costU r.1 ≤ costU (hi + 2)
  | [], _, _, r, l, e => by cases e
  | [r], h, _, _, _, e => by
    cases e
    have h1 := h r (by simp)
    have h2 := run_cost r h1.1
    have h3 := cost_le (show r.2 + 2 ≤ hi + 2 by omega)
    simp
    omega
  | r :: s :: l, h, hp, _, _, e => by
    cases e
    have ih := runs_cost hi (s :: l) (fun x hx => h x (by simp [hx])) (List.Pairwise.of_cons hp) s l rfl
    have hr := run_cost r (h r (by simp)).1
    have hg := List.rel_of_pairwise_cons hp (a' := s) (by simp)
    have h3 := cost_le (show r.2 + 2 ≤ s.1 by omega)
    rw [List.map_cons, List.map_cons, List.sum_cons]
    omega
theorem joinC_sum : ∀ (ps : List (List UInt8)), ps ≠ [] → (joinC ps).length + 1 = (ps.map fun s => s.length + 1).sum
  | [], h => absurd rfl h
  | [p], _ => by simp [joinC]
  | p :: q :: ps, _ => by
    have := joinC_sum (q :: ps) (by simp)
    rw [joinC, List.map_cons, List.sum_cons]
    simp only [List.length_append, List.length_cons] at *
    omega
theorem text_cost {k : Nat} {m : BitVec 64} (hf : FieldM k m) : 3 * ((textL k m).length + 1) + costU (loK k) ≤ costU (hiK k + 2) ∨ (textL k m).length ≤ 4 := by
  have hruns : 3 * ((runsL m).length + 1) + costU (loK k) ≤ costU (hiK k + 2) := by
    cases hr : runsOf m with
    | nil => exact absurd hr (runs_some hf.1)
    | cons r l =>
      have h2 := runs_cost (hiK k) (runsOf m) (fun r hr => by
        have := run_field hf hr
        omega) (runs_gap m) r l hr
      have h3 := cost_le (run_field hf (show r ∈ runsOf m by rw [hr]; simp)).1
      have h4 := joinC_sum ((runsOf m).map runL) (by simpa using runs_some hf.1)
      unfold runsL
      omega
  unfold textL
  split
  · right; decide
  · split
    · cases hs : stepsN k m with
      | none => exact .inl hruns
      | some n => right; have := dgs_len n; simp; omega
    · exact .inl hruns
/-- So long at most. -/
def topL (k : Nat) : Nat := [114, 42, 57, 19, 9].getD k 0
theorem text_top {k : Nat} {m : BitVec 64} (hk : k < 5) (hf : FieldM k m) : (textL k m).length ≤ topL k := by
  have h := text_cost hf
  have hc : k = 0 ∨ k = 1 ∨ k = 2 ∨ k = 3 ∨ k = 4 := by omega
  rcases hc with rfl | rfl | rfl | rfl | rfl <;> simp [costU, loK, hiK, topL] at h ⊢ <;> omega
theorem five_top : topL 0 + topL 1 + topL 2 + topL 3 + topL 4 + 4 = 245 := rfl
/-- A text has no blank, and something. -/
theorem text_blank {k : Nat} {m : BitVec 64} (hf : FieldM k m) : (32 : UInt8) ∉ textL k m ∧ textL k m ≠ [] ∧ (64 : UInt8) ∉ textL k m := by
  have d : ∀ (c : UInt8), isDg c = false → ∀ n, c ∉ dgsN n := fun c hc n => not_dgs hc n
  have hrun : ∀ (c : UInt8), isDg c = false → c ≠ 45 → ∀ r : Nat × Nat, c ∉ runL r := fun c hc h45 r q => by
    unfold runL at q
    split at q
    · rcases List.mem_append.1 q with q | q
      · exact d c hc _ q
      · rcases List.mem_cons.1 q with q | q
        · exact h45 q
        · exact d c hc _ q
    · exact d c hc _ q
  have hjoin : ∀ (c : UInt8), isDg c = false → c ≠ 45 → c ≠ 44 → ∀ rs : List (Nat × Nat), c ∉ joinC (rs.map runL) := fun c hc h45 h44 rs => by
    induction rs with
    | nil => simp [joinC]
    | cons r rs ih =>
      cases rs with
      | nil => exact hrun c hc h45 r
      | cons s rs =>
        intro q
        rw [List.map_cons, List.map_cons, joinC] at q
        rcases List.mem_append.1 q with q | q
        · exact hrun c hc h45 r q
        · rcases List.mem_cons.1 q with q | q
          · exact h44 q
          · exact ih q
  have hne : ∀ r : Nat × Nat, runL r ≠ [] := fun r e => by
    have h1 := dgs_len r.1
    unfold runL at e
    split at e
    · have := congrArg List.length e; simp at this
    · rw [e] at h1; simp at h1
  have hruns : runsL m ≠ [] := by
    unfold runsL
    cases hr : runsOf m with
    | nil => exact absurd hr (runs_some hf.1)
    | cons r l =>
      cases l with
      | nil => exact hne r
      | cons s l =>
        rw [List.map_cons, List.map_cons, joinC]
        simp
  have hall : ∀ (c : UInt8), isDg c = false → c ≠ 45 → c ≠ 44 → c ≠ 42 → c ≠ 47 → c ∉ textL k m := fun c hc h45 h44 h42 h47 => by
    unfold textL
    split
    · simpa using h42
    · split
      · cases stepsN k m with
        | none => exact hjoin c hc h45 h44 _
        | some n =>
          intro q
          rcases List.mem_cons.1 q with q | q
          · exact h42 q
          · rcases List.mem_cons.1 q with q | q
            · exact h47 q
            · exact d c hc n q
      · exact hjoin c hc h45 h44 _
  refine ⟨hall 32 (by decide) (by decide) (by decide) (by decide) (by decide), ?_, hall 64 (by decide) (by decide) (by decide) (by decide) (by decide)⟩
  unfold textL
  split
  · simp
  · split
    · cases stepsN k m with
      | none => exact hruns
      | some n => simp
    · exact hruns
/-! words: rows of bytes that are no blanks, each with its place -/
def wordsF : List UInt8 → Nat → Option (Nat × List UInt8) → List (Nat × List UInt8)
  | [], _, none => []
  | [], _, some w => [w]
  | b :: l, at_, none => if b = 32 then wordsF l (at_ + 1) none else wordsF l (at_ + 1) (some (at_, [b]))
  | b :: l, at_, some w => if b = 32 then w :: wordsF l (at_ + 1) none else wordsF l (at_ + 1) (some (w.1, w.2 ++ [b]))
def wordsL (l : List UInt8) : List (Nat × List UInt8) := wordsF l 0 none
theorem words_run : ∀ (p l : List UInt8) (at_ : Nat) (w : Nat × List UInt8), (32 : UInt8) ∉ p → wordsF (p ++ l) at_ (some w) = wordsF l (at_ + p.length) (some (w.1, w.2 ++ p))
  | [], l, at_, w, _ => by simp
  | b :: p, l, at_, w, h => by
    have h1 : b ≠ 32 := fun e => h (by simp [e])
    have h2 : (32 : UInt8) ∉ p := fun e => h (by simp [e])
    rw [List.cons_append, wordsF, if_neg h1, words_run p l _ _ h2]
    simp only [List.length_cons, List.append_assoc, List.cons_append, List.nil_append]
    rw [show at_ + 1 + p.length = at_ + (p.length + 1) by omega]
/-- A word, and a blank behind it. -/
theorem words_word {p : List UInt8} (l : List UInt8) (at_ : Nat) (hp : p ≠ []) (h : (32 : UInt8) ∉ p) : wordsF (p ++ 32 :: l) at_ none = (at_, p) :: wordsF l (at_ + p.length + 1) none := by
  cases p with
  | nil => exact absurd rfl hp
  | cons b p =>
    have h1 : b ≠ 32 := fun e => h (by simp [e])
    have h2 : (32 : UInt8) ∉ p := fun e => h (by simp [e])
    rw [List.cons_append, wordsF, if_neg h1, words_run p _ _ _ h2, wordsF, if_pos rfl]
    simp only [List.length_cons, List.cons_append, List.nil_append]
    rw [show at_ + 1 + p.length + 1 = at_ + (p.length + 1) + 1 by omega]
theorem words_last {p : List UInt8} (at_ : Nat) (hp : p ≠ []) (h : (32 : UInt8) ∉ p) : wordsF p at_ none = [(at_, p)] := by
  cases p with
  | nil => exact absurd rfl hp
  | cons b p =>
    have h1 : b ≠ 32 := fun e => h (by simp [e])
    have h2 : (32 : UInt8) ∉ p := fun e => h (by simp [e])
    have := words_run p [] (at_ + 1) (at_, [b]) h2
    rw [List.append_nil] at this
    rw [wordsF, if_neg h1, this, wordsF]; rfl
/-- More blanks: each one twice. -/
def wideL : List UInt8 → List UInt8
  | [] => []
  | b :: l => if b = 32 then 32 :: 32 :: wideL l else b :: wideL l
theorem words_wide : ∀ (l : List UInt8) (a a' : Nat) (w w' : Option (Nat × List UInt8)), w.map (·.2) = w'.map (·.2) →
    (wordsF (wideL l ++ [32]) a w).map (·.2) = (wordsF l a' w').map (·.2)
  | [], a, a', none, none, _ => by simp [wideL, wordsF]
  | [], a, a', none, some w', h => by simp at h
  | [], a, a', some w, none, h => by simp at h
  | [], a, a', some w, some w', h => by simp [wideL, wordsF] at h ⊢; exact h
  | b :: l, a, a', w, w', h => by
    rw [wideL]
    by_cases e : b = 32
    · rw [if_pos e, e]
      cases w with
      | none =>
        cases w' with
        | none =>
          simp only [List.cons_append, wordsF, if_pos]
          exact words_wide l _ _ none none rfl
        | some w' => simp at h
      | some w =>
        cases w' with
        | none => simp at h
        | some w' =>
          simp only [List.cons_append, wordsF, if_pos, List.map_cons]
          simp at h
          rw [h, words_wide l (a + 1 + 1) (a' + 1) none none rfl]
    · rw [if_neg e]
      cases w with
      | none =>
        cases w' with
        | none =>
          simp only [List.cons_append, wordsF, if_neg e]
          exact words_wide l _ _ _ _ rfl
        | some w' => simp at h
      | some w =>
        cases w' with
        | none => simp at h
        | some w' =>
          simp only [List.cons_append, wordsF, if_neg e]
          simp at h
          exact words_wide l _ _ _ _ (by simp [h])
/-- Places lie within; words are something without blanks. -/
theorem words_in : ∀ (l : List UInt8) (a : Nat) (w : Option (Nat × List UInt8)), (∀ x, w = some x → x.2 ≠ [] ∧ (32 : UInt8) ∉ x.2 ∧ x.1 + x.2.length = a) →
    ∀ x ∈ wordsF l a w, x.2 ≠ [] ∧ (32 : UInt8) ∉ x.2 ∧ x.1 + x.2.length ≤ a + l.length
  | [], a, none, _, x, hx => by simp [wordsF] at hx
  | [], a, some w, h, x, hx => by
    simp [wordsF] at hx
    subst hx
    obtain ⟨h1, h2, h3⟩ := h x rfl
    exact ⟨h1, h2, by simp; omega⟩
  | b :: l, a, none, _, x, hx => by
    rw [wordsF] at hx
    split at hx
    · obtain ⟨h1, h2, h3⟩ := words_in l (a + 1) none (fun _ e => by cases e) x hx
      exact ⟨h1, h2, by simp; omega⟩
    · rename_i hb
      obtain ⟨h1, h2, h3⟩ := words_in l (a + 1) (some (a, [b])) (fun y e => by cases e; exact ⟨by simp, by simpa using fun q => hb q.symm, rfl⟩) x hx
      exact ⟨h1, h2, by simp; omega⟩
  | b :: l, a, some w, h, x, hx => by
    obtain ⟨w1, w2, w3⟩ := h w rfl
    rw [wordsF] at hx
    split at hx
    · rcases List.mem_cons.1 hx with rfl | hx
      · exact ⟨w1, w2, by simp; omega⟩
      · obtain ⟨h1, h2, h3⟩ := words_in l (a + 1) none (fun _ e => by cases e) x hx
        exact ⟨h1, h2, by simp; omega⟩
    · rename_i hb
      obtain ⟨h1, h2, h3⟩ := words_in l (a + 1) (some (w.1, w.2 ++ [b])) (fun y e => by
        cases e
        refine ⟨by simp, ?_, by simp; omega⟩
        intro q
        rcases List.mem_append.1 q with q | q
        · exact w2 q
        · simp at q; exact hb q.symm) x hx
      exact ⟨h1, h2, by simp; omega⟩
end Go.Proofs.YtmjjdccpnepjjaaGreatDoor
