/- Texts of this seat, one behind the other: GWords, GCron, GLaw, GErr, GRun, GRWords, GRMacro, GRFields, GPut, GMac, GMacW, GLib, GFill, GSplit, GRead, GRText, GTextP, GDay, GAt, GWakes, GRDay, GFits, GTells7, GBack7. -/
import Derived.Test.YthghcffibljclaaDoorR1
import Derived.Test.YthghcffibljclaaDoorR3
import Derived.Test.YthghcffibljclaaDoorR4
import Derived.Lib.Replace
import Derived.Test.YthghcffibljclaaDoorProg
import Derived.WalkKit
import Derived.BigQuiet
import Derived.Lib.ItoaNum
import Derived.Deep.QuietTactic
import Derived.Deep.RegionHeld3
import Derived.Deep.DeepCutAuto
import Derived.Deep.Light
/- Crons, plain: words of a text; how long the one texts are. -/
namespace Go.Proofs.YthghcffibljclaaDoor
open Go Go.Op

/-! how long a field's one text is -/
/-- Three times what stands at most for the numbers below p. -/
def costU (p : Nat) : Nat := if p ≤ 10 then 4 * p else 40 + 6 * (p - 10)
theorem dgs_len' (n : Nat) : (dgsN n).length = if n < 10 then 1 else 2 := by unfold dgsN; split <;> simp [d2]
theorem run_cost (r : Nat × Nat) (h : r.1 ≤ r.2) : 3 * ((runL r).length + 1) + costU r.1 ≤ costU (r.2 + 2) := by
  unfold runL costU
  have h1 := dgs_len' r.1
  have h2 := dgs_len' r.2
  split
  · simp only [List.length_append, List.length_cons, h1, h2]
    split <;> split <;> split <;> split <;> omega
  · rw [h1]
    split <;> split <;> split <;> omega
theorem cost_le {p q : Nat} (h : p ≤ q) : costU p ≤ costU q := by unfold costU; split <;> split <;> omega
theorem runs_cost (hi : Nat) : ∀ (rs : List (Nat × Nat)), (∀ r ∈ rs, r.1 ≤ r.2 ∧ r.2 ≤ hi) → rs.Pairwise (fun r s => r.2 + 1 < s.1) → ∀ r l, rs = r :: l → 3 * ((rs.map runL).map fun s => s.length + 1).sum + costU r.1 ≤ costU (hi + 2)
  | [], _, _, r, l, e => by cases e
  | [r], h, _, _, _, e => by
    cases e
    have h1 := h r (by simp)
    have h2 := run_cost r h1.1
    have h3 := cost_le (show r.2 + 2 ≤ hi + 2 by omega)
    simp
    omega
  | r :: s :: l, h, hp, _, _, e => by
    cases e
    have ih := runs_cost hi (s :: l) (fun x hx => h x (by simp [hx])) (List.Pairwise.of_cons hp) s l rfl
    have hr := run_cost r (h r (by simp)).1
    have hg := List.rel_of_pairwise_cons hp (a' := s) (by simp)
    have h3 := cost_le (show r.2 + 2 ≤ s.1 by omega)
    rw [List.map_cons, List.map_cons, List.sum_cons]
    omega
theorem joinC_sum : ∀ (ps : List (List UInt8)), ps ≠ [] → (joinC ps).length + 1 = (ps.map fun s => s.length + 1).sum
  | [], h => absurd rfl h
  | [p], _ => by simp [joinC]
  | p :: q :: ps, _ => by
    have := joinC_sum (q :: ps) (by simp)
    rw [joinC, List.map_cons, List.sum_cons]
    simp only [List.length_append, List.length_cons] at *
    omega
theorem text_cost {k : Nat} {m : BitVec 64} (hf : FieldM k m) : 3 * ((textL k m).length + 1) + costU (loK k) ≤ costU (hiK k + 2) ∨ (textL k m).length ≤ 4 := by
  have hruns : 3 * ((runsL m).length + 1) + costU (loK k) ≤ costU (hiK k + 2) := by
    cases hr : runsOf m with
    | nil => exact absurd hr (runs_some hf.1)
    | cons r l =>
      have h2 := runs_cost (hiK k) (runsOf m) (fun r hr => by
        have := run_field hf hr
        omega) (runs_gap m) r l hr
      have h3 := cost_le (run_field hf (show r ∈ runsOf m by rw [hr]; simp)).1
      have h4 := joinC_sum ((runsOf m).map runL) (by simpa using runs_some hf.1)
      unfold runsL
      omega
  unfold textL
  split
  · right; decide
  · split
    · cases hs : stepsN k m with
      | none => exact .inl hruns
      | some n => right; have := dgs_len n; simp; omega
    · exact .inl hruns
/-- So long at most. -/
def topL (k : Nat) : Nat := [114, 42, 57, 19, 9].getD k 0
theorem text_top {k : Nat} {m : BitVec 64} (hk : k < 5) (hf : FieldM k m) : (textL k m).length ≤ topL k := by
  have h := text_cost hf
  have hc : k = 0 ∨ k = 1 ∨ k = 2 ∨ k = 3 ∨ k = 4 := by omega
  rcases hc with rfl | rfl | rfl | rfl | rfl <;> simp [costU, loK, hiK, topL] at h ⊢ <;> omega
theorem five_top : topL 0 + topL 1 + topL 2 + topL 3 + topL 4 + 4 = 245 := rfl
/-- A text has no blank, and something. -/
theorem text_blank {k : Nat} {m : BitVec 64} (hf : FieldM k m) : (32 : UInt8) ∉ textL k m ∧ textL k m ≠ [] ∧ (64 : UInt8) ∉ textL k m := by
  have d : ∀ (c : UInt8), isDg c = false → ∀ n, c ∉ dgsN n := fun c hc n => not_dgs hc n
  have hrun : ∀ (c : UInt8), isDg c = false → c ≠ 45 → ∀ r : Nat × Nat, c ∉ runL r := fun c hc h45 r q => by
    unfold runL at q
    split at q
    · rcases List.mem_append.1 q with q | q
      · exact d c hc _ q
      · rcases List.mem_cons.1 q with q | q
        · exact h45 q
        · exact d c hc _ q
    · exact d c hc _ q
  have hjoin : ∀ (c : UInt8), isDg c = false → c ≠ 45 → c ≠ 44 → ∀ rs : List (Nat × Nat), c ∉ joinC (rs.map runL) := fun c hc h45 h44 rs => by
    induction rs with
    | nil => simp [joinC]
    | cons r rs ih =>
      cases rs with
      | nil => exact hrun c hc h45 r
      | cons s rs =>
        intro q
        rw [List.map_cons, List.map_cons, joinC] at q
        rcases List.mem_append.1 q with q | q
        · exact hrun c hc h45 r q
        · rcases List.mem_cons.1 q with q | q
          · exact h44 q
          · exact ih q
  have hne : ∀ r : Nat × Nat, runL r ≠ [] := fun r e => by
    have h1 := dgs_len r.1
    unfold runL at e
    split at e
    · have := congrArg List.length e; simp at this
    · rw [e] at h1; simp at h1
  have hruns : runsL m ≠ [] := by
    unfold runsL
    cases hr : runsOf m with
    | nil => exact absurd hr (runs_some hf.1)
    | cons r l =>
      cases l with
      | nil => exact hne r
      | cons s l =>
        rw [List.map_cons, List.map_cons, joinC]
        simp
  have hall : ∀ (c : UInt8), isDg c = false → c ≠ 45 → c ≠ 44 → c ≠ 42 → c ≠ 47 → c ∉ textL k m := fun c hc h45 h44 h42 h47 => by
    unfold textL
    split
    · simpa using h42
    · split
      · cases stepsN k m with
        | none => exact hjoin c hc h45 h44 _
        | some n =>
          intro q
          rcases List.mem_cons.1 q with q | q
          · exact h42 q
          · rcases List.mem_cons.1 q with q | q
            · exact h47 q
            · exact d c hc n q
      · exact hjoin c hc h45 h44 _
  refine ⟨hall 32 (by decide) (by decide) (by decide) (by decide) (by decide), ?_, hall 64 (by decide) (by decide) (by decide) (by decide) (by decide)⟩
  unfold textL
  split
  · simp
  · split
    · cases stepsN k m with
      | none => exact hruns
      | some n => simp
    · exact hruns
/-! words: rows of bytes that are no blanks, each with its place -/
def wordsF : List UInt8 → Nat → Option (Nat × List UInt8) → List (Nat × List UInt8)
  | [], _, none => []
  | [], _, some w => [w]
  | b :: l, at_, none => if b = 32 then wordsF l (at_ + 1) none else wordsF l (at_ + 1) (some (at_, [b]))
  | b :: l, at_, some w => if b = 32 then w :: wordsF l (at_ + 1) none else wordsF l (at_ + 1) (some (w.1, w.2 ++ [b]))
def wordsL (l : List UInt8) : List (Nat × List UInt8) := wordsF l 0 none
theorem words_run : ∀ (p l : List UInt8) (at_ : Nat) (w : Nat × List UInt8), (32 : UInt8) ∉ p → wordsF (p ++ l) at_ (some w) = wordsF l (at_ + p.length) (some (w.1, w.2 ++ p))
  | [], l, at_, w, _ => by simp
  | b :: p, l, at_, w, h => by
    have h1 : b ≠ 32 := fun e => h (by simp [e])
    have h2 : (32 : UInt8) ∉ p := fun e => h (by simp [e])
    rw [List.cons_append, wordsF, if_neg h1, words_run p l _ _ h2]
    simp only [List.length_cons, List.append_assoc, List.cons_append, List.nil_append]
    rw [show at_ + 1 + p.length = at_ + (p.length + 1) by omega]
/-- A word, and a blank behind it. -/
theorem words_word {p : List UInt8} (l : List UInt8) (at_ : Nat) (hp : p ≠ []) (h : (32 : UInt8) ∉ p) : wordsF (p ++ 32 :: l) at_ none = (at_, p) :: wordsF l (at_ + p.length + 1) none := by
  cases p with
  | nil => exact absurd rfl hp
  | cons b p =>
    have h1 : b ≠ 32 := fun e => h (by simp [e])
    have h2 : (32 : UInt8) ∉ p := fun e => h (by simp [e])
    rw [List.cons_append, wordsF, if_neg h1, words_run p _ _ _ h2, wordsF, if_pos rfl]
    simp only [List.length_cons, List.cons_append, List.nil_append]
    rw [show at_ + 1 + p.length + 1 = at_ + (p.length + 1) + 1 by omega]
theorem words_last {p : List UInt8} (at_ : Nat) (hp : p ≠ []) (h : (32 : UInt8) ∉ p) : wordsF p at_ none = [(at_, p)] := by
  cases p with
  | nil => exact absurd rfl hp
  | cons b p =>
    have h1 : b ≠ 32 := fun e => h (by simp [e])
    have h2 : (32 : UInt8) ∉ p := fun e => h (by simp [e])
    have := words_run p [] (at_ + 1) (at_, [b]) h2
    rw [List.append_nil] at this
    rw [wordsF, if_neg h1, this, wordsF]; rfl
/-- More blanks: each one twice. -/
def wideL : List UInt8 → List UInt8
  | [] => []
  | b :: l => if b = 32 then 32 :: 32 :: wideL l else b :: wideL l
theorem words_wide : ∀ (l : List UInt8) (a a' : Nat) (w w' : Option (Nat × List UInt8)), w.map (·.2) = w'.map (·.2) →
    (wordsF (wideL l ++ [32]) a w).map (·.2) = (wordsF l a' w').map (·.2)
  | [], a, a', none, none, _ => by simp [wideL, wordsF]
  | [], a, a', none, some w', h => by simp at h
  | [], a, a', some w, none, h => by simp at h
  | [], a, a', some w, some w', h => by simp [wideL, wordsF] at h ⊢; exact h
  | b :: l, a, a', w, w', h => by
    rw [wideL]
    by_cases e : b = 32
    · rw [if_pos e, e]
      cases w with
      | none =>
        cases w' with
        | none =>
          simp only [List.cons_append, wordsF, if_pos]
          exact words_wide l _ _ none none rfl
        | some w' => simp at h
      | some w =>
        cases w' with
        | none => simp at h
        | some w' =>
          simp only [List.cons_append, wordsF, if_pos, List.map_cons]
          simp at h
          rw [h, words_wide l (a + 1 + 1) (a' + 1) none none rfl]
    · rw [if_neg e]
      cases w with
      | none =>
        cases w' with
        | none =>
          simp only [List.cons_append, wordsF, if_neg e]
          exact words_wide l _ _ _ _ rfl
        | some w' => simp at h
      | some w =>
        cases w' with
        | none => simp at h
        | some w' =>
          simp only [List.cons_append, wordsF, if_neg e]
          simp at h
          exact words_wide l _ _ _ _ (by simp [h])
/-- Places lie within; words are something without blanks. -/
theorem words_in : ∀ (l : List UInt8) (a : Nat) (w : Option (Nat × List UInt8)), (∀ x, w = some x → x.2 ≠ [] ∧ (32 : UInt8) ∉ x.2 ∧ x.1 + x.2.length = a) →
    ∀ x ∈ wordsF l a w, x.2 ≠ [] ∧ (32 : UInt8) ∉ x.2 ∧ x.1 + x.2.length ≤ a + l.length
  | [], a, none, _, x, hx => by simp [wordsF] at hx
  | [], a, some w, h, x, hx => by
    simp [wordsF] at hx
    subst hx
    obtain ⟨h1, h2, h3⟩ := h x rfl
    exact ⟨h1, h2, by simp; omega⟩
  | b :: l, a, none, _, x, hx => by
    rw [wordsF] at hx
    split at hx
    · obtain ⟨h1, h2, h3⟩ := words_in l (a + 1) none (fun _ e => by cases e) x hx
      exact ⟨h1, h2, by simp; omega⟩
    · rename_i hb
      obtain ⟨h1, h2, h3⟩ := words_in l (a + 1) (some (a, [b])) (fun y e => by cases e; exact ⟨by simp, by simpa using fun q => hb q.symm, rfl⟩) x hx
      exact ⟨h1, h2, by simp; omega⟩
  | b :: l, a, some w, h, x, hx => by
    obtain ⟨w1, w2, w3⟩ := h w rfl
    rw [wordsF] at hx
    split at hx
    · rcases List.mem_cons.1 hx with rfl | hx
      · exact ⟨w1, w2, by simp; omega⟩
      · obtain ⟨h1, h2, h3⟩ := words_in l (a + 1) none (fun _ e => by cases e) x hx
        exact ⟨h1, h2, by simp; omega⟩
    · rename_i hb
      obtain ⟨h1, h2, h3⟩ := words_in l (a + 1) (some (w.1, w.2 ++ [b])) (fun y e => by
        cases e
        refine ⟨by simp, ?_, by simp; omega⟩
        intro q
        rcases List.mem_append.1 q with q | q
        · exact w2 q
        · simp at q; exact hb q.symm) x hx
      exact ⟨h1, h2, by simp; omega⟩
end Go.Proofs.YthghcffibljclaaDoor
/- Crons, plain: what a text reads as; the one text, read, is the cron; more blanks change nothing. -/
namespace Go.Proofs.YthghcffibljclaaDoor
open Go Go.Op

/-- What a macro means, as words. -/
def macroL (w : List UInt8) : Option (List UInt8) :=
  if w = [64, 121, 101, 97, 114, 108, 121] ∨ w = [64, 97, 110, 110, 117, 97, 108, 108, 121] then some [48, 32, 48, 32, 49, 32, 49, 32, 42]
  else if w = [64, 109, 111, 110, 116, 104, 108, 121] then some [48, 32, 48, 32, 49, 32, 42, 32, 42]
  else if w = [64, 119, 101, 101, 107, 108, 121] then some [48, 32, 48, 32, 42, 32, 42, 32, 48]
  else if w = [64, 100, 97, 105, 108, 121] ∨ w = [64, 109, 105, 100, 110, 105, 103, 104, 116] then some [48, 32, 48, 32, 42, 32, 42, 32, 42]
  else if w = [64, 104, 111, 117, 114, 108, 121] then some [48, 32, 42, 32, 42, 32, 42, 32, 42]
  else none
/-- Five words, one behind the other: the fields; or where it is wrong. -/
def readW (n : Nat) : Nat → List (Nat × List UInt8) → List (BitVec 64) → Option (List (BitVec 64)) × Nat
  | k, [], acc => if k = 5 then (some acc, 0) else (none, n)
  | k, w :: ws, acc => if k = 5 then (none, w.1) else if (readL k w.2).2.2 = 0 then readW n (k + 1) ws (acc ++ [(readL k w.2).1]) else (none, w.1 + (readL k w.2).2.1)
def readC (s : List UInt8) : Option (List (BitVec 64)) × Nat :=
  match wordsL s with
  | [] => (none, s.length)
  | w :: ws => if w.2.head? = some 64 then match macroL w.2 with
      | none => (none, w.1)
      | some x => match ws with
        | [] => readW x.length 0 (wordsL x) []
        | v :: _ => (none, v.1)
    else readW s.length 0 (w :: ws) []
/-- The one text of five fields. -/
def textC (a b c d e : BitVec 64) : List UInt8 := textL 0 a ++ 32 :: (textL 1 b ++ 32 :: (textL 2 c ++ 32 :: (textL 3 d ++ 32 :: textL 4 e)))
theorem textC_len {a b c d e : BitVec 64} (ha : FieldM 0 a) (hb : FieldM 1 b) (hc : FieldM 2 c) (hd : FieldM 3 d) (he : FieldM 4 e) : (textC a b c d e).length ≤ 245 := by
  have h0 := text_top (by omega) ha
  have h1 := text_top (by omega) hb
  have h2 := text_top (by omega) hc
  have h3 := text_top (by omega) hd
  have h4 := text_top (by omega) he
  have t0 : topL 0 = 114 := rfl
  have t1 : topL 1 = 42 := rfl
  have t2 : topL 2 = 57 := rfl
  have t3 : topL 3 = 19 := rfl
  have t4 : topL 4 = 9 := rfl
  unfold textC
  simp only [List.length_append, List.length_cons]
  omega
theorem words_textC {a b c d e : BitVec 64} (ha : FieldM 0 a) (hb : FieldM 1 b) (hc : FieldM 2 c) (hd : FieldM 3 d) (he : FieldM 4 e) :
    ∃ p1 p2 p3 p4 : Nat, wordsL (textC a b c d e) = [(0, textL 0 a), (p1, textL 1 b), (p2, textL 2 c), (p3, textL 3 d), (p4, textL 4 e)] := by
  have h0 := text_blank ha
  have h1 := text_blank hb
  have h2 := text_blank hc
  have h3 := text_blank hd
  have h4 := text_blank he
  unfold wordsL textC
  rw [words_word _ _ h0.2.1 h0.1, words_word _ _ h1.2.1 h1.1, words_word _ _ h2.2.1 h2.1, words_word _ _ h3.2.1 h3.1, words_last _ h4.2.1 h4.1]
  exact ⟨_, _, _, _, rfl⟩
/-- The one text, read, is the cron. -/
theorem read_textC {a b c d e : BitVec 64} (ha : FieldM 0 a) (hb : FieldM 1 b) (hc : FieldM 2 c) (hd : FieldM 3 d) (he : FieldM 4 e) : readC (textC a b c d e) = (some [a, b, c, d, e], 0) := by
  obtain ⟨p1, p2, p3, p4, hw⟩ := words_textC ha hb hc hd he
  have hn : (textL 0 a).head? ≠ some 64 := fun q => by
    have := List.mem_of_head? q
    exact (text_blank ha).2.2 this
  unfold readC
  rw [hw]
  show (if (textL 0 a).head? = some 64 then _ else _) = _
  rw [if_neg hn]
  simp [readW, read_text ha, read_text hb, read_text hc, read_text hd, read_text he]
/-- What is read are fields. -/
theorem readW_right (n : Nat) : ∀ (ws : List (Nat × List UInt8)) (k : Nat) (acc : List (BitVec 64)) (l : List (BitVec 64)), k ≤ 5 → acc.length = k → (∀ i (h : i < acc.length), FieldM i acc[i]) → (readW n k ws acc).1 = some l → l.length = 5 ∧ (readW n k ws acc).2 = 0 ∧ ∀ i (h : i < l.length), FieldM i l[i]
  | [], k, acc, l, hk, hl, hf, h => by
    unfold readW at h ⊢
    split at h
    · cases h; rename_i e; rw [if_pos e]; exact ⟨by omega, rfl, hf⟩
    · cases h
  | w :: ws, k, acc, l, hk, hl, hf, h => by
    unfold readW at h ⊢
    split at h
    · cases h
    · rename_i e
      rw [if_neg e]
      split at h
      · rename_i h0
        rw [if_pos h0]
        have hk5 : k < 5 := by omega
        have hr : FieldM k (readL k w.2).1 := by
          rcases readL_right hk5 w.2 with ⟨_, _, c⟩ | ⟨c, _⟩
          · exact c
          · rcases c with c | c <;> rw [c] at h0 <;> cases h0
        refine readW_right n ws (k + 1) _ l (by omega) (by simp [hl]) ?_ h
        intro i hi
        rw [List.getElem_append]
        split
        · exact hf i ‹_›
        · simp at hi
          have : i = k := by omega
          subst this
          simpa [hl] using hr
      · cases h
/-- Places do not matter to who reads well. -/
theorem readW_places (n n' : Nat) : ∀ (ws vs : List (Nat × List UInt8)) (k : Nat) (acc : List (BitVec 64)) (l : List (BitVec 64)), ws.map (·.2) = vs.map (·.2) → readW n k ws acc = (some l, 0) → readW n' k vs acc = (some l, 0)
  | [], [], k, acc, l, _, h => by
    unfold readW at h ⊢
    split at h
    · rename_i e; rw [if_pos e]; exact h
    · cases h
  | [], v :: vs, k, acc, l, e, h => by simp at e
  | w :: ws, [], k, acc, l, e, h => by simp at e
  | w :: ws, v :: vs, k, acc, l, e, h => by
    simp only [List.map_cons, List.cons.injEq] at e
    unfold readW at h ⊢
    split at h
    · cases h
    · rename_i ek
      rw [if_neg ek, ← e.1]
      split at h
      · rename_i h0
        rw [if_pos h0]
        exact readW_places n n' ws vs _ _ l e.2 h
      · cases h
theorem readC_places {s t : List UInt8} {l : List (BitVec 64)} (e : (wordsL s).map (·.2) = (wordsL t).map (·.2)) (h : readC s = (some l, 0)) : readC t = (some l, 0) := by
  unfold readC at h ⊢
  cases hs : wordsL s with
  | nil => rw [hs] at h; cases h
  | cons w ws =>
    cases ht : wordsL t with
    | nil => rw [hs, ht] at e; simp at e
    | cons v vs =>
      rw [hs, ht] at e
      simp only [List.map_cons, List.cons.injEq] at e
      rw [hs] at h
      simp only [] at h ⊢
      rw [← e.1]
      split at h
      · rename_i h64
        rw [if_pos h64]
        cases hm : macroL w.2 with
        | none => rw [hm] at h; cases h
        | some x =>
          rw [hm] at h
          cases ws with
          | nil =>
            cases vs with
            | nil => exact h
            | cons v' vs => simp at e
          | cons w' ws => cases h
      · rename_i h64
        rw [if_neg h64]
        exact readW_places s.length t.length (w :: ws) (v :: vs) 0 [] l (by simp [e.1, e.2]) h
/-- More blanks change nothing. -/
theorem read_wide {s : List UInt8} {l : List (BitVec 64)} (h : readC s = (some l, 0)) : readC (32 :: 32 :: (wideL s ++ [32])) = (some l, 0) := by
  refine readC_places ?_ h
  have e1 : wordsL (32 :: 32 :: (wideL s ++ [32])) = wordsF (wideL s ++ [32]) 2 none := by
    unfold wordsL
    simp [wordsF]
  rw [e1, words_wide s 2 0 none none rfl]; rfl
theorem readC_right {s : List UInt8} {l : List (BitVec 64)} {p : Nat} (h : readC s = (some l, p)) : l.length = 5 ∧ p = 0 ∧ ∀ i (h : i < l.length), FieldM i l[i] := by
  have key : ∀ n ws, readW n 0 ws [] = (some l, p) → l.length = 5 ∧ p = 0 ∧ ∀ i (h : i < l.length), FieldM i l[i] := fun n ws hw => by
    have := readW_right n ws 0 [] l (by omega) rfl (fun i h => by simp at h) (by rw [hw])
    rw [hw] at this
    exact this
  unfold readC at h
  cases hs : wordsL s with
  | nil => rw [hs] at h; cases h
  | cons w ws =>
    rw [hs] at h
    simp only [] at h
    split at h
    · cases hm : macroL w.2 with
      | none => rw [hm] at h; cases h
      | some x =>
        rw [hm] at h
        cases ws with
        | nil => exact key _ _ h
        | cons w' ws => cases h
    · exact key _ _ h
end Go.Proofs.YthghcffibljclaaDoor
/- Crons, plain: words as they grow byte by byte; blanks twice, as strings.ReplaceAll tells; blanks counted; a whole field told by how many it has; which dates and times fit. -/
namespace Go.Proofs.YthghcffibljclaaDoor
open Go Go.Op

/-! blanks, twice -/
theorem wide_none : ∀ {l : List UInt8}, (32 : UInt8) ∉ l → wideL l = l
  | [], _ => rfl
  | b :: l, h => by
    have h1 : b ≠ 32 := fun e => h (by simp [e])
    have h2 : (32 : UInt8) ∉ l := fun e => h (by simp [e])
    rw [wideL, if_neg h1, wide_none h2]
theorem wide_append : ∀ (a b : List UInt8), wideL (a ++ b) = wideL a ++ wideL b
  | [], b => rfl
  | c :: a, b => by
    rw [List.cons_append, wideL, wideL, wide_append a b]
    split <;> rfl
theorem wide_len : ∀ (l : List UInt8), (wideL l).length = l.length + l.count 32
  | [] => rfl
  | b :: l => by
    rw [wideL]
    split
    · rename_i e; subst e; simp [wide_len l]; omega
    · rename_i e; rw [List.count_cons_of_ne (fun q => e q)]; simp [wide_len l]; omega
theorem replaceK_wide : ∀ (n : Nat) (l : List UInt8), Lib.count l [32] = n → Lib.replaceK [32] [32, 32] n l = wideL l
  | 0, l, h => by
    rcases index_one 32 l with ⟨h1, h2⟩ | ⟨r, h1, h2, h3⟩
    · rw [Lib.replaceK, wide_none h1]
    · rw [Lib.count_hit (by simp) h3] at h; omega
  | n + 1, l, h => by
    rcases index_one 32 l with ⟨h1, h2⟩ | ⟨r, h1, h2, h3⟩
    · rw [Lib.count_miss h2] at h; omega
    · rw [Lib.count_hit (by simp) h3] at h
      have hn : (32 : UInt8) ∉ (cutB l 32).1 := (cutB_spec l 32).1
      have hd : l.drop ((cutB l 32).1.length + [(32 : UInt8)].length) = r := by
        generalize (cutB l 32).1 = a at *
        subst h1
        simp
      rw [hd] at h
      rw [Lib.replaceK_hit _ _ _ _ _ h3, hd, replaceK_wide n r (by omega)]
      generalize (cutB l 32).1 = a at *
      subst h1
      rw [wide_append, wide_none hn, wideL, if_pos rfl]
      simp
theorem replace_wide (l : List UInt8) : Lib.replaceAll l [32] [32, 32] = wideL l := by
  unfold Lib.replaceAll Lib.replace Lib.replaceNum
  rw [if_neg (by decide), if_pos (by left; decide), replaceK_wide _ l rfl]
theorem count_blank {a b c d e : BitVec 64} (ha : FieldM 0 a) (hb : FieldM 1 b) (hc : FieldM 2 c) (hd : FieldM 3 d) (he : FieldM 4 e) : (textC a b c d e).count 32 = 4 := by
  unfold textC
  have h0 := List.count_eq_zero.2 (text_blank ha).1
  have h1 := List.count_eq_zero.2 (text_blank hb).1
  have h2 := List.count_eq_zero.2 (text_blank hc).1
  have h3 := List.count_eq_zero.2 (text_blank hd).1
  have h4 := List.count_eq_zero.2 (text_blank he).1
  simp [List.count_append, h0, h1, h2, h3, h4]

/-! words, as they grow -/
/-- The words that are closed, and the one that is open. -/
def wordsG : List UInt8 → Nat → Option (Nat × List UInt8) → List (Nat × List UInt8) × Option (Nat × List UInt8)
  | [], _, w => ([], w)
  | b :: l, at_, none => if b = 32 then wordsG l (at_ + 1) none else wordsG l (at_ + 1) (some (at_, [b]))
  | b :: l, at_, some w => if b = 32 then (w :: (wordsG l (at_ + 1) none).1, (wordsG l (at_ + 1) none).2) else wordsG l (at_ + 1) (some (w.1, w.2 ++ [b]))
theorem words_open : ∀ (l : List UInt8) (a : Nat) (w : Option (Nat × List UInt8)), wordsF l a w = (wordsG l a w).1 ++ (wordsG l a w).2.toList
  | [], a, none => rfl
  | [], a, some w => rfl
  | b :: l, a, none => by rw [wordsF, wordsG]; split <;> exact words_open l _ _
  | b :: l, a, some w => by
    rw [wordsF, wordsG]
    split
    · rw [words_open l]; rfl
    · exact words_open l _ _
theorem wordsG_snoc (b : UInt8) : ∀ (l : List UInt8) (a : Nat) (w : Option (Nat × List UInt8)), wordsG (l ++ [b]) a w =
    (if b = 32 then ((wordsG l a w).1 ++ (wordsG l a w).2.toList, none) else match (wordsG l a w).2 with
      | none => ((wordsG l a w).1, some (a + l.length, [b]))
      | some x => ((wordsG l a w).1, some (x.1, x.2 ++ [b])))
  | [], a, none => by simp [wordsG]
  | [], a, some w => by simp [wordsG]
  | c :: l, a, none => by
    rw [List.cons_append, wordsG, wordsG]
    split
    · rw [wordsG_snoc b l, List.length_cons, show a + 1 + l.length = a + (l.length + 1) by omega]
    · rw [wordsG_snoc b l, List.length_cons, show a + 1 + l.length = a + (l.length + 1) by omega]
  | c :: l, a, some w => by
    rw [List.cons_append, wordsG, wordsG]
    split
    · rw [wordsG_snoc b l, List.length_cons, show a + 1 + l.length = a + (l.length + 1) by omega]
      split
      · rfl
      · cases (wordsG l (a + 1) none).2 <;> rfl
    · rw [wordsG_snoc b l, List.length_cons, show a + 1 + l.length = a + (l.length + 1) by omega]
theorem open_last (b : UInt8) (l : List UInt8) : (wordsG (l ++ [b]) 0 none).2.isSome = decide (b ≠ 32) := by
  rw [wordsG_snoc]
  by_cases h : b = 32
  · simp [h]
  · rw [if_neg h]
    cases (wordsG l 0 none).2 <;> simp [h]
/-- The next byte is a blank: the words stay. -/
theorem words_gap (l : List UInt8) : wordsL (l ++ [32]) = wordsL l := by
  unfold wordsL
  rw [words_open, words_open, wordsG_snoc, if_pos rfl]
  simp
/-- A word begins. -/
theorem words_begin {l : List UInt8} {b : UInt8} (hb : b ≠ 32) (h : l = [] ∨ l.getLast? = some 32) : wordsL (l ++ [b]) = wordsL l ++ [(l.length, [b])] := by
  have ho : (wordsG l 0 none).2 = none := by
    rcases h with rfl | h
    · rfl
    · obtain ⟨r, rfl⟩ := List.getLast?_eq_some_iff.1 h
      rw [wordsG_snoc, if_pos rfl]
  unfold wordsL
  rw [words_open, words_open, wordsG_snoc, if_neg hb, ho]
  simp
/-- The last word goes on. -/
theorem words_goes {l : List UInt8} {b c : UInt8} (hb : b ≠ 32) (h : l.getLast? = some c) (hc : c ≠ 32) :
    ∃ r x, wordsL l = r ++ [x] ∧ wordsL (l ++ [b]) = r ++ [(x.1, x.2 ++ [b])] := by
  obtain ⟨q, rfl⟩ := List.getLast?_eq_some_iff.1 h
  have ho := open_last c q
  rw [decide_eq_true hc] at ho
  obtain ⟨x, hx⟩ := Option.isSome_iff_exists.1 ho
  refine ⟨(wordsG (q ++ [c]) 0 none).1, x, ?_, ?_⟩
  · unfold wordsL; rw [words_open, hx]; rfl
  · unfold wordsL; rw [words_open, wordsG_snoc, if_neg hb, hx]; rfl
/-- The same by places: the first so many bytes. -/
theorem words_take {l : List UInt8} {i : Nat} {b : UInt8} (h : l[i]? = some b) :
    (b = 32 → wordsL (l.take (i + 1)) = wordsL (l.take i))
    ∧ (b ≠ 32 → i = 0 ∨ l[i - 1]? = some 32 → wordsL (l.take (i + 1)) = wordsL (l.take i) ++ [(i, [b])])
    ∧ (b ≠ 32 → ∀ c, i ≠ 0 → l[i - 1]? = some c → c ≠ 32 → ∃ r x, wordsL (l.take i) = r ++ [x] ∧ wordsL (l.take (i + 1)) = r ++ [(x.1, x.2 ++ [b])]) := by
  have hi : i < l.length := (List.getElem?_eq_some_iff.1 h).1
  have e : l.take (i + 1) = l.take i ++ [b] := by rw [List.take_add_one, h]; rfl
  have hlast : i ≠ 0 → (l.take i).getLast? = l[i - 1]? := by
    intro h0
    rw [List.getLast?_eq_getElem?, List.length_take, Nat.min_eq_left (by omega), List.getElem?_take_of_lt (by omega)]
  rw [e]
  refine ⟨?_, ?_, ?_⟩
  · rintro rfl; exact words_gap _
  · intro hb h1
    have hlen : (l.take i).length = i := by rw [List.length_take]; omega
    rw [words_begin hb, hlen]
    by_cases h0 : i = 0
    · left; rw [h0]; rfl
    · right; rw [hlast h0]; exact h1.resolve_left h0
  · intro hb c h0 h1 hc
    exact words_goes hb (by rw [hlast h0]; exact h1) hc

/-! a whole field, by how many it has -/
theorem filter_all {α} {p q : α → Bool} : ∀ (l : List α), (∀ x ∈ l, p x = true → q x = true) → (l.filter p).length = (l.filter q).length → ∀ x ∈ l, p x = q x
  | [], _, _ => by simp
  | a :: l, h, hl => by
    have hle : ∀ (l : List α), (∀ x ∈ l, p x = true → q x = true) → (l.filter p).length ≤ (l.filter q).length := by
      intro l
      induction l with
      | nil => simp
      | cons b l ih =>
        intro h
        have := ih (fun x hx => h x (List.mem_cons_of_mem _ hx))
        have hb := h b (List.mem_cons_self ..)
        rw [List.filter_cons, List.filter_cons]
        cases hp : p b <;> cases hq : q b <;> simp [hp, hq] at hb ⊢ <;> omega
    have ha := h a (List.mem_cons_self ..)
    have hr := hle l (fun x hx => h x (List.mem_cons_of_mem _ hx))
    rw [List.filter_cons, List.filter_cons] at hl
    have hpq : p a = q a := by
      cases hp : p a <;> cases hq : q a <;> simp [hp, hq] at ha hl ⊢; omega
    have hl' : (l.filter p).length = (l.filter q).length := by
      rw [hpq] at hl
      split at hl
      · simpa using hl
      · exact hl
    intro x hx
    rcases List.mem_cons.1 hx with rfl | hx
    · exact hpq
    · exact filter_all l (fun x hx => h x (List.mem_cons_of_mem _ hx)) hl' x hx
theorem whole_len {k : Nat} (hk : k < 5) : (elems (wholeM k)).length = hiK k + 1 - loK k := by
  have e : elems (wholeM k) = (List.range 64).filter fun i => decide (loK k ≤ i ∧ i ≤ hiK k) := by
    unfold elems
    refine List.filter_congr fun i hi => ?_
    rw [whole_bit]
    have := List.mem_range.1 hi
    simp [this]
  rw [e]
  rcases (show k = 0 ∨ k = 1 ∨ k = 2 ∨ k = 3 ∨ k = 4 by omega) with rfl | rfl | rfl | rfl | rfl <;> rfl
theorem whole_iff {k : Nat} {m : BitVec 64} (hk : k < 5) (hf : FieldM k m) : (elems m).length = hiK k + 1 - loK k ↔ m = wholeM k := by
  constructor
  · intro h
    rw [← whole_len hk] at h
    unfold elems at h
    refine BitVec.eq_of_getLsbD_eq fun i hi => ?_
    refine filter_all (List.range 64) (fun x hx hp => ?_) h i (List.mem_range.2 hi)
    rw [whole_bit, decide_eq_true_iff]
    exact ⟨List.mem_range.1 hx, hf.2 x hp⟩
  · rintro rfl; exact whole_len hk

/-! which dates fit -/
/-- Does a date with such a day, month and weekday fit? -/
def dayF (day month wd : BitVec 64) (d m w : Nat) : Bool :=
  month.getLsbD m && (if day = wholeM 2 then wd.getLsbD w else if wd = wholeM 4 then day.getLsbD d else day.getLsbD d || wd.getLsbD w)
theorem dayF_whole (day month wd : BitVec 64) (d m w : Nat) (hd : 1 ≤ d ∧ d ≤ 31) (hw : w ≤ 6) :
    dayF (wholeM 2) month wd d m w = (month.getLsbD m && wd.getLsbD w) ∧ dayF day month (wholeM 4) d m w = (month.getLsbD m && day.getLsbD d) := by
  have h2 : (wholeM 2).getLsbD d = true := by rw [whole_bit, decide_eq_true_iff]; exact ⟨by omega, hd.1, hd.2⟩
  have h4 : (wholeM 4).getLsbD w = true := by rw [whole_bit, decide_eq_true_iff]; exact ⟨by omega, by simp [loK], by simp [hiK]; omega⟩
  refine ⟨by unfold dayF; rw [if_pos rfl], ?_⟩
  unfold dayF
  by_cases h : day = wholeM 2
  · rw [if_pos h, h4, h, h2]
  · rw [if_neg h, if_pos rfl]
theorem dayF_else {day month wd : BitVec 64} {d m w : Nat} (hd : 1 ≤ d ∧ d ≤ 31) (hw : w ≤ 6) (h2 : day ≠ wholeM 2) (h4 : wd ≠ wholeM 4) :
    dayF day month wd d m w = (dayF (wholeM 2) month wd d m w || dayF day month (wholeM 4) d m w) := by
  rw [(dayF_whole day month wd d m w hd hw).1, (dayF_whole day month wd d m w hd hw).2]
  unfold dayF
  rw [if_neg h2, if_neg h4]
  cases month.getLsbD m <;> simp [Bool.or_comm]
theorem dayF_more {day month month' wd : BitVec 64} {d m w : Nat} (h : month.getLsbD m = true → month'.getLsbD m = true) (hf : dayF day month wd d m w = true) : dayF day month' wd d m w = true := by
  unfold dayF at hf ⊢
  rw [Bool.and_eq_true] at hf ⊢
  exact ⟨h hf.1, hf.2⟩
end Go.Proofs.YthghcffibljclaaDoor
/- Crons, plain: macros read; where a text is wrong lies within; wakes' texts. -/
namespace Go.Proofs.YthghcffibljclaaDoor
open Go Go.Op

def macroM (w : List UInt8) : Option (List (BitVec 64)) := (macroL w).bind fun x => (readW x.length 0 (wordsL x) []).1
theorem macro_reads {w x : List UInt8} (h : macroL w = some x) : ∃ l, readW x.length 0 (wordsL x) [] = (some l, 0) ∧ readC x = (some l, 0) ∧ macroM w = some l := by
  have e : macroM w = (readW x.length 0 (wordsL x) []).1 := by unfold macroM; rw [h]; rfl
  rw [e]
  clear e
  unfold macroL at h
  split at h
  · cases h; exact ⟨_, rfl, rfl, rfl⟩
  · split at h
    · cases h; exact ⟨_, rfl, rfl, rfl⟩
    · split at h
      · cases h; exact ⟨_, rfl, rfl, rfl⟩
      · split at h
        · cases h; exact ⟨_, rfl, rfl, rfl⟩
        · split at h
          · cases h; exact ⟨_, rfl, rfl, rfl⟩
          · cases h
theorem readW_err {n b : Nat} : ∀ (ws : List (Nat × List UInt8)) (k : Nat) (acc : List (BitVec 64)) (p : Nat), k ≤ 5 → n ≤ b → (∀ x ∈ ws, x.1 + x.2.length ≤ b) → readW n k ws acc = (none, p) → p ≤ b
  | [], k, acc, p, hk, hn, hw, h => by
    rw [readW] at h
    split at h
    · cases h
    · cases h; exact hn
  | w :: ws, k, acc, p, hk, hn, hw, h => by
    have h1 := hw w (List.mem_cons_self ..)
    rw [readW] at h
    split at h
    · cases h; omega
    · rename_i h5
      split at h
      · exact readW_err ws _ _ p (by omega) hn (fun x hx => hw x (List.mem_cons_of_mem _ hx)) h
      · cases h
        rcases readL_right (show k < 5 by omega) w.2 with ⟨_, h2, _⟩ | ⟨_, _, h2⟩ <;> omega
theorem readC_err {s : List UInt8} {p : Nat} (h : readC s = (none, p)) : p ≤ s.length := by
  have hin : ∀ x ∈ wordsL s, x.1 + x.2.length ≤ s.length := fun x hx => by
    have := (words_in s 0 none (fun _ e => by cases e) x hx).2.2
    omega
  unfold readC at h
  split at h
  · cases h; exact Nat.le_refl _
  · rename_i w ws hw
    rw [hw] at hin
    have h1 := hin w (List.mem_cons_self ..)
    split at h
    · split at h
      · cases h; omega
      · rename_i x hx
        split at h
        · obtain ⟨l, hl, _⟩ := macro_reads hx
          rw [hl] at h; cases h
        · rename_i v _
          cases h
          have := hin v (by simp)
          omega
    · exact readW_err _ _ _ _ (by omega) (Nat.le_refl _) hin h
theorem w_cron1 : readC [48, 32, 57, 32, 49, 51, 32, 42, 32, 77, 79, 78, 45, 70, 82, 73] = (some [1#64, 512#64, 8192#64, 8190#64, 62#64], 0) := by decide +kernel
theorem w_cron2 : readC [48, 32, 50, 53, 32, 42, 32, 42, 32, 42] = (none, 2) := by decide +kernel
theorem w_cron3 : textC 1#64 512#64 8192#64 8190#64 62#64 = [48, 32, 57, 32, 49, 51, 32, 42, 32, 49, 45, 53] := by decide +kernel
end Go.Proofs.YthghcffibljclaaDoor
/- Reading, word by word: plain. -/
namespace Go.Proofs.YthghcffibljclaaDoor
open Go Go.Op

/-! pieces, cut at a byte -/
def splitW (c : UInt8) : List UInt8 → List (List UInt8)
  | [] => [[]]
  | b :: l => if b = c then [] :: splitW c l else match splitW c l with
    | [] => [[b]]
    | p :: ps => (b :: p) :: ps
theorem splitW_ne (c : UInt8) : ∀ l, splitW c l ≠ []
  | [] => by simp [splitW]
  | b :: l => by
    rw [splitW]
    split
    · simp
    · split <;> simp
theorem splitW_cut (c : UInt8) : ∀ l : List UInt8, splitW c l = (cutB l c).1 :: (match (cutB l c).2 with | none => [] | some r => splitW c r)
  | [] => rfl
  | b :: l => by
    rw [splitW, cutB]
    by_cases h : b = c
    · rw [if_pos h, if_pos h]
    · rw [if_neg h, if_neg h, splitW_cut c l]
theorem splitK_w (c : UInt8) : ∀ (n : Nat) (l : List UInt8), Lib.count l [c] = n → Lib.splitK [c] 0 n l = splitW c l
  | 0, l, h => by
    rcases index_one c l with ⟨h1, h2⟩ | ⟨r, h1, h2, h3⟩
    · rw [Lib.splitK, splitW_cut, cutB_none h1]
    · rw [Lib.count_hit (by simp) h3] at h; omega
  | n + 1, l, h => by
    rcases index_one c l with ⟨h1, h2⟩ | ⟨r, h1, h2, h3⟩
    · rw [Lib.count_miss h2] at h; omega
    · rw [Lib.count_hit (by simp) h3] at h
      have hd : l.drop ((cutB l c).1.length + [c].length) = r := by
        generalize (cutB l c).1 = a at *
        subst h1
        simp
      have ht : l.take ((cutB l c).1.length + 0) = (cutB l c).1 := by
        generalize (cutB l c).1 = a at *
        subst h1
        simp
      rw [hd] at h
      rw [Lib.splitK, h3, if_neg (by simp), Int.toNat_natCast, hd, ht, splitK_w c n r (by omega), splitW_cut c l, h2]
theorem splitW_sum (c : UInt8) : ∀ l, ((splitW c l).map fun p => p.length + 1).sum = l.length + 1
  | [] => rfl
  | b :: l => by
    have ih := splitW_sum c l
    rw [splitW]
    split
    · simp [ih]; omega
    · cases h : splitW c l with
      | nil => exact absurd h (splitW_ne c l)
      | cons p ps => rw [h] at ih; simp at ih ⊢; omega
/-- The words among pieces. -/
def wordsP : List (List UInt8) → Nat → List (Nat × List UInt8)
  | [], _ => []
  | p :: ps, a => if p = [] then wordsP ps (a + 1) else (a, p) :: wordsP ps (a + p.length + 1)
theorem words_split : ∀ (l : List UInt8) (a : Nat), wordsF l a none = wordsP (splitW 32 l) a ∧
    ∀ (w : Nat × List UInt8) p ps, splitW 32 l = p :: ps → wordsF l a (some w) = (w.1, w.2 ++ p) :: wordsP ps (a + p.length + 1)
  | [], a => ⟨rfl, fun w p ps h => by cases h; simp [wordsF, wordsP]⟩
  | b :: l, a => by
    obtain ⟨ih1, ih2⟩ := words_split l (a + 1)
    by_cases hb : b = 32
    · refine ⟨?_, fun w p ps h => ?_⟩
      · rw [wordsF, if_pos hb, splitW, if_pos hb, wordsP, if_pos rfl, ih1]
      · rw [splitW, if_pos hb] at h
        cases h
        rw [wordsF, if_pos hb, ih1]
        simp
    · obtain ⟨p, ps, hp⟩ : ∃ p ps, splitW 32 l = p :: ps := by
        cases h : splitW 32 l with
        | nil => exact absurd h (splitW_ne 32 l)
        | cons p ps => exact ⟨p, ps, rfl⟩
      refine ⟨?_, fun w q qs h => ?_⟩
      · rw [wordsF, if_neg hb, splitW, if_neg hb, hp, ih2 _ p ps hp, wordsP, if_neg (by simp)]
        simp only [List.cons_append, List.nil_append, List.length_cons]
        rw [show a + 1 + p.length + 1 = a + (p.length + 1) + 1 by omega]
      · rw [splitW, if_neg hb, hp] at h
        cases h
        rw [wordsF, if_neg hb, ih2 _ p ps hp]
        simp only [List.append_assoc, List.cons_append, List.nil_append, List.length_cons]
        rw [show a + 1 + p.length + 1 = a + (p.length + 1) + 1 by omega]
theorem words_pieces (l : List UInt8) : wordsL l = wordsP (splitW 32 l) 0 := (words_split l 0).1
/-- How far the first so many pieces reach. -/
def atP (ps : List (List UInt8)) (k : Nat) : Nat := ((ps.take k).map fun p => p.length + 1).sum
theorem atP_zero (ps : List (List UInt8)) : atP ps 0 = 0 := rfl
theorem atP_succ {ps : List (List UInt8)} {k : Nat} {p : List UInt8} (h : ps[k]? = some p) : atP ps (k + 1) = atP ps k + p.length + 1 := by
  unfold atP
  rw [List.take_add_one, h]
  simp; omega
theorem atP_le (c : UInt8) (l : List UInt8) (k : Nat) : atP (splitW c l) k ≤ l.length + 1 := by
  rw [← splitW_sum c l]
  unfold atP
  generalize splitW c l = ps
  induction ps generalizing k with
  | nil => simp
  | cons p ps ih =>
    cases k with
    | zero => simp
    | succ k => have := ih k; simp at this ⊢; omega
theorem wordsP_append : ∀ (a b : List (List UInt8)) (n : Nat), wordsP (a ++ b) n = wordsP a n ++ wordsP b (n + (a.map fun p => p.length + 1).sum)
  | [], b, n => by simp [wordsP]
  | p :: a, b, n => by
    rw [List.cons_append, wordsP, wordsP]
    split
    · rename_i h; subst h; rw [wordsP_append a b]; simp; rw [show n + 1 + (a.map fun p => p.length + 1).sum = n + (1 + (a.map fun p => p.length + 1).sum) by omega]
    · rw [wordsP_append a b]; simp; rw [show n + p.length + 1 + (a.map fun p => p.length + 1).sum = n + (p.length + 1 + (a.map fun p => p.length + 1).sum) by omega]
theorem wordsP_next {ps : List (List UInt8)} {k : Nat} {p : List UInt8} (h : ps[k]? = some p) :
    wordsP (ps.take (k + 1)) 0 = wordsP (ps.take k) 0 ++ (if p = [] then [] else [(atP ps k, p)]) := by
  rw [List.take_add_one, h, Option.toList_some, wordsP_append]
  unfold atP
  rw [wordsP, Nat.zero_add]
  split <;> rfl
theorem wordsP_front (ps : List (List UInt8)) (k : Nat) : wordsP (ps.take k) 0 <+: wordsP ps 0 := by
  refine ⟨wordsP (ps.drop k) (0 + ((ps.take k).map fun p => p.length + 1).sum), ?_⟩
  rw [← wordsP_append, List.take_append_drop]
theorem split_at (c : UInt8) {l : List UInt8} {k : Nat} {p : List UInt8} (h : (splitW c l)[k]? = some p) : atP (splitW c l) k + p.length ≤ l.length := by
  have h1 := atP_succ h
  have h2 := atP_le c l (k + 1)
  omega

/-! reading -/
/-- What a word does to the fields, of which so many are filled: the fields, how many more are filled then, or 0, and the place. -/
def fillC (l : List (BitVec 64)) (f : Nat) (w : List UInt8) : List (BitVec 64) × Nat × Nat :=
  if f = 5 then (l, 0, 0)
  else if f = 0 ∧ w.head? = some 64 then match macroM w with
    | none => (l, 0, 0)
    | some m => (m, 5, 0)
  else if (readL f w).2.2 = 0 then (l.set f (readL f w).1, 1, 0) else (l.set f (readL f w).1, 0, (readL f w).2.1)
def runC (n : Nat) : List (Nat × List UInt8) → List (BitVec 64) → Nat → Option (List (BitVec 64)) × Nat
  | [], l, f => if f < 5 then (none, n) else (some l, 0)
  | w :: ws, l, f => if (fillC l f w.2).2.1 = 0 then (none, w.1 + (fillC l f w.2).2.2) else runC n ws (fillC l f w.2).1 (f + (fillC l f w.2).2.1)
theorem runC_full (n : Nat) (l : List (BitVec 64)) (ws : List (Nat × List UInt8)) : runC n ws l 5 = match ws with | [] => (some l, 0) | w :: _ => (none, w.1) := by
  cases ws with
  | nil => rfl
  | cons w ws => simp [runC, fillC]
theorem runC_readW (n : Nat) : ∀ (ws : List (Nat × List UInt8)) (k : Nat) (acc : List (BitVec 64)), k ≤ 5 → acc.length = k → (k ≠ 0 ∨ ∀ w, ws.head? = some w → w.2.head? ≠ some 64) →
    runC n ws (acc ++ List.replicate (5 - k) 0#64) k = readW n k ws acc
  | [], k, acc, hk, ha, _ => by
    rw [runC, readW]
    by_cases h : k = 5
    · subst h; simp
    · rw [if_pos (by omega), if_neg h]
  | w :: ws, k, acc, hk, ha, hm => by
    rw [runC, readW]
    by_cases h : k = 5
    · subst h; simp [fillC]
    · have hm2 : ¬ (k = 0 ∧ w.2.head? = some 64) := by
        rintro ⟨h0, h1⟩
        rcases hm with hm | hm
        · exact hm h0
        · exact hm w rfl h1
      have hf : fillC (acc ++ List.replicate (5 - k) 0#64) k w.2 = if (readL k w.2).2.2 = 0 then ((acc ++ List.replicate (5 - k) 0#64).set k (readL k w.2).1, 1, 0) else ((acc ++ List.replicate (5 - k) 0#64).set k (readL k w.2).1, 0, (readL k w.2).2.1) := by
        unfold fillC
        rw [if_neg h, if_neg hm2]
      rw [hf, if_neg h]
      by_cases he : (readL k w.2).2.2 = 0
      · rw [if_pos he, if_pos he]
        simp only [Nat.one_ne_zero, if_false]
        have hs : (acc ++ List.replicate (5 - k) 0#64).set k (readL k w.2).1 = (acc ++ [(readL k w.2).1]) ++ List.replicate (5 - (k + 1)) 0#64 := by
          rw [show 5 - k = (5 - (k + 1)) + 1 by omega, List.replicate_succ, List.set_append_right _ _ (by omega), ha, Nat.sub_self]
          simp
        rw [hs]
        exact runC_readW n ws (k + 1) (acc ++ [(readL k w.2).1]) (by omega) (by simp [ha]) (.inl (by omega))
      · rw [if_neg he, if_neg he]
        simp
theorem runC_read (s : List UInt8) : runC s.length (wordsL s) [0#64, 0#64, 0#64, 0#64, 0#64] 0 = readC s := by
  unfold readC
  cases h : wordsL s with
  | nil => rfl
  | cons w ws =>
    simp only
    by_cases h64 : w.2.head? = some 64
    · rw [if_pos h64, runC]
      have hf : fillC [0#64, 0#64, 0#64, 0#64, 0#64] 0 w.2 = match macroM w.2 with
          | none => ([0#64, 0#64, 0#64, 0#64, 0#64], 0, 0)
          | some m => (m, 5, 0) := by
        unfold fillC
        rw [if_neg (by omega), if_pos ⟨rfl, h64⟩]
      rw [hf]
      cases hm : macroL w.2 with
      | none =>
        have hM : macroM w.2 = none := by unfold macroM; rw [hm]; rfl
        rw [hM]
        simp
      | some x =>
        obtain ⟨l, h1, h2, h3⟩ := macro_reads hm
        rw [h3]
        simp only [Nat.zero_add]
        rw [if_neg (by omega), runC_full]
        cases ws with
        | nil => exact h1.symm
        | cons v vs => rfl
    · rw [if_neg h64]
      exact runC_readW s.length (w :: ws) 0 [] (by omega) rfl (.inr fun v hv => by cases hv; exact h64)
theorem readL_zero {k : Nat} {s : List UInt8} (h : (readL k s).2.2 ≠ 0) : (readL k s).1 = 0#64 := by
  unfold readL at *
  by_cases hn : 256 < s.length
  · rw [if_pos hn]
  · rw [if_neg hn] at h ⊢
    have key : ∀ (ps : List (List UInt8)) (a : Nat) (m : BitVec 64), (readP k ps a m).2.2 ≠ 0 → (readP k ps a m).1 = 0#64 := by
      intro ps
      induction ps with
      | nil => intro a m h; exact absurd rfl h
      | cons p ps ih =>
        intro a m h
        rw [readP] at h ⊢
        cases hi : itemL k p with
        | none => rfl
        | some x => rw [hi] at h; exact ih _ _ h
    exact key _ _ _ h
theorem fillC_len {l : List (BitVec 64)} {f : Nat} {w : List UInt8} (h : l.length = 5) : (fillC l f w).1.length = 5 := by
  unfold fillC
  split
  · exact h
  · split
    · cases hm : macroM w with
      | none => exact h
      | some m =>
        obtain ⟨x, hx, hy⟩ := Option.bind_eq_some_iff.1 hm
        obtain ⟨q, h1, h2, h3⟩ := macro_reads hx
        have := (readC_right h2).1
        rw [h3] at hm; cases hm
        exact this
    · split <;> simp [h]
theorem fillC_count {l : List (BitVec 64)} {f : Nat} {w : List UInt8} (h : f ≤ 5) : f + (fillC l f w).2.1 ≤ 5 := by
  unfold fillC
  split
  · exact h
  · split
    · rename_i h0
      cases macroM w with
      | none => exact h
      | some m => simp; omega
    · split <;> simp <;> omega
theorem fillC_place {l : List (BitVec 64)} {f : Nat} {w : List UInt8} (h : f ≤ 5) : (fillC l f w).2.2 ≤ w.length := by
  unfold fillC
  split
  · exact Nat.zero_le _
  · split
    · cases macroM w <;> exact Nat.zero_le _
    · split
      · exact Nat.zero_le _
      · rename_i h5 _ he
        rcases readL_right (show f < 5 by omega) w with ⟨h1, _, _⟩ | ⟨_, _, h2⟩
        · exact absurd h1 he
        · exact h2
/-- The run goes on behind so many words. -/
theorem runC_on {n : Nat} {pre : List (Nat × List UInt8)} {x : Nat × List UInt8} {Z l : List (BitVec 64)} {f : Nat} (h : ∀ rest, runC n (pre ++ rest) Z 0 = runC n rest l f) :
    (if (fillC l f x.2).2.1 = 0 then ∀ rest, runC n (pre ++ [x] ++ rest) Z 0 = (none, x.1 + (fillC l f x.2).2.2) else ∀ rest, runC n (pre ++ [x] ++ rest) Z 0 = runC n rest (fillC l f x.2).1 (f + (fillC l f x.2).2.1)) := by
  split
  · rename_i h0
    intro rest
    rw [List.append_assoc, h, List.cons_append, List.nil_append, runC, if_pos h0]
  · rename_i h0
    intro rest
    rw [List.append_assoc, h, List.cons_append, List.nil_append, runC, if_neg h0]
end Go.Proofs.YthghcffibljclaaDoor
/- The document's words of a text: walked. -/
namespace Go.Proofs.YthghcffibljclaaDoor
open Go.RowKit

def wenc (x : Nat × List UInt8) : List Value := [.int .i64 (x.1 : Int), .string ⟨x.2.toArray⟩]
theorem wenc_len (l : List (Nat × List UInt8)) : (l.flatMap wenc).length = l.length * 2 := by
  induction l with
  | nil => rfl
  | cons a l ih => rw [List.flatMap_cons, List.length_append, ih, List.length_cons]; show 2 + _ = _; omega
theorem word_set (pre : List (Nat × List UInt8)) (a : Nat) (t u : List UInt8) : ((pre ++ [(a, t)]).flatMap wenc).set (pre.length * 2 + 1) (.string ⟨u.toArray⟩) = (pre ++ [(a, u)]).flatMap wenc := by
  rw [List.flatMap_append, List.flatMap_append, List.set_append_right _ _ (by rw [wenc_len]; omega), wenc_len, show pre.length * 2 + 1 - pre.length * 2 = 1 by omega]
  rfl
theorem str_add' (a b : List UInt8) : (⟨a.toArray⟩ : ByteArray) ++ ⟨b.toArray⟩ = ⟨(a ++ b).toArray⟩ := by
  apply ByteArray.ext
  rw [ByteArray.data_append]; simp
theorem one_at (s : ByteArray) (k : Nat) (h : k < s.size) : s.extract k (k + 1) = ⟨[s[k]].toArray⟩ := by
  apply ByteArray.ext
  rw [ByteArray.data_extract]
  apply Array.ext'
  rw [Array.toList_extract]
  have : s.data.toList.drop k = s[k] :: s.data.toList.drop (k + 1) := by
    rw [List.drop_eq_getElem_cons (by simpa using h)]; rfl
  simp [List.extract, this]
theorem byte_at (s : ByteArray) (k : Nat) (h : k < s.size) : s.data.toList[k]? = some s[k] := by
  rw [List.getElem?_eq_getElem (by simpa using h)]; rfl
theorem words_count : ∀ (l : List UInt8) (a : Nat) (w : Option (Nat × List UInt8)), (wordsF l a w).length ≤ l.length + w.toList.length
  | [], _, none => by simp [wordsF]
  | [], _, some w => by simp [wordsF]
  | b :: l, a, none => by
    have h1 := words_count l (a + 1) none
    have h2 := words_count l (a + 1) (some (a, [b]))
    rw [wordsF]; simp at h1 h2 ⊢; split <;> omega
  | b :: l, a, some w => by
    have h1 := words_count l (a + 1) none
    have h2 := words_count l (a + 1) (some (w.1, w.2 ++ [b]))
    rw [wordsF]; simp at h1 h2 ⊢; split
    · rw [List.length_cons]; omega
    · omega
theorem words_bd (l : List UInt8) (k : Nat) : (wordsL (l.take k)).length ≤ k ∧ ∀ x ∈ wordsL (l.take k), x.2.length ≤ k := by
  have h := words_count (l.take k) 0 none
  have hl : (l.take k).length ≤ k := by rw [List.length_take]; omega
  refine ⟨by unfold wordsL; have e : (none : Option (Nat × List UInt8)).toList.length = 0 := rfl; omega, fun x hx => ?_⟩
  have := (words_in (l.take k) 0 none (fun _ e => by cases e) x hx).2.2
  omega
end Go.Proofs.YthghcffibljclaaDoor
/- The document's macros, and which crons may be: walked. -/
namespace Go.Proofs.YthghcffibljclaaDoor
open Go.RowKit

end Go.Proofs.YthghcffibljclaaDoor
/- The document's fields of a cron, and the cron of fields: walked. -/
namespace Go.Proofs.YthghcffibljclaaDoor
open Go.RowKit

/-- A cron, and an array of five masks: five cells. -/
def fiveV (a b c d e : BitVec 64) : Value := .agg #[.int .u64 (U a), .int .u64 (U b), .int .u64 (U c), .int .u64 (U d), .int .u64 (U e)]
theorem below_five {B g : Nat} {a w : World} (h : Below B a w) (hg : B ≤ g) (u0 u1 u2 u3 u4 : Value) :
    Below B a (((((w.setCell ⟨g, 0, none⟩ u0).setCell ⟨g, 1, none⟩ u1).setCell ⟨g, 2, none⟩ u2).setCell ⟨g, 3, none⟩ u3).setCell ⟨g, 4, none⟩ u4) :=
  ((((h.setCell hg _).setCell hg _).setCell hg _).setCell hg _).setCell hg _
def fiveB (a b c d e : BitVec 64) : Bool := fieldB 0 a && (fieldB 1 b && (fieldB 2 c && (fieldB 3 d && fieldB 4 e)))
theorem five_yes {a b c d e : BitVec 64} (h : ∀ j : Nat, j < 5 → fieldB j ([a, b, c, d, e].getD j 0#64) = true) : fiveB a b c d e = true := by
  have h0 := h 0 (by omega); have h1 := h 1 (by omega); have h2 := h 2 (by omega); have h3 := h 3 (by omega); have h4 := h 4 (by omega)
  simp at h0 h1 h2 h3 h4
  simp [fiveB, h0, h1, h2, h3, h4]
theorem five_no {a b c d e : BitVec 64} {j : Nat} (hj : j < 5) (h : fieldB j ([a, b, c, d, e].getD j 0#64) = false) : fiveB a b c d e = false := by
  rcases five hj with rfl | rfl | rfl | rfl | rfl <;> simp at h <;> simp [fiveB, h]
end Go.Proofs.YthghcffibljclaaDoor
/- A cron in memory; fields, put, Check: walked, of the program. -/
namespace Go.Proofs.YthghcffibljclaaDoor
open Go.RowKit

def cronV (L : List (BitVec 64)) : Value := .agg (L.map menc).toArray
theorem cronV_five (a b c d e : BitVec 64) : cronV [a, b, c, d, e] = fiveV a b c d e := rfl
theorem list_five {L : List (BitVec 64)} (h : L.length = 5) : ∃ a b c d e, L = [a, b, c, d, e] := by
  match L, h with
  | [a, b, c, d, e], _ => exact ⟨a, b, c, d, e, rfl⟩
/-- A cron stands in block g. -/
def CronAt (w : World) (g : Nat) (L : List (BitVec 64)) : Prop := L.length = 5 ∧ D.Box w g 26 (L.map menc).toArray
section
variable {w w' : World} {g : Nat} {L : List (BitVec 64)}
theorem CronAt.lt (h : CronAt w g L) : g < w.heap.size := D.Box.lt h.2
theorem CronAt.below {B : Nat} (h : CronAt w g L) (hb : Below B w w') (hg : g < B) : CronAt w' g L := ⟨h.1, D.Box.below h.2 hb hg⟩
theorem CronAt.on (h : CronAt w g L) (hb : Below w.heap.size w w') : CronAt w' g L := h.below hb h.lt
theorem CronAt.cell (h : CronAt w g L) {k : Nat} (hk : k < 5) : w.cell? ⟨g, k, none⟩ = some (.int .u64 (U (L.getD k 0#64))) := by
  rw [D.Box.cell h.2 k, List.getElem?_toArray, List.getElem?_map, List.getD_eq_getElem?_getD, List.getElem?_eq_getElem (by rw [h.1]; exact hk)]; rfl
theorem CronAt.frozen (h : CronAt w g L) (k : Nat) : w.frozen? ⟨g, k, none⟩ = false := D.Box.frozen h.2 k
theorem CronAt.set (h : CronAt w g L) (k : Nat) (m : BitVec 64) : CronAt (w.setCell ⟨g, k, none⟩ (.int .u64 (U m))) g (L.set k m) := by
  refine ⟨by rw [List.length_set]; exact h.1, ?_⟩
  have := D.Box.set h.2 k (menc m)
  rw [List.map_set, ← List.setIfInBounds_toArray]
  exact this
theorem CronAt.new (w : World) (a b c d e : BitVec 64) : CronAt (w.alloc (.cells #[.int .u64 (U a), .int .u64 (U b), .int .u64 (U c), .int .u64 (U d), .int .u64 (U e)] 26)) w.heap.size [a, b, c, d, e] := ⟨rfl, D.Box.new _ _ _⟩
theorem CronAt.alloc (h : CronAt w g L) (o : Obj) : CronAt (w.alloc o) g L := ⟨h.1, D.Box.alloc h.2 o⟩
theorem CronAt.five {a b c d e : BitVec 64} (h : CronAt w g [a, b, c, d, e]) :
    w.cell? ⟨g, 0, none⟩ = some (.int .u64 (U a)) ∧ w.cell? ⟨g, 1, none⟩ = some (.int .u64 (U b)) ∧ w.cell? ⟨g, 2, none⟩ = some (.int .u64 (U c)) ∧ w.cell? ⟨g, 3, none⟩ = some (.int .u64 (U d)) ∧ w.cell? ⟨g, 4, none⟩ = some (.int .u64 (U e)) :=
  ⟨h.cell (k := 0) (by omega), h.cell (k := 1) (by omega), h.cell (k := 2) (by omega), h.cell (k := 3) (by omega), h.cell (k := 4) (by omega)⟩
theorem CronAt.set5 {a b c d e : BitVec 64} (h : CronAt w g [a, b, c, d, e]) (a' b' c' d' e' : BitVec 64) :
    CronAt (((((w.setCell ⟨g, 0, none⟩ (.int .u64 (U a'))).setCell ⟨g, 1, none⟩ (.int .u64 (U b'))).setCell ⟨g, 2, none⟩ (.int .u64 (U c'))).setCell ⟨g, 3, none⟩ (.int .u64 (U d'))).setCell ⟨g, 4, none⟩ (.int .u64 (U e'))) g [a', b', c', d', e'] :=
  ((((h.set 0 a').set 1 b').set 2 c').set 3 d').set 4 e'
theorem CronAt.far (h : CronAt w g L) {p i : Nat} (hp : g ≠ p) (u : Value) : CronAt (w.setCell ⟨p, i, none⟩ u) g L := ⟨h.1, D.Box.far h.2 hp u⟩
end
/-- Below B, only block g may have turned. -/
structure Sole (g B : Nat) (w w' : World) : Prop where
  os : w'.os = w.os
  tape : w'.tape = w.tape
  output : w'.output = w.output
  size : w.heap.size ≤ w'.heap.size
  block : ∀ k, k < B → k ≠ g → w'.heap[k]? = w.heap[k]?
theorem Sole.below {g B C : Nat} {a b : World} (h : Sole g B a b) (hg : C ≤ g) (hB : C ≤ B) : Below C a b := ⟨h.os, h.tape, h.output, h.size, fun k hk => h.block k (by omega) (by omega)⟩
theorem Sole.of {g B : Nat} {a b : World} (h : Below B a b) : Sole g B a b := ⟨h.os, h.tape, h.output, h.size, fun k hk _ => h.block k hk⟩
theorem Sole.set {g B i : Nat} {a b : World} (h : Sole g B a b) (u : Value) : Sole g B a (b.setCell ⟨g, i, none⟩ u) :=
  ⟨h.os, h.tape, h.output, by simpa using h.size, fun k hk hn => (Below.heap_setCell b ⟨g, i, none⟩ u k hn).trans (h.block k hk hn)⟩
theorem Sole.trans {g B : Nat} {a b c : World} (h : Sole g B a b) (k : Sole g B b c) : Sole g B a c :=
  ⟨k.os.trans h.os, k.tape.trans h.tape, k.output.trans h.output, Nat.le_trans h.size k.size, fun i hi hn => (k.block i hi hn).trans (h.block i hi hn)⟩
theorem Sole.mono {g B C : Nat} {a b : World} (h : Sole g B a b) (hC : C ≤ B) : Sole g C a b := ⟨h.os, h.tape, h.output, h.size, fun k hk => h.block k (by omega)⟩

def ptrsV (g : Nat) : Value := .agg #[.pointer (some ⟨g, 0, none⟩), .pointer (some ⟨g, 1, none⟩), .pointer (some ⟨g, 2, none⟩), .pointer (some ⟨g, 3, none⟩), .pointer (some ⟨g, 4, none⟩)]
theorem index_ptrs (g k : Nat) (hk : k < 5) (w : World) : (Instr.index 98 (ptrsV g) (.int .i64 (k : Int))).run Tryd.prog w = .ok (.pointer (some ⟨g, k, none⟩)) w := by
  rcases five hk with rfl | rfl | rfl | rfl | rfl <;>
  simp [Instr.index, asIntOf, Sem.run_bind, run_underlying Tryd.underlying98, Tryd.sizeOf97, Tryd.isAgg97, Go.part, Result.andThen, ptrsV]
set_option maxRecDepth 100000 in
theorem fields_any (g : Nat) (w : World) :
    Calls Tryd.prog 42 #[.pointer (some ⟨g, 0, none⟩)] w fun x w' => x = .returned (ptrsV g) ∧ Below w.heap.size w w' := by
  unfold ptrsV
  go_enter Tryd.func42, Tryd.ntmps42
  go_wp2_with fail
  go_region
  go_wp2_with fail
  refine bodyPost_ret (v := .agg #[.pointer (some ⟨g, 0, none⟩), .pointer (some ⟨g, 1, none⟩), .pointer (some ⟨g, 2, none⟩), .pointer (some ⟨g, 3, none⟩), .pointer (some ⟨g, 4, none⟩)]) (by simp [results, Tryd.results42, go_sem]) rfl ⟨rfl, ((Below.refl _ _).alloc (Nat.le_refl _) _).drew⟩
/-- put: what Read tells of the text goes into its field. -/
def putV (k : Nat) (l : List UInt8) : Value := .tuple #[.int .i64 ((readL k l).2.1 : Int), .int .i64 (readL k l).2.2]
/-! which crons may be -/
def crB (L : List (BitVec 64)) : Bool := (List.range 5).all fun k => fieldB k (L.getD k 0#64)
theorem crB_five (a b c d e : BitVec 64) : crB [a, b, c, d, e] = fiveB a b c d e := by
  have hr : List.range 5 = [0, 1, 2, 3, 4] := by decide
  simp [crB, fiveB, hr]
theorem crB_yes {L : List (BitVec 64)} (h : ∀ k, k < 5 → fieldB k (L.getD k 0#64) = true) : crB L = true := by
  unfold crB
  rw [List.all_eq_true]
  exact fun k hk => h k (List.mem_range.1 hk)
theorem crB_no {L : List (BitVec 64)} {k : Nat} (hk : k < 5) (h : fieldB k (L.getD k 0#64) = false) : crB L = false := by
  cases hb : crB L with
  | false => rfl
  | true =>
    have := List.all_eq_true.1 hb k (List.mem_range.2 hk)
    rw [h] at this; cases this
theorem crB_at {L : List (BitVec 64)} (h : crB L = true) {k : Nat} (hk : k < 5) : fieldB k (L.getD k 0#64) = true := List.all_eq_true.1 h k (List.mem_range.2 hk)
def crE (L : List (BitVec 64)) : Int := if crB L then 0 else 170
set_option maxRecDepth 100000 in
set_option maxHeartbeats 1000000 in
theorem ccheck_any (L : List (BitVec 64)) (w : World) (hL : Laid w) (h5 : L.length = 5) :
    Calls Tryd.prog 28 #[cronV L] w fun x w' => x = .returned (.int .i64 (crE L)) ∧ Below w.heap.size w w' := by
  have HY : Hid ((∀ k, k < 5 → fieldB k (L.getD k 0#64) = true) → crE L = 0) := Lib.hid (fun h => by unfold crE; rw [if_pos (crB_yes h)])
  have HN : Hid (∀ k, k < 5 → fieldB k (L.getD k 0#64) = false → crE L = 170) := Lib.hid (fun k hk h => by unfold crE; rw [crB_no hk h]; rfl)
  have HL := Lib.hid hL
  clear hL
  obtain ⟨a, b, c, d, e, rfl⟩ := list_five h5
  rw [cronV_five]
  unfold fiveV
  generalize crE [a, b, c, d, e] = z at *
  go_enter Tryd.func28, Tryd.ntmps28
  go_wp2_with fail
  have HC0 := Lib.hid (CronAt.new w a b c d e)
  have HB0 : Hid (Below w.heap.size w (w.alloc (.cells #[.int .u64 (U a), .int .u64 (U b), .int .u64 (U c), .int .u64 (U d), .int .u64 (U e)] 26))) := Lib.hid ((Below.refl w.heap.size w).alloc (Nat.le_refl _) _)
  generalize [a, b, c, d, e] = L at *
  generalize w.alloc _ = w0 at *
  refine (fields_any w.heap.size w0).mono ?_
  rintro x w1 ⟨rfl, hb⟩
  have HB1 : Hid (Below w.heap.size w w1) := Lib.hid (HB0.out.trans (hb.mono HB0.out.size)); have HC1 := Lib.hid (HC0.out.on hb)
  clear hb HC0 HB0
  go_wp2_with fail
  go_loopw [3, 4, 6] (fun _ _ i wr => ∃ j : Nat, j ≤ 5 ∧ i = .int .i64 (j : Int) ∧ Below w.heap.size w wr ∧ CronAt wr w.heap.size L ∧ ∀ q : Nat, q < j → fieldB q (L.getD q 0#64) = true) (fun _ _ i _ => 5 - (intOf i).toNat)
  case atStart => exact ⟨0, by omega, rfl, HB1.out, HC1.out, fun q hq => by omega⟩
  case round =>
    obtain ⟨j, hj, rfl, hb, hc, hall⟩ := hrel
    have HB := Lib.hid hb; have HC := Lib.hid hc; have HA := Lib.hid hall
    clear hb hc hall
    by_cases hlt : j < 5
    · have hj5 : (j : Int) < 5 := by omega
      have hix := fun W => index_ptrs w.heap.size j hlt W
      have hcell := HC.out.cell hlt
      have HR := Lib.hid (fun W hW => check_yes j (L.getD j 0#64) W hW hlt)
      have HLr := Lib.hid (HL.out.on HB.out)
      have HN' := Lib.hid (HN.out j hlt)
      have HN2 : Hid (fieldB j (L.getD j 0#64) = true → ∀ q : Nat, q < j + 1 → fieldB q (L.getD q 0#64) = true) := Lib.hid (fun h q hq => by
        rcases Nat.lt_succ_iff_lt_or_eq.1 hq with h' | rfl
        · exact HA.out q h'
        · exact h)
      generalize L.getD j 0#64 = m at *
      generalize fieldB j m = y at *
      go_wp2_with fail
      refine (HR.out _ HLr.out).mono ?_
      rintro x w2 ⟨rfl, hb⟩
      have HB2 : Hid (Below w.heap.size w w2) := Lib.hid (HB.out.trans (hb.mono HB.out.size))
      have HC2 := Lib.hid (HC.out.on hb)
      clear hb
      cases y with
      | true =>
        go_wp2_with fail
        go_roundw
        case rel => exact ⟨j + 1, by omega, by go_num, HB2.out, HC2.out, HN2.out (by simp)⟩
        case measure => simp [intOf]; omega
      | false =>
        go_wp2_with fail
        go_ret
        exact ⟨by rw [HN'.out (by simp)]; rfl, HB2.out⟩
    · have hj5 : j = 5 := by omega
      subst hj5
      go_wp2_with fail
      go_ret
      exact ⟨by rw [HY.out HA.out]; rfl, HB.out⟩
end Go.Proofs.YthghcffibljclaaDoor
/- The macros of the program, in their variable: plain. -/
namespace Go.Proofs.YthghcffibljclaaDoor
open Go Go.Op

/-- A row's word, then its five texts; seven rows. -/
def macS : List (List UInt8) := [
  [64, 121, 101, 97, 114, 108, 121], [48], [48], [49], [49], [42],
  [64, 97, 110, 110, 117, 97, 108, 108, 121], [48], [48], [49], [49], [42],
  [64, 109, 111, 110, 116, 104, 108, 121], [48], [48], [49], [42], [42],
  [64, 119, 101, 101, 107, 108, 121], [48], [48], [42], [42], [48],
  [64, 100, 97, 105, 108, 121], [48], [48], [42], [42], [42],
  [64, 109, 105, 100, 110, 105, 103, 104, 116], [48], [48], [42], [42], [42],
  [64, 104, 111, 117, 114, 108, 121], [48], [42], [42], [42], [42]]
def macN (j : Nat) : List UInt8 := macS.getD (6 * j) []
def macT (j q : Nat) : List UInt8 := macS.getD (6 * j + 1 + q) []
def nilF : List (BitVec 64) := [0#64, 0#64, 0#64, 0#64, 0#64]
def putN (c : List (BitVec 64)) (j : Nat) : Nat → List (BitVec 64)
  | 0 => c
  | q + 1 => (putN c j q).set q (readL q (macT j q)).1
def macC (l : List UInt8) : Nat → List (BitVec 64)
  | 0 => nilF
  | j + 1 => if macN j = l then putN (macC l j) j 5 else macC l j
theorem putN_len {c : List (BitVec 64)} (j : Nat) (h : c.length = 5) : ∀ q, (putN c j q).length = 5
  | 0 => h
  | q + 1 => by rw [putN, List.length_set]; exact putN_len j h q
theorem macC_len (l : List UInt8) : ∀ j, (macC l j).length = 5
  | 0 => rfl
  | j + 1 => by
    rw [macC]
    split
    · exact putN_len j (macC_len l j) 5
    · exact macC_len l j
theorem macT_len : ∀ j, j < 7 → ∀ q, q < 5 → (macT j q).length ≤ 200 := by decide
theorem macC_is (l : List UInt8) : macC l 7 = (macroM l).getD nilF ∧ (macC l 7 != nilF) = (macroM l).isSome := by
  by_cases h0 : l = [64, 121, 101, 97, 114, 108, 121]
  · subst h0; decide +kernel
  by_cases h1 : l = [64, 97, 110, 110, 117, 97, 108, 108, 121]
  · subst h1; decide +kernel
  by_cases h2 : l = [64, 109, 111, 110, 116, 104, 108, 121]
  · subst h2; decide +kernel
  by_cases h3 : l = [64, 119, 101, 101, 107, 108, 121]
  · subst h3; decide +kernel
  by_cases h4 : l = [64, 100, 97, 105, 108, 121]
  · subst h4; decide +kernel
  by_cases h5 : l = [64, 109, 105, 100, 110, 105, 103, 104, 116]
  · subst h5; decide +kernel
  by_cases h6 : l = [64, 104, 111, 117, 114, 108, 121]
  · subst h6; decide +kernel
  have hm : macroL l = none := by
    unfold macroL
    rw [if_neg (by rintro (h | h); exact h0 h; exact h1 h), if_neg h2, if_neg h3, if_neg (by rintro (h | h); exact h4 h; exact h5 h), if_neg h6]
  have hM : macroM l = none := by unfold macroM; rw [hm]; rfl
  have hC : macC l 7 = nilF := by
    simp only [macC]
    rw [if_neg (fun e => h6 e.symm), if_neg (fun e => h5 e.symm), if_neg (fun e => h4 e.symm), if_neg (fun e => h3 e.symm), if_neg (fun e => h2 e.symm), if_neg (fun e => h1 e.symm), if_neg (fun e => h0 e.symm)]
  rw [hM, hC]
  exact ⟨rfl, by decide⟩
end Go.Proofs.YthghcffibljclaaDoor
/- Macro: walked, of the program. -/
namespace Go.Proofs.YthghcffibljclaaDoor
open Go.RowKit

def macV : List Value := macS.map strV
/-- What the variables hold. -/
structure LaidC (w : World) : Prop where
  fld : Laid w
  days : D.Laid w
theorem LaidC.on {w w' : World} (h : LaidC w) (hb : Below w.heap.size w w') : LaidC w' :=
  ⟨h.fld.on hb, h.days.on hb⟩
theorem CronAt.block {w w' : World} {g h : Nat} {L : List (BitVec 64)} (hc : CronAt w g L) (hs : Sole h w.heap.size w w') (hn : g ≠ h) : CronAt w' g L := ⟨hc.1, (hs.block g hc.lt hn).trans hc.2⟩
theorem CronAt.zero (w : World) : CronAt (w.alloc (.cells #[.int .u64 0, .int .u64 0, .int .u64 0, .int .u64 0, .int .u64 0] 26)) w.heap.size nilF := CronAt.new w 0#64 0#64 0#64 0#64 0#64
theorem five_case (a b c d e : BitVec 64) :
    ((([a, b, c, d, e] : List (BitVec 64)) != nilF) = false ∧ U a = 0 ∧ U b = 0 ∧ U c = 0 ∧ U d = 0 ∧ U e = 0) ∨
    ((([a, b, c, d, e] : List (BitVec 64)) != nilF) = true ∧ (¬ U a = 0 ∨ U a = 0 ∧ (¬ U b = 0 ∨ U b = 0 ∧ (¬ U c = 0 ∨ U c = 0 ∧ (¬ U d = 0 ∨ U d = 0 ∧ ¬ U e = 0))))) := by
  have hu : ∀ x : BitVec 64, U x = 0 ↔ x = 0#64 := fun x => by rw [← U_zero]; exact U_inj
  simp only [hu, nilF, bne_eq_false_iff_eq, bne_iff_ne, ne_eq, List.cons.injEq, and_true]
  by_cases h0 : a = 0#64 <;> by_cases h1 : b = 0#64 <;> by_cases h2 : c = 0#64 <;> by_cases h3 : d = 0#64 <;> by_cases h4 : e = 0#64 <;> simp [h0, h1, h2, h3, h4]
def macroV (l : List UInt8) : Value := .tuple #[cronV ((macroM l).getD nilF), .bool (macroM l).isSome]
end Go.Proofs.YthghcffibljclaaDoor
/- Nothing: the seat has no strings. -/
/- fill: walked, of the program. -/
namespace Go.Proofs.YthghcffibljclaaDoor
open Go.RowKit

theorem prefix_at (l : List UInt8) : Lib.hasPrefix l [64] = decide (l.head? = some 64) := by
  unfold Lib.hasPrefix
  cases l with
  | nil => rfl
  | cons b l =>
    rw [List.isPrefixOf_cons_cons]
    by_cases h : b = 64
    · simp [h]
    · simp [h, Ne.symm h]
def fillV (L : List (BitVec 64)) (f : Nat) (l : List UInt8) : Value := .tuple #[.int .i64 ((fillC L f l).2.1 : Nat), .int .i64 ((fillC L f l).2.2 : Nat)]
end Go.Proofs.YthghcffibljclaaDoor
/- strings.Split at blanks; what a text's words are told by: the iterator, walked. -/
namespace Go.Proofs.YthghcffibljclaaDoor
open Go.RowKit Go.Shelf

attribute [local go_sem] Oper.semAt_some

/-- A word of a short text, and its place. -/
abbrev WordT := { x : Nat × List UInt8 // x.1 + x.2.length ≤ 256 }
/-- What a round keeps: what lay below a, and the cells from b on. -/
def KeepC (a b : Nat) (W W' : World) : Prop := Below a W W' ∧ ∀ k o, b ≤ k → W.heap[k]? = some o → o.isCells = true → W'.heap[k]? = some o
theorem keepC_t {a b : Nat} {A B C : World} (h : KeepC a b A B) (k : KeepC a b B C) : KeepC a b A C := ⟨h.1.trans k.1, fun i o hi hA ho => k.2 i o hi (h.2 i o hi hA ho) ho⟩
theorem keepC_b {a b : Nat} {w : World} (hn : a ≤ w.heap.size) (W : World) (l : Nat) (o o' : Obj) (hl : w.heap.size ≤ l) (h : W.heap[l]? = some o) (hc : o.isCells = false) (hw : o.isWalk = false) : KeepC a b W (W.putObj l o') :=
  ⟨belowK_b hn W l o o' hl h hc hw, fun k x _ hx hxc => by
    have hne : k ≠ l := by
      rintro rfl
      rw [h] at hx; cases hx
      rw [hc] at hxc; cases hxc
    exact (by simp [World.putObj, Ne.symm hne] : (W.putObj l o').heap[k]? = W.heap[k]?).trans hx⟩
theorem wordsP_len : ∀ (ps : List (List UInt8)) (a : Nat), (wordsP ps a).length ≤ ps.length
  | [], _ => Nat.le_refl _
  | p :: ps, a => by
    have h1 := wordsP_len ps (a + 1)
    have h2 := wordsP_len ps (a + p.length + 1)
    rw [wordsP]
    split
    · simp; omega
    · simp; omega
theorem keepC_box {a b g : Nat} {W W' : World} {t : TypeId} {cs : Array Value} (h : D.Box W g t cs) (hk : KeepC a b W W') (hg : b ≤ g) : D.Box W' g t cs := hk.2 g _ hg h rfl
end Go.Proofs.YthghcffibljclaaDoor
/- Read: walked, of the program. -/
namespace Go.Proofs.YthghcffibljclaaDoor
open Go.RowKit Go.Shelf

attribute [local go_sem] Oper.semAt_some

theorem box_kept {W W' : World} {g : Nat} {t : TypeId} {cs : Array Value} {row : Option Nat} (h : D.Box W g t cs) (hg : W.grownBy W' row) (hr : ∀ r, row = some r → ∃ o : Obj, W.heap[r]? = some o ∧ o.isCells = false) : D.Box W' g t cs :=
  (hg.block g (D.Box.lt h) (fun e => by
    obtain ⟨o, ho, hc⟩ := hr g e.symm
    have h' : W.heap[g]? = some (.cells cs t (0, 0)) := h
    rw [h'] at ho; cases ho; cases hc)).trans h
theorem CronAt.kept {W W' : World} {g : Nat} {L : List (BitVec 64)} {row : Option Nat} (h : CronAt W g L) (hg : W.grownBy W' row) (hr : ∀ r, row = some r → ∃ o : Obj, W.heap[r]? = some o ∧ o.isCells = false) : CronAt W' g L := ⟨h.1, box_kept h.2 hg hr⟩
theorem Sole.others {W W' : World} {g : Nat} {t : TypeId} {cs : Array Value} (h : Sole g W.heap.size W W') (hb : D.Box W g t cs) : KeepsOthers W W' :=
  ⟨h.size, fun k o hk ho => (h.block k (Array.getElem?_eq_some_iff.1 hk).1 (by
    rintro rfl
    have h' : W.heap[k]? = some (.cells cs t (0, 0)) := hb
    rw [h'] at hk; cases hk; cases ho)).trans hk⟩
theorem Sole.keep {W W' : World} {g a b : Nat} (h : Sole g W.heap.size W W') (ha : a ≤ g) (hs : a ≤ W.heap.size) (hb : g < b) : KeepC a b W W' :=
  ⟨h.below ha hs, fun k o hk ho _ => (h.block k (Array.getElem?_eq_some_iff.1 ho).1 (by omega)).trans ho⟩
theorem keepC_set {W : World} {a b p : Nat} (ha : a ≤ p) (hb : p < b) (u : Value) : KeepC a b W (W.setCell ⟨p, 0, none⟩ u) :=
  ⟨(Below.refl a W).setCell ha u, fun k o hk ho _ => (Below.heap_setCell W ⟨p, 0, none⟩ u k (by show k ≠ p; omega)).trans ho⟩
abbrev set5V (W : World) (g : Nat) (a b c d e : Value) : World := ((((W.setCell ⟨g, 0, none⟩ a).setCell ⟨g, 1, none⟩ b).setCell ⟨g, 2, none⟩ c).setCell ⟨g, 3, none⟩ d).setCell ⟨g, 4, none⟩ e
theorem keeps5 (W : World) (g : Nat) (a b c d e : Value) : KeepsOthers W (set5V W g a b c d e) :=
  (((((KeepsOthers.setCell _ _ _).trans (KeepsOthers.setCell _ _ _)).trans (KeepsOthers.setCell _ _ _)).trans (KeepsOthers.setCell _ _ _)).trans (KeepsOthers.setCell _ _ _))
theorem set5_zero {W : World} {g : Nat} (h : CronAt W g nilF) : CronAt (set5V W g (.int .u64 0) (.int .u64 0) (.int .u64 0) (.int .u64 0) (.int .u64 0)) g nilF := by
  have := h.set5 0#64 0#64 0#64 0#64 0#64
  rw [U_zero] at this
  exact this
theorem CronAt.drew {W : World} {g : Nat} {L : List (BitVec 64)} (h : CronAt W g L) : CronAt W.drew g L := h
theorem drew_heap {W : World} {D : Nat} {v : Option Obj} (h : W.heap[D]? = v) : W.drew.heap[D]? = v := h
theorem def_set5 {W : World} {D g : Nat} {a b c d e : Value} (h : W.heap[D]? = some (.deferred (some []))) : (set5V W g a b c d e).heap[D]? = some (.deferred (some [])) := (keeps5 W g a b c d e).same D _ h rfl
def creadV (s : List UInt8) : Value := match readC s with
  | (some l, _) => .tuple #[cronV l, .int .i64 0, .int .i64 0]
  | (none, p) => .tuple #[cronV nilF, .int .i64 (p : Nat), .int .i64 170]
theorem creadV_some {s : List UInt8} {l : List (BitVec 64)} {p : Nat} (h : readC s = (some l, p)) : creadV s = .tuple #[cronV l, .int .i64 0, .int .i64 0] := by unfold creadV; rw [h]
theorem creadV_none {s : List UInt8} {p : Nat} (h : readC s = (none, p)) : creadV s = .tuple #[cronV nilF, .int .i64 (p : Nat), .int .i64 170] := by unfold creadV; rw [h]
end Go.Proofs.YthghcffibljclaaDoor
/- The document's one text of a cron: walked. -/
namespace Go.Proofs.YthghcffibljclaaDoor
open Go.RowKit

def outT (L : List (BitVec 64)) : Nat → List UInt8
  | 0 => []
  | j + 1 => (if 0 < j then outT L j ++ [32] else outT L j) ++ textL j (L.getD j 0#64)
theorem outT_five (a b c d e : BitVec 64) : outT [a, b, c, d, e] 5 = textC a b c d e := by simp [outT, textC]
theorem outT_len {L : List (BitVec 64)} (h : ∀ k, k < 5 → FieldM k (L.getD k 0#64)) : ∀ j, j ≤ 5 → (outT L j).length ≤ j * 120
  | 0, _ => by simp [outT]
  | j + 1, hj => by
    have h1 := outT_len h j (by omega)
    have h2 := text_top (show j < 5 by omega) (h j (by omega))
    have h3 : topL j ≤ 114 := by rcases five (show j < 5 by omega) with rfl | rfl | rfl | rfl | rfl <;> decide
    rw [outT, List.length_append]
    split
    · rw [List.length_append, List.length_singleton]; omega
    · omega
theorem text_len {L : List (BitVec 64)} (h : ∀ k, k < 5 → FieldM k (L.getD k 0#64)) {j : Nat} (hj : j < 5) : (textL j (L.getD j 0#64)).length ≤ 114 := by
  have h2 := text_top hj (h j hj)
  have h3 : topL j ≤ 114 := by rcases five hj with rfl | rfl | rfl | rfl | rfl <;> decide
  omega
end Go.Proofs.YthghcffibljclaaDoor
/- Text: walked, of the program. -/
namespace Go.Proofs.YthghcffibljclaaDoor
open Go.RowKit

def tsL (L : List (BitVec 64)) : Nat → List (List UInt8)
  | 0 => []
  | j + 1 => tsL L j ++ [textL j (L.getD j 0#64)]
theorem tsL_len (L : List (BitVec 64)) : ∀ j, (tsL L j).length = j
  | 0 => rfl
  | j + 1 => by rw [tsL, List.length_append, tsL_len L j]; rfl
theorem tsL_next (L : List (BitVec 64)) (j : Nat) : (tsL L (j + 1)).map strV = (tsL L j).map strV ++ [.string ⟨(textL j (L.getD j 0#64)).toArray⟩] := by rw [tsL, List.map_append]; rfl
theorem join_five (p q r s t : List UInt8) : Lib.join [p, q, r, s, t] [32] = p ++ 32 :: (q ++ 32 :: (r ++ 32 :: (s ++ 32 :: t))) := by
  simp [Lib.join]
def ctextL (L : List (BitVec 64)) : List UInt8 := textC (L.getD 0 0#64) (L.getD 1 0#64) (L.getD 2 0#64) (L.getD 3 0#64) (L.getD 4 0#64)
theorem join_ts (L : List (BitVec 64)) : Lib.join (tsL L 5) [32] = ctextL L := by
  show Lib.join [textL 0 (L.getD 0 0#64), textL 1 (L.getD 1 0#64), textL 2 (L.getD 2 0#64), textL 3 (L.getD 3 0#64), textL 4 (L.getD 4 0#64)] [32] = _
  rw [join_five]; rfl
theorem crB_field {L : List (BitVec 64)} (h : crB L = true) (k : Nat) (hk : k < 5) : FieldM k (L.getD k 0#64) := (fieldB_iff _ _).1 (crB_at h hk)
theorem ctextL_len {L : List (BitVec 64)} (h : crB L = true) : (ctextL L).length ≤ 245 :=
  textC_len (crB_field h 0 (by omega)) (crB_field h 1 (by omega)) (crB_field h 2 (by omega)) (crB_field h 3 (by omega)) (crB_field h 4 (by omega))
def ctextV (L : List (BitVec 64)) : Value := if crB L then errT (ctextL L) 0 else errT [] 170
end Go.Proofs.YthghcffibljclaaDoor
/- Day: walked, of the program. -/
namespace Go.Proofs.YthghcffibljclaaDoor
open Go.RowKit

theorem whole_q (k : Nat) (w : World) (hL : Laid w) (h : k < 5) :
    Calls Tryd.prog 58 #[.int .i64 (k : Int)] w fun e w' => e = .returned (.int .u64 (U (wholeM k))) ∧ ∃ q, w' = w.drewN q := by
  have h0 := hL.lo k h
  have h1 := hL.hi k h
  have hg : 0 < w.heap.size := by have := hL.lt; show 0 < w.heap.size; omega
  have hk5 : (k : Int) < 5 := by omega
  have HS := Lib.hid (fun W => span_whole k W)
  clear hL
  generalize wholeM k = m at *
  generalize ((loK k : Nat) : Int) = a at *
  generalize ((hiK k : Nat) : Int) = b at *
  go_enter Tryd.func58, Tryd.ntmps58
  go_wp2_with fail
  refine (there_yes k _ h).mono ?_
  rintro e w' ⟨rfl, rfl⟩
  go_wp2_with fail
  go_quiet ((go_at_call 64; with_reducible exact Calls.quiet_of_same (HS.out _)))
  go_wp2_with fail
  go_ret
  exact ⟨rfl, _, rfl⟩
/-- The weekday of a date. -/
def wdZ (y m d : Int) : Int := (D.numZ y m d + 4) % 7
def rightB (y m d : Int) : Bool := decide (1970 ≤ y ∧ y ≤ 9999 ∧ 1 ≤ d ∧ d ≤ D.mlZ y m)
theorem rightB_iff (y m d : Int) : rightB y m d = true ↔ D.RightZ y m d := by unfold rightB D.RightZ; exact decide_eq_true_iff
/-- Does the date fit, given that cron and date may be? -/
def fitD (L : List (BitVec 64)) (y m d : Int) : Bool := dayF (L.getD 2 0#64) (L.getD 3 0#64) (L.getD 4 0#64) d.toNat m.toNat (wdZ y m d).toNat
def dayZ (L : List (BitVec 64)) (y m d : Int) : Bool := crB L && (rightB y m d && fitD L y m d)
theorem hasB_pos {x : BitVec 64} {n : Int} (h : 0 ≤ n) : hasB x n = x.getLsbD n.toNat := by unfold hasB; rw [decide_eq_true h, Bool.true_and]
theorem wd_in (y m d : Int) : 0 ≤ wdZ y m d ∧ wdZ y m d ≤ 6 := by unfold wdZ; omega
theorem right_in {y m d : Int} (h : D.RightZ y m d) : 1 ≤ m ∧ m ≤ 12 ∧ 1 ≤ d ∧ d ≤ 31 := by
  have h1 := D.RightZ.month h
  have h2 := D.mlZ_in (y := y) h1.1 h1.2
  obtain ⟨_, _, h3, h4⟩ := h
  omega
/-- What the program reckons. -/
theorem fit_prog {a b c d e : BitVec 64} {y m n : Int} (h : D.RightZ y m n) :
    fitD [a, b, c, d, e] y m n = (hasB d m && (if (c == wholeM 2) = true then hasB c n && hasB e (wdZ y m n) else if (e == wholeM 4) = true then hasB c n && hasB e (wdZ y m n) else hasB c n || hasB e (wdZ y m n))) := by
  obtain ⟨h1, h2, h3, h4⟩ := right_in h
  obtain ⟨w0, w6⟩ := wd_in y m n
  rw [hasB_pos (show 0 ≤ m by omega), hasB_pos (show 0 ≤ n by omega), hasB_pos w0]
  show dayF c d e n.toNat m.toNat (wdZ y m n).toNat = _
  have b2 : (wholeM 2).getLsbD n.toNat = true := by rw [whole_bit, decide_eq_true_iff]; exact ⟨by omega, by show 1 ≤ _; omega, by show _ ≤ 31; omega⟩
  have b4 : (wholeM 4).getLsbD (wdZ y m n).toNat = true := by rw [whole_bit, decide_eq_true_iff]; exact ⟨by omega, by show 0 ≤ _; omega, by show _ ≤ 6; omega⟩
  unfold dayF
  by_cases hc : c = wholeM 2
  · subst hc
    simp [b2]
  · by_cases he : e = wholeM 4
    · subst he
      simp [hc, b4]
    · simp [hc, he]
def cronV5 (a b c d e : BitVec 64) : Value := .agg #[.int .u64 (U a), .int .u64 (U b), .int .u64 (U c), .int .u64 (U d), .int .u64 (U e)]
theorem five_cells (w : World) (a b c d e : BitVec 64) (y m n : Int) :
    ∃ W : World, W = (w.alloc (.cells #[.int .u64 (U a), .int .u64 (U b), .int .u64 (U c), .int .u64 (U d), .int .u64 (U e)] 26)).alloc (.cells #[.int .i64 y, .int .i64 m, .int .i64 n] 120) ∧ Below w.heap.size w W ∧ CronAt W w.heap.size [a, b, c, d, e] ∧ D.Box W (w.heap.size + 1) 120 #[.int .i64 y, .int .i64 m, .int .i64 n] := by
  refine ⟨_, rfl, ((Below.refl _ w).alloc (Nat.le_refl _) _).alloc (by simp) _, (CronAt.new w a b c d e).alloc _, ?_⟩
  have := D.Box.new (w.alloc (.cells #[.int .u64 (U a), .int .u64 (U b), .int .u64 (U c), .int .u64 (U d), .int .u64 (U e)] 26)) 120 #[.int .i64 y, .int .i64 m, .int .i64 n]
  rwa [World.size_alloc] at this
set_option maxRecDepth 100000 in
set_option maxHeartbeats 2000000 in
theorem cday_any (L : List (BitVec 64)) (y m n : Int) (w : World) (hL : LaidC w) (h5 : L.length = 5) :
    Calls Tryd.prog 72 #[cronV L, .agg #[.int .i64 y, .int .i64 m, .int .i64 n]] w fun x w' => x = .returned (.bool (dayZ L y m n)) ∧ Below w.heap.size w w' := by
  have HL := Lib.hid hL
  clear hL
  have HK := Lib.hid (fun W hW => ccheck_any L W hW h5)
  obtain ⟨a, b, c, d, e, rfl⟩ := list_five h5
  obtain ⟨WB, hWB, hb0, hc0, hd0⟩ := five_cells w a b c d e y m n
  have HL0 := Lib.hid (HL.out.on hb0)
  rw [cronV_five] at *
  unfold fiveV at *
  by_cases hr : D.RightZ y m n
  · have hrb := (rightB_iff y m n).2 hr
    have HO := Lib.hid (fun W hW => D.of_ok y m n W hW hr)
    have HF := Lib.hid (fit_prog (a := a) (b := b) (c := c) (d := d) (e := e) hr)
    have hnr := D.num_range hr
    have HW := Lib.hid (fun W => D.weekday_ok (D.numZ y m n) W hnr.1 hnr.2)
    unfold D.dateV at HO
    cases hcr : crB [a, b, c, d, e] with
    | false =>
      have hz : dayZ [a, b, c, d, e] y m n = false := by unfold dayZ; rw [hcr, Bool.false_and]
      have he : crE [a, b, c, d, e] = 170 := by unfold crE; rw [hcr]; rfl
      rw [hz]
      simp only [he] at HK
      clear hz he hcr HF HW hrb
      generalize D.numZ y m n = num at *
      go_enter Tryd.func72, Tryd.ntmps72
      go_wp2_with fail
      rw [← hWB]
      clear hWB
      refine (HO.out _ HL0.out.days).mono ?_
      rintro x w1 ⟨rfl, hb⟩
      have HB1 := Lib.hid (hb0.trans (hb.mono hb0.size)); have HL1 := Lib.hid (HL0.out.on hb); have HC1 := Lib.hid (hc0.on hb); have HD1 := Lib.hid (D.Box.belowAll hd0 hb)
      clear hb hb0 hc0 hd0 HL0 HO
      obtain ⟨c0, c1, c2, c3, c4⟩ := HC1.out.five
      obtain ⟨d0, d1, d2, _, _, _⟩ := D.Box.three HD1.out
      go_wp2_with fail
      refine (HK.out _ HL1.out.fld).mono ?_
      rintro x w2 ⟨rfl, hb⟩
      have HB2 : Hid (Below w.heap.size w w2) := Lib.hid (HB1.out.trans (hb.mono HB1.out.size))
      clear hb
      go_wp2_with fail
      go_ret
      exact ⟨rfl, HB2.out⟩
    | true =>
      have he : crE [a, b, c, d, e] = 0 := by unfold crE; rw [hcr]; rfl
      have hz : Hid (dayZ [a, b, c, d, e] y m n = fitD [a, b, c, d, e] y m n) := Lib.hid (by unfold dayZ; rw [hcr, hrb]; rfl)
      rw [hz.out, HF.out]
      simp only [he] at HK
      clear hz he hcr hrb HF
      have HM := Lib.hid (fun W => has_any d m W)
      have HDy := Lib.hid (fun W => (has_any c n W).mono fun _ _ ⟨h, k⟩ => (⟨h, k.symm⟩ : _ ∧ _))
      have HWd := Lib.hid (fun W => (has_any e ((D.numZ y m n + 4) % 7) W).mono fun _ _ ⟨h, k⟩ => (⟨h, k.symm⟩ : _ ∧ _))
      have hU2 : ((U c == U (wholeM 2)) : Bool) = (c == wholeM 2) := U_beq _ _
      have hU4 : ((U e == U (wholeM 4)) : Bool) = (e == wholeM 4) := U_beq _ _
      have hV2 : (U c = U (wholeM 2)) ↔ c = wholeM 2 := U_inj
      have hV4 : (U e = U (wholeM 4)) ↔ e = wholeM 4 := U_inj
      have HW2 := Lib.hid (fun W hW => whole_q 2 W hW (by omega))
      have HW4 := Lib.hid (fun W hW => whole_q 4 W hW (by omega))
      have hwd : wdZ y m n = (D.numZ y m n + 4) % 7 := rfl
      rw [hwd]
      clear hwd
      generalize (D.numZ y m n + 4) % 7 = wd at *
      generalize D.numZ y m n = num at *
      generalize wholeM 2 = v2 at *
      generalize wholeM 4 = v4 at *
      simp only [show ((2 : Nat) : Int) = 2 from rfl, show ((4 : Nat) : Int) = 4 from rfl] at *
      cases hm : hasB d m with
      | false =>
        rw [hm] at HM
        clear hm HDy HWd hU2 hU4 hV2 hV4 HW2 HW4 HW
        rw [Bool.false_and]
        go_enter Tryd.func72, Tryd.ntmps72
        go_wp2_with fail
        rw [← hWB]
        clear hWB
        refine (HO.out _ HL0.out.days).mono ?_
        rintro x w1 ⟨rfl, hb⟩
        have HB1 := Lib.hid (hb0.trans (hb.mono hb0.size)); have HL1 := Lib.hid (HL0.out.on hb); have HC1 := Lib.hid (hc0.on hb); have HD1 := Lib.hid (D.Box.belowAll hd0 hb)
        clear hb hb0 hc0 hd0 HL0 HO
        obtain ⟨c0, c1, c2, c3, c4⟩ := HC1.out.five
        obtain ⟨d0, d1, d2, _, _, _⟩ := D.Box.three HD1.out
        go_wp2_with fail
        refine (HK.out _ HL1.out.fld).mono ?_
        rintro x w2 ⟨rfl, hb⟩
        have HB2 : Hid (Below w.heap.size w w2) := Lib.hid (HB1.out.trans (hb.mono HB1.out.size))
        obtain ⟨c0, c1, c2, c3, c4⟩ := (HC1.out.on hb).five
        obtain ⟨d0, d1, d2, _, _, _⟩ := D.Box.three (D.Box.belowAll HD1.out hb)
        clear hb
        go_wp2_with fail
        refine (HM.out _).mono ?_
        rintro x w3 ⟨rfl, rfl⟩
        go_wp2_with fail
        go_ret
        exact ⟨rfl, HB2.out⟩
      | true =>
        rw [hm] at HM
        rw [Bool.true_and]
        clear hm
        generalize hasB c n = p at *
        generalize hasB e wd = q at *
        obtain ⟨r, hr0⟩ : ∃ r : Bool, (if (c == v2) = true then p && q else if (e == v4) = true then p && q else p || q) = r := ⟨_, rfl⟩
        rw [hr0]
        have HR := Lib.hid hr0
        clear hr0 hU2 hU4
        go_enter Tryd.func72, Tryd.ntmps72
        go_wp2_with fail
        rw [← hWB]
        clear hWB
        refine (HO.out _ HL0.out.days).mono ?_
        rintro x w1 ⟨rfl, hb⟩
        have HB1 := Lib.hid (hb0.trans (hb.mono hb0.size)); have HL1 := Lib.hid (HL0.out.on hb); have HC1 := Lib.hid (hc0.on hb); have HD1 := Lib.hid (D.Box.belowAll hd0 hb)
        clear hb hb0 hc0 hd0 HL0 HO
        obtain ⟨c0, c1, c2, c3, c4⟩ := HC1.out.five
        obtain ⟨d0, d1, d2, _, _, _⟩ := D.Box.three HD1.out
        go_wp2_with fail
        refine (HK.out _ HL1.out.fld).mono ?_
        rintro x w2 ⟨rfl, hb⟩
        have HB2 : Hid (Below w.heap.size w w2) := Lib.hid (HB1.out.trans (hb.mono HB1.out.size)); have HL2 := Lib.hid (HL1.out.on hb)
        obtain ⟨c0, c1, c2, c3, c4⟩ := (HC1.out.on hb).five
        obtain ⟨d0, d1, d2, _, _, _⟩ := D.Box.three (D.Box.belowAll HD1.out hb)
        clear hb
        go_wp2_with fail
        refine (HM.out _).mono ?_
        rintro x w3 ⟨rfl, rfl⟩
        go_wp2_with fail
        refine (HW.out _).mono ?_
        rintro x w3 ⟨rfl, rfl⟩
        go_wp2_with fail
        go_quiet (first | (go_at_call 71; with_reducible exact Calls.quiet_of_same (HDy.out _)) | (go_at_call 71; with_reducible exact Calls.quiet_of_same (HWd.out _)))
        have HB3 := Lib.hid (bdrewN HB2.out nq); have HL3 := Lib.hid (HL2.out.on (bdrewN (Below.refl _ _) nq)).fld
        have k2 : (w2.drewN nq).cell? ⟨w.heap.size, 2, none⟩ = some (.int .u64 (U c)) := c2
        have k4 : (w2.drewN nq).cell? ⟨w.heap.size, 4, none⟩ = some (.int .u64 (U e)) := c4
        generalize w2.drewN nq = w3 at *
        clear c0 c1 c2 c3 c4 d0 d1 d2 HDy HWd HM HK HW
        by_cases hc : c = v2
        · have HRR := Lib.hid (HR.out.symm.trans (if_pos (by simpa using hc)))
          subst hc
          clear hV2 hV4 HR
          go_wp2_with fail
          go_quiet (first | (go_at_call 58; with_reducible exact Calls.quiet_of (HW2.out _ (HL3.out.on (bdrewN (Below.refl _ _) _)))))
          have HB4 := Lib.hid (bdrewN HB3.out nq)
          cases p <;> cases q <;>
            (go_wp2_with fail
             go_ret
             exact ⟨by rw [HRR.out]; rfl, HB4.out⟩)
        · have x2 : ¬ U c = U v2 := fun h => hc (U_inj.1 h)
          have HR2 := HR.out.symm.trans (if_neg (by simpa using hc))
          by_cases he : e = v4
          · have HRR := Lib.hid (HR2.trans (if_pos (by simpa using he)))
            subst he
            clear hV2 hV4 HR HR2 hc
            go_wp2_with fail
            go_quiet (first | (go_at_call 58; with_reducible exact Calls.quiet_of (HW2.out _ (HL3.out.on (bdrewN (Below.refl _ _) _)))) | (go_at_call 58; with_reducible exact Calls.quiet_of (HW4.out _ (HL3.out.on (bdrewN (Below.refl _ _) _)))))
            have HB4 := Lib.hid (bdrewN HB3.out nq)
            cases p <;> cases q <;>
              (go_wp2_with fail
               go_ret
               exact ⟨by rw [HRR.out]; rfl, HB4.out⟩)
          · have x4 : (U e == U v4) = false := by rw [beq_eq_false_iff_ne]; exact fun h => he (U_inj.1 h)
            have HRR := Lib.hid (HR2.trans (if_neg (by simpa using he)))
            clear hV2 hV4 HR HR2 hc he
            go_wp2_with fail
            go_quiet (first | (go_at_call 58; with_reducible exact Calls.quiet_of (HW2.out _ (HL3.out.on (bdrewN (Below.refl _ _) _)))) | (go_at_call 58; with_reducible exact Calls.quiet_of (HW4.out _ (HL3.out.on (bdrewN (Below.refl _ _) _)))))
            have HB4 := Lib.hid (bdrewN HB3.out nq)
            cases p <;> cases q <;>
              (go_wp2_with fail
               go_ret
               exact ⟨by rw [HRR.out]; rfl, HB4.out⟩)
  · have HO := Lib.hid (fun W hW => D.of_no y m n W hW hr)
    have hrb : rightB y m n = false := by rw [← Bool.not_eq_true]; exact fun h => hr ((rightB_iff y m n).1 h)
    have hz : dayZ [a, b, c, d, e] y m n = false := by unfold dayZ; rw [hrb]; simp
    unfold D.dateV at HO
    rw [hz]
    clear hz hrb hr HK
    go_enter Tryd.func72, Tryd.ntmps72
    go_wp2_with fail
    rw [← hWB]
    clear hWB
    refine (HO.out _ HL0.out.days).mono ?_
    rintro x w1 ⟨rfl, hb⟩
    have HB1 := Lib.hid (hb0.trans (hb.mono hb0.size))
    clear hb hb0 hc0 hd0 HL0 HO
    go_wp2_with fail
    go_ret
    exact ⟨rfl, HB1.out⟩
/-! times -/
/-- Does the time fit? -/
def atZ (L : List (BitVec 64)) (y m n h mi s : Int) : Bool := decide (s = 0) && (hasB (L.getD 0 0#64) mi && (hasB (L.getD 1 0#64) h && dayZ L y m n))
end Go.Proofs.YthghcffibljclaaDoor
/- At: walked, of the program. -/
namespace Go.Proofs.YthghcffibljclaaDoor
open Go.RowKit

theorem tat_is (t y m d h mi s : Int) (w : World) (hL : D.Laid w) (hc : D.CivOf t y m d h mi s) :
    Calls Tryd.prog 86 #[.int .i64 t] w fun e w' => e = .returned (.tuple #[.agg #[.int .i64 y, .int .i64 m, .int .i64 d, .int .i64 h, .int .i64 mi, .int .i64 s], .int .i64 0]) ∧ Below w.heap.size w w' := by
  refine (D.tat_ok t w hL hc.timeZ).mono ?_
  rintro e w' ⟨y', m', d', h', mi', s', rfl, hc', hb⟩
  obtain ⟨rfl, rfl, rfl, rfl, rfl, rfl⟩ := D.civ_inj hc hc'
  exact ⟨rfl, hb⟩
end Go.Proofs.YthghcffibljclaaDoor
/- wakes: walked. -/
namespace Go.Proofs.YthghcffibljclaaDoor
open Go.RowKit

theorem w_cr1 : creadV [48, 32, 57, 32, 49, 51, 32, 42, 32, 77, 79, 78, 45, 70, 82, 73] = .tuple #[.agg #[.int .u64 1, .int .u64 512, .int .u64 8192, .int .u64 8190, .int .u64 62], .int .i64 0, .int .i64 0] := creadV_some w_cron1
theorem w_cr2 : creadV [48, 32, 50, 53, 32, 42, 32, 42, 32, 42] = .tuple #[.agg #[.int .u64 0, .int .u64 0, .int .u64 0, .int .u64 0, .int .u64 0], .int .i64 2, .int .i64 170] := creadV_none w_cron2
def wakeL : List (BitVec 64) := [1#64, 512#64, 8192#64, 8190#64, 62#64]
theorem w_right : crB wakeL = true := by decide +kernel
theorem w_ct : ctextV wakeL = .tuple #[.string ⟨#[48, 32, 57, 32, 49, 51, 32, 42, 32, 49, 45, 53]⟩, .int .i64 0] := by
  unfold ctextV
  rw [w_right, if_pos rfl]
  show errT (textC 1#64 512#64 8192#64 8190#64 62#64) 0 = _
  rw [w_cron3]; rfl
theorem w_day : dayZ wakeL 2026 11 16 = true := by decide +kernel
theorem w_civ : D.CivOf 32400 1970 1 1 9 0 0 := ⟨⟨by decide, by decide, by decide, by decide⟩, by decide, by decide, by decide, by decide, by decide, by decide, by decide +kernel⟩
theorem w_at : atZ wakeL 1970 1 1 9 0 0 = true := by decide +kernel
end Go.Proofs.YthghcffibljclaaDoor
/- The document's Day and At: walked. -/
namespace Go.Proofs.YthghcffibljclaaDoor
open Go.RowKit

/-- What the document reckons. -/
theorem fit_ref {a b c d e : BitVec 64} {y m n : Int} (h : D.RightZ y m n) (hk : crB [a, b, c, d, e] = true) :
    fitD [a, b, c, d, e] y m n = (hasB d m && (if (elems c).length = 31 then hasB e (wdZ y m n) else if (elems e).length = 7 then hasB c n else hasB c n || hasB e (wdZ y m n))) := by
  obtain ⟨h1, h2, h3, h4⟩ := right_in h
  obtain ⟨w0, w6⟩ := wd_in y m n
  have i2 : (elems c).length = 31 ↔ c = wholeM 2 := whole_iff (k := 2) (by omega) (crB_field hk 2 (by omega))
  have i4 : (elems e).length = 7 ↔ e = wholeM 4 := whole_iff (k := 4) (by omega) (crB_field hk 4 (by omega))
  rw [hasB_pos (show 0 ≤ m by omega), hasB_pos (show 0 ≤ n by omega), hasB_pos w0]
  show dayF c d e n.toNat m.toNat (wdZ y m n).toNat = _
  unfold dayF
  simp only [i2, i4]
end Go.Proofs.YthghcffibljclaaDoor
/- CronFits: walked. -/
namespace Go.Proofs.YthghcffibljclaaDoor
open Go.RowKit

/-- A row of dates, where it lies. -/
def DatesAt (w : World) (B : Nat) (A : Option Addr) (n : Nat) : Prop := ∀ k, k < n → ∃ b o y m d, A = some ⟨b, o, none⟩ ∧ b < B ∧ w.cell? ⟨b, o + k * 3, none⟩ = some (.int .i64 y) ∧ w.cell? ⟨b, o + k * 3 + 1, none⟩ = some (.int .i64 m) ∧ w.cell? ⟨b, o + k * 3 + 2, none⟩ = some (.int .i64 d)
theorem DatesAt.on {w w' : World} {B : Nat} {A : Option Addr} {n : Nat} (h : DatesAt w B A n) (hb : Below B w w') : DatesAt w' B A n := by
  intro k hk
  obtain ⟨b, o, y, m, d, e, hB, h0, h1, h2⟩ := h k hk
  exact ⟨b, o, y, m, d, e, hB, (hb.cell (p := ⟨b, o + k * 3, none⟩) hB).trans h0, (hb.cell (p := ⟨b, o + k * 3 + 1, none⟩) hB).trans h1, (hb.cell (p := ⟨b, o + k * 3 + 2, none⟩) hB).trans h2⟩
/-- A row of times, where it lies. -/
def TimesAt (w : World) (B : Nat) (A : Option Addr) (n : Nat) : Prop := ∀ k, k < n → ∃ (b o : Nat) (t : Int), A = some ⟨b, o, none⟩ ∧ b < B ∧ w.cell? ⟨b, o + k, none⟩ = some (.int .i64 t)
theorem TimesAt.on {w w' : World} {B : Nat} {A : Option Addr} {n : Nat} (h : TimesAt w B A n) (hb : Below B w w') : TimesAt w' B A n := by
  intro k hk
  obtain ⟨b, o, t, e, hB, h0⟩ := h k hk
  exact ⟨b, o, t, e, hB, (hb.cell (p := ⟨b, o + k, none⟩) hB).trans h0⟩
end Go.Proofs.YthghcffibljclaaDoor
/- CronTells: walked. -/
namespace Go.Proofs.YthghcffibljclaaDoor
open Go.RowKit

/-- A row of crons, where it lies. -/
def CronsAt (w : World) (B : Nat) (A : Option Addr) (n : Nat) : Prop := ∀ k, k < n → ∃ (g o : Nat) (a b c d e : BitVec 64), A = some ⟨g, o, none⟩ ∧ g < B ∧ w.cell? ⟨g, o + k * 5, none⟩ = some (.int .u64 (U a)) ∧ w.cell? ⟨g, o + k * 5 + 1, none⟩ = some (.int .u64 (U b)) ∧ w.cell? ⟨g, o + k * 5 + 2, none⟩ = some (.int .u64 (U c)) ∧ w.cell? ⟨g, o + k * 5 + 3, none⟩ = some (.int .u64 (U d)) ∧ w.cell? ⟨g, o + k * 5 + 4, none⟩ = some (.int .u64 (U e))
theorem CronsAt.on {w w' : World} {B : Nat} {A : Option Addr} {n : Nat} (h : CronsAt w B A n) (hb : Below B w w') : CronsAt w' B A n := by
  intro k hk
  obtain ⟨g, o, a, b, c, d, e, hA, hB, h0, h1, h2, h3, h4⟩ := h k hk
  exact ⟨g, o, a, b, c, d, e, hA, hB, (hb.cell (p := ⟨g, o + k * 5, none⟩) hB).trans h0, (hb.cell (p := ⟨g, o + k * 5 + 1, none⟩) hB).trans h1, (hb.cell (p := ⟨g, o + k * 5 + 2, none⟩) hB).trans h2, (hb.cell (p := ⟨g, o + k * 5 + 3, none⟩) hB).trans h3, (hb.cell (p := ⟨g, o + k * 5 + 4, none⟩) hB).trans h4⟩
end Go.Proofs.YthghcffibljclaaDoor
/- CronBack: walked. -/
namespace Go.Proofs.YthghcffibljclaaDoor
open Go.RowKit

theorem lib_count (c : UInt8) : ∀ (n : Nat) (l : List UInt8), l.length ≤ n → Lib.count l [c] = l.count c
  | 0, l, h => by
    have : l = [] := List.eq_nil_of_length_eq_zero (by omega)
    subst this
    rcases index_one c [] with ⟨_, h2⟩ | ⟨r, h1, _, _⟩
    · rw [Lib.count_miss h2]; rfl
    · simp [cutB] at h1
  | n + 1, l, h => by
    rcases index_one c l with ⟨h1, h2⟩ | ⟨r, h1, h2, h3⟩
    · rw [Lib.count_miss h2, List.count_eq_zero.2 h1]
    · have hn : c ∉ (cutB l c).1 := (cutB_spec l c).1
      have hd : l.drop ((cutB l c).1.length + [c].length) = r := by
        generalize (cutB l c).1 = a at *
        subst h1
        simp
      rw [Lib.count_hit (by simp) h3, hd, lib_count c n r (by have := congrArg List.length h1; simp at this; omega)]
      generalize (cutB l c).1 = a at *
      subst h1
      rw [List.count_append, List.count_eq_zero.2 hn, List.count_cons_self]
      omega
theorem ct_read {a b c d e : BitVec 64} (h : crB [a, b, c, d, e] = true) : creadV (ctextL [a, b, c, d, e]) = .tuple #[.agg #[.int .u64 (U a), .int .u64 (U b), .int .u64 (U c), .int .u64 (U d), .int .u64 (U e)], .int .i64 0, .int .i64 0] :=
  creadV_some (read_textC (crB_field h 0 (by omega)) (crB_field h 1 (by omega)) (crB_field h 2 (by omega)) (crB_field h 3 (by omega)) (crB_field h 4 (by omega)))
theorem ct_count {a b c d e : BitVec 64} (h : crB [a, b, c, d, e] = true) : Lib.countB ⟨(ctextL [a, b, c, d, e]).toArray⟩ ⟨#[32]⟩ = 4 := by
  show Lib.count (ctextL [a, b, c, d, e]).toArray.toList [32] = 4
  rw [List.toList_toArray, lib_count 32 _ _ (Nat.le_refl _)]
  exact count_blank (crB_field h 0 (by omega)) (crB_field h 1 (by omega)) (crB_field h 2 (by omega)) (crB_field h 3 (by omega)) (crB_field h 4 (by omega))
theorem read_cr {s : List UInt8} {l : List (BitVec 64)} {p : Nat} (h : readC s = (some l, p)) : l.length = 5 ∧ p = 0 ∧ crB l = true := by
  obtain ⟨h1, h2, h3⟩ := readC_right h
  refine ⟨h1, h2, crB_yes fun k hk => ?_⟩
  rw [fieldB_iff, List.getD_eq_getElem?_getD, List.getElem?_eq_getElem (by omega)]
  exact h3 k (by omega)
theorem ctextV_yes {L : List (BitVec 64)} (h : crB L = true) : ctextV L = .tuple #[.string ⟨(ctextL L).toArray⟩, .int .i64 0] := by unfold ctextV; rw [h]; rfl
theorem ctextV_no {L : List (BitVec 64)} (h : crB L = false) : ctextV L = .tuple #[.string ⟨#[]⟩, .int .i64 170] := by unfold ctextV; rw [h]; rfl
theorem crE_yes {L : List (BitVec 64)} (h : crB L = true) : crE L = 0 := by unfold crE; rw [h]; rfl
theorem crE_no {L : List (BitVec 64)} (h : crB L = false) : crE L = 170 := by unfold crE; rw [h]; rfl
def cut256 (s : List UInt8) : List UInt8 := s.take 256
theorem cut256_len (s : List UInt8) : (cut256 s).length ≤ 256 := by unfold cut256; rw [List.length_take]; omega
theorem cut256_at (s : ByteArray) : s.extract 0 (min (s.size : Int) 256).toNat = ⟨(cut256 s.data.toList).toArray⟩ := by
  have hx : s.data.toList.take (min (s.size : Int) 256).toNat = cut256 s.data.toList := by
    unfold cut256
    by_cases h : s.size ≤ 256
    · rw [List.take_of_length_le (by rw [len_list]; omega), List.take_of_length_le (by rw [len_list]; omega)]
    · rw [show (min (s.size : Int) 256).toNat = 256 by omega]
  rw [← hx]
  exact Value.string.inj (ext_head s _)
end Go.Proofs.YthghcffibljclaaDoor
