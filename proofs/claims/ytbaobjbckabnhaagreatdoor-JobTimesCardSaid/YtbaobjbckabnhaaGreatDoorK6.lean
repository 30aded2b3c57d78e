/- Texts of this seat, one behind the other: GWords, GCron, GLaw, GErr, GRun, GRWords, GRMacro, GRFields, GPut, GMac, GMacW, GLift, GLib, GFill, GSplit, GRead, GRText, GTextP, GDay, GAt, GWakes, GRDay, GFits, GTells7, GBack7, GOpen. -/
import Derived.Test.YtbaobjbckabnhaaGreatDoorK1
import Derived.Test.YtbaobjbckabnhaaGreatDoorK2
import Derived.Test.YtbaobjbckabnhaaGreatDoorK3
import Derived.Test.YtbaobjbckabnhaaGreatDoorK4
import Derived.Test.YtbaobjbckabnhaaGreatDoorK5
import Derived.Lib.Replace
import Derived.Shelf.Strings.Builder1
import Derived.Shelf.Strings.Builder2
import Derived.Shelf.Strings.OnBuilder
import Derived.Shelf.Strconv.Itoa0
import Derived.Shelf.Strconv.Itoa1
import Derived.Shelf.LaysM
import Derived.Shelf.Strconv.Itoa2
import Derived.Shelf.Strconv.Itoa3
import Derived.Shelf.Strings.Search1
import Derived.Shelf.Strings.Search2
import Derived.Shelf.Strings.Search3
import Derived.Shelf.Strings.Cut
import Derived.Shelf.Strings.Count
import Derived.Shelf.Strings.Shaped
import Derived.Shelf.Strings.Prefix
import Derived.Shelf.Strings.Split
import Derived.Shelf.Strings.Replace
import Derived.Shelf.Strings.SplitShaped
import Derived.Shelf.Unicode.DecodeSlow
import Derived.Test.YtbaobjbckabnhaaGreatDoorProg
import Derived.Deep.QuietTactic
import Derived.BigQuiet
import Derived.Deep.RegionHeld3
import Derived.Deep.DeepCutAuto
import Derived.Deep.Light
import Derived.Lib.SmallJoins
import Derived.Deep.Strs
import Derived.Deep.Grids
import Derived.Deep.Slices
import Derived.Deep.Matrix
import Derived.Deep.Fields
/- Crons, plain: words of a text; how long the one texts are. -/
namespace Go.Proofs.YtbaobjbckabnhaaGreatDoor
open Go Go.Op

/-! how long a field's one text is -/
/-- Three times what stands at most for the numbers below p. -/
def costU (p : Nat) : Nat := if p ≤ 10 then 4 * p else 40 + 6 * (p - 10)
theorem dgs_len' (n : Nat) : (dgsN n).length = if n < 10 then 1 else 2 := by unfold dgsN; split <;> simp [d2]
theorem run_cost (r : Nat × Nat) (h : r.1 ≤ r.2) : 3 * ((runL r).length + 1) + costU r.1 ≤ costU (r.2 + 2) := by
  unfold runL costU
  have h1 := dgs_len' r.1
  have h2 := dgs_len' r.2
  split
  · simp only [List.length_append, List.length_cons, h1, h2]
    split <;> split <;> split <;> split <;> omega
  · rw [h1]
    split <;> split <;> split <;> omega
theorem cost_le {p q : Nat} (h : p ≤ q) : costU p ≤ costU q := by unfold costU; split <;> split <;> omega
theorem runs_cost (hi : Nat) : ∀ (rs : List (Nat × Nat)), (∀ r ∈ rs, r.1 ≤ r.2 ∧ r.2 ≤ hi) → rs.Pairwise (fun r s => r.2 + 1 < s.1) → ∀ r l, rs = r :: l → 3 * ((rs.map runL).map fun s => s.length + 1).sum + costU r.1 ≤ costU (hi + 2)
  | [], _, _, r, l, e => by cases e
  | [r], h, _, _, _, e => by
    cases e
    have h1 := h r (by simp)
    have h2 := run_cost r h1.1
    have h3 := cost_le (show r.2 + 2 ≤ hi + 2 by omega)
    simp
    omega
  | r :: s :: l, h, hp, _, _, e => by
    cases e
    have ih := runs_cost hi (s :: l) (fun x hx => h x (by simp [hx])) (List.Pairwise.of_cons hp) s l rfl
    have hr := run_cost r (h r (by simp)).1
    have hg := List.rel_of_pairwise_cons hp (a' := s) (by simp)
    have h3 := cost_le (show r.2 + 2 ≤ s.1 by omega)
    rw [List.map_cons, List.map_cons, List.sum_cons]
    omega
theorem joinC_sum : ∀ (ps : List (List UInt8)), ps ≠ [] → (joinC ps).length + 1 = (ps.map fun s => s.length + 1).sum
  | [], h => absurd rfl h
  | [p], _ => by simp [joinC]
  | p :: q :: ps, _ => by
    have := joinC_sum (q :: ps) (by simp)
    rw [joinC, List.map_cons, List.sum_cons]
    simp only [List.length_append, List.length_cons] at *
    omega
theorem text_cost {k : Nat} {m : BitVec 64} (hf : FieldM k m) : 3 * ((textL k m).length + 1) + costU (loK k) ≤ costU (hiK k + 2) ∨ (textL k m).length ≤ 4 := by
  have hruns : 3 * ((runsL m).length + 1) + costU (loK k) ≤ costU (hiK k + 2) := by
    cases hr : runsOf m with
    | nil => exact absurd hr (runs_some hf.1)
    | cons r l =>
      have h2 := runs_cost (hiK k) (runsOf m) (fun r hr => by
        have := run_field hf hr
        omega) (runs_gap m) r l hr
      have h3 := cost_le (run_field hf (show r ∈ runsOf m by rw [hr]; simp)).1
      have h4 := joinC_sum ((runsOf m).map runL) (by simpa using runs_some hf.1)
      unfold runsL
      omega
  unfold textL
  split
  · right; decide
  · split
    · cases hs : stepsN k m with
      | none => exact .inl hruns
      | some n => right; have := dgs_len n; simp; omega
    · exact .inl hruns
/-- So long at most. -/
def topL (k : Nat) : Nat := [114, 42, 57, 19, 9].getD k 0
theorem text_top {k : Nat} {m : BitVec 64} (hk : k < 5) (hf : FieldM k m) : (textL k m).length ≤ topL k := by
  have h := text_cost hf
  have hc : k = 0 ∨ k = 1 ∨ k = 2 ∨ k = 3 ∨ k = 4 := by omega
  rcases hc with rfl | rfl | rfl | rfl | rfl <;> simp [costU, loK, hiK, topL] at h ⊢ <;> omega
theorem five_top : topL 0 + topL 1 + topL 2 + topL 3 + topL 4 + 4 = 245 := rfl
/-- A text has no blank, and something. -/
theorem text_blank {k : Nat} {m : BitVec 64} (hf : FieldM k m) : (32 : UInt8) ∉ textL k m ∧ textL k m ≠ [] ∧ (64 : UInt8) ∉ textL k m := by
  have d : ∀ (c : UInt8), isDg c = false → ∀ n, c ∉ dgsN n := fun c hc n => not_dgs hc n
  have hrun : ∀ (c : UInt8), isDg c = false → c ≠ 45 → ∀ r : Nat × Nat, c ∉ runL r := fun c hc h45 r q => by
    unfold runL at q
    split at q
    · rcases List.mem_append.1 q with q | q
      · exact d c hc _ q
      · rcases List.mem_cons.1 q with q | q
        · exact h45 q
        · exact d c hc _ q
    · exact d c hc _ q
  have hjoin : ∀ (c : UInt8), isDg c = false → c ≠ 45 → c ≠ 44 → ∀ rs : List (Nat × Nat), c ∉ joinC (rs.map runL) := fun c hc h45 h44 rs => by
    induction rs with
    | nil => simp [joinC]
    | cons r rs ih =>
      cases rs with
      | nil => exact hrun c hc h45 r
      | cons s rs =>
        intro q
        rw [List.map_cons, List.map_cons, joinC] at q
        rcases List.mem_append.1 q with q | q
        · exact hrun c hc h45 r q
        · rcases List.mem_cons.1 q with q | q
          · exact h44 q
          · exact ih q
  have hne : ∀ r : Nat × Nat, runL r ≠ [] := fun r e => by
    have h1 := dgs_len r.1
    unfold runL at e
    split at e
    · have := congrArg List.length e; simp at this
    · rw [e] at h1; simp at h1
  have hruns : runsL m ≠ [] := by
    unfold runsL
    cases hr : runsOf m with
    | nil => exact absurd hr (runs_some hf.1)
    | cons r l =>
      cases l with
      | nil => exact hne r
      | cons s l =>
        rw [List.map_cons, List.map_cons, joinC]
        simp
  have hall : ∀ (c : UInt8), isDg c = false → c ≠ 45 → c ≠ 44 → c ≠ 42 → c ≠ 47 → c ∉ textL k m := fun c hc h45 h44 h42 h47 => by
    unfold textL
    split
    · simpa using h42
    · split
      · cases stepsN k m with
        | none => exact hjoin c hc h45 h44 _
        | some n =>
          intro q
          rcases List.mem_cons.1 q with q | q
          · exact h42 q
          · rcases List.mem_cons.1 q with q | q
            · exact h47 q
            · exact d c hc n q
      · exact hjoin c hc h45 h44 _
  refine ⟨hall 32 (by decide) (by decide) (by decide) (by decide) (by decide), ?_, hall 64 (by decide) (by decide) (by decide) (by decide) (by decide)⟩
  unfold textL
  split
  · simp
  · split
    · cases stepsN k m with
      | none => exact hruns
      | some n => simp
    · exact hruns
/-! words: rows of bytes that are no blanks, each with its place -/
def wordsF : List UInt8 → Nat → Option (Nat × List UInt8) → List (Nat × List UInt8)
  | [], _, none => []
  | [], _, some w => [w]
  | b :: l, at_, none => if b = 32 then wordsF l (at_ + 1) none else wordsF l (at_ + 1) (some (at_, [b]))
  | b :: l, at_, some w => if b = 32 then w :: wordsF l (at_ + 1) none else wordsF l (at_ + 1) (some (w.1, w.2 ++ [b]))
def wordsL (l : List UInt8) : List (Nat × List UInt8) := wordsF l 0 none
theorem words_run : ∀ (p l : List UInt8) (at_ : Nat) (w : Nat × List UInt8), (32 : UInt8) ∉ p → wordsF (p ++ l) at_ (some w) = wordsF l (at_ + p.length) (some (w.1, w.2 ++ p))
  | [], l, at_, w, _ => by simp
  | b :: p, l, at_, w, h => by
    have h1 : b ≠ 32 := fun e => h (by simp [e])
    have h2 : (32 : UInt8) ∉ p := fun e => h (by simp [e])
    rw [List.cons_append, wordsF, if_neg h1, words_run p l _ _ h2]
    simp only [List.length_cons, List.append_assoc, List.cons_append, List.nil_append]
    rw [show at_ + 1 + p.length = at_ + (p.length + 1) by omega]
/-- A word, and a blank behind it. -/
theorem words_word {p : List UInt8} (l : List UInt8) (at_ : Nat) (hp : p ≠ []) (h : (32 : UInt8) ∉ p) : wordsF (p ++ 32 :: l) at_ none = (at_, p) :: wordsF l (at_ + p.length + 1) none := by
  cases p with
  | nil => exact absurd rfl hp
  | cons b p =>
    have h1 : b ≠ 32 := fun e => h (by simp [e])
    have h2 : (32 : UInt8) ∉ p := fun e => h (by simp [e])
    rw [List.cons_append, wordsF, if_neg h1, words_run p _ _ _ h2, wordsF, if_pos rfl]
    simp only [List.length_cons, List.cons_append, List.nil_append]
    rw [show at_ + 1 + p.length + 1 = at_ + (p.length + 1) + 1 by omega]
theorem words_last {p : List UInt8} (at_ : Nat) (hp : p ≠ []) (h : (32 : UInt8) ∉ p) : wordsF p at_ none = [(at_, p)] := by
  cases p with
  | nil => exact absurd rfl hp
  | cons b p =>
    have h1 : b ≠ 32 := fun e => h (by simp [e])
    have h2 : (32 : UInt8) ∉ p := fun e => h (by simp [e])
    have := words_run p [] (at_ + 1) (at_, [b]) h2
    rw [List.append_nil] at this
    rw [wordsF, if_neg h1, this, wordsF]; rfl
/-- More blanks: each one twice. -/
def wideL : List UInt8 → List UInt8
  | [] => []
  | b :: l => if b = 32 then 32 :: 32 :: wideL l else b :: wideL l
theorem words_wide : ∀ (l : List UInt8) (a a' : Nat) (w w' : Option (Nat × List UInt8)), w.map (·.2) = w'.map (·.2) →
    (wordsF (wideL l ++ [32]) a w).map (·.2) = (wordsF l a' w').map (·.2)
  | [], a, a', none, none, _ => by simp [wideL, wordsF]
  | [], a, a', none, some w', h => by simp at h
  | [], a, a', some w, none, h => by simp at h
  | [], a, a', some w, some w', h => by simp [wideL, wordsF] at h ⊢; exact h
  | b :: l, a, a', w, w', h => by
    rw [wideL]
    by_cases e : b = 32
    · rw [if_pos e, e]
      cases w with
      | none =>
        cases w' with
        | none =>
          simp only [List.cons_append, wordsF, if_pos]
          exact words_wide l _ _ none none rfl
        | some w' => simp at h
      | some w =>
        cases w' with
        | none => simp at h
        | some w' =>
          simp only [List.cons_append, wordsF, if_pos, List.map_cons]
          simp at h
          rw [h, words_wide l (a + 1 + 1) (a' + 1) none none rfl]
    · rw [if_neg e]
      cases w with
      | none =>
        cases w' with
        | none =>
          simp only [List.cons_append, wordsF, if_neg e]
          exact words_wide l _ _ _ _ rfl
        | some w' => simp at h
      | some w =>
        cases w' with
        | none => simp at h
        | some w' =>
          simp only [List.cons_append, wordsF, if_neg e]
          simp at h
          exact words_wide l _ _ _ _ (by simp [h])
/-- Places lie within; words are something without blanks. -/
theorem words_in : ∀ (l : List UInt8) (a : Nat) (w : Option (Nat × List UInt8)), (∀ x, w = some x → x.2 ≠ [] ∧ (32 : UInt8) ∉ x.2 ∧ x.1 + x.2.length = a) →
    ∀ x ∈ wordsF l a w, x.2 ≠ [] ∧ (32 : UInt8) ∉ x.2 ∧ x.1 + x.2.length ≤ a + l.length
  | [], a, none, _, x, hx => by simp [wordsF] at hx
  | [], a, some w, h, x, hx => by
    simp [wordsF] at hx
    subst hx
    obtain ⟨h1, h2, h3⟩ := h x rfl
    exact ⟨h1, h2, by simp; omega⟩
  | b :: l, a, none, _, x, hx => by
    rw [wordsF] at hx
    split at hx
    · obtain ⟨h1, h2, h3⟩ := words_in l (a + 1) none (fun _ e => by cases e) x hx
      exact ⟨h1, h2, by simp; omega⟩
    · rename_i hb
      obtain ⟨h1, h2, h3⟩ := words_in l (a + 1) (some (a, [b])) (fun y e => by cases e; exact ⟨by simp, by simpa using fun q => hb q.symm, rfl⟩) x hx
      exact ⟨h1, h2, by simp; omega⟩
  | b :: l, a, some w, h, x, hx => by
    obtain ⟨w1, w2, w3⟩ := h w rfl
    rw [wordsF] at hx
    split at hx
    · rcases List.mem_cons.1 hx with rfl | hx
      · exact ⟨w1, w2, by simp; omega⟩
      · obtain ⟨h1, h2, h3⟩ := words_in l (a + 1) none (fun _ e => by cases e) x hx
        exact ⟨h1, h2, by simp; omega⟩
    · rename_i hb
      obtain ⟨h1, h2, h3⟩ := words_in l (a + 1) (some (w.1, w.2 ++ [b])) (fun y e => by
        cases e
        refine ⟨by simp, ?_, by simp; omega⟩
        intro q
        rcases List.mem_append.1 q with q | q
        · exact w2 q
        · simp at q; exact hb q.symm) x hx
      exact ⟨h1, h2, by simp; omega⟩
end Go.Proofs.YtbaobjbckabnhaaGreatDoor
/- Crons, plain: what a text reads as; the one text, read, is the cron; more blanks change nothing. -/
namespace Go.Proofs.YtbaobjbckabnhaaGreatDoor
open Go Go.Op

/-- What a macro means, as words. -/
def macroL (w : List UInt8) : Option (List UInt8) :=
  if w = [64, 121, 101, 97, 114, 108, 121] ∨ w = [64, 97, 110, 110, 117, 97, 108, 108, 121] then some [48, 32, 48, 32, 49, 32, 49, 32, 42]
  else if w = [64, 109, 111, 110, 116, 104, 108, 121] then some [48, 32, 48, 32, 49, 32, 42, 32, 42]
  else if w = [64, 119, 101, 101, 107, 108, 121] then some [48, 32, 48, 32, 42, 32, 42, 32, 48]
  else if w = [64, 100, 97, 105, 108, 121] ∨ w = [64, 109, 105, 100, 110, 105, 103, 104, 116] then some [48, 32, 48, 32, 42, 32, 42, 32, 42]
  else if w = [64, 104, 111, 117, 114, 108, 121] then some [48, 32, 42, 32, 42, 32, 42, 32, 42]
  else none
/-- Five words, one behind the other: the fields; or where it is wrong. -/
def readW (n : Nat) : Nat → List (Nat × List UInt8) → List (BitVec 64) → Option (List (BitVec 64)) × Nat
  | k, [], acc => if k = 5 then (some acc, 0) else (none, n)
  | k, w :: ws, acc => if k = 5 then (none, w.1) else if (readL k w.2).2.2 = 0 then readW n (k + 1) ws (acc ++ [(readL k w.2).1]) else (none, w.1 + (readL k w.2).2.1)
def readC (s : List UInt8) : Option (List (BitVec 64)) × Nat :=
  match wordsL s with
  | [] => (none, s.length)
  | w :: ws => if w.2.head? = some 64 then match macroL w.2 with
      | none => (none, w.1)
      | some x => match ws with
        | [] => readW x.length 0 (wordsL x) []
        | v :: _ => (none, v.1)
    else readW s.length 0 (w :: ws) []
/-- The one text of five fields. -/
def textC (a b c d e : BitVec 64) : List UInt8 := textL 0 a ++ 32 :: (textL 1 b ++ 32 :: (textL 2 c ++ 32 :: (textL 3 d ++ 32 :: textL 4 e)))
theorem textC_len {a b c d e : BitVec 64} (ha : FieldM 0 a) (hb : FieldM 1 b) (hc : FieldM 2 c) (hd : FieldM 3 d) (he : FieldM 4 e) : (textC a b c d e).length ≤ 245 := by
  have h0 := text_top (by omega) ha
  have h1 := text_top (by omega) hb
  have h2 := text_top (by omega) hc
  have h3 := text_top (by omega) hd
  have h4 := text_top (by omega) he
  have t0 : topL 0 = 114 := rfl
  have t1 : topL 1 = 42 := rfl
  have t2 : topL 2 = 57 := rfl
  have t3 : topL 3 = 19 := rfl
  have t4 : topL 4 = 9 := rfl
  unfold textC
  simp only [List.length_append, List.length_cons]
  omega
theorem words_textC {a b c d e : BitVec 64} (ha : FieldM 0 a) (hb : FieldM 1 b) (hc : FieldM 2 c) (hd : FieldM 3 d) (he : FieldM 4 e) :
    ∃ p1 p2 p3 p4 : Nat, wordsL (textC a b c d e) = [(0, textL 0 a), (p1, textL 1 b), (p2, textL 2 c), (p3, textL 3 d), (p4, textL 4 e)] := by
  have h0 := text_blank ha
  have h1 := text_blank hb
  have h2 := text_blank hc
  have h3 := text_blank hd
  have h4 := text_blank he
  unfold wordsL textC
  rw [words_word _ _ h0.2.1 h0.1, words_word _ _ h1.2.1 h1.1, words_word _ _ h2.2.1 h2.1, words_word _ _ h3.2.1 h3.1, words_last _ h4.2.1 h4.1]
  exact ⟨_, _, _, _, rfl⟩
/-- The one text, read, is the cron. -/
theorem read_textC {a b c d e : BitVec 64} (ha : FieldM 0 a) (hb : FieldM 1 b) (hc : FieldM 2 c) (hd : FieldM 3 d) (he : FieldM 4 e) : readC (textC a b c d e) = (some [a, b, c, d, e], 0) := by
  obtain ⟨p1, p2, p3, p4, hw⟩ := words_textC ha hb hc hd he
  have hn : (textL 0 a).head? ≠ some 64 := fun q => by
    have := List.mem_of_head? q
    exact (text_blank ha).2.2 this
  unfold readC
  rw [hw]
  show (if (textL 0 a).head? = some 64 then _ else _) = _
  rw [if_neg hn]
  simp [readW, read_text ha, read_text hb, read_text hc, read_text hd, read_text he]
/-- What is read are fields. -/
theorem readW_right (n : Nat) : ∀ (ws : List (Nat × List UInt8)) (k : Nat) (acc : List (BitVec 64)) (l : List (BitVec 64)), k ≤ 5 → acc.length = k → (∀ i (h : i < acc.length), FieldM i acc[i]) → (readW n k ws acc).1 = some l → l.length = 5 ∧ (readW n k ws acc).2 = 0 ∧ ∀ i (h : i < l.length), FieldM i l[i]
  | [], k, acc, l, hk, hl, hf, h => by
    unfold readW at h ⊢
    split at h
    · cases h; rename_i e; rw [if_pos e]; exact ⟨by omega, rfl, hf⟩
    · cases h
  | w :: ws, k, acc, l, hk, hl, hf, h => by
    unfold readW at h ⊢
    split at h
    · cases h
    · rename_i e
      rw [if_neg e]
      split at h
      · rename_i h0
        rw [if_pos h0]
        have hk5 : k < 5 := by omega
        have hr : FieldM k (readL k w.2).1 := by
          rcases readL_right hk5 w.2 with ⟨_, _, c⟩ | ⟨c, _⟩
          · exact c
          · rcases c with c | c <;> rw [c] at h0 <;> cases h0
        refine readW_right n ws (k + 1) _ l (by omega) (by simp [hl]) ?_ h
        intro i hi
        rw [List.getElem_append]
        split
        · exact hf i ‹_›
        · simp at hi
          have : i = k := by omega
          subst this
          simpa [hl] using hr
      · cases h
/-- Places do not matter to who reads well. -/
theorem readW_places (n n' : Nat) : ∀ (ws vs : List (Nat × List UInt8)) (k : Nat) (acc : List (BitVec 64)) (l : List (BitVec 64)), ws.map (·.2) = vs.map (·.2) → readW n k ws acc = (some l, 0) → readW n' k vs acc = (some l, 0)
  | [], [], k, acc, l, _, h => by
    unfold readW at h ⊢
    split at h
    · rename_i e; rw [if_pos e]; exact h
    · cases h
  | [], v :: vs, k, acc, l, e, h => by simp at e
  | w :: ws, [], k, acc, l, e, h => by simp at e
  | w :: ws, v :: vs, k, acc, l, e, h => by
    simp only [List.map_cons, List.cons.injEq] at e
    unfold readW at h ⊢
    split at h
    · cases h
    · rename_i ek
      rw [if_neg ek, ← e.1]
      split at h
      · rename_i h0
        rw [if_pos h0]
        exact readW_places n n' ws vs _ _ l e.2 h
      · cases h
theorem readC_places {s t : List UInt8} {l : List (BitVec 64)} (e : (wordsL s).map (·.2) = (wordsL t).map (·.2)) (h : readC s = (some l, 0)) : readC t = (some l, 0) := by
  unfold readC at h ⊢
  cases hs : wordsL s with
  | nil => rw [hs] at h; cases h
  | cons w ws =>
    cases ht : wordsL t with
    | nil => rw [hs, ht] at e; simp at e
    | cons v vs =>
      rw [hs, ht] at e
      simp only [List.map_cons, List.cons.injEq] at e
      rw [hs] at h
      simp only [] at h ⊢
      rw [← e.1]
      split at h
      · rename_i h64
        rw [if_pos h64]
        cases hm : macroL w.2 with
        | none => rw [hm] at h; cases h
        | some x =>
          rw [hm] at h
          cases ws with
          | nil =>
            cases vs with
            | nil => exact h
            | cons v' vs => simp at e
          | cons w' ws => cases h
      · rename_i h64
        rw [if_neg h64]
        exact readW_places s.length t.length (w :: ws) (v :: vs) 0 [] l (by simp [e.1, e.2]) h
/-- More blanks change nothing. -/
theorem read_wide {s : List UInt8} {l : List (BitVec 64)} (h : readC s = (some l, 0)) : readC (32 :: 32 :: (wideL s ++ [32])) = (some l, 0) := by
  refine readC_places ?_ h
  have e1 : wordsL (32 :: 32 :: (wideL s ++ [32])) = wordsF (wideL s ++ [32]) 2 none := by
    unfold wordsL
    simp [wordsF]
  rw [e1, words_wide s 2 0 none none rfl]; rfl
theorem readC_right {s : List UInt8} {l : List (BitVec 64)} {p : Nat} (h : readC s = (some l, p)) : l.length = 5 ∧ p = 0 ∧ ∀ i (h : i < l.length), FieldM i l[i] := by
  have key : ∀ n ws, readW n 0 ws [] = (some l, p) → l.length = 5 ∧ p = 0 ∧ ∀ i (h : i < l.length), FieldM i l[i] := fun n ws hw => by
    have := readW_right n ws 0 [] l (by omega) rfl (fun i h => by simp at h) (by rw [hw])
    rw [hw] at this
    exact this
  unfold readC at h
  cases hs : wordsL s with
  | nil => rw [hs] at h; cases h
  | cons w ws =>
    rw [hs] at h
    simp only [] at h
    split at h
    · cases hm : macroL w.2 with
      | none => rw [hm] at h; cases h
      | some x =>
        rw [hm] at h
        cases ws with
        | nil => exact key _ _ h
        | cons w' ws => cases h
    · exact key _ _ h
end Go.Proofs.YtbaobjbckabnhaaGreatDoor
/- Crons, plain: words as they grow byte by byte; blanks twice, as strings.ReplaceAll tells; blanks counted; a whole field told by how many it has; which dates and times fit. -/
namespace Go.Proofs.YtbaobjbckabnhaaGreatDoor
open Go Go.Op

/-! blanks, twice -/
theorem wide_none : ∀ {l : List UInt8}, (32 : UInt8) ∉ l → wideL l = l
  | [], _ => rfl
  | b :: l, h => by
    have h1 : b ≠ 32 := fun e => h (by simp [e])
    have h2 : (32 : UInt8) ∉ l := fun e => h (by simp [e])
    rw [wideL, if_neg h1, wide_none h2]
theorem wide_append : ∀ (a b : List UInt8), wideL (a ++ b) = wideL a ++ wideL b
  | [], b => rfl
  | c :: a, b => by
    rw [List.cons_append, wideL, wideL, wide_append a b]
    split <;> rfl
theorem wide_len : ∀ (l : List UInt8), (wideL l).length = l.length + l.count 32
  | [] => rfl
  | b :: l => by
    rw [wideL]
    split
    · rename_i e; subst e; simp [wide_len l]; omega
    · rename_i e; rw [List.count_cons_of_ne (fun q => e q)]; simp [wide_len l]; omega
theorem replaceK_wide : ∀ (n : Nat) (l : List UInt8), Lib.count l [32] = n → Lib.replaceK [32] [32, 32] n l = wideL l
  | 0, l, h => by
    rcases index_one 32 l with ⟨h1, h2⟩ | ⟨r, h1, h2, h3⟩
    · rw [Lib.replaceK, wide_none h1]
    · rw [Lib.count_hit (by simp) h3] at h; omega
  | n + 1, l, h => by
    rcases index_one 32 l with ⟨h1, h2⟩ | ⟨r, h1, h2, h3⟩
    · rw [Lib.count_miss h2] at h; omega
    · rw [Lib.count_hit (by simp) h3] at h
      have hn : (32 : UInt8) ∉ (cutB l 32).1 := (cutB_spec l 32).1
      have hd : l.drop ((cutB l 32).1.length + [(32 : UInt8)].length) = r := by
        generalize (cutB l 32).1 = a at *
        subst h1
        simp
      rw [hd] at h
      rw [Lib.replaceK_hit _ _ _ _ _ h3, hd, replaceK_wide n r (by omega)]
      generalize (cutB l 32).1 = a at *
      subst h1
      rw [wide_append, wide_none hn, wideL, if_pos rfl]
      simp
theorem replace_wide (l : List UInt8) : Lib.replaceAll l [32] [32, 32] = wideL l := by
  unfold Lib.replaceAll Lib.replace Lib.replaceNum
  rw [if_neg (by decide), if_pos (by left; decide), replaceK_wide _ l rfl]
theorem count_blank {a b c d e : BitVec 64} (ha : FieldM 0 a) (hb : FieldM 1 b) (hc : FieldM 2 c) (hd : FieldM 3 d) (he : FieldM 4 e) : (textC a b c d e).count 32 = 4 := by
  unfold textC
  have h0 := List.count_eq_zero.2 (text_blank ha).1
  have h1 := List.count_eq_zero.2 (text_blank hb).1
  have h2 := List.count_eq_zero.2 (text_blank hc).1
  have h3 := List.count_eq_zero.2 (text_blank hd).1
  have h4 := List.count_eq_zero.2 (text_blank he).1
  simp [List.count_append, h0, h1, h2, h3, h4]

/-! words, as they grow -/
/-- The words that are closed, and the one that is open. -/
def wordsG : List UInt8 → Nat → Option (Nat × List UInt8) → List (Nat × List UInt8) × Option (Nat × List UInt8)
  | [], _, w => ([], w)
  | b :: l, at_, none => if b = 32 then wordsG l (at_ + 1) none else wordsG l (at_ + 1) (some (at_, [b]))
  | b :: l, at_, some w => if b = 32 then (w :: (wordsG l (at_ + 1) none).1, (wordsG l (at_ + 1) none).2) else wordsG l (at_ + 1) (some (w.1, w.2 ++ [b]))
theorem words_open : ∀ (l : List UInt8) (a : Nat) (w : Option (Nat × List UInt8)), wordsF l a w = (wordsG l a w).1 ++ (wordsG l a w).2.toList
  | [], a, none => rfl
  | [], a, some w => rfl
  | b :: l, a, none => by rw [wordsF, wordsG]; split <;> exact words_open l _ _
  | b :: l, a, some w => by
    rw [wordsF, wordsG]
    split
    · rw [words_open l]; rfl
    · exact words_open l _ _
theorem wordsG_snoc (b : UInt8) : ∀ (l : List UInt8) (a : Nat) (w : Option (Nat × List UInt8)), wordsG (l ++ [b]) a w =
    (if b = 32 then ((wordsG l a w).1 ++ (wordsG l a w).2.toList, none) else match (wordsG l a w).2 with
      | none => ((wordsG l a w).1, some (a + l.length, [b]))
      | some x => ((wordsG l a w).1, some (x.1, x.2 ++ [b])))
  | [], a, none => by simp [wordsG]
  | [], a, some w => by simp [wordsG]
  | c :: l, a, none => by
    rw [List.cons_append, wordsG, wordsG]
    split
    · rw [wordsG_snoc b l, List.length_cons, show a + 1 + l.length = a + (l.length + 1) by omega]
    · rw [wordsG_snoc b l, List.length_cons, show a + 1 + l.length = a + (l.length + 1) by omega]
  | c :: l, a, some w => by
    rw [List.cons_append, wordsG, wordsG]
    split
    · rw [wordsG_snoc b l, List.length_cons, show a + 1 + l.length = a + (l.length + 1) by omega]
      split
      · rfl
      · cases (wordsG l (a + 1) none).2 <;> rfl
    · rw [wordsG_snoc b l, List.length_cons, show a + 1 + l.length = a + (l.length + 1) by omega]
theorem open_last (b : UInt8) (l : List UInt8) : (wordsG (l ++ [b]) 0 none).2.isSome = decide (b ≠ 32) := by
  rw [wordsG_snoc]
  by_cases h : b = 32
  · simp [h]
  · rw [if_neg h]
    cases (wordsG l 0 none).2 <;> simp [h]
/-- The next byte is a blank: the words stay. -/
theorem words_gap (l : List UInt8) : wordsL (l ++ [32]) = wordsL l := by
  unfold wordsL
  rw [words_open, words_open, wordsG_snoc, if_pos rfl]
  simp
/-- A word begins. -/
theorem words_begin {l : List UInt8} {b : UInt8} (hb : b ≠ 32) (h : l = [] ∨ l.getLast? = some 32) : wordsL (l ++ [b]) = wordsL l ++ [(l.length, [b])] := by
  have ho : (wordsG l 0 none).2 = none := by
    rcases h with rfl | h
    · rfl
    · obtain ⟨r, rfl⟩ := List.getLast?_eq_some_iff.1 h
      rw [wordsG_snoc, if_pos rfl]
  unfold wordsL
  rw [words_open, words_open, wordsG_snoc, if_neg hb, ho]
  simp
/-- The last word goes on. -/
theorem words_goes {l : List UInt8} {b c : UInt8} (hb : b ≠ 32) (h : l.getLast? = some c) (hc : c ≠ 32) :
    ∃ r x, wordsL l = r ++ [x] ∧ wordsL (l ++ [b]) = r ++ [(x.1, x.2 ++ [b])] := by
  obtain ⟨q, rfl⟩ := List.getLast?_eq_some_iff.1 h
  have ho := open_last c q
  rw [decide_eq_true hc] at ho
  obtain ⟨x, hx⟩ := Option.isSome_iff_exists.1 ho
  refine ⟨(wordsG (q ++ [c]) 0 none).1, x, ?_, ?_⟩
  · unfold wordsL; rw [words_open, hx]; rfl
  · unfold wordsL; rw [words_open, wordsG_snoc, if_neg hb, hx]; rfl
/-- The same by places: the first so many bytes. -/
theorem words_take {l : List UInt8} {i : Nat} {b : UInt8} (h : l[i]? = some b) :
    (b = 32 → wordsL (l.take (i + 1)) = wordsL (l.take i))
    ∧ (b ≠ 32 → i = 0 ∨ l[i - 1]? = some 32 → wordsL (l.take (i + 1)) = wordsL (l.take i) ++ [(i, [b])])
    ∧ (b ≠ 32 → ∀ c, i ≠ 0 → l[i - 1]? = some c → c ≠ 32 → ∃ r x, wordsL (l.take i) = r ++ [x] ∧ wordsL (l.take (i + 1)) = r ++ [(x.1, x.2 ++ [b])]) := by
  have hi : i < l.length := (List.getElem?_eq_some_iff.1 h).1
  have e : l.take (i + 1) = l.take i ++ [b] := by rw [List.take_add_one, h]; rfl
  have hlast : i ≠ 0 → (l.take i).getLast? = l[i - 1]? := by
    intro h0
    rw [List.getLast?_eq_getElem?, List.length_take, Nat.min_eq_left (by omega), List.getElem?_take_of_lt (by omega)]
  rw [e]
  refine ⟨?_, ?_, ?_⟩
  · rintro rfl; exact words_gap _
  · intro hb h1
    have hlen : (l.take i).length = i := by rw [List.length_take]; omega
    rw [words_begin hb, hlen]
    by_cases h0 : i = 0
    · left; rw [h0]; rfl
    · right; rw [hlast h0]; exact h1.resolve_left h0
  · intro hb c h0 h1 hc
    exact words_goes hb (by rw [hlast h0]; exact h1) hc

/-! a whole field, by how many it has -/
theorem filter_all {α} {p q : α → Bool} : ∀ (l : List α), (∀ x ∈ l, p x = true → q x = true) → (l.filter p).length = (l.filter q).length → ∀ x ∈ l, p x = q x
  | [], _, _ => by simp
  | a :: l, h, hl => by
    have hle : ∀ (l : List α), (∀ x ∈ l, p x = true → q x = true) → (l.filter p).length ≤ (l.filter q).length := by
      intro l
      induction l with
      | nil => simp
      | cons b l ih =>
        intro h
        have := ih (fun x hx => h x (List.mem_cons_of_mem _ hx))
        have hb := h b (List.mem_cons_self ..)
        rw [List.filter_cons, List.filter_cons]
        cases hp : p b <;> cases hq : q b <;> simp [hp, hq] at hb ⊢ <;> omega
    have ha := h a (List.mem_cons_self ..)
    have hr := hle l (fun x hx => h x (List.mem_cons_of_mem _ hx))
    rw [List.filter_cons, List.filter_cons] at hl
    have hpq : p a = q a := by
      cases hp : p a <;> cases hq : q a <;> simp [hp, hq] at ha hl ⊢; omega
    have hl' : (l.filter p).length = (l.filter q).length := by
      rw [hpq] at hl
      split at hl
      · simpa using hl
      · exact hl
    intro x hx
    rcases List.mem_cons.1 hx with rfl | hx
    · exact hpq
    · exact filter_all l (fun x hx => h x (List.mem_cons_of_mem _ hx)) hl' x hx
theorem whole_len {k : Nat} (hk : k < 5) : (elems (wholeM k)).length = hiK k + 1 - loK k := by
  have e : elems (wholeM k) = (List.range 64).filter fun i => decide (loK k ≤ i ∧ i ≤ hiK k) := by
    unfold elems
    refine List.filter_congr fun i hi => ?_
    rw [whole_bit]
    have := List.mem_range.1 hi
    simp [this]
  rw [e]
  rcases (show k = 0 ∨ k = 1 ∨ k = 2 ∨ k = 3 ∨ k = 4 by omega) with rfl | rfl | rfl | rfl | rfl <;> rfl
theorem whole_iff {k : Nat} {m : BitVec 64} (hk : k < 5) (hf : FieldM k m) : (elems m).length = hiK k + 1 - loK k ↔ m = wholeM k := by
  constructor
  · intro h
    rw [← whole_len hk] at h
    unfold elems at h
    refine BitVec.eq_of_getLsbD_eq fun i hi => ?_
    refine filter_all (List.range 64) (fun x hx hp => ?_) h i (List.mem_range.2 hi)
    rw [whole_bit, decide_eq_true_iff]
    exact ⟨List.mem_range.1 hx, hf.2 x hp⟩
  · rintro rfl; exact whole_len hk

/-! which dates fit -/
/-- Does a date with such a day, month and weekday fit? -/
def dayF (day month wd : BitVec 64) (d m w : Nat) : Bool :=
  month.getLsbD m && (if day = wholeM 2 then wd.getLsbD w else if wd = wholeM 4 then day.getLsbD d else day.getLsbD d || wd.getLsbD w)
theorem dayF_whole (day month wd : BitVec 64) (d m w : Nat) (hd : 1 ≤ d ∧ d ≤ 31) (hw : w ≤ 6) :
    dayF (wholeM 2) month wd d m w = (month.getLsbD m && wd.getLsbD w) ∧ dayF day month (wholeM 4) d m w = (month.getLsbD m && day.getLsbD d) := by
  have h2 : (wholeM 2).getLsbD d = true := by rw [whole_bit, decide_eq_true_iff]; exact ⟨by omega, hd.1, hd.2⟩
  have h4 : (wholeM 4).getLsbD w = true := by rw [whole_bit, decide_eq_true_iff]; exact ⟨by omega, by simp [loK], by simp [hiK]; omega⟩
  refine ⟨by unfold dayF; rw [if_pos rfl], ?_⟩
  unfold dayF
  by_cases h : day = wholeM 2
  · rw [if_pos h, h4, h, h2]
  · rw [if_neg h, if_pos rfl]
theorem dayF_else {day month wd : BitVec 64} {d m w : Nat} (hd : 1 ≤ d ∧ d ≤ 31) (hw : w ≤ 6) (h2 : day ≠ wholeM 2) (h4 : wd ≠ wholeM 4) :
    dayF day month wd d m w = (dayF (wholeM 2) month wd d m w || dayF day month (wholeM 4) d m w) := by
  rw [(dayF_whole day month wd d m w hd hw).1, (dayF_whole day month wd d m w hd hw).2]
  unfold dayF
  rw [if_neg h2, if_neg h4]
  cases month.getLsbD m <;> simp [Bool.or_comm]
theorem dayF_more {day month month' wd : BitVec 64} {d m w : Nat} (h : month.getLsbD m = true → month'.getLsbD m = true) (hf : dayF day month wd d m w = true) : dayF day month' wd d m w = true := by
  unfold dayF at hf ⊢
  rw [Bool.and_eq_true] at hf ⊢
  exact ⟨h hf.1, hf.2⟩
end Go.Proofs.YtbaobjbckabnhaaGreatDoor
/- Crons, plain: macros read; where a text is wrong lies within; wakes' texts. -/
namespace Go.Proofs.YtbaobjbckabnhaaGreatDoor
open Go Go.Op

def macroM (w : List UInt8) : Option (List (BitVec 64)) := (macroL w).bind fun x => (readW x.length 0 (wordsL x) []).1
theorem macro_reads {w x : List UInt8} (h : macroL w = some x) : ∃ l, readW x.length 0 (wordsL x) [] = (some l, 0) ∧ readC x = (some l, 0) ∧ macroM w = some l := by
  have e : macroM w = (readW x.length 0 (wordsL x) []).1 := by unfold macroM; rw [h]; rfl
  rw [e]
  clear e
  unfold macroL at h
  split at h
  · cases h; exact ⟨_, rfl, rfl, rfl⟩
  · split at h
    · cases h; exact ⟨_, rfl, rfl, rfl⟩
    · split at h
      · cases h; exact ⟨_, rfl, rfl, rfl⟩
      · split at h
        · cases h; exact ⟨_, rfl, rfl, rfl⟩
        · split at h
          · cases h; exact ⟨_, rfl, rfl, rfl⟩
          · cases h
theorem readW_err {n b : Nat} : ∀ (ws : List (Nat × List UInt8)) (k : Nat) (acc : List (BitVec 64)) (p : Nat), k ≤ 5 → n ≤ b → (∀ x ∈ ws, x.1 + x.2.length ≤ b) → readW n k ws acc = (none, p) → p ≤ b
  | [], k, acc, p, hk, hn, hw, h => by
    rw [readW] at h
    split at h
    · cases h
    · cases h; exact hn
  | w :: ws, k, acc, p, hk, hn, hw, h => by
    have h1 := hw w (List.mem_cons_self ..)
    rw [readW] at h
    split at h
    · cases h; omega
    · rename_i h5
      split at h
      · exact readW_err ws _ _ p (by omega) hn (fun x hx => hw x (List.mem_cons_of_mem _ hx)) h
      · cases h
        rcases readL_right (show k < 5 by omega) w.2 with ⟨_, h2, _⟩ | ⟨_, _, h2⟩ <;> omega
theorem readC_err {s : List UInt8} {p : Nat} (h : readC s = (none, p)) : p ≤ s.length := by
  have hin : ∀ x ∈ wordsL s, x.1 + x.2.length ≤ s.length := fun x hx => by
    have := (words_in s 0 none (fun _ e => by cases e) x hx).2.2
    omega
  unfold readC at h
  split at h
  · cases h; exact Nat.le_refl _
  · rename_i w ws hw
    rw [hw] at hin
    have h1 := hin w (List.mem_cons_self ..)
    split at h
    · split at h
      · cases h; omega
      · rename_i x hx
        split at h
        · obtain ⟨l, hl, _⟩ := macro_reads hx
          rw [hl] at h; cases h
        · rename_i v _
          cases h
          have := hin v (by simp)
          omega
    · exact readW_err _ _ _ _ (by omega) (Nat.le_refl _) hin h
theorem w_cron1 : readC [48, 32, 57, 32, 49, 51, 32, 42, 32, 77, 79, 78, 45, 70, 82, 73] = (some [1#64, 512#64, 8192#64, 8190#64, 62#64], 0) := by decide +kernel
theorem w_cron2 : readC [48, 32, 50, 53, 32, 42, 32, 42, 32, 42] = (none, 2) := by decide +kernel
theorem w_cron3 : textC 1#64 512#64 8192#64 8190#64 62#64 = [48, 32, 57, 32, 49, 51, 32, 42, 32, 49, 45, 53] := by decide +kernel
end Go.Proofs.YtbaobjbckabnhaaGreatDoor
/- Reading, word by word: plain. -/
namespace Go.Proofs.YtbaobjbckabnhaaGreatDoor
open Go Go.Op

/-! pieces, cut at a byte -/
def splitW (c : UInt8) : List UInt8 → List (List UInt8)
  | [] => [[]]
  | b :: l => if b = c then [] :: splitW c l else match splitW c l with
    | [] => [[b]]
    | p :: ps => (b :: p) :: ps
theorem splitW_ne (c : UInt8) : ∀ l, splitW c l ≠ []
  | [] => by simp [splitW]
  | b :: l => by
    rw [splitW]
    split
    · simp
    · split <;> simp
theorem splitW_cut (c : UInt8) : ∀ l : List UInt8, splitW c l = (cutB l c).1 :: (match (cutB l c).2 with | none => [] | some r => splitW c r)
  | [] => rfl
  | b :: l => by
    rw [splitW, cutB]
    by_cases h : b = c
    · rw [if_pos h, if_pos h]
    · rw [if_neg h, if_neg h, splitW_cut c l]
theorem splitK_w (c : UInt8) : ∀ (n : Nat) (l : List UInt8), Lib.count l [c] = n → Lib.splitK [c] 0 n l = splitW c l
  | 0, l, h => by
    rcases index_one c l with ⟨h1, h2⟩ | ⟨r, h1, h2, h3⟩
    · rw [Lib.splitK, splitW_cut, cutB_none h1]
    · rw [Lib.count_hit (by simp) h3] at h; omega
  | n + 1, l, h => by
    rcases index_one c l with ⟨h1, h2⟩ | ⟨r, h1, h2, h3⟩
    · rw [Lib.count_miss h2] at h; omega
    · rw [Lib.count_hit (by simp) h3] at h
      have hd : l.drop ((cutB l c).1.length + [c].length) = r := by
        generalize (cutB l c).1 = a at *
        subst h1
        simp
      have ht : l.take ((cutB l c).1.length + 0) = (cutB l c).1 := by
        generalize (cutB l c).1 = a at *
        subst h1
        simp
      rw [hd] at h
      rw [Lib.splitK, h3, if_neg (by simp), Int.toNat_natCast, hd, ht, splitK_w c n r (by omega), splitW_cut c l, h2]
theorem splitW_sum (c : UInt8) : ∀ l, ((splitW c l).map fun p => p.length + 1).sum = l.length + 1
  | [] => rfl
  | b :: l => by
    have ih := splitW_sum c l
    rw [splitW]
    split
    · simp [ih]; omega
    · cases h : splitW c l with
      | nil => exact absurd h (splitW_ne c l)
      | cons p ps => rw [h] at ih; simp at ih ⊢; omega
/-- The words among pieces. -/
def wordsP : List (List UInt8) → Nat → List (Nat × List UInt8)
  | [], _ => []
  | p :: ps, a => if p = [] then wordsP ps (a + 1) else (a, p) :: wordsP ps (a + p.length + 1)
theorem words_split : ∀ (l : List UInt8) (a : Nat), wordsF l a none = wordsP (splitW 32 l) a ∧
    ∀ (w : Nat × List UInt8) p ps, splitW 32 l = p :: ps → wordsF l a (some w) = (w.1, w.2 ++ p) :: wordsP ps (a + p.length + 1)
  | [], a => ⟨rfl, fun w p ps h => by cases h; simp [wordsF, wordsP]⟩
  | b :: l, a => by
    obtain ⟨ih1, ih2⟩ := words_split l (a + 1)
    by_cases hb : b = 32
    · refine ⟨?_, fun w p ps h => ?_⟩
      · rw [wordsF, if_pos hb, splitW, if_pos hb, wordsP, if_pos rfl, ih1]
      · rw [splitW, if_pos hb] at h
        cases h
        rw [wordsF, if_pos hb, ih1]
        simp
    · obtain ⟨p, ps, hp⟩ : ∃ p ps, splitW 32 l = p :: ps := by
        cases h : splitW 32 l with
        | nil => exact absurd h (splitW_ne 32 l)
        | cons p ps => exact ⟨p, ps, rfl⟩
      refine ⟨?_, fun w q qs h => ?_⟩
      · rw [wordsF, if_neg hb, splitW, if_neg hb, hp, ih2 _ p ps hp, wordsP, if_neg (by simp)]
        simp only [List.cons_append, List.nil_append, List.length_cons]
        rw [show a + 1 + p.length + 1 = a + (p.length + 1) + 1 by omega]
      · rw [splitW, if_neg hb, hp] at h
        cases h
        rw [wordsF, if_neg hb, ih2 _ p ps hp]
        simp only [List.append_assoc, List.cons_append, List.nil_append, List.length_cons]
        rw [show a + 1 + p.length + 1 = a + (p.length + 1) + 1 by omega]
theorem words_pieces (l : List UInt8) : wordsL l = wordsP (splitW 32 l) 0 := (words_split l 0).1
/-- How far the first so many pieces reach. -/
def atP (ps : List (List UInt8)) (k : Nat) : Nat := ((ps.take k).map fun p => p.length + 1).sum
theorem atP_zero (ps : List (List UInt8)) : atP ps 0 = 0 := rfl
theorem atP_succ {ps : List (List UInt8)} {k : Nat} {p : List UInt8} (h : ps[k]? = some p) : atP ps (k + 1) = atP ps k + p.length + 1 := by
  unfold atP
  rw [List.take_add_one, h]
  simp; omega
theorem atP_le (c : UInt8) (l : List UInt8) (k : Nat) : atP (splitW c l) k ≤ l.length + 1 := by
  rw [← splitW_sum c l]
  unfold atP
  generalize splitW c l = ps
  induction ps generalizing k with
  | nil => simp
  | cons p ps ih =>
    cases k with
    | zero => simp
    | succ k => have := ih k; simp at this ⊢; omega
theorem wordsP_append : ∀ (a b : List (List UInt8)) (n : Nat), wordsP (a ++ b) n = wordsP a n ++ wordsP b (n + (a.map fun p => p.length + 1).sum)
  | [], b, n => by simp [wordsP]
  | p :: a, b, n => by
    rw [List.cons_append, wordsP, wordsP]
    split
    · rename_i h; subst h; rw [wordsP_append a b]; simp; rw [show n + 1 + (a.map fun p => p.length + 1).sum = n + (1 + (a.map fun p => p.length + 1).sum) by omega]
    · rw [wordsP_append a b]; simp; rw [show n + p.length + 1 + (a.map fun p => p.length + 1).sum = n + (p.length + 1 + (a.map fun p => p.length + 1).sum) by omega]
theorem wordsP_next {ps : List (List UInt8)} {k : Nat} {p : List UInt8} (h : ps[k]? = some p) :
    wordsP (ps.take (k + 1)) 0 = wordsP (ps.take k) 0 ++ (if p = [] then [] else [(atP ps k, p)]) := by
  rw [List.take_add_one, h, Option.toList_some, wordsP_append]
  unfold atP
  rw [wordsP, Nat.zero_add]
  split <;> rfl
theorem wordsP_front (ps : List (List UInt8)) (k : Nat) : wordsP (ps.take k) 0 <+: wordsP ps 0 := by
  refine ⟨wordsP (ps.drop k) (0 + ((ps.take k).map fun p => p.length + 1).sum), ?_⟩
  rw [← wordsP_append, List.take_append_drop]
theorem split_at (c : UInt8) {l : List UInt8} {k : Nat} {p : List UInt8} (h : (splitW c l)[k]? = some p) : atP (splitW c l) k + p.length ≤ l.length := by
  have h1 := atP_succ h
  have h2 := atP_le c l (k + 1)
  omega

/-! reading -/
/-- What a word does to the fields, of which so many are filled: the fields, how many more are filled then, or 0, and the place. -/
def fillC (l : List (BitVec 64)) (f : Nat) (w : List UInt8) : List (BitVec 64) × Nat × Nat :=
  if f = 5 then (l, 0, 0)
  else if f = 0 ∧ w.head? = some 64 then match macroM w with
    | none => (l, 0, 0)
    | some m => (m, 5, 0)
  else if (readL f w).2.2 = 0 then (l.set f (readL f w).1, 1, 0) else (l.set f (readL f w).1, 0, (readL f w).2.1)
def runC (n : Nat) : List (Nat × List UInt8) → List (BitVec 64) → Nat → Option (List (BitVec 64)) × Nat
  | [], l, f => if f < 5 then (none, n) else (some l, 0)
  | w :: ws, l, f => if (fillC l f w.2).2.1 = 0 then (none, w.1 + (fillC l f w.2).2.2) else runC n ws (fillC l f w.2).1 (f + (fillC l f w.2).2.1)
theorem runC_full (n : Nat) (l : List (BitVec 64)) (ws : List (Nat × List UInt8)) : runC n ws l 5 = match ws with | [] => (some l, 0) | w :: _ => (none, w.1) := by
  cases ws with
  | nil => rfl
  | cons w ws => simp [runC, fillC]
theorem runC_readW (n : Nat) : ∀ (ws : List (Nat × List UInt8)) (k : Nat) (acc : List (BitVec 64)), k ≤ 5 → acc.length = k → (k ≠ 0 ∨ ∀ w, ws.head? = some w → w.2.head? ≠ some 64) →
    runC n ws (acc ++ List.replicate (5 - k) 0#64) k = readW n k ws acc
  | [], k, acc, hk, ha, _ => by
    rw [runC, readW]
    by_cases h : k = 5
    · subst h; simp
    · rw [if_pos (by omega), if_neg h]
  | w :: ws, k, acc, hk, ha, hm => by
    rw [runC, readW]
    by_cases h : k = 5
    · subst h; simp [fillC]
    · have hm2 : ¬ (k = 0 ∧ w.2.head? = some 64) := by
        rintro ⟨h0, h1⟩
        rcases hm with hm | hm
        · exact hm h0
        · exact hm w rfl h1
      have hf : fillC (acc ++ List.replicate (5 - k) 0#64) k w.2 = if (readL k w.2).2.2 = 0 then ((acc ++ List.replicate (5 - k) 0#64).set k (readL k w.2).1, 1, 0) else ((acc ++ List.replicate (5 - k) 0#64).set k (readL k w.2).1, 0, (readL k w.2).2.1) := by
        unfold fillC
        rw [if_neg h, if_neg hm2]
      rw [hf, if_neg h]
      by_cases he : (readL k w.2).2.2 = 0
      · rw [if_pos he, if_pos he]
        simp only [Nat.one_ne_zero, if_false]
        have hs : (acc ++ List.replicate (5 - k) 0#64).set k (readL k w.2).1 = (acc ++ [(readL k w.2).1]) ++ List.replicate (5 - (k + 1)) 0#64 := by
          rw [show 5 - k = (5 - (k + 1)) + 1 by omega, List.replicate_succ, List.set_append_right _ _ (by omega), ha, Nat.sub_self]
          simp
        rw [hs]
        exact runC_readW n ws (k + 1) (acc ++ [(readL k w.2).1]) (by omega) (by simp [ha]) (.inl (by omega))
      · rw [if_neg he, if_neg he]
        simp
theorem runC_read (s : List UInt8) : runC s.length (wordsL s) [0#64, 0#64, 0#64, 0#64, 0#64] 0 = readC s := by
  unfold readC
  cases h : wordsL s with
  | nil => rfl
  | cons w ws =>
    simp only
    by_cases h64 : w.2.head? = some 64
    · rw [if_pos h64, runC]
      have hf : fillC [0#64, 0#64, 0#64, 0#64, 0#64] 0 w.2 = match macroM w.2 with
          | none => ([0#64, 0#64, 0#64, 0#64, 0#64], 0, 0)
          | some m => (m, 5, 0) := by
        unfold fillC
        rw [if_neg (by omega), if_pos ⟨rfl, h64⟩]
      rw [hf]
      cases hm : macroL w.2 with
      | none =>
        have hM : macroM w.2 = none := by unfold macroM; rw [hm]; rfl
        rw [hM]
        simp
      | some x =>
        obtain ⟨l, h1, h2, h3⟩ := macro_reads hm
        rw [h3]
        simp only [Nat.zero_add]
        rw [if_neg (by omega), runC_full]
        cases ws with
        | nil => exact h1.symm
        | cons v vs => rfl
    · rw [if_neg h64]
      exact runC_readW s.length (w :: ws) 0 [] (by omega) rfl (.inr fun v hv => by cases hv; exact h64)
theorem readL_zero {k : Nat} {s : List UInt8} (h : (readL k s).2.2 ≠ 0) : (readL k s).1 = 0#64 := by
  unfold readL at *
  by_cases hn : 256 < s.length
  · rw [if_pos hn]
  · rw [if_neg hn] at h ⊢
    have key : ∀ (ps : List (List UInt8)) (a : Nat) (m : BitVec 64), (readP k ps a m).2.2 ≠ 0 → (readP k ps a m).1 = 0#64 := by
      intro ps
      induction ps with
      | nil => intro a m h; exact absurd rfl h
      | cons p ps ih =>
        intro a m h
        rw [readP] at h ⊢
        cases hi : itemL k p with
        | none => rfl
        | some x => rw [hi] at h; exact ih _ _ h
    exact key _ _ _ h
theorem fillC_len {l : List (BitVec 64)} {f : Nat} {w : List UInt8} (h : l.length = 5) : (fillC l f w).1.length = 5 := by
  unfold fillC
  split
  · exact h
  · split
    · cases hm : macroM w with
      | none => exact h
      | some m =>
        obtain ⟨x, hx, hy⟩ := Option.bind_eq_some_iff.1 hm
        obtain ⟨q, h1, h2, h3⟩ := macro_reads hx
        have := (readC_right h2).1
        rw [h3] at hm; cases hm
        exact this
    · split <;> simp [h]
theorem fillC_count {l : List (BitVec 64)} {f : Nat} {w : List UInt8} (h : f ≤ 5) : f + (fillC l f w).2.1 ≤ 5 := by
  unfold fillC
  split
  · exact h
  · split
    · rename_i h0
      cases macroM w with
      | none => exact h
      | some m => simp; omega
    · split <;> simp <;> omega
theorem fillC_place {l : List (BitVec 64)} {f : Nat} {w : List UInt8} (h : f ≤ 5) : (fillC l f w).2.2 ≤ w.length := by
  unfold fillC
  split
  · exact Nat.zero_le _
  · split
    · cases macroM w <;> exact Nat.zero_le _
    · split
      · exact Nat.zero_le _
      · rename_i h5 _ he
        rcases readL_right (show f < 5 by omega) w with ⟨h1, _, _⟩ | ⟨_, _, h2⟩
        · exact absurd h1 he
        · exact h2
/-- The run goes on behind so many words. -/
theorem runC_on {n : Nat} {pre : List (Nat × List UInt8)} {x : Nat × List UInt8} {Z l : List (BitVec 64)} {f : Nat} (h : ∀ rest, runC n (pre ++ rest) Z 0 = runC n rest l f) :
    (if (fillC l f x.2).2.1 = 0 then ∀ rest, runC n (pre ++ [x] ++ rest) Z 0 = (none, x.1 + (fillC l f x.2).2.2) else ∀ rest, runC n (pre ++ [x] ++ rest) Z 0 = runC n rest (fillC l f x.2).1 (f + (fillC l f x.2).2.1)) := by
  split
  · rename_i h0
    intro rest
    rw [List.append_assoc, h, List.cons_append, List.nil_append, runC, if_pos h0]
  · rename_i h0
    intro rest
    rw [List.append_assoc, h, List.cons_append, List.nil_append, runC, if_neg h0]
end Go.Proofs.YtbaobjbckabnhaaGreatDoor
/- The document's words of a text: walked. -/
namespace Go.Proofs.YtbaobjbckabnhaaGreatDoor
open Go.RowKit

def wenc (x : Nat × List UInt8) : List Value := [.int .i64 (x.1 : Int), .string ⟨x.2.toArray⟩]
theorem wenc_len (l : List (Nat × List UInt8)) : (l.flatMap wenc).length = l.length * 2 := by
  induction l with
  | nil => rfl
  | cons a l ih => rw [List.flatMap_cons, List.length_append, ih, List.length_cons]; show 2 + _ = _; omega
theorem word_set (pre : List (Nat × List UInt8)) (a : Nat) (t u : List UInt8) : ((pre ++ [(a, t)]).flatMap wenc).set (pre.length * 2 + 1) (.string ⟨u.toArray⟩) = (pre ++ [(a, u)]).flatMap wenc := by
  rw [List.flatMap_append, List.flatMap_append, List.set_append_right _ _ (by rw [wenc_len]; omega), wenc_len, show pre.length * 2 + 1 - pre.length * 2 = 1 by omega]
  rfl
theorem word_cells {w : World} {base : Nat} {A : Option Addr} {c : Nat} {pre : List (Nat × List UInt8)} {x : Nat × List UInt8} (h : w.ownsRow base 95 2 (.slice A (pre.length + 1) c) (pre.length + 1) ((pre ++ [x]).flatMap wenc)) :
    ∃ g, A = some ⟨g, 0, none⟩ ∧ g < w.heap.size ∧ w.cell? ⟨g, pre.length * 2 + 1, none⟩ = some (.string ⟨x.2.toArray⟩) := by
  have hx : ((pre ++ [x]).flatMap wenc)[pre.length * 2 + 1]? = some (.string ⟨x.2.toArray⟩) := by
    rw [List.flatMap_append, List.getElem?_append_right (by rw [wenc_len]; omega), wenc_len, show pre.length * 2 + 1 - pre.length * 2 = 1 by omega]
    rfl
  rcases h.2 with ⟨hv, h0⟩ | ⟨g, cap, cur, hv, hg, hh, _⟩
  · omega
  · injection hv with e1 e2 e3
    subst e1; subst e3
    exact ⟨g, rfl, (Array.getElem?_eq_some_iff.1 hh).1, by rw [h.cellAt _ (by omega), hx]⟩
theorem info_word : (Tryz.prog.info? 95).map (fun i => (i.zero, i.size, i.bytes)) = some (some (.agg #[.int .i64 0, .string ⟨#[]⟩]), 2, 24) := by kernel_rfl
theorem str_add' (a b : List UInt8) : (⟨a.toArray⟩ : ByteArray) ++ ⟨b.toArray⟩ = ⟨(a ++ b).toArray⟩ := by
  apply ByteArray.ext
  rw [ByteArray.data_append]; simp
theorem one_at (s : ByteArray) (k : Nat) (h : k < s.size) : s.extract k (k + 1) = ⟨[s[k]].toArray⟩ := by
  apply ByteArray.ext
  rw [ByteArray.data_extract]
  apply Array.ext'
  rw [Array.toList_extract]
  have : s.data.toList.drop k = s[k] :: s.data.toList.drop (k + 1) := by
    rw [List.drop_eq_getElem_cons (by simpa using h)]; rfl
  simp [List.extract, this]
theorem byte_at (s : ByteArray) (k : Nat) (h : k < s.size) : s.data.toList[k]? = some s[k] := by
  rw [List.getElem?_eq_getElem (by simpa using h)]; rfl
theorem words_count : ∀ (l : List UInt8) (a : Nat) (w : Option (Nat × List UInt8)), (wordsF l a w).length ≤ l.length + w.toList.length
  | [], _, none => by simp [wordsF]
  | [], _, some w => by simp [wordsF]
  | b :: l, a, none => by
    have h1 := words_count l (a + 1) none
    have h2 := words_count l (a + 1) (some (a, [b]))
    rw [wordsF]; simp at h1 h2 ⊢; split <;> omega
  | b :: l, a, some w => by
    have h1 := words_count l (a + 1) none
    have h2 := words_count l (a + 1) (some (w.1, w.2 ++ [b]))
    rw [wordsF]; simp at h1 h2 ⊢; split
    · rw [List.length_cons]; omega
    · omega
theorem words_bd (l : List UInt8) (k : Nat) : (wordsL (l.take k)).length ≤ k ∧ ∀ x ∈ wordsL (l.take k), x.2.length ≤ k := by
  have h := words_count (l.take k) 0 none
  have hl : (l.take k).length ≤ k := by rw [List.length_take]; omega
  refine ⟨by unfold wordsL; have e : (none : Option (Nat × List UInt8)).toList.length = 0 := rfl; omega, fun x hx => ?_⟩
  have := (words_in (l.take k) 0 none (fun _ e => by cases e) x hx).2.2
  omega
set_option maxRecDepth 100000 in
set_option maxHeartbeats 4000000 in
theorem rwords_any (s : ByteArray) (w : World) (hs : s.size ≤ 256) :
    Calls Tryz.prog 47 #[.string s] w fun e w' => ∃ v, e = .returned v ∧ w'.ownsRow w.heap.size 95 2 v (wordsL s.data.toList).length ((wordsL s.data.toList).flatMap wenc) ∧ Below w.heap.size w w' := by
  obtain ⟨i0, hi, hz0, hz1, hz2⟩ := info_parts info_word
  go_enter Tryz.func47, Tryz.ntmps47
  go_wp2_with fail
  go_loopw [3, 4] (fun v i wr => ∃ k : Nat, k ≤ s.size ∧ i = .int .i64 (k : Int) ∧ wr.ownsRow w.heap.size 95 2 v (wordsL (s.data.toList.take k)).length ((wordsL (s.data.toList.take k)).flatMap wenc) ∧ Below w.heap.size w wr) (fun _ i _ => s.size - (intOf i).toNat)
  case atStart => exact ⟨0, Nat.zero_le _, rfl, World.ownsRow_nil _ _ _ _, Below.refl _ _⟩
  case round =>
    obtain ⟨k, hk, rfl, hrow, hb⟩ := hrel
    obtain ⟨A, c, rfl⟩ := own_slice0 hrow
    by_cases hlt : k < s.size
    · obtain ⟨T1, T2, T3⟩ := words_take (byte_at s k hlt)
      obtain ⟨B1, B2⟩ := words_bd s.data.toList k
      have hle := hb.size
      by_cases hc : s[k] = 32
      · have hW := Lib.hid (T1 hc)
        have hc' : ((s[k].toNat : Int) == 32) = true := by rw [hc]; rfl
        clear T1 T2 T3 hc
        go_wp2_with fail
        go_roundw
        case rel => exact ⟨k + 1, by omega, by go_num, by rw [hW.out]; exact hrow, hb⟩
        case measure => simp [intOf]; omega
      · have hc' : ((s[k].toNat : Int) == 32) = false := by
          rw [beq_eq_false_iff_ne]; intro e; exact hc (by apply UInt8.toNat_inj.1; have : (32 : UInt8).toNat = 32 := rfl; omega)
        by_cases h0 : k = 0
        · subst h0
          have hW := Lib.hid (T2 hc (.inl rfl))
          clear T1 T2 T3 hc
          go_wp2_with (at_builtin; refine wpList_append_own _ rfl _ _ 92 rfl w.heap.size 95 i0 (.agg #[.int .i64 0, .string ⟨#[]⟩]) 2 24 Tryz.underlying92 hi hz0 hz1 hz2 rfl (by decide) _ _ _ rfl (hrow.alloc _) ⟨wr.heap.size, 0, none⟩ 1 1 [.int .i64 0, .string ⟨#[]⟩] rfl rfl (cells_two _ _ _ _) (by simp [Value.oneCell']) (by unfold maxLen; omega) (by omega) (by simp; omega) ?_; intro v' w5 hown5 hgrow5 _)
          obtain ⟨A5, c5, rfl⟩ := own_slice0 hown5
          have hrow5 : w5.ownsRow w.heap.size 95 2 (.slice A5 ((wordsL (s.data.toList.take 0)).length + 1) c5) ((wordsL (s.data.toList.take 0)).length + 1) ((wordsL (s.data.toList.take 0) ++ [(0, [])]).flatMap wenc) := by
            rw [List.flatMap_append]; exact hown5
          clear hown5
          have HB5 := Lib.hid ((hb.alloc hle (.cells #[.int .i64 0, .string ⟨#[]⟩] 95)).grown hgrow5 (by simp; omega) (fun j e => (hrow.lt j e).1))
          clear hgrow5 hb
          generalize hp : wordsL (s.data.toList.take 0) = pre at *
          obtain ⟨g, rfl, hg, k1⟩ := word_cells hrow5
          have f1 := hrow5.frozenAt (pre.length * 2 + 1)
          have Hst := Lib.hid (hrow5.stored (pre.length * 2 + 1) (.string ⟨([] ++ [s[0]]).toArray⟩))
          have Hlo := Lib.hid (fun j e => (hrow5.lt j e).1)
          have Hfs := Lib.hid (word_set pre 0 [] ([] ++ [s[0]]))
          have hx := one_at s 0 hlt
          have ha := str_add' [] [s[0]]
          clear hrow5 hrow B2
          dsimp only at k1
          have hp0 : (0 : Int) ≤ (pre.length : Int) := by omega
          have hp1 : (pre.length : Int) < (pre.length : Int) + 1 := by omega
          go_region
          go_wp2_with fail
          go_roundw
          case rel =>
            refine ⟨0 + 1, by omega, by go_num, ?_, ((HB5.out).grown Hst.out.2 (by have := HB5.out.size; omega) (fun j e => Hlo.out j e)).drew⟩
            rw [hW.out, List.length_append]
            have := Hst.out.1
            rw [Hfs.out] at this
            exact this.drew
          case measure => simp [intOf]; omega
        · obtain ⟨j, rfl⟩ : ∃ j, k = j + 1 := ⟨k - 1, by omega⟩
          have hj : j < s.size := by omega
          have hj0 : (0 : Int) ≤ (j : Int) := by omega
          have hbj := byte_at s j hj
          clear h0
          by_cases hd : s[j] = 32
          · have hW := Lib.hid (T2 hc (.inr (by rw [show j + 1 - 1 = j by omega, hbj, hd])))
            have hd' : ((s[j].toNat : Int) == 32) = true := by rw [hd]; rfl
            clear T1 T2 T3 hc hd hbj B2
            go_wp2_with (at_builtin; refine wpList_append_own _ rfl _ _ 92 rfl w.heap.size 95 i0 (.agg #[.int .i64 0, .string ⟨#[]⟩]) 2 24 Tryz.underlying92 hi hz0 hz1 hz2 rfl (by decide) _ _ _ rfl (hrow.alloc _) ⟨wr.heap.size, 0, none⟩ 1 1 [.int .i64 ((j : Int) + 1), .string ⟨#[]⟩] rfl rfl (cells_two _ _ _ _) (by simp [Value.oneCell']) (by unfold maxLen; omega) (by omega) (by simp; omega) ?_; intro v' w5 hown5 hgrow5 _)
            obtain ⟨A5, c5, rfl⟩ := own_slice0 hown5
            have hrow5 : w5.ownsRow w.heap.size 95 2 (.slice A5 ((wordsL (s.data.toList.take (j + 1))).length + 1) c5) ((wordsL (s.data.toList.take (j + 1))).length + 1) ((wordsL (s.data.toList.take (j + 1)) ++ [(j + 1, [])]).flatMap wenc) := by
              rw [List.flatMap_append]; exact hown5
            clear hown5
            have HB5 := Lib.hid ((hb.alloc hle (.cells #[.int .i64 ((j : Int) + 1), .string ⟨#[]⟩] 95)).grown hgrow5 (by simp; omega) (fun j e => (hrow.lt j e).1))
            clear hgrow5 hb
            generalize hp : wordsL (s.data.toList.take (j + 1)) = pre at *
            obtain ⟨g, rfl, hg, k1⟩ := word_cells hrow5
            have f1 := hrow5.frozenAt (pre.length * 2 + 1)
            have Hst := Lib.hid (hrow5.stored (pre.length * 2 + 1) (.string ⟨([] ++ [s[j + 1]]).toArray⟩))
            have Hlo := Lib.hid (fun j e => (hrow5.lt j e).1)
            have Hfs := Lib.hid (word_set pre (j + 1) [] ([] ++ [s[j + 1]]))
            have hx := one_at s (j + 1) hlt
            have ha := str_add' [] [s[j + 1]]
            clear hrow5 hrow
            dsimp only at k1
            have hp0 : (0 : Int) ≤ (pre.length : Int) := by omega
            have hp1 : (pre.length : Int) < (pre.length : Int) + 1 := by omega
            go_region
            go_wp2_with fail
            go_roundw
            case rel =>
              refine ⟨j + 1 + 1, by omega, by go_num, ?_, ((HB5.out).grown Hst.out.2 (by have := HB5.out.size; omega) (fun j e => Hlo.out j e)).drew⟩
              rw [hW.out, List.length_append]
              have := Hst.out.1
              rw [Hfs.out] at this
              exact this.drew
            case measure => simp [intOf]; omega
          · have hd' : ((s[j].toNat : Int) == 32) = false := by
              rw [beq_eq_false_iff_ne]; intro e; exact hd (by apply UInt8.toNat_inj.1; have : (32 : UInt8).toNat = 32 := rfl; omega)
            obtain ⟨pre, ⟨xa, xt⟩, e1, e2⟩ := T3 hc s[j] (by omega) (by rw [show j + 1 - 1 = j by omega]; exact hbj) hd
            have hW := Lib.hid e2
            have hxt := B2 (xa, xt) (by rw [e1]; simp)
            rw [e1, List.length_append] at hrow B1
            rw [e1, List.length_append]
            simp only [List.length_cons, List.length_nil, Nat.zero_add] at hrow B1 hxt ⊢
            clear T1 T2 T3 hc hd hbj B2 e1 e2
            have hrow5 := hrow
            have HB5 := Lib.hid hb
            clear hb
            go_wp2_with fail
            obtain ⟨g, rfl, hg, k1⟩ := word_cells hrow5
            have f1 := hrow5.frozenAt (pre.length * 2 + 1)
            have Hst := Lib.hid (hrow5.stored (pre.length * 2 + 1) (.string ⟨(xt ++ [s[j + 1]]).toArray⟩))
            have Hlo := Lib.hid (fun j e => (hrow5.lt j e).1)
            have Hfs := Lib.hid (word_set pre xa xt (xt ++ [s[j + 1]]))
            have hx := one_at s (j + 1) hlt
            have ha := str_add' xt [s[j + 1]]
            clear hrow5 hrow
            dsimp only at k1
            have hp0 : (0 : Int) ≤ (pre.length : Int) := by omega
            have hp1 : (pre.length : Int) < (pre.length : Int) + 1 := by omega
            go_region
            go_wp2_with fail
            go_roundw
            case rel =>
              refine ⟨j + 1 + 1, by omega, by go_num, ?_, ((HB5.out).grown Hst.out.2 (by have := HB5.out.size; omega) (fun j e => Hlo.out j e)).drew⟩
              rw [hW.out, List.length_append]
              have := Hst.out.1
              rw [Hfs.out] at this
              exact this.drew
            case measure => simp [intOf]; omega
    · have hk2 : k = s.size := by omega
      have hlast : s.data.toList.take k = s.data.toList := by rw [List.take_of_length_le (by simp; omega)]
      have hlt' : decide ((k : Int) < (s.size : Int)) = false := by simp; omega
      generalize s.data.toList.take k = q at *
      subst hlast
      clear hk2
      go_wp2_with fail
      go_ret
      exact ⟨_, rfl, hrow, hb⟩
end Go.Proofs.YtbaobjbckabnhaaGreatDoor
/- The document's macros, and which crons may be: walked. -/
namespace Go.Proofs.YtbaobjbckabnhaaGreatDoor
open Go.RowKit

set_option maxRecDepth 100000 in
theorem rmacro_any (l : List UInt8) (w : World) :
    Calls Tryz.prog 48 #[strV l] w fun e w' => e = .returned (strV ((macroL l).getD [])) ∧ w = w' := by
  unfold strV
  by_cases h0 : l = [64, 121, 101, 97, 114, 108, 121]
  · subst h0
    go_enter Tryz.func48, Tryz.ntmps48
    go_wp2_with fail
    go_ret
    exact ⟨rfl, rfl⟩
  by_cases h1 : l = [64, 97, 110, 110, 117, 97, 108, 108, 121]
  · subst h1
    go_enter Tryz.func48, Tryz.ntmps48
    go_wp2_with fail
    go_ret
    exact ⟨rfl, rfl⟩
  by_cases h2 : l = [64, 109, 111, 110, 116, 104, 108, 121]
  · subst h2
    go_enter Tryz.func48, Tryz.ntmps48
    go_wp2_with fail
    go_ret
    exact ⟨rfl, rfl⟩
  by_cases h3 : l = [64, 119, 101, 101, 107, 108, 121]
  · subst h3
    go_enter Tryz.func48, Tryz.ntmps48
    go_wp2_with fail
    go_ret
    exact ⟨rfl, rfl⟩
  by_cases h4 : l = [64, 100, 97, 105, 108, 121]
  · subst h4
    go_enter Tryz.func48, Tryz.ntmps48
    go_wp2_with fail
    go_ret
    exact ⟨rfl, rfl⟩
  by_cases h5 : l = [64, 109, 105, 100, 110, 105, 103, 104, 116]
  · subst h5
    go_enter Tryz.func48, Tryz.ntmps48
    go_wp2_with fail
    go_ret
    exact ⟨rfl, rfl⟩
  by_cases h6 : l = [64, 104, 111, 117, 114, 108, 121]
  · subst h6
    go_enter Tryz.func48, Tryz.ntmps48
    go_wp2_with fail
    go_ret
    exact ⟨rfl, rfl⟩
  have hm : macroL l = none := by
    unfold macroL
    rw [if_neg (by rintro (h | h); exact h0 h; exact h1 h), if_neg h2, if_neg h3, if_neg (by rintro (h | h); exact h4 h; exact h5 h), if_neg h6]
  have g0 : (l == [64, 121, 101, 97, 114, 108, 121]) = false := by rw [beq_eq_false_iff_ne]; exact h0
  have g1 : (l == [64, 97, 110, 110, 117, 97, 108, 108, 121]) = false := by rw [beq_eq_false_iff_ne]; exact h1
  have g2 : (l == [64, 109, 111, 110, 116, 104, 108, 121]) = false := by rw [beq_eq_false_iff_ne]; exact h2
  have g3 : (l == [64, 119, 101, 101, 107, 108, 121]) = false := by rw [beq_eq_false_iff_ne]; exact h3
  have g4 : (l == [64, 100, 97, 105, 108, 121]) = false := by rw [beq_eq_false_iff_ne]; exact h4
  have g5 : (l == [64, 109, 105, 100, 110, 105, 103, 104, 116]) = false := by rw [beq_eq_false_iff_ne]; exact h5
  have g6 : (l == [64, 104, 111, 117, 114, 108, 121]) = false := by rw [beq_eq_false_iff_ne]; exact h6
  rw [hm]
  clear hm h0 h1 h2 h3 h4 h5 h6
  go_enter Tryz.func48, Tryz.ntmps48
  go_wp2_with fail
  go_ret
  exact ⟨rfl, rfl⟩
end Go.Proofs.YtbaobjbckabnhaaGreatDoor
/- The document's fields of a cron, and the cron of fields: walked. -/
namespace Go.Proofs.YtbaobjbckabnhaaGreatDoor
open Go.RowKit

/-- A cron, and an array of five masks: five cells. -/
def fiveV (a b c d e : BitVec 64) : Value := .agg #[.int .u64 (U a), .int .u64 (U b), .int .u64 (U c), .int .u64 (U d), .int .u64 (U e)]
theorem below_five {B g : Nat} {a w : World} (h : Below B a w) (hg : B ≤ g) (u0 u1 u2 u3 u4 : Value) :
    Below B a (((((w.setCell ⟨g, 0, none⟩ u0).setCell ⟨g, 1, none⟩ u1).setCell ⟨g, 2, none⟩ u2).setCell ⟨g, 3, none⟩ u3).setCell ⟨g, 4, none⟩ u4) :=
  ((((h.setCell hg _).setCell hg _).setCell hg _).setCell hg _).setCell hg _
set_option maxRecDepth 100000 in
set_option maxHeartbeats 1000000 in
theorem rfields_any (a b c d e : BitVec 64) (w : World) :
    Calls Tryz.prog 51 #[fiveV a b c d e] w fun x w' => x = .returned (fiveV a b c d e) ∧ Below w.heap.size w w' := by
  unfold fiveV
  generalize U a = a; generalize U b = b; generalize U c = c; generalize U d = d; generalize U e = e
  go_enter Tryz.func51, Tryz.ntmps51
  go_wp2_with fail
  refine bodyPost_ret (v := .agg #[.int .u64 a, .int .u64 b, .int .u64 c, .int .u64 d, .int .u64 e]) (by simp [results, Tryz.results51, go_sem]) rfl ⟨rfl, ((Below.refl _ _).alloc (Nat.le_refl _) _).alloc (by simp) _⟩
set_option maxRecDepth 100000 in
set_option maxHeartbeats 1000000 in
theorem rofive_any (a b c d e : BitVec 64) (w : World) :
    Calls Tryz.prog 50 #[fiveV a b c d e] w fun x w' => x = .returned (fiveV a b c d e) ∧ Below w.heap.size w w' := by
  unfold fiveV
  generalize U a = a; generalize U b = b; generalize U c = c; generalize U d = d; generalize U e = e
  go_enter Tryz.func50, Tryz.ntmps50
  go_wp2_with fail
  refine bodyPost_ret (v := .agg #[.int .u64 a, .int .u64 b, .int .u64 c, .int .u64 d, .int .u64 e]) (by simp [results, Tryz.results50, go_sem]) rfl ⟨rfl, ((Below.refl _ _).alloc (Nat.le_refl _) _).alloc (by simp) _⟩
theorem index_five (a b c d e : BitVec 64) (k : Nat) (hk : k < 5) (w : World) : (Instr.index 97 (fiveV a b c d e) (.int .i64 (k : Int))).run Tryz.prog w = .ok (.int .u64 (U ([a, b, c, d, e].getD k 0#64))) w := by
  rcases five hk with rfl | rfl | rfl | rfl | rfl <;>
  simp [Instr.index, asIntOf, Sem.run_bind, run_underlying Tryz.underlying97, Tryz.sizeOf29, Tryz.isAgg29, Go.part, Result.andThen, fiveV]
def fiveB (a b c d e : BitVec 64) : Bool := fieldB 0 a && (fieldB 1 b && (fieldB 2 c && (fieldB 3 d && fieldB 4 e)))
theorem five_yes {a b c d e : BitVec 64} (h : ∀ j : Nat, j < 5 → fieldB j ([a, b, c, d, e].getD j 0#64) = true) : fiveB a b c d e = true := by
  have h0 := h 0 (by omega); have h1 := h 1 (by omega); have h2 := h 2 (by omega); have h3 := h 3 (by omega); have h4 := h 4 (by omega)
  simp at h0 h1 h2 h3 h4
  simp [fiveB, h0, h1, h2, h3, h4]
theorem five_no {a b c d e : BitVec 64} {j : Nat} (hj : j < 5) (h : fieldB j ([a, b, c, d, e].getD j 0#64) = false) : fiveB a b c d e = false := by
  rcases five hj with rfl | rfl | rfl | rfl | rfl <;> simp at h <;> simp [fiveB, h]
set_option maxRecDepth 100000 in
set_option maxHeartbeats 1000000 in
theorem rright7_any (a b c d e : BitVec 64) (w : World) :
    Calls Tryz.prog 32 #[fiveV a b c d e] w fun x w' => x = .returned (.bool (fiveB a b c d e)) ∧ Below w.heap.size w w' := by
  have HI := Lib.hid (fun (k : Nat) hk W => index_five a b c d e k hk W)
  have HF := Lib.hid (fun W => rfields_any a b c d e W)
  have HY := Lib.hid (five_yes (a := a) (b := b) (c := c) (d := d) (e := e))
  have HN := Lib.hid (fun (j : Nat) (hj : j < 5) => five_no (a := a) (b := b) (c := c) (d := d) (e := e) hj)
  generalize fiveB a b c d e = z at *
  generalize [a, b, c, d, e] = L at *
  unfold fiveV at *
  go_enter Tryz.func32, Tryz.ntmps32
  go_wp2_with fail
  refine (HF.out _).mono ?_
  rintro x w1 ⟨rfl, hb⟩
  have HB1 : Hid (Below w.heap.size w w1) := Lib.hid (((Below.refl _ w).alloc (Nat.le_refl _) _).trans (hb.mono (by simp)))
  clear hb
  go_wp2_with fail
  go_loopw [3, 4, 7] (fun k m i wr => ∃ j : Nat, j ≤ 5 ∧ i = .int .i64 (j : Int) ∧ Below w.heap.size w wr ∧ ∀ q : Nat, q < j → fieldB q (L.getD q 0#64) = true) (fun _ _ i _ => 5 - (intOf i).toNat)
  case atStart => exact ⟨0, by omega, rfl, HB1.out, fun q hq => by omega⟩
  case round =>
    obtain ⟨j, hj, rfl, hb, hall⟩ := hrel
    have HB := Lib.hid hb; have HA := Lib.hid hall
    clear hb hall
    by_cases hlt : j < 5
    · have hj5 : (j : Int) < 5 := by omega
      have hix := fun W => HI.out j hlt W
      have HR := Lib.hid (fun W => rright_any j (L.getD j 0#64) W hlt)
      have HN' := Lib.hid (HN.out j hlt)
      have HN2 : Hid (fieldB j (L.getD j 0#64) = true → ∀ q : Nat, q < j + 1 → fieldB q (L.getD q 0#64) = true) := Lib.hid (fun h q hq => by
        rcases Nat.lt_succ_iff_lt_or_eq.1 hq with h' | rfl
        · exact HA.out q h'
        · exact h)
      generalize L.getD j 0#64 = m at *
      generalize fieldB j m = y at *
      go_wp2_with fail
      refine (HR.out _).mono ?_
      rintro x w2 ⟨rfl, hb⟩
      have HB2 := Lib.hid (HB.out.trans (hb.mono HB.out.size))
      clear hb
      cases y with
      | true =>
        go_wp2_with fail
        go_roundw
        case rel => exact ⟨j + 1, by omega, by go_num, HB2.out, HN2.out (by simp)⟩
        case measure => simp [intOf]; omega
      | false =>
        go_wp2_with fail
        go_ret
        exact ⟨by rw [HN'.out (by simp)]; rfl, HB2.out⟩
    · have hj5 : j = 5 := by omega
      subst hj5
      go_wp2_with fail
      go_ret
      exact ⟨by rw [HY.out HA.out]; rfl, HB.out⟩
end Go.Proofs.YtbaobjbckabnhaaGreatDoor
/- A cron in memory; fields, put, Check: walked, of the program. -/
namespace Go.Proofs.YtbaobjbckabnhaaGreatDoor
open Go.RowKit

def cronV (L : List (BitVec 64)) : Value := .agg (L.map menc).toArray
theorem cronV_five (a b c d e : BitVec 64) : cronV [a, b, c, d, e] = fiveV a b c d e := rfl
theorem list_five {L : List (BitVec 64)} (h : L.length = 5) : ∃ a b c d e, L = [a, b, c, d, e] := by
  match L, h with
  | [a, b, c, d, e], _ => exact ⟨a, b, c, d, e, rfl⟩
/-- A cron stands in block g. -/
def CronAt (w : World) (g : Nat) (L : List (BitVec 64)) : Prop := L.length = 5 ∧ D.Box w g 31 (L.map menc).toArray
section
variable {w w' : World} {g : Nat} {L : List (BitVec 64)}
theorem CronAt.lt (h : CronAt w g L) : g < w.heap.size := D.Box.lt h.2
theorem CronAt.below {B : Nat} (h : CronAt w g L) (hb : Below B w w') (hg : g < B) : CronAt w' g L := ⟨h.1, D.Box.below h.2 hb hg⟩
theorem CronAt.on (h : CronAt w g L) (hb : Below w.heap.size w w') : CronAt w' g L := h.below hb h.lt
theorem CronAt.cell (h : CronAt w g L) {k : Nat} (hk : k < 5) : w.cell? ⟨g, k, none⟩ = some (.int .u64 (U (L.getD k 0#64))) := by
  rw [D.Box.cell h.2 k, List.getElem?_toArray, List.getElem?_map, List.getD_eq_getElem?_getD, List.getElem?_eq_getElem (by rw [h.1]; exact hk)]; rfl
theorem CronAt.frozen (h : CronAt w g L) (k : Nat) : w.frozen? ⟨g, k, none⟩ = false := D.Box.frozen h.2 k
theorem CronAt.set (h : CronAt w g L) (k : Nat) (m : BitVec 64) : CronAt (w.setCell ⟨g, k, none⟩ (.int .u64 (U m))) g (L.set k m) := by
  refine ⟨by rw [List.length_set]; exact h.1, ?_⟩
  have := D.Box.set h.2 k (menc m)
  rw [List.map_set, ← List.setIfInBounds_toArray]
  exact this
theorem CronAt.new (w : World) (a b c d e : BitVec 64) : CronAt (w.alloc (.cells #[.int .u64 (U a), .int .u64 (U b), .int .u64 (U c), .int .u64 (U d), .int .u64 (U e)] 31)) w.heap.size [a, b, c, d, e] := ⟨rfl, D.Box.new _ _ _⟩
theorem CronAt.alloc (h : CronAt w g L) (o : Obj) : CronAt (w.alloc o) g L := ⟨h.1, D.Box.alloc h.2 o⟩
theorem CronAt.five {a b c d e : BitVec 64} (h : CronAt w g [a, b, c, d, e]) :
    w.cell? ⟨g, 0, none⟩ = some (.int .u64 (U a)) ∧ w.cell? ⟨g, 1, none⟩ = some (.int .u64 (U b)) ∧ w.cell? ⟨g, 2, none⟩ = some (.int .u64 (U c)) ∧ w.cell? ⟨g, 3, none⟩ = some (.int .u64 (U d)) ∧ w.cell? ⟨g, 4, none⟩ = some (.int .u64 (U e)) :=
  ⟨h.cell (k := 0) (by omega), h.cell (k := 1) (by omega), h.cell (k := 2) (by omega), h.cell (k := 3) (by omega), h.cell (k := 4) (by omega)⟩
theorem CronAt.set5 {a b c d e : BitVec 64} (h : CronAt w g [a, b, c, d, e]) (a' b' c' d' e' : BitVec 64) :
    CronAt (((((w.setCell ⟨g, 0, none⟩ (.int .u64 (U a'))).setCell ⟨g, 1, none⟩ (.int .u64 (U b'))).setCell ⟨g, 2, none⟩ (.int .u64 (U c'))).setCell ⟨g, 3, none⟩ (.int .u64 (U d'))).setCell ⟨g, 4, none⟩ (.int .u64 (U e'))) g [a', b', c', d', e'] :=
  ((((h.set 0 a').set 1 b').set 2 c').set 3 d').set 4 e'
theorem CronAt.far (h : CronAt w g L) {p i : Nat} (hp : g ≠ p) (u : Value) : CronAt (w.setCell ⟨p, i, none⟩ u) g L := ⟨h.1, D.Box.far h.2 hp u⟩
end
/-- Below B, only block g may have turned. -/
structure Sole (g B : Nat) (w w' : World) : Prop where
  os : w'.os = w.os
  tape : w'.tape = w.tape
  output : w'.output = w.output
  size : w.heap.size ≤ w'.heap.size
  block : ∀ k, k < B → k ≠ g → w'.heap[k]? = w.heap[k]?
theorem Sole.below {g B C : Nat} {a b : World} (h : Sole g B a b) (hg : C ≤ g) (hB : C ≤ B) : Below C a b := ⟨h.os, h.tape, h.output, h.size, fun k hk => h.block k (by omega) (by omega)⟩
theorem Sole.of {g B : Nat} {a b : World} (h : Below B a b) : Sole g B a b := ⟨h.os, h.tape, h.output, h.size, fun k hk _ => h.block k hk⟩
theorem Sole.set {g B i : Nat} {a b : World} (h : Sole g B a b) (u : Value) : Sole g B a (b.setCell ⟨g, i, none⟩ u) :=
  ⟨h.os, h.tape, h.output, by simpa using h.size, fun k hk hn => (Below.heap_setCell b ⟨g, i, none⟩ u k hn).trans (h.block k hk hn)⟩
theorem Sole.trans {g B : Nat} {a b c : World} (h : Sole g B a b) (k : Sole g B b c) : Sole g B a c :=
  ⟨k.os.trans h.os, k.tape.trans h.tape, k.output.trans h.output, Nat.le_trans h.size k.size, fun i hi hn => (k.block i hi hn).trans (h.block i hi hn)⟩
theorem Sole.mono {g B C : Nat} {a b : World} (h : Sole g B a b) (hC : C ≤ B) : Sole g C a b := ⟨h.os, h.tape, h.output, h.size, fun k hk => h.block k (by omega)⟩

def ptrsV (g : Nat) : Value := .agg #[.pointer (some ⟨g, 0, none⟩), .pointer (some ⟨g, 1, none⟩), .pointer (some ⟨g, 2, none⟩), .pointer (some ⟨g, 3, none⟩), .pointer (some ⟨g, 4, none⟩)]
theorem index_ptrs (g k : Nat) (hk : k < 5) (w : World) : (Instr.index 114 (ptrsV g) (.int .i64 (k : Int))).run Tryz.prog w = .ok (.pointer (some ⟨g, k, none⟩)) w := by
  rcases five hk with rfl | rfl | rfl | rfl | rfl <;>
  simp [Instr.index, asIntOf, Sem.run_bind, run_underlying Tryz.underlying114, Tryz.sizeOf113, Tryz.isAgg113, Go.part, Result.andThen, ptrsV]
set_option maxRecDepth 100000 in
theorem fields_any (g : Nat) (w : World) :
    Calls Tryz.prog 61 #[.pointer (some ⟨g, 0, none⟩)] w fun x w' => x = .returned (ptrsV g) ∧ Below w.heap.size w w' := by
  unfold ptrsV
  go_enter Tryz.func61, Tryz.ntmps61
  go_wp2_with fail
  go_region
  go_wp2_with fail
  refine bodyPost_ret (v := .agg #[.pointer (some ⟨g, 0, none⟩), .pointer (some ⟨g, 1, none⟩), .pointer (some ⟨g, 2, none⟩), .pointer (some ⟨g, 3, none⟩), .pointer (some ⟨g, 4, none⟩)]) (by simp [results, Tryz.results61, go_sem]) rfl ⟨rfl, ((Below.refl _ _).alloc (Nat.le_refl _) _).drew⟩
/-- put: what Read tells of the text goes into its field. -/
def putV (k : Nat) (l : List UInt8) : Value := .tuple #[.int .i64 ((readL k l).2.1 : Int), .int .i64 (readL k l).2.2]
set_option maxRecDepth 100000 in
theorem put_any (g k : Nat) (l : List UInt8) (L : List (BitVec 64)) (w : World) (hL : Laid w) (hk : k < 5) (hl : l.length ≤ 256) (hC : CronAt w g L) :
    Calls Tryz.prog 80 #[.pointer (some ⟨g, 0, none⟩), .int .i64 (k : Int), strV l] w fun x w' => x = .returned (putV k l) ∧ CronAt w' g (L.set k (readL k l).1) ∧ Sole g w.heap.size w w' := by
  have HR := Lib.hid (fun W hW => read_l k l W hW hk (by unfold maxLen; omega))
  have HL := Lib.hid hL; have HC := Lib.hid hC
  clear hL hC hl
  unfold readV at HR
  unfold putV strV at *
  generalize readL k l = r at *
  obtain ⟨m, p, z⟩ := r
  simp only at HR ⊢
  go_enter Tryz.func80, Tryz.ntmps80
  go_wp2_with fail
  refine (HR.out _ HL.out).mono ?_
  rintro x w1 ⟨rfl, hb⟩
  have HB1 := Lib.hid hb; have HC1 := Lib.hid (HC.out.on hb)
  clear hb
  go_wp2_with fail
  refine (fields_any g w1).mono ?_
  rintro x w2 ⟨rfl, hb⟩
  have HB2 : Hid (Below w.heap.size w w2) := Lib.hid (HB1.out.trans (hb.mono HB1.out.size)); have HC2 := Lib.hid (HC1.out.on hb)
  clear hb
  have hix := fun W => index_ptrs g k hk W
  have hc := HC2.out.cell hk
  have hf := HC2.out.frozen k
  go_wp2_with fail
  go_ret2
  exact ⟨rfl, HC2.out.set k m, (Sole.of HB2.out).set _⟩
/-! which crons may be -/
def crB (L : List (BitVec 64)) : Bool := (List.range 5).all fun k => fieldB k (L.getD k 0#64)
theorem crB_five (a b c d e : BitVec 64) : crB [a, b, c, d, e] = fiveB a b c d e := by
  have hr : List.range 5 = [0, 1, 2, 3, 4] := by decide
  simp [crB, fiveB, hr]
theorem crB_yes {L : List (BitVec 64)} (h : ∀ k, k < 5 → fieldB k (L.getD k 0#64) = true) : crB L = true := by
  unfold crB
  rw [List.all_eq_true]
  exact fun k hk => h k (List.mem_range.1 hk)
theorem crB_no {L : List (BitVec 64)} {k : Nat} (hk : k < 5) (h : fieldB k (L.getD k 0#64) = false) : crB L = false := by
  cases hb : crB L with
  | false => rfl
  | true =>
    have := List.all_eq_true.1 hb k (List.mem_range.2 hk)
    rw [h] at this; cases this
theorem crB_at {L : List (BitVec 64)} (h : crB L = true) {k : Nat} (hk : k < 5) : fieldB k (L.getD k 0#64) = true := List.all_eq_true.1 h k (List.mem_range.2 hk)
def crE (L : List (BitVec 64)) : Int := if crB L then 0 else 170
set_option maxRecDepth 100000 in
set_option maxHeartbeats 1000000 in
theorem ccheck_any (L : List (BitVec 64)) (w : World) (hL : Laid w) (h5 : L.length = 5) :
    Calls Tryz.prog 39 #[cronV L] w fun x w' => x = .returned (.int .i64 (crE L)) ∧ Below w.heap.size w w' := by
  have HY : Hid ((∀ k, k < 5 → fieldB k (L.getD k 0#64) = true) → crE L = 0) := Lib.hid (fun h => by unfold crE; rw [if_pos (crB_yes h)])
  have HN : Hid (∀ k, k < 5 → fieldB k (L.getD k 0#64) = false → crE L = 170) := Lib.hid (fun k hk h => by unfold crE; rw [crB_no hk h]; rfl)
  have HL := Lib.hid hL
  clear hL
  obtain ⟨a, b, c, d, e, rfl⟩ := list_five h5
  rw [cronV_five]
  unfold fiveV
  generalize crE [a, b, c, d, e] = z at *
  go_enter Tryz.func39, Tryz.ntmps39
  go_wp2_with fail
  have HC0 := Lib.hid (CronAt.new w a b c d e)
  have HB0 : Hid (Below w.heap.size w (w.alloc (.cells #[.int .u64 (U a), .int .u64 (U b), .int .u64 (U c), .int .u64 (U d), .int .u64 (U e)] 31))) := Lib.hid ((Below.refl w.heap.size w).alloc (Nat.le_refl _) _)
  generalize [a, b, c, d, e] = L at *
  generalize w.alloc _ = w0 at *
  refine (fields_any w.heap.size w0).mono ?_
  rintro x w1 ⟨rfl, hb⟩
  have HB1 : Hid (Below w.heap.size w w1) := Lib.hid (HB0.out.trans (hb.mono HB0.out.size)); have HC1 := Lib.hid (HC0.out.on hb)
  clear hb HC0 HB0
  go_wp2_with fail
  go_loopw [3, 4, 6] (fun _ _ i wr => ∃ j : Nat, j ≤ 5 ∧ i = .int .i64 (j : Int) ∧ Below w.heap.size w wr ∧ CronAt wr w.heap.size L ∧ ∀ q : Nat, q < j → fieldB q (L.getD q 0#64) = true) (fun _ _ i _ => 5 - (intOf i).toNat)
  case atStart => exact ⟨0, by omega, rfl, HB1.out, HC1.out, fun q hq => by omega⟩
  case round =>
    obtain ⟨j, hj, rfl, hb, hc, hall⟩ := hrel
    have HB := Lib.hid hb; have HC := Lib.hid hc; have HA := Lib.hid hall
    clear hb hc hall
    by_cases hlt : j < 5
    · have hj5 : (j : Int) < 5 := by omega
      have hix := fun W => index_ptrs w.heap.size j hlt W
      have hcell := HC.out.cell hlt
      have HR := Lib.hid (fun W hW => check_yes j (L.getD j 0#64) W hW hlt)
      have HLr := Lib.hid (HL.out.on HB.out)
      have HN' := Lib.hid (HN.out j hlt)
      have HN2 : Hid (fieldB j (L.getD j 0#64) = true → ∀ q : Nat, q < j + 1 → fieldB q (L.getD q 0#64) = true) := Lib.hid (fun h q hq => by
        rcases Nat.lt_succ_iff_lt_or_eq.1 hq with h' | rfl
        · exact HA.out q h'
        · exact h)
      generalize L.getD j 0#64 = m at *
      generalize fieldB j m = y at *
      go_wp2_with fail
      refine (HR.out _ HLr.out).mono ?_
      rintro x w2 ⟨rfl, hb⟩
      have HB2 : Hid (Below w.heap.size w w2) := Lib.hid (HB.out.trans (hb.mono HB.out.size))
      have HC2 := Lib.hid (HC.out.on hb)
      clear hb
      cases y with
      | true =>
        go_wp2_with fail
        go_roundw
        case rel => exact ⟨j + 1, by omega, by go_num, HB2.out, HC2.out, HN2.out (by simp)⟩
        case measure => simp [intOf]; omega
      | false =>
        go_wp2_with fail
        go_ret
        exact ⟨by rw [HN'.out (by simp)]; rfl, HB2.out⟩
    · have hj5 : j = 5 := by omega
      subst hj5
      go_wp2_with fail
      go_ret
      exact ⟨by rw [HY.out HA.out]; rfl, HB.out⟩
end Go.Proofs.YtbaobjbckabnhaaGreatDoor
/- The macros of the program, in their variable: plain. -/
namespace Go.Proofs.YtbaobjbckabnhaaGreatDoor
open Go Go.Op

/-- A row's word, then its five texts; seven rows. -/
def macS : List (List UInt8) := [
  [64, 121, 101, 97, 114, 108, 121], [48], [48], [49], [49], [42],
  [64, 97, 110, 110, 117, 97, 108, 108, 121], [48], [48], [49], [49], [42],
  [64, 109, 111, 110, 116, 104, 108, 121], [48], [48], [49], [42], [42],
  [64, 119, 101, 101, 107, 108, 121], [48], [48], [42], [42], [48],
  [64, 100, 97, 105, 108, 121], [48], [48], [42], [42], [42],
  [64, 109, 105, 100, 110, 105, 103, 104, 116], [48], [48], [42], [42], [42],
  [64, 104, 111, 117, 114, 108, 121], [48], [42], [42], [42], [42]]
def macN (j : Nat) : List UInt8 := macS.getD (6 * j) []
def macT (j q : Nat) : List UInt8 := macS.getD (6 * j + 1 + q) []
def nilF : List (BitVec 64) := [0#64, 0#64, 0#64, 0#64, 0#64]
def putN (c : List (BitVec 64)) (j : Nat) : Nat → List (BitVec 64)
  | 0 => c
  | q + 1 => (putN c j q).set q (readL q (macT j q)).1
def macC (l : List UInt8) : Nat → List (BitVec 64)
  | 0 => nilF
  | j + 1 => if macN j = l then putN (macC l j) j 5 else macC l j
theorem putN_len {c : List (BitVec 64)} (j : Nat) (h : c.length = 5) : ∀ q, (putN c j q).length = 5
  | 0 => h
  | q + 1 => by rw [putN, List.length_set]; exact putN_len j h q
theorem macC_len (l : List UInt8) : ∀ j, (macC l j).length = 5
  | 0 => rfl
  | j + 1 => by
    rw [macC]
    split
    · exact putN_len j (macC_len l j) 5
    · exact macC_len l j
theorem macT_len : ∀ j, j < 7 → ∀ q, q < 5 → (macT j q).length ≤ 200 := by decide
theorem macC_is (l : List UInt8) : macC l 7 = (macroM l).getD nilF ∧ (macC l 7 != nilF) = (macroM l).isSome := by
  by_cases h0 : l = [64, 121, 101, 97, 114, 108, 121]
  · subst h0; decide +kernel
  by_cases h1 : l = [64, 97, 110, 110, 117, 97, 108, 108, 121]
  · subst h1; decide +kernel
  by_cases h2 : l = [64, 109, 111, 110, 116, 104, 108, 121]
  · subst h2; decide +kernel
  by_cases h3 : l = [64, 119, 101, 101, 107, 108, 121]
  · subst h3; decide +kernel
  by_cases h4 : l = [64, 100, 97, 105, 108, 121]
  · subst h4; decide +kernel
  by_cases h5 : l = [64, 109, 105, 100, 110, 105, 103, 104, 116]
  · subst h5; decide +kernel
  by_cases h6 : l = [64, 104, 111, 117, 114, 108, 121]
  · subst h6; decide +kernel
  have hm : macroL l = none := by
    unfold macroL
    rw [if_neg (by rintro (h | h); exact h0 h; exact h1 h), if_neg h2, if_neg h3, if_neg (by rintro (h | h); exact h4 h; exact h5 h), if_neg h6]
  have hM : macroM l = none := by unfold macroM; rw [hm]; rfl
  have hC : macC l 7 = nilF := by
    simp only [macC]
    rw [if_neg (fun e => h6 e.symm), if_neg (fun e => h5 e.symm), if_neg (fun e => h4 e.symm), if_neg (fun e => h3 e.symm), if_neg (fun e => h2 e.symm), if_neg (fun e => h1 e.symm), if_neg (fun e => h0 e.symm)]
  rw [hM, hC]
  exact ⟨rfl, by decide⟩
end Go.Proofs.YtbaobjbckabnhaaGreatDoor
/- Macro: walked, of the program. -/
namespace Go.Proofs.YtbaobjbckabnhaaGreatDoor
open Go.RowKit

def macV : List Value := macS.map strV
/-- What the variables hold. -/
structure LaidC (w : World) : Prop where
  fld : Laid w
  days : D.Laid w
  mac : w.rangeAt 1 0 macV
  lt : 1 < w.heap.size
theorem LaidC.on {w w' : World} (h : LaidC w) (hb : Below w.heap.size w w') : LaidC w' :=
  ⟨h.fld.on hb, h.days.on hb, fun j v hj => (hb.cell (p := ⟨1, 0 + j, none⟩) h.lt).trans (h.mac j v hj), Nat.lt_of_lt_of_le h.lt hb.size⟩
theorem index_mac (j : Nat) (hj : j < 7) (w : World) : (Instr.index 183 (.agg macV.toArray) (.int .i64 (j : Int))).run Tryz.prog w = .ok (.agg #[strV (macN j), strV (macT j 0), strV (macT j 1), strV (macT j 2), strV (macT j 3), strV (macT j 4)]) w := by
  rcases (show j = 0 ∨ j = 1 ∨ j = 2 ∨ j = 3 ∨ j = 4 ∨ j = 5 ∨ j = 6 by omega) with rfl | rfl | rfl | rfl | rfl | rfl | rfl <;>
  simp [Instr.index, asIntOf, Sem.run_bind, run_underlying Tryz.underlying183, Tryz.sizeOf182, Tryz.isAgg182, Go.part, Result.andThen, macV, macS, macN, macT]
theorem index_str (t : Nat → List UInt8) (q : Nat) (hq : q < 5) (w : World) : (Instr.index 180 (.agg #[strV (t 0), strV (t 1), strV (t 2), strV (t 3), strV (t 4)]) (.int .i64 (q : Int))).run Tryz.prog w = .ok (strV (t q)) w := by
  rcases five hq with rfl | rfl | rfl | rfl | rfl <;>
  simp [Instr.index, asIntOf, Sem.run_bind, run_underlying Tryz.underlying180, Tryz.sizeOf9, Tryz.isAgg9, Go.part, Result.andThen]
theorem info_macs : (Tryz.prog.info? 183).map (·.size) = some macV.length := by kernel_rfl
theorem CronAt.block {w w' : World} {g h : Nat} {L : List (BitVec 64)} (hc : CronAt w g L) (hs : Sole h w.heap.size w w') (hn : g ≠ h) : CronAt w' g L := ⟨hc.1, (hs.block g hc.lt hn).trans hc.2⟩
theorem CronAt.zero (w : World) : CronAt (w.alloc (.cells #[.int .u64 0, .int .u64 0, .int .u64 0, .int .u64 0, .int .u64 0] 31)) w.heap.size nilF := CronAt.new w 0#64 0#64 0#64 0#64 0#64
theorem five_case (a b c d e : BitVec 64) :
    ((([a, b, c, d, e] : List (BitVec 64)) != nilF) = false ∧ U a = 0 ∧ U b = 0 ∧ U c = 0 ∧ U d = 0 ∧ U e = 0) ∨
    ((([a, b, c, d, e] : List (BitVec 64)) != nilF) = true ∧ (¬ U a = 0 ∨ U a = 0 ∧ (¬ U b = 0 ∨ U b = 0 ∧ (¬ U c = 0 ∨ U c = 0 ∧ (¬ U d = 0 ∨ U d = 0 ∧ ¬ U e = 0))))) := by
  have hu : ∀ x : BitVec 64, U x = 0 ↔ x = 0#64 := fun x => by rw [← U_zero]; exact U_inj
  simp only [hu, nilF, bne_eq_false_iff_eq, bne_iff_ne, ne_eq, List.cons.injEq, and_true]
  by_cases h0 : a = 0#64 <;> by_cases h1 : b = 0#64 <;> by_cases h2 : c = 0#64 <;> by_cases h3 : d = 0#64 <;> by_cases h4 : e = 0#64 <;> simp [h0, h1, h2, h3, h4]
def macroV (l : List UInt8) : Value := .tuple #[cronV ((macroM l).getD nilF), .bool (macroM l).isSome]
set_option maxRecDepth 100000 in
set_option maxHeartbeats 2000000 in
theorem macro_any (l : List UInt8) (w : World) (hL : LaidC w) :
    Calls Tryz.prog 79 #[strV l] w fun x w' => x = .returned (macroV l) ∧ Below w.heap.size w w' := by
  have HI := Lib.hid (fun (j : Nat) hj W => index_mac j hj W)
  have HL := Lib.hid hL
  have hv : macroV l = .tuple #[cronV (macC l 7), .bool (macC l 7 != nilF)] := by
    obtain ⟨h1, h2⟩ := macC_is l
    rw [h2, h1]; rfl
  rw [hv]
  clear hL hv
  unfold strV at *
  go_enter Tryz.func79, Tryz.ntmps79
  have HM := Lib.hid (fun W (h : Below w.heap.size w W) => (HL.out.on h).mac)
  have HI2 := Lib.hid info_macs
  generalize macV = mv at *
  go_wp2_with (refine wpList_load_mid rfl 183 _ rfl 1 0 rfl mv _ (HM.out _ (((Below.refl _ w).alloc (Nat.le_refl _) _).alloc (by simp) _)) Tryz.underlying183 rfl HI2.out ?_)
  have HC0 : Hid (CronAt ((w.alloc (.cells #[.int .u64 0, .int .u64 0, .int .u64 0, .int .u64 0, .int .u64 0] 31)).alloc (.cells #[.int .u64 0, .int .u64 0, .int .u64 0, .int .u64 0, .int .u64 0] 31)) w.heap.size nilF) := Lib.hid ((CronAt.zero w).alloc _)
  have HC1 : Hid (CronAt ((w.alloc (.cells #[.int .u64 0, .int .u64 0, .int .u64 0, .int .u64 0, .int .u64 0] 31)).alloc (.cells #[.int .u64 0, .int .u64 0, .int .u64 0, .int .u64 0, .int .u64 0] 31)) (w.heap.size + 1) nilF) := Lib.hid (by have := CronAt.zero (w.alloc (.cells #[.int .u64 0, .int .u64 0, .int .u64 0, .int .u64 0, .int .u64 0] 31)); rwa [World.size_alloc] at this)
  have HB1 : Hid (Below w.heap.size w ((w.alloc (.cells #[.int .u64 0, .int .u64 0, .int .u64 0, .int .u64 0, .int .u64 0] 31)).alloc (.cells #[.int .u64 0, .int .u64 0, .int .u64 0, .int .u64 0, .int .u64 0] 31))) := Lib.hid (((Below.refl _ w).alloc (Nat.le_refl _) _).alloc (by simp) _)
  generalize (w.alloc _).alloc _ = w1 at *
  clear HM HI2
  go_loopw [6, 7, 8, 10] (fun _ _ _ i wr => ∃ j : Nat, j ≤ 7 ∧ i = .int .i64 (j : Int) ∧ Below w.heap.size w wr ∧ CronAt wr w.heap.size nilF ∧ CronAt wr (w.heap.size + 1) (macC l j)) (fun _ _ _ i _ => 7 - (intOf i).toNat)
  case atStart => exact ⟨0, by omega, rfl, HB1.out, HC0.out, HC1.out⟩
  case round =>
    clear HC0 HC1 HB1
    obtain ⟨j, hj, rfl, hb, hc0, hc1⟩ := hrel
    have HB := Lib.hid hb; have HC0 := Lib.hid hc0; have HC1 := Lib.hid hc1
    clear hb hc0 hc1
    by_cases hlt : j < 7
    · have hj7 : (j : Int) < 7 := by omega
      have hix := fun W => HI.out j hlt W
      have HT := Lib.hid (fun q hq => macT_len j hlt q hq)
      have HS := Lib.hid (fun q (hq : q < 5) W => index_str (fun q => macT j q) q hq W)
      have hcm : macC l (j + 1) = if macN j = l then putN (macC l j) j 5 else macC l j := rfl
      have HCM := Lib.hid hcm
      unfold strV at HS
      clear hcm HI
      by_cases he : macN j = l
      · have HE := Lib.hid (HCM.out.trans (if_pos he))
        generalize macN j = nm at *
        subst he
        go_wp2_with fail
        have HB2 : Hid (Below w.heap.size w (wr.alloc (.cells #[.string ⟨nm.toArray⟩, .string ⟨(macT j 0).toArray⟩, .string ⟨(macT j 1).toArray⟩, .string ⟨(macT j 2).toArray⟩, .string ⟨(macT j 3).toArray⟩, .string ⟨(macT j 4).toArray⟩] 182))) := Lib.hid (HB.out.alloc HB.out.size _)
        have HC2 : Hid (CronAt (wr.alloc (.cells #[.string ⟨nm.toArray⟩, .string ⟨(macT j 0).toArray⟩, .string ⟨(macT j 1).toArray⟩, .string ⟨(macT j 2).toArray⟩, .string ⟨(macT j 3).toArray⟩, .string ⟨(macT j 4).toArray⟩] 182)) w.heap.size nilF) := Lib.hid (HC0.out.alloc _)
        have HC3 : Hid (CronAt (wr.alloc (.cells #[.string ⟨nm.toArray⟩, .string ⟨(macT j 0).toArray⟩, .string ⟨(macT j 1).toArray⟩, .string ⟨(macT j 2).toArray⟩, .string ⟨(macT j 3).toArray⟩, .string ⟨(macT j 4).toArray⟩] 182)) (w.heap.size + 1) (putN (macC nm j) j 0)) := Lib.hid (HC1.out.alloc _)
        generalize wr.alloc _ = w2 at *
        generalize macC nm j = cj at *
        clear HB HC0 HC1 hix
        go_loopw [7, 8, 19] (fun _ _ i wr2 => ∃ q : Nat, q ≤ 5 ∧ i = .int .i64 (q : Int) ∧ Below w.heap.size w wr2 ∧ CronAt wr2 w.heap.size nilF ∧ CronAt wr2 (w.heap.size + 1) (putN cj j q)) (fun _ _ i _ => 5 - (intOf i).toNat)
        case atStart => exact ⟨0, by omega, rfl, HB2.out, HC2.out, HC3.out⟩
        case round =>
          clear HB2 HC2 HC3
          obtain ⟨q, hq, rfl, hb, hc0, hc1⟩ := hrel
          have HB := Lib.hid hb; have HC0 := Lib.hid hc0; have HC1 := Lib.hid hc1
          clear hb hc0 hc1
          by_cases hlq : q < 5
          · have hq5 : (q : Int) < 5 := by omega
            have hix := fun W => HS.out q hlq W
            have hpn : Hid (putN cj j (q + 1) = (putN cj j q).set q (readL q (macT j q)).1) := Lib.hid rfl
            have HU := Lib.hid (fun W hW hC => put_any (w.heap.size + 1) q (macT j q) (putN cj j q) W hW hlq (by have := HT.out q hlq; omega) hC)
            unfold putV strV at HU
            generalize macT j q = tx at *
            generalize putN cj j q = cq at *
            go_wp2_with fail
            refine (HU.out _ (HL.out.fld.on HB.out) HC1.out).mono ?_
            rintro x w3 ⟨rfl, hc, hs⟩
            have HB3 := Lib.hid (HB.out.trans (hs.below (by omega) HB.out.size))
            have HC3 := Lib.hid (CronAt.block HC0.out hs (by omega))
            have HC4 := Lib.hid hc
            clear hs hc
            go_wp2_with fail
            go_roundw
            case rel => exact ⟨q + 1, by omega, by go_num, HB3.out, HC3.out, by rw [hpn.out]; exact HC4.out⟩
            case measure => simp [intOf]; omega
          · have hq5 : q = 5 := by omega
            subst hq5
            go_wp2_with fail
            go_roundw
            case rel => exact ⟨j + 1, by omega, by go_num, HB.out, HC0.out, by rw [HE.out]; exact HC1.out⟩
            case measure => simp [intOf]; omega
      · have HE := Lib.hid (HCM.out.trans (if_neg he))
        have he' : (macN j == l) = false := by simpa using he
        generalize macN j = nm at *
        go_wp2_with fail
        go_roundw
        case rel => exact ⟨j + 1, by omega, by go_num, HB.out.alloc HB.out.size _, HC0.out.alloc _, by rw [HE.out]; exact HC1.out.alloc _⟩
        case measure => simp [intOf]; omega
    · have hj7 : j = 7 := by omega
      subst hj7
      have hl5 := macC_len l 7
      generalize hL7 : macC l 7 = L at *
      obtain ⟨a, b, c, d, e, rfl⟩ := list_five hl5
      have HQ : Hid (Ending.returned (.tuple #[.agg #[.int .u64 (U a), .int .u64 (U b), .int .u64 (U c), .int .u64 (U d), .int .u64 (U e)], .bool (([a, b, c, d, e] : List (BitVec 64)) != nilF)]) = .returned (.tuple #[cronV (macC l 7), .bool (macC l 7 != nilF)])) := Lib.hid (by rw [hL7]; rfl)
      clear hL7
      obtain ⟨z0, z1, z2, z3, z4⟩ := HC0.out.five
      have f0 := HC0.out.frozen 0; have f1 := HC0.out.frozen 1; have f2 := HC0.out.frozen 2; have f3 := HC0.out.frozen 3; have f4 := HC0.out.frozen 4
      obtain ⟨c0, c1, c2, c3, c4⟩ := HC1.out.five
      have hcase := five_case a b c d e
      generalize hz : (([a, b, c, d, e] : List (BitVec 64)) != nilF) = z at *
      clear hz
      rcases hcase with ⟨rfl, u0, u1, u2, u3, u4⟩ | ⟨rfl, hcase⟩
      · have h0 := Lib.hid u0; have h1 := Lib.hid u1; have h2 := Lib.hid u2; have h3 := Lib.hid u3; have h4 := Lib.hid u4
        go_wp2_with fail
        go_region
        go_wp2_with fail
        refine bodyPost_ret (v := .tuple #[.agg #[.int .u64 (U a), .int .u64 (U b), .int .u64 (U c), .int .u64 (U d), .int .u64 (U e)], .bool false]) (by rw [h0.out, h1.out, h2.out, h3.out, h4.out]; simp [results, Tryz.results79, go_sem, z0, z1, z2, z3, z4]) rfl ⟨HQ.out, ?_⟩
        exact (below_five HB.out (Nat.le_refl _) _ _ _ _ _).drew
      · rcases hcase with u0 | ⟨u0, u1 | ⟨u1, u2 | ⟨u2, u3 | ⟨u3, u4⟩⟩⟩⟩
        · go_wp2_with fail
          go_region
          go_wp2_with fail
          refine bodyPost_ret (v := .tuple #[.agg #[.int .u64 (U a), .int .u64 (U b), .int .u64 (U c), .int .u64 (U d), .int .u64 (U e)], .bool true]) (by simp [results, Tryz.results79, go_sem, z0, z1, z2, z3, z4]) rfl ⟨HQ.out, ?_⟩
          exact (below_five HB.out (Nat.le_refl _) _ _ _ _ _).drew
        · have h0 := Lib.hid u0
          go_wp2_with fail
          go_region
          go_wp2_with fail
          refine bodyPost_ret (v := .tuple #[.agg #[.int .u64 (U a), .int .u64 (U b), .int .u64 (U c), .int .u64 (U d), .int .u64 (U e)], .bool true]) (by rw [h0.out]; simp [results, Tryz.results79, go_sem, z0, z1, z2, z3, z4]) rfl ⟨HQ.out, ?_⟩
          exact (below_five HB.out (Nat.le_refl _) _ _ _ _ _).drew
        · have h0 := Lib.hid u0; have h1 := Lib.hid u1
          go_wp2_with fail
          go_region
          go_wp2_with fail
          refine bodyPost_ret (v := .tuple #[.agg #[.int .u64 (U a), .int .u64 (U b), .int .u64 (U c), .int .u64 (U d), .int .u64 (U e)], .bool true]) (by rw [h0.out, h1.out]; simp [results, Tryz.results79, go_sem, z0, z1, z2, z3, z4]) rfl ⟨HQ.out, ?_⟩
          exact (below_five HB.out (Nat.le_refl _) _ _ _ _ _).drew
        · have h0 := Lib.hid u0; have h1 := Lib.hid u1; have h2 := Lib.hid u2
          go_wp2_with fail
          go_region
          go_wp2_with fail
          refine bodyPost_ret (v := .tuple #[.agg #[.int .u64 (U a), .int .u64 (U b), .int .u64 (U c), .int .u64 (U d), .int .u64 (U e)], .bool true]) (by rw [h0.out, h1.out, h2.out]; simp [results, Tryz.results79, go_sem, z0, z1, z2, z3, z4]) rfl ⟨HQ.out, ?_⟩
          exact (below_five HB.out (Nat.le_refl _) _ _ _ _ _).drew
        · have h0 := Lib.hid u0; have h1 := Lib.hid u1; have h2 := Lib.hid u2; have h3 := Lib.hid u3
          go_wp2_with fail
          go_region
          go_wp2_with fail
          refine bodyPost_ret (v := .tuple #[.agg #[.int .u64 (U a), .int .u64 (U b), .int .u64 (U c), .int .u64 (U d), .int .u64 (U e)], .bool true]) (by rw [h0.out, h1.out, h2.out, h3.out]; simp [results, Tryz.results79, go_sem, z0, z1, z2, z3, z4]) rfl ⟨HQ.out, ?_⟩
          exact (below_five HB.out (Nat.le_refl _) _ _ _ _ _).drew
end Go.Proofs.YtbaobjbckabnhaaGreatDoor
/- From a walk to the row: what every law of this seat shares. -/
namespace Go.Proofs.YtbaobjbckabnhaaGreatDoor
open Go.ChangeShapes Go.WideShapes Go.ChangeAt Go.WideMaps Go.WideElems Go.RowKit

namespace D
theorem gLen : Tryz.prog.globalNamed "curfew/days.lengths" = some 3 := by kernel_rfl
theorem tLen : (Tryz.prog.globals[3]?).map (·.type) = some 189 := by kernel_rfl
theorem gEra : Tryz.prog.globalNamed "curfew/days.eras" = some 2 := by kernel_rfl
theorem tEra : (Tryz.prog.globals[2]?).map (·.type) = some 198 := by kernel_rfl
theorem cEra : Tryz.prog.cellsOf 169 = 3 := by kernel_rfl
def lenN : List Int := [31, 28, 31, 30, 31, 30, 31, 31, 30, 31, 30, 31]
def eraN : List (Int × Int × Int) := [(400, 146097, 20), (100, 36524, 3), (4, 1461, 24), (1, 365, 3)]
theorem len_data : (Rows.laid_curfew_days_lengths : DataW Unit) = .agg (lenN.map fun n => .lit (.int .i64 n)) := by rfl
theorem era_data : (Rows.laid_curfew_days_eras : DataW Unit) = .agg (eraN.map fun n => .agg [.lit (.int .i64 n.1), .lit (.int .i64 n.2.1), .lit (.int .i64 n.2.2)]) := by rfl
theorem len_cells {W : World} {fuel : Nat} {cs : List Value} {q : List MemPlace} (h : DataW.trod (fun _ => ()) Tryz.prog W 0 (fun _ => true) false fuel 189 cs = some (.agg (lenN.map fun n => .lit (.int .i64 n)), q)) (j : Nat) (hj : j < 12) : cs[j]? = some (.int .i64 (lenC j)) := by
  obtain ⟨xs, m1, rfl, hx1, hlen, hn3, hel⟩ := DataW.trod_array Tryz.underlying189 h
  simp only [Prod.mk.injEq, DataW.agg.injEq] at hx1
  have hx := hx1.1
  have h0 := hel j hj
  rw [cInt, Nat.mul_one] at h0
  have hjx : j < xs.length := by omega
  rw [List.getElem?_eq_getElem hjx] at h0
  obtain ⟨k, e1, e2, _⟩ := DataW.trod_int Tryz.underlying3 h0
  have hq : (lenN.map fun n => (DataW.lit (.int .i64 n) : DataW Unit))[j]? = some (.lit (.int .i64 k)) := by
    rw [hx, List.getElem?_map, List.getElem?_eq_getElem hjx, e2]; rfl
  rw [List.getElem?_map] at hq
  have hl : lenN[j]? = some (lenC j) := by
    unfold lenC lenN
    rw [List.getD_eq_getElem?_getD, List.getElem?_eq_getElem (by simpa using hj)]; rfl
  rw [hl] at hq
  simp only [Option.map_some, Option.some.injEq, DataW.lit.injEq, Lit.int.injEq, true_and] at hq
  rw [← hq] at e1
  exact at_drop (k := 0) (Or.inl e1)
set_option maxRecDepth 100000 in
theorem era_cells {W : World} {fuel : Nat} {cs : List Value} {q : List MemPlace} (h : DataW.trod (fun _ => ()) Tryz.prog W 0 (fun _ => true) false fuel 198 cs = some (.agg (eraN.map fun n => .agg [.lit (.int .i64 n.1), .lit (.int .i64 n.2.1), .lit (.int .i64 n.2.2)]), q)) (j : Nat) (hj : j < 4) : cs[3 * j]? = some (.int .i64 (eraC (3 * j))) ∧ cs[3 * j + 1]? = some (.int .i64 (eraC (3 * j + 1))) ∧ cs[3 * j + 2]? = some (.int .i64 (eraC (3 * j + 2))) := by
  obtain ⟨xs, m1, rfl, hx1, hlen, hn3, hel⟩ := DataW.trod_array Tryz.underlying198 h
  simp only [Prod.mk.injEq, DataW.agg.injEq] at hx1
  have hx := hx1.1
  have h0 := hel j hj
  rw [cEra] at h0
  have hjx : j < xs.length := by omega
  rw [List.getElem?_eq_getElem hjx] at h0
  obtain ⟨ys, m2, rfl, hy1, hylen, hy3, hyel⟩ := DataW.trod_struct Tryz.underlying169 h0
  have hq : (eraN.map fun n => (DataW.agg [.lit (.int .i64 n.1), .lit (.int .i64 n.2.1), .lit (.int .i64 n.2.2)] : DataW Unit))[j]? = some (.agg (ys.map (·.1))) := by
    rw [hx, List.getElem?_map, List.getElem?_eq_getElem hjx, hy1]; rfl
  have hl : (eraN.map fun n => (DataW.agg [.lit (.int .i64 n.1), .lit (.int .i64 n.2.1), .lit (.int .i64 n.2.2)] : DataW Unit))[j]? = some (.agg [.lit (.int .i64 (eraC (3 * j))), .lit (.int .i64 (eraC (3 * j + 1))), .lit (.int .i64 (eraC (3 * j + 2)))]) := by
    rcases four_k hj with rfl | rfl | rfl | rfl <;> rfl
  rw [hl] at hq
  simp only [Option.some.injEq, DataW.agg.injEq] at hq
  have hlen3 : ys.length = 3 := by have := congrArg List.length hq; simpa using this.symm
  have hf : ∀ i, i < 3 → ∀ f : Field, f.type = 3 → f.offset = i → DataW.trod (fun _ => ()) Tryz.prog W 0 (fun _ => true) false m2 f.type ((((cs.drop (j * 3)).take 3).drop f.offset).take (Tryz.prog.cellsOf f.type)) = ys[i]? → ∃ z, cs[3 * j + i]? = some (.int .i64 z) ∧ (ys.map (·.1))[i]? = some (.lit (.int .i64 z)) := by
    intro i hi f ht ho h
    rw [ht, ho, cInt] at h
    have hiy : i < ys.length := by omega
    rw [List.getElem?_eq_getElem hiy] at h
    obtain ⟨z, e1, e2, _⟩ := DataW.trod_int Tryz.underlying3 h
    refine ⟨z, ?_, by rw [List.getElem?_map, List.getElem?_eq_getElem hiy, e2]; rfl⟩
    have h1 := at_drop (k := 0) (Or.inl e1)
    rw [List.getElem?_take, if_pos hi, List.getElem?_drop] at h1
    rw [← h1]
    congr 1
    omega
  obtain ⟨z0, p0, q0⟩ := hf 0 (by omega) _ rfl rfl (hyel 0 _ rfl)
  obtain ⟨z1, p1, q1⟩ := hf 1 (by omega) _ rfl rfl (hyel 1 _ rfl)
  obtain ⟨z2, p2, q2⟩ := hf 2 (by omega) _ rfl rfl (hyel 2 _ rfl)
  rw [← hq] at q0 q1 q2
  simp only [List.getElem?_cons_zero, List.getElem?_cons_succ, Option.some.injEq, DataW.lit.injEq, Lit.int.injEq, true_and] at q0 q1 q2
  exact ⟨by rw [q0]; exact p0, by rw [q1]; exact p1, by rw [q2]; exact p2⟩
end D
/-! the macros -/
theorem gMac : Tryz.prog.globalNamed "curfew/cron.macros" = some 1 := by kernel_rfl
theorem tMac : (Tryz.prog.globals[1]?).map (·.type) = some 183 := by kernel_rfl
theorem cMac : Tryz.prog.cellsOf 182 = 6 := by kernel_rfl
theorem cFive : Tryz.prog.cellsOf 180 = 5 := by kernel_rfl
theorem mac_data : (Rows.laid_curfew_cron_macros : DataW Unit) = .agg ((List.range 7).map fun j => .agg [.lit (.string (macN j)), .agg ((List.range 5).map fun q => .lit (.string (macT j q)))]) := by rfl
set_option maxRecDepth 100000 in
theorem mac_cells {W : World} {fuel : Nat} {cs : List Value} {q : List MemPlace} (h : DataW.trod (fun _ => ()) Tryz.prog W 0 (fun _ => true) false fuel 183 cs = some (.agg ((List.range 7).map fun j => .agg [.lit (.string (macN j)), .agg ((List.range 5).map fun q => .lit (.string (macT j q)))]), q)) (j : Nat) (hj : j < 7) :
    cs[j * 6]? = some (strV (macN j)) ∧ ∀ r, r < 5 → cs[j * 6 + 1 + r]? = some (strV (macT j r)) := by
  obtain ⟨xs, m1, rfl, hx1, hlen, hn3, hel⟩ := DataW.trod_array Tryz.underlying183 h
  simp only [Prod.mk.injEq, DataW.agg.injEq] at hx1
  have hx := hx1.1
  have h0 := hel j hj
  rw [cMac] at h0
  have hjx : j < xs.length := by omega
  rw [List.getElem?_eq_getElem hjx] at h0
  obtain ⟨ys, m2, rfl, hy1, hylen, hy3, hyel⟩ := DataW.trod_struct Tryz.underlying182 h0
  have hq : ((List.range 7).map fun j => (DataW.agg [.lit (.string (macN j)), .agg ((List.range 5).map fun q => .lit (.string (macT j q)))] : DataW Unit))[j]? = some (.agg (ys.map (·.1))) := by
    rw [hx, List.getElem?_map, List.getElem?_eq_getElem hjx, hy1]; rfl
  rw [List.getElem?_map, List.getElem?_range hj] at hq
  simp only [Option.map_some, Option.some.injEq, DataW.agg.injEq] at hq
  have hlen2 : ys.length = 2 := by have := congrArg List.length hq; simpa using this.symm
  have e0 : DataW.trod (fun _ => ()) Tryz.prog W 0 (fun _ => true) false m2 9 ((((cs.drop (j * 6)).take 6).drop 0).take (Tryz.prog.cellsOf 9)) = ys[0]? := hyel 0 _ rfl
  have e1 : DataW.trod (fun _ => ()) Tryz.prog W 0 (fun _ => true) false m2 180 ((((cs.drop (j * 6)).take 6).drop 1).take (Tryz.prog.cellsOf 180)) = ys[1]? := hyel 1 _ rfl
  rw [List.getElem?_eq_getElem (by omega)] at e0 e1
  have q0 : ys[0].1 = .lit (.string (macN j)) := by
    have := congrArg (fun l => l[0]?) hq
    simp only [List.getElem?_cons_zero, List.getElem?_map] at this
    rw [List.getElem?_eq_getElem (by omega)] at this
    exact (Option.some.inj this).symm
  have q1 : ys[1].1 = .agg ((List.range 5).map fun q => .lit (.string (macT j q))) := by
    have := congrArg (fun l => l[1]?) hq
    simp only [List.getElem?_cons_succ, List.getElem?_cons_zero, List.getElem?_map] at this
    rw [List.getElem?_eq_getElem (by omega)] at this
    exact (Option.some.inj this).symm
  refine ⟨?_, ?_⟩
  · rw [cStr] at e0
    obtain ⟨s, e3, e4, _⟩ := DataW.trod_string Tryz.underlying9 e0
    have hs : s.data.toList = macN j := by
      have e5 := q0.symm.trans (congrArg Prod.fst e4)
      simpa using e5.symm
    have h1 := at_drop (k := 0) (Or.inl e3)
    rw [List.getElem?_take, if_pos (by omega), List.getElem?_drop] at h1
    rw [← hs, ← strV_data]
    simpa using h1
  · intro r hr
    rw [cFive] at e1
    obtain ⟨zs, m3, rfl, hz1, hzlen, hz3, hzel⟩ := DataW.trod_array Tryz.underlying180 e1
    have hz : ((List.range 5).map fun q => (DataW.lit (.string (macT j q)) : DataW Unit)) = zs.map (·.1) := by
      have := q1.symm.trans (congrArg Prod.fst hz1)
      simpa using this
    have e2 := hzel r hr
    rw [cStr, Nat.mul_one] at e2
    have hrz : r < zs.length := by omega
    rw [List.getElem?_eq_getElem hrz] at e2
    obtain ⟨s, e3, e4, _⟩ := DataW.trod_string Tryz.underlying9 e2
    have hs : s.data.toList = macT j r := by
      have := congrArg (fun l => l[r]?) hz
      simp only [List.getElem?_map, List.getElem?_range hr, Option.map_some] at this
      rw [List.getElem?_eq_getElem hrz] at this
      simp only [Option.map_some, Option.some.injEq] at this
      have e5 := this.trans (congrArg Prod.fst e4)
      simpa using e5.symm
    have h1 := at_drop (k := 0) (Or.inl e3)
    rw [List.getElem?_take, if_pos (by omega), List.getElem?_drop, List.getElem?_take, if_pos (by omega), List.getElem?_drop] at h1
    have he : j * 6 + 1 + r = j * 6 + (1 + r) := by omega
    rw [← hs, ← strV_data, he]
    exact h1
def laidG : List (String × DataW Unit) := [("curfew/days.lengths", Rows.laid_curfew_days_lengths), ("curfew/days.eras", Rows.laid_curfew_days_eras), ("math/bits.deBruijn32tab", Rows.laid_math_bits_deBruijn32tab), ("math/bits.deBruijn64tab", Rows.laid_math_bits_deBruijn64tab), ("internal/strconv.uint64pow10", Rows.laid_internal_strconv_uint64pow10), ("unicode/utf8.acceptRanges", Rows.laid_unicode_utf8_acceptRanges), ("curfew/field.ends", Rows.laid_curfew_field_ends), ("curfew/field.names", Rows.laid_curfew_field_names), ("curfew/cron.macros", Rows.laid_curfew_cron_macros), ("unicode/utf8.first", Rows.laid_unicode_utf8_first)]
theorem macS_at (i : Nat) : macV[i]? = (macS[i]?).map strV := by unfold macV; rw [List.getElem?_map]
theorem len42 : macS.length = 42 := rfl
/-- What the condition gives the walks. -/
theorem laidC_of {W : World} (h : laidMetH Tryz.prog laidG W) (hsh : W.ShapedOpen Tryz.prog) : LaidC W := by
  rw [MakeChecks.laidMetH_plain _ _ _ (by kernel_rfl)] at h
  obtain ⟨ps, ⟨ga, ta, csa, fa, pa, qa, hga, hta, hva, hda, ⟨gb, tb, csb, fb, pb, qb, hgb, htb, hvb, hdb, ⟨g1, t1, cs1, f1, p1, q1, hg1, ht1, hv1, hd1, ⟨g2, t2, cs2, f2, p2, q2, hg2, ht2, hv2, hd2, ⟨g3, t3, cs3, f3, p3, q3, hg3, ht3, hv3, hd3, ⟨g4, t4, cs4, f4, p4, q4, hg4, ht4, hv4, hd4, ⟨g5, t5, cs5, f5, p5, q5, hg5, ht5, hv5, hd5, ⟨g6, t6, cs6, f6, p6, q6, hg6, ht6, hv6, hd6, ⟨g7, t7, cs7, f7, p7, q7, hg7, ht7, hv7, hd7, _, _⟩, _⟩, _⟩, _⟩, _⟩, _⟩, _⟩, _⟩, _⟩, _, _⟩ := h
  obtain rfl := Option.some.inj (D.gLen.symm.trans hga)
  obtain rfl := Option.some.inj (D.tLen.symm.trans hta)
  obtain rfl := Option.some.inj (D.gEra.symm.trans hgb)
  obtain rfl := Option.some.inj (D.tEra.symm.trans htb)
  obtain rfl := Option.some.inj (gTab.symm.trans hg2)
  obtain rfl := Option.some.inj (tTab.symm.trans ht2)
  obtain rfl := Option.some.inj (gEnds.symm.trans hg5)
  obtain rfl := Option.some.inj (tEnds.symm.trans ht5)
  obtain rfl := Option.some.inj (gNames.symm.trans hg6)
  obtain rfl := Option.some.inj (tNames.symm.trans ht6)
  obtain rfl := Option.some.inj (gMac.symm.trans hg7)
  obtain rfl := Option.some.inj (tMac.symm.trans ht7)
  rw [D.len_data] at hda
  rw [D.era_data] at hdb
  rw [tab_data] at hd2
  rw [ends_data] at hd5
  rw [names_data] at hd6
  rw [mac_data] at hd7
  have hlt : ∀ g : Nat, g ∈ [3, 2, 0, 4, 6, 1] → g < W.heap.size := by
    intro g hg
    simp only [List.mem_cons, List.mem_nil_iff, or_false] at hg
    rcases hg with rfl | rfl | rfl | rfl | rfl | rfl
    · exact lt_of_var hga hva
    · exact lt_of_var hgb hvb
    · exact lt_of_var hg5 hv5
    · exact lt_of_var hg6 hv6
    · exact lt_of_var hg2 hv2
    · exact lt_of_var hg7 hv7
  have hmax : ∃ m : Int, W.cell? ⟨5, 0, none⟩ = some (.int .i64 m) :=
    cell_of_shapedOpen_int (P := Tryz.prog) (g := 5) (t := 3) (zero := #[.int .i64 0]) hsh (of_decide_eq_true (by kernel_rfl)) (by kernel_rfl) rfl (by kernel_rfl) (by kernel_rfl) Tryz.underlying3
  have hmlt : 5 < W.heap.size := by obtain ⟨m, hm⟩ := hmax; exact lt_of_cell hm
  refine ⟨⟨fun j hj => ?_, fun k hk => ?_, fun k hk => ?_, fun k hk => ?_, hmax, ?_⟩, ⟨fun j hj => ?_, fun j hj => ?_, ?_⟩, fun i v hi => ?_, hlt _ (by simp)⟩
  · rw [tab_len] at hj
    rw [World.var?_cell hg2 hv2 j, ← Array.getElem?_toList]
    exact tab_cells hd2 j hj
  · rw [World.var?_cell hg5 hv5 (k * 2), ← Array.getElem?_toList]
    exact (ends_cells hd5 k hk).1
  · rw [World.var?_cell hg5 hv5 (k * 2 + 1), ← Array.getElem?_toList]
    exact (ends_cells hd5 k hk).2
  · obtain ⟨A, n, c, hc, ha⟩ := names_cells hd6 k hk
    exact ⟨A, n, c, by rw [World.var?_cell hg6 hv6 k, ← Array.getElem?_toList]; exact hc, ha⟩
  · have h1 := hlt 0 (by simp); have h2 := hlt 4 (by simp); have h3 := hlt 6 (by simp)
    omega
  · rw [World.var?_cell hga hva j, ← Array.getElem?_toList]
    exact D.len_cells hda j hj
  · rw [World.var?_cell hgb hvb j, ← Array.getElem?_toList]
    have hc := D.era_cells hdb (j / 3) (by omega)
    rcases (show j % 3 = 0 ∨ j % 3 = 1 ∨ j % 3 = 2 by omega) with h | h | h
    · have := hc.1; rwa [show 3 * (j / 3) = j by omega] at this
    · have := hc.2.1; rwa [show 3 * (j / 3) + 1 = j by omega] at this
    · have := hc.2.2; rwa [show 3 * (j / 3) + 2 = j by omega] at this
  · have h1 := hlt 3 (by simp); have h2 := hlt 2 (by simp)
    omega
  · rw [Nat.zero_add, World.var?_cell hg7 hv7 i, ← Array.getElem?_toList]
    rw [macS_at] at hi
    have hi42 : i < 42 := by
      rcases Nat.lt_or_ge i 42 with h | h
      · exact h
      · rw [List.getElem?_eq_none (by rw [len42]; exact h)] at hi; cases hi
    obtain ⟨m1, m2⟩ := mac_cells hd7 (i / 6) (by omega)
    rw [List.getElem?_eq_getElem (by rw [len42]; exact hi42)] at hi
    have hv : v = strV (macS.getD i []) := by
      rw [List.getD_eq_getElem?_getD, List.getElem?_eq_getElem (by rw [len42]; exact hi42)]
      exact (Option.some.inj hi).symm
    rw [hv]
    by_cases hr : i % 6 = 0
    · rw [show i / 6 * 6 = i by omega] at m1
      unfold macN at m1
      rwa [show 6 * (i / 6) = i by omega] at m1
    · have := m2 (i % 6 - 1) (by omega)
      rw [show i / 6 * 6 + 1 + (i % 6 - 1) = i by omega] at this
      unfold macT at this
      rwa [show 6 * (i / 6) + 1 + (i % 6 - 1) = i by omega] at this
end Go.Proofs.YtbaobjbckabnhaaGreatDoor
/- Contracts of the library at this program, out of the shelf. -/
namespace Go.Proofs.YtbaobjbckabnhaaGreatDoor
open Go.Shelf
def lays138_ren : Go.Shelf.Ren := ⟨fun | 138 => 138 | 195 => 152 | 218 => 154 | 143 => 139 | 219 => 155 | 217 => 170 | 225 => 171 | 224 => 172 | 267 => 173 | 266 => 183 | 314 => 184 | n => n, fun | 9 => 9 | 3 => 3 | 4 => 4 | 5 => 5 | 0 => 0 | 46 => 172 | 146 => 234 | 51 => 24 | n => n, fun | 1 => 5 | n => n⟩
theorem lays138 : Go.Proofs.Lays.n138 Tryz.prog lays138_ren := {
  mixed := by kernel_rfl
  f138 := Tryz.func138.trans (congrArg some (by kernel_rfl))
  f143 := Tryz.func139.trans (congrArg some (by kernel_rfl))
  f195 := Tryz.func152.trans (congrArg some (by kernel_rfl))
  f217 := Tryz.func170.trans (congrArg some (by kernel_rfl))
  f218 := Tryz.func154.trans (congrArg some (by kernel_rfl))
  f219 := Tryz.func155.trans (congrArg some (by kernel_rfl))
  f224 := Tryz.func172.trans (congrArg some (by kernel_rfl))
  f225 := Tryz.func171.trans (congrArg some (by kernel_rfl))
  f266 := Tryz.func183.trans (congrArg some (by kernel_rfl))
  f267 := Tryz.func173.trans (congrArg some (by kernel_rfl))
  f314 := Tryz.func184.trans (congrArg some (by kernel_rfl))
  t0 := Tryz.underlying0
  a0 := Tryz.isAgg0
  z0 := Tryz.sizeOf0
  v0 := Tryz.zeroValue0
  t3 := Tryz.underlying3
  a3 := Tryz.isAgg3
  z3 := Tryz.sizeOf3
  v3 := Tryz.zeroValue3
  t4 := Tryz.underlying4
  a4 := Tryz.isAgg4
  z4 := Tryz.sizeOf4
  v4 := Tryz.zeroValue4
  t5 := Tryz.underlying5
  a5 := Tryz.isAgg5
  z5 := Tryz.sizeOf5
  v5 := Tryz.zeroValue5
  t9 := Tryz.underlying9
  a9 := Tryz.isAgg9
  z9 := Tryz.sizeOf9
  v9 := Tryz.zeroValue9
  t46 := Tryz.underlying172
  a46 := Tryz.isAgg172
  z46 := Tryz.sizeOf172
  v46 := Tryz.zeroValue172
  t51 := Tryz.underlying24
  a51 := Tryz.isAgg24
  z51 := Tryz.sizeOf24
  v51 := Tryz.zeroValue24
  t146 := Tryz.underlying234
  a146 := Tryz.isAgg234
  z146 := Tryz.sizeOf234
  v146 := Tryz.zeroValue234
  g1 := by kernel_rfl }
def lays99_ren : Go.Shelf.Ren := ⟨fun | 99 => 78 | 206 => 118 | n => n, fun | 9 => 9 | 4 => 4 | 3 => 3 | n => n, fun | n => n⟩
theorem lays99 : Go.Proofs.Lays.n99 Tryz.prog lays99_ren := {
  mixed := by kernel_rfl
  f99 := Tryz.func78.trans (congrArg some (by kernel_rfl))
  f206 := Tryz.func118.trans (congrArg some (by kernel_rfl))
  t3 := Tryz.underlying3
  a3 := Tryz.isAgg3
  z3 := Tryz.sizeOf3
  v3 := Tryz.zeroValue3
  t4 := Tryz.underlying4
  a4 := Tryz.isAgg4
  z4 := Tryz.sizeOf4
  v4 := Tryz.zeroValue4
  t9 := Tryz.underlying9
  a9 := Tryz.isAgg9
  z9 := Tryz.sizeOf9
  v9 := Tryz.zeroValue9 }
open Go.RowKit Go.Lib in
/-- strings.HasPrefix: "HasPrefix reports whether the string s begins with prefix.": IT RETURNS 'Lib.hasPrefix s prefix'; the world is as it was. (LAID: no walk: one application.) -/
theorem strings_HasPrefix (s p : ByteArray) (w : World) :
    Calls Tryz.prog 78 #[.string s, .string p] w fun e w' => e = .returned (.bool (Lib.hasPrefix s.data.toList p.data.toList)) ∧ w' = w := Any.strings_HasPrefix lays99 s p w
open Go.RowKit Go.Lib in
/-- strings.Count at whatever sep that is not empty: the two roads under one statement. (LAID: no walk: one application.) -/
theorem strings_Count_any (s sep : ByteArray) (m : Int) (w : World) (hs : s.size < 4294967281) (hm : w.cell? ⟨5, 0, none⟩ = some (.int .i64 m)) (h1 : 1 ≤ sep.size) :
    Calls Tryz.prog 138 #[.string s, .string sep] w fun e w' => e = .returned (.int .i64 (Lib.countB s sep)) ∧ w' = w := Any.strings_Count_any lays138 s sep m w hs hm h1
end Go.Proofs.YtbaobjbckabnhaaGreatDoor
/- fill: walked, of the program. -/
namespace Go.Proofs.YtbaobjbckabnhaaGreatDoor
open Go.RowKit

theorem prefix_at (l : List UInt8) : Lib.hasPrefix l [64] = decide (l.head? = some 64) := by
  unfold Lib.hasPrefix
  cases l with
  | nil => rfl
  | cons b l =>
    rw [List.isPrefixOf_cons_cons]
    by_cases h : b = 64
    · simp [h]
    · simp [h, Ne.symm h]
def fillV (L : List (BitVec 64)) (f : Nat) (l : List UInt8) : Value := .tuple #[.int .i64 ((fillC L f l).2.1 : Nat), .int .i64 ((fillC L f l).2.2 : Nat)]
set_option maxRecDepth 100000 in
set_option maxHeartbeats 2000000 in
theorem fill_any (g f : Nat) (l : List UInt8) (L : List (BitVec 64)) (w : World) (hL : LaidC w) (hf : f ≤ 5) (hl : l.length ≤ 256) (hC : CronAt w g L) :
    Calls Tryz.prog 46 #[.pointer (some ⟨g, 0, none⟩), .int .i64 (f : Int), strV l] w fun x w' => x = .returned (fillV L f l) ∧ CronAt w' g (fillC L f l).1 ∧ Sole g w.heap.size w w' := by
  have HL := Lib.hid hL; have HC := Lib.hid hC
  clear hL hC
  unfold fillV
  by_cases h5 : f = 5
  · subst h5
    have hq : fillC L 5 l = (L, 0, 0) := by unfold fillC; rw [if_pos rfl]
    rw [hq]
    unfold strV
    go_enter Tryz.func46, Tryz.ntmps46
    go_wp2_with fail
    go_ret2
    exact ⟨rfl, HC.out, Sole.of (Below.refl _ _)⟩
  have hf5 : ((f : Int) == 5) = false := by simp; omega
  by_cases h0 : f = 0
  · subst h0
    have HP := Lib.hid (fun W => strings_HasPrefix ⟨l.toArray⟩ ⟨#[64]⟩ W)
    rw [show (⟨l.toArray⟩ : ByteArray).data.toList = l by simp, show (⟨#[64]⟩ : ByteArray).data.toList = [64] by rfl, prefix_at] at HP
    by_cases h64 : l.head? = some 64
    · have HM := Lib.hid (fun W hW => macro_any l W hW)
      rw [decide_eq_true h64] at HP
      unfold macroV at HM
      cases hm : macroM l with
      | none =>
        have hq : fillC L 0 l = (L, 0, 0) := by unfold fillC; rw [if_neg (by omega), if_pos ⟨rfl, h64⟩, hm]
        rw [hm] at HM
        rw [hq]
        clear h64 hm hq
        unfold strV at *
        go_enter Tryz.func46, Tryz.ntmps46
        go_wp2_with fail
        refine (HP.out _).mono ?_
        rintro x w1 ⟨rfl, rfl⟩
        go_wp2_with fail
        refine (HM.out _ HL.out).mono ?_
        rintro x w1 ⟨rfl, hb⟩
        unfold cronV nilF
        simp only [Option.getD_none, Option.isSome_none, List.map_cons, List.map_nil]
        unfold menc
        go_wp2_with fail
        go_ret2
        exact ⟨rfl, (HC.out.on hb).alloc _, Sole.of (hb.alloc hb.size _)⟩
      | some m =>
        have hq : fillC L 0 l = (m, 5, 0) := by unfold fillC; rw [if_neg (by omega), if_pos ⟨rfl, h64⟩, hm]
        have hm5 : m.length = 5 := by
          have := fillC_len (l := L) (f := 0) (w := l) HC.out.1
          rw [hq] at this; exact this
        rw [hm] at HM
        rw [hq]
        obtain ⟨a, b, c, d, e, rfl⟩ := list_five hm5
        obtain ⟨a0, b0, c0, d0, e0, rfl⟩ := list_five HC.out.1
        clear h64 hm hq hm5
        unfold strV at *
        go_enter Tryz.func46, Tryz.ntmps46
        go_wp2_with fail
        refine (HP.out _).mono ?_
        rintro x w1 ⟨rfl, rfl⟩
        go_wp2_with fail
        refine (HM.out _ HL.out).mono ?_
        rintro x w1 ⟨rfl, hb⟩
        unfold cronV
        simp only [Option.getD_some, Option.isSome_some, List.map_cons, List.map_nil]
        unfold menc
        have HX := Lib.hid ((HC.out.on hb).alloc (.cells #[.int .u64 (U a), .int .u64 (U b), .int .u64 (U c), .int .u64 (U d), .int .u64 (U e)] 31))
        have HS := Lib.hid (Sole.of (g := g) (hb.alloc hb.size (.cells #[.int .u64 (U a), .int .u64 (U b), .int .u64 (U c), .int .u64 (U d), .int .u64 (U e)] 31)))
        obtain ⟨c0, c1, c2, c3, c4⟩ := HX.out.five
        have f0 := HX.out.frozen 0; have f1 := HX.out.frozen 1; have f2 := HX.out.frozen 2; have f3 := HX.out.frozen 3; have f4 := HX.out.frozen 4
        go_wp2_with fail
        go_ret2
        exact ⟨rfl, HX.out.set5 a b c d e, ((((HS.out.set _).set _).set _).set _).set _⟩
    · rw [decide_eq_false h64] at HP
      have hq : fillC L 0 l = if (readL 0 l).2.2 = 0 then (L.set 0 (readL 0 l).1, 1, 0) else (L.set 0 (readL 0 l).1, 0, (readL 0 l).2.1) := by
        unfold fillC; rw [if_neg (by omega), if_neg (fun h => h64 h.2)]
      have HU := Lib.hid (fun W hW hC => put_any g 0 l L W hW (by omega) hl hC)
      clear h64 hf5
      rw [hq]
      clear hq
      unfold putV at HU
      generalize readL 0 l = r at *
      obtain ⟨m, p, z⟩ := r
      simp only at HU ⊢
      unfold strV at *
      simp only [show ((0 : Nat) : Int) = 0 from rfl] at *
      by_cases hz : z = 0
      · subst hz
        rw [if_pos rfl]
        go_enter Tryz.func46, Tryz.ntmps46
        go_wp2_with fail
        refine (HP.out _).mono ?_
        rintro x w1 ⟨rfl, rfl⟩
        go_wp2_with fail
        refine (HU.out _ HL.out.fld HC.out).mono ?_
        rintro x w1 ⟨rfl, hc, hs⟩
        go_wp2_with fail
        go_ret2
        exact ⟨rfl, hc, hs⟩
      · rw [if_neg hz]
        have hz' : (z == 0) = false := by simpa using hz
        go_enter Tryz.func46, Tryz.ntmps46
        go_wp2_with fail
        refine (HP.out _).mono ?_
        rintro x w1 ⟨rfl, rfl⟩
        go_wp2_with fail
        refine (HU.out _ HL.out.fld HC.out).mono ?_
        rintro x w1 ⟨rfl, hc, hs⟩
        go_wp2_with fail
        go_ret2
        exact ⟨rfl, hc, hs⟩
  · have hf0 : ((f : Int) == 0) = false := by simp; omega
    have hq : fillC L f l = if (readL f l).2.2 = 0 then (L.set f (readL f l).1, 1, 0) else (L.set f (readL f l).1, 0, (readL f l).2.1) := by
      unfold fillC; rw [if_neg h5, if_neg (fun h => h0 h.1)]
    have HU := Lib.hid (fun W hW hC => put_any g f l L W hW (by omega) hl hC)
    rw [hq]
    clear hq
    unfold putV at HU
    generalize readL f l = r at *
    obtain ⟨m, p, z⟩ := r
    simp only at HU ⊢
    unfold strV at *
    by_cases hz : z = 0
    · subst hz
      rw [if_pos rfl]
      go_enter Tryz.func46, Tryz.ntmps46
      go_wp2_with fail
      refine (HU.out _ HL.out.fld HC.out).mono ?_
      rintro x w1 ⟨rfl, hc, hs⟩
      go_wp2_with fail
      go_ret2
      exact ⟨rfl, hc, hs⟩
    · rw [if_neg hz]
      have hz' : (z == 0) = false := by simpa using hz
      go_enter Tryz.func46, Tryz.ntmps46
      go_wp2_with fail
      refine (HU.out _ HL.out.fld HC.out).mono ?_
      rintro x w1 ⟨rfl, hc, hs⟩
      go_wp2_with fail
      go_ret2
      exact ⟨rfl, hc, hs⟩
end Go.Proofs.YtbaobjbckabnhaaGreatDoor
/- strings.Split at blanks; what a text's words are told by: the iterator, walked. -/
namespace Go.Proofs.YtbaobjbckabnhaaGreatDoor
open Go.RowKit Go.Shelf

attribute [local go_sem] Oper.semAt_some

theorem split_sp (l : List UInt8) (w : World) (hL : Laid w) (hl : l.length ≤ 256) :
    Calls Tryz.prog 77 #[strV l, .string ⟨#[32]⟩] w fun e w' => ∃ c, e = .returned (.slice (some ⟨w.heap.size, 0, none⟩) (splitW 32 l).length c) ∧ w' = w.alloc (.cells ((splitW 32 l).map strV).toArray 9) := by
  obtain ⟨m, hm⟩ := hL.maxLen
  have hs : (⟨l.toArray⟩ : ByteArray).size < 4294967281 := by show l.toArray.size < _; simp; omega
  refine (strings_Split ⟨l.toArray⟩ ⟨#[32]⟩ m w hs hm (by decide)).mono ?_
  rintro e w' ⟨rfl, rfl⟩
  have hc : Lib.countB ⟨l.toArray⟩ ⟨#[32]⟩ = Lib.count l [32] := by unfold Lib.countB; simp
  have hd := Lib.splitB_data ⟨#[32]⟩ 0 (Lib.countB ⟨l.toArray⟩ ⟨#[32]⟩) ⟨l.toArray⟩
  rw [hc, show (⟨#[32]⟩ : ByteArray).data.toList = [32] by rfl, show (⟨l.toArray⟩ : ByteArray).data.toList = l by simp, splitK_w 32 _ _ rfl] at hd
  have hm2 : ((Lib.splitB ⟨#[32]⟩ 0 (Lib.countB ⟨l.toArray⟩ ⟨#[32]⟩) ⟨l.toArray⟩).map Value.string) = (splitW 32 l).map strV := by
    rw [← hd, hc, List.map_map]
    apply List.map_congr_left
    intro x _
    exact strV_data x
  have hl := Lib.splitB_all ⟨#[32]⟩ (by decide) 0 (Lib.countB ⟨l.toArray⟩ ⟨#[32]⟩) ⟨l.toArray⟩ rfl
  have hn : (splitW 32 l).length = Lib.countB ⟨l.toArray⟩ ⟨#[32]⟩ + 1 := by rw [← hl, ← hd, List.length_map, hc]
  rw [hm2, hn]
  exact ⟨_, rfl, rfl⟩
/-- A word of a short text, and its place. -/
abbrev WordT := { x : Nat × List UInt8 // x.1 + x.2.length ≤ 256 }
/-- What a round keeps: what lay below a, and the cells from b on. -/
def KeepC (a b : Nat) (W W' : World) : Prop := Below a W W' ∧ ∀ k o, b ≤ k → W.heap[k]? = some o → o.isCells = true → W'.heap[k]? = some o
theorem keepC_t {a b : Nat} {A B C : World} (h : KeepC a b A B) (k : KeepC a b B C) : KeepC a b A C := ⟨h.1.trans k.1, fun i o hi hA ho => k.2 i o hi (h.2 i o hi hA ho) ho⟩
theorem keepC_b {a b : Nat} {w : World} (hn : a ≤ w.heap.size) (W : World) (l : Nat) (o o' : Obj) (hl : w.heap.size ≤ l) (h : W.heap[l]? = some o) (hc : o.isCells = false) (hw : o.isWalk = false) : KeepC a b W (W.putObj l o') :=
  ⟨belowK_b hn W l o o' hl h hc hw, fun k x _ hx hxc => by
    have hne : k ≠ l := by
      rintro rfl
      rw [h] at hx; cases hx
      rw [hc] at hxc; cases hxc
    exact (by simp [World.putObj, Ne.symm hne] : (W.putObj l o').heap[k]? = W.heap[k]?).trans hx⟩
theorem wordsP_len : ∀ (ps : List (List UInt8)) (a : Nat), (wordsP ps a).length ≤ ps.length
  | [], _ => Nat.le_refl _
  | p :: ps, a => by
    have h1 := wordsP_len ps (a + 1)
    have h2 := wordsP_len ps (a + p.length + 1)
    rw [wordsP]
    split
    · simp; omega
    · simp; omega
theorem keepC_box {a b g : Nat} {W W' : World} {t : TypeId} {cs : Array Value} (h : D.Box W g t cs) (hk : KeepC a b W W') (hg : b ≤ g) : D.Box W' g t cs := hk.2 g _ hg h rfl
set_option maxRecDepth 100000 in
set_option maxHeartbeats 2000000 in
theorem words1_in (n : Nat) (hn : 1 ≤ n) (l B n₀ n₁ : Nat) (s : List UInt8) (hs : s.length ≤ 256) (J Jx : List WordT → World → Prop)
    (hY : ∀ pre (x : WordT) W, J pre W → pre.length < 300 → YieldAt Fence.wide (n - 1) Tryz.prog l #[.int .i64 ((x.1.1 : Nat) : Int), .string ⟨x.1.2.toArray⟩] W fun e W' =>
      (e = .returned (.bool true) ∧ J (pre ++ [x]) W' ∧ KeepC n₀ n₁ W W') ∨ (e = .returned (.bool false) ∧ Jx (pre ++ [x]) W'))
    (W : World) (hn1 : n₁ ≤ W.heap.size) (hJ : AbidesFrom W.heap.size J) (hB : W.cell? ⟨B, 0, none⟩ = some (strV s)) (hL : Laid W) (h0 : J [] W) :
    CallsIn Fence.wide n Tryz.prog 76 #[.func (.yield l) #[] #[], .pointer (some ⟨B, 0, none⟩)] W fun e W' => (∃ v, e = .returned v) ∧
      ((∃ ys, ys.map (fun y : WordT => y.1) = wordsL s ∧ J ys W') ∨ (∃ pre, pre.map (fun y : WordT => y.1) <+: wordsL s ∧ Jx pre W')) := by
  rw [words_pieces]
  have HS := Lib.hid (split_sp s W hL hs)
  have HN : Hid (∀ k p, (splitW 32 s)[k]? = some p → atP (splitW 32 s) k + p.length ≤ 256) := Lib.hid (fun k p h => by have := split_at 32 h; omega)
  have HF := Lib.hid (fun k => wordsP_front (splitW 32 s) k)
  have HX := Lib.hid (fun (k : Nat) p (h : (splitW 32 s)[k]? = some p) => wordsP_next h)
  have HA := Lib.hid (fun (k : Nat) p (h : (splitW 32 s)[k]? = some p) => atP_succ h)
  have hlen : (splitW 32 s).length ≤ 257 := by
    have := splitW_sum 32 s
    have h2 : ∀ ps : List (List UInt8), ps.length ≤ (ps.map fun p => p.length + 1).sum := by
      intro ps
      induction ps with
      | nil => simp
      | cons p ps ih => simp; omega
    have := h2 (splitW 32 s)
    omega
  unfold strV at HS hB
  generalize splitW 32 s = ps at *
  refine callsIn_of_wp Tryz.func76 rfl trivial ?_ rfl
  simp only [Tryz.ntmps76, List.size_toArray, List.length_cons, List.length_nil, Nat.reduceAdd, Nat.reduceSub, Array.replicate_succ, Array.replicate_zero, List.push_toArray, List.append_toArray, List.nil_append, List.cons_append]
  gi_wp2_with fail
  refine ⟨trivial, (callsIn_wide.2 HS.out).mono ?_⟩
  rintro e w1 ⟨c, rfl, rfl⟩
  have hJ1 : J [] (W.alloc (.cells (ps.map fun l => .string ⟨l.toArray⟩).toArray 9)) := hJ [] _ _ none h0 (World.grownBy_alloc W _ none) (fun r e => by cases e)
  have hX1 : D.Box (W.alloc (.cells (ps.map fun l => .string ⟨l.toArray⟩).toArray 9)) W.heap.size 9 (ps.map fun l => .string ⟨l.toArray⟩).toArray := D.Box.new _ _ _
  have hn0 : ps.length ≤ maxLen := by unfold maxLen; omega
  generalize W.alloc _ = w1 at *
  have H1 := Lib.hid hJ1; have H2 := Lib.hid hX1
  clear hJ1 hX1 HS hB
  gi_wp2_with fail
  gi_loopw [3, 5, 9] (fun a _ i wr => ∃ (k : Nat) (pre : List WordT), k ≤ ps.length ∧ i = .int .i64 (k : Int) ∧ a = .int .i64 (atP ps k : Nat) ∧ pre.map (fun y : WordT => y.1) = wordsP (ps.take k) 0 ∧ J pre wr ∧ D.Box wr W.heap.size 9 (ps.map fun l => .string ⟨l.toArray⟩).toArray) (fun _ _ i _ => ps.length - (intOf i).toNat)
  case atStart => exact ⟨0, [], Nat.zero_le _, rfl, rfl, rfl, H1.out, H2.out⟩
  case round =>
    clear H1 H2
    obtain ⟨k, pre, hk, rfl, rfl, hpre, hj, hx⟩ := hrel
    by_cases hlt : k < ps.length
    · obtain ⟨p, hp⟩ : ∃ p, ps[k]? = some p := ⟨_, List.getElem?_eq_getElem hlt⟩
      have hcell : wr.cell? ⟨W.heap.size, k, none⟩ = some (.string ⟨p.toArray⟩) := by
        rw [D.Box.cell hx, List.getElem?_toArray, List.getElem?_map, hp]; rfl
      have hb1 := HN.out k p hp
      have HA' := Lib.hid (HA.out k p hp)
      have HX' := Lib.hid (HX.out k p hp)
      have HJ := Lib.hid hj; have HB := Lib.hid hx; have HP := Lib.hid hpre
      have hpl : pre.length < 300 := by
        have h1 := congrArg List.length hpre
        have h2 := wordsP_len (ps.take k) 0
        rw [List.length_take] at h2
        rw [List.length_map] at h1
        omega
      generalize atP ps k = q at *
      clear hj hx hpre HA HX HN
      by_cases he : p = []
      · subst he
        have he1 : (⟨([] : List UInt8).toArray⟩ : ByteArray) = ByteArray.empty := rfl
        simp only [List.length_nil] at HA' hb1
        gi_wp2_with fail
        refine ⟨fun _ h => (by cases h), ?_⟩
        gi_wp2_with fail
        go_roundw
        case rel => exact ⟨k + 1, pre, by omega, by go_num, by rw [HA'.out]; go_num, by rw [HX'.out, HP.out]; simp, HJ.out, HB.out⟩
        case measure => simp [intOf]; omega
      · have he2 : (!p.isEmpty) = true := by
          cases p with
          | nil => exact absurd rfl he
          | cons b p => rfl
        have hxp := Lib.hid (HX'.out.trans (by rw [if_neg he]))
        clear HX'
        obtain ⟨fn, tmps, assign, body, hy, hR⟩ := hY pre ⟨(q, p), hb1⟩ wr HJ.out hpl
        dsimp only at hy hR
        gi_wp2_with fail
        refine hR.mono ?_
        rintro e W3 (⟨rfl, hJ3, hk3⟩ | ⟨rfl, hJx3⟩)
        · have HX3 := Lib.hid (keepC_box HB.out hk3 hn1)
          have H3 := Lib.hid hJ3
          clear hJ3 hk3
          gi_wp2_with fail
          go_roundw
          case rel => exact ⟨k + 1, pre ++ [⟨(q, p), hb1⟩], by omega, by go_num, by rw [HA'.out]; go_num, by rw [hxp.out, List.map_append, HP.out]; rfl, H3.out, HX3.out⟩
          case measure => simp [intOf]; omega
        · gi_wp2_with fail
          refine bodyPost_ret (results_none rfl _ _ _) rfl ?_
          refine ⟨⟨_, rfl⟩, .inr ⟨pre ++ [⟨(q, p), hb1⟩], ?_, hJx3⟩⟩
          have h1 : (pre ++ [(⟨(q, p), hb1⟩ : WordT)]).map (fun y : WordT => y.1) = wordsP (ps.take (k + 1)) 0 := by rw [hxp.out, List.map_append, HP.out]; rfl
          rw [h1]
          exact HF.out (k + 1)
    · have hk2 : k = ps.length := by omega
      have hP : pre.map (fun y : WordT => y.1) = wordsP ps 0 := by rw [hpre, hk2, List.take_length]
      have HP := Lib.hid hP; have HJ := Lib.hid hj
      clear hP hpre hj hx HN HF HX HA
      gi_wp2_with fail
      go_end0
      exact ⟨⟨_, rfl⟩, .inl ⟨pre, HP.out, HJ.out⟩⟩
set_option maxHeartbeats 1000000 in
theorem words_in7 (n : Nat) (s : List UInt8) (w : World) :
    CallsIn Fence.wide n Tryz.prog 45 #[strV s] w fun e w' => e = .returned (.func (.func 76) #[] #[.pointer (some ⟨w.heap.size, 0, none⟩)]) ∧ w' = w.alloc (.cells #[strV s] 9) := by
  unfold strV
  refine callsIn_of_wp Tryz.func45 rfl trivial ?_ rfl
  simp only [Tryz.ntmps45, List.size_toArray, List.length_cons, List.length_nil, Nat.reduceAdd, Nat.reduceSub, Array.replicate_succ, Array.replicate_zero, List.push_toArray, List.append_toArray, List.nil_append, List.cons_append]
  gi_wp2
  go_ret
  exact ⟨rfl, rfl⟩
/-- It tells just the words, whatever the loop's body does between n₀ and n₁. -/
theorem words_stops (n : Nat) (hn : 1 ≤ n) (B n₀ : Nat) (s : List UInt8) (hs : s.length ≤ 256) (w : World) (hBl : B < w.heap.size) (hB : w.cell? ⟨B, 0, none⟩ = some (strV s)) (hL : Laid w) :
    SeqStopsK Fence.wide n Tryz.prog 76 #[.pointer (some ⟨B, 0, none⟩)] (fun x : WordT => #[.int .i64 ((x.1.1 : Nat) : Int), .string ⟨x.1.2.toArray⟩]) (KeepC n₀ w.heap.size) (fun ys => ys.map (fun y : WordT => y.1) = wordsL s) (fun pre => pre.map (fun y : WordT => y.1) <+: wordsL s) 300 w :=
  fun l J Jx W hW hJ _ hY h0 => words1_in n hn l B n₀ w.heap.size s hs J Jx hY W hW.size hJ ((hW.cell (p := ⟨B, 0, none⟩) hBl).trans hB) (hL.on hW) h0
end Go.Proofs.YtbaobjbckabnhaaGreatDoor
/- Read: walked, of the program. -/
namespace Go.Proofs.YtbaobjbckabnhaaGreatDoor
open Go.RowKit Go.Shelf

attribute [local go_sem] Oper.semAt_some

theorem box_kept {W W' : World} {g : Nat} {t : TypeId} {cs : Array Value} {row : Option Nat} (h : D.Box W g t cs) (hg : W.grownBy W' row) (hr : ∀ r, row = some r → ∃ o : Obj, W.heap[r]? = some o ∧ o.isCells = false) : D.Box W' g t cs :=
  (hg.block g (D.Box.lt h) (fun e => by
    obtain ⟨o, ho, hc⟩ := hr g e.symm
    have h' : W.heap[g]? = some (.cells cs t (0, 0)) := h
    rw [h'] at ho; cases ho; cases hc)).trans h
theorem CronAt.kept {W W' : World} {g : Nat} {L : List (BitVec 64)} {row : Option Nat} (h : CronAt W g L) (hg : W.grownBy W' row) (hr : ∀ r, row = some r → ∃ o : Obj, W.heap[r]? = some o ∧ o.isCells = false) : CronAt W' g L := ⟨h.1, box_kept h.2 hg hr⟩
theorem Sole.others {W W' : World} {g : Nat} {t : TypeId} {cs : Array Value} (h : Sole g W.heap.size W W') (hb : D.Box W g t cs) : KeepsOthers W W' :=
  ⟨h.size, fun k o hk ho => (h.block k (Array.getElem?_eq_some_iff.1 hk).1 (by
    rintro rfl
    have h' : W.heap[k]? = some (.cells cs t (0, 0)) := hb
    rw [h'] at hk; cases hk; cases ho)).trans hk⟩
theorem Sole.keep {W W' : World} {g a b : Nat} (h : Sole g W.heap.size W W') (ha : a ≤ g) (hs : a ≤ W.heap.size) (hb : g < b) : KeepC a b W W' :=
  ⟨h.below ha hs, fun k o hk ho _ => (h.block k (Array.getElem?_eq_some_iff.1 ho).1 (by omega)).trans ho⟩
theorem keepC_set {W : World} {a b p : Nat} (ha : a ≤ p) (hb : p < b) (u : Value) : KeepC a b W (W.setCell ⟨p, 0, none⟩ u) :=
  ⟨(Below.refl a W).setCell ha u, fun k o hk ho _ => (Below.heap_setCell W ⟨p, 0, none⟩ u k (by show k ≠ p; omega)).trans ho⟩
abbrev set5V (W : World) (g : Nat) (a b c d e : Value) : World := ((((W.setCell ⟨g, 0, none⟩ a).setCell ⟨g, 1, none⟩ b).setCell ⟨g, 2, none⟩ c).setCell ⟨g, 3, none⟩ d).setCell ⟨g, 4, none⟩ e
theorem keeps5 (W : World) (g : Nat) (a b c d e : Value) : KeepsOthers W (set5V W g a b c d e) :=
  (((((KeepsOthers.setCell _ _ _).trans (KeepsOthers.setCell _ _ _)).trans (KeepsOthers.setCell _ _ _)).trans (KeepsOthers.setCell _ _ _)).trans (KeepsOthers.setCell _ _ _))
theorem set5_zero {W : World} {g : Nat} (h : CronAt W g nilF) : CronAt (set5V W g (.int .u64 0) (.int .u64 0) (.int .u64 0) (.int .u64 0) (.int .u64 0)) g nilF := by
  have := h.set5 0#64 0#64 0#64 0#64 0#64
  rw [U_zero] at this
  exact this
theorem CronAt.drew {W : World} {g : Nat} {L : List (BitVec 64)} (h : CronAt W g L) : CronAt W.drew g L := h
theorem drew_heap {W : World} {D : Nat} {v : Option Obj} (h : W.heap[D]? = v) : W.drew.heap[D]? = v := h
theorem def_set5 {W : World} {D g : Nat} {a b c d e : Value} (h : W.heap[D]? = some (.deferred (some []))) : (set5V W g a b c d e).heap[D]? = some (.deferred (some [])) := (keeps5 W g a b c d e).same D _ h rfl
def creadV (s : List UInt8) : Value := match readC s with
  | (some l, _) => .tuple #[cronV l, .int .i64 0, .int .i64 0]
  | (none, p) => .tuple #[cronV nilF, .int .i64 (p : Nat), .int .i64 170]
theorem creadV_some {s : List UInt8} {l : List (BitVec 64)} {p : Nat} (h : readC s = (some l, p)) : creadV s = .tuple #[cronV l, .int .i64 0, .int .i64 0] := by unfold creadV; rw [h]
theorem creadV_none {s : List UInt8} {p : Nat} (h : readC s = (none, p)) : creadV s = .tuple #[cronV nilF, .int .i64 (p : Nat), .int .i64 170] := by unfold creadV; rw [h]
set_option maxRecDepth 100000 in
set_option maxHeartbeats 4000000 in
theorem cread_in (n : Nat) (hn : 3 ≤ n) (s : List UInt8) (w : World) (hL : LaidC w) (hs : s.length ≤ 256) :
    CallsIn Fence.wide n Tryz.prog 28 #[strV s] w fun e W' => e = .returned (creadV s) ∧ Below w.heap.size w W' := by
  have h1 : 1 ≤ n := by omega
  have HL := Lib.hid hL
  clear hL
  have hrun := Lib.hid (runC_read s)
  unfold strV
  have hsz : (⟨s.toArray⟩ : ByteArray).size = s.length := by show s.toArray.size = _; simp
  refine callsIn_of_wp_marks Tryz.func28 rfl trivial ?_ rfl
  simp only [Tryz.ntmps28, List.size_toArray, List.length_cons, List.length_nil, Nat.reduceAdd, Nat.reduceSub, Array.replicate_succ, Array.replicate_zero, List.push_toArray, List.append_toArray, List.nil_append, List.cons_append]
  gi_wp2_with fail
  refine scopeIn ?_
  gi_wp2_with fail
  refine labelIn ?_
  gi_wp2_with fail
  have hF : ∃ W0 : World, W0 = ((((w.alloc (.cells #[.int .u64 0, .int .u64 0, .int .u64 0, .int .u64 0, .int .u64 0] 31)).alloc (.cells #[.int .u64 0, .int .u64 0, .int .u64 0, .int .u64 0, .int .u64 0] 31)).alloc (.cells #[.int .i64 0] 3)).alloc (.cells #[.int .i64 (s.length : Int)] 3)) ∧ W0.heap.size = w.heap.size + 1 + 1 + 1 + 1 ∧ Below w.heap.size w W0 ∧ CronAt W0 w.heap.size nilF ∧ CronAt W0 (w.heap.size + 1) nilF ∧ D.Box W0 (w.heap.size + 1 + 1) 3 #[.int .i64 0] ∧ D.Box W0 (w.heap.size + 1 + 1 + 1) 3 #[.int .i64 (s.length : Int)] := by
    refine ⟨_, rfl, by simp, ((((Below.refl _ w).alloc (Nat.le_refl _) _).alloc (by simp) _).alloc (by simp; omega) _).alloc (by simp; omega) _, (((CronAt.zero w).alloc _).alloc _).alloc _, ?_, ?_, ?_⟩
    · have := ((CronAt.zero (w.alloc (.cells #[.int .u64 0, .int .u64 0, .int .u64 0, .int .u64 0, .int .u64 0] 31))).alloc (.cells #[.int .i64 0] 3)).alloc (.cells #[.int .i64 (s.length : Int)] 3)
      rwa [World.size_alloc] at this
    · have := (D.Box.new ((w.alloc (.cells #[.int .u64 0, .int .u64 0, .int .u64 0, .int .u64 0, .int .u64 0] 31)).alloc (.cells #[.int .u64 0, .int .u64 0, .int .u64 0, .int .u64 0, .int .u64 0] 31)) 3 #[.int .i64 0]).alloc (.cells #[.int .i64 (s.length : Int)] 3)
      rwa [World.size_alloc, World.size_alloc] at this
    · have := D.Box.new (((w.alloc (.cells #[.int .u64 0, .int .u64 0, .int .u64 0, .int .u64 0, .int .u64 0] 31)).alloc (.cells #[.int .u64 0, .int .u64 0, .int .u64 0, .int .u64 0, .int .u64 0] 31)).alloc (.cells #[.int .i64 0] 3)) 3 #[.int .i64 (s.length : Int)]
      rwa [World.size_alloc, World.size_alloc, World.size_alloc] at this
  obtain ⟨W0, hW0, hsz0, hB0, hC0, hC1, hF, hN⟩ := hF
  rw [← hW0]
  clear hW0
  have hwi := words_in7 (n - 1) s W0
  unfold strV at hwi
  refine ⟨trivial, hwi.mono ?_⟩
  rintro e w1 ⟨rfl, rfl⟩
  have hbx : (W0.alloc (.cells #[strV s] 9)).cell? ⟨W0.heap.size, 0, none⟩ = some (strV s) := by simp
  have hF : ∃ W1 : World, W1 = W0.alloc (.cells #[.string ⟨s.toArray⟩] 9) ∧ W1.heap.size = W0.heap.size + 1 ∧ Below w.heap.size w W1 ∧ CronAt W1 w.heap.size nilF ∧ CronAt W1 (w.heap.size + 1) nilF ∧ D.Box W1 (w.heap.size + 1 + 1) 3 #[.int .i64 0] ∧ D.Box W1 (w.heap.size + 1 + 1 + 1) 3 #[.int .i64 (s.length : Int)] ∧ W1.cell? ⟨W0.heap.size, 0, none⟩ = some (strV s) :=
    ⟨_, rfl, by simp, hB0.alloc (by omega) _, hC0.alloc _, hC1.alloc _, hF.alloc _, hN.alloc _, hbx⟩
  obtain ⟨W1, hW1, hsz1, hB1, hC0', hC1', hF', hN', hbx'⟩ := hF
  rw [← hW1]
  clear hW1 hbx hC0 hC1 hF hN hB0 hwi
  gi_wp2_with fail
  have HN := Lib.hid hrun.out
  have h4 : w.heap.size + 1 + 1 + 1 + 1 < W1.heap.size := by omega
  rw [hsz0] at hbx'
  refine wpIn_rangeFunc_ownF rfl h1 (gf := 76) (lb := #[.pointer (some ⟨w.heap.size + 1 + 1 + 1 + 1, 0, none⟩)]) rfl trivial (enters_of Tryz.func76 (by kernel_rfl) rfl)
    (words_stops (n - 1) (by omega) (w.heap.size + 1 + 1 + 1 + 1) w.heap.size s hs W1 h4 hbx' (HL.out.on hB1).fld) keepC_t (keepC_b (by omega)) (Below.refl _ _) (fun _ => rfl)
    (fun (pre : List WordT) W => (∃ (L : List (BitVec 64)) (f : Nat), f ≤ 5 ∧ CronAt W w.heap.size nilF ∧ CronAt W (w.heap.size + 1) L ∧ D.Box W (w.heap.size + 1 + 1) 3 #[.int .i64 (f : Int)] ∧ D.Box W (w.heap.size + 1 + 1 + 1) 3 #[.int .i64 (s.length : Int)] ∧ ∀ rest, runC s.length (pre.map (fun y : WordT => y.1) ++ rest) nilF 0 = runC s.length rest L f) ∧ Below w.heap.size w W)
    (fun c (pre : List WordT) W => (c = .exit 0 ∧ ∃ p : Nat, CronAt W w.heap.size nilF ∧ D.Box W (w.heap.size + 1 + 1) 3 #[.int .i64 0] ∧ D.Box W (w.heap.size + 1 + 1 + 1) 3 #[.int .i64 (p : Int)] ∧ ∀ rest, runC s.length (pre.map (fun y : WordT => y.1) ++ rest) nilF 0 = (none, p)) ∧ Below w.heap.size w W)
    (OwnFrom.and (Own.from (fun s A B row hs hg hr => by
      obtain ⟨L, f, h1, h2, h3, h4, h5, h6⟩ := hs
      exact ⟨L, f, h1, h2.kept hg hr, h3.kept hg hr, box_kept h4 hg hr, box_kept h5 hg hr, h6⟩) _) (ownFrom_below (Nat.le_refl _) (by omega)))
    (fun c => OwnFrom.and (Own.from (fun s A B row hs hg hr => by
      obtain ⟨hc, p, h2, h4, h5, h6⟩ := hs
      exact ⟨hc, p, h2.kept hg hr, box_kept h4 hg hr, box_kept h5 hg hr, h6⟩) _) (ownFrom_below (Nat.le_refl _) (by omega)))
    ⟨⟨nilF, 0, by omega, hC0', hC1', hF', hN', fun rest => rfl⟩, hB1⟩
    (fun x => { tmps := #[.string ⟨s.toArray⟩, undef, .pointer (some ⟨w.heap.size, 0, none⟩), .int .i64 0, .int .i64 0, .pointer (some ⟨w.heap.size + 1, 0, none⟩), .pointer (some ⟨w.heap.size + 1 + 1, 0, none⟩), .pointer (some ⟨w.heap.size + 1 + 1 + 1, 0, none⟩), .int .i64 ((x.1.1 : Nat) : Int), .string ⟨x.1.2.toArray⟩, undef, undef, .string ⟨s.toArray⟩, .int .i64 (s.length : Int), .bool (decide (256 < (s.length : Int))), undef, .string ⟨s.toArray⟩, .int .i64 (s.length : Int), .string ⟨s.toArray⟩, .func (.func 76) #[] #[.pointer (some ⟨w.heap.size + 1 + 1 + 1 + 1, 0, none⟩)], .int .i64 ((x.1.1 : Nat) : Int), .string ⟨x.1.2.toArray⟩, undef, undef, undef, undef, undef, undef, undef, undef, undef, undef, undef, undef, undef, undef, undef, undef, undef, undef, undef, undef], defers := [] }) ?assign ?body ?done ?stop
  case assign =>
    intro l x W K hK
    gi_wp2
    exact hK
  case body =>
    rintro l pre ⟨⟨xa, xt⟩, hx⟩ W ⟨⟨L, f, hf, hc0, hc1, hbf, hbw, hru⟩, hB⟩ _
    clear hC0' hC1' hF' hN' hbx'
    simp only at hx
    have HF := Lib.hid (fill_any (w.heap.size + 1) f xt L W (HL.out.on hB) hf (by omega) hc1)
    have hpl := fillC_place (l := L) (w := xt) hf
    have hct := fillC_count (l := L) (w := xt) hf
    have HRU := Lib.hid (runC_on (x := (xa, xt)) hru)
    unfold fillV strV at HF
    obtain ⟨e1, f1⟩ := hbf.one
    generalize fillC L f xt = r at *
    obtain ⟨L', c, p⟩ := r
    simp only at HF hpl hct HRU
    gi_wp2_with fail
    refine ⟨trivial, (fun _ => by omega), (CallsIn.inRound l (callsIn_wide.2 HF.out)).mono ?_⟩
    rintro e W2 ⟨rfl, hC, hS⟩
    have hKO := Lib.hid (hS.others hc1.2)
    have hKC : Hid (KeepC w.heap.size W1.heap.size W W2) := Lib.hid (hS.keep (by omega) hB.size (by omega))
    have hZ0 := Lib.hid (hc0.block hS (by omega))
    have hbf2 : Hid (D.Box W2 (w.heap.size + 1 + 1) 3 #[.int .i64 (f : Int)]) := Lib.hid ((hS.block _ hbf.lt (by omega)).trans hbf)
    have hbw2 : Hid (D.Box W2 (w.heap.size + 1 + 1 + 1) 3 #[.int .i64 (s.length : Int)]) := Lib.hid ((hS.block _ hbw.lt (by omega)).trans hbw)
    have hB2 := Lib.hid (hB.trans (hS.below (by omega) hB.size))
    have HC2 := Lib.hid hC
    clear hC hS hc0 hc1 hbf hbw e1 f1 HF hru
    obtain ⟨e1, f1⟩ := hbf2.out.one
    obtain ⟨e2, f2⟩ := hbw2.out.one
    by_cases hcz : c = 0
    · subst hcz
      have hr2 := Lib.hid ((if_pos rfl : (if (0 : Nat) = 0 then _ else _) = _).mp HRU.out)
      clear HRU
      gi_wp2_with fail
      refine ⟨hKO.out.trans ((KeepsOthers.setCell _ _ _).trans (KeepsOthers.setCell _ _ _)), ⟨rfl, xa + p, (hZ0.out.far (by omega) _).far (by omega) _, (hbf2.out.set 0 _).far (by omega) _, ?_, fun rest => ?_⟩, (hB2.out.setCell (p := ⟨w.heap.size + 1 + 1, 0, none⟩) (Nat.le_add_right_of_le (Nat.le_succ _)) _).setCell (p := ⟨w.heap.size + 1 + 1 + 1, 0, none⟩) (Nat.le_add_right_of_le (Nat.le_add_right_of_le (Nat.le_succ _))) _⟩
      · rw [Int.natCast_add]
        exact (hbw2.out.far (by omega) _).set 0 _
      · rw [List.map_append]
        exact hr2.out rest
    · have hr2 := Lib.hid ((if_neg hcz).mp HRU.out)
      have hcz' : ((c : Int) == 0) = false := by simpa using hcz
      clear HRU
      gi_wp2_with fail
      refine ⟨hKO.out.trans (KeepsOthers.setCell _ _ _), keepC_t hKC.out (keepC_set (by omega) (by omega) _), ⟨L', f + c, hct, hZ0.out.far (by omega) _, HC2.out.far (by omega) _, ?_, hbw2.out.far (by omega) _, fun rest => ?_⟩, hB2.out.setCell (p := ⟨w.heap.size + 1 + 1, 0, none⟩) (Nat.le_add_right_of_le (Nat.le_succ _)) _⟩
      · rw [Int.natCast_add]
        exact hbf2.out.set 0 _
      · rw [List.map_append]
        exact hr2.out rest
  case done =>
    rintro D ys W hD hys ⟨⟨L, f, hf, hc0, hc1, hbf, hbw, hru⟩, hB⟩ hK
    clear hC0' hC1' hF' hN' hbx'
    have hr0 := hru []
    rw [hys, List.append_nil] at hr0
    have hr1 := HN.out.symm.trans hr0
    obtain ⟨z0, z1, z2, z3, z4⟩ := hc0.five
    have f0 := hc0.frozen 0; have f1 := hc0.frozen 1; have f2 := hc0.frozen 2; have f3 := hc0.frozen 3; have f4 := hc0.frozen 4
    obtain ⟨e1, g1⟩ := hbf.one
    obtain ⟨e2, g2⟩ := hbw.one
    have HB := Lib.hid hB
    by_cases hf5 : f < 5
    · have hv := Lib.hid (creadV_none (hr1.trans (by rw [runC, if_pos hf5])))
      have hf5' : decide ((f : Int) < 5) = true := by simp; omega
      clear hru hr0 hr1 hB
      gi_wp2_with fail
      refine wpIn_wide.2 ?_
      go_region
      gi_wp2_with fail
      rw [Exit.noGoto_ret]
      have hK' : (set5V W w.heap.size (.int .u64 0) (.int .u64 0) (.int .u64 0) (.int .u64 0) (.int .u64 0)).drew.heap[D]? = some (.deferred (some [])) := drew_heap (def_set5 hK)
      have hX : CronAt (set5V W w.heap.size (.int .u64 0) (.int .u64 0) (.int .u64 0) (.int .u64 0) (.int .u64 0)).drew w.heap.size nilF := (set5_zero hc0).drew
      obtain ⟨y0, y1, y2, y3, y4⟩ := (hX.kept (grownBy_putObj' _ D (.deferred none)) (fun r e => by cases e; exact ⟨_, hK', rfl⟩)).five
      refine ⟨by simp, .inl ⟨_, _, rfl, run_takeDeferred hK', ?_⟩⟩
      refine ⟨.tuple #[.agg #[.int .u64 (U 0#64), .int .u64 (U 0#64), .int .u64 (U 0#64), .int .u64 (U 0#64), .int .u64 (U 0#64)], .int .i64 (s.length : Int), .int .i64 170], ?_, by rw [hv.out]; rfl, (below_five HB.out (Nat.le_refl _) _ _ _ _ _).drew.trans (belowK_b (w := w) (Nat.le_refl _) _ D _ _ (by have := hB1.size; omega) hK' rfl rfl)⟩
      simp [results, Tryz.f28, go_sem, y0, y1, y2, y3, y4]
    · have hf5' : decide ((f : Int) < 5) = false := by simp; omega
      have hr2 := hr1.trans (by rw [runC, if_neg hf5] : _ = (some L, 0))
      obtain ⟨a, b, c, d, e, rfl⟩ := list_five hc1.1
      have hv := Lib.hid (creadV_some hr2)
      obtain ⟨c0, c1, c2, c3, c4⟩ := hc1.five
      clear hru hr0 hr1 hB hr2
      gi_wp2_with fail
      rw [Exit.noGoto_ret]
      have hK' : (set5V W w.heap.size (.int .u64 (U a)) (.int .u64 (U b)) (.int .u64 (U c)) (.int .u64 (U d)) (.int .u64 (U e))).heap[D]? = some (.deferred (some [])) := def_set5 hK
      have hX : CronAt (set5V W w.heap.size (.int .u64 (U a)) (.int .u64 (U b)) (.int .u64 (U c)) (.int .u64 (U d)) (.int .u64 (U e))) w.heap.size [a, b, c, d, e] := hc0.set5 a b c d e
      obtain ⟨y0, y1, y2, y3, y4⟩ := (hX.kept (grownBy_putObj' _ D (.deferred none)) (fun r e => by cases e; exact ⟨_, hK', rfl⟩)).five
      refine ⟨by simp, .inl ⟨_, _, rfl, run_takeDeferred hK', ?_⟩⟩
      refine ⟨.tuple #[.agg #[.int .u64 (U a), .int .u64 (U b), .int .u64 (U c), .int .u64 (U d), .int .u64 (U e)], .int .i64 0, .int .i64 0], ?_, by rw [hv.out]; rfl, (below_five HB.out (Nat.le_refl _) _ _ _ _ _).trans (belowK_b (w := w) (Nat.le_refl _) _ D _ _ (by have := hB1.size; omega) hK' rfl rfl)⟩
      simp [results, Tryz.f28, go_sem, y0, y1, y2, y3, y4]
  case stop =>
    rintro D c pre W hD hpre ⟨⟨rfl, p, hc0, hbf, hbw, hru⟩, hB⟩ hK
    clear hC0' hC1' hF' hN' hbx'
    obtain ⟨t, ht⟩ := hpre
    have hr0 := hru t
    rw [ht] at hr0
    have hv := Lib.hid (creadV_none (HN.out.symm.trans hr0))
    obtain ⟨z0, z1, z2, z3, z4⟩ := hc0.five
    have f0 := hc0.frozen 0; have f1 := hc0.frozen 1; have f2 := hc0.frozen 2; have f3 := hc0.frozen 3; have f4 := hc0.frozen 4
    obtain ⟨e1, g1⟩ := hbf.one
    obtain ⟨e2, g2⟩ := hbw.one
    have HB := Lib.hid hB
    clear hru hr0 hB
    gi_wp2_with fail
    refine wpIn_wide.2 ?_
    go_region
    gi_wp2_with fail
    rw [Exit.noGoto_ret]
    have hK' : (set5V W w.heap.size (.int .u64 0) (.int .u64 0) (.int .u64 0) (.int .u64 0) (.int .u64 0)).drew.heap[D]? = some (.deferred (some [])) := drew_heap (def_set5 hK)
    have hX : CronAt (set5V W w.heap.size (.int .u64 0) (.int .u64 0) (.int .u64 0) (.int .u64 0) (.int .u64 0)).drew w.heap.size nilF := (set5_zero hc0).drew
    obtain ⟨y0, y1, y2, y3, y4⟩ := (hX.kept (grownBy_putObj' _ D (.deferred none)) (fun r e => by cases e; exact ⟨_, hK', rfl⟩)).five
    refine ⟨by simp, .inl ⟨_, _, rfl, run_takeDeferred hK', ?_⟩⟩
    refine ⟨.tuple #[.agg #[.int .u64 (U 0#64), .int .u64 (U 0#64), .int .u64 (U 0#64), .int .u64 (U 0#64), .int .u64 (U 0#64)], .int .i64 (p : Int), .int .i64 170], ?_, by rw [hv.out]; rfl, (below_five HB.out (Nat.le_refl _) _ _ _ _ _).drew.trans (belowK_b (w := w) (Nat.le_refl _) _ D _ _ (by have := hB1.size; omega) hK' rfl rfl)⟩
    simp [results, Tryz.f28, go_sem, y0, y1, y2, y3, y4]
theorem cread_short (s : List UInt8) (w : World) (hL : LaidC w) (hs : s.length ≤ 256) :
    Calls Tryz.prog 28 #[strV s] w fun e W' => e = .returned (creadV s) ∧ Below w.heap.size w W' :=
  callsIn_wide.1 (cread_in 3 (by omega) s w hL hs)
set_option maxRecDepth 100000 in
theorem cread_long (s : ByteArray) (w : World) (hs : s.size ≤ maxLen) (hl : 256 < s.size) :
    Calls Tryz.prog 28 #[.string s] w fun e W' => e = .returned (.tuple #[cronV nilF, .int .i64 0, .int .i64 3]) ∧ Below w.heap.size w W' := by
  unfold maxLen at hs
  have hd : decide (256 < (s.size : Int)) = true := by simp; omega
  have hd2 : (256 : Int) < (s.size : Int) := by omega
  have hd3 : 256 < s.size := hl
  go_enter Tryz.func28, Tryz.ntmps28
  go_wp2_with fail
  go_step3
  go_wp2_with fail
  rw [Exit.noGoto_ret]
  refine bodyPost_ret (v := .tuple #[.agg #[.int .u64 0, .int .u64 0, .int .u64 0, .int .u64 0, .int .u64 0], .int .i64 0, .int .i64 3]) (by simp [results, Tryz.results28, go_sem]) rfl ⟨rfl, (Below.refl _ _).alloc (Nat.le_refl _) _⟩
end Go.Proofs.YtbaobjbckabnhaaGreatDoor
/- The document's one text of a cron: walked. -/
namespace Go.Proofs.YtbaobjbckabnhaaGreatDoor
open Go.RowKit

def outT (L : List (BitVec 64)) : Nat → List UInt8
  | 0 => []
  | j + 1 => (if 0 < j then outT L j ++ [32] else outT L j) ++ textL j (L.getD j 0#64)
theorem outT_five (a b c d e : BitVec 64) : outT [a, b, c, d, e] 5 = textC a b c d e := by simp [outT, textC]
theorem outT_len {L : List (BitVec 64)} (h : ∀ k, k < 5 → FieldM k (L.getD k 0#64)) : ∀ j, j ≤ 5 → (outT L j).length ≤ j * 120
  | 0, _ => by simp [outT]
  | j + 1, hj => by
    have h1 := outT_len h j (by omega)
    have h2 := text_top (show j < 5 by omega) (h j (by omega))
    have h3 : topL j ≤ 114 := by rcases five (show j < 5 by omega) with rfl | rfl | rfl | rfl | rfl <;> decide
    rw [outT, List.length_append]
    split
    · rw [List.length_append, List.length_singleton]; omega
    · omega
theorem text_len {L : List (BitVec 64)} (h : ∀ k, k < 5 → FieldM k (L.getD k 0#64)) {j : Nat} (hj : j < 5) : (textL j (L.getD j 0#64)).length ≤ 114 := by
  have h2 := text_top hj (h j hj)
  have h3 : topL j ≤ 114 := by rcases five hj with rfl | rfl | rfl | rfl | rfl <;> decide
  omega
end Go.Proofs.YtbaobjbckabnhaaGreatDoor
/- Text: walked, of the program. -/
namespace Go.Proofs.YtbaobjbckabnhaaGreatDoor
open Go.RowKit

def tsL (L : List (BitVec 64)) : Nat → List (List UInt8)
  | 0 => []
  | j + 1 => tsL L j ++ [textL j (L.getD j 0#64)]
theorem tsL_len (L : List (BitVec 64)) : ∀ j, (tsL L j).length = j
  | 0 => rfl
  | j + 1 => by rw [tsL, List.length_append, tsL_len L j]; rfl
theorem tsL_next (L : List (BitVec 64)) (j : Nat) : (tsL L (j + 1)).map strV = (tsL L j).map strV ++ [.string ⟨(textL j (L.getD j 0#64)).toArray⟩] := by rw [tsL, List.map_append]; rfl
theorem join_five (p q r s t : List UInt8) : Lib.join [p, q, r, s, t] [32] = p ++ 32 :: (q ++ 32 :: (r ++ 32 :: (s ++ 32 :: t))) := by
  simp [Lib.join]
def ctextL (L : List (BitVec 64)) : List UInt8 := textC (L.getD 0 0#64) (L.getD 1 0#64) (L.getD 2 0#64) (L.getD 3 0#64) (L.getD 4 0#64)
theorem join_ts (L : List (BitVec 64)) : Lib.join (tsL L 5) [32] = ctextL L := by
  show Lib.join [textL 0 (L.getD 0 0#64), textL 1 (L.getD 1 0#64), textL 2 (L.getD 2 0#64), textL 3 (L.getD 3 0#64), textL 4 (L.getD 4 0#64)] [32] = _
  rw [join_five]; rfl
theorem crB_field {L : List (BitVec 64)} (h : crB L = true) (k : Nat) (hk : k < 5) : FieldM k (L.getD k 0#64) := (fieldB_iff _ _).1 (crB_at h hk)
theorem ctextL_len {L : List (BitVec 64)} (h : crB L = true) : (ctextL L).length ≤ 245 :=
  textC_len (crB_field h 0 (by omega)) (crB_field h 1 (by omega)) (crB_field h 2 (by omega)) (crB_field h 3 (by omega)) (crB_field h 4 (by omega))
theorem join_own5 (L : List (BitVec 64)) (base : Nat) (v : Value) (w : World) (hc : crB L = true) (h : w.ownsRow base 9 1 v 5 ((tsL L 5).map strV)) :
    Calls Tryz.prog 63 #[v, .string ⟨#[32]⟩] w fun e w' => e = .returned (strV (ctextL L)) ∧ Below w.heap.size w w' := by
  have hlen := ctextL_len hc
  have hl5 := tsL_len L 5
  rw [← join_ts] at hlen ⊢
  have h0 := h
  generalize tsL L 5 = ls at *
  rcases h0.2 with ⟨rfl, hz⟩ | ⟨g, cap, cur, rfl, _, hh, hcap, _⟩
  · omega
  · have hx : (ls.map fun l => (⟨l.toArray⟩ : ByteArray)).map (·.data.toList) = ls := by
      rw [List.map_map]
      conv => rhs; rw [← List.map_id ls]
      apply List.map_congr_left
      intro x _
      simp
    have hj := strings_Join g 0 cap (ls.map fun l => (⟨l.toArray⟩ : ByteArray)) ⟨#[32]⟩ w (by
      intro j x hx
      rw [List.getElem?_map] at hx
      cases hl : ls[j]? with
      | none => rw [hl] at hx; cases hx
      | some y =>
        rw [hl] at hx
        cases hx
        have hlt := (List.getElem?_eq_some_iff.1 hl).1
        rw [Nat.zero_add, h.cellAt j (by omega), List.getElem?_map, hl]; rfl) (Array.getElem?_eq_some_iff.1 hh).1 (by simp; omega) (by simp; omega) (by
      rw [hx, show (⟨#[32]⟩ : ByteArray).data.toList = [32] by rfl]
      omega)
    rw [hx, show (⟨#[32]⟩ : ByteArray).data.toList = [32] by rfl, List.length_map, hl5] at hj
    exact hj
def ctextV (L : List (BitVec 64)) : Value := if crB L then errT (ctextL L) 0 else errT [] 170
set_option maxRecDepth 100000 in
set_option maxHeartbeats 2000000 in
theorem ctext_any (L : List (BitVec 64)) (w : World) (hL : LaidC w) (h5 : L.length = 5) :
    Calls Tryz.prog 38 #[cronV L] w fun x w' => x = .returned (ctextV L) ∧ Below w.heap.size w w' := by
  obtain ⟨i0, hi, hz0, hz1, hz2⟩ := info_parts info_str
  have HY : Hid ((∀ k, k < 5 → fieldB k (L.getD k 0#64) = true) → crB L = true ∧ ctextV L = errT (ctextL L) 0) := Lib.hid (fun h => ⟨crB_yes h, by unfold ctextV; rw [if_pos (crB_yes h)]⟩)
  have HN : Hid (∀ k, k < 5 → fieldB k (L.getD k 0#64) = false → ctextV L = errT [] 170) := Lib.hid (fun k hk h => by unfold ctextV; rw [crB_no hk h]; rfl)
  have HL := Lib.hid hL
  have HJ := Lib.hid (fun base v W h => join_own5 L base v W h)
  clear hL
  obtain ⟨a, b, c, d, e, rfl⟩ := list_five h5
  rw [cronV_five]
  unfold fiveV
  generalize ctextV [a, b, c, d, e] = z at *
  go_enter Tryz.func38, Tryz.ntmps38
  go_wp2_with fail
  have HC0 := Lib.hid (CronAt.new w a b c d e)
  have HB0 : Hid (Below w.heap.size w (w.alloc (.cells #[.int .u64 (U a), .int .u64 (U b), .int .u64 (U c), .int .u64 (U d), .int .u64 (U e)] 31))) := Lib.hid ((Below.refl w.heap.size w).alloc (Nat.le_refl _) _)
  generalize [a, b, c, d, e] = L at *
  generalize w.alloc _ = w0 at *
  refine (fields_any w.heap.size w0).mono ?_
  rintro x w1 ⟨rfl, hb⟩
  have HB1 : Hid (Below w.heap.size w w1) := Lib.hid (HB0.out.trans (hb.mono HB0.out.size)); have HC1 := Lib.hid (HC0.out.on hb)
  clear hb HC0 HB0
  go_wp2_with fail
  go_loopw [4, 5, 6, 7, 8, 10] (fun v _ _ _ _ i wr => ∃ j : Nat, j ≤ 5 ∧ i = .int .i64 (j : Int) ∧ Below w1.heap.size w1 wr ∧ wr.ownsRow w1.heap.size 9 1 v j ((tsL L j).map strV) ∧ ∀ q : Nat, q < j → fieldB q (L.getD q 0#64) = true) (fun _ _ _ _ _ i _ => 5 - (intOf i).toNat)
  case atStart => exact ⟨0, by omega, rfl, Below.refl _ _, ⟨rfl, .inl ⟨rfl, rfl⟩⟩, fun q hq => by omega⟩
  case round =>
    obtain ⟨j, hj, rfl, hb, hrow, hall⟩ := hrel
    have HB := Lib.hid hb; have HW := Lib.hid hrow; have HA := Lib.hid hall
    have HBw := Lib.hid (HB1.out.trans (hb.mono HB1.out.size))
    clear hb hrow hall
    by_cases hlt : j < 5
    · have hj5 : (j : Int) < 5 := by omega
      have hix := fun W => index_ptrs w.heap.size j hlt W
      have hcell := (HC1.out.on HB.out).cell hlt
      have HLr := Lib.hid (HL.out.on HBw.out).fld
      have HN' := Lib.hid (HN.out j hlt)
      have HT := Lib.hid (tsL_next L j)
      have HN2 : Hid (fieldB j (L.getD j 0#64) = true → ∀ q : Nat, q < j + 1 → fieldB q (L.getD q 0#64) = true) := Lib.hid (fun h q hq => by
        rcases Nat.lt_succ_iff_lt_or_eq.1 hq with h' | rfl
        · exact HA.out q h'
        · exact h)
      generalize L.getD j 0#64 = m at *
      cases hf : fieldB j m with
      | false =>
        have HR := Lib.hid (fun W hW => text_bad j m W hW hlt hf)
        have HE := Lib.hid (HN'.out hf)
        clear hf HN' HN2
        unfold errT strV at *
        go_wp2_with fail
        refine (HR.out _ HLr.out).mono ?_
        rintro x w2 ⟨rfl, hb⟩
        have HB2 : Hid (Below w.heap.size w w2) := Lib.hid (HBw.out.trans (hb.mono HBw.out.size))
        clear hb
        go_wp2_with fail
        go_ret2
        exact ⟨by rw [HE.out]; rfl, HB2.out⟩
      | true =>
        have HR := Lib.hid (fun W hW => text_yes j m W hW hlt hf)
        have HE := Lib.hid (HN2.out hf)
        clear hf HN' HN2
        unfold errT strV at *
        generalize textL j m = tx at *
        go_wp2_with fail
        refine (HR.out _ HLr.out).mono ?_
        rintro x w2 ⟨rfl, hb⟩
        have HB2 := Lib.hid (HB.out.trans (hb.mono HB.out.size))
        have HW2 := Lib.hid (own_below HW.out hb)
        clear hb HB HW
        go_wp2_with (at_builtin; refine wpList_append_own _ rfl _ _ 112 rfl w1.heap.size 9 i0 (.string ⟨#[]⟩) 1 16 Tryz.underlying112 hi hz0 hz1 hz2 rfl (by decide) _ _ _ rfl (HW2.out.alloc _) ⟨w2.heap.size, 0, none⟩ 1 1 [.string ⟨tx.toArray⟩] rfl rfl (cell_one_new _ _ _) (by simp [Value.oneCell']) (by unfold maxLen; omega) (by omega) (by have := HB2.out.size; simp; omega) ?_; intro v' w3 hown' hgrow' _)
        have HB3 := Lib.hid ((HB2.out.alloc HB2.out.size _).grown hgrow' (by have := HB2.out.size; simp; omega) (fun j e => (HW2.out.lt j e).1))
        have HW3 := Lib.hid hown'
        clear hown' hgrow'
        go_roundw
        case rel => exact ⟨j + 1, by omega, by go_num, HB3.out, by rw [HT.out]; exact HW3.out, HE.out⟩
        case measure => simp [intOf]; omega
    · have hj5 : j = 5 := by omega
      subst hj5
      obtain ⟨hc, hz⟩ := HY.out HA.out
      have HZ := Lib.hid hz
      have HJ5 := Lib.hid (HJ.out _ _ wr hc HW.out)
      clear hc hz
      unfold errT strV at *
      go_wp2_with fail
      refine HJ5.out.mono ?_
      rintro x w5 ⟨rfl, hb⟩
      have HB5 := Lib.hid (HBw.out.trans (hb.mono HBw.out.size))
      clear hb
      go_wp2_with fail
      go_ret2
      exact ⟨by rw [HZ.out]; rfl, HB5.out⟩
end Go.Proofs.YtbaobjbckabnhaaGreatDoor
/- Day: walked, of the program. -/
namespace Go.Proofs.YtbaobjbckabnhaaGreatDoor
open Go.RowKit

theorem whole_q (k : Nat) (w : World) (hL : Laid w) (h : k < 5) :
    Calls Tryz.prog 75 #[.int .i64 (k : Int)] w fun e w' => e = .returned (.int .u64 (U (wholeM k))) ∧ ∃ q, w' = w.drewN q := by
  have h0 := hL.lo k h
  have h1 := hL.hi k h
  have hg : 0 < w.heap.size := by have := hL.lt; show 0 < w.heap.size; omega
  have hk5 : (k : Int) < 5 := by omega
  have HS := Lib.hid (fun W => span_whole k W)
  clear hL
  generalize wholeM k = m at *
  generalize ((loK k : Nat) : Int) = a at *
  generalize ((hiK k : Nat) : Int) = b at *
  go_enter Tryz.func75, Tryz.ntmps75
  go_wp2_with fail
  refine (there_yes k _ h).mono ?_
  rintro e w' ⟨rfl, rfl⟩
  go_wp2_with fail
  go_quiet ((go_at_call 116; with_reducible exact Calls.quiet_of_same (HS.out _)))
  go_wp2_with fail
  go_ret
  exact ⟨rfl, _, rfl⟩
/-- The weekday of a date. -/
def wdZ (y m d : Int) : Int := (D.numZ y m d + 4) % 7
def rightB (y m d : Int) : Bool := decide (1970 ≤ y ∧ y ≤ 9999 ∧ 1 ≤ d ∧ d ≤ D.mlZ y m)
theorem rightB_iff (y m d : Int) : rightB y m d = true ↔ D.RightZ y m d := by unfold rightB D.RightZ; exact decide_eq_true_iff
/-- Does the date fit, given that cron and date may be? -/
def fitD (L : List (BitVec 64)) (y m d : Int) : Bool := dayF (L.getD 2 0#64) (L.getD 3 0#64) (L.getD 4 0#64) d.toNat m.toNat (wdZ y m d).toNat
def dayZ (L : List (BitVec 64)) (y m d : Int) : Bool := crB L && (rightB y m d && fitD L y m d)
theorem hasB_pos {x : BitVec 64} {n : Int} (h : 0 ≤ n) : hasB x n = x.getLsbD n.toNat := by unfold hasB; rw [decide_eq_true h, Bool.true_and]
theorem wd_in (y m d : Int) : 0 ≤ wdZ y m d ∧ wdZ y m d ≤ 6 := by unfold wdZ; omega
theorem right_in {y m d : Int} (h : D.RightZ y m d) : 1 ≤ m ∧ m ≤ 12 ∧ 1 ≤ d ∧ d ≤ 31 := by
  have h1 := D.RightZ.month h
  have h2 := D.mlZ_in (y := y) h1.1 h1.2
  obtain ⟨_, _, h3, h4⟩ := h
  omega
/-- What the program reckons. -/
theorem fit_prog {a b c d e : BitVec 64} {y m n : Int} (h : D.RightZ y m n) :
    fitD [a, b, c, d, e] y m n = (hasB d m && (if (c == wholeM 2) = true then hasB c n && hasB e (wdZ y m n) else if (e == wholeM 4) = true then hasB c n && hasB e (wdZ y m n) else hasB c n || hasB e (wdZ y m n))) := by
  obtain ⟨h1, h2, h3, h4⟩ := right_in h
  obtain ⟨w0, w6⟩ := wd_in y m n
  rw [hasB_pos (show 0 ≤ m by omega), hasB_pos (show 0 ≤ n by omega), hasB_pos w0]
  show dayF c d e n.toNat m.toNat (wdZ y m n).toNat = _
  have b2 : (wholeM 2).getLsbD n.toNat = true := by rw [whole_bit, decide_eq_true_iff]; exact ⟨by omega, by show 1 ≤ _; omega, by show _ ≤ 31; omega⟩
  have b4 : (wholeM 4).getLsbD (wdZ y m n).toNat = true := by rw [whole_bit, decide_eq_true_iff]; exact ⟨by omega, by show 0 ≤ _; omega, by show _ ≤ 6; omega⟩
  unfold dayF
  by_cases hc : c = wholeM 2
  · subst hc
    simp [b2]
  · by_cases he : e = wholeM 4
    · subst he
      simp [hc, b4]
    · simp [hc, he]
def cronV5 (a b c d e : BitVec 64) : Value := .agg #[.int .u64 (U a), .int .u64 (U b), .int .u64 (U c), .int .u64 (U d), .int .u64 (U e)]
theorem five_cells (w : World) (a b c d e : BitVec 64) (y m n : Int) :
    ∃ W : World, W = (w.alloc (.cells #[.int .u64 (U a), .int .u64 (U b), .int .u64 (U c), .int .u64 (U d), .int .u64 (U e)] 31)).alloc (.cells #[.int .i64 y, .int .i64 m, .int .i64 n] 79) ∧ Below w.heap.size w W ∧ CronAt W w.heap.size [a, b, c, d, e] ∧ D.Box W (w.heap.size + 1) 79 #[.int .i64 y, .int .i64 m, .int .i64 n] := by
  refine ⟨_, rfl, ((Below.refl _ w).alloc (Nat.le_refl _) _).alloc (by simp) _, (CronAt.new w a b c d e).alloc _, ?_⟩
  have := D.Box.new (w.alloc (.cells #[.int .u64 (U a), .int .u64 (U b), .int .u64 (U c), .int .u64 (U d), .int .u64 (U e)] 31)) 79 #[.int .i64 y, .int .i64 m, .int .i64 n]
  rwa [World.size_alloc] at this
set_option maxRecDepth 100000 in
set_option maxHeartbeats 2000000 in
theorem cday_any (L : List (BitVec 64)) (y m n : Int) (w : World) (hL : LaidC w) (h5 : L.length = 5) :
    Calls Tryz.prog 44 #[cronV L, .agg #[.int .i64 y, .int .i64 m, .int .i64 n]] w fun x w' => x = .returned (.bool (dayZ L y m n)) ∧ Below w.heap.size w w' := by
  have HL := Lib.hid hL
  clear hL
  have HK := Lib.hid (fun W hW => ccheck_any L W hW h5)
  obtain ⟨a, b, c, d, e, rfl⟩ := list_five h5
  obtain ⟨WB, hWB, hb0, hc0, hd0⟩ := five_cells w a b c d e y m n
  have HL0 := Lib.hid (HL.out.on hb0)
  rw [cronV_five] at *
  unfold fiveV at *
  by_cases hr : D.RightZ y m n
  · have hrb := (rightB_iff y m n).2 hr
    have HO := Lib.hid (fun W hW => D.of_ok y m n W hW hr)
    have HF := Lib.hid (fit_prog (a := a) (b := b) (c := c) (d := d) (e := e) hr)
    have hnr := D.num_range hr
    have HW := Lib.hid (fun W => D.weekday_ok (D.numZ y m n) W hnr.1 hnr.2)
    unfold D.dateV at HO
    cases hcr : crB [a, b, c, d, e] with
    | false =>
      have hz : dayZ [a, b, c, d, e] y m n = false := by unfold dayZ; rw [hcr, Bool.false_and]
      have he : crE [a, b, c, d, e] = 170 := by unfold crE; rw [hcr]; rfl
      rw [hz]
      simp only [he] at HK
      clear hz he hcr HF HW hrb
      generalize D.numZ y m n = num at *
      go_enter Tryz.func44, Tryz.ntmps44
      go_wp2_with fail
      rw [← hWB]
      clear hWB
      refine (HO.out _ HL0.out.days).mono ?_
      rintro x w1 ⟨rfl, hb⟩
      have HB1 := Lib.hid (hb0.trans (hb.mono hb0.size)); have HL1 := Lib.hid (HL0.out.on hb); have HC1 := Lib.hid (hc0.on hb); have HD1 := Lib.hid (D.Box.belowAll hd0 hb)
      clear hb hb0 hc0 hd0 HL0 HO
      obtain ⟨c0, c1, c2, c3, c4⟩ := HC1.out.five
      obtain ⟨d0, d1, d2, _, _, _⟩ := D.Box.three HD1.out
      go_wp2_with fail
      refine (HK.out _ HL1.out.fld).mono ?_
      rintro x w2 ⟨rfl, hb⟩
      have HB2 : Hid (Below w.heap.size w w2) := Lib.hid (HB1.out.trans (hb.mono HB1.out.size))
      clear hb
      go_wp2_with fail
      go_ret
      exact ⟨rfl, HB2.out⟩
    | true =>
      have he : crE [a, b, c, d, e] = 0 := by unfold crE; rw [hcr]; rfl
      have hz : Hid (dayZ [a, b, c, d, e] y m n = fitD [a, b, c, d, e] y m n) := Lib.hid (by unfold dayZ; rw [hcr, hrb]; rfl)
      rw [hz.out, HF.out]
      simp only [he] at HK
      clear hz he hcr hrb HF
      have HM := Lib.hid (fun W => has_any d m W)
      have HDy := Lib.hid (fun W => (has_any c n W).mono fun _ _ ⟨h, k⟩ => (⟨h, k.symm⟩ : _ ∧ _))
      have HWd := Lib.hid (fun W => (has_any e ((D.numZ y m n + 4) % 7) W).mono fun _ _ ⟨h, k⟩ => (⟨h, k.symm⟩ : _ ∧ _))
      have hU2 : ((U c == U (wholeM 2)) : Bool) = (c == wholeM 2) := U_beq _ _
      have hU4 : ((U e == U (wholeM 4)) : Bool) = (e == wholeM 4) := U_beq _ _
      have hV2 : (U c = U (wholeM 2)) ↔ c = wholeM 2 := U_inj
      have hV4 : (U e = U (wholeM 4)) ↔ e = wholeM 4 := U_inj
      have HW2 := Lib.hid (fun W hW => whole_q 2 W hW (by omega))
      have HW4 := Lib.hid (fun W hW => whole_q 4 W hW (by omega))
      have hwd : wdZ y m n = (D.numZ y m n + 4) % 7 := rfl
      rw [hwd]
      clear hwd
      generalize (D.numZ y m n + 4) % 7 = wd at *
      generalize D.numZ y m n = num at *
      generalize wholeM 2 = v2 at *
      generalize wholeM 4 = v4 at *
      simp only [show ((2 : Nat) : Int) = 2 from rfl, show ((4 : Nat) : Int) = 4 from rfl] at *
      cases hm : hasB d m with
      | false =>
        rw [hm] at HM
        clear hm HDy HWd hU2 hU4 hV2 hV4 HW2 HW4 HW
        rw [Bool.false_and]
        go_enter Tryz.func44, Tryz.ntmps44
        go_wp2_with fail
        rw [← hWB]
        clear hWB
        refine (HO.out _ HL0.out.days).mono ?_
        rintro x w1 ⟨rfl, hb⟩
        have HB1 := Lib.hid (hb0.trans (hb.mono hb0.size)); have HL1 := Lib.hid (HL0.out.on hb); have HC1 := Lib.hid (hc0.on hb); have HD1 := Lib.hid (D.Box.belowAll hd0 hb)
        clear hb hb0 hc0 hd0 HL0 HO
        obtain ⟨c0, c1, c2, c3, c4⟩ := HC1.out.five
        obtain ⟨d0, d1, d2, _, _, _⟩ := D.Box.three HD1.out
        go_wp2_with fail
        refine (HK.out _ HL1.out.fld).mono ?_
        rintro x w2 ⟨rfl, hb⟩
        have HB2 : Hid (Below w.heap.size w w2) := Lib.hid (HB1.out.trans (hb.mono HB1.out.size))
        obtain ⟨c0, c1, c2, c3, c4⟩ := (HC1.out.on hb).five
        obtain ⟨d0, d1, d2, _, _, _⟩ := D.Box.three (D.Box.belowAll HD1.out hb)
        clear hb
        go_wp2_with fail
        refine (HM.out _).mono ?_
        rintro x w3 ⟨rfl, rfl⟩
        go_wp2_with fail
        go_ret
        exact ⟨rfl, HB2.out⟩
      | true =>
        rw [hm] at HM
        rw [Bool.true_and]
        clear hm
        generalize hasB c n = p at *
        generalize hasB e wd = q at *
        obtain ⟨r, hr0⟩ : ∃ r : Bool, (if (c == v2) = true then p && q else if (e == v4) = true then p && q else p || q) = r := ⟨_, rfl⟩
        rw [hr0]
        have HR := Lib.hid hr0
        clear hr0 hU2 hU4
        go_enter Tryz.func44, Tryz.ntmps44
        go_wp2_with fail
        rw [← hWB]
        clear hWB
        refine (HO.out _ HL0.out.days).mono ?_
        rintro x w1 ⟨rfl, hb⟩
        have HB1 := Lib.hid (hb0.trans (hb.mono hb0.size)); have HL1 := Lib.hid (HL0.out.on hb); have HC1 := Lib.hid (hc0.on hb); have HD1 := Lib.hid (D.Box.belowAll hd0 hb)
        clear hb hb0 hc0 hd0 HL0 HO
        obtain ⟨c0, c1, c2, c3, c4⟩ := HC1.out.five
        obtain ⟨d0, d1, d2, _, _, _⟩ := D.Box.three HD1.out
        go_wp2_with fail
        refine (HK.out _ HL1.out.fld).mono ?_
        rintro x w2 ⟨rfl, hb⟩
        have HB2 : Hid (Below w.heap.size w w2) := Lib.hid (HB1.out.trans (hb.mono HB1.out.size)); have HL2 := Lib.hid (HL1.out.on hb)
        obtain ⟨c0, c1, c2, c3, c4⟩ := (HC1.out.on hb).five
        obtain ⟨d0, d1, d2, _, _, _⟩ := D.Box.three (D.Box.belowAll HD1.out hb)
        clear hb
        go_wp2_with fail
        refine (HM.out _).mono ?_
        rintro x w3 ⟨rfl, rfl⟩
        go_wp2_with fail
        refine (HW.out _).mono ?_
        rintro x w3 ⟨rfl, rfl⟩
        go_wp2_with fail
        go_quiet (first | (go_at_call 43; with_reducible exact Calls.quiet_of_same (HDy.out _)) | (go_at_call 43; with_reducible exact Calls.quiet_of_same (HWd.out _)))
        have HB3 := Lib.hid (bdrewN HB2.out nq); have HL3 := Lib.hid (HL2.out.on (bdrewN (Below.refl _ _) nq)).fld
        have k2 : (w2.drewN nq).cell? ⟨w.heap.size, 2, none⟩ = some (.int .u64 (U c)) := c2
        have k4 : (w2.drewN nq).cell? ⟨w.heap.size, 4, none⟩ = some (.int .u64 (U e)) := c4
        generalize w2.drewN nq = w3 at *
        clear c0 c1 c2 c3 c4 d0 d1 d2 HDy HWd HM HK HW
        by_cases hc : c = v2
        · have HRR := Lib.hid (HR.out.symm.trans (if_pos (by simpa using hc)))
          subst hc
          clear hV2 hV4 HR
          go_wp2_with fail
          go_quiet (first | (go_at_call 75; with_reducible exact Calls.quiet_of (HW2.out _ (HL3.out.on (bdrewN (Below.refl _ _) _)))))
          have HB4 := Lib.hid (bdrewN HB3.out nq)
          cases p <;> cases q <;>
            (go_wp2_with fail
             go_ret
             exact ⟨by rw [HRR.out]; rfl, HB4.out⟩)
        · have x2 : ¬ U c = U v2 := fun h => hc (U_inj.1 h)
          have HR2 := HR.out.symm.trans (if_neg (by simpa using hc))
          by_cases he : e = v4
          · have HRR := Lib.hid (HR2.trans (if_pos (by simpa using he)))
            subst he
            clear hV2 hV4 HR HR2 hc
            go_wp2_with fail
            go_quiet (first | (go_at_call 75; with_reducible exact Calls.quiet_of (HW2.out _ (HL3.out.on (bdrewN (Below.refl _ _) _)))) | (go_at_call 75; with_reducible exact Calls.quiet_of (HW4.out _ (HL3.out.on (bdrewN (Below.refl _ _) _)))))
            have HB4 := Lib.hid (bdrewN HB3.out nq)
            cases p <;> cases q <;>
              (go_wp2_with fail
               go_ret
               exact ⟨by rw [HRR.out]; rfl, HB4.out⟩)
          · have x4 : (U e == U v4) = false := by rw [beq_eq_false_iff_ne]; exact fun h => he (U_inj.1 h)
            have HRR := Lib.hid (HR2.trans (if_neg (by simpa using he)))
            clear hV2 hV4 HR HR2 hc he
            go_wp2_with fail
            go_quiet (first | (go_at_call 75; with_reducible exact Calls.quiet_of (HW2.out _ (HL3.out.on (bdrewN (Below.refl _ _) _)))) | (go_at_call 75; with_reducible exact Calls.quiet_of (HW4.out _ (HL3.out.on (bdrewN (Below.refl _ _) _)))))
            have HB4 := Lib.hid (bdrewN HB3.out nq)
            cases p <;> cases q <;>
              (go_wp2_with fail
               go_ret
               exact ⟨by rw [HRR.out]; rfl, HB4.out⟩)
  · have HO := Lib.hid (fun W hW => D.of_no y m n W hW hr)
    have hrb : rightB y m n = false := by rw [← Bool.not_eq_true]; exact fun h => hr ((rightB_iff y m n).1 h)
    have hz : dayZ [a, b, c, d, e] y m n = false := by unfold dayZ; rw [hrb]; simp
    unfold D.dateV at HO
    rw [hz]
    clear hz hrb hr HK
    go_enter Tryz.func44, Tryz.ntmps44
    go_wp2_with fail
    rw [← hWB]
    clear hWB
    refine (HO.out _ HL0.out.days).mono ?_
    rintro x w1 ⟨rfl, hb⟩
    have HB1 := Lib.hid (hb0.trans (hb.mono hb0.size))
    clear hb hb0 hc0 hd0 HL0 HO
    go_wp2_with fail
    go_ret
    exact ⟨rfl, HB1.out⟩
/-! times -/
/-- Does the time fit? -/
def atZ (L : List (BitVec 64)) (y m n h mi s : Int) : Bool := decide (s = 0) && (hasB (L.getD 0 0#64) mi && (hasB (L.getD 1 0#64) h && dayZ L y m n))
end Go.Proofs.YtbaobjbckabnhaaGreatDoor
/- At: walked, of the program. -/
namespace Go.Proofs.YtbaobjbckabnhaaGreatDoor
open Go.RowKit

theorem tat_is (t y m d h mi s : Int) (w : World) (hL : D.Laid w) (hc : D.CivOf t y m d h mi s) :
    Calls Tryz.prog 42 #[.int .i64 t] w fun e w' => e = .returned (.tuple #[.agg #[.int .i64 y, .int .i64 m, .int .i64 d, .int .i64 h, .int .i64 mi, .int .i64 s], .int .i64 0]) ∧ Below w.heap.size w w' := by
  refine (D.tat_ok t w hL hc.timeZ).mono ?_
  rintro e w' ⟨y', m', d', h', mi', s', rfl, hc', hb⟩
  obtain ⟨rfl, rfl, rfl, rfl, rfl, rfl⟩ := D.civ_inj hc hc'
  exact ⟨rfl, hb⟩
set_option maxRecDepth 100000 in
set_option maxHeartbeats 2000000 in
theorem cat_is (L : List (BitVec 64)) (t y m n h mi s : Int) (w : World) (hL : LaidC w) (h5 : L.length = 5) (hc : D.CivOf t y m n h mi s) :
    Calls Tryz.prog 24 #[cronV L, .int .i64 t] w fun x w' => x = .returned (.bool (atZ L y m n h mi s)) ∧ Below w.heap.size w w' := by
  have HL := Lib.hid hL
  have HT := Lib.hid (fun W hW => tat_is t y m n h mi s W hW hc)
  have HD := Lib.hid (fun W hW => cday_any L y m n W hW h5)
  clear hL hc
  obtain ⟨a, b, c, d, e, rfl⟩ := list_five h5
  rw [cronV_five] at *
  unfold fiveV at *
  have hz : atZ [a, b, c, d, e] y m n h mi s = (decide (s = 0) && (hasB a mi && (hasB b h && dayZ [a, b, c, d, e] y m n))) := rfl
  rw [hz]
  clear hz
  generalize dayZ [a, b, c, d, e] y m n = dz at *
  have hb0 : Below w.heap.size w (w.alloc (.cells #[.int .u64 (U a), .int .u64 (U b), .int .u64 (U c), .int .u64 (U d), .int .u64 (U e)] 31)) := (Below.refl _ w).alloc (Nat.le_refl _) _
  have hc0 := CronAt.new w a b c d e
  have HM := Lib.hid (fun W => has_any a mi W); have HH := Lib.hid (fun W => has_any b h W)
  by_cases hs : s = 0
  · subst hs
    rw [decide_eq_true rfl, Bool.true_and]
    cases hm : hasB a mi with
    | false =>
      rw [hm] at HM
      clear hm HH HD
      rw [Bool.false_and]
      go_enter Tryz.func24, Tryz.ntmps24
      go_wp2_with fail
      have HL0 := Lib.hid (HL.out.on hb0)
      generalize w.alloc _ = w0 at *
      refine (HT.out _ HL0.out.days).mono ?_
      rintro x w1 ⟨rfl, hb⟩
      have HB1 := Lib.hid (hb0.trans (hb.mono hb0.size)); have HL1 := Lib.hid (HL0.out.on hb); have HC1 := Lib.hid (hc0.on hb)
      have hlt := HC1.out.lt
      clear hb hb0 hc0 HL0 HT
      obtain ⟨c0, c1, c2, c3, c4⟩ := HC1.out.five
      go_wp2_with fail
      have HB2 := Lib.hid (HB1.out.alloc HB1.out.size (.cells #[.int .i64 y, .int .i64 m, .int .i64 n, .int .i64 h, .int .i64 mi, .int .i64 0] 81)); have HL2 := Lib.hid (HL1.out.on ((Below.refl _ w1).alloc (Nat.le_refl _) (.cells #[.int .i64 y, .int .i64 m, .int .i64 n, .int .i64 h, .int .i64 mi, .int .i64 0] 81)))
      refine (HM.out _).mono ?_
      rintro x w3 ⟨rfl, rfl⟩
      go_wp2_with fail
      go_ret
      exact ⟨rfl, HB2.out⟩
    | true =>
      rw [hm] at HM
      clear hm
      rw [Bool.true_and]
      cases hh : hasB b h with
      | false =>
        rw [hh] at HH
        clear hh HD
        rw [Bool.false_and]
        go_enter Tryz.func24, Tryz.ntmps24
        go_wp2_with fail
        have HL0 := Lib.hid (HL.out.on hb0)
        generalize w.alloc _ = w0 at *
        refine (HT.out _ HL0.out.days).mono ?_
        rintro x w1 ⟨rfl, hb⟩
        have HB1 := Lib.hid (hb0.trans (hb.mono hb0.size)); have HL1 := Lib.hid (HL0.out.on hb); have HC1 := Lib.hid (hc0.on hb)
        have hlt := HC1.out.lt
        clear hb hb0 hc0 HL0 HT
        obtain ⟨c0, c1, c2, c3, c4⟩ := HC1.out.five
        go_wp2_with fail
        have HB2 := Lib.hid (HB1.out.alloc HB1.out.size (.cells #[.int .i64 y, .int .i64 m, .int .i64 n, .int .i64 h, .int .i64 mi, .int .i64 0] 81)); have HL2 := Lib.hid (HL1.out.on ((Below.refl _ w1).alloc (Nat.le_refl _) (.cells #[.int .i64 y, .int .i64 m, .int .i64 n, .int .i64 h, .int .i64 mi, .int .i64 0] 81)))
        refine (HM.out _).mono ?_
        rintro x w3 ⟨rfl, rfl⟩
        go_wp2_with fail
        refine (HH.out _).mono ?_
        rintro x w3 ⟨rfl, rfl⟩
        go_wp2_with fail
        go_ret
        exact ⟨rfl, HB2.out⟩
      | true =>
        rw [hh] at HH
        clear hh
        rw [Bool.true_and]
        go_enter Tryz.func24, Tryz.ntmps24
        go_wp2_with fail
        have HL0 := Lib.hid (HL.out.on hb0)
        generalize w.alloc _ = w0 at *
        refine (HT.out _ HL0.out.days).mono ?_
        rintro x w1 ⟨rfl, hb⟩
        have HB1 := Lib.hid (hb0.trans (hb.mono hb0.size)); have HL1 := Lib.hid (HL0.out.on hb); have HC1 := Lib.hid (hc0.on hb)
        have hlt := HC1.out.lt
        clear hb hb0 hc0 HL0 HT
        obtain ⟨c0, c1, c2, c3, c4⟩ := HC1.out.five
        go_wp2_with fail
        have HB2 := Lib.hid (HB1.out.alloc HB1.out.size (.cells #[.int .i64 y, .int .i64 m, .int .i64 n, .int .i64 h, .int .i64 mi, .int .i64 0] 81)); have HL2 := Lib.hid (HL1.out.on ((Below.refl _ w1).alloc (Nat.le_refl _) (.cells #[.int .i64 y, .int .i64 m, .int .i64 n, .int .i64 h, .int .i64 mi, .int .i64 0] 81)))
        refine (HM.out _).mono ?_
        rintro x w3 ⟨rfl, rfl⟩
        go_wp2_with fail
        refine (HH.out _).mono ?_
        rintro x w3 ⟨rfl, rfl⟩
        go_wp2_with fail
        refine (HD.out _ HL2.out).mono ?_
        rintro x w3 ⟨rfl, hb⟩
        have HB3 := Lib.hid (HB2.out.trans (hb.mono HB2.out.size))
        clear hb
        go_wp2_with fail
        go_ret
        exact ⟨rfl, HB3.out⟩
  · have hs' : (s == 0) = false := by simpa using hs
    rw [decide_eq_false hs, Bool.false_and]
    clear HM HH HD
    go_enter Tryz.func24, Tryz.ntmps24
    go_wp2_with fail
    have HL0 := Lib.hid (HL.out.on hb0)
    generalize w.alloc _ = w0 at *
    refine (HT.out _ HL0.out.days).mono ?_
    rintro x w1 ⟨rfl, hb⟩
    have HB1 := Lib.hid (hb0.trans (hb.mono hb0.size)); have HL1 := Lib.hid (HL0.out.on hb); have HC1 := Lib.hid (hc0.on hb)
    have hlt := HC1.out.lt
    clear hb hb0 hc0 HL0 HT
    obtain ⟨c0, c1, c2, c3, c4⟩ := HC1.out.five
    go_wp2_with fail
    have HB2 := Lib.hid (HB1.out.alloc HB1.out.size (.cells #[.int .i64 y, .int .i64 m, .int .i64 n, .int .i64 h, .int .i64 mi, .int .i64 s] 81)); have HL2 := Lib.hid (HL1.out.on ((Below.refl _ w1).alloc (Nat.le_refl _) (.cells #[.int .i64 y, .int .i64 m, .int .i64 n, .int .i64 h, .int .i64 mi, .int .i64 s] 81)))
    go_ret
    exact ⟨rfl, HB2.out⟩
theorem cat_no (L : List (BitVec 64)) (t : Int) (w : World) (_hL : LaidC w) (h5 : L.length = 5) (hc : ¬ D.TimeZ t) :
    Calls Tryz.prog 24 #[cronV L, .int .i64 t] w fun x w' => x = .returned (.bool false) ∧ Below w.heap.size w w' := by
  have HT := Lib.hid (fun W => D.tat_no t W hc)
  unfold D.civV at HT
  clear hc _hL
  obtain ⟨a, b, c, d, e, rfl⟩ := list_five h5
  rw [cronV_five] at *
  unfold fiveV at *
  have hb0 : Below w.heap.size w (w.alloc (.cells #[.int .u64 (U a), .int .u64 (U b), .int .u64 (U c), .int .u64 (U d), .int .u64 (U e)] 31)) := (Below.refl _ w).alloc (Nat.le_refl _) _
  go_enter Tryz.func24, Tryz.ntmps24
  go_wp2_with fail
  refine (HT.out _).mono ?_
  rintro x w1 ⟨rfl, hb⟩
  have HB1 := Lib.hid (hb0.trans (hb.mono hb0.size))
  clear hb hb0 HT
  go_wp2_with fail
  go_ret
  exact ⟨rfl, HB1.out.alloc HB1.out.size _⟩
end Go.Proofs.YtbaobjbckabnhaaGreatDoor
/- wakes: walked. -/
namespace Go.Proofs.YtbaobjbckabnhaaGreatDoor
open Go.RowKit

theorem w_cr1 : creadV [48, 32, 57, 32, 49, 51, 32, 42, 32, 77, 79, 78, 45, 70, 82, 73] = .tuple #[.agg #[.int .u64 1, .int .u64 512, .int .u64 8192, .int .u64 8190, .int .u64 62], .int .i64 0, .int .i64 0] := creadV_some w_cron1
theorem w_cr2 : creadV [48, 32, 50, 53, 32, 42, 32, 42, 32, 42] = .tuple #[.agg #[.int .u64 0, .int .u64 0, .int .u64 0, .int .u64 0, .int .u64 0], .int .i64 2, .int .i64 170] := creadV_none w_cron2
def wakeL : List (BitVec 64) := [1#64, 512#64, 8192#64, 8190#64, 62#64]
theorem w_right : crB wakeL = true := by decide +kernel
theorem w_ct : ctextV wakeL = .tuple #[.string ⟨#[48, 32, 57, 32, 49, 51, 32, 42, 32, 49, 45, 53]⟩, .int .i64 0] := by
  unfold ctextV
  rw [w_right, if_pos rfl]
  show errT (textC 1#64 512#64 8192#64 8190#64 62#64) 0 = _
  rw [w_cron3]; rfl
theorem w_day : dayZ wakeL 2026 11 16 = true := by decide +kernel
theorem w_civ : D.CivOf 32400 1970 1 1 9 0 0 := ⟨⟨by decide, by decide, by decide, by decide⟩, by decide, by decide, by decide, by decide, by decide, by decide, by decide +kernel⟩
theorem w_at : atZ wakeL 1970 1 1 9 0 0 = true := by decide +kernel
end Go.Proofs.YtbaobjbckabnhaaGreatDoor
/- The document's Day and At: walked. -/
namespace Go.Proofs.YtbaobjbckabnhaaGreatDoor
open Go.RowKit

/-- What the document reckons. -/
theorem fit_ref {a b c d e : BitVec 64} {y m n : Int} (h : D.RightZ y m n) (hk : crB [a, b, c, d, e] = true) :
    fitD [a, b, c, d, e] y m n = (hasB d m && (if (elems c).length = 31 then hasB e (wdZ y m n) else if (elems e).length = 7 then hasB c n else hasB c n || hasB e (wdZ y m n))) := by
  obtain ⟨h1, h2, h3, h4⟩ := right_in h
  obtain ⟨w0, w6⟩ := wd_in y m n
  have i2 : (elems c).length = 31 ↔ c = wholeM 2 := whole_iff (k := 2) (by omega) (crB_field hk 2 (by omega))
  have i4 : (elems e).length = 7 ↔ e = wholeM 4 := whole_iff (k := 4) (by omega) (crB_field hk 4 (by omega))
  rw [hasB_pos (show 0 ≤ m by omega), hasB_pos (show 0 ≤ n by omega), hasB_pos w0]
  show dayF c d e n.toNat m.toNat (wdZ y m n).toNat = _
  unfold dayF
  simp only [i2, i4]
theorem crB_five' (a b c d e : BitVec 64) (w : World) :
    Calls Tryz.prog 32 #[.agg #[.int .u64 (U a), .int .u64 (U b), .int .u64 (U c), .int .u64 (U d), .int .u64 (U e)]] w fun x w' => x = .returned (.bool (crB [a, b, c, d, e])) ∧ Below w.heap.size w w' := by
  rw [crB_five]; exact rright7_any a b c d e w
end Go.Proofs.YtbaobjbckabnhaaGreatDoor
/- CronFits: walked. -/
namespace Go.Proofs.YtbaobjbckabnhaaGreatDoor
open Go.RowKit

/-- A row of dates, where it lies. -/
def DatesAt (w : World) (B : Nat) (A : Option Addr) (n : Nat) : Prop := ∀ k, k < n → ∃ b o y m d, A = some ⟨b, o, none⟩ ∧ b < B ∧ w.cell? ⟨b, o + k * 3, none⟩ = some (.int .i64 y) ∧ w.cell? ⟨b, o + k * 3 + 1, none⟩ = some (.int .i64 m) ∧ w.cell? ⟨b, o + k * 3 + 2, none⟩ = some (.int .i64 d)
theorem DatesAt.on {w w' : World} {B : Nat} {A : Option Addr} {n : Nat} (h : DatesAt w B A n) (hb : Below B w w') : DatesAt w' B A n := by
  intro k hk
  obtain ⟨b, o, y, m, d, e, hB, h0, h1, h2⟩ := h k hk
  exact ⟨b, o, y, m, d, e, hB, (hb.cell (p := ⟨b, o + k * 3, none⟩) hB).trans h0, (hb.cell (p := ⟨b, o + k * 3 + 1, none⟩) hB).trans h1, (hb.cell (p := ⟨b, o + k * 3 + 2, none⟩) hB).trans h2⟩
/-- A row of times, where it lies. -/
def TimesAt (w : World) (B : Nat) (A : Option Addr) (n : Nat) : Prop := ∀ k, k < n → ∃ (b o : Nat) (t : Int), A = some ⟨b, o, none⟩ ∧ b < B ∧ w.cell? ⟨b, o + k, none⟩ = some (.int .i64 t)
theorem TimesAt.on {w w' : World} {B : Nat} {A : Option Addr} {n : Nat} (h : TimesAt w B A n) (hb : Below B w w') : TimesAt w' B A n := by
  intro k hk
  obtain ⟨b, o, t, e, hB, h0⟩ := h k hk
  exact ⟨b, o, t, e, hB, (hb.cell (p := ⟨b, o + k, none⟩) hB).trans h0⟩
end Go.Proofs.YtbaobjbckabnhaaGreatDoor
/- CronTells: walked. -/
namespace Go.Proofs.YtbaobjbckabnhaaGreatDoor
open Go.RowKit

/-- A row of crons, where it lies. -/
def CronsAt (w : World) (B : Nat) (A : Option Addr) (n : Nat) : Prop := ∀ k, k < n → ∃ (g o : Nat) (a b c d e : BitVec 64), A = some ⟨g, o, none⟩ ∧ g < B ∧ w.cell? ⟨g, o + k * 5, none⟩ = some (.int .u64 (U a)) ∧ w.cell? ⟨g, o + k * 5 + 1, none⟩ = some (.int .u64 (U b)) ∧ w.cell? ⟨g, o + k * 5 + 2, none⟩ = some (.int .u64 (U c)) ∧ w.cell? ⟨g, o + k * 5 + 3, none⟩ = some (.int .u64 (U d)) ∧ w.cell? ⟨g, o + k * 5 + 4, none⟩ = some (.int .u64 (U e))
theorem CronsAt.on {w w' : World} {B : Nat} {A : Option Addr} {n : Nat} (h : CronsAt w B A n) (hb : Below B w w') : CronsAt w' B A n := by
  intro k hk
  obtain ⟨g, o, a, b, c, d, e, hA, hB, h0, h1, h2, h3, h4⟩ := h k hk
  exact ⟨g, o, a, b, c, d, e, hA, hB, (hb.cell (p := ⟨g, o + k * 5, none⟩) hB).trans h0, (hb.cell (p := ⟨g, o + k * 5 + 1, none⟩) hB).trans h1, (hb.cell (p := ⟨g, o + k * 5 + 2, none⟩) hB).trans h2, (hb.cell (p := ⟨g, o + k * 5 + 3, none⟩) hB).trans h3, (hb.cell (p := ⟨g, o + k * 5 + 4, none⟩) hB).trans h4⟩
end Go.Proofs.YtbaobjbckabnhaaGreatDoor
/- CronBack: walked. -/
namespace Go.Proofs.YtbaobjbckabnhaaGreatDoor
open Go.RowKit

theorem lib_count (c : UInt8) : ∀ (n : Nat) (l : List UInt8), l.length ≤ n → Lib.count l [c] = l.count c
  | 0, l, h => by
    have : l = [] := List.eq_nil_of_length_eq_zero (by omega)
    subst this
    rcases index_one c [] with ⟨_, h2⟩ | ⟨r, h1, _, _⟩
    · rw [Lib.count_miss h2]; rfl
    · simp [cutB] at h1
  | n + 1, l, h => by
    rcases index_one c l with ⟨h1, h2⟩ | ⟨r, h1, h2, h3⟩
    · rw [Lib.count_miss h2, List.count_eq_zero.2 h1]
    · have hn : c ∉ (cutB l c).1 := (cutB_spec l c).1
      have hd : l.drop ((cutB l c).1.length + [c].length) = r := by
        generalize (cutB l c).1 = a at *
        subst h1
        simp
      rw [Lib.count_hit (by simp) h3, hd, lib_count c n r (by have := congrArg List.length h1; simp at this; omega)]
      generalize (cutB l c).1 = a at *
      subst h1
      rw [List.count_append, List.count_eq_zero.2 hn, List.count_cons_self]
      omega
theorem ct_read {a b c d e : BitVec 64} (h : crB [a, b, c, d, e] = true) : creadV (ctextL [a, b, c, d, e]) = .tuple #[.agg #[.int .u64 (U a), .int .u64 (U b), .int .u64 (U c), .int .u64 (U d), .int .u64 (U e)], .int .i64 0, .int .i64 0] :=
  creadV_some (read_textC (crB_field h 0 (by omega)) (crB_field h 1 (by omega)) (crB_field h 2 (by omega)) (crB_field h 3 (by omega)) (crB_field h 4 (by omega)))
theorem ct_count {a b c d e : BitVec 64} (h : crB [a, b, c, d, e] = true) : Lib.countB ⟨(ctextL [a, b, c, d, e]).toArray⟩ ⟨#[32]⟩ = 4 := by
  show Lib.count (ctextL [a, b, c, d, e]).toArray.toList [32] = 4
  rw [List.toList_toArray, lib_count 32 _ _ (Nat.le_refl _)]
  exact count_blank (crB_field h 0 (by omega)) (crB_field h 1 (by omega)) (crB_field h 2 (by omega)) (crB_field h 3 (by omega)) (crB_field h 4 (by omega))
theorem read_cr {s : List UInt8} {l : List (BitVec 64)} {p : Nat} (h : readC s = (some l, p)) : l.length = 5 ∧ p = 0 ∧ crB l = true := by
  obtain ⟨h1, h2, h3⟩ := readC_right h
  refine ⟨h1, h2, crB_yes fun k hk => ?_⟩
  rw [fieldB_iff, List.getD_eq_getElem?_getD, List.getElem?_eq_getElem (by omega)]
  exact h3 k (by omega)
theorem ctextV_yes {L : List (BitVec 64)} (h : crB L = true) : ctextV L = .tuple #[.string ⟨(ctextL L).toArray⟩, .int .i64 0] := by unfold ctextV; rw [h]; rfl
theorem ctextV_no {L : List (BitVec 64)} (h : crB L = false) : ctextV L = .tuple #[.string ⟨#[]⟩, .int .i64 170] := by unfold ctextV; rw [h]; rfl
theorem crE_yes {L : List (BitVec 64)} (h : crB L = true) : crE L = 0 := by unfold crE; rw [h]; rfl
theorem crE_no {L : List (BitVec 64)} (h : crB L = false) : crE L = 170 := by unfold crE; rw [h]; rfl
theorem count_sp (l : List UInt8) (w : World) (hL : Laid w) (hl : l.length ≤ 256) :
    Calls Tryz.prog 138 #[.string ⟨l.toArray⟩, .string ⟨#[32]⟩] w fun e w' => e = .returned (.int .i64 (Lib.countB ⟨l.toArray⟩ ⟨#[32]⟩ : Nat)) ∧ w' = w := by
  obtain ⟨m, hm⟩ := hL.maxLen
  have hz : (⟨l.toArray⟩ : ByteArray).size = l.length := by show l.toArray.size = _; simp
  exact strings_Count_any ⟨l.toArray⟩ ⟨#[32]⟩ m w (by rw [hz]; omega) hm (by decide)
def cut256 (s : List UInt8) : List UInt8 := s.take 256
theorem cut256_len (s : List UInt8) : (cut256 s).length ≤ 256 := by unfold cut256; rw [List.length_take]; omega
theorem cut256_at (s : ByteArray) : s.extract 0 (min (s.size : Int) 256).toNat = ⟨(cut256 s.data.toList).toArray⟩ := by
  have hx : s.data.toList.take (min (s.size : Int) 256).toNat = cut256 s.data.toList := by
    unfold cut256
    by_cases h : s.size ≤ 256
    · rw [List.take_of_length_le (by rw [len_list]; omega), List.take_of_length_le (by rw [len_list]; omega)]
    · rw [show (min (s.size : Int) 256).toNat = 256 by omega]
  rw [← hx]
  exact Value.string.inj (ext_head s _)
end Go.Proofs.YtbaobjbckabnhaaGreatDoor
/- What comes in: crons, rows of texts, crons, dates and times. -/
namespace Go.Proofs.YtbaobjbckabnhaaGreatDoor
open Go.ChangeShapes Go.WideShapes Go.ChangeAt Go.WideMaps Go.WideElems Go.RowKit Go.Deep Go.Joins

theorem bounds_u64 {a : Int} (h : (Lit.int .u64 a).wf = true) : 0 ≤ a ∧ a ≤ 18446744073709551615 := by
  simp [Lit.wf, IntKind.min, IntKind.max, IntKind.bits, IntKind.signed] at h; omega
theorem bounds_i64' {a : Int} (h : (Lit.int .i64 a).wf = true) : -9223372036854775808 ≤ a ∧ a ≤ 9223372036854775807 := by
  simp [Lit.wf, IntKind.min, IntKind.max, IntKind.bits, IntKind.signed] at h; omega
theorem mask_of {a : Int} (h : (Lit.int .u64 a).wf = true) : ∃ m : BitVec 64, a = U m := by
  obtain ⟨h0, h1⟩ := bounds_u64 h
  exact U_of a h0 h1
theorem cMask : Tryz.prog.cellsOf 29 = 1 := by kernel_rfl
theorem cCron : Tryz.prog.cellsOf 31 = 5 := by kernel_rfl
theorem cDate : Tryz.prog.cellsOf 79 = 3 := by kernel_rfl
theorem cI64 : Tryz.prog.cellsOf 2 = 1 := by kernel_rfl
theorem cron_cells {H : Type} {enc : TypeId × Value → H} {W : World} {fuel : Nat} {v0 v1 v2 v3 v4 : Value} {x : DataW H × List MemPlace}
    (h : DataW.trod enc Tryz.prog W 0 (fun _ => true) true fuel 31 [v0, v1, v2, v3, v4] = some x) : ∃ a b c d e : BitVec 64, v0 = .int .u64 (U a) ∧ v1 = .int .u64 (U b) ∧ v2 = .int .u64 (U c) ∧ v3 = .int .u64 (U d) ∧ v4 = .int .u64 (U e) := by
  obtain ⟨ys, n', _, _, _, hyl, hfl⟩ := DataW.trod_struct Tryz.underlying31 h
  match ys, hyl with
  | [y0, y1, y2, y3, y4], _ =>
    have g0 : DataW.trod enc Tryz.prog W 0 (fun _ => true) true n' 29 [v0] = some y0 := by have := hfl 0 _ rfl; simpa [cMask] using this
    have g1 : DataW.trod enc Tryz.prog W 0 (fun _ => true) true n' 29 [v1] = some y1 := by have := hfl 1 _ rfl; simpa [cMask] using this
    have g2 : DataW.trod enc Tryz.prog W 0 (fun _ => true) true n' 29 [v2] = some y2 := by have := hfl 2 _ rfl; simpa [cMask] using this
    have g3 : DataW.trod enc Tryz.prog W 0 (fun _ => true) true n' 29 [v3] = some y3 := by have := hfl 3 _ rfl; simpa [cMask] using this
    have g4 : DataW.trod enc Tryz.prog W 0 (fun _ => true) true n' 29 [v4] = some y4 := by have := hfl 4 _ rfl; simpa [cMask] using this
    obtain ⟨z0, e0, _, w0⟩ := DataW.trod_int Tryz.underlying29 g0
    obtain ⟨z1, e1, _, w1⟩ := DataW.trod_int Tryz.underlying29 g1
    obtain ⟨z2, e2, _, w2⟩ := DataW.trod_int Tryz.underlying29 g2
    obtain ⟨z3, e3, _, w3⟩ := DataW.trod_int Tryz.underlying29 g3
    obtain ⟨z4, e4, _, w4⟩ := DataW.trod_int Tryz.underlying29 g4
    injection e0 with e0; injection e1 with e1; injection e2 with e2; injection e3 with e3; injection e4 with e4
    obtain ⟨a, rfl⟩ := mask_of w0; obtain ⟨b, rfl⟩ := mask_of w1; obtain ⟨c, rfl⟩ := mask_of w2; obtain ⟨d, rfl⟩ := mask_of w3; obtain ⟨e, rfl⟩ := mask_of w4
    exact ⟨a, b, c, d, e, e0, e1, e2, e3, e4⟩
set_option maxRecDepth 100000 in
theorem open_cron {H : Type} {enc : TypeId × Value → H} {W : World} {b0 : Nat} {v : Value} {d : DataW H} {p : List MemPlace}
    (hv : Value.okWide Tryz.prog W .any b0 31 v) (h : DataW.Trod enc Tryz.prog W 0 (fun _ => true) true 31 v d p) : ∃ L : List (BitVec 64), L.length = 5 ∧ v = cronV L := by
  obtain ⟨cs, rfl, hsz⟩ := okWide_struct Tryz.underlying31 hv
  rw [cCron] at hsz
  obtain ⟨l⟩ := cs
  match l, hsz with
  | [c0, c1, c2, c3, c4], _ =>
    obtain ⟨fuel, hf⟩ := h
    obtain ⟨a, b, c, d, e, rfl, rfl, rfl, rfl, rfl⟩ := cron_cells hf
    exact ⟨[a, b, c, d, e], rfl, rfl⟩
set_option maxRecDepth 100000 in
theorem open_texts {H : Type} {enc : TypeId × Value → H} {W : World} {A : Option Addr} {len cap : Nat} {d : DataW H} {p : List MemPlace}
    (h : DataW.Trod enc Tryz.prog W 0 (fun _ => true) true 112 (.slice A len cap) d p) :
    len ≤ maxLen ∧ ArrS W W.heap.size A len := by
  obtain ⟨fuel, hf⟩ := h
  rcases open_strs Tryz.underlying112 Tryz.underlying9 cStr hf with ⟨hcs, _⟩ | ⟨a, len', cap', m, Sx, hcs, _, hl, hm, hz, _, hcell⟩
  · have e : (Value.slice A len cap) = .slice none 0 0 := by simpa [Value.cells] using hcs
    cases e
    exact ⟨by unfold maxLen; omega, fun k hk => absurd hk (by omega)⟩
  · have e : (Value.slice A len cap) = .slice (some a) len' cap' := by simpa [Value.cells] using hcs
    cases e
    simp only [if_true] at hz
    refine ⟨by omega, fun k hk => ?_⟩
    obtain ⟨b, off, rfl⟩ : ∃ b off, a = ⟨b, off, none⟩ := by
      have k0 := (hcell 0 (by omega)).1
      obtain ⟨b, off, spot⟩ := a
      have hspot : spot = none := by simpa [Addr.add] using World.cell?_spot k0
      subst hspot
      exact ⟨b, off, rfl⟩
    obtain ⟨hc, hs⟩ := hcell k (by omega)
    rw [Go.WideShapes.add_plain] at hc
    exact ⟨b, off, Sx k, rfl, lt_of_cell hc, hc, hs⟩
set_option maxRecDepth 100000 in
theorem open_times {H : Type} {enc : TypeId × Value → H} {W : World} {A : Option Addr} {len cap : Nat} {d : DataW H} {p : List MemPlace}
    (h : DataW.Trod enc Tryz.prog W 0 (fun _ => true) true 43 (.slice A len cap) d p) :
    len ≤ maxLen ∧ TimesAt W W.heap.size A len := by
  obtain ⟨fuel, hf⟩ := h
  rcases open_ints Tryz.underlying43 Tryz.underlying2 cI64 hf with ⟨hcs, _⟩ | ⟨a, len', cap', zs, hcs, _, hl, hm, hz, _, hcell, hwz⟩
  · have e : (Value.slice A len cap) = .slice none 0 0 := by simpa [Value.cells] using hcs
    cases e
    exact ⟨by unfold maxLen; omega, fun k hk => absurd hk (by omega)⟩
  · have e : (Value.slice A len cap) = .slice (some a) len' cap' := by simpa [Value.cells] using hcs
    cases e
    simp only [if_true] at hz
    refine ⟨by omega, fun k hk => ?_⟩
    obtain ⟨b, off, rfl, hc⟩ := ints_at hcell (by omega)
    have hck := hc k (by omega)
    exact ⟨b, off, _, rfl, lt_of_cell hck, hck⟩
end Go.Proofs.YtbaobjbckabnhaaGreatDoor
