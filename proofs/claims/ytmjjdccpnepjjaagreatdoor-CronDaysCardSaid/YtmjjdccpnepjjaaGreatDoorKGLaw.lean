/- Crons, plain: words as they grow byte by byte; blanks twice, as strings.ReplaceAll tells; blanks counted; a whole field told by how many it has; which dates and times fit. -/
import Derived.Test.YtmjjdccpnepjjaaGreatDoorK4
import Derived.Test.YtmjjdccpnepjjaaGreatDoorKGCron
import Derived.Lib.Replace
namespace Go.Proofs.YtmjjdccpnepjjaaGreatDoor
open Go Go.Op

/-! blanks, twice -/
theorem wide_none : ∀ {l : List UInt8}, (32 : UInt8) ∉ l → wideL l = l
  | [], _ => rfl
  | b :: l, h => by
    have h1 : b ≠ 32 := fun e => h (by simp [e])
    have h2 : (32 : UInt8) ∉ l := fun e => h (by simp [e])
    rw [wideL, if_neg h1, wide_none h2]
theorem wide_append : ∀ (a b : List UInt8), wideL (a ++ b) = wideL a ++ wideL b
  | [], b => rfl
  | c :: a, b => by
    rw [List.cons_append, wideL, wideL, wide_append a b]
    split <;> rfl
theorem wide_len : ∀ (l : List UInt8), (wideL l).length = l.length + l.count 32
  | [] => rfl
  | b :: l => by
    rw [wideL]
    split
    · rename_i e; subst e; simp [wide_len l]; omega
    · rename_i e; rw [List.count_cons_of_ne (fun q => e q)]; simp [wide_len l]; omega
theorem replaceK_wide : ∀ (n : Nat) (l : List UInt8), Lib.count l [32] = n → Lib.replaceK [32] [32, 32] n l = wideL l
  | 0, l, h => by
    rcases index_one 32 l with ⟨h1, h2⟩ | ⟨r, h1, h2, h3⟩
    · rw [Lib.replaceK, wide_none h1]
    · rw [Lib.count_hit (by simp) h3] at h; omega
  | n + 1, l, h => by
    rcases index_one 32 l with ⟨h1, h2⟩ | ⟨r, h1, h2, h3⟩
    · rw [Lib.count_miss h2] at h; omega
    · rw [Lib.count_hit (by simp) h3] at h
      have hn : (32 : UInt8) ∉ (cutB l 32).1 := (cutB_spec l 32).1
      have hd : l.drop ((cutB l 32).1.length + [(32 : UInt8)].length) = r := by
        generalize (cutB l 32).1 = a at *
        subst h1
        simp
      rw [hd] at h
      rw [Lib.replaceK_hit _ _ _ _ _ h3, hd, replaceK_wide n r (by omega)]
      generalize (cutB l 32).1 = a at *
      subst h1
      rw [wide_append, wide_none hn, wideL, if_pos rfl]
      simp
theorem replace_wide (l : List UInt8) : Lib.replaceAll l [32] [32, 32] = wideL l := by
  unfold Lib.replaceAll Lib.replace Lib.replaceNum
  rw [if_neg (by decide), if_pos (by left; decide), replaceK_wide _ l rfl]
theorem count_blank {a b c d e : BitVec 64} (ha : FieldM 0 a) (hb : FieldM 1 b) (hc : FieldM 2 c) (hd : FieldM 3 d) (he : FieldM 4 e) : (textC a b c d e).count 32 = 4 := by
  unfold textC
  have h0 := List.count_eq_zero.2 (text_blank ha).1
  have h1 := List.count_eq_zero.2 (text_blank hb).1
  have h2 := List.count_eq_zero.2 (text_blank hc).1
  have h3 := List.count_eq_zero.2 (text_blank hd).1
  have h4 := List.count_eq_zero.2 (text_blank he).1
  simp [List.count_append, h0, h1, h2, h3, h4]

/-! words, as they grow -/
/-- The words that are closed, and the one that is open. -/
def wordsG : List UInt8 → Nat → Option (Nat × List UInt8) → List (Nat × List UInt8) × Option (Nat × List UInt8)
  | [], _, w => ([], w)
  | b :: l, at_, none => if b = 32 then wordsG l (at_ + 1) none else wordsG l (at_ + 1) (some (at_, [b]))
  | b :: l, at_, some w => if b = 32 then (w :: (wordsG l (at_ + 1) none).1, (wordsG l (at_ + 1) none).2) else wordsG l (at_ + 1) (some (w.1, w.2 ++ [b]))
theorem words_open : ∀ (l : List UInt8) (a : Nat) (w : Option (Nat × List UInt8)), wordsF l a w = (wordsG l a w).1 ++ (wordsG l a w).2.toList
  | [], a, none => rfl
  | [], a, some w => rfl
  | b :: l, a, none => by rw [wordsF, wordsG]; split <;> exact words_open l _ _
  | b :: l, a, some w => by
    rw [wordsF, wordsG]
    split
    · rw [words_open l]; rfl
    · exact words_open l _ _
theorem wordsG_snoc (b : UInt8) : ∀ (l : List UInt8) (a : Nat) (w : Option (Nat × List UInt8)), wordsG (l ++ [b]) a w =
    (if b = 32 then ((wordsG l a w).1 ++ (wordsG l a w).2.toList, none) else match (wordsG l a w).2 with
      | none => ((wordsG l a w).1, some (a + l.length, [b]))
      | some x => ((wordsG l a w).1, some (x.1, x.2 ++ [b])))
  | [], a, none => by simp [wordsG]
  | [], a, some w => by simp [wordsG]
  | c :: l, a, none => by
    rw [List.cons_append, wordsG, wordsG]
    split
    · rw [wordsG_snoc b l, List.length_cons, show a + 1 + l.length = a + (l.length + 1) by omega]
    · rw [wordsG_snoc b l, List.length_cons, show a + 1 + l.length = a + (l.length + 1) by omega]
  | c :: l, a, some w => by
    rw [List.cons_append, wordsG, wordsG]
    split
    · rw [wordsG_snoc b l, List.length_cons, show a + 1 + l.length = a + (l.length + 1) by omega]
      split
      · rfl
      · cases (wordsG l (a + 1) none).2 <;> rfl
    · rw [wordsG_snoc b l, List.length_cons, show a + 1 + l.length = a + (l.length + 1) by omega]
theorem open_last (b : UInt8) (l : List UInt8) : (wordsG (l ++ [b]) 0 none).2.isSome = decide (b ≠ 32) := by
  rw [wordsG_snoc]
  by_cases h : b = 32
  · simp [h]
  · rw [if_neg h]
    cases (wordsG l 0 none).2 <;> simp [h]
/-- The next byte is a blank: the words stay. -/
theorem words_gap (l : List UInt8) : wordsL (l ++ [32]) = wordsL l := by
  unfold wordsL
  rw [words_open, words_open, wordsG_snoc, if_pos rfl]
  simp
/-- A word begins. -/
theorem words_begin {l : List UInt8} {b : UInt8} (hb : b ≠ 32) (h : l = [] ∨ l.getLast? = some 32) : wordsL (l ++ [b]) = wordsL l ++ [(l.length, [b])] := by
  have ho : (wordsG l 0 none).2 = none := by
    rcases h with rfl | h
    · rfl
    · obtain ⟨r, rfl⟩ := List.getLast?_eq_some_iff.1 h
      rw [wordsG_snoc, if_pos rfl]
  unfold wordsL
  rw [words_open, words_open, wordsG_snoc, if_neg hb, ho]
  simp
/-- The last word goes on. -/
theorem words_goes {l : List UInt8} {b c : UInt8} (hb : b ≠ 32) (h : l.getLast? = some c) (hc : c ≠ 32) :
    ∃ r x, wordsL l = r ++ [x] ∧ wordsL (l ++ [b]) = r ++ [(x.1, x.2 ++ [b])] := by
  obtain ⟨q, rfl⟩ := List.getLast?_eq_some_iff.1 h
  have ho := open_last c q
  rw [decide_eq_true hc] at ho
  obtain ⟨x, hx⟩ := Option.isSome_iff_exists.1 ho
  refine ⟨(wordsG (q ++ [c]) 0 none).1, x, ?_, ?_⟩
  · unfold wordsL; rw [words_open, hx]; rfl
  · unfold wordsL; rw [words_open, wordsG_snoc, if_neg hb, hx]; rfl
/-- The same by places: the first so many bytes. -/
theorem words_take {l : List UInt8} {i : Nat} {b : UInt8} (h : l[i]? = some b) :
    (b = 32 → wordsL (l.take (i + 1)) = wordsL (l.take i))
    ∧ (b ≠ 32 → i = 0 ∨ l[i - 1]? = some 32 → wordsL (l.take (i + 1)) = wordsL (l.take i) ++ [(i, [b])])
    ∧ (b ≠ 32 → ∀ c, i ≠ 0 → l[i - 1]? = some c → c ≠ 32 → ∃ r x, wordsL (l.take i) = r ++ [x] ∧ wordsL (l.take (i + 1)) = r ++ [(x.1, x.2 ++ [b])]) := by
  have hi : i < l.length := (List.getElem?_eq_some_iff.1 h).1
  have e : l.take (i + 1) = l.take i ++ [b] := by rw [List.take_add_one, h]; rfl
  have hlast : i ≠ 0 → (l.take i).getLast? = l[i - 1]? := by
    intro h0
    rw [List.getLast?_eq_getElem?, List.length_take, Nat.min_eq_left (by omega), List.getElem?_take_of_lt (by omega)]
  rw [e]
  refine ⟨?_, ?_, ?_⟩
  · rintro rfl; exact words_gap _
  · intro hb h1
    have hlen : (l.take i).length = i := by rw [List.length_take]; omega
    rw [words_begin hb, hlen]
    by_cases h0 : i = 0
    · left; rw [h0]; rfl
    · right; rw [hlast h0]; exact h1.resolve_left h0
  · intro hb c h0 h1 hc
    exact words_goes hb (by rw [hlast h0]; exact h1) hc

/-! a whole field, by how many it has -/
theorem filter_all {α} {p q : α → Bool} : ∀ (l : List α), (∀ x ∈ l, p x = true → q x = true) → (l.filter p).length = (l.filter q).length → ∀ x ∈ l, p x = q x
  | [], _, _ => by simp
  | a :: l, h, hl => by
    have hle : ∀ (l : List α), (∀ x ∈ l, p x = true → q x = true) → (l.filter p).length ≤ (l.filter q).length := by
      intro l
      induction l with
      | nil => simp
      | cons b l ih =>
        intro h
        have := ih (fun x hx => h x (List.mem_cons_of_mem _ hx))
        have hb := h b (List.mem_cons_self ..)
        rw [List.filter_cons, List.filter_cons]
        cases hp : p b <;> cases hq : q b <;> simp [hp, hq] at hb ⊢ <;> omega
    have ha := h a (List.mem_cons_self ..)
    have hr := hle l (fun x hx => h x (List.mem_cons_of_mem _ hx))
    rw [List.filter_cons, List.filter_cons] at hl
    have hpq : p a = q a := by
      cases hp : p a <;> cases hq : q a <;> simp [hp, hq] at ha hl ⊢; omega
    have hl' : (l.filter p).length = (l.filter q).length := by
      rw [hpq] at hl
      split at hl
      · simpa using hl
      · exact hl
    intro x hx
    rcases List.mem_cons.1 hx with rfl | hx
    · exact hpq
    · exact filter_all l (fun x hx => h x (List.mem_cons_of_mem _ hx)) hl' x hx
theorem whole_len {k : Nat} (hk : k < 5) : (elems (wholeM k)).length = hiK k + 1 - loK k := by
  have e : elems (wholeM k) = (List.range 64).filter fun i => decide (loK k ≤ i ∧ i ≤ hiK k) := by
    unfold elems
    refine List.filter_congr fun i hi => ?_
    rw [whole_bit]
    have := List.mem_range.1 hi
    simp [this]
  rw [e]
  rcases (show k = 0 ∨ k = 1 ∨ k = 2 ∨ k = 3 ∨ k = 4 by omega) with rfl | rfl | rfl | rfl | rfl <;> rfl
theorem whole_iff {k : Nat} {m : BitVec 64} (hk : k < 5) (hf : FieldM k m) : (elems m).length = hiK k + 1 - loK k ↔ m = wholeM k := by
  constructor
  · intro h
    rw [← whole_len hk] at h
    unfold elems at h
    refine BitVec.eq_of_getLsbD_eq fun i hi => ?_
    refine filter_all (List.range 64) (fun x hx hp => ?_) h i (List.mem_range.2 hi)
    rw [whole_bit, decide_eq_true_iff]
    exact ⟨List.mem_range.1 hx, hf.2 x hp⟩
  · rintro rfl; exact whole_len hk

/-! which dates fit -/
/-- Does a date with such a day, month and weekday fit? -/
def dayF (day month wd : BitVec 64) (d m w : Nat) : Bool :=
  month.getLsbD m && (if day = wholeM 2 then wd.getLsbD w else if wd = wholeM 4 then day.getLsbD d else day.getLsbD d || wd.getLsbD w)
theorem dayF_whole (day month wd : BitVec 64) (d m w : Nat) (hd : 1 ≤ d ∧ d ≤ 31) (hw : w ≤ 6) :
    dayF (wholeM 2) month wd d m w = (month.getLsbD m && wd.getLsbD w) ∧ dayF day month (wholeM 4) d m w = (month.getLsbD m && day.getLsbD d) := by
  have h2 : (wholeM 2).getLsbD d = true := by rw [whole_bit, decide_eq_true_iff]; exact ⟨by omega, hd.1, hd.2⟩
  have h4 : (wholeM 4).getLsbD w = true := by rw [whole_bit, decide_eq_true_iff]; exact ⟨by omega, by simp [loK], by simp [hiK]; omega⟩
  refine ⟨by unfold dayF; rw [if_pos rfl], ?_⟩
  unfold dayF
  by_cases h : day = wholeM 2
  · rw [if_pos h, h4, h, h2]
  · rw [if_neg h, if_pos rfl]
theorem dayF_else {day month wd : BitVec 64} {d m w : Nat} (hd : 1 ≤ d ∧ d ≤ 31) (hw : w ≤ 6) (h2 : day ≠ wholeM 2) (h4 : wd ≠ wholeM 4) :
    dayF day month wd d m w = (dayF (wholeM 2) month wd d m w || dayF day month (wholeM 4) d m w) := by
  rw [(dayF_whole day month wd d m w hd hw).1, (dayF_whole day month wd d m w hd hw).2]
  unfold dayF
  rw [if_neg h2, if_neg h4]
  cases month.getLsbD m <;> simp [Bool.or_comm]
theorem dayF_more {day month month' wd : BitVec 64} {d m w : Nat} (h : month.getLsbD m = true → month'.getLsbD m = true) (hf : dayF day month wd d m w = true) : dayF day month' wd d m w = true := by
  unfold dayF at hf ⊢
  rw [Bool.and_eq_true] at hf ⊢
  exact ⟨h hf.1, hf.2⟩
end Go.Proofs.YtmjjdccpnepjjaaGreatDoor
