/- What First and Last tell, one behind the other: plain facts. -/
import Derived.Test.YtkakncgdhangpaaDoorLast
import Derived.Test.YtkakncgdhangpaaDoorBackM
namespace Go.Proofs.YtkakncgdhangpaaDoor
open Go.RowKit

theorem find_next : ∀ (l : List Nat), l.Pairwise (· < ·) → ∀ (k e : Nat), l[k]? = some e → l.find? (fun y : Nat => decide ((e : Int) + 1 ≤ (y : Int))) = l[k + 1]?
  | [], _, k, e, h => by simp at h
  | a :: l, hs, 0, e, h => by
    simp at h
    subst h
    rw [List.find?_cons, decide_eq_false (by omega)]
    cases l with
    | nil => rfl
    | cons b l =>
      have : a < b := List.rel_of_pairwise_cons hs (by simp)
      simp only [List.find?_cons]
      rw [decide_eq_true (by omega)]
      rfl
  | a :: l, hs, k + 1, e, h => by
    have hm : e ∈ l := List.mem_of_getElem? (by simpa using h)
    have : a < e := List.rel_of_pairwise_cons hs hm
    rw [List.find?_cons, decide_eq_false (by omega)]
    exact find_next l hs.of_cons k e (by simpa using h)
theorem least_next (x : BitVec 64) (k e : Nat) (h : (elems x)[k]? = some e) : least x ((e : Int) + 1) = (elems x)[k + 1]? := find_next _ (elems_sorted x) k e h
theorem least_zero (x : BitVec 64) : least x 0 = (elems x)[0]? := by
  unfold least
  cases elems x with
  | nil => rfl
  | cons a l => simp
theorem take_less : ∀ (l : List Nat), l.Pairwise (· < ·) → ∀ (k e : Nat), l[k]? = some e → l.takeWhile (fun y : Nat => decide ((y : Int) ≤ (e : Int) - 1)) = l.take k
  | [], _, k, e, h => by simp at h
  | a :: l, hs, 0, e, h => by
    simp at h
    subst h
    rw [List.takeWhile_cons, decide_eq_false (by omega)]
    rfl
  | a :: l, hs, k + 1, e, h => by
    have hm : e ∈ l := List.mem_of_getElem? (by simpa using h)
    have : a < e := List.rel_of_pairwise_cons hs hm
    rw [List.takeWhile_cons, decide_eq_true (by omega), List.take_succ_cons]
    exact congrArg (a :: ·) (take_less l hs.of_cons k e (by simpa using h))
theorem great_top (x : BitVec 64) : great x 63 = (elems x).reverse[0]? := by
  rw [great_all (fun y hy => by have := elems_lt hy; omega), List.getLast?_eq_head?_reverse, List.head?_eq_getElem?]
theorem great_next (x : BitVec 64) (k e : Nat) (h : (elems x).reverse[k]? = some e) : great x ((e : Int) - 1) = (elems x).reverse[k + 1]? := by
  have hk : k < (elems x).length := by have := (List.getElem?_eq_some_iff.1 h).1; simpa using this
  rw [List.getElem?_reverse hk] at h
  unfold great
  rw [take_less _ (elems_sorted x) _ _ h]
  by_cases h2 : k + 1 < (elems x).length
  · rw [List.getElem?_reverse h2, List.getLast?_eq_getElem?, List.length_take, List.getElem?_take]
    rw [if_pos (by omega)]
    congr 1
    omega
  · rw [show (elems x).length - 1 - k = 0 by omega, List.getElem?_eq_none (by simp; omega)]
    rfl
theorem least_ge {x : BitVec 64} {b : Int} {k : Nat} (h : least x b = some k) : b ≤ (k : Int) ∧ x.getLsbD k = true := by
  have h1 := List.find?_some h
  have h2 := List.mem_of_find?_eq_some h
  exact ⟨by simpa using h1, mem_elems.1 h2⟩
theorem mem_while {p : Nat → Bool} {y : Nat} : ∀ {l : List Nat}, y ∈ l.takeWhile p → p y = true
  | [], h => by simp at h
  | a :: l, h => by
    rw [List.takeWhile_cons] at h
    by_cases ha : p a = true
    · rw [ha] at h
      rcases List.mem_cons.1 h with rfl | h
      · exact ha
      · exact mem_while h
    · simp only [Bool.not_eq_true] at ha
      rw [ha] at h
      simp at h
theorem great_le {x : BitVec 64} {b : Int} {k : Nat} (h : great x b = some k) : (k : Int) ≤ b ∧ x.getLsbD k = true := by
  unfold great at h
  have hm := List.mem_of_getLast? h
  have h1 := mem_while hm
  exact ⟨by simpa using h1, mem_elems.1 ((List.takeWhile_prefix _).subset hm)⟩
theorem elems_nil {x : BitVec 64} (h : (elems x)[0]? = none) : x = 0#64 := by
  have hl : elems x = [] := by
    cases he : elems x with
    | nil => rfl
    | cons a l => rw [he] at h; simp at h
  apply BitVec.eq_of_getLsbD_eq
  intro i hi
  have : i ∉ elems x := by rw [hl]; simp
  rw [mem_elems] at this
  simpa using this
theorem elems_step (x : BitVec 64) (k : Nat) (h : k + 1 < (elems x).length) : (elems x)[k]'(by omega) < (elems x)[k + 1] := List.pairwise_iff_getElem.1 (elems_sorted x) k (k + 1) (by omega) h (by omega)
end Go.Proofs.YtkakncgdhangpaaDoor
