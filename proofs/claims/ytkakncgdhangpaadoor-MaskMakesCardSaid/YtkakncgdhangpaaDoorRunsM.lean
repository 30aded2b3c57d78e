/- The runs as they are gathered one number behind the other: plain facts. -/
import Derived.Test.YtkakncgdhangpaaDoorNextM
import Derived.Test.YtkakncgdhangpaaDoorSpans
namespace Go.Proofs.YtkakncgdhangpaaDoor
open Go.RowKit

theorem hasB_nat (x : BitVec 64) (i : Nat) : hasB x (i : Int) = x.getLsbD i := by unfold hasB; simp
theorem hasB_pred (x : BitVec 64) (i : Nat) : hasB x ((i : Int) - 1) = (decide (0 < i) && x.getLsbD (i - 1)) := by
  unfold hasB
  by_cases h : 0 < i
  · rw [decide_eq_true h, decide_eq_true (by omega), show ((i : Int) - 1).toNat = i - 1 by omega]
  · rw [decide_eq_false h, decide_eq_false (by omega)]; rfl
theorem begins_elems (x : BitVec 64) : elems (begins x) = (elems x).filter fun n : Nat => !hasB x ((n : Int) - 1) := by
  unfold elems
  rw [List.filter_filter]
  apply List.filter_congr
  intro i hi
  rw [begins_bit x i (by simpa using hi), hasB_pred, Bool.and_comm]
theorem run_unique (x : BitVec 64) (b e : Nat) (hb : b ∈ elems (begins x)) (he : b ≤ e) (hin : ∀ j, b ≤ j → j ≤ e → x.getLsbD j = true) (hout : x.getLsbD (e + 1) = false) : runOf (ends x) b = (b, e) := by
  obtain ⟨e', h1, _, h2, h3, h4, h5⟩ := run_spec x b hb
  have : e = e' := by
    rcases Nat.lt_trichotomy e e' with h | h | h
    · have := h4 (e + 1) (by omega) (by omega); rw [hout] at this; cases this
    · exact h
    · have := hin (e' + 1) (by omega) (by omega); rw [h5] at this; cases this
  rw [h1, this]
/-- k numbers have been; these are the runs so far. -/
structure RInv (x : BitVec 64) (k : Nat) (acc : List (Nat × Nat)) : Prop where
  fst : acc.map (·.1) = ((elems x).take k).filter fun n : Nat => !hasB x ((n : Int) - 1)
  ins : ∀ r ∈ acc, r.1 ≤ r.2 ∧ ∀ j, r.1 ≤ j → j ≤ r.2 → x.getLsbD j = true
  last : ∀ e, k = e + 1 → ∃ pre r, acc = pre ++ [r] ∧ (elems x)[e]? = some r.2
  out : ∀ pre r, acc = pre ++ [r] → ∀ s ∈ pre, x.getLsbD (s.2 + 1) = false
theorem RInv.zero (x : BitVec 64) : RInv x 0 [] := ⟨rfl, by simp, fun e h => by omega, fun pre r h => by simp at h⟩
theorem RInv.push {x : BitVec 64} {k q : Nat} {acc : List (Nat × Nat)} (h : RInv x k acc) (hq : (elems x)[k]? = some q) (hh : hasB x ((q : Int) - 1) = false) : RInv x (k + 1) (acc ++ [(q, q)]) := by
  have hqx := mem_elems.1 (List.mem_of_getElem? hq)
  refine ⟨?_, ?_, ?_, ?_⟩
  · rw [List.map_append, h.fst, List.take_add_one, hq, List.filter_append]
    simp [hh]
  · intro r hr
    rcases List.mem_append.1 hr with hr | hr
    · exact h.ins r hr
    · simp at hr
      subst hr
      exact ⟨Nat.le_refl _, fun j h1 h2 => by obtain rfl : j = q := (by simp at h1 h2; omega); exact hqx⟩
  · intro e he
    obtain rfl : k = e := by omega
    exact ⟨acc, (q, q), rfl, hq⟩
  · intro pre r he s hs
    have := List.append_inj' he rfl
    obtain ⟨rfl, _⟩ := this
    rcases Nat.eq_zero_or_pos k with h0 | h0
    · subst h0
      have : acc = [] := by
        have := h.fst
        simpa using this
      rw [this] at hs
      simp at hs
    · obtain ⟨e, rfl⟩ : ∃ e, k = e + 1 := ⟨k - 1, by omega⟩
      obtain ⟨pre, r', rfl, hr'⟩ := h.last e rfl
      rcases List.mem_append.1 hs with hs | hs
      · exact h.out pre r' rfl s hs
      · simp at hs
        subst hs
        have hlt : s.2 < q := by
          have hl := (List.getElem?_eq_some_iff.1 hq).1
          have := elems_step x e hl
          rw [(List.getElem?_eq_some_iff.1 hr').2, (List.getElem?_eq_some_iff.1 hq).2] at this
          exact this
        rw [hasB_pred, decide_eq_true (by omega), Bool.true_and] at hh
        cases hx : x.getLsbD (s.2 + 1)
        · rfl
        · exfalso
          have hm : s.2 + 1 ∈ elems x := mem_elems.2 hx
          obtain ⟨j, hj, hje⟩ := List.mem_iff_getElem.1 hm
          have hs' := elems_sorted x
          have hl := (List.getElem?_eq_some_iff.1 hq).1
          have e1 := (List.getElem?_eq_some_iff.1 hr').2
          have e2 := (List.getElem?_eq_some_iff.1 hq).2
          have hje' : j = e + 1 := by
            have h1 : e < j := by
              apply Nat.lt_of_not_le
              intro hle
              rcases Nat.eq_or_lt_of_le hle with he2 | he2
              · subst he2; omega
              · have := List.pairwise_iff_getElem.1 hs' j e hj (by omega) he2
                omega
            apply Nat.le_antisymm _ h1
            apply Nat.le_of_not_lt
            intro hlt2
            have := List.pairwise_iff_getElem.1 hs' (e + 1) j hl hj hlt2
            omega
          subst hje'
          have : q = s.2 + 1 := by rw [← e2, ← hje]
          rw [this, Nat.add_sub_cancel] at hh
          have := mem_elems.1 (List.mem_of_getElem? hr')
          rw [hh] at this
          cases this
theorem RInv.grow {x : BitVec 64} {k q : Nat} {acc : List (Nat × Nat)} (h : RInv x k acc) (hq : (elems x)[k]? = some q) (hh : hasB x ((q : Int) - 1) = true) : ∃ pre b e, acc = pre ++ [(b, e)] ∧ RInv x (k + 1) (pre ++ [(b, q)]) := by
  have hqx := mem_elems.1 (List.mem_of_getElem? hq)
  have hh0 := hh
  rw [hasB_pred] at hh
  have hq0 : 0 < q := by
    rcases Nat.eq_zero_or_pos q with h0 | h0
    · subst h0; simp at hh
    · exact h0
  rw [decide_eq_true hq0, Bool.true_and] at hh
  have hm : q - 1 ∈ elems x := mem_elems.2 hh
  obtain ⟨j, hj, hje⟩ := List.mem_iff_getElem.1 hm
  have hs' := elems_sorted x
  have hl := (List.getElem?_eq_some_iff.1 hq).1
  have e2 := (List.getElem?_eq_some_iff.1 hq).2
  have hjk : j + 1 = k := by
    have h1 : j < k := by
      apply Nat.lt_of_not_le
      intro hle
      rcases Nat.eq_or_lt_of_le hle with he2 | he2
      · subst he2; omega
      · have := List.pairwise_iff_getElem.1 hs' k j hl hj he2
        omega
    apply Nat.le_antisymm h1
    apply Nat.le_of_not_lt
    intro hlt2
    have h3 := List.pairwise_iff_getElem.1 hs' j (j + 1) hj (by omega) (by omega)
    have h4 := List.pairwise_iff_getElem.1 hs' (j + 1) k (by omega) hl hlt2
    omega
  subst hjk
  obtain ⟨pre, r, rfl, hr⟩ := h.last j rfl
  obtain ⟨b, e⟩ := r
  have he : e = q - 1 := by rw [← hje]; exact ((List.getElem?_eq_some_iff.1 hr).2).symm
  refine ⟨pre, b, e, rfl, ?_, ?_, ?_, ?_⟩
  · have := h.fst
    rw [List.map_append] at this ⊢
    rw [List.take_add_one, hq, List.filter_append, ← this]
    simp [hh0]
  · intro r hr2
    rcases List.mem_append.1 hr2 with hr2 | hr2
    · exact h.ins r (by simp [hr2])
    · simp at hr2
      subst hr2
      obtain ⟨i1, i2⟩ := h.ins (b, e) (by simp)
      simp only at i1 i2 ⊢
      exact ⟨by omega, fun j' h1 h2 => by
        rcases Nat.lt_or_ge e j' with h3 | h3
        · obtain rfl : j' = q := by omega
          exact hqx
        · exact i2 j' h1 h3⟩
  · intro e' he'
    obtain rfl : e' = j + 1 := by omega
    exact ⟨pre, (b, q), rfl, hq⟩
  · intro pre' r' he' s hs
    obtain ⟨rfl, _⟩ := List.append_inj' he' rfl
    exact h.out pre (b, e) rfl s hs
theorem RInv.fin {x : BitVec 64} {acc : List (Nat × Nat)} (h : RInv x (elems x).length acc) : acc = runsOf x := by
  have hf := h.fst
  rw [List.take_length, ← begins_elems] at hf
  unfold runsOf
  rw [← hf, List.map_map]
  have key : ∀ r ∈ acc, (runOf (ends x) ∘ fun r : Nat × Nat => r.1) r = r := by
    intro r hr
    have hb : r.1 ∈ elems (begins x) := by rw [← hf]; exact List.mem_map.2 ⟨r, hr, rfl⟩
    obtain ⟨i1, i2⟩ := h.ins r hr
    refine run_unique x r.1 r.2 hb i1 i2 ?_
    have hne : 0 < (elems x).length := by
      rcases Nat.eq_zero_or_pos (elems x).length with h0 | h0
      · have : elems (begins x) = [] := by rw [begins_elems, List.length_eq_zero_iff.1 h0]; rfl
        rw [this] at hb; simp at hb
      · exact h0
    obtain ⟨e, he⟩ : ∃ e, (elems x).length = e + 1 := ⟨(elems x).length - 1, by omega⟩
    obtain ⟨pre, r', hacc, hr'⟩ := h.last e he
    rw [hacc] at hr
    rcases List.mem_append.1 hr with hr | hr
    · exact h.out pre r' hacc r hr
    · simp at hr
      subst hr
      cases hx : x.getLsbD (r.2 + 1)
      · rfl
      · exfalso
        obtain ⟨j, hj, hje⟩ := List.mem_iff_getElem.1 (mem_elems.2 hx)
        have e1 := (List.getElem?_eq_some_iff.1 hr').2
        have hl := (List.getElem?_eq_some_iff.1 hr').1
        rcases Nat.eq_or_lt_of_le (show j ≤ e by omega) with h3 | h3
        · subst h3; omega
        · have := List.pairwise_iff_getElem.1 (elems_sorted x) j e hj hl h3
          omega
  exact (List.map_id acc).symm.trans (List.map_congr_left fun r hr => (key r hr).symm)
end Go.Proofs.YtkakncgdhangpaaDoor
