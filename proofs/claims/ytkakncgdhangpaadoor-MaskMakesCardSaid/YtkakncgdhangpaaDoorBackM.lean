/- What runs are: plain facts. -/
import Derived.Test.YtkakncgdhangpaaDoorRuns
import Derived.Test.YtkakncgdhangpaaDoorOf
namespace Go.Proofs.YtkakncgdhangpaaDoor
open Go.RowKit

/-! Of of All -/
theorem ofs_all (l : List Nat) (m : BitVec 64) (h : ∀ k ∈ l, k < 64) : ofs (l.map fun k : Nat => (k : Int)) m = some (l.foldl (fun m k => m ||| BitVec.twoPow 64 k) m) := by
  induction l generalizing m with
  | nil => rfl
  | cons a l ih =>
    have ha := h a (by simp)
    rw [List.map_cons, ofs, if_pos (by unfold inside; omega), Int.toNat_natCast, ih _ (fun k hk => h k (by simp [hk]))]
    rfl
theorem fold_bit (l : List Nat) (m : BitVec 64) (i : Nat) (hi : i < 64) : (l.foldl (fun m k => m ||| BitVec.twoPow 64 k) m).getLsbD i = (m.getLsbD i || decide (i ∈ l)) := by
  induction l generalizing m with
  | nil => simp
  | cons a l ih =>
    rw [List.foldl_cons, ih, BitVec.getLsbD_or, BitVec.getLsbD_twoPow]
    by_cases h : i = a
    · subst h; simp [hi]
    · have : ¬ a = i := fun e => h e.symm
      simp [h, this]
theorem ofs_elems (x : BitVec 64) : ofs ((elems x).map fun k : Nat => (k : Int)) 0#64 = some x := by
  rw [ofs_all _ _ (fun k hk => elems_lt hk)]
  congr 1
  apply BitVec.eq_of_getLsbD_eq
  intro i hi
  rw [fold_bit _ _ _ hi]
  simp [mem_elems]

/-! runs -/
theorem begins_bit (x : BitVec 64) (i : Nat) (hi : i < 64) : (begins x).getLsbD i = (x.getLsbD i && !(decide (0 < i) && x.getLsbD (i - 1))) := by
  unfold begins
  rw [BitVec.getLsbD_and, BitVec.getLsbD_not, BitVec.getLsbD_shiftLeft]
  by_cases h : i = 0
  · subst h; simp
  · have h1 : ¬ i < 1 := by omega
    have h2 : 0 < i := by omega
    simp [hi, h1, h2]
theorem ends_bit (x : BitVec 64) (i : Nat) (hi : i < 64) : (ends x).getLsbD i = (x.getLsbD i && !x.getLsbD (i + 1)) := by
  unfold ends
  rw [BitVec.getLsbD_and, BitVec.getLsbD_not, BitVec.getLsbD_ushiftRight, Nat.add_comm 1 i]
  simp [hi]
/-- The least end from k on, of a number that x has: all between are x's. -/
theorem end_from (x : BitVec 64) : ∀ (d k : Nat), d = 64 - k → k < 64 → x.getLsbD k = true → ∃ e, k ≤ e ∧ e < 64 ∧ (ends x).getLsbD e = true ∧ ∀ j, k ≤ j → j ≤ e → x.getLsbD j = true
  | 0, k, hd, hk, _ => by omega
  | d + 1, k, hd, hk, hx => by
    by_cases h : x.getLsbD (k + 1) = true
    · have hk1 : k + 1 < 64 := BitVec.lt_of_getLsbD h
      obtain ⟨e, h1, h2, h3, h4⟩ := end_from x d (k + 1) (by omega) hk1 h
      exact ⟨e, by omega, h2, h3, fun j hj1 hj2 => by
        rcases Nat.eq_or_lt_of_le hj1 with rfl | hj
        · exact hx
        · exact h4 j hj hj2⟩
    · exact ⟨k, Nat.le_refl _, hk, by rw [ends_bit x k hk, hx]; simpa using h, fun j h1 h2 => by obtain rfl : j = k := (by omega); exact hx⟩
theorem find_sorted {l : List Nat} (hs : l.Pairwise (· < ·)) {p : Nat → Bool} {e : Nat} (he : e ∈ l) (hp : p e = true) : ∃ m, l.find? p = some m ∧ m ≤ e ∧ m ∈ l ∧ p m = true := by
  induction l with
  | nil => simp at he
  | cons a l ih =>
    rw [List.find?_cons]
    by_cases ha : p a = true
    · simp only [ha]
      refine ⟨a, rfl, ?_, by simp, ha⟩
      rcases List.mem_cons.1 he with rfl | h
      · exact Nat.le_refl _
      · exact Nat.le_of_lt (List.rel_of_pairwise_cons hs h)
    · simp only [Bool.not_eq_true] at ha
      simp only [ha]
      rcases List.mem_cons.1 he with rfl | h
      · rw [hp] at ha; cases ha
      · obtain ⟨m, h1, h2, h3, h4⟩ := ih (List.Pairwise.of_cons hs) h
        exact ⟨m, h1, h2, by simp [h3], h4⟩
theorem elems_sorted (x : BitVec 64) : (elems x).Pairwise (· < ·) := List.Pairwise.filter _ List.pairwise_lt_range
/-- The run that begins at k. -/
theorem run_spec (x : BitVec 64) (k : Nat) (hk : k ∈ elems (begins x)) : ∃ e, (runOf (ends x) k) = (k, e) ∧ least (ends x) k = some e ∧ k ≤ e ∧ e < 64 ∧ (∀ j, k ≤ j → j ≤ e → x.getLsbD j = true) ∧ x.getLsbD (e + 1) = false := by
  have hk64 := elems_lt hk
  have hb := mem_elems.1 hk
  rw [begins_bit x k hk64] at hb
  have hx : x.getLsbD k = true := by revert hb; cases x.getLsbD k <;> simp
  obtain ⟨e, h1, h2, h3, h4⟩ := end_from x _ k rfl hk64 hx
  obtain ⟨m, g1, g2, g3, g4⟩ := find_sorted (elems_sorted (ends x)) (p := fun j => decide ((k : Int) ≤ (j : Int))) (mem_elems.2 h3) (by simp; omega)
  have hm64 := elems_lt g3
  have hme := mem_elems.1 g3
  rw [ends_bit x m hm64] at hme
  have hl : least (ends x) k = some m := g1
  refine ⟨m, by unfold runOf; rw [hl]; rfl, hl, by simp at g4; omega, hm64, fun j a b => h4 j a (by omega), ?_⟩
  revert hme; cases x.getLsbD (m + 1) <;> simp

/-- The numbers of a run, as a mask. -/
def segOf (r : Nat × Nat) : BitVec 64 := mk (spanB r.1 r.2 1)
theorem seg_bit (r : Nat × Nat) (i : Nat) (hi : i < 64) : (segOf r).getLsbD i = decide (r.1 ≤ i ∧ i ≤ r.2) := by
  unfold segOf
  rw [mk_bit, decide_eq_true hi, Bool.true_and]
  unfold spanB
  rw [decide_eq_decide]
  omega
theorem run_mem {x : BitVec 64} {r : Nat × Nat} (h : r ∈ runsOf x) : ∃ k e, r = (k, e) ∧ k ∈ elems (begins x) ∧ k ≤ e ∧ e < 64 ∧ (∀ j, k ≤ j → j ≤ e → x.getLsbD j = true) ∧ x.getLsbD (e + 1) = false := by
  unfold runsOf at h
  obtain ⟨k, hk, rfl⟩ := List.mem_map.1 h
  obtain ⟨e, h1, _, h2, h3, h4, h5⟩ := run_spec x k hk
  exact ⟨k, e, h1, hk, h2, h3, h4, h5⟩
theorem run_span {x : BitVec 64} {r : Nat × Nat} (h : r ∈ runsOf x) : spanM r.1 r.2 1 = some (segOf r) := by
  obtain ⟨k, e, rfl, _, h2, h3, _⟩ := run_mem h
  unfold spanM
  rw [if_pos (by unfold spanOk; simp; omega)]
  rfl
theorem runs_gap (x : BitVec 64) : (runsOf x).Pairwise (fun r s => r.2 + 1 < s.1) := by
  unfold runsOf
  rw [List.pairwise_map]
  refine (elems_sorted (begins x)).imp_of_mem ?_
  intro k k' hk hk' hlt
  obtain ⟨e, h1, _, h2, h3, h4, h5⟩ := run_spec x k hk
  rw [h1]
  show e + 1 < k'
  have hk64 := elems_lt hk'
  have hb := mem_elems.1 hk'
  rw [begins_bit x k' hk64] at hb
  apply Nat.lt_of_not_le
  intro hle
  have := h4 (k' - 1) (by omega) (by omega)
  rw [this, decide_eq_true (by omega)] at hb
  simp at hb
theorem begin_below (x : BitVec 64) : ∀ i, i < 64 → x.getLsbD i = true → ∃ b, b ∈ elems (begins x) ∧ b ≤ i ∧ ∀ j, b ≤ j → j ≤ i → x.getLsbD j = true
  | 0, hi, hx => ⟨0, mem_elems.2 (by rw [begins_bit x 0 hi, hx]; simp), Nat.le_refl _, fun j _ h => by obtain rfl : j = 0 := (by omega); exact hx⟩
  | i + 1, hi, hx => by
    by_cases h : x.getLsbD i = true
    · obtain ⟨b, h1, h2, h3⟩ := begin_below x i (by omega) h
      exact ⟨b, h1, by omega, fun j a c => by
        rcases Nat.eq_or_lt_of_le c with rfl | hj
        · exact hx
        · exact h3 j a (by omega)⟩
    · exact ⟨i + 1, mem_elems.2 (by rw [begins_bit x _ hi, hx]; simpa using h), Nat.le_refl _, fun j a c => by obtain rfl : j = i + 1 := (by omega); exact hx⟩
theorem folds_or_bit (l : List (BitVec 64)) (m : BitVec 64) (i : Nat) : (folds g_or l m).getLsbD i = (m.getLsbD i || l.any (·.getLsbD i)) := by
  induction l generalizing m with
  | nil => simp [folds]
  | cons a l ih => rw [folds, ih, show g_or m a = m ||| a from rfl, BitVec.getLsbD_or, List.any_cons, Bool.or_assoc]
theorem runs_join (x : BitVec 64) : folds g_or ((runsOf x).map segOf) 0#64 = x := by
  apply BitVec.eq_of_getLsbD_eq
  intro i hi
  rw [folds_or_bit, Bool.eq_iff_iff]
  simp only [BitVec.getLsbD_zero, Bool.false_or, List.any_eq_true]
  constructor
  · rintro ⟨m, hm, hb⟩
    obtain ⟨r, hr, rfl⟩ := List.mem_map.1 hm
    rw [seg_bit r i hi] at hb
    obtain ⟨k, e, rfl, _, h2, h3, h4, _⟩ := run_mem hr
    simp at hb
    exact h4 i hb.1 hb.2
  · intro hx
    obtain ⟨b, h1, h2, h3⟩ := begin_below x i hi hx
    obtain ⟨e, g1, _, g2, g3, g4, g5⟩ := run_spec x b h1
    refine ⟨segOf (b, e), List.mem_map.2 ⟨_, List.mem_map.2 ⟨b, h1, g1⟩, rfl⟩, ?_⟩
    rw [seg_bit _ i hi]
    simp only [decide_eq_true_eq]
    refine ⟨h2, Nat.le_of_not_lt fun hlt => ?_⟩
    have := h3 (e + 1) (by omega) hlt
    rw [g5] at this
    cases this
theorem nthI_elems (x : BitVec 64) (k : Nat) (hk : k < (elems x).length) : ((elems x).map ienc)[k]? = some (.int .i64 (nthI ((elems x).map fun k : Nat => (k : Int)) k)) := by
  unfold nthI
  rw [List.getElem?_map, List.getD_eq_getElem?_getD, List.getElem?_map, List.getElem?_eq_getElem hk]
  rfl
theorem nthI_at (x : BitVec 64) (k : Nat) (hk : k < (elems x).length) : nthI ((elems x).map fun k : Nat => (k : Int)) k = ((elems x)[k] : Int) := by
  unfold nthI
  rw [List.getD_eq_getElem?_getD, List.getElem?_map, List.getElem?_eq_getElem hk]
  rfl
end Go.Proofs.YtkakncgdhangpaaDoor
