/- What DueAll asks: time by time, one is launched, and answered: plain. -/
import Derived.Test.YthghcffibljclaaDoorRXPlain
namespace Go.Proofs.YthghcffibljclaaDoor

theorem chain_at {T : Int → Prop} : ∀ (n : Nat) (a b : Int) (l : List Int), Chain T a b n l → (∀ t, l[0]? = some t → IsMin T a t) ∧ ∀ i t t', l[i]? = some t → l[i + 1]? = some t' → IsMin T t t'
  | 0, a, b, l, h => by
    rw [Chain] at h
    subst h
    exact ⟨fun t h => by simp at h, fun i t t' h _ => by simp at h⟩
  | n + 1, a, b, l, h => by
    rw [Chain] at h
    rcases h with ⟨_, rfl⟩ | ⟨x, r, hx, hb, rfl, hr⟩
    · exact ⟨fun t h => by simp at h, fun i t t' h _ => by simp at h⟩
    · obtain ⟨h0, h1⟩ := chain_at n x b r hr
      refine ⟨fun t h => ?_, fun i t t' h h' => ?_⟩
      · simp at h; subst h; exact hx
      · cases i with
        | zero =>
          simp at h
          subst h
          rw [List.getElem?_cons_succ] at h'
          exact h0 t' h'
        | succ i =>
          rw [List.getElem?_cons_succ] at h h'
          exact h1 i t t' h h'
theorem min_one {T : Int → Prop} {a t t' : Int} (h : IsMin T a t) (h' : IsMin T a t') : t = t' := by
  have h1 := h.2.2 t' h'.1 h'.2.1
  have h2 := h'.2.2 t h.1 h.2.1
  omega
/-- The job of which nothing is lost. -/
def allJ (j : JobZ) : JobZ := { j with ca := 2, ov := 1 }
theorem all_occ {j : JobZ} {t : Int} {l : List Int} {nx : Int} (hj : j.ca = 2) (h0 : 0 ≤ t) (ht : j.T t) (h : Occ (newR j t) t l nx) : l = [t] ∧ NextZ j.T t nx := by
  rcases h with ⟨h1, _⟩ | ⟨_, _, h2, h3⟩
  · have h1 : t = -1 ∨ t < t := h1
    omega
  · have h2 : NextZ j.T t nx := h2
    refine ⟨?_, h2⟩
    refine offerZ_one h3 (.inl ⟨hj, ?_⟩)
    show Chain j.T (t - 1) t 4 [t]
    rw [Chain]
    refine .inr ⟨t, [], ⟨ht, by omega, fun u _ hu => by omega⟩, Int.le_refl _, rfl, ?_⟩
    rw [Chain]
    exact .inl ⟨fun u _ hu => hu, rfl⟩
/-- What ran, and is answered. -/
def ranR (j : JobZ) (num t nx : Int) : RowZ := ⟨j, false, nx, num, t, 0, []⟩
theorem all_step {j : JobZ} {num t nx : Int} : stepZ num (newR j t) [t] nx = (ranR j num t nx, [⟨num, j.n, t, 0⟩]) := rfl
theorem all_end {j : JobZ} {num fresh t nx : Int} : endZ true fresh (ranR j num t nx) = (newR j nx, [], j.o && decide (nx = -1)) := rfl
theorem all_gone {j : JobZ} {t nx : Int} (ht : j.T t) (h : NextZ j.T t nx) : (j.o && decide (nx = -1)) = j.o := by
  cases ho : j.o with
  | false => rfl
  | true =>
    rcases h with h | ⟨u, _, rfl⟩
    · rcases h with ⟨_, h⟩ | ⟨h, _⟩
      · have h1 := h.1; have h2 := h.2.1
        rw [T_once ho] at h1 ht
        have h1 : nx = j.t := h1
        have ht : t = j.t := ht
        omega
      · cases h
    · rfl
theorem ran_right {ev : List (BitVec 64) → Bool} {j : JobZ} {num t nx : Int} (h : (newR j t).Right ev) (hj : j.ca = 2) (h0 : 0 ≤ t) (hn : 0 < num) {l : List Int} (ho : Occ (newR j t) t l nx) : (ranR j num t nx).Right ev := by
  have h1 := h.times t (by unfold RowZ.line newR; simp only; rw [if_neg (by omega), if_neg (by omega)]; simp)
  have h1 : j.T t := h1
  obtain ⟨rfl, _⟩ := all_occ hj h0 h1 ho
  have h2 := step_right h hn ho
  rw [all_step] at h2
  exact h2
theorem new_right {ev : List (BitVec 64) → Bool} {j : JobZ} {num t nx : Int} (h : (ranR j num t nx).Right ev) (hn : 0 < num) : (newR j nx).Right ev := by
  have h2 := end_right (fresh := 1) (ok := true) h (by omega) hn
  rw [all_end] at h2
  exact h2
theorem all_start {j : JobZ} {a b nx : Int} {n : Nat} {l : List Int} (h : Chain j.T a b n l) (hf : FirstT j.T a nx true) : ∀ t, l[0]? = some t → nx = t := fun t ht => by
  rcases hf with ⟨_, hf⟩ | ⟨hf, _⟩
  · exact min_one hf ((chain_at n a b l h).1 t ht)
  · cases hf
theorem all_next {j : JobZ} {a b nx t : Int} {n k : Nat} {l : List Int} (h : Chain j.T a b n l) (ht : l[k]? = some t) (hn : NextZ j.T t nx) : ∀ t', l[k + 1]? = some t' → nx = t' := fun t' ht' => by
  have h1 := (chain_at n a b l h).2 k t t' ht ht'
  rcases hn with (⟨_, hf⟩ | ⟨hf, _⟩) | ⟨u, (⟨hf, _⟩ | ⟨_, _, hf⟩), _⟩
  · exact min_one hf h1
  · cases hf
  · cases hf
  · have := hf t' h1.1; have := h1.2.1; omega
theorem all_time {j : JobZ} {a b t : Int} {n k : Nat} {l : List Int} (h : Chain j.T a b n l) (h0 : 0 ≤ a) (ht : l[k]? = some t) : j.T t ∧ 0 ≤ t ∧ t ≤ b := by
  have := chain_mem n a b l h t (List.mem_of_getElem? ht)
  exact ⟨this.1, by omega, this.2.2⟩
end Go.Proofs.YthghcffibljclaaDoor
