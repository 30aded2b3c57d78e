/- Which rows and tables may be: as the program asks it, plain. -/
import Derived.Test.YthghcffibljclaaDoorRVTable
namespace Go.Proofs.YthghcffibljclaaDoor

/-- Something runs of it. -/
def RowZ.runs (r : RowZ) : Prop := ¬ (r.num = 0 ∧ r.due = 0 ∧ r.tr = 0)
instance (r : RowZ) : Decidable r.runs := by unfold RowZ.runs; exact inferInstance
def RowZ.room (r : RowZ) : Nat := if r.runs ∧ r.j.ov ≠ 0 then 3 else 0
def RowZ.line' (r : RowZ) : List Int := (if r.runs then [r.due] else []) ++ r.q ++ (if r.nx = -1 then [] else [r.nx])
theorem line_is {r : RowZ} (h : r.runs ↔ 0 < r.num) : r.line' = r.line := by
  unfold RowZ.line' RowZ.line
  by_cases hr : r.runs
  · rw [if_pos hr, if_pos (h.1 hr)]
  · rw [if_neg hr, if_neg (fun h' => hr (h.2 h'))]
theorem runs_right {ev : List (BitVec 64) → Bool} {r : RowZ} (h : r.Right ev) (h0 : 0 ≤ r.num) : r.runs ↔ 0 < r.num := by
  unfold RowZ.runs
  constructor
  · intro hr
    apply Classical.byContradiction
    intro hc
    have e : r.num = 0 := by omega
    obtain ⟨a, b, _⟩ := h.idle e
    exact hr ⟨e, a, b⟩
  · rintro hr ⟨e, _⟩
    omega
/-- What the program asks of a row. -/
structure RowZ.Asked (ev : List (BitVec 64) → Bool) (r : RowZ) : Prop where
  job : r.j.err ev = 0
  pa : ¬ (r.pa = true ∧ r.nx ≠ -1)
  idle : ¬ (r.num = 0 ∧ r.runs)
  tr : ¬ (r.tr < 0 ∨ r.j.re < r.tr)
  room : r.q.length ≤ r.room
  rises : r.line'.Pairwise (· < ·)
  times : ∀ t ∈ r.line', r.j.T t
theorem asked_iff {ev : List (BitVec 64) → Bool} {r : RowZ} (h0 : 0 ≤ r.num) : r.Asked ev ↔ r.Right ev := by
  constructor
  · intro h
    have hr : r.runs ↔ 0 < r.num := by
      constructor
      · intro hr
        have := h.idle
        apply Classical.byContradiction
        intro hc
        exact this ⟨by omega, hr⟩
      · rintro hr ⟨e, _⟩
        omega
    have hn : r.num = 0 → ¬ r.runs := fun e hr => h.idle ⟨e, hr⟩
    refine ⟨h.job, fun hp => ?_, by have := h.tr; omega, by have := h.tr; omega, ?_, fun e => ?_, fun e => ?_, by rw [← line_is hr]; exact h.rises, by rw [← line_is hr]; exact h.times⟩
    · apply Classical.byContradiction
      intro hx
      exact h.pa ⟨hp, hx⟩
    · have := h.room
      unfold RowZ.room at this
      split at this <;> omega
    · have hnr := hn e
      have hq := h.room
      unfold RowZ.room at hq
      rw [if_neg (fun hx => hnr hx.1)] at hq
      unfold RowZ.runs at hnr
      have hx := Decidable.not_not.1 hnr
      exact ⟨hx.2.1, hx.2.2, List.length_eq_zero_iff.1 (by omega)⟩
    · have hq := h.room
      unfold RowZ.room at hq
      rw [if_neg (fun hx => hx.2 e)] at hq
      exact List.length_eq_zero_iff.1 (by omega)
  · intro h
    have hr := runs_right h h0
    refine ⟨h.job, fun hx => hx.2 (h.pa hx.1), fun hx => by have := hr.1 hx.2; omega, by have := h.tr0; have := h.tr1; omega, ?_, by rw [line_is hr]; exact h.rises, by rw [line_is hr]; exact h.times⟩
    unfold RowZ.room
    split
    · exact h.q3
    · rename_i hx
      by_cases hrr : r.runs
      · have ho : r.j.ov = 0 := by
          apply Classical.byContradiction
          intro ho
          exact hx ⟨hrr, ho⟩
        rw [h.skip ho]; simp
      · rw [(h.idle (by have := hr.2; apply Classical.byContradiction; intro e; exact hrr (this (by omega)))).2.2]; simp
/-- What the program asks of a table: of each row, and of those ahead of it. -/
def Ahead (r x : RowZ) : Prop := x.j.n < r.j.n ∧ ¬ (x.num = r.num ∧ 0 < r.num)
theorem table_iff {ev : List (BitVec 64) → Bool} {l : List RowZ} : RightT ev l ↔ l.length ≤ 12 ∧ ∀ (k : Nat) (r : RowZ), l[k]? = some r → (∀ (i : Nat) (x : RowZ), i < k → l[i]? = some x → Ahead r x) ∧ r.Right ev := by
  constructor
  · intro h
    refine ⟨h.most, fun k r hk => ⟨fun i x hi hx => ?_, h.rows r (List.mem_of_getElem? hk)⟩⟩
    obtain ⟨hkl, rfl⟩ := List.getElem?_eq_some_iff.1 hk
    obtain ⟨hil, rfl⟩ := List.getElem?_eq_some_iff.1 hx
    have h1 := List.pairwise_iff_getElem.1 h.names i k hil hkl hi
    have h2 := List.pairwise_iff_getElem.1 h.nums i k hil hkl hi
    exact ⟨h1, fun hx => h2 ⟨hx.1, by omega⟩⟩
  · rintro ⟨hl, h⟩
    refine ⟨fun r hr => ?_, ?_, ?_, hl⟩
    · obtain ⟨k, hk⟩ := List.mem_iff_getElem?.1 hr
      exact (h k r hk).2
    · refine List.pairwise_iff_getElem.2 fun i k hi hk hik => ?_
      exact ((h k l[k] (List.getElem?_eq_getElem hk)).1 i l[i] hik (List.getElem?_eq_getElem hi)).1
    · refine List.pairwise_iff_getElem.2 fun i k hi hk hik hx => ?_
      exact ((h k l[k] (List.getElem?_eq_getElem hk)).1 i l[i] hik (List.getElem?_eq_getElem hi)).2 ⟨hx.1, by omega⟩
/-- Where the rows ahead end. -/
theorem ins_split {r : RowZ} : ∀ {l : List RowZ}, l.Pairwise (fun a b => a.j.n < b.j.n) → (∀ x ∈ l, x.j.n ≠ r.j.n) → ∀ k, k ≤ l.length → (∀ (i : Nat) (x : RowZ), i < k → l[i]? = some x → ¬ r.j.n < x.j.n) → (∀ x : RowZ, l[k]? = some x → r.j.n < x.j.n) → insR r l = l.take k ++ [r] ++ l.drop k
  | [], _, _, k, hk, _, _ => by
    obtain rfl : k = 0 := by simpa using hk
    rfl
  | x :: t, hp, hn, k, hk, h1, h2 => by
    obtain ⟨hp1, hp2⟩ := List.pairwise_cons.1 hp
    unfold insR
    cases k with
    | zero =>
      have := h2 x rfl
      rw [if_neg (by omega)]
      rfl
    | succ k =>
      have hx := h1 0 x (by omega) rfl
      have hne := hn x List.mem_cons_self
      rw [if_pos (by omega), ins_split hp2 (fun y hy => hn y (List.mem_cons_of_mem _ hy)) k (by simpa using hk) (fun i y hi hy => h1 (i + 1) y (by omega) (by simpa using hy)) (fun y hy => h2 y (by simpa using hy))]
      rfl
/-- In place of the row of that name. -/
def subR (name : Int) (F : RowZ → List RowZ) (l : List RowZ) : List RowZ := l.flatMap fun r => if r.j.n = name then F r else [r]
theorem sub_other {name : Int} {F : RowZ → List RowZ} : ∀ {l : List RowZ}, (∀ x ∈ l, x.j.n ≠ name) → subR name F l = l
  | [], _ => rfl
  | x :: t, h => by
    have ih := sub_other (F := F) (fun y hy => h y (List.mem_cons_of_mem _ hy))
    unfold subR at ih ⊢
    rw [List.flatMap_cons, ih, if_neg (h x List.mem_cons_self)]
    rfl
theorem sub_split {name : Int} {F : RowZ → List RowZ} : ∀ {l : List RowZ}, l.Pairwise (fun a b => a.j.n < b.j.n) → ∀ k r, l[k]? = some r → r.j.n = name → subR name F l = l.take k ++ F r ++ l.drop (k + 1)
  | [], _, k, r, hk, _ => by simp at hk
  | x :: t, hp, k, r, hk, hn => by
    obtain ⟨hp1, hp2⟩ := List.pairwise_cons.1 hp
    cases k with
    | zero =>
      simp at hk; subst hk
      have := sub_other (name := name) (F := F) (l := t) (fun y hy => by have := hp1 y hy; omega)
      unfold subR at this ⊢
      rw [List.flatMap_cons, this, if_pos hn]
      rfl
    | succ k =>
      have hk' : t[k]? = some r := by simpa using hk
      have ih := sub_split (F := F) hp2 k r hk' hn
      have hx := hp1 r (List.mem_of_getElem? hk')
      unfold subR at ih ⊢
      rw [List.flatMap_cons, ih, if_neg (by omega)]
      rfl
theorem sub_rem (name : Int) (l : List RowZ) : subR name (fun _ => []) l = remR name l := by
  induction l with
  | nil => rfl
  | cons x t ih =>
    unfold subR remR at ih ⊢
    rw [List.flatMap_cons, ih, List.filter_cons]
    by_cases h : x.j.n = name
    · rw [if_pos h, if_neg (by simpa using h)]; rfl
    · rw [if_neg h, if_pos (by simpa using h)]; rfl
theorem sub_one (name : Int) (f : RowZ → RowZ) (l : List RowZ) : subR name (fun r => [f r]) l = l.map fun r => if r.j.n = name then f r else r := by
  induction l with
  | nil => rfl
  | cons x t ih =>
    unfold subR at ih ⊢
    rw [List.flatMap_cons, ih, List.map_cons]
    split <;> rfl
def pauF (r : RowZ) : RowZ := { r with pa := true, nx := -1 }
def resF (nx : Int) (r : RowZ) : RowZ := if r.pa = true then { r with pa := false, nx := nx } else r
theorem sub_pau (name : Int) (l : List RowZ) : subR name (fun r => [pauF r]) l = pauR name l := sub_one name pauF l
theorem sub_res (name nx : Int) (l : List RowZ) : subR name (fun r => [resF nx r]) l = resR name nx l := by
  rw [sub_one]
  unfold resR resF
  congr 1
  funext r
  by_cases h1 : r.j.n = name
  · by_cases h2 : r.pa = true
    · simp [h1, h2]
    · simp [h1, h2]
  · simp [h1]
/-- Paused, a row that nothing runs of and nothing waits in may be. -/
theorem pau_right {ev : List (BitVec 64) → Bool} {r : RowZ} (h : r.Right ev) : (pauF r).Right ev := by
  have hl : ∀ t, t ∈ (pauF r).line → t ∈ r.line := by
    intro t ht
    unfold RowZ.line pauF at ht
    unfold RowZ.line
    simp only [if_true, List.append_nil] at ht
    exact List.mem_append_left _ ht
  refine ⟨h.job, fun _ => rfl, h.tr0, h.tr1, h.q3, h.idle, h.skip, ?_, fun t ht => h.times t (hl t ht)⟩
  have := h.rises
  unfold RowZ.line at this
  unfold RowZ.line pauF
  simp only [if_true, List.append_nil]
  exact (List.pairwise_append.1 this).1
theorem pauR_right {ev : List (BitVec 64) → Bool} {name : Int} {l : List RowZ} (h : RightT ev l) : RightT ev (pauR name l) := by
  have hmem : ∀ x ∈ pauR name l, ∃ r ∈ l, x.j = r.j ∧ x.num = r.num ∧ x.Right ev := by
    intro x hx
    obtain ⟨r, hr, rfl⟩ := List.mem_map.1 hx
    refine ⟨r, hr, ?_⟩
    split
    · exact ⟨rfl, rfl, pau_right (h.rows r hr)⟩
    · exact ⟨rfl, rfl, h.rows r hr⟩
  refine ⟨fun x hx => by obtain ⟨_, _, _, _, h⟩ := hmem x hx; exact h, ?_, ?_, by unfold pauR; rw [List.length_map]; exact h.most⟩
  · unfold pauR
    refine List.pairwise_map.2 (h.names.imp ?_)
    intro a b hab
    split <;> split <;> exact hab
  · unfold pauR
    refine List.pairwise_map.2 (h.nums.imp ?_)
    intro a b hab
    split <;> split <;> exact hab
end Go.Proofs.YthghcffibljclaaDoor
