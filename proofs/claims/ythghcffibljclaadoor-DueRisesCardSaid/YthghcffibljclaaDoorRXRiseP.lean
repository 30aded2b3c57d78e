/- What DueRises asks: each time once with Try 0, in order, and some times more: plain. -/
import Derived.Test.YthghcffibljclaaDoorRXPlain
namespace Go.Proofs.YthghcffibljclaaDoor

theorem T_bounds {ev : List (BitVec 64) → Bool} {j : JobZ} (h : j.err ev = 0) : TimesOf j.T := by
  have hh := (hold_iff.1 (err_ok h).1).1
  cases ho : j.o with
  | true =>
    rw [T_once ho]
    intro u hu
    have hu : u = j.t := hu
    rw [ho] at hh
    have h2 : j.t ≤ maxT := hh.2
    unfold maxT at h2
    exact ⟨by have := hh.1; omega, by omega⟩
  | false =>
    rw [T_cron ho]
    exact TC_times _
/-- What stands of a row behind all that was done: last is the last time launched, and tries its last try. -/
structure RiseI (ev : List (BitVec 64) → Bool) (r : RowZ) (last tries : Int) : Prop where
  right : r.Right ev
  num0 : 0 ≤ r.num
  run : r.num ≠ 0 → last = r.due ∧ tries = r.tr
  nx : r.nx ≠ -1 → last < r.nx
theorem due_ahead {ev : List (BitVec 64) → Bool} {r : RowZ} (h : r.Right ev) (h0 : 0 < r.num) : (∀ t ∈ r.q, r.due < t) ∧ (r.nx ≠ -1 → r.due < r.nx) := by
  have h1 := h.rises
  unfold RowZ.line at h1
  rw [if_pos h0, List.append_assoc, List.singleton_append, List.pairwise_cons] at h1
  exact ⟨fun t ht => h1.1 t (List.mem_append_left _ ht), fun hn => h1.1 _ (List.mem_append_right _ (by rw [if_neg hn]; exact List.mem_singleton.2 rfl))⟩
theorem rise_first {ev : List (BitVec 64) → Bool} {r : RowZ} (h : r.Right ev) (h0 : 0 ≤ r.num) : RiseI ev r (if 0 < r.num then r.due else -1) (if 0 < r.num then r.tr else 0) := by
  refine ⟨h, h0, fun hn => ?_, fun hn => ?_⟩
  · rw [if_pos (by omega), if_pos (by omega)]
    exact ⟨rfl, rfl⟩
  · by_cases hp : 0 < r.num
    · rw [if_pos hp]; exact (due_ahead h hp).2 hn
    · rw [if_neg hp]
      have := (T_bounds h.job r.nx (front_next h hn).2.2).1
      omega
/-- What was told, and what stands then. -/
def ToldI (r : RowZ) (fresh last tries : Int) (s : RowZ) (o : List LaZ) (last' tries' : Int) : Prop :=
  (o = [] ∧ last' = last ∧ tries' = tries) ∨ ∃ t tr, o = [⟨fresh, r.j.n, t, tr⟩] ∧ s.num = fresh ∧ s.due = t ∧ s.tr = tr ∧ ((tr = 0 ∧ last < t) ∨ (0 < tr ∧ t = last ∧ tr = tries + 1)) ∧ tr ≤ r.j.re ∧ last' = t ∧ tries' = tr
theorem busy_rise {ev : List (BitVec 64) → Bool} {s : RowZ} {t tr : Int} (h : s.Right ev) (h0 : 0 < s.num) (hd : s.due = t) (ht : s.tr = tr) : RiseI ev s t tr := by
  subst hd; subst ht
  exact ⟨h, by omega, fun _ => ⟨rfl, rfl⟩, (due_ahead h h0).2⟩
theorem rise_step {ev : List (BitVec 64) → Bool} {r : RowZ} {last tries now fresh nx : Int} {l : List Int} (h : RiseI ev r last tries) (hf : 0 < fresh) (ho : Occ r now l nx) :
    (nx = -1 ∨ now < nx) ∧ ∃ last' tries', ToldI r fresh last tries (stepZ fresh r l nx).1 (stepZ fresh r l nx).2 last' tries' ∧ RiseI ev (stepZ fresh r l nx).1 last' tries' := by
  have hr := step_right h.right hf ho
  have hnx : nx = -1 ∨ now < nx := by
    rcases ho with ⟨h1, _, rfl⟩ | ⟨_, _, (⟨_, h1⟩ | ⟨h1, _⟩) | ⟨_, _, h1⟩, _⟩
    · exact h1
    · exact .inr h1.2.1
    · cases h1
    · exact .inl h1
  refine ⟨hnx, ?_⟩
  have hlast : nx ≠ -1 → last < nx := fun hn => by
    rcases ho with ⟨_, _, rfl⟩ | ⟨h1, h2, _, _⟩
    · exact h.nx hn
    · have := h.nx h1; omega
  have hj : r.j.re ≥ 0 := by have := h.right.tr0; have := h.right.tr1; omega
  by_cases h0 : r.num = 0
  · cases l with
    | nil => exact ⟨last, tries, .inl ⟨rfl, rfl, rfl⟩, hr, h.num0, fun hn => absurd h0 hn, hlast⟩
    | cons t l =>
      have e : (stepZ fresh r (t :: l) nx) = (nextR (waitR l (firstR fresh t r)) nx, [⟨fresh, r.j.n, t, 0⟩]) := by
        unfold stepZ
        rw [takes_idle t l h0 (by omega)]
      have hlt : last < t := by
        rcases ho with ⟨_, h1, _⟩ | ⟨h1, h2, _, h3⟩
        · cases h1
        · have := (offer_mem h3 (front_next h.right h1).2.2 h2).1 t (List.mem_cons_self ..)
          have := h.nx h1
          omega
      rw [e] at hr ⊢
      exact ⟨t, 0, .inr ⟨t, 0, rfl, rfl, rfl, rfl, .inl ⟨rfl, hlt⟩, hj, rfl, rfl⟩, busy_rise hr hf rfl rfl⟩
  · have e : (stepZ fresh r l nx) = (nextR (waitR l r) nx, []) := by
      unfold stepZ
      rw [takes_busy l h0]
    rw [e] at hr ⊢
    have hd := h.run h0
    exact ⟨last, tries, .inl ⟨rfl, rfl, rfl⟩, busy_rise hr (by show 0 < r.num; have := h.num0; omega) hd.1.symm hd.2.symm⟩
theorem rise_end {ev : List (BitVec 64) → Bool} {r : RowZ} {last tries fresh : Int} {ok : Bool} (h : RiseI ev r last tries) (hf : 0 < fresh) (h0 : 0 < r.num) :
    ((endZ ok fresh r).2.2 = true → (endZ ok fresh r).2.1 = [] ∧ r.j.o = true ∧ (endZ ok fresh r).1.num = 0) ∧ ∃ last' tries', ToldI r fresh last tries (endZ ok fresh r).1 (endZ ok fresh r).2.1 last' tries' ∧ RiseI ev (endZ ok fresh r).1 last' tries' := by
  have hr := end_right (ok := ok) h.right hf h0
  obtain ⟨d1, d2⟩ := due_ahead h.right h0
  obtain ⟨e1, e2⟩ := h.run (by omega)
  have h3 := h.right.tr0; have h4 := h.right.tr1
  unfold endZ at *
  split at hr
  · rename_i hc
    rw [if_pos hc]
    exact ⟨fun e => (by cases e), last, tries + 1, .inr ⟨last, tries + 1, by rw [e1, e2], rfl, e1.symm, by rw [e2]; rfl, .inr ⟨by omega, rfl, rfl⟩, by rw [e2]; have := hc.2; omega, rfl, rfl⟩, busy_rise hr hf e1.symm (by rw [e2]; rfl)⟩
  · rename_i hc
    rw [if_neg hc]
    cases hq : r.q with
    | nil =>
      rw [hq] at hr
      refine ⟨fun e => ⟨rfl, ?_, rfl⟩, last, tries, .inl ⟨rfl, rfl, rfl⟩, hr, Int.le_refl _, fun hn => absurd rfl hn, h.nx⟩
      exact (Bool.and_eq_true _ _ ▸ e : r.j.o = true ∧ _).1
    | cons t q =>
      rw [hq] at hr
      have := d1 t (by rw [hq]; exact List.mem_cons_self ..)
      exact ⟨fun e => (by cases e), t, 0, .inr ⟨t, 0, rfl, rfl, rfl, rfl, .inl ⟨rfl, by omega⟩, by omega, rfl, rfl⟩, busy_rise hr hf rfl rfl⟩
theorem step_same (num : Int) (r : RowZ) (l : List Int) (nx : Int) : (stepZ num r l nx).1.j = r.j ∧ (stepZ num r l nx).1.pa = r.pa ∧ (stepZ num r l nx).1.nx = nx := by
  have key : ∀ (l : List Int) (s : RowZ × List LaZ), (l.foldl (takeZ num) s).1.j = s.1.j ∧ (l.foldl (takeZ num) s).1.pa = s.1.pa := by
    intro l
    induction l with
    | nil => intro s; exact ⟨rfl, rfl⟩
    | cons t l ih =>
      intro s
      rw [List.foldl_cons]
      obtain ⟨h1, h2⟩ := ih (takeZ num s t)
      rw [h1, h2]
      unfold takeZ
      split
      · exact ⟨rfl, rfl⟩
      · split <;> exact ⟨rfl, rfl⟩
  obtain ⟨h1, h2⟩ := key l (r, [])
  exact ⟨h1, h2, rfl⟩
theorem end_same (ok : Bool) (fresh : Int) (r : RowZ) : (endZ ok fresh r).1.j = r.j ∧ (endZ ok fresh r).1.pa = r.pa := by
  unfold endZ
  split
  · exact ⟨rfl, rfl⟩
  · split <;> exact ⟨rfl, rfl⟩
end Go.Proofs.YthghcffibljclaaDoor
