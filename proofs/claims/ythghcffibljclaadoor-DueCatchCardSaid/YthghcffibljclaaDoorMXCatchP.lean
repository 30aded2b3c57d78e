/- What DueCatch asks of what is offered: plain. -/
import Derived.Test.YthghcffibljclaaDoorMXPlain
namespace Go.Proofs.YthghcffibljclaaDoor

theorem lastT_max {T : Int → Prop} {now t : Int} (h : LastT T now t true) : IsMax T now t := by
  rcases h with ⟨_, h⟩ | ⟨h, _⟩
  · exact h
  · cases h
/-- The last time up to now, where Next is not above it. -/
theorem last_some {T : Int → Prop} {nx now t : Int} {ok : Bool} (hT : T nx) (hle : nx ≤ now) (h : LastT T now t ok) : ok = true ∧ nx ≤ t ∧ T t ∧ t ≤ now := by
  rcases h with ⟨rfl, h⟩ | ⟨_, _, h⟩
  · exact ⟨rfl, h.2.2 nx hT hle, h.1, h.2.1⟩
  · have := h nx hT; omega
theorem first_self {T : Int → Prop} {t f : Int} {ok : Bool} (ht : T t) (h : FirstT T (t - 1) f ok) : ok = true ∧ f = t := by
  have h' : FirstT T (t - 1) t true := .inl ⟨rfl, ht, by omega, fun u _ hu => by omega⟩
  obtain ⟨e1, e2⟩ := firstT_one h' h
  exact ⟨e2, e1⟩
theorem nextZ_first {T : Int → Prop} {now nx t : Int} {ok : Bool} (h : NextZ T now nx) (hf : FirstT T now t ok) : (ok = true ∧ nx = t) ∨ (ok = false ∧ nx = -1) := by
  rcases h with h | ⟨u, h, rfl⟩
  · obtain ⟨rfl, rfl⟩ := firstT_one h hf
    exact .inl ⟨rfl, rfl⟩
  · obtain ⟨_, rfl⟩ := firstT_one h hf
    exact .inr ⟨rfl, rfl⟩
/-- With CatchAll: it begins with Next, and ends with the last one, if there are fewer than four. -/
theorem all_asks {T : Int → Prop} {nx now t : Int} {l : List Int} (hT : T nx) (hle : nx ≤ now) (h : Chain T (nx - 1) now 4 l) (hl : LastT T now t true) : 1 ≤ l.length ∧ l.length ≤ 4 ∧ l[0]? = some nx ∧ (l.length = 4 ∨ l[l.length - 1]? = some t) := by
  have hf : FirstT T (nx - 1) nx true := .inl ⟨rfl, hT, by omega, fun u _ hu => by omega⟩
  rcases chain_first h hf with ⟨_, h0⟩ | ⟨_, _, h0⟩
  · exact absurd ⟨rfl, hle⟩ h0
  · have h1 := (List.getElem?_eq_some_iff.1 h0).1
    have h4 := chain_len _ _ _ _ h
    refine ⟨h1, h4, h0, ?_⟩
    rcases chain_latest h hl with ⟨rfl, _⟩ | ⟨_, _, _, h5, h6⟩
    · simp at h1
    · by_cases e : l.length = 4
      · exact .inl e
      · refine .inr ?_
        have hm := h6 (by omega)
        obtain ⟨i, hi, he⟩ := List.mem_iff_getElem.1 hm
        have hr := chain_rises _ _ _ _ h
        have hend : l[l.length - 1]'(by omega) ≤ t := h5 _ (List.getElem_mem _)
        have : i = l.length - 1 := by
          apply Classical.byContradiction
          intro hne
          have := List.pairwise_iff_getElem.1 hr i (l.length - 1) hi (by omega) (by omega)
          omega
        subst this
        rw [List.getElem?_eq_getElem hi, he]
/-- With the others: one or none. -/
theorem last_asks {T : Int → Prop} {ca nx now t : Int} {l : List Int} (h : OfferZ T ca nx now l) (hc : ca ≠ 2) (hl : LastT T now t true) : ((ca = 1 ∨ now - t < 60) ∧ l = [t]) ∨ (¬ (ca = 1 ∨ now - t < 60) ∧ l = []) := by
  rcases h with ⟨h0, _⟩ | ⟨_, u, hu, h⟩
  · exact absurd h0 hc
  · obtain ⟨rfl, _⟩ := lastT_one hl hu
    exact h
end Go.Proofs.YthghcffibljclaaDoor
