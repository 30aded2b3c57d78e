/- A wheel, plain: what is put, cut, turned; rows of puts; what the document's wheel holds to. Of no program. -/
import Derived.Test.YtidgiohjgkfjcaaDoorQMath
namespace Go.Proofs.YtidgiohjgkfjcaaDoor

/-- The last time. -/
def topQ : Int := 253402300799
/-- May a time be? -/
def timeQ (t : Int) : Prop := 0 ≤ t ∧ t ≤ topQ
instance (t : Int) : Decidable (timeQ t) := inferInstanceAs (Decidable (_ ∧ _))
def hasQ (n : Int) (l : List (Int × Int)) : Bool := l.any (fun d => decide (d.2 = n))
theorem hasQ_iff {n : Int} {l : List (Int × Int)} : hasQ n l = true ↔ ∃ d ∈ l, d.2 = n := by
  unfold hasQ; simp
/-- The error of a put. -/
def putE (t : Int) (l : List (Int × Int)) (d : Int × Int) : Int :=
  if d.1 ≤ t ∨ ¬timeQ d.1 then 2 else if hasQ d.2 l then 5 else if l.length = 64 then 6 else 0
def putQ (t : Int) (l : List (Int × Int)) (d : Int × Int) : List (Int × Int) := if putE t l d = 0 then insQ d l else l
/-- The dues of a wheel at a time. -/
structure RightQ (t : Int) (l : List (Int × Int)) : Prop where
  time : timeQ t
  sort : SortQ l
  in_ : ∀ d ∈ l, t < d.1 ∧ d.1 ≤ topQ
  nums : l.Pairwise (fun a b => a.2 ≠ b.2)
  len : l.length ≤ 64
theorem RightQ.empty {t : Int} (h : timeQ t) : RightQ t [] := ⟨h, .nil, fun _ h => (by simp at h), .nil, by simp⟩
theorem putE_zero {t : Int} {l : List (Int × Int)} {d : Int × Int} : putE t l d = 0 ↔ t < d.1 ∧ timeQ d.1 ∧ (∀ x ∈ l, x.2 ≠ d.2) ∧ l.length ≠ 64 := by
  unfold putE
  by_cases h1 : d.1 ≤ t ∨ ¬timeQ d.1
  · rw [if_pos h1]
    refine ⟨fun h => by omega, fun ⟨a, b, _, _⟩ => ?_⟩
    rcases h1 with h1 | h1
    · omega
    · exact absurd b h1
  · rw [if_neg h1]
    have h2 : t < d.1 := by apply Int.not_le.1; exact fun h => h1 (.inl h)
    have h3 : timeQ d.1 := Decidable.byContradiction fun h => h1 (.inr h)
    by_cases h4 : hasQ d.2 l = true
    · rw [if_pos h4]
      refine ⟨fun h => by omega, fun ⟨_, _, c, _⟩ => ?_⟩
      obtain ⟨x, hx, e⟩ := hasQ_iff.1 h4
      exact absurd e (c x hx)
    · rw [if_neg h4]
      have h5 : ∀ x ∈ l, x.2 ≠ d.2 := fun x hx e => h4 (hasQ_iff.2 ⟨x, hx, e⟩)
      by_cases h6 : l.length = 64
      · rw [if_pos h6]; exact ⟨fun h => by omega, fun h => absurd h6 h.2.2.2⟩
      · rw [if_neg h6]; exact ⟨fun _ => ⟨h2, h3, h5, h6⟩, fun _ => rfl⟩
theorem RightQ.put {t : Int} {l : List (Int × Int)} (h : RightQ t l) (d : Int × Int) : RightQ t (putQ t l d) := by
  unfold putQ
  by_cases e : putE t l d = 0
  · rw [if_pos e]
    obtain ⟨a, b, c, f⟩ := putE_zero.1 e
    refine ⟨h.time, insQ_sort h.sort c, fun x hx => ?_, ?_, ?_⟩
    · rcases (insQ_mem d l x).1 hx with rfl | hx
      · exact ⟨a, b.2⟩
      · exact h.in_ x hx
    · refine ((insQ_perm d l).pairwise_iff (fun h => Ne.symm h)).2 (List.pairwise_cons.2 ⟨fun x hx e => c x hx e.symm, h.nums⟩)
    · rw [insQ_len]; have := h.len; omega
  · rw [if_neg e]; exact h
theorem RightQ.filter {t : Int} {l : List (Int × Int)} (h : RightQ t l) (p : Int × Int → Bool) : RightQ t (l.filter p) :=
  ⟨h.time, sortQ_filter h.sort p, fun d hd => h.in_ d (List.mem_filter.1 hd).1, List.Pairwise.filter _ h.nums, Nat.le_trans (List.length_filter_le _ _) h.len⟩
theorem RightQ.cut {t : Int} {l : List (Int × Int)} (h : RightQ t l) (n : Int) : RightQ t (cutQ n l) := h.filter _
theorem RightQ.turn {t u : Int} {l : List (Int × Int)} (h : RightQ t l) (hu : timeQ u) : RightQ u (leftQ u l) := by
  have g := h.filter (fun d => decide (u < d.1))
  exact ⟨hu, g.sort, fun d hd => ⟨by simpa using (List.mem_filter.1 hd).2, (h.in_ d (List.mem_filter.1 hd).1).2⟩, g.nums, g.len⟩
/-- Two wheels that hold the same are the same. -/
theorem RightQ.eq {t : Int} {l m : List (Int × Int)} (h : RightQ t l) (g : RightQ t m) (e : ∀ x, x ∈ l ↔ x ∈ m) : l = m := sortQ_eq h.sort g.sort e
theorem putQ_mem {t : Int} {l : List (Int × Int)} {d x : Int × Int} : x ∈ putQ t l d ↔ x ∈ l ∨ (x = d ∧ putE t l d = 0) := by
  unfold putQ
  by_cases e : putE t l d = 0
  · rw [if_pos e, insQ_mem]; simp [e]; grind
  · rw [if_neg e]; simp [e]
/-- A row of puts. -/
def putsQ (t : Int) (l : List (Int × Int)) (r : List (Int × Int)) : List (Int × Int) := r.foldl (putQ t) l
theorem putsQ_right {t : Int} : ∀ (r : List (Int × Int)) {l : List (Int × Int)}, RightQ t l → RightQ t (putsQ t l r)
  | [], _, h => h
  | d :: r, _, h => putsQ_right r (h.put d)
theorem putsQ_len (t : Int) : ∀ (r l : List (Int × Int)), (putsQ t l r).length ≤ l.length + r.length
  | [], l => by simp [putsQ]
  | d :: r, l => by
    have h := putsQ_len t r (putQ t l d)
    have : (putQ t l d).length ≤ l.length + 1 := by unfold putQ; split <;> first | (rw [insQ_len]; omega) | omega
    show (putsQ t (putQ t l d) r).length ≤ _
    rw [List.length_cons]; omega
/-- What a row of dues of numbers of their own, few, comes to: what may be. -/
theorem putsQ_mem {t : Int} : ∀ (r : List (Int × Int)) {l : List (Int × Int)}, r.Pairwise (fun a b => a.2 ≠ b.2) → (∀ d ∈ r, ∀ x ∈ l, x.2 ≠ d.2) → l.length + r.length ≤ 64 →
    ∀ x, x ∈ putsQ t l r ↔ x ∈ l ∨ (x ∈ r ∧ t < x.1 ∧ timeQ x.1)
  | [], _, _, _, _, x => by simp [putsQ]
  | d :: r, l, hp, ha, hl, x => by
    obtain ⟨h1, h2⟩ := List.pairwise_cons.1 hp
    rw [List.length_cons] at hl
    have hlen : (putQ t l d).length ≤ l.length + 1 := by unfold putQ; split <;> first | (rw [insQ_len]; omega) | omega
    have ih := putsQ_mem (t := t) r (l := putQ t l d) h2 (fun e he y hy => by
      rcases putQ_mem.1 hy with hy | ⟨rfl, _⟩
      · exact ha e (List.mem_cons_of_mem _ he) y hy
      · exact h1 e he) (by omega) x
    show x ∈ putsQ t (putQ t l d) r ↔ _
    rw [ih, putQ_mem]
    have hz : putE t l d = 0 ↔ t < d.1 ∧ timeQ d.1 := by
      rw [putE_zero]
      refine ⟨fun h => ⟨h.1, h.2.1⟩, fun h => ⟨h.1, h.2, fun y hy => ha d (List.mem_cons_self ..) y hy, by omega⟩⟩
    rw [hz]
    constructor
    · rintro ((h | ⟨rfl, h⟩) | ⟨h, g⟩)
      · exact .inl h
      · exact .inr ⟨List.mem_cons_self .., h⟩
      · exact .inr ⟨List.mem_cons_of_mem _ h, g⟩
    · rintro (h | ⟨h, g⟩)
      · exact .inl (.inl h)
      · rcases List.mem_cons.1 h with rfl | h
        · exact .inl (.inr ⟨rfl, g⟩)
        · exact .inr ⟨h, g⟩
/-- In whatever order dues are put, it comes to the same. -/
theorem putsQ_perm {t : Int} {r s : List (Int × Int)} (ht : timeQ t) (h : r.Perm s) (hr : r.Pairwise (fun a b => a.2 ≠ b.2)) (hl : r.length ≤ 64) : putsQ t [] r = putsQ t [] s := by
  have hs : s.Pairwise (fun a b => a.2 ≠ b.2) := (h.pairwise_iff (fun h => Ne.symm h)).1 hr
  refine (putsQ_right r (.empty ht)).eq (putsQ_right s (.empty ht)) (fun x => ?_)
  rw [putsQ_mem r hr (by simp) (by simpa using hl), putsQ_mem s hs (by simp) (by simpa [← h.length_eq] using hl)]
  simp [h.mem_iff]
/-- What is cut is as if it had not been put. -/
theorem putsQ_cut {t : Int} {r : List (Int × Int)} (ht : timeQ t) (hr : r.Pairwise (fun a b => a.2 ≠ b.2)) (hl : r.length ≤ 64) (n : Int) : cutQ n (putsQ t [] r) = putsQ t [] (cutQ n r) := by
  have hc : (cutQ n r).Pairwise (fun a b => a.2 ≠ b.2) := List.Pairwise.filter _ hr
  have hlc : (cutQ n r).length ≤ r.length := List.length_filter_le _ _
  refine ((putsQ_right r (.empty ht)).cut n).eq (putsQ_right _ (.empty ht)) (fun x => ?_)
  unfold cutQ
  rw [List.mem_filter, putsQ_mem r hr (by simp) (by simpa using hl)]
  rw [show List.filter (fun d => decide (d.2 ≠ n)) r = cutQ n r by rfl, putsQ_mem (cutQ n r) hc (by simp) (by simp; omega)]
  unfold cutQ
  rw [List.mem_filter]
  simp
  grind
/-- Turned in steps. -/
def stepsQ : List (Int × Int) → List Int → List (Int × Int)
  | _, [] => []
  | l, u :: r => dueQ u l ++ stepsQ (leftQ u l) r
def lastQ : Int → List Int → Int
  | t, [] => t
  | _, u :: r => lastQ u r
def RiseQ : Int → List Int → Prop
  | _, [] => True
  | t, u :: r => t ≤ u ∧ RiseQ u r
theorem lastQ_ge : ∀ {t : Int} {r : List Int}, RiseQ t r → t ≤ lastQ t r
  | t, [], _ => Int.le_refl t
  | t, u :: r, h => by
    have := lastQ_ge h.2
    show t ≤ lastQ u r
    have := h.1
    omega
theorem dueQ_none {t : Int} {l : List (Int × Int)} (h : ∀ d ∈ l, t < d.1) : dueQ t l = [] := by
  unfold dueQ
  rw [List.filter_eq_nil_iff]
  intro x hx
  have := h x hx
  simp; omega
theorem leftQ_all {t : Int} {l : List (Int × Int)} (h : ∀ d ∈ l, t < d.1) : leftQ t l = l := by
  unfold leftQ
  rw [List.filter_eq_self]
  intro x hx
  simpa using h x hx
theorem steps_once : ∀ {t : Int} {l : List (Int × Int)} {r : List Int}, RiseQ t r → SortQ l → (∀ d ∈ l, t < d.1) → stepsQ l r = dueQ (lastQ t r) l
  | t, l, [], _, _, h => by rw [stepsQ, lastQ, dueQ_none h]
  | t, l, u :: r, h, hs, _ => by
    rw [stepsQ, lastQ, steps_once (t := u) (l := leftQ u l) h.2 (sortQ_filter hs _) (fun d hd => by simpa [leftQ] using (List.mem_filter.1 hd).2)]
    exact due_due (lastQ_ge h.2) l hs
/-- A left fold of the steps, as a loop goes them. -/
theorem stepsQ_snoc : ∀ (l : List (Int × Int)) (r : List Int) (u : Int), stepsQ l (r ++ [u]) = stepsQ l r ++ dueQ u (r.foldl (fun m s => leftQ s m) l)
  | l, [], u => by simp [stepsQ]
  | l, v :: r, u => by
    show dueQ v l ++ stepsQ (leftQ v l) (r ++ [u]) = _
    rw [stepsQ_snoc (leftQ v l) r u]
    simp [stepsQ]
theorem left_fold : ∀ {t : Int} {l : List (Int × Int)} {r : List Int}, RiseQ t r → (∀ d ∈ l, t < d.1) → r.foldl (fun m s => leftQ s m) l = leftQ (lastQ t r) l
  | t, l, [], _, h => by rw [List.foldl_nil, lastQ, leftQ_all h]
  | t, l, u :: r, h, _ => by
    rw [List.foldl_cons, lastQ, left_fold (t := u) (l := leftQ u l) h.2 (fun d hd => by simpa [leftQ] using (List.mem_filter.1 hd).2)]
    exact left_left (lastQ_ge h.2) l
end Go.Proofs.YtidgiohjgkfjcaaDoor
