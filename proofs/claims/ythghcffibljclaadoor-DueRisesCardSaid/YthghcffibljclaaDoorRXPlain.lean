/- What of a row is offered, and what becomes of it: plain. -/
import Derived.Test.YthghcffibljclaaDoorRVTable
import Derived.Test.YthghcffibljclaaDoorRVRight
namespace Go.Proofs.YthghcffibljclaaDoor

/-- The first time behind one, or none's. -/
def NextZ (T : Int → Prop) (now nx : Int) : Prop := FirstT T now nx true ∨ (∃ t, FirstT T now t false ∧ nx = -1)
/-- What of a row whose Next is not above now is offered. -/
def OfferZ (T : Int → Prop) (ca nx now : Int) (l : List Int) : Prop :=
  (ca = 2 ∧ Chain T (nx - 1) now 4 l) ∨ (ca ≠ 2 ∧ ∃ t, LastT T now t true ∧ (((ca = 1 ∨ now - t < 60) ∧ l = [t]) ∨ (¬ (ca = 1 ∨ now - t < 60) ∧ l = [])))
/-- What is offered of a row that may be, and its Next then. -/
def Occ (r : RowZ) (now : Int) (l : List Int) (nx : Int) : Prop :=
  ((r.nx = -1 ∨ now < r.nx) ∧ l = [] ∧ nx = r.nx) ∨ (r.nx ≠ -1 ∧ r.nx ≤ now ∧ NextZ r.j.T now nx ∧ OfferZ r.j.T r.j.ca r.nx now l)
theorem nextZ_one {T : Int → Prop} {now a b : Int} (h : NextZ T now a) (h' : NextZ T now b) : a = b := by
  rcases h with h | ⟨t, h, rfl⟩ <;> rcases h' with h' | ⟨t', h', rfl⟩
  · exact (firstT_one h' h).1
  · have := (firstT_one h h').2; cases this
  · have := (firstT_one h h').2; cases this
  · rfl
theorem offerZ_one {T : Int → Prop} {ca nx now : Int} {l l' : List Int} (h : OfferZ T ca nx now l) (h' : OfferZ T ca nx now l') : l = l' := by
  rcases h with ⟨h0, h⟩ | ⟨h0, t, ht, h⟩ <;> rcases h' with ⟨h0', h'⟩ | ⟨h0', t', ht', h'⟩
  · exact chain_one _ _ _ _ _ h h'
  · exact absurd h0 h0'
  · exact absurd h0' h0
  · obtain ⟨rfl, _⟩ := lastT_one ht' ht
    rcases h with ⟨h1, rfl⟩ | ⟨h1, rfl⟩ <;> rcases h' with ⟨h2, rfl⟩ | ⟨h2, rfl⟩
    · rfl
    · exact absurd h1 h2
    · exact absurd h2 h1
    · rfl
theorem occ_one {r : RowZ} {now nx nx' : Int} {l l' : List Int} (h : Occ r now l nx) (h' : Occ r now l' nx') : l = l' ∧ nx = nx' := by
  rcases h with ⟨h0, rfl, rfl⟩ | ⟨h0, h1, h2, h3⟩ <;> rcases h' with ⟨h0', rfl, rfl⟩ | ⟨h0', h1', h2', h3'⟩
  · exact ⟨rfl, rfl⟩
  · omega
  · omega
  · exact ⟨offerZ_one h3 h3', nextZ_one h2 h2'⟩
/-- A launch: its number, name, time and try. -/
structure LaZ where
  num : Int
  name : Int
  due : Int
  tr : Int
/-- One time is taken. -/
def takeZ (num : Int) (s : RowZ × List LaZ) (t : Int) : RowZ × List LaZ :=
  if s.1.num = 0 then ({ s.1 with num := num, due := t, tr := 0 }, s.2 ++ [⟨num, s.1.j.n, t, 0⟩])
  else if s.1.j.ov = 1 ∧ s.1.q.length < 3 then ({ s.1 with q := s.1.q ++ [t] }, s.2) else s
def takesZ (num : Int) (r : RowZ) (l : List Int) : RowZ × List LaZ := l.foldl (takeZ num) (r, [])
def nextR (r : RowZ) (nx : Int) : RowZ := { r with nx := nx }
def stepZ (num : Int) (r : RowZ) (l : List Int) (nx : Int) : RowZ × List LaZ := (nextR (takesZ num r l).1 nx, (takesZ num r l).2)
/-- What ran is answered: it is launched once more; or the queue's first one; or nothing runs. -/
def againR (fresh : Int) (r : RowZ) : RowZ := { r with num := fresh, tr := r.tr + 1 }
def headR (fresh : Int) (t : Int) (q : List Int) (r : RowZ) : RowZ := { r with num := fresh, due := t, tr := 0, q := q }
def idleR (r : RowZ) : RowZ := { r with num := 0, due := 0, tr := 0 }
def endZ (ok : Bool) (fresh : Int) (r : RowZ) : RowZ × List LaZ × Bool :=
  if ok = false ∧ r.tr < r.j.re then (againR fresh r, [⟨fresh, r.j.n, r.due, r.tr + 1⟩], false)
  else match r.q with
    | t :: q => (headR fresh t q r, [⟨fresh, r.j.n, t, 0⟩], false)
    | [] => (idleR r, [], r.j.o && decide (r.nx = -1))
theorem takes_snoc {num : Int} {r : RowZ} {l : List Int} {k : Nat} {t : Int} (h : l[k]? = some t) : takesZ num r (l.take (k + 1)) = takeZ num (takesZ num r (l.take k)) t := by
  unfold takesZ
  rw [List.take_add_one, h, Option.toList_some, List.foldl_append]
  rfl
/-- Where something runs, nothing more is launched. -/
def waitR (l : List Int) (r : RowZ) : RowZ := { r with q := if r.j.ov = 1 then r.q ++ l.take (3 - r.q.length) else r.q }
theorem fold_busy (num : Int) : ∀ (l : List Int) (r : RowZ) (o : List LaZ), r.num ≠ 0 → l.foldl (takeZ num) (r, o) = (waitR l r, o)
  | [], r, o, h => by
    obtain ⟨j, pa, nx, nm, due, tr, q⟩ := r
    simp [waitR]
  | t :: l, r, o, h => by
    rw [List.foldl_cons]
    by_cases hc : r.j.ov = 1 ∧ r.q.length < 3
    · have e : takeZ num (r, o) t = ({ r with q := r.q ++ [t] }, o) := by unfold takeZ; rw [if_neg h, if_pos hc]
      rw [e, fold_busy num l { r with q := r.q ++ [t] } o h]
      obtain ⟨j, pa, nx, nm, due, tr, q⟩ := r
      simp only [waitR] at hc ⊢
      rw [if_pos hc.1, if_pos hc.1, List.length_append, List.length_singleton, List.append_assoc, List.singleton_append]
      have : 3 - q.length = (3 - (q.length + 1)) + 1 := by omega
      rw [this, List.take_succ_cons]
    · have e : takeZ num (r, o) t = (r, o) := by unfold takeZ; rw [if_neg h, if_neg hc]
      rw [e, fold_busy num l r o h]
      obtain ⟨j, pa, nx, nm, due, tr, q⟩ := r
      simp only [waitR] at hc ⊢
      by_cases h1 : j.ov = 1
      · have h2 : 3 - q.length = 0 := by have := Classical.not_and_iff_not_or_not.1 hc; omega
        rw [if_pos h1, if_pos h1, h2, List.take_zero, List.take_zero]
      · rw [if_neg h1, if_neg h1]
/-- The first one is launched, where nothing runs; what is told. -/
def firstR (num t : Int) (r : RowZ) : RowZ := { r with num := num, due := t, tr := 0 }
theorem takes_busy {num : Int} {r : RowZ} (l : List Int) (h : r.num ≠ 0) : takesZ num r l = (waitR l r, []) := fold_busy num l r [] h
theorem takes_nil (num : Int) (r : RowZ) : takesZ num r [] = (r, []) := rfl
theorem takes_idle {num : Int} {r : RowZ} (t : Int) (l : List Int) (h : r.num = 0) (hn : num ≠ 0) : takesZ num r (t :: l) = (waitR l (firstR num t r), [⟨num, r.j.n, t, 0⟩]) := by
  unfold takesZ
  rw [List.foldl_cons]
  have e : takeZ num (r, []) t = (firstR num t r, [⟨num, r.j.n, t, 0⟩]) := by unfold takeZ; rw [if_pos h]; rfl
  rw [e, fold_busy num l _ _ hn]
/-! What comes may be. -/
def RowZ.front (r : RowZ) : List Int := (if 0 < r.num then [r.due] else []) ++ r.q
theorem line_front (r : RowZ) : r.line = r.front ++ (if r.nx = -1 then [] else [r.nx]) := rfl
theorem wait_front (l : List Int) (r : RowZ) : ∃ m, (waitR l r).front = r.front ++ m ∧ m.Sublist l := by
  obtain ⟨j, pa, nx, nm, due, tr, q⟩ := r
  unfold waitR RowZ.front
  simp only
  by_cases h : j.ov = 1
  · rw [if_pos h]
    exact ⟨_, (List.append_assoc _ _ _).symm, List.take_sublist _ _⟩
  · rw [if_neg h]
    exact ⟨[], by rw [List.append_nil], List.nil_sublist _⟩
theorem first_front {num t : Int} {r : RowZ} (hn : 0 < num) (h0 : r.num = 0) (hq : r.q = []) : (firstR num t r).front = r.front ++ [t] := by
  unfold firstR RowZ.front
  simp only
  rw [if_pos hn, h0, hq]
  simp
/-- All but the line. -/
structure RowZ.Stands (ev : List (BitVec 64) → Bool) (r : RowZ) : Prop where
  job : r.j.err ev = 0
  pa : r.pa = true → r.nx = -1
  tr0 : 0 ≤ r.tr
  tr1 : r.tr ≤ r.j.re
  q3 : r.q.length ≤ 3
  idle : r.num = 0 → r.due = 0 ∧ r.tr = 0 ∧ r.q = []
  skip : r.j.ov = 0 → r.q = []
theorem Stands.right {ev : List (BitVec 64) → Bool} {r : RowZ} (h : r.Stands ev) (h1 : r.line.Pairwise (· < ·)) (h2 : ∀ t ∈ r.line, r.j.T t) : r.Right ev :=
  ⟨h.job, h.pa, h.tr0, h.tr1, h.q3, h.idle, h.skip, h1, h2⟩
theorem right_stands {ev : List (BitVec 64) → Bool} {r : RowZ} (h : r.Right ev) : r.Stands ev := ⟨h.job, h.pa, h.tr0, h.tr1, h.q3, h.idle, h.skip⟩
theorem next_right {ev : List (BitVec 64) → Bool} {r : RowZ} {now nx : Int} (h : (nextR r nx).Stands ev) (h1 : r.front.Pairwise (· < ·)) (h2 : ∀ t ∈ r.front, r.j.T t ∧ t ≤ now) (hn : NextZ r.j.T now nx) : (nextR r nx).Right ev := by
  have hf : (nextR r nx).line = r.front ++ (if nx = -1 then [] else [nx]) := rfl
  refine Stands.right h ?_ ?_
  · rw [hf]
    refine List.pairwise_append.2 ⟨h1, by split <;> simp, fun x hx y hy => ?_⟩
    rcases hn with (⟨_, hn⟩ | ⟨hn, _⟩) | ⟨t, _, hn⟩
    · split at hy
      · cases hy
      · rw [List.mem_singleton] at hy
        have := (h2 x hx).2; have := hn.2.1; omega
    · cases hn
    · rw [if_pos hn] at hy; cases hy
  · rw [hf]
    intro x hx
    rcases List.mem_append.1 hx with hx | hx
    · exact (h2 x hx).1
    · rcases hn with hn | ⟨t, _, hn⟩
      · split at hx
        · cases hx
        · rw [List.mem_singleton] at hx
          rw [hx]
          rcases hn with ⟨_, hn⟩ | ⟨hn, _⟩
          · exact hn.1
          · cases hn
      · rw [if_pos hn] at hx; cases hx
theorem offer_mem {T : Int → Prop} {ca nx now : Int} {l : List Int} (h : OfferZ T ca nx now l) (hT : T nx) (hle : nx ≤ now) : (∀ t ∈ l, T t ∧ nx ≤ t ∧ t ≤ now) ∧ l.Pairwise (· < ·) := by
  rcases h with ⟨_, h⟩ | ⟨_, t, ht, h⟩
  · refine ⟨fun t ht => ?_, chain_rises _ _ _ _ h⟩
    obtain ⟨h1, h2, h3⟩ := chain_mem _ _ _ _ h t ht
    exact ⟨h1, by omega, h3⟩
  · rcases h with ⟨_, rfl⟩ | ⟨_, rfl⟩
    · refine ⟨fun u hu => ?_, List.pairwise_singleton _ _⟩
      rw [List.mem_singleton] at hu
      subst hu
      rcases ht with ⟨_, ht⟩ | ⟨ht, _⟩
      · exact ⟨ht.1, ht.2.2 nx hT hle, ht.2.1⟩
      · cases ht
    · exact ⟨fun u hu => (by cases hu), List.Pairwise.nil⟩
theorem front_next {ev : List (BitVec 64) → Bool} {r : RowZ} (h : r.Right ev) (hn : r.nx ≠ -1) : r.front.Pairwise (· < ·) ∧ (∀ t ∈ r.front, r.j.T t ∧ t < r.nx) ∧ r.j.T r.nx := by
  have h1 := h.rises; have h2 := h.times
  rw [line_front, if_neg hn] at h1 h2
  obtain ⟨h3, _, h4⟩ := List.pairwise_append.1 h1
  exact ⟨h3, fun t ht => ⟨h2 t (List.mem_append_left _ ht), h4 t ht _ (List.mem_singleton.2 rfl)⟩, h2 _ (List.mem_append_right _ (List.mem_singleton.2 rfl))⟩
theorem wait_stands {ev : List (BitVec 64) → Bool} {r : RowZ} {nx : Int} (l : List Int) (h : (nextR r nx).Stands ev) (hn : r.num ≠ 0) : (nextR (waitR l r) nx).Stands ev := by
  refine ⟨h.job, h.pa, h.tr0, h.tr1, ?_, fun h0 => absurd h0 hn, fun h0 => ?_⟩
  · have := h.q3
    show (waitR l r).q.length ≤ 3
    have this : r.q.length ≤ 3 := this
    unfold waitR
    simp only
    split
    · rw [List.length_append, List.length_take]; omega
    · exact this
  · have h0 : r.j.ov = 0 := h0
    have := h.skip h0
    show (waitR l r).q = []
    unfold waitR
    simp only
    rw [if_neg (by omega)]
    exact this
/-- A step leaves a row that may be. -/
theorem step_right {ev : List (BitVec 64) → Bool} {r : RowZ} {now num nx : Int} {l : List Int} (h : r.Right ev) (hn : 0 < num) (ho : Occ r now l nx) : (stepZ num r l nx).1.Right ev := by
  rcases ho with ⟨_, rfl, rfl⟩ | ⟨h0, h1, h2, h3⟩
  · exact h
  · obtain ⟨f1, f2, f3⟩ := front_next h h0
    obtain ⟨o1, o2⟩ := offer_mem h3 f3 h1
    have hst := right_stands h
    have hpa : r.pa = false := by
      cases hp : r.pa with
      | false => rfl
      | true => exact absurd (h.pa hp) h0
    have hnx : (nextR r nx).Stands ev := ⟨hst.job, (fun hp => by have hp : r.pa = true := hp; rw [hpa] at hp; cases hp), hst.tr0, hst.tr1, hst.q3, hst.idle, hst.skip⟩
    show (nextR (takesZ num r l).1 nx).Right ev
    have key : ∀ m, (takesZ num r l).1.front = r.front ++ m → m.Sublist l → (takesZ num r l).1.j = r.j → (nextR (takesZ num r l).1 nx).Stands ev → (nextR (takesZ num r l).1 nx).Right ev := by
      intro m hm hs hj hS
      refine next_right (now := now) hS ?_ ?_ (by rw [hj]; exact h2)
      · rw [hm]
        refine List.pairwise_append.2 ⟨f1, o2.sublist hs, fun x hx y hy => ?_⟩
        have := (f2 x hx).2; have := (o1 y (hs.subset hy)).2.1; omega
      · rw [hm, hj]
        intro t ht
        rcases List.mem_append.1 ht with ht | ht
        · exact ⟨(f2 t ht).1, by have := (f2 t ht).2; omega⟩
        · have := o1 t (hs.subset ht)
          exact ⟨this.1, this.2.2⟩
    by_cases hb : r.num = 0
    · match l, o1, o2, key with
      | [], _, _, key => exact key [] (by rw [takes_nil, List.append_nil]) (List.nil_sublist _) rfl hnx
      | t :: l, _, _, key =>
        have hf := first_front (num := num) (t := t) hn hb (hst.idle hb).2.2
        obtain ⟨m, hm, hs⟩ := wait_front l (firstR num t r)
        rw [takes_idle t l hb (by omega)] at key ⊢
        refine key (t :: m) (by rw [hm, hf, List.append_assoc]; rfl) (hs.cons_cons t) rfl ?_
        refine wait_stands (r := firstR num t r) l ⟨hst.job, hnx.pa, Int.le_refl _, ?_, hst.q3, (fun h0 => absurd h0 (show num ≠ 0 by omega)), hst.skip⟩ (show num ≠ 0 by omega)
        show 0 ≤ r.j.re
        have := hst.tr0; have := hst.tr1; omega
    · obtain ⟨m, hm, hs⟩ := wait_front l r
      rw [takes_busy l hb] at key ⊢
      exact key m hm hs rfl (wait_stands l hnx hb)
/-- An answer leaves a row that may be. -/
theorem end_right {ev : List (BitVec 64) → Bool} {r : RowZ} {fresh : Int} {ok : Bool} (h : r.Right ev) (hn : 0 < fresh) (h0 : 0 < r.num) : (endZ ok fresh r).1.Right ev := by
  have hst := right_stands h
  have hr := h.rises; have ht := h.times
  unfold RowZ.line at hr ht
  rw [if_pos h0] at hr ht
  unfold endZ
  split
  · rename_i hc
    refine ⟨h.job, h.pa, (by have := h.tr0; show 0 ≤ r.tr + 1; omega), (by have := hc.2; show r.tr + 1 ≤ r.j.re; omega), h.q3, (fun h1 => by have h1 : fresh = 0 := h1; omega), h.skip, ?_, ?_⟩
    · show (againR fresh r).line.Pairwise _
      unfold RowZ.line againR
      simp only
      rw [if_pos hn]
      exact hr
    · show ∀ t ∈ (againR fresh r).line, _
      unfold RowZ.line againR
      simp only
      rw [if_pos hn]
      exact ht
  · obtain ⟨j, pa, nx, num, due, tr, q⟩ := r
    cases q with
    | nil =>
      simp only at hr ht h0 ⊢
      refine ⟨h.job, h.pa, Int.le_refl _, (by have := h.tr0; have := h.tr1; simp only [idleR] at *; omega), (by simp [idleR]), (fun _ => ⟨rfl, rfl, rfl⟩), (fun _ => rfl), ?_, ?_⟩
      · unfold RowZ.line idleR
        simp only
        rw [if_neg (by omega)]
        exact (List.pairwise_append.1 hr).2.1
      · unfold RowZ.line idleR
        simp only
        rw [if_neg (by omega)]
        intro t htt
        exact ht t (List.mem_append_right _ htt)
    | cons t q =>
      simp only at hr ht h0 ⊢
      have hov := h.skip
      simp only at hov
      refine ⟨h.job, h.pa, Int.le_refl _, (by have := h.tr0; have := h.tr1; simp only [headR] at *; omega), (by have := h.q3; simp only [headR, List.length_cons] at *; omega), (fun h1 => by have h1 : fresh = 0 := h1; omega), (fun h1 => by have := hov h1; cases this), ?_, ?_⟩
      · unfold RowZ.line headR
        simp only
        rw [if_pos hn]
        simp only [List.cons_append] at hr ⊢
        exact (List.pairwise_cons.1 hr).2
      · unfold RowZ.line headR
        simp only
        rw [if_pos hn]
        intro u hu
        refine ht u ?_
        simp only [List.cons_append] at hu ⊢
        exact List.mem_cons_of_mem _ hu
end Go.Proofs.YthghcffibljclaaDoor
