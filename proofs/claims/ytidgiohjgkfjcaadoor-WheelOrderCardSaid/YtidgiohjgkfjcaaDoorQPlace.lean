/- A wheel by its places: which due stands where, and what a turn does to each place. Of no program. -/
import Derived.Test.YtidgiohjgkfjcaaDoorQWheel
import Derived.Test.YtidgiohjgkfjcaaDoorQBits
namespace Go.Proofs.YtidgiohjgkfjcaaDoor

/-- The number of a place: 64 for each level, and the slot; the list is 256. -/
def plQ (t a : Int) : Nat := if 4 ≤ levQ 6 t.toNat a.toNat then 256 else levQ 6 t.toNat a.toNat * 64 + slotQ (levQ 6 t.toNat a.toNat) a.toNat
theorem plQ_le (t a : Int) : plQ t a ≤ 256 := by
  unfold plQ
  have := slotQ_lt (levQ 6 t.toNat a.toNat) a.toNat
  split <;> omega
theorem placeQ_pl (t a : Int) : placeQ t a = (((plQ t a / 64 : Nat) : Int), ((plQ t a % 64 : Nat) : Int)) := by
  unfold placeQ plQ
  have := slotQ_lt (levQ 6 t.toNat a.toNat) a.toNat
  by_cases h : 4 ≤ levQ 6 t.toNat a.toNat
  · rw [if_pos h, if_pos h]; rfl
  · rw [if_neg h, if_neg h]
    have e1 : (levQ 6 t.toNat a.toNat * 64 + slotQ (levQ 6 t.toNat a.toNat) a.toNat) / 64 = levQ 6 t.toNat a.toNat := by omega
    have e2 : (levQ 6 t.toNat a.toNat * 64 + slotQ (levQ 6 t.toNat a.toNat) a.toNat) % 64 = slotQ (levQ 6 t.toNat a.toNat) a.toNat := by omega
    rw [e1, e2]
theorem nat_lt7 {a : Int} (h : a ≤ topQ) : a.toNat < 64 ^ (6 + 1) := by unfold topQ at h; omega
theorem plQ_lt_of {t a b : Int} (h0 : 0 ≤ t) (ha : t < a) (hb : t < b) (ha1 : a ≤ topQ) (hb1 : b ≤ topQ) (h : plQ t b < plQ t a) : b < a := by
  have a7 := nat_lt7 ha1
  have b7 := nat_lt7 hb1
  suffices b.toNat < a.toNat by omega
  have sa := slotQ_lt (levQ 6 t.toNat a.toNat) a.toNat
  have sb := slotQ_lt (levQ 6 t.toNat b.toNat) b.toNat
  have ht : t.toNat < a.toNat := by omega
  have ht2 : t.toNat < b.toNat := by omega
  obtain ⟨ga, _⟩ := levQ_spec 6 t.toNat a.toNat (by omega) a7
  obtain ⟨gb, _⟩ := levQ_spec 6 t.toNat b.toNat (by omega) b7
  unfold plQ at h
  by_cases h1 : 4 ≤ levQ 6 t.toNat b.toNat
  · rw [if_pos h1] at h
    split at h <;> omega
  · rw [if_neg h1] at h
    by_cases h2 : levQ 6 t.toNat b.toNat < levQ 6 t.toNat a.toNat
    · exact levQ_first b7 a7 ht2 ht h2
    · have e : levQ 6 t.toNat a.toNat = levQ 6 t.toNat b.toNat := by
        split at h <;> omega
      rw [if_neg (by omega), e] at h
      rw [e] at ga
      exact slotQ_first (gb.symm.trans ga) (show slotQ (levQ 6 t.toNat b.toNat) b.toNat < slotQ (levQ 6 t.toNat b.toNat) a.toNat by omega)
theorem plQ_mono {t a b : Int} (h0 : 0 ≤ t) (ha : t < a) (hb : t < b) (ha1 : a ≤ topQ) (hb1 : b ≤ topQ) (h : a ≤ b) : plQ t a ≤ plQ t b := by
  apply Nat.not_lt.1
  intro g
  have := plQ_lt_of h0 ha hb ha1 hb1 g
  omega
theorem plQ_self (t : Int) : plQ t t = t.toNat % 64 := by
  have e : levQ 6 t.toNat t.toNat = 0 := by unfold levQ; rw [if_pos rfl]
  unfold plQ
  rw [e, if_neg (by omega)]
  unfold slotQ
  simp
/-- What stands at the time itself is ahead of all that is to come. -/
theorem plQ_above {t a : Int} (h0 : 0 ≤ t) (ha : t < a) (ha1 : a ≤ topQ) : plQ t t < plQ t a := by
  rw [plQ_self]
  have a7 := nat_lt7 ha1
  unfold plQ
  by_cases h : 4 ≤ levQ 6 t.toNat a.toNat
  · rw [if_pos h]; omega
  · rw [if_neg h]
    have := slotQ_above a7 (show t.toNat < a.toNat by omega)
    by_cases e : levQ 6 t.toNat a.toNat = 0
    · rw [e] at this ⊢
      unfold slotQ at this ⊢
      simp at this ⊢
      omega
    · omega
/-- Turned to u: what stands ahead of u's place is due. -/
theorem plQ_due {t u a : Int} (h0 : 0 ≤ t) (htu : t ≤ u) (hu : u ≤ topQ) (ha : t < a) (ha1 : a ≤ topQ) (h : plQ t a < plQ t u) : a < u := by
  rcases Int.lt_or_eq_of_le htu with h1 | rfl
  · exact plQ_lt_of h0 h1 ha hu ha1 h
  · have := plQ_above h0 ha ha1; omega
/-- What stands behind it keeps its place. -/
theorem plQ_keep {t u a : Int} (h0 : 0 ≤ t) (htu : t ≤ u) (hu : u ≤ topQ) (ha : t < a) (ha1 : a ≤ topQ) (h : plQ t u < plQ t a) : u < a ∧ plQ u a = plQ t a := by
  rcases Int.lt_or_eq_of_le htu with h1 | rfl
  · have hua := plQ_lt_of h0 ha h1 ha1 hu h
    refine ⟨hua, ?_⟩
    have a7 := nat_lt7 ha1
    have u7 := nat_lt7 hu
    have ht : t.toNat < a.toNat := by omega
    have ht2 : t.toNat < u.toNat := by omega
    have sa := slotQ_lt (levQ 6 t.toNat a.toNat) a.toNat
    have su := slotQ_lt (levQ 6 t.toNat u.toNat) u.toNat
    suffices e : levQ 6 u.toNat a.toNat = levQ 6 t.toNat a.toNat by unfold plQ; rw [e]
    unfold plQ at h
    by_cases h1 : 4 ≤ levQ 6 t.toNat u.toNat
    · rw [if_pos h1] at h
      split at h <;> omega
    · rw [if_neg h1] at h
      by_cases h2 : levQ 6 t.toNat u.toNat < levQ 6 t.toNat a.toNat
      · exact (levQ_keep u7 a7 (by omega) ht (.inr h2)).2
      · have e : levQ 6 t.toNat a.toNat = levQ 6 t.toNat u.toNat := by
          split at h <;> omega
        rw [if_neg (by omega), e] at h
        exact ((levQ_same u7 a7 ht2 ht e).2.1 (by rw [e]; omega)).2
  · exact ⟨ha, rfl⟩
/-- What stands at it, and is not due, comes no farther. -/
theorem plQ_again {t u a : Int} (h0 : 0 ≤ t) (htu : t ≤ u) (hu : u ≤ topQ) (ha : u < a) (ha1 : a ≤ topQ) (h : plQ t a = plQ t u) : plQ u a ≤ plQ t u := by
  rcases Int.lt_or_eq_of_le htu with h1 | rfl
  · have a7 := nat_lt7 ha1
    have u7 := nat_lt7 hu
    have ht : t.toNat < a.toNat := by omega
    have ht2 : t.toNat < u.toNat := by omega
    have sa := slotQ_lt (levQ 6 t.toNat a.toNat) a.toNat
    have su := slotQ_lt (levQ 6 t.toNat u.toNat) u.toNat
    by_cases h1 : 4 ≤ levQ 6 t.toNat u.toNat
    · have e : plQ t u = 256 := by unfold plQ; rw [if_pos h1]
      rw [e]; exact plQ_le u a
    · unfold plQ at h
      rw [if_neg h1] at h
      have e : levQ 6 t.toNat a.toNat = levQ 6 t.toNat u.toNat := by
        split at h <;> omega
      rw [if_neg (by omega), e] at h
      have hl := (levQ_same u7 a7 ht2 ht e).2.2 (by rw [e]; omega) (by omega)
      rw [e] at hl
      have s2 := slotQ_lt (levQ 6 u.toNat a.toNat) a.toNat
      unfold plQ
      rw [if_neg (by omega), if_neg h1]
      have : levQ 6 u.toNat a.toNat + 1 ≤ levQ 6 t.toNat u.toNat := hl
      have := Nat.mul_le_mul_right 64 this
      omega
  · omega

/-- The dues of each place. -/
def stQ (t : Int) (l : List (Int × Int)) (j : Nat) : List (Int × Int) := l.filter (fun d => decide (plQ t d.1 = j))
theorem stQ_mem {t : Int} {l : List (Int × Int)} {j : Nat} {x : Int × Int} : x ∈ stQ t l j ↔ x ∈ l ∧ plQ t x.1 = j := by
  unfold stQ; rw [List.mem_filter]; simp
theorem flat_snoc {α : Type} (f : Nat → List α) (k : Nat) : (List.range (k + 1)).flatMap f = (List.range k).flatMap f ++ f k := by
  rw [List.range_succ, List.flatMap_append]; simp
/-- What stands up to a place, put together in order. -/
theorem flat_before (g : Int × Int → Nat) {l : List (Int × Int)} (h : l.Pairwise (fun a b => g a ≤ g b)) : ∀ k, (List.range k).flatMap (fun j => l.filter (fun d => decide (g d = j))) = l.filter (fun d => decide (g d < k))
  | 0 => by simp
  | k + 1 => by
    rw [flat_snoc, flat_before g h k]
    clear flat_before
    induction l with
    | nil => rfl
    | cons x l ih =>
      obtain ⟨h1, h2⟩ := List.pairwise_cons.1 h
      have ih := ih h2
      rcases Nat.lt_trichotomy (g x) k with hx | hx | hx
      · rw [List.filter_cons_of_pos (by simpa using hx), List.filter_cons_of_neg (by simp; omega), List.filter_cons_of_pos (by simp; omega), List.cons_append, ih]
      · rw [List.filter_cons_of_neg (by simp; omega), List.filter_cons_of_pos (by simp; omega), List.filter_cons_of_pos (by simp; omega)]
        have e : l.filter (fun d => decide (g d < k)) = [] := by
          rw [List.filter_eq_nil_iff]; intro y hy; have := h1 y hy; simp; omega
        rw [e, List.nil_append] at ih ⊢
        rw [ih]
      · rw [List.filter_cons_of_neg (by simp; omega), List.filter_cons_of_neg (by simp; omega), List.filter_cons_of_neg (by simp; omega), ih]
theorem RightQ.rise {t : Int} {l : List (Int × Int)} (h : RightQ t l) : l.Pairwise (fun a b => plQ t a.1 ≤ plQ t b.1) := by
  have h2 : l.Pairwise (fun a b => befQ a b = true ∧ a ∈ l ∧ b ∈ l) := by
    have := h.sort
    unfold SortQ at this
    exact List.Pairwise.imp_of_mem (R := fun a b => befQ a b = true) (fun ha hb hab => ⟨hab, ha, hb⟩) this
  refine h2.imp ?_
  rintro a b ⟨hab, ha, hb⟩
  have := befQ_iff.1 hab
  exact plQ_mono h.time.1 (h.in_ a ha).1 (h.in_ b hb).1 (h.in_ a ha).2 (h.in_ b hb).2 (by omega)
theorem stQ_flat {t : Int} {l : List (Int × Int)} (h : RightQ t l) (k : Nat) : (List.range k).flatMap (stQ t l) = l.filter (fun d => decide (plQ t d.1 < k)) := flat_before (fun d => plQ t d.1) h.rise k
theorem stQ_all {t : Int} {l : List (Int × Int)} (h : RightQ t l) : (List.range 320).flatMap (stQ t l) = l := by
  rw [stQ_flat h, List.filter_eq_self]
  intro d _
  have := plQ_le t d.1
  simp; omega
/-- A place may hold these. -/
structure SlotOk (l : List (Int × Int)) : Prop where
  sort : SortQ l
  nums : l.Pairwise (fun a b => a.2 ≠ b.2)
  len : l.length ≤ 64
theorem RightQ.slot {t : Int} {l : List (Int × Int)} (h : RightQ t l) (j : Nat) : SlotOk (stQ t l j) :=
  ⟨sortQ_filter h.sort _, List.Pairwise.filter _ h.nums, Nat.le_trans (List.length_filter_le _ _) h.len⟩
theorem SlotOk.nil : SlotOk [] := ⟨.nil, .nil, by simp⟩
/-- A due, laid at its place. -/
def layQ (u : Int) (S : Nat → List (Int × Int)) (d : Int × Int) : Nat → List (Int × Int) := fun j => if j = plQ u d.1 then insQ d (S j) else S j
theorem layQ_mem {u : Int} {S : Nat → List (Int × Int)} {d x : Int × Int} {j : Nat} : x ∈ layQ u S d j ↔ x ∈ S j ∨ (x = d ∧ plQ u d.1 = j) := by
  unfold layQ
  by_cases h : j = plQ u d.1
  · rw [if_pos h, insQ_mem]; simp [h.symm]; grind
  · rw [if_neg h]; simp [Ne.symm h]
def laysQ (u : Int) (S : Nat → List (Int × Int)) (r : List (Int × Int)) : Nat → List (Int × Int) := r.foldl (layQ u) S
theorem laysQ_mem {u : Int} {x : Int × Int} {j : Nat} : ∀ {r : List (Int × Int)} {S : Nat → List (Int × Int)}, x ∈ laysQ u S r j ↔ x ∈ S j ∨ (x ∈ r ∧ plQ u x.1 = j)
  | [], S => by simp [laysQ]
  | d :: r, S => by
    show x ∈ laysQ u (layQ u S d) r j ↔ _
    rw [laysQ_mem, layQ_mem, List.mem_cons]
    grind
theorem laysQ_snoc (u : Int) (S : Nat → List (Int × Int)) (r : List (Int × Int)) (d : Int × Int) : laysQ u S (r ++ [d]) = layQ u (laysQ u S r) d := by unfold laysQ; rw [List.foldl_append]; rfl
/-- Dues of numbers of their own, beside those that stand there. -/
theorem laysQ_sort {u : Int} : ∀ {r : List (Int × Int)} {S : Nat → List (Int × Int)}, (∀ j, SortQ (S j)) → r.Pairwise (fun a b => a.2 ≠ b.2) → (∀ d ∈ r, ∀ j, ∀ x ∈ S j, x.2 ≠ d.2) → ∀ j, SortQ (laysQ u S r j)
  | [], S, h, _, _, j => h j
  | d :: r, S, h, hr, ha, j => by
    obtain ⟨h1, h2⟩ := List.pairwise_cons.1 hr
    refine laysQ_sort (u := u) (S := layQ u S d) (fun i => ?_) h2 (fun e he i x hx => ?_) j
    · unfold layQ
      by_cases hi : i = plQ u d.1
      · rw [if_pos hi]; exact insQ_sort (h i) (ha d (List.mem_cons_self ..) i)
      · rw [if_neg hi]; exact h i
    · rcases layQ_mem.1 hx with hx | ⟨rfl, _⟩
      · exact ha e (List.mem_cons_of_mem _ he) i x hx
      · exact h1 e he
/-- What stands where while a wheel is turned, behind the first k places. -/
def turnS (t : Int) (l : List (Int × Int)) (k : Nat) : Nat → List (Int × Int) := fun j => if j < k then [] else stQ t l j
theorem turnS_zero (t : Int) (l : List (Int × Int)) : turnS t l 0 = stQ t l := by funext j; simp [turnS]
/-- Places without dues are passed over. -/
theorem turnS_skip {t : Int} {l : List (Int × Int)} {k j : Nat} (hk : k ≤ j) (h : ∀ i, k ≤ i → i < j → stQ t l i = []) : turnS t l k = turnS t l j := by
  funext i
  unfold turnS
  by_cases h1 : i < k
  · rw [if_pos h1, if_pos (by omega)]
  · rw [if_neg h1]
    by_cases h2 : i < j
    · rw [if_pos h2, h i (by omega) h2]
    · rw [if_neg h2]
theorem filter_lt_succ {t : Int} {l : List (Int × Int)} (h : RightQ t l) (k : Nat) : l.filter (fun d => decide (plQ t d.1 < k + 1)) = l.filter (fun d => decide (plQ t d.1 < k)) ++ stQ t l k := by
  rw [← stQ_flat h, ← stQ_flat h, flat_snoc]
theorem filter_lt_skip {t : Int} {l : List (Int × Int)} {k j : Nat} (hk : k ≤ j) (h : ∀ i, k ≤ i → i < j → stQ t l i = []) : l.filter (fun d => decide (plQ t d.1 < k)) = l.filter (fun d => decide (plQ t d.1 < j)) := by
  apply List.filter_congr
  intro x hx
  have : ¬(k ≤ plQ t x.1 ∧ plQ t x.1 < j) := fun ⟨h1, h2⟩ => by
    have := h _ h1 h2
    have hm : x ∈ stQ t l (plQ t x.1) := stQ_mem.2 ⟨hx, rfl⟩
    rw [this] at hm
    cases hm
  simp only [decide_eq_decide]
  omega
/-- A wheel's turn, place by place: ahead of u's place all is due. -/
theorem turn_before {t u : Int} {l : List (Int × Int)} (h : RightQ t l) (htu : t ≤ u) (hu : u ≤ topQ) {j : Nat} (hj : j < plQ t u) : dueQ u (stQ t l j) = stQ t l j ∧ leftQ u (stQ t l j) = [] := by
  have hd : ∀ d ∈ stQ t l j, d.1 < u := fun d hd => by
    obtain ⟨h1, h2⟩ := stQ_mem.1 hd
    exact plQ_due h.time.1 htu hu (h.in_ d h1).1 (h.in_ d h1).2 (by omega)
  refine ⟨?_, ?_⟩
  · unfold dueQ; rw [List.filter_eq_self]; intro d hh; have := hd d hh; simp; omega
  · unfold leftQ; rw [List.filter_eq_nil_iff]; intro d hh; have := hd d hh; simp; omega
theorem told_last {t u : Int} {l : List (Int × Int)} (h : RightQ t l) (htu : t ≤ u) (hu : u ≤ topQ) : l.filter (fun d => decide (plQ t d.1 < plQ t u)) ++ dueQ u (stQ t l (plQ t u)) = dueQ u l := by
  have e1 := filter_lt_succ h (plQ t u)
  have e2 : dueQ u (l.filter (fun d => decide (plQ t d.1 < plQ t u))) = l.filter (fun d => decide (plQ t d.1 < plQ t u)) := by
    unfold dueQ; rw [List.filter_eq_self]; intro d hd
    obtain ⟨h1, h2⟩ := List.mem_filter.1 hd
    have := plQ_due h.time.1 htu hu (h.in_ d h1).1 (h.in_ d h1).2 (by simpa using h2)
    simp; omega
  have e3 : dueQ u (l.filter (fun d => decide (plQ t d.1 < plQ t u + 1))) = dueQ u l := by
    unfold dueQ
    rw [List.filter_filter]
    apply List.filter_congr
    intro x hx
    by_cases hxu : x.1 ≤ u
    · have hle : plQ t x.1 ≤ plQ t u := by
        rcases Int.lt_or_eq_of_le htu with h1 | rfl
        · exact plQ_mono h.time.1 (h.in_ x hx).1 h1 (h.in_ x hx).2 hu hxu
        · have := (h.in_ x hx).1; omega
      simp [hxu]; omega
    · simp [hxu]
  rw [← e3, e1]
  conv => rhs; unfold dueQ
  rw [List.filter_append]
  exact congrArg (· ++ _) e2.symm
/-- Behind u's place: what is laid anew makes the wheel of u. -/
theorem turn_last {t u : Int} {l : List (Int × Int)} (h : RightQ t l) (htu : t ≤ u) (hu : u ≤ topQ) : laysQ u (turnS t l (plQ t u + 1)) (leftQ u (stQ t l (plQ t u))) = stQ u (leftQ u l) := by
  have hr := h.turn (u := u) ⟨by have := h.time.1; omega, hu⟩
  funext j
  refine sortQ_eq (laysQ_sort (fun i => ?_) ?_ ?_ j) (sortQ_filter hr.sort _) (fun x => ?_)
  · unfold turnS; split
    · exact .nil
    · exact (h.slot i).sort
  · exact List.Pairwise.filter _ (h.slot _).nums
  · intro d hd i x hx
    unfold turnS at hx
    split at hx
    · cases hx
    · rename_i hi
      obtain ⟨h1, h2⟩ := stQ_mem.1 hx
      obtain ⟨h3, h4⟩ := stQ_mem.1 (List.mem_filter.1 hd).1
      intro e
      have hne : x ≠ d := fun e => by subst e; omega
      have hp : ∀ {m : List (Int × Int)}, m.Pairwise (fun a b => a.2 ≠ b.2) → ∀ {a b}, a ∈ m → b ∈ m → a ≠ b → a.2 ≠ b.2 := by
        intro m hm
        induction m with
        | nil => intro a b ha; cases ha
        | cons y m ih =>
          obtain ⟨k1, k2⟩ := List.pairwise_cons.1 hm
          intro a b ha hb hab
          rcases List.mem_cons.1 ha with e1 | ha
          · rcases List.mem_cons.1 hb with e2 | hb
            · exact absurd (e1.trans e2.symm) hab
            · rw [e1]; exact k1 b hb
          · rcases List.mem_cons.1 hb with e2 | hb
            · rw [e2]; exact (k1 a ha).symm
            · exact ih k2 ha hb hab
      exact hp h.nums h1 h3 hne e
  · rw [laysQ_mem, stQ_mem]
    unfold leftQ
    rw [List.mem_filter, List.mem_filter, stQ_mem]
    simp only [decide_eq_true_eq]
    constructor
    · rintro (hx | ⟨⟨⟨h1, h2⟩, h3⟩, h4⟩)
      · unfold turnS at hx
        split at hx
        · cases hx
        · rename_i hj
          obtain ⟨h1, h2⟩ := stQ_mem.1 hx
          obtain ⟨k1, k2⟩ := plQ_keep h.time.1 htu hu (h.in_ x h1).1 (h.in_ x h1).2 (by omega)
          exact ⟨⟨h1, k1⟩, by omega⟩
      · exact ⟨⟨h1, h3⟩, h4⟩
    · rintro ⟨⟨h1, h2⟩, h3⟩
      rcases Nat.lt_trichotomy (plQ t x.1) (plQ t u) with g | g | g
      · have := plQ_due h.time.1 htu hu (h.in_ x h1).1 (h.in_ x h1).2 g
        omega
      · exact .inr ⟨⟨⟨h1, g⟩, h2⟩, h3⟩
      · left
        obtain ⟨k1, k2⟩ := plQ_keep h.time.1 htu hu (h.in_ x h1).1 (h.in_ x h1).2 g
        unfold turnS
        rw [if_neg (by omega)]
        exact stQ_mem.2 ⟨h1, by omega⟩
/-- Where no place up to u's has dues, the turn is done. -/
theorem turn_none {t u : Int} {l : List (Int × Int)} (h : RightQ t l) (htu : t ≤ u) (hu : u ≤ topQ) {k : Nat} (hk : k ≤ plQ t u) (hn : ∀ i, k ≤ i → i ≤ plQ t u → stQ t l i = []) :
    turnS t l k = stQ u (leftQ u l) ∧ l.filter (fun d => decide (plQ t d.1 < k)) = dueQ u l := by
  have e0 := hn (plQ t u) hk (Nat.le_refl _)
  have e1 := turn_last h htu hu
  have e2 := told_last h htu hu
  rw [e0] at e1 e2
  refine ⟨?_, ?_⟩
  · rw [← e1, turnS_skip (j := plQ t u + 1) (by omega) (fun i h1 h2 => hn i h1 (by omega))]; rfl
  · rw [← e2, filter_lt_skip hk (fun i h1 h2 => hn i h1 (by omega))]; simp [dueQ]
/-- A put is laid at its place alone. -/
theorem put_stQ {t : Int} {l : List (Int × Int)} {d : Int × Int} (h : RightQ t l) (hd : ∀ x ∈ l, x.2 ≠ d.2) : layQ t (stQ t l) d = stQ t (insQ d l) := by
  funext j
  have hs := insQ_sort h.sort hd
  refine sortQ_eq ?_ (sortQ_filter hs _) (fun x => ?_)
  · unfold layQ
    split
    · exact insQ_sort (h.slot j).sort (fun x hx => hd x (stQ_mem.1 hx).1)
    · exact (h.slot j).sort
  · rw [layQ_mem, stQ_mem, stQ_mem, insQ_mem]
    grind
/-- A due less at a place. -/
theorem cut_stQ (t : Int) (l : List (Int × Int)) (n : Int) (j : Nat) : stQ t (cutQ n l) j = cutQ n (stQ t l j) := by
  unfold stQ cutQ
  rw [List.filter_filter, List.filter_filter]
  apply List.filter_congr
  intro x _
  rw [Bool.and_comm]
theorem cut_none {n : Int} {l : List (Int × Int)} (h : ∀ x ∈ l, x.2 ≠ n) : cutQ n l = l := by
  unfold cutQ; rw [List.filter_eq_self]; intro x hx; simpa using h x hx
/-- The due of a number, taken out. -/
theorem cut_at {n : Int} : ∀ {l : List (Int × Int)} {i : Nat} {d : Int × Int}, l.Pairwise (fun a b => a.2 ≠ b.2) → l[i]? = some d → d.2 = n → cutQ n l = l.take i ++ l.drop (i + 1)
  | [], i, d, _, h, _ => by simp at h
  | x :: l, 0, d, hp, h, hn => by
    simp at h; subst h
    obtain ⟨h1, h2⟩ := List.pairwise_cons.1 hp
    have e : cutQ n (x :: l) = cutQ n l := by unfold cutQ; rw [List.filter_cons_of_neg (by simp [hn])]
    rw [e, cut_none (fun y hy => by rw [← hn]; exact (h1 y hy).symm)]
    simp
  | x :: l, i + 1, d, hp, h, hn => by
    obtain ⟨h1, h2⟩ := List.pairwise_cons.1 hp
    have hd : d ∈ l := List.mem_of_getElem? (by simpa using h)
    have hx : x.2 ≠ n := by rw [← hn]; exact h1 d hd
    have e : cutQ n (x :: l) = x :: cutQ n l := by unfold cutQ; rw [List.filter_cons_of_pos (by simpa using hx)]
    rw [e, cut_at h2 (by simpa using h) hn]
    simp
/-- In a row in order a due is laid behind those that stand ahead of it. -/
theorem insQ_at {d : Int × Int} : ∀ {l : List (Int × Int)} {i : Nat}, (∀ x ∈ l.take i, befQ x d = true) → (∀ x ∈ l.drop i, befQ d x = true) → insQ d l = l.take i ++ d :: l.drop i
  | [], i, _, _ => by simp [insQ]
  | x :: l, 0, _, h2 => by
    have := h2 x (by simp)
    unfold insQ; rw [if_pos this]; simp
  | x :: l, i + 1, h1, h2 => by
    have hx := h1 x (by simp)
    have hn : ¬ befQ d x = true := fun h => by rw [befQ_iff] at *; omega
    unfold insQ
    rw [if_neg hn, insQ_at (l := l) (i := i) (fun y hy => h1 y (by simp [hy])) (fun y hy => h2 y (by simpa using hy))]
    simp
/-- The first due. -/
theorem stQ_first {t : Int} {l : List (Int × Int)} (h : RightQ t l) {j : Nat} (hn : ∀ i, i < j → stQ t l i = []) {d : Int × Int} {r : List (Int × Int)} (hj : stQ t l j = d :: r) : ∃ q, l = d :: q := by
  have e := stQ_flat h (j + 1)
  rw [flat_snoc, hj] at e
  have e0 : (List.range j).flatMap (stQ t l) = [] := by
    rw [List.flatMap_eq_nil_iff]; intro i hi; exact hn i (List.mem_range.1 hi)
  rw [e0, List.nil_append] at e
  cases l with
  | nil => cases e
  | cons x l =>
    have hx := h.rise
    obtain ⟨h1, _⟩ := List.pairwise_cons.1 hx
    have hd : d ∈ x :: l := (List.mem_filter.1 (e ▸ List.mem_cons_self ..)).1
    have hp : plQ t x.1 < j + 1 := by
      have hdj : plQ t d.1 < j + 1 := of_decide_eq_true (List.mem_filter.1 (show d ∈ (x :: l).filter (fun d => decide (plQ t d.1 < j + 1)) from e ▸ List.mem_cons_self ..)).2
      rcases List.mem_cons.1 hd with rfl | hd
      · exact hdj
      · have := h1 d hd; omega
    rw [List.filter_cons_of_pos (by simpa using hp)] at e
    injection e with e1 e2
    exact ⟨l, by rw [e1]⟩
theorem stQ_empty {t : Int} {l : List (Int × Int)} (h : RightQ t l) (hn : ∀ i, i < 320 → stQ t l i = []) : l = [] := by
  rw [← stQ_all h, List.flatMap_eq_nil_iff]
  intro i hi
  exact hn i (List.mem_range.1 hi)
end Go.Proofs.YtidgiohjgkfjcaaDoor
