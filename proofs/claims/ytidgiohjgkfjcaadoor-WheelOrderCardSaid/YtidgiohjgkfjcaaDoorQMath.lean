/- A wheel, plain: dues in order, what is put, cut and told; levels and slots. Of no program. -/
namespace Go.Proofs.YtidgiohjgkfjcaaDoor

/-- Whether a due (time, number) stands ahead of another one. -/
def befQ (a b : Int × Int) : Bool := decide (a.1 < b.1) || (decide (a.1 = b.1) && decide (a.2 < b.2))
theorem befQ_iff {a b : Int × Int} : befQ a b = true ↔ a.1 < b.1 ∨ (a.1 = b.1 ∧ a.2 < b.2) := by
  unfold befQ; simp
theorem befQ_not {a b : Int × Int} : befQ a b = false ↔ b.1 < a.1 ∨ (a.1 = b.1 ∧ b.2 ≤ a.2) := by
  rw [← Bool.not_eq_true, befQ_iff]; omega
/-- In order. -/
def SortQ (l : List (Int × Int)) : Prop := l.Pairwise (fun a b => befQ a b = true)
/-- A due, laid into a row in order. -/
def insQ (d : Int × Int) : List (Int × Int) → List (Int × Int)
  | [] => [d]
  | x :: l => if befQ d x then d :: x :: l else x :: insQ d l
theorem insQ_mem (d : Int × Int) : ∀ (l : List (Int × Int)) (y), y ∈ insQ d l ↔ y = d ∨ y ∈ l
  | [], y => by simp [insQ]
  | x :: l, y => by
    unfold insQ
    by_cases h : befQ d x = true
    · rw [if_pos h]; simp
    · rw [if_neg h]; simp [insQ_mem d l y]; grind
theorem insQ_perm (d : Int × Int) : ∀ l : List (Int × Int), (insQ d l).Perm (d :: l)
  | [] => .refl _
  | x :: l => by
    unfold insQ
    by_cases h : befQ d x = true
    · rw [if_pos h]
    · rw [if_neg h]
      exact ((insQ_perm d l).cons x).trans (.swap d x l)
theorem insQ_len (d : Int × Int) (l : List (Int × Int)) : (insQ d l).length = l.length + 1 := by
  rw [(insQ_perm d l).length_eq, List.length_cons]
theorem befQ_trans {a b c : Int × Int} (h : befQ a b = true) (g : befQ b c = true) : befQ a c = true := by
  rw [befQ_iff] at *; omega
theorem insQ_sort {d : Int × Int} : ∀ {l : List (Int × Int)}, SortQ l → (∀ x ∈ l, x.2 ≠ d.2) → SortQ (insQ d l)
  | [], _, _ => by simp [insQ, SortQ]
  | x :: l, h, hn => by
    obtain ⟨h1, h2⟩ := List.pairwise_cons.1 h
    unfold insQ
    by_cases hb : befQ d x = true
    · rw [if_pos hb]
      refine List.pairwise_cons.2 ⟨fun y hy => ?_, h⟩
      rcases List.mem_cons.1 hy with rfl | hy
      · exact hb
      · exact befQ_trans hb (h1 y hy)
    · rw [if_neg hb]
      refine List.pairwise_cons.2 ⟨fun y hy => ?_, insQ_sort h2 (fun z hz => hn z (List.mem_cons_of_mem _ hz))⟩
      rcases (insQ_mem d l y).1 hy with rfl | hy
      · have hx := hn x (List.mem_cons_self ..)
        rw [Bool.not_eq_true, befQ_not] at hb
        rw [befQ_iff]; omega
      · exact h1 y hy
/-- Two rows in order that hold the same are the same. -/
theorem sortQ_eq : ∀ {l m : List (Int × Int)}, SortQ l → SortQ m → (∀ x, x ∈ l ↔ x ∈ m) → l = m
  | [], [], _, _, _ => rfl
  | [], y :: m, _, _, h => absurd ((h y).2 (List.mem_cons_self ..)) (by simp)
  | x :: l, [], _, _, h => absurd ((h x).1 (List.mem_cons_self ..)) (by simp)
  | x :: l, y :: m, hl, hm, h => by
    obtain ⟨a1, a2⟩ := List.pairwise_cons.1 hl
    obtain ⟨b1, b2⟩ := List.pairwise_cons.1 hm
    have irr : ∀ {a b : Int × Int}, befQ a b = true → befQ b a = true → False := fun h g => by rw [befQ_iff] at *; omega
    have e : x = y := by
      rcases List.mem_cons.1 ((h x).1 (List.mem_cons_self ..)) with e | hx
      · exact e
      · rcases List.mem_cons.1 ((h y).2 (List.mem_cons_self ..)) with e | hy
        · exact e.symm
        · exact (irr (a1 y hy) (b1 x hx)).elim
    subst e
    congr 1
    refine sortQ_eq a2 b2 (fun z => ⟨fun hz => ?_, fun hz => ?_⟩)
    · rcases List.mem_cons.1 ((h z).1 (List.mem_cons_of_mem _ hz)) with rfl | g
      · exact (irr (a1 z hz) (a1 z hz)).elim
      · exact g
    · rcases List.mem_cons.1 ((h z).2 (List.mem_cons_of_mem _ hz)) with rfl | g
      · exact (irr (b1 z hz) (b1 z hz)).elim
      · exact g
theorem sortQ_filter {l : List (Int × Int)} (h : SortQ l) (p : Int × Int → Bool) : SortQ (l.filter p) := List.Pairwise.filter _ h
/-- What is due at t, and what is left. -/
def dueQ (t : Int) (l : List (Int × Int)) : List (Int × Int) := l.filter (fun d => decide (d.1 ≤ t))
def leftQ (t : Int) (l : List (Int × Int)) : List (Int × Int) := l.filter (fun d => decide (t < d.1))
def cutQ (n : Int) (l : List (Int × Int)) : List (Int × Int) := l.filter (fun d => decide (d.2 ≠ n))
theorem due_left (t : Int) : ∀ {l : List (Int × Int)}, SortQ l → dueQ t l ++ leftQ t l = l
  | [], _ => rfl
  | x :: l, h => by
    obtain ⟨h1, h2⟩ := List.pairwise_cons.1 h
    unfold dueQ leftQ
    by_cases hx : x.1 ≤ t
    · rw [List.filter_cons_of_pos (by simpa using hx), List.filter_cons_of_neg (by simp; omega)]
      show x :: (dueQ t l ++ leftQ t l) = _
      rw [due_left t h2]
    · rw [List.filter_cons_of_neg (by simpa using hx), List.filter_cons_of_pos (by simp; omega)]
      have e : l.filter (fun d => decide (d.1 ≤ t)) = [] := by
        rw [List.filter_eq_nil_iff]
        intro y hy
        have := befQ_iff.1 (h1 y hy)
        simp; omega
      have e2 := due_left t h2
      unfold dueQ leftQ at e2
      rw [e] at e2 ⊢
      simp only [List.nil_append] at e2 ⊢
      rw [e2]
theorem due_due {s t : Int} (h : s ≤ t) (l : List (Int × Int)) (hs : SortQ l) : dueQ s l ++ dueQ t (leftQ s l) = dueQ t l := by
  have e := due_left s hs
  conv => rhs; rw [← e]
  unfold dueQ leftQ
  rw [List.filter_append]
  congr 1
  rw [List.filter_filter]
  apply List.filter_congr
  intro x _
  by_cases h1 : x.1 ≤ s
  · simp [h1, show x.1 ≤ t by omega]
  · simp [h1]
theorem left_left {s t : Int} (h : s ≤ t) (l : List (Int × Int)) : leftQ t (leftQ s l) = leftQ t l := by
  unfold leftQ
  rw [List.filter_filter]
  apply List.filter_congr
  intro x _
  by_cases h1 : t < x.1
  · simp [h1, show s < x.1 by omega]
  · simp [h1]

/-- The level of a time b at a time a. -/
def levQ : Nat → Nat → Nat → Nat
  | 0, _, _ => 0
  | f + 1, a, b => if a / 64 = b / 64 then 0 else levQ f (a / 64) (b / 64) + 1
/-- The level l is told by: above it they agree, at it they don't. -/
theorem levQ_spec : ∀ (f a b : Nat), a < 64 ^ (f + 1) → b < 64 ^ (f + 1) → a / 64 ^ (levQ f a b + 1) = b / 64 ^ (levQ f a b + 1) ∧ (a ≠ b → a / 64 ^ levQ f a b ≠ b / 64 ^ levQ f a b)
  | 0, a, b, ha, hb => by
    simp only [levQ, Nat.zero_add, Nat.pow_one, Nat.pow_zero, Nat.div_one] at *
    rw [Nat.div_eq_of_lt ha, Nat.div_eq_of_lt hb]
    exact ⟨rfl, id⟩
  | f + 1, a, b, ha, hb => by
    unfold levQ
    by_cases h : a / 64 = b / 64
    · rw [if_pos h]
      refine ⟨by simpa using h, fun hab => by simpa using hab⟩
    · rw [if_neg h]
      have c : ∀ x, x < 64 ^ (f + 1 + 1) → x / 64 < 64 ^ (f + 1) := fun x hx => by
        rw [Nat.pow_succ] at hx
        exact Nat.div_lt_of_lt_mul (by rw [Nat.mul_comm]; exact hx)
      obtain ⟨h1, h2⟩ := levQ_spec f (a / 64) (b / 64) (c a ha) (c b hb)
      have e : ∀ x k, x / 64 ^ (k + 1) = x / 64 / 64 ^ k := fun x k => by rw [Nat.div_div_eq_div_mul, Nat.pow_succ, Nat.mul_comm]
      rw [e a, e b, e a, e b]
      exact ⟨h1, fun _ => h2 h⟩
theorem div_mono_eq {a b c k : Nat} (h1 : a ≤ b) (h2 : b ≤ c) (h : a / k = c / k) : a / k = b / k :=
  Nat.le_antisymm (Nat.div_le_div_right h1) (by rw [h]; exact Nat.div_le_div_right h2)
theorem div_pow_up {a b l m : Nat} (h : l ≤ m) (e : a / 64 ^ l = b / 64 ^ l) : a / 64 ^ m = b / 64 ^ m := by
  obtain ⟨k, rfl⟩ := Nat.exists_eq_add_of_le h
  rw [Nat.pow_add, ← Nat.div_div_eq_div_mul, ← Nat.div_div_eq_div_mul, e]
/-- There is but one such level. -/
theorem levQ_one {f a b l : Nat} (ha : a < 64 ^ (f + 1)) (hb : b < 64 ^ (f + 1)) (hab : a ≠ b) (h1 : a / 64 ^ (l + 1) = b / 64 ^ (l + 1)) (h2 : a / 64 ^ l ≠ b / 64 ^ l) : levQ f a b = l := by
  obtain ⟨g1, g2⟩ := levQ_spec f a b ha hb
  have g2 := g2 hab
  rcases Nat.lt_trichotomy (levQ f a b) l with h | h | h
  · exact absurd (div_pow_up (show levQ f a b + 1 ≤ l by omega) g1) h2
  · exact h
  · exact absurd (div_pow_up (show l + 1 ≤ levQ f a b by omega) h1) g2
theorem levQ_le (f a b : Nat) : levQ f a b ≤ f := by
  induction f generalizing a b with
  | zero => simp [levQ]
  | succ f ih =>
    unfold levQ
    by_cases h : a / 64 = b / 64
    · rw [if_pos h]; omega
    · rw [if_neg h]; have := ih (a / 64) (b / 64); omega
/-- Levels by the highest bit in which they differ. -/
theorem levQ_log {f a b : Nat} (ha : a < 64 ^ (f + 1)) (hb : b < 64 ^ (f + 1)) (hab : a ≠ b) : levQ f a b = (a ^^^ b).log2 / 6 := by
  have hx : a ^^^ b ≠ 0 := fun h => hab (by
    have := congrArg (fun x => x ^^^ b) h
    simpa [Nat.xor_assoc] using this)
  generalize hl : (a ^^^ b).log2 / 6 = l
  have lo : 2 ^ (a ^^^ b).log2 ≤ a ^^^ b := Nat.log2_self_le hx
  have hi : a ^^^ b < 2 ^ ((a ^^^ b).log2 + 1) := Nat.lt_log2_self
  have p : ∀ k, 64 ^ k = 2 ^ (6 * k) := fun k => by rw [Nat.pow_mul]
  have xd : ∀ k, (a ^^^ b) / 64 ^ k = a / 64 ^ k ^^^ b / 64 ^ k := fun k => by
    rw [p, ← Nat.shiftRight_eq_div_pow, ← Nat.shiftRight_eq_div_pow, ← Nat.shiftRight_eq_div_pow, Nat.shiftRight_xor_distrib]
  have xz : ∀ x y : Nat, x ^^^ y = 0 ↔ x = y := fun x y => ⟨fun h => by
    have := congrArg (fun z => z ^^^ y) h
    simpa [Nat.xor_assoc] using this, fun h => by rw [h, Nat.xor_self]⟩
  apply levQ_one ha hb hab
  · rw [← xz, ← xd, Nat.div_eq_of_lt]
    rw [p]
    exact Nat.lt_of_lt_of_le hi (Nat.pow_le_pow_right (by decide) (by omega))
  · rw [ne_eq, ← xz, ← xd]
    intro h0
    rw [Nat.div_eq_zero_iff] at h0
    rcases h0 with h0 | h0
    · exact absurd h0 (by have := Nat.pow_pos (n := l) (show 0 < 64 by decide); omega)
    · rw [p] at h0
      have : 2 ^ (6 * l) ≤ 2 ^ (a ^^^ b).log2 := Nat.pow_le_pow_right (by decide) (by omega)
      omega
/-- Turned on, a level goes down or stays; it stays just if the digit is not yet met. -/
theorem levQ_turn {f a b c : Nat} (hc : c < 64 ^ (f + 1)) (h1 : a ≤ b) (h2 : b < c) : levQ f b c ≤ levQ f a c ∧ (levQ f b c = levQ f a c ↔ (b / 64 ^ levQ f a c ≠ c / 64 ^ levQ f a c)) := by
  obtain ⟨g1, g2⟩ := levQ_spec f a c (by omega) hc
  obtain ⟨k1, k2⟩ := levQ_spec f b c (by omega) hc
  have g2 := g2 (by omega)
  have k2 := k2 (by omega)
  have e := div_mono_eq h1 (Nat.le_of_lt h2) g1
  have hle : levQ f b c ≤ levQ f a c := by
    apply Nat.not_lt.1
    intro h
    exact k2 (div_pow_up (show levQ f a c + 1 ≤ levQ f b c by omega) (e.symm.trans g1))
  refine ⟨hle, ⟨fun h => by rw [← h]; exact k2, fun h => ?_⟩⟩
  exact levQ_one (by omega) hc (by omega) (e.symm.trans g1) h
/-- What lies in a lower level comes first; in one level, what lies in a lower slot. -/
theorem levQ_first {f a c d : Nat} (hc : c < 64 ^ (f + 1)) (hd : d < 64 ^ (f + 1)) (h1 : a < c) (h2 : a < d) (h : levQ f a c < levQ f a d) : c < d := by
  obtain ⟨g1, _⟩ := levQ_spec f a c (by omega) hc
  obtain ⟨k1, k2⟩ := levQ_spec f a d (by omega) hd
  have k2 := k2 (by omega)
  have e := div_pow_up (show levQ f a c + 1 ≤ levQ f a d by omega) g1
  apply Nat.not_le.1
  intro hle
  have := div_mono_eq (k := 64 ^ levQ f a d) (Nat.le_of_lt h2) hle e
  exact k2 this
/-- The slot. -/
def slotQ (l b : Nat) : Nat := b / 64 ^ l % 64
theorem slotQ_lt (l b : Nat) : slotQ l b < 64 := Nat.mod_lt _ (by decide)
theorem slot_div (l b : Nat) : b / 64 ^ l = b / 64 ^ (l + 1) * 64 + slotQ l b := by
  unfold slotQ
  rw [Nat.pow_succ, ← Nat.div_div_eq_div_mul]
  omega
theorem slotQ_first {l c d : Nat} (e : c / 64 ^ (l + 1) = d / 64 ^ (l + 1)) (h : slotQ l c < slotQ l d) : c < d := by
  have h1 := slot_div l c
  have h2 := slot_div l d
  have : c / 64 ^ l < d / 64 ^ l := by omega
  apply Nat.not_le.1
  intro hle
  have := Nat.div_le_div_right (c := 64 ^ l) hle
  omega
/-- The slot of what is to come lies above the one of the time. -/
theorem slotQ_above {f a c : Nat} (hc : c < 64 ^ (f + 1)) (h : a < c) : slotQ (levQ f a c) a < slotQ (levQ f a c) c := by
  obtain ⟨g1, g2⟩ := levQ_spec f a c (by omega) hc
  have g2 := g2 (by omega)
  have h1 := slot_div (levQ f a c) a
  have h2 := slot_div (levQ f a c) c
  have := Nat.div_le_div_right (c := 64 ^ levQ f a c) (Nat.le_of_lt h)
  omega
end Go.Proofs.YtidgiohjgkfjcaaDoor
