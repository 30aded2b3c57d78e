/- Texts of this seat, one behind the other: QMath, QWheel, QRow. -/
import Derived.Test.YthghcffibljclaaDoorProg
import Derived.Below
import Derived.OwnWalk
import Derived.Laws.OwnMore
import Derived.Laws.MakeOwn
import Derived.Laws.AppendOwn
import Derived.Laws.AppendOwnNone
import Derived.Lib.SliceRun
import Derived.Deep.Draws
import Derived.WalkSpells
import Derived.Deep.QuietTactic
import Derived.BigQuiet
import Derived.RegionTactic
import Derived.ChangeAlike
import Derived.LoopTactic
import Derived.Lib.Hide
/- A wheel, plain: dues in order, what is put, cut and told; levels and slots. Of no program. -/
namespace Go.Proofs.YthghcffibljclaaDoor

/-- Whether a due (time, number) stands ahead of another one. -/
def befQ (a b : Int × Int) : Bool := decide (a.1 < b.1) || (decide (a.1 = b.1) && decide (a.2 < b.2))
theorem befQ_iff {a b : Int × Int} : befQ a b = true ↔ a.1 < b.1 ∨ (a.1 = b.1 ∧ a.2 < b.2) := by
  unfold befQ; simp
theorem befQ_not {a b : Int × Int} : befQ a b = false ↔ b.1 < a.1 ∨ (a.1 = b.1 ∧ b.2 ≤ a.2) := by
  rw [← Bool.not_eq_true, befQ_iff]; omega
/-- In order. -/
def SortQ (l : List (Int × Int)) : Prop := l.Pairwise (fun a b => befQ a b = true)
/-- A due, laid into a row in order. -/
def insQ (d : Int × Int) : List (Int × Int) → List (Int × Int)
  | [] => [d]
  | x :: l => if befQ d x then d :: x :: l else x :: insQ d l
theorem insQ_mem (d : Int × Int) : ∀ (l : List (Int × Int)) (y), y ∈ insQ d l ↔ y = d ∨ y ∈ l
  | [], y => by simp [insQ]
  | x :: l, y => by
    unfold insQ
    by_cases h : befQ d x = true
    · rw [if_pos h]; simp
    · rw [if_neg h]; simp [insQ_mem d l y]; grind
theorem insQ_perm (d : Int × Int) : ∀ l : List (Int × Int), (insQ d l).Perm (d :: l)
  | [] => .refl _
  | x :: l => by
    unfold insQ
    by_cases h : befQ d x = true
    · rw [if_pos h]
    · rw [if_neg h]
      exact ((insQ_perm d l).cons x).trans (.swap d x l)
theorem insQ_len (d : Int × Int) (l : List (Int × Int)) : (insQ d l).length = l.length + 1 := by
  rw [(insQ_perm d l).length_eq, List.length_cons]
theorem befQ_trans {a b c : Int × Int} (h : befQ a b = true) (g : befQ b c = true) : befQ a c = true := by
  rw [befQ_iff] at *; omega
theorem insQ_sort {d : Int × Int} : ∀ {l : List (Int × Int)}, SortQ l → (∀ x ∈ l, x.2 ≠ d.2) → SortQ (insQ d l)
  | [], _, _ => by simp [insQ, SortQ]
  | x :: l, h, hn => by
    obtain ⟨h1, h2⟩ := List.pairwise_cons.1 h
    unfold insQ
    by_cases hb : befQ d x = true
    · rw [if_pos hb]
      refine List.pairwise_cons.2 ⟨fun y hy => ?_, h⟩
      rcases List.mem_cons.1 hy with rfl | hy
      · exact hb
      · exact befQ_trans hb (h1 y hy)
    · rw [if_neg hb]
      refine List.pairwise_cons.2 ⟨fun y hy => ?_, insQ_sort h2 (fun z hz => hn z (List.mem_cons_of_mem _ hz))⟩
      rcases (insQ_mem d l y).1 hy with rfl | hy
      · have hx := hn x (List.mem_cons_self ..)
        rw [Bool.not_eq_true, befQ_not] at hb
        rw [befQ_iff]; omega
      · exact h1 y hy
/-- Two rows in order that hold the same are the same. -/
theorem sortQ_eq : ∀ {l m : List (Int × Int)}, SortQ l → SortQ m → (∀ x, x ∈ l ↔ x ∈ m) → l = m
  | [], [], _, _, _ => rfl
  | [], y :: m, _, _, h => absurd ((h y).2 (List.mem_cons_self ..)) (by simp)
  | x :: l, [], _, _, h => absurd ((h x).1 (List.mem_cons_self ..)) (by simp)
  | x :: l, y :: m, hl, hm, h => by
    obtain ⟨a1, a2⟩ := List.pairwise_cons.1 hl
    obtain ⟨b1, b2⟩ := List.pairwise_cons.1 hm
    have irr : ∀ {a b : Int × Int}, befQ a b = true → befQ b a = true → False := fun h g => by rw [befQ_iff] at *; omega
    have e : x = y := by
      rcases List.mem_cons.1 ((h x).1 (List.mem_cons_self ..)) with e | hx
      · exact e
      · rcases List.mem_cons.1 ((h y).2 (List.mem_cons_self ..)) with e | hy
        · exact e.symm
        · exact (irr (a1 y hy) (b1 x hx)).elim
    subst e
    congr 1
    refine sortQ_eq a2 b2 (fun z => ⟨fun hz => ?_, fun hz => ?_⟩)
    · rcases List.mem_cons.1 ((h z).1 (List.mem_cons_of_mem _ hz)) with rfl | g
      · exact (irr (a1 z hz) (a1 z hz)).elim
      · exact g
    · rcases List.mem_cons.1 ((h z).2 (List.mem_cons_of_mem _ hz)) with rfl | g
      · exact (irr (b1 z hz) (b1 z hz)).elim
      · exact g
theorem sortQ_filter {l : List (Int × Int)} (h : SortQ l) (p : Int × Int → Bool) : SortQ (l.filter p) := List.Pairwise.filter _ h
/-- What is due at t, and what is left. -/
def dueQ (t : Int) (l : List (Int × Int)) : List (Int × Int) := l.filter (fun d => decide (d.1 ≤ t))
def leftQ (t : Int) (l : List (Int × Int)) : List (Int × Int) := l.filter (fun d => decide (t < d.1))
def cutQ (n : Int) (l : List (Int × Int)) : List (Int × Int) := l.filter (fun d => decide (d.2 ≠ n))
theorem due_left (t : Int) : ∀ {l : List (Int × Int)}, SortQ l → dueQ t l ++ leftQ t l = l
  | [], _ => rfl
  | x :: l, h => by
    obtain ⟨h1, h2⟩ := List.pairwise_cons.1 h
    unfold dueQ leftQ
    by_cases hx : x.1 ≤ t
    · rw [List.filter_cons_of_pos (by simpa using hx), List.filter_cons_of_neg (by simp; omega)]
      show x :: (dueQ t l ++ leftQ t l) = _
      rw [due_left t h2]
    · rw [List.filter_cons_of_neg (by simpa using hx), List.filter_cons_of_pos (by simp; omega)]
      have e : l.filter (fun d => decide (d.1 ≤ t)) = [] := by
        rw [List.filter_eq_nil_iff]
        intro y hy
        have := befQ_iff.1 (h1 y hy)
        simp; omega
      have e2 := due_left t h2
      unfold dueQ leftQ at e2
      rw [e] at e2 ⊢
      simp only [List.nil_append] at e2 ⊢
      rw [e2]
theorem due_due {s t : Int} (h : s ≤ t) (l : List (Int × Int)) (hs : SortQ l) : dueQ s l ++ dueQ t (leftQ s l) = dueQ t l := by
  have e := due_left s hs
  conv => rhs; rw [← e]
  unfold dueQ leftQ
  rw [List.filter_append]
  congr 1
  rw [List.filter_filter]
  apply List.filter_congr
  intro x _
  by_cases h1 : x.1 ≤ s
  · simp [h1, show x.1 ≤ t by omega]
  · simp [h1]
theorem left_left {s t : Int} (h : s ≤ t) (l : List (Int × Int)) : leftQ t (leftQ s l) = leftQ t l := by
  unfold leftQ
  rw [List.filter_filter]
  apply List.filter_congr
  intro x _
  by_cases h1 : t < x.1
  · simp [h1, show s < x.1 by omega]
  · simp [h1]

/-- The level of a time b at a time a. -/
def levQ : Nat → Nat → Nat → Nat
  | 0, _, _ => 0
  | f + 1, a, b => if a / 64 = b / 64 then 0 else levQ f (a / 64) (b / 64) + 1
/-- The level l is told by: above it they agree, at it they don't. -/
theorem levQ_spec : ∀ (f a b : Nat), a < 64 ^ (f + 1) → b < 64 ^ (f + 1) → a / 64 ^ (levQ f a b + 1) = b / 64 ^ (levQ f a b + 1) ∧ (a ≠ b → a / 64 ^ levQ f a b ≠ b / 64 ^ levQ f a b)
  | 0, a, b, ha, hb => by
    simp only [levQ, Nat.zero_add, Nat.pow_one, Nat.pow_zero, Nat.div_one] at *
    rw [Nat.div_eq_of_lt ha, Nat.div_eq_of_lt hb]
    exact ⟨rfl, id⟩
  | f + 1, a, b, ha, hb => by
    unfold levQ
    by_cases h : a / 64 = b / 64
    · rw [if_pos h]
      refine ⟨by simpa using h, fun hab => by simpa using hab⟩
    · rw [if_neg h]
      have c : ∀ x, x < 64 ^ (f + 1 + 1) → x / 64 < 64 ^ (f + 1) := fun x hx => by
        rw [Nat.pow_succ] at hx
        exact Nat.div_lt_of_lt_mul (by rw [Nat.mul_comm]; exact hx)
      obtain ⟨h1, h2⟩ := levQ_spec f (a / 64) (b / 64) (c a ha) (c b hb)
      have e : ∀ x k, x / 64 ^ (k + 1) = x / 64 / 64 ^ k := fun x k => by rw [Nat.div_div_eq_div_mul, Nat.pow_succ, Nat.mul_comm]
      rw [e a, e b, e a, e b]
      exact ⟨h1, fun _ => h2 h⟩
theorem div_mono_eq {a b c k : Nat} (h1 : a ≤ b) (h2 : b ≤ c) (h : a / k = c / k) : a / k = b / k :=
  Nat.le_antisymm (Nat.div_le_div_right h1) (by rw [h]; exact Nat.div_le_div_right h2)
theorem div_pow_up {a b l m : Nat} (h : l ≤ m) (e : a / 64 ^ l = b / 64 ^ l) : a / 64 ^ m = b / 64 ^ m := by
  obtain ⟨k, rfl⟩ := Nat.exists_eq_add_of_le h
  rw [Nat.pow_add, ← Nat.div_div_eq_div_mul, ← Nat.div_div_eq_div_mul, e]
/-- There is but one such level. -/
theorem levQ_one {f a b l : Nat} (ha : a < 64 ^ (f + 1)) (hb : b < 64 ^ (f + 1)) (hab : a ≠ b) (h1 : a / 64 ^ (l + 1) = b / 64 ^ (l + 1)) (h2 : a / 64 ^ l ≠ b / 64 ^ l) : levQ f a b = l := by
  obtain ⟨g1, g2⟩ := levQ_spec f a b ha hb
  have g2 := g2 hab
  rcases Nat.lt_trichotomy (levQ f a b) l with h | h | h
  · exact absurd (div_pow_up (show levQ f a b + 1 ≤ l by omega) g1) h2
  · exact h
  · exact absurd (div_pow_up (show l + 1 ≤ levQ f a b by omega) h1) g2
theorem levQ_le (f a b : Nat) : levQ f a b ≤ f := by
  induction f generalizing a b with
  | zero => simp [levQ]
  | succ f ih =>
    unfold levQ
    by_cases h : a / 64 = b / 64
    · rw [if_pos h]; omega
    · rw [if_neg h]; have := ih (a / 64) (b / 64); omega
/-- Levels by the highest bit in which they differ. -/
theorem levQ_log {f a b : Nat} (ha : a < 64 ^ (f + 1)) (hb : b < 64 ^ (f + 1)) (hab : a ≠ b) : levQ f a b = (a ^^^ b).log2 / 6 := by
  have hx : a ^^^ b ≠ 0 := fun h => hab (by
    have := congrArg (fun x => x ^^^ b) h
    simpa [Nat.xor_assoc] using this)
  generalize hl : (a ^^^ b).log2 / 6 = l
  have lo : 2 ^ (a ^^^ b).log2 ≤ a ^^^ b := Nat.log2_self_le hx
  have hi : a ^^^ b < 2 ^ ((a ^^^ b).log2 + 1) := Nat.lt_log2_self
  have p : ∀ k, 64 ^ k = 2 ^ (6 * k) := fun k => by rw [Nat.pow_mul]
  have xd : ∀ k, (a ^^^ b) / 64 ^ k = a / 64 ^ k ^^^ b / 64 ^ k := fun k => by
    rw [p, ← Nat.shiftRight_eq_div_pow, ← Nat.shiftRight_eq_div_pow, ← Nat.shiftRight_eq_div_pow, Nat.shiftRight_xor_distrib]
  have xz : ∀ x y : Nat, x ^^^ y = 0 ↔ x = y := fun x y => ⟨fun h => by
    have := congrArg (fun z => z ^^^ y) h
    simpa [Nat.xor_assoc] using this, fun h => by rw [h, Nat.xor_self]⟩
  apply levQ_one ha hb hab
  · rw [← xz, ← xd, Nat.div_eq_of_lt]
    rw [p]
    exact Nat.lt_of_lt_of_le hi (Nat.pow_le_pow_right (by decide) (by omega))
  · rw [ne_eq, ← xz, ← xd]
    intro h0
    rw [Nat.div_eq_zero_iff] at h0
    rcases h0 with h0 | h0
    · exact absurd h0 (by have := Nat.pow_pos (n := l) (show 0 < 64 by decide); omega)
    · rw [p] at h0
      have : 2 ^ (6 * l) ≤ 2 ^ (a ^^^ b).log2 := Nat.pow_le_pow_right (by decide) (by omega)
      omega
/-- Turned on, a level goes down or stays; it stays just if the digit is not yet met. -/
theorem levQ_turn {f a b c : Nat} (hc : c < 64 ^ (f + 1)) (h1 : a ≤ b) (h2 : b < c) : levQ f b c ≤ levQ f a c ∧ (levQ f b c = levQ f a c ↔ (b / 64 ^ levQ f a c ≠ c / 64 ^ levQ f a c)) := by
  obtain ⟨g1, g2⟩ := levQ_spec f a c (by omega) hc
  obtain ⟨k1, k2⟩ := levQ_spec f b c (by omega) hc
  have g2 := g2 (by omega)
  have k2 := k2 (by omega)
  have e := div_mono_eq h1 (Nat.le_of_lt h2) g1
  have hle : levQ f b c ≤ levQ f a c := by
    apply Nat.not_lt.1
    intro h
    exact k2 (div_pow_up (show levQ f a c + 1 ≤ levQ f b c by omega) (e.symm.trans g1))
  refine ⟨hle, ⟨fun h => by rw [← h]; exact k2, fun h => ?_⟩⟩
  exact levQ_one (by omega) hc (by omega) (e.symm.trans g1) h
/-- What lies in a lower level comes first; in one level, what lies in a lower slot. -/
theorem levQ_first {f a c d : Nat} (hc : c < 64 ^ (f + 1)) (hd : d < 64 ^ (f + 1)) (h1 : a < c) (h2 : a < d) (h : levQ f a c < levQ f a d) : c < d := by
  obtain ⟨g1, _⟩ := levQ_spec f a c (by omega) hc
  obtain ⟨k1, k2⟩ := levQ_spec f a d (by omega) hd
  have k2 := k2 (by omega)
  have e := div_pow_up (show levQ f a c + 1 ≤ levQ f a d by omega) g1
  apply Nat.not_le.1
  intro hle
  have := div_mono_eq (k := 64 ^ levQ f a d) (Nat.le_of_lt h2) hle e
  exact k2 this
/-- The slot. -/
def slotQ (l b : Nat) : Nat := b / 64 ^ l % 64
theorem slotQ_lt (l b : Nat) : slotQ l b < 64 := Nat.mod_lt _ (by decide)
theorem slot_div (l b : Nat) : b / 64 ^ l = b / 64 ^ (l + 1) * 64 + slotQ l b := by
  unfold slotQ
  rw [Nat.pow_succ, ← Nat.div_div_eq_div_mul]
  omega
theorem slotQ_first {l c d : Nat} (e : c / 64 ^ (l + 1) = d / 64 ^ (l + 1)) (h : slotQ l c < slotQ l d) : c < d := by
  have h1 := slot_div l c
  have h2 := slot_div l d
  have : c / 64 ^ l < d / 64 ^ l := by omega
  apply Nat.not_le.1
  intro hle
  have := Nat.div_le_div_right (c := 64 ^ l) hle
  omega
/-- The slot of what is to come lies above the one of the time. -/
theorem slotQ_above {f a c : Nat} (hc : c < 64 ^ (f + 1)) (h : a < c) : slotQ (levQ f a c) a < slotQ (levQ f a c) c := by
  obtain ⟨g1, g2⟩ := levQ_spec f a c (by omega) hc
  have g2 := g2 (by omega)
  have h1 := slot_div (levQ f a c) a
  have h2 := slot_div (levQ f a c) c
  have := Nat.div_le_div_right (c := 64 ^ levQ f a c) (Nat.le_of_lt h)
  omega
end Go.Proofs.YthghcffibljclaaDoor
/- A wheel, plain: what is put, cut, turned; rows of puts; what the document's wheel holds to. Of no program. -/
namespace Go.Proofs.YthghcffibljclaaDoor

/-- The last time. -/
def topQ : Int := 253402300799
/-- May a time be? -/
def timeQ (t : Int) : Prop := 0 ≤ t ∧ t ≤ topQ
instance (t : Int) : Decidable (timeQ t) := inferInstanceAs (Decidable (_ ∧ _))
def hasQ (n : Int) (l : List (Int × Int)) : Bool := l.any (fun d => decide (d.2 = n))
theorem hasQ_iff {n : Int} {l : List (Int × Int)} : hasQ n l = true ↔ ∃ d ∈ l, d.2 = n := by
  unfold hasQ; simp
/-- The error of a put. -/
def putE (t : Int) (l : List (Int × Int)) (d : Int × Int) : Int :=
  if d.1 ≤ t ∨ ¬timeQ d.1 then 2 else if hasQ d.2 l then 5 else if l.length = 64 then 6 else 0
def putQ (t : Int) (l : List (Int × Int)) (d : Int × Int) : List (Int × Int) := if putE t l d = 0 then insQ d l else l
/-- The dues of a wheel at a time. -/
structure RightQ (t : Int) (l : List (Int × Int)) : Prop where
  time : timeQ t
  sort : SortQ l
  in_ : ∀ d ∈ l, t < d.1 ∧ d.1 ≤ topQ
  nums : l.Pairwise (fun a b => a.2 ≠ b.2)
  len : l.length ≤ 64
theorem RightQ.empty {t : Int} (h : timeQ t) : RightQ t [] := ⟨h, .nil, fun _ h => (by simp at h), .nil, by simp⟩
theorem putE_zero {t : Int} {l : List (Int × Int)} {d : Int × Int} : putE t l d = 0 ↔ t < d.1 ∧ timeQ d.1 ∧ (∀ x ∈ l, x.2 ≠ d.2) ∧ l.length ≠ 64 := by
  unfold putE
  by_cases h1 : d.1 ≤ t ∨ ¬timeQ d.1
  · rw [if_pos h1]
    refine ⟨fun h => by omega, fun ⟨a, b, _, _⟩ => ?_⟩
    rcases h1 with h1 | h1
    · omega
    · exact absurd b h1
  · rw [if_neg h1]
    have h2 : t < d.1 := by apply Int.not_le.1; exact fun h => h1 (.inl h)
    have h3 : timeQ d.1 := Decidable.byContradiction fun h => h1 (.inr h)
    by_cases h4 : hasQ d.2 l = true
    · rw [if_pos h4]
      refine ⟨fun h => by omega, fun ⟨_, _, c, _⟩ => ?_⟩
      obtain ⟨x, hx, e⟩ := hasQ_iff.1 h4
      exact absurd e (c x hx)
    · rw [if_neg h4]
      have h5 : ∀ x ∈ l, x.2 ≠ d.2 := fun x hx e => h4 (hasQ_iff.2 ⟨x, hx, e⟩)
      by_cases h6 : l.length = 64
      · rw [if_pos h6]; exact ⟨fun h => by omega, fun h => absurd h6 h.2.2.2⟩
      · rw [if_neg h6]; exact ⟨fun _ => ⟨h2, h3, h5, h6⟩, fun _ => rfl⟩
theorem RightQ.put {t : Int} {l : List (Int × Int)} (h : RightQ t l) (d : Int × Int) : RightQ t (putQ t l d) := by
  unfold putQ
  by_cases e : putE t l d = 0
  · rw [if_pos e]
    obtain ⟨a, b, c, f⟩ := putE_zero.1 e
    refine ⟨h.time, insQ_sort h.sort c, fun x hx => ?_, ?_, ?_⟩
    · rcases (insQ_mem d l x).1 hx with rfl | hx
      · exact ⟨a, b.2⟩
      · exact h.in_ x hx
    · refine ((insQ_perm d l).pairwise_iff (fun h => Ne.symm h)).2 (List.pairwise_cons.2 ⟨fun x hx e => c x hx e.symm, h.nums⟩)
    · rw [insQ_len]; have := h.len; omega
  · rw [if_neg e]; exact h
theorem RightQ.filter {t : Int} {l : List (Int × Int)} (h : RightQ t l) (p : Int × Int → Bool) : RightQ t (l.filter p) :=
  ⟨h.time, sortQ_filter h.sort p, fun d hd => h.in_ d (List.mem_filter.1 hd).1, List.Pairwise.filter _ h.nums, Nat.le_trans (List.length_filter_le _ _) h.len⟩
theorem RightQ.cut {t : Int} {l : List (Int × Int)} (h : RightQ t l) (n : Int) : RightQ t (cutQ n l) := h.filter _
theorem RightQ.turn {t u : Int} {l : List (Int × Int)} (h : RightQ t l) (hu : timeQ u) : RightQ u (leftQ u l) := by
  have g := h.filter (fun d => decide (u < d.1))
  exact ⟨hu, g.sort, fun d hd => ⟨by simpa using (List.mem_filter.1 hd).2, (h.in_ d (List.mem_filter.1 hd).1).2⟩, g.nums, g.len⟩
/-- Two wheels that hold the same are the same. -/
theorem RightQ.eq {t : Int} {l m : List (Int × Int)} (h : RightQ t l) (g : RightQ t m) (e : ∀ x, x ∈ l ↔ x ∈ m) : l = m := sortQ_eq h.sort g.sort e
theorem putQ_mem {t : Int} {l : List (Int × Int)} {d x : Int × Int} : x ∈ putQ t l d ↔ x ∈ l ∨ (x = d ∧ putE t l d = 0) := by
  unfold putQ
  by_cases e : putE t l d = 0
  · rw [if_pos e, insQ_mem]; simp [e]; grind
  · rw [if_neg e]; simp [e]
/-- A row of puts. -/
def putsQ (t : Int) (l : List (Int × Int)) (r : List (Int × Int)) : List (Int × Int) := r.foldl (putQ t) l
theorem putsQ_right {t : Int} : ∀ (r : List (Int × Int)) {l : List (Int × Int)}, RightQ t l → RightQ t (putsQ t l r)
  | [], _, h => h
  | d :: r, _, h => putsQ_right r (h.put d)
theorem putsQ_len (t : Int) : ∀ (r l : List (Int × Int)), (putsQ t l r).length ≤ l.length + r.length
  | [], l => by simp [putsQ]
  | d :: r, l => by
    have h := putsQ_len t r (putQ t l d)
    have : (putQ t l d).length ≤ l.length + 1 := by unfold putQ; split <;> first | (rw [insQ_len]; omega) | omega
    show (putsQ t (putQ t l d) r).length ≤ _
    rw [List.length_cons]; omega
/-- What a row of dues of numbers of their own, few, comes to: what may be. -/
theorem putsQ_mem {t : Int} : ∀ (r : List (Int × Int)) {l : List (Int × Int)}, r.Pairwise (fun a b => a.2 ≠ b.2) → (∀ d ∈ r, ∀ x ∈ l, x.2 ≠ d.2) → l.length + r.length ≤ 64 →
    ∀ x, x ∈ putsQ t l r ↔ x ∈ l ∨ (x ∈ r ∧ t < x.1 ∧ timeQ x.1)
  | [], _, _, _, _, x => by simp [putsQ]
  | d :: r, l, hp, ha, hl, x => by
    obtain ⟨h1, h2⟩ := List.pairwise_cons.1 hp
    rw [List.length_cons] at hl
    have hlen : (putQ t l d).length ≤ l.length + 1 := by unfold putQ; split <;> first | (rw [insQ_len]; omega) | omega
    have ih := putsQ_mem (t := t) r (l := putQ t l d) h2 (fun e he y hy => by
      rcases putQ_mem.1 hy with hy | ⟨rfl, _⟩
      · exact ha e (List.mem_cons_of_mem _ he) y hy
      · exact h1 e he) (by omega) x
    show x ∈ putsQ t (putQ t l d) r ↔ _
    rw [ih, putQ_mem]
    have hz : putE t l d = 0 ↔ t < d.1 ∧ timeQ d.1 := by
      rw [putE_zero]
      refine ⟨fun h => ⟨h.1, h.2.1⟩, fun h => ⟨h.1, h.2, fun y hy => ha d (List.mem_cons_self ..) y hy, by omega⟩⟩
    rw [hz]
    constructor
    · rintro ((h | ⟨rfl, h⟩) | ⟨h, g⟩)
      · exact .inl h
      · exact .inr ⟨List.mem_cons_self .., h⟩
      · exact .inr ⟨List.mem_cons_of_mem _ h, g⟩
    · rintro (h | ⟨h, g⟩)
      · exact .inl (.inl h)
      · rcases List.mem_cons.1 h with rfl | h
        · exact .inl (.inr ⟨rfl, g⟩)
        · exact .inr ⟨h, g⟩
/-- In whatever order dues are put, it comes to the same. -/
theorem putsQ_perm {t : Int} {r s : List (Int × Int)} (ht : timeQ t) (h : r.Perm s) (hr : r.Pairwise (fun a b => a.2 ≠ b.2)) (hl : r.length ≤ 64) : putsQ t [] r = putsQ t [] s := by
  have hs : s.Pairwise (fun a b => a.2 ≠ b.2) := (h.pairwise_iff (fun h => Ne.symm h)).1 hr
  refine (putsQ_right r (.empty ht)).eq (putsQ_right s (.empty ht)) (fun x => ?_)
  rw [putsQ_mem r hr (by simp) (by simpa using hl), putsQ_mem s hs (by simp) (by simpa [← h.length_eq] using hl)]
  simp [h.mem_iff]
/-- What is cut is as if it had not been put. -/
theorem putsQ_cut {t : Int} {r : List (Int × Int)} (ht : timeQ t) (hr : r.Pairwise (fun a b => a.2 ≠ b.2)) (hl : r.length ≤ 64) (n : Int) : cutQ n (putsQ t [] r) = putsQ t [] (cutQ n r) := by
  have hc : (cutQ n r).Pairwise (fun a b => a.2 ≠ b.2) := List.Pairwise.filter _ hr
  have hlc : (cutQ n r).length ≤ r.length := List.length_filter_le _ _
  refine ((putsQ_right r (.empty ht)).cut n).eq (putsQ_right _ (.empty ht)) (fun x => ?_)
  unfold cutQ
  rw [List.mem_filter, putsQ_mem r hr (by simp) (by simpa using hl)]
  rw [show List.filter (fun d => decide (d.2 ≠ n)) r = cutQ n r by rfl, putsQ_mem (cutQ n r) hc (by simp) (by simp; omega)]
  unfold cutQ
  rw [List.mem_filter]
  simp
  grind
/-- Turned in steps. -/
def stepsQ : List (Int × Int) → List Int → List (Int × Int)
  | _, [] => []
  | l, u :: r => dueQ u l ++ stepsQ (leftQ u l) r
def lastQ : Int → List Int → Int
  | t, [] => t
  | _, u :: r => lastQ u r
def RiseQ : Int → List Int → Prop
  | _, [] => True
  | t, u :: r => t ≤ u ∧ RiseQ u r
theorem lastQ_ge : ∀ {t : Int} {r : List Int}, RiseQ t r → t ≤ lastQ t r
  | t, [], _ => Int.le_refl t
  | t, u :: r, h => by
    have := lastQ_ge h.2
    show t ≤ lastQ u r
    have := h.1
    omega
theorem dueQ_none {t : Int} {l : List (Int × Int)} (h : ∀ d ∈ l, t < d.1) : dueQ t l = [] := by
  unfold dueQ
  rw [List.filter_eq_nil_iff]
  intro x hx
  have := h x hx
  simp; omega
theorem leftQ_all {t : Int} {l : List (Int × Int)} (h : ∀ d ∈ l, t < d.1) : leftQ t l = l := by
  unfold leftQ
  rw [List.filter_eq_self]
  intro x hx
  simpa using h x hx
theorem steps_once : ∀ {t : Int} {l : List (Int × Int)} {r : List Int}, RiseQ t r → SortQ l → (∀ d ∈ l, t < d.1) → stepsQ l r = dueQ (lastQ t r) l
  | t, l, [], _, _, h => by rw [stepsQ, lastQ, dueQ_none h]
  | t, l, u :: r, h, hs, _ => by
    rw [stepsQ, lastQ, steps_once (t := u) (l := leftQ u l) h.2 (sortQ_filter hs _) (fun d hd => by simpa [leftQ] using (List.mem_filter.1 hd).2)]
    exact due_due (lastQ_ge h.2) l hs
/-- A left fold of the steps, as a loop goes them. -/
theorem stepsQ_snoc : ∀ (l : List (Int × Int)) (r : List Int) (u : Int), stepsQ l (r ++ [u]) = stepsQ l r ++ dueQ u (r.foldl (fun m s => leftQ s m) l)
  | l, [], u => by simp [stepsQ]
  | l, v :: r, u => by
    show dueQ v l ++ stepsQ (leftQ v l) (r ++ [u]) = _
    rw [stepsQ_snoc (leftQ v l) r u]
    simp [stepsQ]
theorem left_fold : ∀ {t : Int} {l : List (Int × Int)} {r : List Int}, RiseQ t r → (∀ d ∈ l, t < d.1) → r.foldl (fun m s => leftQ s m) l = leftQ (lastQ t r) l
  | t, l, [], _, h => by rw [List.foldl_nil, lastQ, leftQ_all h]
  | t, l, u :: r, h, _ => by
    rw [List.foldl_cons, lastQ, left_fold (t := u) (l := leftQ u l) h.2 (fun d hd => by simpa [leftQ] using (List.mem_filter.1 hd).2)]
    exact left_left (lastQ_ge h.2) l
end Go.Proofs.YthghcffibljclaaDoor
/- Dues in memory: rows that can be read, rows of one's own. -/
namespace Go.Proofs.YthghcffibljclaaDoor
open Go.RowKit

/-- A due as it stands in memory. -/
def denc (d : Int × Int) : List Value := [.int .i64 d.1, .int .u64 d.2]
def dueV (d : Int × Int) : Value := .agg #[.int .i64 d.1, .int .u64 d.2]
theorem dflat_at (l : List (Int × Int)) (k : Nat) (r : Int × Int) (h : l[k]? = some r) : (l.flatMap denc)[k * 2]? = some (.int .i64 r.1) ∧ (l.flatMap denc)[k * 2 + 1]? = some (.int .u64 r.2) := by
  induction l generalizing k with
  | nil => simp at h
  | cons a l ih =>
    cases k with
    | zero => simp at h; subst h; simp [denc]
    | succ k =>
      have := ih k (by simpa using h)
      rw [List.flatMap_cons, show denc a = [.int .i64 a.1, .int .u64 a.2] from rfl]
      rw [show (k + 1) * 2 = k * 2 + 1 + 1 by omega]
      simpa using this
theorem dflat_len : ∀ l : List (Int × Int), (l.flatMap denc).length = l.length * 2
  | [] => rfl
  | a :: l => by rw [List.flatMap_cons, List.length_append, dflat_len l, List.length_cons]; simp [denc]; omega
/-- The slice reads these dues; its block lies below B. -/
structure DuesR (w : World) (B : Nat) (A : Option Addr) (n c : Nat) (l : List (Int × Int)) : Prop where
  len : l.length = n
  cap : n ≤ c
  top : c ≤ maxLen
  at_ : ∀ k r, l[k]? = some r → ∃ b o, A = some ⟨b, o, none⟩ ∧ b < B ∧ w.cell? ⟨b, o + k * 2, none⟩ = some (.int .i64 r.1) ∧ w.cell? ⟨b, o + k * 2 + 1, none⟩ = some (.int .u64 r.2)
theorem qbelow_cell {W w1 : World} {B : Nat} (hb : Below B W w1) : (∀ b o, b < B → w1.cell? ⟨b, o, none⟩ = W.cell? ⟨b, o, none⟩) ∧ (∀ b o, b < B → w1.frozen? ⟨b, o, none⟩ = W.frozen? ⟨b, o, none⟩) :=
  ⟨fun b o h => hb.cell (p := ⟨b, o, none⟩) h, fun b o h => hb.frozen (p := ⟨b, o, none⟩) h⟩
theorem DuesR.below {w w' : World} {B n c : Nat} {A : Option Addr} {l : List (Int × Int)} (h : DuesR w B A n c l) (hb : Below B w w') : DuesR w' B A n c l :=
  ⟨h.len, h.cap, h.top, fun k r hk => by
    obtain ⟨b, o, e, hl, h0, h1⟩ := h.at_ k r hk
    exact ⟨b, o, e, hl, ((qbelow_cell hb).1 b _ hl).trans h0, ((qbelow_cell hb).1 b _ hl).trans h1⟩⟩
theorem DuesR.mono {w : World} {B B' n c : Nat} {A : Option Addr} {l : List (Int × Int)} (h : DuesR w B A n c l) (hb : B ≤ B') : DuesR w B' A n c l :=
  ⟨h.len, h.cap, h.top, fun k r hk => by
    obtain ⟨b, o, e, hl, h0, h1⟩ := h.at_ k r hk
    exact ⟨b, o, e, by omega, h0, h1⟩⟩
theorem DuesR.drewN {w : World} {B n c : Nat} {A : Option Addr} {l : List (Int × Int)} (h : DuesR w B A n c l) (k : Nat) : DuesR (w.drewN k) B A n c l := ⟨h.len, h.cap, h.top, h.at_⟩
theorem DuesR.none_ (w : World) (B : Nat) : DuesR w B none 0 0 [] := ⟨rfl, by omega, by omega, fun k r hk => by simp at hk⟩
theorem qcells_two (w : World) (a b : Value) (t : TypeId) : ∀ j u, [a, b][j]? = some u → (w.alloc (.cells #[a, b] t)).cell? ((⟨w.heap.size, 0, none⟩ : Addr).add j) = some u := by
  intro j u hj
  match j, hj with
  | 0, hj => simp at hj; subst hj; simp [Addr.add]
  | 1, hj => simp at hj; subst hj; simp [Addr.add]
theorem qinfo_parts {P : Program} {t : TypeId} {z : Value} {s b : Nat} (h : (P.info? t).map (fun i => (i.zero, i.size, i.bytes)) = some (some z, s, b)) : ∃ i, P.info? t = some i ∧ i.zero = some z ∧ i.size = s ∧ i.bytes = b := by
  cases hp : P.info? t with
  | none => rw [hp] at h; simp at h
  | some i =>
    rw [hp] at h
    simp at h
    exact ⟨i, rfl, h.1, h.2.1, h.2.2⟩
/-- Block g is just these cells. -/
def QBox (w : World) (g : Nat) (t : TypeId) (cs : Array Value) : Prop := w.heap[g]? = some (.cells cs t (0, 0))
section
variable {w w' : World} {g : Nat} {t : TypeId} {cs : Array Value}
theorem QBox.lt (h : QBox w g t cs) : g < w.heap.size := by
  rcases Nat.lt_or_ge g w.heap.size with hlt | hge
  · exact hlt
  · unfold QBox at h; rw [Array.getElem?_eq_none hge] at h; cases h
theorem QBox.cell (h : QBox w g t cs) (i : Nat) : w.cell? ⟨g, i, none⟩ = cs[i]? := cell_of_row w g i cs t (0, 0) h
theorem QBox.frozen (h : QBox w g t cs) (i : Nat) : w.frozen? ⟨g, i, none⟩ = false := by
  unfold QBox at h
  simp [World.frozen?, h]
theorem QBox.new (w : World) (t : TypeId) (cs : Array Value) : QBox (w.alloc (.cells cs t)) w.heap.size t cs := heap_alloc_new w _
theorem QBox.alloc (h : QBox w g t cs) (o : Obj) : QBox (w.alloc o) g t cs := (Below.heap_alloc w o g h.lt).trans h
theorem QBox.set (h : QBox w g t cs) (i : Nat) (u : Value) : QBox (w.setCell ⟨g, i, none⟩ u) g t (cs.setIfInBounds i u) := by
  unfold QBox at h ⊢
  simp [World.setCell, Array.getElem?_modify, h]
theorem QBox.far (h : QBox w g t cs) {p i : Nat} (hp : g ≠ p) (u : Value) : QBox (w.setCell ⟨p, i, none⟩ u) g t cs := (Below.heap_setCell w ⟨p, i, none⟩ u g hp).trans h
theorem QBox.below {B : Nat} (h : QBox w g t cs) (hb : Below B w w') (hg : g < B) : QBox w' g t cs := (hb.block g hg).trans h
theorem QBox.belowAll (h : QBox w g t cs) (hb : Below w.heap.size w w') : QBox w' g t cs := h.below hb h.lt
theorem QBox.drewN (h : QBox w g t cs) (n : Nat) : QBox (w.drewN n) g t cs := h
end
theorem QBox.two {w : World} {g : Nat} {t : TypeId} {a b : Value} (h : QBox w g t #[a, b]) :
    w.cell? ⟨g, 0, none⟩ = some a ∧ w.cell? ⟨g, 1, none⟩ = some b ∧ w.frozen? ⟨g, 0, none⟩ = false ∧ w.frozen? ⟨g, 1, none⟩ = false :=
  ⟨h.cell 0, h.cell 1, h.frozen 0, h.frozen 1⟩
theorem QBox.set2 {w : World} {g : Nat} {t : TypeId} {a b : Value} (h : QBox w g t #[a, b]) (u v : Value) :
    QBox ((w.setCell ⟨g, 0, none⟩ u).setCell ⟨g, 1, none⟩ v) g t #[u, v] := (h.set 0 u).set 1 v
theorem below_set2 {B : Nat} {w W : World} {g : Nat} (h : Below B w W) (hg : B ≤ g) (u v : Value) : Below B w ((W.setCell ⟨g, 0, none⟩ u).setCell ⟨g, 1, none⟩ v) := (h.setCell hg _).setCell hg _
theorem qcells_two1 (w : World) (o : Obj) (a b : Value) (t : TypeId) : ∀ j u, [a, b][j]? = some u → ((w.alloc o).alloc (.cells #[a, b] t)).cell? ((⟨w.heap.size + 1, 0, none⟩ : Addr).add j) = some u := by
  have := qcells_two (w.alloc o) a b t
  rwa [World.size_alloc] at this
theorem QBox.grown {a w : World} {row : Option Nat} {g : Nat} {t : TypeId} {cs : Array Value} (h : QBox a g t cs) (hg : a.grownBy w row) (hne : row ≠ some g) : QBox w g t cs := by
  have := hg.block g h.lt
  first
    | exact (this hne).trans h
    | exact (this (Ne.symm hne)).trans h
/-- Two rows of one's own lie in blocks of their own. -/
def QApart (v1 v2 : Value) : Prop := ∀ j, v1.ownBlock = some j → v2.ownBlock ≠ some j
theorem QApart.symm {v1 v2 : Value} (h : QApart v1 v2) : QApart v2 v1 := fun j e1 e2 => h j e2 e1
theorem QApart.none_ (v : Value) (n c : Nat) : QApart v (.slice none n c) := fun _ _ e => by cases e
theorem QApart.new {v1 v2 : Value} {H g n c : Nat} (h : QApart v1 v2) (hlt : ∀ j, v1.ownBlock = some j → j < H) (hl : v2.ownBlock = some g ∨ g = H) : QApart v1 (.slice (some ⟨g, 0, none⟩) n c) := by
  intro j e1 e2
  have e3 : g = j := Option.some.inj e2
  subst e3
  rcases hl with hl | hl
  · exact h _ e1 hl
  · have := hlt _ e1; omega
end Go.Proofs.YthghcffibljclaaDoor
