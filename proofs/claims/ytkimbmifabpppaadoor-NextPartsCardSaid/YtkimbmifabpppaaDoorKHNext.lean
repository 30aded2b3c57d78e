/- Next and last times, plain: of any set of times. -/
import Derived.Test.YtkimbmifabpppaaDoorKHEver
namespace Go.Proofs.YtkimbmifabpppaaDoor

/-- The day of a time, as far as there is one. -/
def dayOf (t : Int) : Int := if t < 0 then 0 else if 253402300799 < t then 2932896 else t / 86400
/-- A set of times. -/
def TimesOf (T : Int → Prop) : Prop := ∀ u, T u → 0 ≤ u ∧ u ≤ 253402300799
def IsNext (T : Int → Prop) (a t : Int) : Prop := T t ∧ a < t ∧ t / 86400 ≤ dayOf a + 2922 ∧ ∀ u, T u → a < u → t ≤ u
def NoNext (T : Int → Prop) (a : Int) : Prop := ∀ u, T u → a < u → dayOf a + 2922 < u / 86400
def IsLast (T : Int → Prop) (b t : Int) : Prop := T t ∧ t ≤ b ∧ dayOf b - 2922 ≤ t / 86400 ∧ ∀ u, T u → u ≤ b → u ≤ t
def NoLast (T : Int → Prop) (b : Int) : Prop := ∀ u, T u → u ≤ b → u / 86400 < dayOf b - 2922
theorem next_one {T : Int → Prop} {a t t' : Int} (h : IsNext T a t) (h' : IsNext T a t') : t = t' := by
  have h1 := h.2.2.2 t' h'.1 h'.2.1
  have h2 := h'.2.2.2 t h.1 h.2.1
  omega
theorem next_none {T : Int → Prop} {a t : Int} (h : IsNext T a t) (h' : NoNext T a) : False := by
  have h1 := h' t h.1 h.2.1
  have h2 := h.2.2.1
  omega
theorem last_one {T : Int → Prop} {a t t' : Int} (h : IsLast T a t) (h' : IsLast T a t') : t = t' := by
  have h1 := h.2.2.2 t' h'.1 h'.2.1
  have h2 := h'.2.2.2 t h.1 h.2.1
  omega
theorem last_none {T : Int → Prop} {a t : Int} (h : IsLast T a t) (h' : NoLast T a) : False := by
  have h1 := h' t h.1 h.2.1
  have h2 := h.2.2.1
  omega
theorem dayOf_time {t : Int} (h0 : 0 ≤ t) (h1 : t ≤ 253402300799) : dayOf t = t / 86400 := by
  unfold dayOf
  rw [if_neg (by omega), if_neg (by omega)]
/-- Last of Next is it, Next of what is one less is it again. -/
theorem next_turns {T : Int → Prop} (hT : TimesOf T) {a n : Int} (h : IsNext T a n) : IsLast T n n ∧ IsNext T (n - 1) n := by
  obtain ⟨h0, h1⟩ := hT n h.1
  have hd := dayOf_time h0 h1
  refine ⟨⟨h.1, by omega, by omega, fun u _ hu => hu⟩, h.1, by omega, ?_, fun u _ hu => by omega⟩
  unfold dayOf
  split
  · omega
  · split <;> omega
theorem last_turns {T : Int → Prop} (hT : TimesOf T) {b l : Int} (h : IsLast T b l) : IsNext T (l - 1) l ∧ IsLast T l l := by
  obtain ⟨h0, h1⟩ := hT l h.1
  have hd := dayOf_time h0 h1
  refine ⟨⟨h.1, by omega, ?_, fun u _ hu => by omega⟩, h.1, by omega, by omega, fun u _ hu => hu⟩
  unfold dayOf
  split
  · omega
  · split <;> omega
/-- Within each horizon there is one, if there is one at all. -/
def Window (T : Int → Prop) : Prop := (∃ u, T u) → ∀ n : Int, 0 ≤ n → n + 2922 ≤ 2932896 → ∃ u, T u ∧ n < u / 86400 ∧ u / 86400 ≤ n + 2921
/-- Where Next finds none, there is none behind. -/
theorem none_behind {T : Int → Prop} (hT : TimesOf T) (hw : Window T) {a : Int} (h : NoNext T a) (u : Int) (hu : T u) : u ≤ a := by
  apply Int.not_lt.1
  intro hlt
  have h1 := h u hu hlt
  obtain ⟨u0, u1⟩ := hT u hu
  have hday : u / 86400 ≤ 2932896 := by omega
  have hd0 : 0 ≤ dayOf a := by
    unfold dayOf
    split
    · omega
    · split <;> omega
  obtain ⟨x, hx, x1, x2⟩ := hw ⟨u, hu⟩ (dayOf a) hd0 (by omega)
  obtain ⟨x0, x3⟩ := hT x hx
  have hax : a < x := by
    unfold dayOf at x1
    split at x1
    · omega
    · split at x1 <;> omega
  have := h x hx hax
  omega
/-- NextEver: ahead and behind. -/
theorem ever_next {T : Int → Prop} (hw : Window T) {u : Int} (hu : T u) {t : Int} (h0 : 0 ≤ t) (h1 : t < (2932896 - 2922) * 86400) : ¬ NoNext T t ∧ ¬ NoLast T (t + 2922 * 86400) := by
  have hd := dayOf_time h0 (by omega)
  have hd2 := dayOf_time (t := t + 2922 * 86400) (by omega) (by omega)
  constructor
  · intro h
    obtain ⟨x, hx, x1, x2⟩ := hw ⟨u, hu⟩ (t / 86400) (by omega) (by omega)
    have := h x hx (by omega)
    omega
  · intro h
    by_cases hz : t / 86400 = 0
    · obtain ⟨x, hx, x1, x2⟩ := hw ⟨u, hu⟩ 0 (by omega) (by omega)
      have := h x hx (by omega)
      omega
    · obtain ⟨x, hx, x1, x2⟩ := hw ⟨u, hu⟩ (t / 86400 - 1) (by omega) (by omega)
      have := h x hx (by omega)
      omega
theorem ever_first {T : Int → Prop} (hw : Window T) {u : Int} (hu : T u) : ∃ x, T x ∧ x / 86400 ≤ 2922 := by
  obtain ⟨x, hx, _, h⟩ := hw ⟨u, hu⟩ 0 (by omega) (by omega)
  exact ⟨x, hx, by omega⟩
/-! the first so many of a span -/
def IsMin (T : Int → Prop) (a t : Int) : Prop := T t ∧ a < t ∧ ∀ u, T u → a < u → t ≤ u
def NoIn (T : Int → Prop) (a b : Int) : Prop := ∀ u, T u → a < u → b < u
def Chain (T : Int → Prop) : Int → Int → Nat → List Int → Prop
  | _, _, 0, l => l = []
  | a, b, n + 1, l => (NoIn T a b ∧ l = []) ∨ ∃ t r, IsMin T a t ∧ t ≤ b ∧ l = t :: r ∧ Chain T t b n r
theorem chain_one {T : Int → Prop} : ∀ (n : Nat) (a b : Int) (l r : List Int), Chain T a b n l → Chain T a b n r → l = r
  | 0, _, _, _, _, h, h' => by rw [Chain] at h h'; rw [h, h']
  | n + 1, a, b, l, r, h, h' => by
    rw [Chain] at h h'
    rcases h with ⟨h, rfl⟩ | ⟨t, s, ht, hb, rfl, h⟩
    · rcases h' with ⟨_, rfl⟩ | ⟨t, s, ht, hb, rfl, _⟩
      · rfl
      · have := h t ht.1 ht.2.1; omega
    · rcases h' with ⟨h', rfl⟩ | ⟨t', s', ht', hb', rfl, h'⟩
      · have := h' t ht.1 ht.2.1; omega
      · have e : t = t' := by
          have h1 := ht.2.2 t' ht'.1 ht'.2.1
          have h2 := ht'.2.2 t ht.1 ht.2.1
          omega
        subst e
        rw [chain_one n t b s s' h h']
theorem chain_len {T : Int → Prop} : ∀ (n : Nat) (a b : Int) (l : List Int), Chain T a b n l → l.length ≤ n
  | 0, _, _, l, h => by rw [Chain] at h; rw [h]; simp
  | n + 1, a, b, l, h => by
    rw [Chain] at h
    rcases h with ⟨_, rfl⟩ | ⟨t, s, _, _, rfl, h⟩
    · simp
    · have := chain_len n t b s h; simp; omega
theorem chain_from {T : Int → Prop} {a b c : Int} (hab : a ≤ b) (h : NoIn T a b) : ∀ (n : Nat) (l : List Int), Chain T b c n l → Chain T a c n l
  | 0, l, hl => hl
  | n + 1, l, hl => by
    rw [Chain] at hl ⊢
    rcases hl with ⟨hn, rfl⟩ | ⟨t, s, ht, hc, rfl, hs⟩
    · left; exact ⟨fun u hu ha => hn u hu (h u hu ha), rfl⟩
    · right
      exact ⟨t, s, ⟨ht.1, by have := ht.2.1; omega, fun u hu ha => ht.2.2 u hu (h u hu ha)⟩, hc, rfl, hs⟩
/-- Two spans, one behind the other. -/
theorem chain_append {T : Int → Prop} : ∀ (n : Nat) (a b c : Int) (l r : List Int), a ≤ b → b ≤ c → Chain T a b n l → Chain T b c (n - l.length) r → Chain T a c n (l ++ r)
  | 0, a, b, c, l, r, _, _, h, h' => by
    rw [Chain] at h
    subst h
    simp at h'
    rw [Chain] at h' ⊢
    simp [h']
  | n + 1, a, b, c, l, r, hab, hbc, h, h' => by
    rw [Chain] at h
    rcases h with ⟨hn, rfl⟩ | ⟨t, s, ht, hb, rfl, h⟩
    · simp at h'
      simpa using chain_from hab hn (n + 1) r h'
    · rw [Chain, List.cons_append]
      right
      refine ⟨t, s ++ r, ht, by omega, rfl, ?_⟩
      rw [show n + 1 - (t :: s).length = n - s.length by simp] at h'
      exact chain_append n t b c s r hb hbc h h'
/-- From one to the next one by Next: the first so many. -/
theorem chain_next {T : Int → Prop} {a b t : Int} {n : Nat} {r : List Int} (h : IsNext T a t) (hb : t ≤ b) (hr : Chain T t b n r) : Chain T a b (n + 1) (t :: r) := by
  rw [Chain]
  exact .inr ⟨t, r, ⟨h.1, h.2.1, h.2.2.2⟩, hb, rfl, hr⟩
theorem chain_past {T : Int → Prop} {a b t : Int} {n : Nat} (h : IsNext T a t) (hb : b < t) : Chain T a b (n + 1) [] := by
  rw [Chain]
  exact .inl ⟨fun u hu ha => by have := h.2.2.2 u hu ha; omega, rfl⟩
theorem chain_stop {T : Int → Prop} (hT : TimesOf T) (hw : Window T) {a b : Int} {n : Nat} (h : NoNext T a) : Chain T a b (n + 1) [] := by
  rw [Chain]
  exact .inl ⟨fun u hu ha => by have := none_behind hT hw h u hu; omega, rfl⟩
end Go.Proofs.YtkimbmifabpppaaDoor
