/- The times of a job: the first behind one, the last up to one, the first so many of a span: plain. -/
import Derived.Test.YtbaobjbckabnhaaGreatDoorK8
namespace Go.Proofs.YtbaobjbckabnhaaGreatDoor

def IsMax (T : Int → Prop) (b t : Int) : Prop := T t ∧ t ≤ b ∧ ∀ u, T u → u ≤ b → u ≤ t
/-- What First tells of these times. -/
def FirstT (T : Int → Prop) (a t : Int) (ok : Bool) : Prop := (ok = true ∧ IsMin T a t) ∨ (ok = false ∧ t = 0 ∧ ∀ u, T u → u ≤ a)
/-- What Latest tells of these times. -/
def LastT (T : Int → Prop) (b t : Int) (ok : Bool) : Prop := (ok = true ∧ IsMax T b t) ∨ (ok = false ∧ t = 0 ∧ ∀ u, T u → b < u)
theorem firstT_one {T : Int → Prop} {a t t' : Int} {ok ok' : Bool} (h : FirstT T a t ok) (h' : FirstT T a t' ok') : t' = t ∧ ok' = ok := by
  rcases h with ⟨rfl, h⟩ | ⟨rfl, rfl, h⟩ <;> rcases h' with ⟨rfl, h'⟩ | ⟨rfl, rfl, h'⟩
  · have h1 := h.2.2 t' h'.1 h'.2.1
    have h2 := h'.2.2 t h.1 h.2.1
    exact ⟨by omega, rfl⟩
  · have := h' t h.1; have := h.2.1; omega
  · have := h t' h'.1; have := h'.2.1; omega
  · exact ⟨rfl, rfl⟩
theorem lastT_one {T : Int → Prop} {a t t' : Int} {ok ok' : Bool} (h : LastT T a t ok) (h' : LastT T a t' ok') : t' = t ∧ ok' = ok := by
  rcases h with ⟨rfl, h⟩ | ⟨rfl, rfl, h⟩ <;> rcases h' with ⟨rfl, h'⟩ | ⟨rfl, rfl, h'⟩
  · have h1 := h.2.2 t' h'.1 h'.2.1
    have h2 := h'.2.2 t h.1 h.2.1
    exact ⟨by omega, rfl⟩
  · have := h' t h.1; have := h.2.1; omega
  · have := h t' h'.1; have := h'.2.1; omega
  · exact ⟨rfl, rfl⟩
theorem min_of_next {T : Int → Prop} {a t : Int} (h : IsNext T a t) : IsMin T a t := ⟨h.1, h.2.1, h.2.2.2⟩
theorem max_of_last {T : Int → Prop} {b t : Int} (h : IsLast T b t) : IsMax T b t := ⟨h.1, h.2.1, h.2.2.2⟩
theorem none_ahead {T : Int → Prop} (hT : TimesOf T) (hw : Window T) {b : Int} (h : NoLast T b) (u : Int) (hu : T u) : b < u := by
  apply Int.not_le.1
  intro hle
  have h1 := h u hu hle
  obtain ⟨u0, u1⟩ := hT u hu
  unfold NoLast at h
  unfold dayOf at *
  split at h1
  · omega
  · split at h1
    · obtain ⟨x, hx, x0, x1⟩ := hw ⟨u, hu⟩ (2932896 - 2922) (by omega) (by omega)
      have h2 := h x hx (by have := hT x hx; omega)
      rw [if_neg (by omega), if_pos (by omega)] at h2
      omega
    · obtain ⟨x, hx, x0, x1⟩ := hw ⟨u, hu⟩ (b / 86400 - 2922) (by omega) (by omega)
      have h2 := h x hx (by omega)
      rw [if_neg (by omega), if_neg (by omega)] at h2
      omega
theorem firstT_next {T : Int → Prop} {a t : Int} (h : IsNext T a t) : FirstT T a t true := .inl ⟨rfl, min_of_next h⟩
theorem firstT_none {T : Int → Prop} (hT : TimesOf T) (hw : Window T) {a : Int} (h : NoNext T a) : FirstT T a 0 false := .inr ⟨rfl, rfl, none_behind hT hw h⟩
theorem lastT_last {T : Int → Prop} {a t : Int} (h : IsLast T a t) : LastT T a t true := .inl ⟨rfl, max_of_last h⟩
theorem lastT_none {T : Int → Prop} (hT : TimesOf T) (hw : Window T) {a : Int} (h : NoLast T a) : LastT T a 0 false := .inr ⟨rfl, rfl, none_ahead hT hw h⟩
theorem firstT_alone (x a : Int) : FirstT (fun u => u = x) a (if a < x then x else 0) (decide (a < x)) := by
  by_cases h : a < x
  · rw [if_pos h, decide_eq_true h]
    exact .inl ⟨rfl, rfl, h, fun u hu _ => by have : u = x := hu; omega⟩
  · rw [if_neg h, decide_eq_false h]
    exact .inr ⟨rfl, rfl, fun u hu => by have : u = x := hu; omega⟩
theorem lastT_alone (x b : Int) : LastT (fun u => u = x) b (if x ≤ b then x else 0) (decide (x ≤ b)) := by
  by_cases h : x ≤ b
  · rw [if_pos h, decide_eq_true h]
    exact .inl ⟨rfl, rfl, h, fun u hu _ => by have : u = x := hu; omega⟩
  · rw [if_neg h, decide_eq_false h]
    exact .inr ⟨rfl, rfl, fun u hu => by have : u = x := hu; omega⟩
/-! from one to the next one -/
theorem chainT_zero (T : Int → Prop) (a b : Int) : Chain T a b 0 [] := by rw [Chain]
theorem chainT_next {T : Int → Prop} {a b t : Int} {n : Nat} {r : List Int} (h : FirstT T a t true) (hb : t ≤ b) (hr : Chain T t b n r) : Chain T a b (n + 1) (t :: r) := by
  rcases h with ⟨_, h⟩ | ⟨h, _⟩
  · rw [Chain]; exact .inr ⟨t, r, h, hb, rfl, hr⟩
  · cases h
theorem chainT_past {T : Int → Prop} {a b t : Int} {n : Nat} (h : FirstT T a t true) (hb : b < t) : Chain T a b (n + 1) [] := by
  rcases h with ⟨_, h⟩ | ⟨h, _⟩
  · rw [Chain]; exact .inl ⟨fun u hu ha => by have := h.2.2 u hu ha; omega, rfl⟩
  · cases h
theorem chainT_stop {T : Int → Prop} {a b t : Int} {n : Nat} (h : FirstT T a t false) : Chain T a b (n + 1) [] := by
  rcases h with ⟨h, _⟩ | ⟨_, _, h⟩
  · cases h
  · rw [Chain]; exact .inl ⟨fun u hu ha => by have := h u hu; omega, rfl⟩
theorem chain_mem {T : Int → Prop} : ∀ (n : Nat) (a b : Int) (l : List Int), Chain T a b n l → ∀ t ∈ l, T t ∧ a < t ∧ t ≤ b
  | 0, a, b, l, h, t, ht => by rw [Chain] at h; subst h; cases ht
  | n + 1, a, b, l, h, t, ht => by
    rw [Chain] at h
    rcases h with ⟨_, rfl⟩ | ⟨x, r, hx, hb, rfl, hr⟩
    · cases ht
    · rcases List.mem_cons.1 ht with rfl | ht
      · exact ⟨hx.1, hx.2.1, hb⟩
      · have := chain_mem n x b r hr t ht
        exact ⟨this.1, by have := hx.2.1; omega, this.2.2⟩
theorem chain_rises {T : Int → Prop} : ∀ (n : Nat) (a b : Int) (l : List Int), Chain T a b n l → l.Pairwise (· < ·)
  | 0, a, b, l, h => by rw [Chain] at h; subst h; exact List.Pairwise.nil
  | n + 1, a, b, l, h => by
    rw [Chain] at h
    rcases h with ⟨_, rfl⟩ | ⟨x, r, hx, hb, rfl, hr⟩
    · exact List.Pairwise.nil
    · exact List.pairwise_cons.2 ⟨fun y hy => (chain_mem n x b r hr y hy).2.1, chain_rises n x b r hr⟩
theorem chain_first {T : Int → Prop} {n : Nat} {a b t : Int} {ok : Bool} {l : List Int} (h : Chain T a b (n + 1) l) (hf : FirstT T a t ok) : (l = [] ∧ ¬ (ok = true ∧ t ≤ b)) ∨ (ok = true ∧ t ≤ b ∧ l[0]? = some t) := by
  rw [Chain] at h
  rcases h with ⟨hn, rfl⟩ | ⟨x, r, hx, hb, rfl, hr⟩
  · refine .inl ⟨rfl, ?_⟩
    rintro ⟨rfl, h⟩
    rcases hf with ⟨_, hf⟩ | ⟨hf, _⟩
    · have := hn t hf.1 hf.2.1; omega
    · cases hf
  · obtain ⟨rfl, rfl⟩ := firstT_one (.inl ⟨rfl, hx⟩) hf
    exact .inr ⟨rfl, hb, rfl⟩
theorem chain_short {T : Int → Prop} : ∀ (n : Nat) (a b : Int) (l : List Int), Chain T a b n l → l.length < n → ∀ u, T u → a < u → u ≤ b → u ∈ l
  | 0, a, b, l, h, hl, u, hu, ha, hb => absurd hl (by omega)
  | n + 1, a, b, l, h, hl, u, hu, ha, hb => by
    rw [Chain] at h
    rcases h with ⟨hn, rfl⟩ | ⟨x, r, hx, hxb, rfl, hr⟩
    · have := hn u hu ha; omega
    · by_cases e : u = x
      · subst e; exact List.mem_cons_self
      · have h1 := hx.2.2 u hu ha
        exact List.mem_cons_of_mem _ (chain_short n x b r hr (by simpa using hl) u hu (by omega) hb)
theorem chain_none {T : Int → Prop} {n : Nat} {a b : Int} (h : Chain T a b (n + 1) []) (u : Int) (hu : T u) (ha : a < u) (hb : u ≤ b) : False := by
  have := chain_short _ _ _ _ h (by simp) u hu ha hb
  cases this
/-- What Latest tells of a span's times. -/
theorem chain_latest {T : Int → Prop} {n : Nat} {a b t : Int} {ok : Bool} {l : List Int} (h : Chain T a b (n + 1) l) (hf : LastT T b t ok) :
    (l = [] ∧ ¬ (ok = true ∧ a < t)) ∨ (l ≠ [] ∧ ok = true ∧ a < t ∧ (∀ x ∈ l, x ≤ t) ∧ (l.length < n + 1 → t ∈ l)) := by
  cases l with
  | nil =>
    refine .inl ⟨rfl, ?_⟩
    rintro ⟨rfl, ha⟩
    rcases hf with ⟨_, hf⟩ | ⟨hf, _⟩
    · exact chain_none h t hf.1 ha hf.2.1
    · cases hf
  | cons x r =>
    obtain ⟨h1, h2, h3⟩ := chain_mem _ _ _ _ h x List.mem_cons_self
    rcases hf with ⟨rfl, hf⟩ | ⟨_, _, hf⟩
    · have h4 := hf.2.2 x h1 h3
      refine .inr ⟨by simp, rfl, by omega, fun y hy => ?_, fun hl => chain_short _ _ _ _ h hl t hf.1 (by omega) hf.2.1⟩
      obtain ⟨y1, y2, y3⟩ := chain_mem _ _ _ _ h y hy
      exact hf.2.2 y y1 y3
    · have := hf x h1; omega
/-- One time or none, whoever asks for how many. -/
theorem chain_some {T : Int → Prop} {n m : Nat} {a b : Int} {l r : List Int} (h : Chain T a b (n + 1) l) (h' : Chain T a b (m + 1) r) : l = [] ↔ r = [] := by
  constructor
  · rintro rfl
    cases r with
    | nil => rfl
    | cons x r =>
      obtain ⟨h1, h2, h3⟩ := chain_mem _ _ _ _ h' x List.mem_cons_self
      exact (chain_none h x h1 h2 h3).elim
  · rintro rfl
    cases l with
    | nil => rfl
    | cons x r =>
      obtain ⟨h1, h2, h3⟩ := chain_mem _ _ _ _ h x List.mem_cons_self
      exact (chain_none h' x h1 h2 h3).elim
theorem chain_alone {x : Int} : ∀ (n : Nat) (a b : Int) (l : List Int), Chain (fun u => u = x) a b n l → l.length ≤ 1
  | n, a, b, l, h => by
    have hr := chain_rises n a b l h
    match l with
    | [] => simp
    | [_] => simp
    | p :: q :: r =>
      have hp : p = x := (chain_mem n a b _ h p List.mem_cons_self).1
      have hq : q = x := (chain_mem n a b _ h q (List.mem_cons_of_mem _ List.mem_cons_self)).1
      have := (List.pairwise_cons.1 hr).1 q List.mem_cons_self
      omega
/-- In a row that rises the greatest one is the last one. -/
theorem last_greatest {l : List Int} (hr : l.Pairwise (· < ·)) {t : Int} (hm : t ∈ l) (hx : ∀ x ∈ l, x ≤ t) : l[l.length - 1]? = some t := by
  obtain ⟨i, hi⟩ := List.mem_iff_getElem?.1 hm
  obtain ⟨h1, h2⟩ := List.getElem?_eq_some_iff.1 hi
  by_cases e : i = l.length - 1
  · rw [← e]; exact hi
  · have h3 := List.pairwise_iff_getElem.1 hr i (l.length - 1) h1 (by omega) (by omega)
    have h4 := hx _ (List.getElem_mem (show l.length - 1 < l.length by omega))
    omega
end Go.Proofs.YtbaobjbckabnhaaGreatDoor
