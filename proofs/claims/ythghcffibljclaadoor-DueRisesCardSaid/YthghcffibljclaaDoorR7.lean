/- Texts of this seat, one behind the other: UTimes, UJob, UHold, UMem, UCheck, UPlan, UFirst, UWithin, UWakeP. -/
import Derived.Test.YthghcffibljclaaDoorR5
import Derived.Test.YthghcffibljclaaDoorR6
import Derived.Laws.EntriesVeiled
import Derived.WalkMore
/- The times of a job: the first behind one, the last up to one, the first so many of a span: plain. -/
namespace Go.Proofs.YthghcffibljclaaDoor

def IsMax (T : Int → Prop) (b t : Int) : Prop := T t ∧ t ≤ b ∧ ∀ u, T u → u ≤ b → u ≤ t
/-- What First tells of these times. -/
def FirstT (T : Int → Prop) (a t : Int) (ok : Bool) : Prop := (ok = true ∧ IsMin T a t) ∨ (ok = false ∧ t = 0 ∧ ∀ u, T u → u ≤ a)
/-- What Latest tells of these times. -/
def LastT (T : Int → Prop) (b t : Int) (ok : Bool) : Prop := (ok = true ∧ IsMax T b t) ∨ (ok = false ∧ t = 0 ∧ ∀ u, T u → b < u)
theorem firstT_one {T : Int → Prop} {a t t' : Int} {ok ok' : Bool} (h : FirstT T a t ok) (h' : FirstT T a t' ok') : t' = t ∧ ok' = ok := by
  rcases h with ⟨rfl, h⟩ | ⟨rfl, rfl, h⟩ <;> rcases h' with ⟨rfl, h'⟩ | ⟨rfl, rfl, h'⟩
  · have h1 := h.2.2 t' h'.1 h'.2.1
    have h2 := h'.2.2 t h.1 h.2.1
    exact ⟨by omega, rfl⟩
  · have := h' t h.1; have := h.2.1; omega
  · have := h t' h'.1; have := h'.2.1; omega
  · exact ⟨rfl, rfl⟩
theorem lastT_one {T : Int → Prop} {a t t' : Int} {ok ok' : Bool} (h : LastT T a t ok) (h' : LastT T a t' ok') : t' = t ∧ ok' = ok := by
  rcases h with ⟨rfl, h⟩ | ⟨rfl, rfl, h⟩ <;> rcases h' with ⟨rfl, h'⟩ | ⟨rfl, rfl, h'⟩
  · have h1 := h.2.2 t' h'.1 h'.2.1
    have h2 := h'.2.2 t h.1 h.2.1
    exact ⟨by omega, rfl⟩
  · have := h' t h.1; have := h.2.1; omega
  · have := h t' h'.1; have := h'.2.1; omega
  · exact ⟨rfl, rfl⟩
theorem min_of_next {T : Int → Prop} {a t : Int} (h : IsNext T a t) : IsMin T a t := ⟨h.1, h.2.1, h.2.2.2⟩
theorem max_of_last {T : Int → Prop} {b t : Int} (h : IsLast T b t) : IsMax T b t := ⟨h.1, h.2.1, h.2.2.2⟩
theorem none_ahead {T : Int → Prop} (hT : TimesOf T) (hw : Window T) {b : Int} (h : NoLast T b) (u : Int) (hu : T u) : b < u := by
  apply Int.not_le.1
  intro hle
  have h1 := h u hu hle
  obtain ⟨u0, u1⟩ := hT u hu
  unfold NoLast at h
  unfold dayOf at *
  split at h1
  · omega
  · split at h1
    · obtain ⟨x, hx, x0, x1⟩ := hw ⟨u, hu⟩ (2932896 - 2922) (by omega) (by omega)
      have h2 := h x hx (by have := hT x hx; omega)
      rw [if_neg (by omega), if_pos (by omega)] at h2
      omega
    · obtain ⟨x, hx, x0, x1⟩ := hw ⟨u, hu⟩ (b / 86400 - 2922) (by omega) (by omega)
      have h2 := h x hx (by omega)
      rw [if_neg (by omega), if_neg (by omega)] at h2
      omega
theorem firstT_next {T : Int → Prop} {a t : Int} (h : IsNext T a t) : FirstT T a t true := .inl ⟨rfl, min_of_next h⟩
theorem firstT_none {T : Int → Prop} (hT : TimesOf T) (hw : Window T) {a : Int} (h : NoNext T a) : FirstT T a 0 false := .inr ⟨rfl, rfl, none_behind hT hw h⟩
theorem lastT_last {T : Int → Prop} {a t : Int} (h : IsLast T a t) : LastT T a t true := .inl ⟨rfl, max_of_last h⟩
theorem lastT_none {T : Int → Prop} (hT : TimesOf T) (hw : Window T) {a : Int} (h : NoLast T a) : LastT T a 0 false := .inr ⟨rfl, rfl, none_ahead hT hw h⟩
theorem firstT_alone (x a : Int) : FirstT (fun u => u = x) a (if a < x then x else 0) (decide (a < x)) := by
  by_cases h : a < x
  · rw [if_pos h, decide_eq_true h]
    exact .inl ⟨rfl, rfl, h, fun u hu _ => by have : u = x := hu; omega⟩
  · rw [if_neg h, decide_eq_false h]
    exact .inr ⟨rfl, rfl, fun u hu => by have : u = x := hu; omega⟩
theorem lastT_alone (x b : Int) : LastT (fun u => u = x) b (if x ≤ b then x else 0) (decide (x ≤ b)) := by
  by_cases h : x ≤ b
  · rw [if_pos h, decide_eq_true h]
    exact .inl ⟨rfl, rfl, h, fun u hu _ => by have : u = x := hu; omega⟩
  · rw [if_neg h, decide_eq_false h]
    exact .inr ⟨rfl, rfl, fun u hu => by have : u = x := hu; omega⟩
/-! from one to the next one -/
theorem chainT_zero (T : Int → Prop) (a b : Int) : Chain T a b 0 [] := by rw [Chain]
theorem chainT_next {T : Int → Prop} {a b t : Int} {n : Nat} {r : List Int} (h : FirstT T a t true) (hb : t ≤ b) (hr : Chain T t b n r) : Chain T a b (n + 1) (t :: r) := by
  rcases h with ⟨_, h⟩ | ⟨h, _⟩
  · rw [Chain]; exact .inr ⟨t, r, h, hb, rfl, hr⟩
  · cases h
theorem chainT_past {T : Int → Prop} {a b t : Int} {n : Nat} (h : FirstT T a t true) (hb : b < t) : Chain T a b (n + 1) [] := by
  rcases h with ⟨_, h⟩ | ⟨h, _⟩
  · rw [Chain]; exact .inl ⟨fun u hu ha => by have := h.2.2 u hu ha; omega, rfl⟩
  · cases h
theorem chainT_stop {T : Int → Prop} {a b t : Int} {n : Nat} (h : FirstT T a t false) : Chain T a b (n + 1) [] := by
  rcases h with ⟨h, _⟩ | ⟨_, _, h⟩
  · cases h
  · rw [Chain]; exact .inl ⟨fun u hu ha => by have := h u hu; omega, rfl⟩
theorem chain_mem {T : Int → Prop} : ∀ (n : Nat) (a b : Int) (l : List Int), Chain T a b n l → ∀ t ∈ l, T t ∧ a < t ∧ t ≤ b
  | 0, a, b, l, h, t, ht => by rw [Chain] at h; subst h; cases ht
  | n + 1, a, b, l, h, t, ht => by
    rw [Chain] at h
    rcases h with ⟨_, rfl⟩ | ⟨x, r, hx, hb, rfl, hr⟩
    · cases ht
    · rcases List.mem_cons.1 ht with rfl | ht
      · exact ⟨hx.1, hx.2.1, hb⟩
      · have := chain_mem n x b r hr t ht
        exact ⟨this.1, by have := hx.2.1; omega, this.2.2⟩
theorem chain_rises {T : Int → Prop} : ∀ (n : Nat) (a b : Int) (l : List Int), Chain T a b n l → l.Pairwise (· < ·)
  | 0, a, b, l, h => by rw [Chain] at h; subst h; exact List.Pairwise.nil
  | n + 1, a, b, l, h => by
    rw [Chain] at h
    rcases h with ⟨_, rfl⟩ | ⟨x, r, hx, hb, rfl, hr⟩
    · exact List.Pairwise.nil
    · exact List.pairwise_cons.2 ⟨fun y hy => (chain_mem n x b r hr y hy).2.1, chain_rises n x b r hr⟩
theorem chain_first {T : Int → Prop} {n : Nat} {a b t : Int} {ok : Bool} {l : List Int} (h : Chain T a b (n + 1) l) (hf : FirstT T a t ok) : (l = [] ∧ ¬ (ok = true ∧ t ≤ b)) ∨ (ok = true ∧ t ≤ b ∧ l[0]? = some t) := by
  rw [Chain] at h
  rcases h with ⟨hn, rfl⟩ | ⟨x, r, hx, hb, rfl, hr⟩
  · refine .inl ⟨rfl, ?_⟩
    rintro ⟨rfl, h⟩
    rcases hf with ⟨_, hf⟩ | ⟨hf, _⟩
    · have := hn t hf.1 hf.2.1; omega
    · cases hf
  · obtain ⟨rfl, rfl⟩ := firstT_one (.inl ⟨rfl, hx⟩) hf
    exact .inr ⟨rfl, hb, rfl⟩
theorem chain_short {T : Int → Prop} : ∀ (n : Nat) (a b : Int) (l : List Int), Chain T a b n l → l.length < n → ∀ u, T u → a < u → u ≤ b → u ∈ l
  | 0, a, b, l, h, hl, u, hu, ha, hb => absurd hl (by omega)
  | n + 1, a, b, l, h, hl, u, hu, ha, hb => by
    rw [Chain] at h
    rcases h with ⟨hn, rfl⟩ | ⟨x, r, hx, hxb, rfl, hr⟩
    · have := hn u hu ha; omega
    · by_cases e : u = x
      · subst e; exact List.mem_cons_self
      · have h1 := hx.2.2 u hu ha
        exact List.mem_cons_of_mem _ (chain_short n x b r hr (by simpa using hl) u hu (by omega) hb)
theorem chain_none {T : Int → Prop} {n : Nat} {a b : Int} (h : Chain T a b (n + 1) []) (u : Int) (hu : T u) (ha : a < u) (hb : u ≤ b) : False := by
  have := chain_short _ _ _ _ h (by simp) u hu ha hb
  cases this
/-- What Latest tells of a span's times. -/
theorem chain_latest {T : Int → Prop} {n : Nat} {a b t : Int} {ok : Bool} {l : List Int} (h : Chain T a b (n + 1) l) (hf : LastT T b t ok) :
    (l = [] ∧ ¬ (ok = true ∧ a < t)) ∨ (l ≠ [] ∧ ok = true ∧ a < t ∧ (∀ x ∈ l, x ≤ t) ∧ (l.length < n + 1 → t ∈ l)) := by
  cases l with
  | nil =>
    refine .inl ⟨rfl, ?_⟩
    rintro ⟨rfl, ha⟩
    rcases hf with ⟨_, hf⟩ | ⟨hf, _⟩
    · exact chain_none h t hf.1 ha hf.2.1
    · cases hf
  | cons x r =>
    obtain ⟨h1, h2, h3⟩ := chain_mem _ _ _ _ h x List.mem_cons_self
    rcases hf with ⟨rfl, hf⟩ | ⟨_, _, hf⟩
    · have h4 := hf.2.2 x h1 h3
      refine .inr ⟨by simp, rfl, by omega, fun y hy => ?_, fun hl => chain_short _ _ _ _ h hl t hf.1 (by omega) hf.2.1⟩
      obtain ⟨y1, y2, y3⟩ := chain_mem _ _ _ _ h y hy
      exact hf.2.2 y y1 y3
    · have := hf x h1; omega
/-- One time or none, whoever asks for how many. -/
theorem chain_some {T : Int → Prop} {n m : Nat} {a b : Int} {l r : List Int} (h : Chain T a b (n + 1) l) (h' : Chain T a b (m + 1) r) : l = [] ↔ r = [] := by
  constructor
  · rintro rfl
    cases r with
    | nil => rfl
    | cons x r =>
      obtain ⟨h1, h2, h3⟩ := chain_mem _ _ _ _ h' x List.mem_cons_self
      exact (chain_none h x h1 h2 h3).elim
  · rintro rfl
    cases l with
    | nil => rfl
    | cons x r =>
      obtain ⟨h1, h2, h3⟩ := chain_mem _ _ _ _ h x List.mem_cons_self
      exact (chain_none h' x h1 h2 h3).elim
theorem chain_alone {x : Int} : ∀ (n : Nat) (a b : Int) (l : List Int), Chain (fun u => u = x) a b n l → l.length ≤ 1
  | n, a, b, l, h => by
    have hr := chain_rises n a b l h
    match l with
    | [] => simp
    | [_] => simp
    | p :: q :: r =>
      have hp : p = x := (chain_mem n a b _ h p List.mem_cons_self).1
      have hq : q = x := (chain_mem n a b _ h q (List.mem_cons_of_mem _ List.mem_cons_self)).1
      have := (List.pairwise_cons.1 hr).1 q List.mem_cons_self
      omega
/-- In a row that rises the greatest one is the last one. -/
theorem last_greatest {l : List Int} (hr : l.Pairwise (· < ·)) {t : Int} (hm : t ∈ l) (hx : ∀ x ∈ l, x ≤ t) : l[l.length - 1]? = some t := by
  obtain ⟨i, hi⟩ := List.mem_iff_getElem?.1 hm
  obtain ⟨h1, h2⟩ := List.getElem?_eq_some_iff.1 hi
  by_cases e : i = l.length - 1
  · rw [← e]; exact hi
  · have h3 := List.pairwise_iff_getElem.1 hr i (l.length - 1) h1 (by omega) (by omega)
    have h4 := hx _ (List.getElem_mem (show l.length - 1 < l.length by omega))
    omega
end Go.Proofs.YthghcffibljclaaDoor
/- A job, and a wish: what is made of them, plain. -/
namespace Go.Proofs.YthghcffibljclaaDoor

/-- What a job comes to in memory and law: its numbers, and its cron's five masks. -/
structure JobZ where
  n : Int
  o : Bool
  L : List (BitVec 64)
  t : Int
  ov : Int
  ca : Int
  re : Int
structure WishZ where
  n : Int
  s : List UInt8
  t : Int
  ov : Int
  ca : Int
  re : Int
/-- Names are from 0 to 2^32 - 1; a cron has five masks. -/
def JobZ.Fit (j : JobZ) : Prop := 0 ≤ j.n ∧ j.n ≤ 4294967295 ∧ j.L.length = 5
def WishZ.Fit (w : WishZ) : Prop := 0 ≤ w.n ∧ w.n ≤ 4294967295
def zeroJ : JobZ := ⟨0, false, nilF, 0, 0, 0, 0⟩
theorem zeroJ_fit : zeroJ.Fit := ⟨by decide, by decide, rfl⟩
def maxT : Int := 253402300799
/-- The limits that a job's numbers have to keep. -/
def limsZ (n : Int) (o : Bool) (t ov ca re : Int) : List (Int × Int × Int) := [(t, 0, if o then maxT else 0), (n, 1, 4294967295), (ov, 0, 1), (ca, 0, 2), (re, 0, 3)]
def holdB (l : List (Int × Int × Int)) : Bool := l.all fun x => decide (x.2.1 ≤ x.1 ∧ x.1 ≤ x.2.2)
def JobZ.lims (j : JobZ) : List (Int × Int × Int) := limsZ j.n j.o j.t j.ov j.ca j.re
def WishZ.lims (w : WishZ) : List (Int × Int × Int) := limsZ w.n w.s.isEmpty w.t w.ov w.ca w.re
theorem hold_iff {n : Int} {o : Bool} {t ov ca re : Int} : holdB (limsZ n o t ov ca re) = true ↔ (0 ≤ t ∧ t ≤ if o then maxT else 0) ∧ (1 ≤ n ∧ n ≤ 4294967295) ∧ (0 ≤ ov ∧ ov ≤ 1) ∧ (0 ≤ ca ∧ ca ≤ 2) ∧ (0 ≤ re ∧ re ≤ 3) := by
  simp [holdB, limsZ]
/-- Whether crons match ever. -/
def EvIs (ev : List (BitVec 64) → Bool) : Prop := ∀ L, ev L = true ↔ EverZ L
theorem ev_is : ∃ ev, EvIs ev := ⟨fun L => @decide (EverZ L) (Classical.propDecidable _), fun _ => @decide_eq_true_iff _ (Classical.propDecidable _)⟩
/-- Why a job may not be. -/
def JobZ.err (ev : List (BitVec 64) → Bool) (j : JobZ) : Int :=
  if holdB j.lims = false then 200 else if j.o = true ∧ j.L = nilF then 0 else if j.o = true ∨ crB j.L = false then 200 else if ev j.L = false then 201 else 0
/-- Its times. -/
def JobZ.T (j : JobZ) (u : Int) : Prop := if j.o then u = j.t else TC j.L u
def readE (s : List UInt8) : Option (List (BitVec 64)) × Int := if 256 < s.length then (none, 3) else match (readC s).1 with
  | some l => (some l, 0)
  | none => (none, 170)
def WishZ.job (w : WishZ) (L : List (BitVec 64)) : JobZ := ⟨w.n, w.s.isEmpty, L, w.t, w.ov, w.ca, w.re⟩
/-- The job that a wish says; the error. -/
def ofZ (ev : List (BitVec 64) → Bool) (w : WishZ) : JobZ × Int :=
  if holdB w.lims = false then (zeroJ, 200) else if w.s = [] then (w.job nilF, 0) else match readE w.s with
  | (none, e) => (zeroJ, e)
  | (some l, _) => if ev l = false then (zeroJ, 201) else (w.job l, 0)
def JobZ.wish (j : JobZ) : WishZ := ⟨j.n, if j.o then [] else ctextL j.L, j.t, j.ov, j.ca, j.re⟩
theorem readE_some {s : List UInt8} {l : List (BitVec 64)} {e : Int} (h : readE s = (some l, e)) : e = 0 ∧ l.length = 5 ∧ crB l = true ∧ s.length ≤ 256 ∧ readC s = (some l, 0) := by
  unfold readE at h
  split at h
  · cases h
  · rename_i hlen
    cases hr : readC s with
    | mk r p =>
      rw [hr] at h
      cases r with
      | none => cases h
      | some l' =>
        have h : ((some l' : Option (List (BitVec 64))), (0 : Int)) = (some l, e) := h
        injection h with h1 h2
        injection h1 with h1
        subst h1
        obtain ⟨a, b, c⟩ := read_cr hr
        subst b
        exact ⟨h2.symm, a, c, by omega, rfl⟩
theorem readE_none {s : List UInt8} {e : Int} (h : readE s = (none, e)) : (256 < s.length ∧ e = 3) ∨ (s.length ≤ 256 ∧ e = 170 ∧ ∃ p, readC s = (none, p)) := by
  unfold readE at h
  split at h
  · rename_i hl
    injection h with _ h
    exact .inl ⟨hl, h.symm⟩
  · rename_i hlen
    cases hr : readC s with
    | mk r p =>
      rw [hr] at h
      cases r with
      | some l' => cases h
      | none =>
        injection h with _ h
        exact .inr ⟨by omega, h.symm, p, rfl⟩
theorem text_some {L : List (BitVec 64)} (_h : crB L = true) (_h5 : L.length = 5) : ctextL L ≠ [] := by
  unfold ctextL textC
  simp
theorem lims_job (w : WishZ) (L : List (BitVec 64)) : (w.job L).lims = w.lims := rfl
theorem lims_wish {j : JobZ} (h5 : j.L.length = 5) (h : j.o = true ∨ crB j.L = true) : j.wish.lims = j.lims := by
  unfold WishZ.lims JobZ.lims JobZ.wish
  cases ho : j.o with
  | true => rfl
  | false =>
    rw [ho] at h
    have hc : crB j.L = true := by rcases h with h | h; cases h; exact h
    have := text_some hc h5
    simp only [Bool.false_eq_true, if_false]
    cases hx : ctextL j.L with
    | nil => exact absurd hx this
    | cons a b => rfl
theorem err_ok {ev : List (BitVec 64) → Bool} {j : JobZ} (h : j.err ev = 0) : holdB j.lims = true ∧ ((j.o = true ∧ j.L = nilF) ∨ (j.o = false ∧ crB j.L = true ∧ ev j.L = true)) := by
  unfold JobZ.err at h
  cases hh : holdB j.lims with
  | false => rw [hh] at h; simp at h
  | true =>
    rw [hh] at h
    refine ⟨rfl, ?_⟩
    simp only [Bool.true_eq_false, if_false] at h
    split at h
    · rename_i hx; exact .inl hx
    · split at h
      · cases h
      · rename_i h2
        split at h
        · cases h
        · rename_i h3
          refine .inr ⟨?_, ?_, ?_⟩
          · cases ho : j.o with
            | false => rfl
            | true => exact absurd (.inl ho) h2
          · cases ho : crB j.L with
            | true => rfl
            | false => exact absurd (.inr ho) h2
          · cases ho : ev j.L with
            | true => rfl
            | false => exact absurd ho h3
theorem err_is {ev : List (BitVec 64) → Bool} {j : JobZ} (h1 : holdB j.lims = true) (h2 : (j.o = true ∧ j.L = nilF) ∨ (j.o = false ∧ crB j.L = true ∧ ev j.L = true)) : j.err ev = 0 := by
  unfold JobZ.err
  rw [h1]
  simp only [Bool.true_eq_false, if_false]
  rcases h2 with h2 | ⟨a, b, c⟩
  · rw [if_pos h2]
  · rw [a, b, c]; simp
theorem text_len_ok {L : List (BitVec 64)} (h : crB L = true) : (ctextL L).length ≤ 256 := by have := ctextL_len h; omega
theorem readE_text {L : List (BitVec 64)} (h : crB L = true) (h5 : L.length = 5) : readE (ctextL L) = (some L, 0) := by
  obtain ⟨a, b, c, d, e, rfl⟩ := list_five h5
  have hr : readC (ctextL [a, b, c, d, e]) = (some [a, b, c, d, e], 0) := read_textC (crB_field h 0 (by omega)) (crB_field h 1 (by omega)) (crB_field h 2 (by omega)) (crB_field h 3 (by omega)) (crB_field h 4 (by omega))
  unfold readE
  rw [if_neg (by have := text_len_ok h; omega), hr]
/-- Of of Wish is the job. -/
theorem of_wish {ev : List (BitVec 64) → Bool} {j : JobZ} (h5 : j.L.length = 5) (h : j.err ev = 0) : ofZ ev j.wish = (j, 0) := by
  obtain ⟨h1, h2⟩ := err_ok h
  have hl : j.wish.lims = j.lims := lims_wish h5 (by rcases h2 with ⟨a, _⟩ | ⟨_, b, _⟩; exact .inl a; exact .inr b)
  unfold ofZ
  rw [hl, h1]
  simp only [Bool.true_eq_false, if_false]
  obtain ⟨n, o, L, t, ov, ca, re⟩ := j
  rcases h2 with ⟨a, b⟩ | ⟨a, b, c⟩
  · simp only at a b
    subst a; subst b
    rfl
  · simp only at a b c h5
    subst a
    have hx := text_some b h5
    have hne : ctextL L ≠ [] := hx
    have e1 : (JobZ.wish ⟨n, false, L, t, ov, ca, re⟩).s = ctextL L := rfl
    rw [e1, if_neg hne, readE_text b h5]
    simp only [c, Bool.true_eq_false, if_false]
    unfold WishZ.job
    rw [e1]
    cases hx : ctextL L with
    | nil => exact absurd hx hne
    | cons p q => rfl
/-- The job that a wish says may be. -/
theorem of_ok {ev : List (BitVec 64) → Bool} {w : WishZ} {j : JobZ} (hw : w.Fit) (h : ofZ ev w = (j, 0)) : j.Fit ∧ j.err ev = 0 ∧ j.n = w.n ∧ j.t = w.t ∧ j.o = w.s.isEmpty := by
  unfold ofZ at h
  cases hh : holdB w.lims with
  | false => rw [hh] at h; simp at h
  | true =>
    rw [hh] at h
    simp only [Bool.true_eq_false, if_false] at h
    split at h
    · rename_i hs
      injection h with h _
      subst h
      refine ⟨⟨hw.1, hw.2, rfl⟩, err_is hh (.inl ⟨?_, rfl⟩), rfl, rfl, rfl⟩
      show w.s.isEmpty = true
      rw [hs]; rfl
    · rename_i hs
      split at h
      · rename_i e he
        injection h with _ h
        rcases readE_none he with ⟨_, rfl⟩ | ⟨_, rfl, _⟩ <;> cases h
      · rename_i l e he
        obtain ⟨_, a, b, _, _⟩ := readE_some he
        split at h
        · cases h
        · rename_i hv
          injection h with h _
          subst h
          refine ⟨⟨hw.1, hw.2, a⟩, err_is hh (.inr ⟨?_, b, ?_⟩), rfl, rfl, rfl⟩
          · show w.s.isEmpty = false
            cases hx : w.s with
            | nil => exact absurd hx hs
            | cons p q => rfl
          · show ev l = true
            cases hx : ev l with
            | true => rfl
            | false => exact absurd hx hv
theorem of_bad {ev : List (BitVec 64) → Bool} {w : WishZ} {j : JobZ} {e : Int} (h : ofZ ev w = (j, e)) (he : e ≠ 0) : j = zeroJ := by
  unfold ofZ at h
  split at h
  · injection h with h _; exact h.symm
  · split at h
    · injection h with _ h; exact absurd h.symm he
    · split at h
      · injection h with h _; exact h.symm
      · split at h
        · injection h with h _; exact h.symm
        · injection h with _ h; exact absurd h.symm he
/-- One time alone, or those of a cron. -/
theorem T_once {j : JobZ} (h : j.o = true) : j.T = fun u => u = j.t := by funext u; unfold JobZ.T; rw [h]; simp
theorem T_cron {j : JobZ} (h : j.o = false) : j.T = TC j.L := by funext u; unfold JobZ.T; rw [h]; simp
end Go.Proofs.YthghcffibljclaaDoor
/- What a job is in memory; its limits, and whether they are kept: walked, of the program. -/
namespace Go.Proofs.YthghcffibljclaaDoor
open Go.RowKit

def jobC (j : JobZ) : List Value := [.int .u32 j.n, .bool j.o] ++ j.L.map menc ++ [.int .i64 j.t, .int .i64 j.ov, .int .i64 j.ca, .int .i64 j.re]
def jobV (j : JobZ) : Value := .agg (jobC j).toArray
theorem jobV_five (n : Int) (o : Bool) (a b c d e : BitVec 64) (t ov ca re : Int) : jobV ⟨n, o, [a, b, c, d, e], t, ov, ca, re⟩ = .agg #[.int .u32 n, .bool o, .int .u64 (U a), .int .u64 (U b), .int .u64 (U c), .int .u64 (U d), .int .u64 (U e), .int .i64 t, .int .i64 ov, .int .i64 ca, .int .i64 re] := rfl
/-- A job stands in block g. -/
def JobAt (w : World) (g : Nat) (j : JobZ) : Prop := j.L.length = 5 ∧ D.Box w g 28 (jobC j).toArray
section
variable {w w' : World} {g : Nat} {j : JobZ}
theorem JobAt.lt (h : JobAt w g j) : g < w.heap.size := D.Box.lt h.2
theorem JobAt.below {B : Nat} (h : JobAt w g j) (hb : Below B w w') (hg : g < B) : JobAt w' g j := ⟨h.1, D.Box.below h.2 hb hg⟩
theorem JobAt.on (h : JobAt w g j) (hb : Below w.heap.size w w') : JobAt w' g j := h.below hb h.lt
theorem JobAt.alloc (h : JobAt w g j) (o : Obj) : JobAt (w.alloc o) g j := ⟨h.1, D.Box.alloc h.2 o⟩
end
theorem JobAt.new (w : World) (n : Int) (o : Bool) (a b c d e : BitVec 64) (t ov ca re : Int) : JobAt (w.alloc (.cells #[.int .u32 n, .bool o, .int .u64 (U a), .int .u64 (U b), .int .u64 (U c), .int .u64 (U d), .int .u64 (U e), .int .i64 t, .int .i64 ov, .int .i64 ca, .int .i64 re] 28)) w.heap.size ⟨n, o, [a, b, c, d, e], t, ov, ca, re⟩ := ⟨rfl, D.Box.new _ _ _⟩
theorem JobAt.cells {w : World} {g : Nat} {n : Int} {o : Bool} {a b c d e : BitVec 64} {t ov ca re : Int} (h : JobAt w g ⟨n, o, [a, b, c, d, e], t, ov, ca, re⟩) :
    w.cell? ⟨g, 0, none⟩ = some (.int .u32 n) ∧ w.cell? ⟨g, 1, none⟩ = some (.bool o) ∧ w.cell? ⟨g, 2, none⟩ = some (.int .u64 (U a)) ∧ w.cell? ⟨g, 3, none⟩ = some (.int .u64 (U b)) ∧ w.cell? ⟨g, 4, none⟩ = some (.int .u64 (U c)) ∧ w.cell? ⟨g, 5, none⟩ = some (.int .u64 (U d)) ∧ w.cell? ⟨g, 6, none⟩ = some (.int .u64 (U e)) ∧ w.cell? ⟨g, 7, none⟩ = some (.int .i64 t) ∧ w.cell? ⟨g, 8, none⟩ = some (.int .i64 ov) ∧ w.cell? ⟨g, 9, none⟩ = some (.int .i64 ca) ∧ w.cell? ⟨g, 10, none⟩ = some (.int .i64 re) :=
  ⟨D.Box.cell h.2 0, D.Box.cell h.2 1, D.Box.cell h.2 2, D.Box.cell h.2 3, D.Box.cell h.2 4, D.Box.cell h.2 5, D.Box.cell h.2 6, D.Box.cell h.2 7, D.Box.cell h.2 8, D.Box.cell h.2 9, D.Box.cell h.2 10⟩
/-- A job that comes in is laid anew. -/
theorem job_new (w : World) (n : Int) (o : Bool) (a b c d e : BitVec 64) (t ov ca re : Int) : ∃ W : World, W = w.alloc (.cells #[.int .u32 n, .bool o, .int .u64 (U a), .int .u64 (U b), .int .u64 (U c), .int .u64 (U d), .int .u64 (U e), .int .i64 t, .int .i64 ov, .int .i64 ca, .int .i64 re] 28) ∧ Below w.heap.size w W ∧ JobAt W w.heap.size ⟨n, o, [a, b, c, d, e], t, ov, ca, re⟩ ∧ W.heap.size = w.heap.size + 1 :=
  ⟨_, rfl, (Below.refl _ w).alloc (Nat.le_refl _) _, JobAt.new w n o a b c d e t ov ca re, by simp⟩
/-! limits -/
def LimsAt (w : World) (A : Option Addr) (l : List (Int × Int × Int)) : Prop := ∀ k x, l[k]? = some x → ∃ g, A = some ⟨g, 0, none⟩ ∧ g < w.heap.size ∧ w.cell? ⟨g, k * 3, none⟩ = some (.int .i64 x.1) ∧ w.cell? ⟨g, k * 3 + 1, none⟩ = some (.int .i64 x.2.1) ∧ w.cell? ⟨g, k * 3 + 2, none⟩ = some (.int .i64 x.2.2)
theorem LimsAt.on {w w' : World} {A : Option Addr} {l : List (Int × Int × Int)} (h : LimsAt w A l) (hb : Below w.heap.size w w') : LimsAt w' A l := fun k x hx => by
  obtain ⟨g, rfl, hg, c0, c1, c2⟩ := h k x hx
  exact ⟨g, rfl, Nat.lt_of_lt_of_le hg hb.size, (hb.cell (p := ⟨g, k * 3, none⟩) hg).trans c0, (hb.cell (p := ⟨g, k * 3 + 1, none⟩) hg).trans c1, (hb.cell (p := ⟨g, k * 3 + 2, none⟩) hg).trans c2⟩
set_option maxRecDepth 100000 in
set_option maxHeartbeats 1000000 in
theorem hold_any (A : Option Addr) (c : Nat) (l : List (Int × Int × Int)) (m : Nat) (w : World) (hm : l.length = m) (hn : m ≤ 64) (h : LimsAt w A l) :
    Calls Tryd.prog 26 #[.slice A m c] w fun x w' => x = .returned (.bool (holdB l)) ∧ Below w.heap.size w w' := by
  have HH := Lib.hid h; have HM := Lib.hid hm
  clear h hm
  go_enter Tryd.func26, Tryd.ntmps26
  go_wp2_with fail
  go_loopw [4, 7] (fun _ i wr => ∃ k : Nat, k ≤ m ∧ i = .int .i64 (k : Int) ∧ Below w.heap.size w wr ∧ Hid (∀ q x, q < k → l[q]? = some x → x.2.1 ≤ x.1 ∧ x.1 ≤ x.2.2)) (fun _ i _ => m - (intOf i).toNat)
  case atStart => exact ⟨0, by omega, rfl, Below.refl _ _, Lib.hid (fun q x hq => absurd hq (by omega))⟩
  case round =>
    obtain ⟨k, hk, rfl, hb, HA⟩ := hrel
    have HB := Lib.hid hb
    by_cases hlt : k < m
    · obtain ⟨x, hx⟩ : ∃ x, l[k]? = some x := ⟨_, List.getElem?_eq_getElem (by have := HM.out; omega)⟩
      obtain ⟨g, rfl, hg, c0, c1, c2⟩ := (HH.out.on hb) k x hx
      obtain ⟨v, lo, hi⟩ := x
      have HX := Lib.hid hx
      simp only at c0 c1 c2
      clear hb hx
      have HNO : Hid (¬ (lo ≤ v ∧ v ≤ hi) → holdB l = false) := Lib.hid (fun hn => by
        cases hz : holdB l with
        | false => rfl
        | true =>
          have := List.all_eq_true.1 hz _ (List.mem_of_getElem? HX.out)
          exact absurd (of_decide_eq_true this) hn)
      by_cases h1 : v < lo
      · have hd : decide (v < lo) = true := decide_eq_true h1
        have HZ := Lib.hid (HNO.out (by omega))
        go_wp2_with fail
        go_ret
        exact ⟨by rw [HZ.out]; try rfl, HB.out.alloc HB.out.size _⟩
      · have hd : decide (v < lo) = false := decide_eq_false h1
        by_cases h2 : hi < v
        · have hd2 : decide (hi < v) = true := decide_eq_true h2
          have HZ := Lib.hid (HNO.out (by omega))
          go_wp2_with fail
          go_ret
          exact ⟨by rw [HZ.out]; try rfl, HB.out.alloc HB.out.size _⟩
        · have hd2 : decide (hi < v) = false := decide_eq_false h2
          go_wp2_with fail
          go_roundw
          case rel => exact ⟨k + 1, by omega, by go_num, HB.out.alloc HB.out.size _, Lib.hid (fun q x hq hx => by
            by_cases e : q = k
            · subst e
              rw [HX.out] at hx; cases hx
              exact ⟨show lo ≤ v by omega, show v ≤ hi by omega⟩
            · exact HA.out q x (by omega) hx)⟩
          case measure => simp [intOf]; omega
    · have HZ : Hid (holdB l = true) := Lib.hid (List.all_eq_true.2 fun x hx => by
        obtain ⟨q, hq⟩ := List.mem_iff_getElem?.1 hx
        have hlt := (List.getElem?_eq_some_iff.1 hq).1
        have := HM.out
        exact decide_eq_true (HA.out q x (by omega) hq))
      clear hb
      go_wp2_with fail
      go_ret
      exact ⟨by rw [HZ.out]; try rfl, HB.out⟩
theorem lims_new {W : World} {ty : TypeId} {g : Nat} (n : Int) (o : Bool) (t ov ca re : Int) (hi : Int) (hh : hi = if o then maxT else 0) (hg : g = W.heap.size) :
    LimsAt (W.alloc (.cells #[.int .i64 t, .int .i64 0, .int .i64 hi, .int .i64 n, .int .i64 1, .int .i64 4294967295, .int .i64 ov, .int .i64 0, .int .i64 1, .int .i64 ca, .int .i64 0, .int .i64 2, .int .i64 re, .int .i64 0, .int .i64 3] ty)) (some ⟨g, 0, none⟩) (limsZ n o t ov ca re) := by
  subst hh; subst hg
  have hb := D.Box.new W ty #[.int .i64 t, .int .i64 0, .int .i64 (if o then maxT else 0), .int .i64 n, .int .i64 1, .int .i64 4294967295, .int .i64 ov, .int .i64 0, .int .i64 1, .int .i64 ca, .int .i64 0, .int .i64 2, .int .i64 re, .int .i64 0, .int .i64 3]
  intro k x hx
  refine ⟨_, rfl, D.Box.lt hb, ?_⟩
  have hk := (List.getElem?_eq_some_iff.1 hx).1
  have hk5 : k < 5 := hk
  rcases five hk5 with rfl | rfl | rfl | rfl | rfl <;> cases hx
  · exact ⟨D.Box.cell hb 0, D.Box.cell hb 1, D.Box.cell hb 2⟩
  · exact ⟨D.Box.cell hb 3, D.Box.cell hb 4, D.Box.cell hb 5⟩
  · exact ⟨D.Box.cell hb 6, D.Box.cell hb 7, D.Box.cell hb 8⟩
  · exact ⟨D.Box.cell hb 9, D.Box.cell hb 10, D.Box.cell hb 11⟩
  · exact ⟨D.Box.cell hb 12, D.Box.cell hb 13, D.Box.cell hb 14⟩
set_option maxRecDepth 100000 in
set_option maxHeartbeats 1000000 in
theorem limits_any (j : JobZ) (w : World) (hj : j.Fit) :
    Calls Tryd.prog 27 #[jobV j] w fun x w' => ∃ (A : Option Addr) (c : Nat), x = .returned (.slice A 5 c) ∧ LimsAt w' A j.lims ∧ Below w.heap.size w w' := by
  obtain ⟨n, o, L, t, ov, ca, re⟩ := j
  obtain ⟨n0, n1, h5⟩ := hj
  simp only at n0 n1 h5
  obtain ⟨a, b, c, d, e, rfl⟩ := list_five h5
  rw [jobV_five]
  have hwr : IntKind.i64.wrap n = n := by rw [IntKind.wrap_i64]; omega
  clear h5
  cases o with
  | true =>
    go_enter Tryd.func27, Tryd.ntmps27
    go_wp2_with fail
    go_ret
    refine ⟨_, _, rfl, lims_new n true t ov ca re _ rfl (by simp), ?_⟩
    exact ((((Below.refl _ w).alloc (Nat.le_refl _) _).alloc (by simp) _)).alloc (by simp; omega) _
  | false =>
    go_enter Tryd.func27, Tryd.ntmps27
    go_wp2_with fail
    go_ret
    refine ⟨_, _, rfl, lims_new n false t ov ca re _ rfl (by simp), ?_⟩
    exact ((((Below.refl _ w).alloc (Nat.le_refl _) _).alloc (by simp) _)).alloc (by simp; omega) _
end Go.Proofs.YthghcffibljclaaDoor
/- Jobs and wishes in memory: written whole, and in part. -/
namespace Go.Proofs.YthghcffibljclaaDoor
open Go.RowKit

abbrev set11V (W : World) (g : Nat) (u0 u1 u2 u3 u4 u5 u6 u7 u8 u9 u10 : Value) : World := ((((((((((W.setCell ⟨g, 0, none⟩ u0).setCell ⟨g, 1, none⟩ u1).setCell ⟨g, 2, none⟩ u2).setCell ⟨g, 3, none⟩ u3).setCell ⟨g, 4, none⟩ u4).setCell ⟨g, 5, none⟩ u5).setCell ⟨g, 6, none⟩ u6).setCell ⟨g, 7, none⟩ u7).setCell ⟨g, 8, none⟩ u8).setCell ⟨g, 9, none⟩ u9).setCell ⟨g, 10, none⟩ u10
abbrev set6V (W : World) (g : Nat) (u0 u1 u2 u3 u4 u5 : Value) : World := (((((W.setCell ⟨g, 0, none⟩ u0).setCell ⟨g, 1, none⟩ u1).setCell ⟨g, 2, none⟩ u2).setCell ⟨g, 3, none⟩ u3).setCell ⟨g, 4, none⟩ u4).setCell ⟨g, 5, none⟩ u5
abbrev setCV (W : World) (g : Nat) (u0 u1 u2 u3 u4 : Value) : World := ((((W.setCell ⟨g, 2, none⟩ u0).setCell ⟨g, 3, none⟩ u1).setCell ⟨g, 4, none⟩ u2).setCell ⟨g, 5, none⟩ u3).setCell ⟨g, 6, none⟩ u4
theorem box_set11 {W : World} {g : Nat} {t : TypeId} {x0 x1 x2 x3 x4 x5 x6 x7 x8 x9 x10 : Value} (h : D.Box W g t #[x0, x1, x2, x3, x4, x5, x6, x7, x8, x9, x10]) (u0 u1 u2 u3 u4 u5 u6 u7 u8 u9 u10 : Value) : D.Box (set11V W g u0 u1 u2 u3 u4 u5 u6 u7 u8 u9 u10) g t #[u0, u1, u2, u3, u4, u5, u6, u7, u8, u9, u10] := by
  have h0 : D.Box _ g t #[u0, x1, x2, x3, x4, x5, x6, x7, x8, x9, x10] := h.set 0 u0
  have h1 : D.Box _ g t #[u0, u1, x2, x3, x4, x5, x6, x7, x8, x9, x10] := h0.set 1 u1
  have h2 : D.Box _ g t #[u0, u1, u2, x3, x4, x5, x6, x7, x8, x9, x10] := h1.set 2 u2
  have h3 : D.Box _ g t #[u0, u1, u2, u3, x4, x5, x6, x7, x8, x9, x10] := h2.set 3 u3
  have h4 : D.Box _ g t #[u0, u1, u2, u3, u4, x5, x6, x7, x8, x9, x10] := h3.set 4 u4
  have h5 : D.Box _ g t #[u0, u1, u2, u3, u4, u5, x6, x7, x8, x9, x10] := h4.set 5 u5
  have h6 : D.Box _ g t #[u0, u1, u2, u3, u4, u5, u6, x7, x8, x9, x10] := h5.set 6 u6
  have h7 : D.Box _ g t #[u0, u1, u2, u3, u4, u5, u6, u7, x8, x9, x10] := h6.set 7 u7
  have h8 : D.Box _ g t #[u0, u1, u2, u3, u4, u5, u6, u7, u8, x9, x10] := h7.set 8 u8
  have h9 : D.Box _ g t #[u0, u1, u2, u3, u4, u5, u6, u7, u8, u9, x10] := h8.set 9 u9
  have h10 : D.Box _ g t #[u0, u1, u2, u3, u4, u5, u6, u7, u8, u9, u10] := h9.set 10 u10
  exact h10
theorem box_set6 {W : World} {g : Nat} {t : TypeId} {x0 x1 x2 x3 x4 x5 : Value} (h : D.Box W g t #[x0, x1, x2, x3, x4, x5]) (u0 u1 u2 u3 u4 u5 : Value) : D.Box (set6V W g u0 u1 u2 u3 u4 u5) g t #[u0, u1, u2, u3, u4, u5] := by
  have h0 : D.Box _ g t #[u0, x1, x2, x3, x4, x5] := h.set 0 u0
  have h1 : D.Box _ g t #[u0, u1, x2, x3, x4, x5] := h0.set 1 u1
  have h2 : D.Box _ g t #[u0, u1, u2, x3, x4, x5] := h1.set 2 u2
  have h3 : D.Box _ g t #[u0, u1, u2, u3, x4, x5] := h2.set 3 u3
  have h4 : D.Box _ g t #[u0, u1, u2, u3, u4, x5] := h3.set 4 u4
  have h5 : D.Box _ g t #[u0, u1, u2, u3, u4, u5] := h4.set 5 u5
  exact h5
theorem box_setC {W : World} {g : Nat} {t : TypeId} {x0 x1 x2 x3 x4 x5 x6 x7 x8 x9 x10 : Value} (h : D.Box W g t #[x0, x1, x2, x3, x4, x5, x6, x7, x8, x9, x10]) (u0 u1 u2 u3 u4 : Value) : D.Box (setCV W g u0 u1 u2 u3 u4) g t #[x0, x1, u0, u1, u2, u3, u4, x7, x8, x9, x10] := by
  have h0 : D.Box _ g t #[x0, x1, u0, x3, x4, x5, x6, x7, x8, x9, x10] := h.set 2 u0
  have h1 : D.Box _ g t #[x0, x1, u0, u1, x4, x5, x6, x7, x8, x9, x10] := h0.set 3 u1
  have h2 : D.Box _ g t #[x0, x1, u0, u1, u2, x5, x6, x7, x8, x9, x10] := h1.set 4 u2
  have h3 : D.Box _ g t #[x0, x1, u0, u1, u2, u3, x6, x7, x8, x9, x10] := h2.set 5 u3
  have h4 : D.Box _ g t #[x0, x1, u0, u1, u2, u3, u4, x7, x8, x9, x10] := h3.set 6 u4
  exact h4
theorem sole_11 {B g : Nat} {w W : World} (h : Sole g B w W) (u0 u1 u2 u3 u4 u5 u6 u7 u8 u9 u10 : Value) : Sole g B w (set11V W g u0 u1 u2 u3 u4 u5 u6 u7 u8 u9 u10) := (((((((((((h.set u0).set u1).set u2).set u3).set u4).set u5).set u6).set u7).set u8).set u9).set u10)
theorem sole_6 {B g : Nat} {w W : World} (h : Sole g B w W) (u0 u1 u2 u3 u4 u5 : Value) : Sole g B w (set6V W g u0 u1 u2 u3 u4 u5) := ((((((h.set u0).set u1).set u2).set u3).set u4).set u5)
theorem sole_C {B g : Nat} {w W : World} (h : Sole g B w W) (u0 u1 u2 u3 u4 : Value) : Sole g B w (setCV W g u0 u1 u2 u3 u4) := (((((h.set u0).set u1).set u2).set u3).set u4)
theorem below_11 {B g : Nat} {w W : World} (h : Below B w W) (hg : B ≤ g) (u0 u1 u2 u3 u4 u5 u6 u7 u8 u9 u10 : Value) : Below B w (set11V W g u0 u1 u2 u3 u4 u5 u6 u7 u8 u9 u10) := (sole_11 (Sole.of h) u0 u1 u2 u3 u4 u5 u6 u7 u8 u9 u10).below hg (Nat.le_refl _)
theorem below_6 {B g : Nat} {w W : World} (h : Below B w W) (hg : B ≤ g) (u0 u1 u2 u3 u4 u5 : Value) : Below B w (set6V W g u0 u1 u2 u3 u4 u5) := (sole_6 (Sole.of h) u0 u1 u2 u3 u4 u5).below hg (Nat.le_refl _)
theorem below_C {B g : Nat} {w W : World} (h : Below B w W) (hg : B ≤ g) (u0 u1 u2 u3 u4 : Value) : Below B w (setCV W g u0 u1 u2 u3 u4) := (sole_C (Sole.of h) u0 u1 u2 u3 u4).below hg (Nat.le_refl _)
theorem far_11 {W : World} {p g : Nat} {t : TypeId} {cs : Array Value} (h : D.Box W p t cs) (hp : p ≠ g) (u0 u1 u2 u3 u4 u5 u6 u7 u8 u9 u10 : Value) : D.Box (set11V W g u0 u1 u2 u3 u4 u5 u6 u7 u8 u9 u10) p t cs := (((((((((((h.far hp u0).far hp u1).far hp u2).far hp u3).far hp u4).far hp u5).far hp u6).far hp u7).far hp u8).far hp u9).far hp u10)
theorem far_6 {W : World} {p g : Nat} {t : TypeId} {cs : Array Value} (h : D.Box W p t cs) (hp : p ≠ g) (u0 u1 u2 u3 u4 u5 : Value) : D.Box (set6V W g u0 u1 u2 u3 u4 u5) p t cs := ((((((h.far hp u0).far hp u1).far hp u2).far hp u3).far hp u4).far hp u5)
theorem far_C {W : World} {p g : Nat} {t : TypeId} {cs : Array Value} (h : D.Box W p t cs) (hp : p ≠ g) (u0 u1 u2 u3 u4 : Value) : D.Box (setCV W g u0 u1 u2 u3 u4) p t cs := (((((h.far hp u0).far hp u1).far hp u2).far hp u3).far hp u4)
theorem size_11 (W : World) (g : Nat) (u0 u1 u2 u3 u4 u5 u6 u7 u8 u9 u10 : Value) : (set11V W g u0 u1 u2 u3 u4 u5 u6 u7 u8 u9 u10).heap.size = W.heap.size := by simp
section
variable {w w' : World} {g p : Nat} {j : JobZ}
theorem JobAt.frozen (h : JobAt w g j) (k : Nat) : w.frozen? ⟨g, k, none⟩ = false := D.Box.frozen h.2 k
theorem JobAt.block (h : JobAt w g j) (hs : Sole p w.heap.size w w') (hn : g ≠ p) : JobAt w' g j := ⟨h.1, (hs.block g h.lt hn).trans h.2⟩
end
theorem JobAt.set11 {w : World} {g : Nat} {j : JobZ} (h : JobAt w g j) (n : Int) (o : Bool) (a b c d e : BitVec 64) (t ov ca re : Int) :
    JobAt (set11V w g (.int .u32 n) (.bool o) (.int .u64 (U a)) (.int .u64 (U b)) (.int .u64 (U c)) (.int .u64 (U d)) (.int .u64 (U e)) (.int .i64 t) (.int .i64 ov) (.int .i64 ca) (.int .i64 re)) g ⟨n, o, [a, b, c, d, e], t, ov, ca, re⟩ := by
  obtain ⟨n', o', L, t', ov', ca', re'⟩ := j
  obtain ⟨h5, hb⟩ := h
  obtain ⟨a', b', c', d', e', rfl⟩ := list_five h5
  have hb : D.Box w g 28 #[.int .u32 n', .bool o', .int .u64 (U a'), .int .u64 (U b'), .int .u64 (U c'), .int .u64 (U d'), .int .u64 (U e'), .int .i64 t', .int .i64 ov', .int .i64 ca', .int .i64 re'] := hb
  exact ⟨rfl, box_set11 hb _ _ _ _ _ _ _ _ _ _ _⟩
theorem JobAt.setC {w : World} {g : Nat} {n : Int} {o : Bool} {a b c d e : BitVec 64} {t ov ca re : Int} (h : JobAt w g ⟨n, o, [a, b, c, d, e], t, ov, ca, re⟩) (a' b' c' d' e' : BitVec 64) :
    JobAt (setCV w g (.int .u64 (U a')) (.int .u64 (U b')) (.int .u64 (U c')) (.int .u64 (U d')) (.int .u64 (U e'))) g ⟨n, o, [a', b', c', d', e'], t, ov, ca, re⟩ := by
  have hb : D.Box w g 28 #[.int .u32 n, .bool o, .int .u64 (U a), .int .u64 (U b), .int .u64 (U c), .int .u64 (U d), .int .u64 (U e), .int .i64 t, .int .i64 ov, .int .i64 ca, .int .i64 re] := h.2
  exact ⟨rfl, box_setC hb _ _ _ _ _⟩
/-- A wish in memory. -/
def wishC (x : WishZ) : List Value := [.int .u32 x.n, strV x.s, .int .i64 x.t, .int .i64 x.ov, .int .i64 x.ca, .int .i64 x.re]
def wishV (x : WishZ) : Value := .agg (wishC x).toArray
theorem wishV_six (n : Int) (s : List UInt8) (t ov ca re : Int) : wishV ⟨n, s, t, ov, ca, re⟩ = .agg #[.int .u32 n, .string ⟨s.toArray⟩, .int .i64 t, .int .i64 ov, .int .i64 ca, .int .i64 re] := rfl
section
variable {w w' : World} {g p : Nat} {x : WishZ}
end
theorem box_eleven {W : World} {g : Nat} {t : TypeId} {x0 x1 x2 x3 x4 x5 x6 x7 x8 x9 x10 : Value} (h : D.Box W g t #[x0, x1, x2, x3, x4, x5, x6, x7, x8, x9, x10]) : W.cell? ⟨g, 0, none⟩ = some x0 ∧ W.cell? ⟨g, 1, none⟩ = some x1 ∧ W.cell? ⟨g, 2, none⟩ = some x2 ∧ W.cell? ⟨g, 3, none⟩ = some x3 ∧ W.cell? ⟨g, 4, none⟩ = some x4 ∧ W.cell? ⟨g, 5, none⟩ = some x5 ∧ W.cell? ⟨g, 6, none⟩ = some x6 ∧ W.cell? ⟨g, 7, none⟩ = some x7 ∧ W.cell? ⟨g, 8, none⟩ = some x8 ∧ W.cell? ⟨g, 9, none⟩ = some x9 ∧ W.cell? ⟨g, 10, none⟩ = some x10 :=
  ⟨D.Box.cell h 0, D.Box.cell h 1, D.Box.cell h 2, D.Box.cell h 3, D.Box.cell h 4, D.Box.cell h 5, D.Box.cell h 6, D.Box.cell h 7, D.Box.cell h 8, D.Box.cell h 9, D.Box.cell h 10⟩
/-- Rows of wishes that come in. -/
def WishesAt (w : World) (B : Nat) (A : Option Addr) (n : Nat) : Prop := ∀ k, k < n → ∃ b off, ∃ z : WishZ, A = some ⟨b, off, none⟩ ∧ b < B ∧ z.Fit ∧ z.s.length ≤ maxLen ∧ w.cell? ⟨b, off + k * 6, none⟩ = some (.int .u32 z.n) ∧ w.cell? ⟨b, off + k * 6 + 1, none⟩ = some (strV z.s) ∧ w.cell? ⟨b, off + k * 6 + 2, none⟩ = some (.int .i64 z.t) ∧ w.cell? ⟨b, off + k * 6 + 3, none⟩ = some (.int .i64 z.ov) ∧ w.cell? ⟨b, off + k * 6 + 4, none⟩ = some (.int .i64 z.ca) ∧ w.cell? ⟨b, off + k * 6 + 5, none⟩ = some (.int .i64 z.re)
theorem WishesAt.on {w w' : World} {A : Option Addr} {n : Nat} (h : WishesAt w w.heap.size A n) (hb : Below w.heap.size w w') : WishesAt w' w.heap.size A n := fun k hk => by
  obtain ⟨b, off, z, rfl, hlt, hf, hs, c0, c1, c2, c3, c4, c5⟩ := h k hk
  exact ⟨b, off, z, rfl, hlt, hf, hs, (hb.cell (p := ⟨b, _, none⟩) hlt).trans c0, (hb.cell (p := ⟨b, _, none⟩) hlt).trans c1, (hb.cell (p := ⟨b, _, none⟩) hlt).trans c2, (hb.cell (p := ⟨b, _, none⟩) hlt).trans c3, (hb.cell (p := ⟨b, _, none⟩) hlt).trans c4, (hb.cell (p := ⟨b, _, none⟩) hlt).trans c5⟩
/-- Rows of spans that come in. -/
def SpansAt (w : World) (B : Nat) (A : Option Addr) (n : Nat) : Prop := ∀ k, k < n → ∃ b off, ∃ s0 s1 : Int, A = some ⟨b, off, none⟩ ∧ b < B ∧ w.cell? ⟨b, off + k * 2, none⟩ = some (.int .i64 s0) ∧ w.cell? ⟨b, off + k * 2 + 1, none⟩ = some (.int .i64 s1)
theorem SpansAt.on {w w' : World} {A : Option Addr} {n : Nat} (h : SpansAt w w.heap.size A n) (hb : Below w.heap.size w w') : SpansAt w' w.heap.size A n := fun k hk => by
  obtain ⟨b, off, s0, s1, rfl, hlt, c0, c1⟩ := h k hk
  exact ⟨b, off, s0, s1, rfl, hlt, (hb.cell (p := ⟨b, _, none⟩) hlt).trans c0, (hb.cell (p := ⟨b, _, none⟩) hlt).trans c1⟩
end Go.Proofs.YthghcffibljclaaDoor
/- Check of jobs: walked, of the program. -/
namespace Go.Proofs.YthghcffibljclaaDoor
open Go.RowKit

section
variable {ev : List (BitVec 64) → Bool} {j : JobZ}
theorem err_hold (h : holdB j.lims = false) : j.err ev = 200 := by unfold JobZ.err; rw [if_pos h]
theorem err_once (h : holdB j.lims = true) (ho : j.o = true) (hl : j.L = nilF) : j.err ev = 0 := by unfold JobZ.err; rw [if_neg (by rw [h]; simp), if_pos ⟨ho, hl⟩]
theorem err_both (h : holdB j.lims = true) (ho : j.o = true) (hl : j.L ≠ nilF) : j.err ev = 200 := by unfold JobZ.err; rw [if_neg (by rw [h]; simp), if_neg (fun h => hl h.2), if_pos (.inl ho)]
theorem err_cron (h : holdB j.lims = true) (ho : j.o = false) (hl : crB j.L = false) : j.err ev = 200 := by unfold JobZ.err; rw [if_neg (by rw [h]; simp), if_neg (fun h => by rw [ho] at h; cases h.1), if_pos (.inr hl)]
theorem err_never (h : holdB j.lims = true) (ho : j.o = false) (hl : crB j.L = true) (he : ev j.L = false) : j.err ev = 201 := by unfold JobZ.err; rw [if_neg (by rw [h]; simp), if_neg (fun h => by rw [ho] at h; cases h.1), if_neg (fun h => by rw [ho, hl] at h; rcases h with h | h <;> cases h), if_pos he]
theorem err_ever (h : holdB j.lims = true) (ho : j.o = false) (hl : crB j.L = true) (he : ev j.L = true) : j.err ev = 0 := err_is h (.inr ⟨ho, hl, he⟩)
end
theorem five_nil (a b c d e : BitVec 64) :
    (([a, b, c, d, e] : List (BitVec 64)) = nilF ∧ U a = 0 ∧ U b = 0 ∧ U c = 0 ∧ U d = 0 ∧ U e = 0) ∨
    (([a, b, c, d, e] : List (BitVec 64)) ≠ nilF ∧ (¬ U a = 0 ∨ U a = 0 ∧ (¬ U b = 0 ∨ U b = 0 ∧ (¬ U c = 0 ∨ U c = 0 ∧ (¬ U d = 0 ∨ U d = 0 ∧ ¬ U e = 0))))) := by
  rcases five_case a b c d e with ⟨h, h'⟩ | ⟨h, h'⟩
  · exact .inl ⟨by simpa using h, h'⟩
  · exact .inr ⟨by simpa using h, h'⟩
theorem crE_of {L : List (BitVec 64)} {z : Bool} (h : crB L = z) : crE L = if z then 0 else 170 := by unfold crE; rw [h]
set_option maxRecDepth 100000 in
set_option maxHeartbeats 2000000 in
theorem jcheck_any (ev : List (BitVec 64) → Bool) (hev : EvIs ev) (j : JobZ) (w : World) (hL : LaidC w) (hj : j.Fit) :
    Calls Tryd.prog 12 #[jobV j] w fun x w' => x = .returned (.int .i64 (j.err ev)) ∧ Below w.heap.size w w' := by
  have HLIM := Lib.hid (fun W => limits_any j W hj)
  have HHOLD := Lib.hid (fun A c W h => hold_any A c j.lims 5 W rfl (by omega) h)
  have HCK := Lib.hid (fun W hW => ccheck_any j.L W hW hj.2.2)
  have HEV := Lib.hid (fun W hW => ever_any j.L W hW hj.2.2)
  have h1 := Lib.hid (err_hold (ev := ev) (j := j)); have h2 := Lib.hid (err_once (ev := ev) (j := j)); have h3 := Lib.hid (err_both (ev := ev) (j := j))
  have h4 := Lib.hid (err_cron (ev := ev) (j := j)); have h5 := Lib.hid (err_never (ev := ev) (j := j)); have h6 := Lib.hid (err_ever (ev := ev) (j := j))
  have HVE := Lib.hid (hev j.L)
  clear hev
  generalize j.err ev = z at *
  generalize hcb : crB j.L = cb at *
  rw [crE_of hcb] at HCK
  clear hcb
  obtain ⟨n, o, L, t, ov, ca, re⟩ := j
  obtain ⟨n0, n1, hl5⟩ := hj
  simp only at hl5
  obtain ⟨a, b, c, d, e, rfl⟩ := list_five hl5
  obtain ⟨WB, hWB, hb0, hj0, _⟩ := job_new w n o a b c d e t ov ca re
  have HB0 := Lib.hid hb0; have HJ := Lib.hid hj0; have HL := Lib.hid (hL.on hb0)
  have HX0 := Lib.hid (Below.refl WB.heap.size WB)
  have HNIL := Lib.hid (five_nil a b c d e)
  obtain ⟨c0, c1, c2, c3, c4, c5, c6, c7, c8, c9, c10⟩ := hj0.cells
  clear hL hb0 hj0 hl5 n0 n1
  simp only at h1 h2 h3 h4 h5 h6 HCK HEV HVE
  rw [jobV_five] at *
  rw [cronV_five] at *
  unfold fiveV at *
  generalize ev [a, b, c, d, e] = ez at *
  generalize holdB _ = hz at *
  go_enter Tryd.func12, Tryd.ntmps12
  go_wp2_with fail
  rw [← hWB]
  clear hWB
  refine (HLIM.out _).mono ?_
  rintro x w1 ⟨A, cp, rfl, hla, hb⟩
  have HX1 := Lib.hid (HX0.out.trans (hb.mono HX0.out.size))
  have HLA := Lib.hid hla
  clear hb HX0 hla c0 c1 c2 c3 c4 c5 c6 c7 c8 c9 c10
  go_wp2_with fail
  refine (HHOLD.out A cp _ HLA.out).mono ?_
  rintro x w2 ⟨rfl, hb⟩
  have HX2 := Lib.hid (HX1.out.trans (hb.mono HX1.out.size))
  clear hb HX1 HLA
  obtain ⟨c0, c1, c2, c3, c4, c5, c6, c7, c8, c9, c10⟩ := (HJ.out.on HX2.out).cells
  cases hz with
  | false =>
    have HZ := Lib.hid (h1.out (by simp))
    clear h1 h2 h3 h4 h5 h6
    go_wp2_with fail
    go_ret
    exact ⟨by rw [HZ.out]; try rfl, HB0.out.trans (HX2.out.mono HB0.out.size)⟩
  | true =>
    cases o with
    | true =>
      rcases HNIL.out with ⟨hn, u0, u1, u2, u3, u4⟩ | ⟨hn, hcase⟩
      · have HZ := Lib.hid (h2.out (by simp) (by simp) hn)
        clear h1 h2 h3 h4 h5 h6 hn
        go_wp2_with fail
        go_ret
        exact ⟨by rw [HZ.out]; try rfl, HB0.out.trans (HX2.out.mono HB0.out.size)⟩
      · have HZ := Lib.hid (h3.out (by simp) (by simp) hn)
        clear h1 h2 h3 h4 h5 h6 hn
        rcases hcase with u0 | ⟨u0, u1 | ⟨u1, u2 | ⟨u2, u3 | ⟨u3, u4⟩⟩⟩⟩
        all_goals
          go_wp2_with fail
          go_ret
          exact ⟨by rw [HZ.out]; try rfl, HB0.out.trans (HX2.out.mono HB0.out.size)⟩
    | false =>
      go_wp2_with fail
      refine (HCK.out _ (HL.out.on HX2.out).fld).mono ?_
      rintro x w3 ⟨rfl, hb⟩
      have HX3 := Lib.hid (HX2.out.trans (hb.mono HX2.out.size))
      clear hb HX2 c0 c1 c2 c3 c4 c5 c6 c7 c8 c9 c10
      obtain ⟨c0, c1, c2, c3, c4, c5, c6, c7, c8, c9, c10⟩ := (HJ.out.on HX3.out).cells
      cases cb with
      | false =>
        have HZ := Lib.hid (h4.out (by simp) (by simp) (by simp))
        clear h1 h2 h3 h4 h5 h6
        go_wp2_with fail
        go_ret
        exact ⟨by rw [HZ.out]; try rfl, HB0.out.trans (HX3.out.mono HB0.out.size)⟩
      | true =>
        go_wp2_with fail
        refine (HEV.out _ (HL.out.on HX3.out)).mono ?_
        rintro x w4 ⟨z', rfl, hz', hb⟩
        have HX4 := Lib.hid (HX3.out.trans (hb.mono HX3.out.size))
        have hze : z' = ez := by
          have h := hz'.trans HVE.out.symm
          cases z' <;> cases ez <;> simp_all
        subst hze
        clear hb HX3 c0 c1 c2 c3 c4 c5 c6 c7 c8 c9 c10 hz'
        cases z' with
        | false =>
          have HZ := Lib.hid (h5.out (by simp) (by simp) (by simp) (by simp))
          clear h1 h2 h3 h4 h5 h6
          go_wp2_with fail
          go_ret
          exact ⟨by rw [HZ.out]; try rfl, HB0.out.trans (HX4.out.mono HB0.out.size)⟩
        | true =>
          have HZ := Lib.hid (h6.out (by simp) (by simp) (by simp) (by simp))
          clear h1 h2 h3 h4 h5 h6
          go_wp2_with fail
          go_ret
          exact ⟨by rw [HZ.out]; try rfl, HB0.out.trans (HX4.out.mono HB0.out.size)⟩
end Go.Proofs.YthghcffibljclaaDoor
/- Plans, First and Latest: walked, of the program. -/
namespace Go.Proofs.YthghcffibljclaaDoor
open Go.RowKit

/-- What a call tells that tells a time, and whether there is one. -/
def TimeIs (R : Int → Bool → Prop) (x : Ending) : Prop := ∃ (t : Int) (ok : Bool), x = .returned (.tuple #[.int .i64 t, .bool ok]) ∧ R t ok
theorem next_first (L : List (BitVec 64)) (a : Int) (w : World) (hL : LaidC w) (h5 : L.length = 5) :
    Calls Tryd.prog 44 #[cronV L, .int .i64 a] w fun x w' => TimeIs (FirstT (TC L) a) x ∧ Below w.heap.size w w' := by
  refine (next_any L a w hL h5).mono ?_
  rintro x w' ⟨h, hb⟩
  refine ⟨?_, hb⟩
  rcases h with ⟨t, ht, rfl⟩ | ⟨hn, rfl⟩
  · exact ⟨t, true, rfl, firstT_next ht⟩
  · exact ⟨0, false, rfl, firstT_none (TC_times L) (TC_window L) hn⟩
theorem last_latest (L : List (BitVec 64)) (a : Int) (w : World) (hL : LaidC w) (h5 : L.length = 5) :
    Calls Tryd.prog 55 #[cronV L, .int .i64 a] w fun x w' => TimeIs (LastT (TC L) a) x ∧ Below w.heap.size w w' := by
  refine (nlast_any L a w hL h5).mono ?_
  rintro x w' ⟨h, hb⟩
  refine ⟨?_, hb⟩
  rcases h with ⟨t, ht, rfl⟩ | ⟨hn, rfl⟩
  · exact ⟨t, true, rfl, lastT_last ht⟩
  · exact ⟨0, false, rfl, lastT_none (TC_times L) (TC_window L) hn⟩
set_option maxRecDepth 100000 in
theorem told_any (g : Nat) (t : Int) (z : Bool) (w : World) (hc : w.cell? ⟨g, 0, none⟩ = some (.int .i64 t)) :
    Calls Tryd.prog 50 #[.bool z, .pointer (some ⟨g, 0, none⟩)] w fun x w' => x = .returned (.tuple #[.int .i64 (if z = true then t else 0), .bool z]) ∧ w' = w := by
  cases z with
  | true =>
    go_enter Tryd.func50, Tryd.ntmps50
    go_wp2_with fail
    exact bodyPost_ret (v := .tuple #[.int .i64 t, .bool true]) (by simp [results, Tryd.results50, go_sem]) rfl ⟨rfl, rfl⟩
  | false =>
    go_enter Tryd.func50, Tryd.ntmps50
    go_wp2_with fail
    exact bodyPost_ret (v := .tuple #[.int .i64 0, .bool false]) (by simp [results, Tryd.results50, go_sem]) rfl ⟨rfl, rfl⟩
abbrev toldV (g : Nat) : Value := .func (.func 50) #[] #[.pointer (some ⟨g, 0, none⟩)]
set_option maxRecDepth 100000 in
theorem first1_any (g h : Nat) (t a : Int) (w : World) (hc : w.cell? ⟨g, 0, none⟩ = some (.int .i64 t)) (hh : w.cell? ⟨h, 0, none⟩ = some (toldV g)) :
    Calls Tryd.prog 51 #[.int .i64 a, .pointer (some ⟨h, 0, none⟩), .pointer (some ⟨g, 0, none⟩)] w fun x w' => TimeIs (FirstT (fun u => u = t) a) x ∧ w' = w := by
  have hE : ∀ (args : Array Value) (W : World), (callFunc 50 args).run Tryd.prog W = .ok (.enter 50 args) W := enters_of Tryd.func50 (by kernel_rfl) rfl
  unfold toldV at hh
  have hf := firstT_alone t a
  by_cases hr : a < t
  · have HT := Lib.hid (told_any g t true w hc)
    rw [if_pos hr, decide_eq_true hr] at hf
    have HF := Lib.hid hf
    have hd : decide (a < t) = true := decide_eq_true hr
    clear hf
    go_enter Tryd.func51, Tryd.ntmps51
    go_wp2_with fail
    refine HT.out.mono ?_
    rintro x w' ⟨rfl, rfl⟩
    go_wp2_with fail
    exact bodyPost_ret (v := .tuple #[.int .i64 t, .bool true]) (by simp [results, Tryd.results51, go_sem]) rfl ⟨⟨_, _, rfl, HF.out⟩, rfl⟩
  · have HT := Lib.hid (told_any g t false w hc)
    rw [if_neg hr, decide_eq_false hr] at hf
    have HF := Lib.hid hf
    have hd : decide (a < t) = false := decide_eq_false hr
    clear hf
    go_enter Tryd.func51, Tryd.ntmps51
    go_wp2_with fail
    refine HT.out.mono ?_
    rintro x w' ⟨rfl, rfl⟩
    go_wp2_with fail
    exact bodyPost_ret (v := .tuple #[.int .i64 0, .bool false]) (by simp [results, Tryd.results51, go_sem]) rfl ⟨⟨_, _, rfl, HF.out⟩, rfl⟩
set_option maxRecDepth 100000 in
theorem latest1_any (g h : Nat) (t a : Int) (w : World) (hc : w.cell? ⟨g, 0, none⟩ = some (.int .i64 t)) (hh : w.cell? ⟨h, 0, none⟩ = some (toldV g)) :
    Calls Tryd.prog 52 #[.int .i64 a, .pointer (some ⟨h, 0, none⟩), .pointer (some ⟨g, 0, none⟩)] w fun x w' => TimeIs (LastT (fun u => u = t) a) x ∧ w' = w := by
  have hE : ∀ (args : Array Value) (W : World), (callFunc 50 args).run Tryd.prog W = .ok (.enter 50 args) W := enters_of Tryd.func50 (by kernel_rfl) rfl
  unfold toldV at hh
  have hf := lastT_alone t a
  by_cases hr : t ≤ a
  · have HT := Lib.hid (told_any g t true w hc)
    rw [if_pos hr, decide_eq_true hr] at hf
    have HF := Lib.hid hf
    have hd : decide (t ≤ a) = true := decide_eq_true hr
    clear hf
    go_enter Tryd.func52, Tryd.ntmps52
    go_wp2_with fail
    refine HT.out.mono ?_
    rintro x w' ⟨rfl, rfl⟩
    go_wp2_with fail
    exact bodyPost_ret (v := .tuple #[.int .i64 t, .bool true]) (by simp [results, Tryd.results52, go_sem]) rfl ⟨⟨_, _, rfl, HF.out⟩, rfl⟩
  · have HT := Lib.hid (told_any g t false w hc)
    rw [if_neg hr, decide_eq_false hr] at hf
    have HF := Lib.hid hf
    have hd : decide (t ≤ a) = false := decide_eq_false hr
    clear hf
    go_enter Tryd.func52, Tryd.ntmps52
    go_wp2_with fail
    refine HT.out.mono ?_
    rintro x w' ⟨rfl, rfl⟩
    go_wp2_with fail
    exact bodyPost_ret (v := .tuple #[.int .i64 0, .bool false]) (by simp [results, Tryd.results52, go_sem]) rfl ⟨⟨_, _, rfl, HF.out⟩, rfl⟩
set_option maxRecDepth 100000 in
theorem first2_any (g : Nat) (L : List (BitVec 64)) (a : Int) (w : World) (hL : LaidC w) (hc : CronAt w g L) :
    Calls Tryd.prog 53 #[.int .i64 a, .pointer (some ⟨g, 0, none⟩)] w fun x w' => TimeIs (FirstT (TC L) a) x ∧ Below w.heap.size w w' := by
  have HN := Lib.hid (next_first L a w hL hc.1)
  obtain ⟨p, q, r, s, u, rfl⟩ := list_five hc.1
  obtain ⟨c0, c1, c2, c3, c4⟩ := hc.five
  clear hc hL
  rw [cronV_five] at *
  unfold fiveV at *
  go_enter Tryd.func53, Tryd.ntmps53
  go_wp2_with fail
  refine HN.out.mono ?_
  rintro x w' ⟨⟨t, ok, rfl, ht⟩, hb⟩
  have HT := Lib.hid ht; have HB := Lib.hid hb
  clear ht hb
  go_wp2_with fail
  exact bodyPost_ret (v := .tuple #[.int .i64 t, .bool ok]) (by simp [results, Tryd.results53, go_sem]) rfl ⟨⟨_, _, rfl, HT.out⟩, HB.out⟩
set_option maxRecDepth 100000 in
theorem latest2_any (g : Nat) (L : List (BitVec 64)) (a : Int) (w : World) (hL : LaidC w) (hc : CronAt w g L) :
    Calls Tryd.prog 54 #[.int .i64 a, .pointer (some ⟨g, 0, none⟩)] w fun x w' => TimeIs (LastT (TC L) a) x ∧ Below w.heap.size w w' := by
  have HN := Lib.hid (last_latest L a w hL hc.1)
  obtain ⟨p, q, r, s, u, rfl⟩ := list_five hc.1
  obtain ⟨c0, c1, c2, c3, c4⟩ := hc.five
  clear hc hL
  rw [cronV_five] at *
  unfold fiveV at *
  go_enter Tryd.func54, Tryd.ntmps54
  go_wp2_with fail
  refine HN.out.mono ?_
  rintro x w' ⟨⟨t, ok, rfl, ht⟩, hb⟩
  have HT := Lib.hid ht; have HB := Lib.hid hb
  clear ht hb
  go_wp2_with fail
  exact bodyPost_ret (v := .tuple #[.int .i64 t, .bool ok]) (by simp [results, Tryd.results54, go_sem]) rfl ⟨⟨_, _, rfl, HT.out⟩, HB.out⟩
/-- A function value that tells times. -/
def TellsF (R : Int → Int → Bool → Prop) (w : World) (f : Nat) (lb : Array Value) : Prop :=
  (∀ (args : Array Value) (W : World), (callFunc f args).run Tryd.prog W = .ok (.enter f args) W) ∧
  ∀ (a : Int) (W : World), Below w.heap.size w W → Calls Tryd.prog f (#[.int .i64 a] ++ lb) W fun x W' => TimeIs (R a) x ∧ Below W.heap.size W W'
theorem TellsF.on {R : Int → Int → Bool → Prop} {w w' : World} {f : Nat} {lb : Array Value} (h : TellsF R w f lb) (hb : Below w.heap.size w w') : TellsF R w' f lb :=
  ⟨h.1, fun a W hW => h.2 a W (hb.trans (hW.mono hb.size))⟩
/-- What a plan is: two functions that tell a job's times. -/
def PlanIs (T : Int → Prop) (w : World) (v : Value) : Prop := ∃ f g lb lb', v = .agg #[.func (.func f) #[] lb, .func (.func g) #[] lb'] ∧ TellsF (FirstT T) w f lb ∧ TellsF (LastT T) w g lb'
theorem plan_alone {W : World} {g h : Nat} {t : Int} (hg : g < W.heap.size) (hh : h < W.heap.size) (cg : W.cell? ⟨g, 0, none⟩ = some (.int .i64 t)) (ch : W.cell? ⟨h, 0, none⟩ = some (toldV g)) :
    PlanIs (fun u => u = t) W (.agg #[.func (.func 51) #[] #[.pointer (some ⟨h, 0, none⟩), .pointer (some ⟨g, 0, none⟩)], .func (.func 52) #[] #[.pointer (some ⟨h, 0, none⟩), .pointer (some ⟨g, 0, none⟩)]]) := by
  refine ⟨51, 52, _, _, rfl, ⟨enters_of Tryd.func51 (by kernel_rfl) rfl, fun a W' hW => ?_⟩, ⟨enters_of Tryd.func52 (by kernel_rfl) rfl, fun a W' hW => ?_⟩⟩
  · refine Calls.mono (first1_any g h t a W' ((hW.cell (p := ⟨g, 0, none⟩) hg).trans cg) ((hW.cell (p := ⟨h, 0, none⟩) hh).trans ch)) ?_
    rintro x w' ⟨hx, rfl⟩
    exact ⟨hx, Below.refl _ _⟩
  · refine Calls.mono (latest1_any g h t a W' ((hW.cell (p := ⟨g, 0, none⟩) hg).trans cg) ((hW.cell (p := ⟨h, 0, none⟩) hh).trans ch)) ?_
    rintro x w' ⟨hx, rfl⟩
    exact ⟨hx, Below.refl _ _⟩
theorem plan_recurring {W : World} {g : Nat} {L : List (BitVec 64)} (hL : LaidC W) (hc : CronAt W g L) :
    PlanIs (TC L) W (.agg #[.func (.func 53) #[] #[.pointer (some ⟨g, 0, none⟩)], .func (.func 54) #[] #[.pointer (some ⟨g, 0, none⟩)]]) := by
  refine ⟨53, 54, _, _, rfl, ⟨enters_of Tryd.func53 (by kernel_rfl) rfl, fun a W' hW => ?_⟩, ⟨enters_of Tryd.func54 (by kernel_rfl) rfl, fun a W' hW => ?_⟩⟩
  · exact first2_any g L a W' (hL.on hW) (hc.on hW)
  · exact latest2_any g L a W' (hL.on hW) (hc.on hW)
/-- A plan in memory: what its functions have captured lies at or above B. -/
def PlanAt (T : Int → Prop) (B : Nat) (w : World) (u v : Value) : Prop :=
  (∃ (g h : Nat) (t : Int), B ≤ g ∧ B ≤ h ∧ g < w.heap.size ∧ h < w.heap.size ∧ T = (fun u => u = t) ∧ u = .func (.func 51) #[] #[.pointer (some ⟨h, 0, none⟩), .pointer (some ⟨g, 0, none⟩)] ∧ v = .func (.func 52) #[] #[.pointer (some ⟨h, 0, none⟩), .pointer (some ⟨g, 0, none⟩)] ∧ w.cell? ⟨g, 0, none⟩ = some (.int .i64 t) ∧ w.cell? ⟨h, 0, none⟩ = some (toldV g)) ∨
  (∃ (g : Nat) (L : List (BitVec 64)), B ≤ g ∧ T = TC L ∧ u = .func (.func 53) #[] #[.pointer (some ⟨g, 0, none⟩)] ∧ v = .func (.func 54) #[] #[.pointer (some ⟨g, 0, none⟩)] ∧ CronAt w g L)
theorem cell_far {w : World} {g p i : Nat} {x : Value} (h : w.cell? ⟨g, 0, none⟩ = some x) (hn : g ≠ p) (y : Value) : (w.setCell ⟨p, i, none⟩ y).cell? ⟨g, 0, none⟩ = some x := by
  rw [← h]
  simp [World.cell?, Below.heap_setCell w ⟨p, i, none⟩ y g hn]
theorem PlanAt.far {T : Int → Prop} {B p i : Nat} {w : World} {u v : Value} (h : PlanAt T B w u v) (hp : p < B) (y : Value) : PlanAt T B (w.setCell ⟨p, i, none⟩ y) u v := by
  rcases h with ⟨g, h, t, a, b, c, d, e, f, k, l, m⟩ | ⟨g, L, a, b, c, d, e⟩
  · exact .inl ⟨g, h, t, a, b, by simpa using c, by simpa using d, e, f, k, cell_far l (by omega) y, cell_far m (by omega) y⟩
  · exact .inr ⟨g, L, a, b, c, d, e.far (by omega) y⟩
theorem PlanAt.low {T : Int → Prop} {B C : Nat} {w : World} {u v : Value} (h : PlanAt T B w u v) (hc : C ≤ B) : PlanAt T C w u v := by
  rcases h with ⟨g, h, t, a, b, c⟩ | ⟨g, L, a, c⟩
  · exact .inl ⟨g, h, t, by omega, by omega, c⟩
  · exact .inr ⟨g, L, by omega, c⟩
theorem PlanAt.tells {T : Int → Prop} {B : Nat} {w : World} {u v : Value} (h : PlanAt T B w u v) (hL : LaidC w) : PlanIs T w (.agg #[u, v]) := by
  rcases h with ⟨g, h, t, a, b, c, d, rfl, rfl, rfl, l, m⟩ | ⟨g, L, a, rfl, rfl, rfl, e⟩
  · exact plan_alone c d l m
  · exact plan_recurring hL e
set_option maxRecDepth 100000 in
theorem alone_any (t : Int) (w : World) :
    Calls Tryd.prog 40 #[.int .i64 t] w fun x w' => ∃ f g l l', x = .returned (.agg #[.func f #[] l, .func g #[] l']) ∧ PlanAt (fun u => u = t) w.heap.size w' (.func f #[] l) (.func g #[] l') ∧ Below w.heap.size w w' := by
  go_enter Tryd.func40, Tryd.ntmps40
  go_wp2_with fail
  refine bodyPost_ret (v := .agg #[.func (.func 51) #[] #[.pointer (some ⟨w.heap.size + 1 + 1, 0, none⟩), .pointer (some ⟨w.heap.size, 0, none⟩)], .func (.func 52) #[] #[.pointer (some ⟨w.heap.size + 1 + 1, 0, none⟩), .pointer (some ⟨w.heap.size, 0, none⟩)]]) (by simp [results, Tryd.results40, go_sem]) rfl ⟨_, _, _, _, rfl, .inl ⟨w.heap.size, w.heap.size + 1 + 1, t, Nat.le_refl _, by omega, ?_, ?_, rfl, rfl, rfl, ?_, ?_⟩, ?_⟩
  · simp; omega
  · simp
  · exact D.Box.cell (((D.Box.new w 2 #[.int .i64 t]).alloc _).alloc _) 0
  · have hbx := D.Box.new ((w.alloc (.cells #[.int .i64 t] 2)).alloc (.cells #[.func (.func 51) #[] #[.pointer (some ⟨w.heap.size + 1 + 1, 0, none⟩), .pointer (some ⟨w.heap.size, 0, none⟩)], .func (.func 52) #[] #[.pointer (some ⟨w.heap.size + 1 + 1, 0, none⟩), .pointer (some ⟨w.heap.size, 0, none⟩)]] 75)) 105 #[toldV w.heap.size]
    rw [World.size_alloc, World.size_alloc] at hbx
    exact D.Box.cell hbx 0
  · exact (((Below.refl _ w).alloc (Nat.le_refl _) _).alloc (by simp) _).alloc (by simp; omega) _
set_option maxRecDepth 100000 in
theorem recurring_any (L : List (BitVec 64)) (w : World) (h5 : L.length = 5) :
    Calls Tryd.prog 41 #[cronV L] w fun x w' => ∃ f g l l', x = .returned (.agg #[.func f #[] l, .func g #[] l']) ∧ PlanAt (TC L) w.heap.size w' (.func f #[] l) (.func g #[] l') ∧ Below w.heap.size w w' := by
  obtain ⟨p, q, r, s, u, rfl⟩ := list_five h5
  rw [cronV_five] at *
  unfold fiveV at *
  clear h5
  go_enter Tryd.func41, Tryd.ntmps41
  go_wp2_with fail
  refine bodyPost_ret (v := .agg #[.func (.func 53) #[] #[.pointer (some ⟨w.heap.size, 0, none⟩)], .func (.func 54) #[] #[.pointer (some ⟨w.heap.size, 0, none⟩)]]) (by simp [results, Tryd.results41, go_sem]) rfl ⟨_, _, _, _, rfl, .inr ⟨w.heap.size, _, Nat.le_refl _, rfl, rfl, rfl, (CronAt.new w p q r s u).alloc _⟩, ((Below.refl _ w).alloc (Nat.le_refl _) _).alloc (by simp) _⟩
end Go.Proofs.YthghcffibljclaaDoor
/- planOf, First and Latest: walked, of the program. -/
namespace Go.Proofs.YthghcffibljclaaDoor
open Go.RowKit

/-- The times of a job, if it may be. -/
def JobZ.TT (ev : List (BitVec 64) → Bool) (j : JobZ) (u : Int) : Prop := j.err ev = 0 ∧ j.T u
theorem TT_ok {ev : List (BitVec 64) → Bool} {j : JobZ} (h : j.err ev = 0) : j.TT ev = j.T := by funext u; unfold JobZ.TT; simp [h]
theorem TT_bad {ev : List (BitVec 64) → Bool} {j : JobZ} (h : j.err ev ≠ 0) (u : Int) : ¬ j.TT ev u := fun hu => h hu.1
theorem first_bad {ev : List (BitVec 64) → Bool} {j : JobZ} (h : j.err ev ≠ 0) (a : Int) : FirstT (j.TT ev) a 0 false := .inr ⟨rfl, rfl, fun u hu => absurd hu (TT_bad h u)⟩
theorem latest_bad {ev : List (BitVec 64) → Bool} {j : JobZ} (h : j.err ev ≠ 0) (a : Int) : LastT (j.TT ev) a 0 false := .inr ⟨rfl, rfl, fun u hu => absurd hu (TT_bad h u)⟩
theorem box_two {W : World} {g : Nat} {t : TypeId} {x y : Value} (h : D.Box W g t #[x, y]) : W.cell? ⟨g, 0, none⟩ = some x ∧ W.cell? ⟨g, 1, none⟩ = some y ∧ W.frozen? ⟨g, 0, none⟩ = false ∧ W.frozen? ⟨g, 1, none⟩ = false := ⟨h.cell 0, h.cell 1, h.frozen 0, h.frozen 1⟩
/-- What planOf tells: the plan, or why there is none. -/
def PlanOk (T : Int → Prop) (z : Int) (w : World) (u v : Value) : Prop := (z = 0 → PlanIs T w (.agg #[u, v])) ∧ (z ≠ 0 → u = .nilFunc ∧ v = .nilFunc)
theorem box_set2' {W : World} {g : Nat} {t : TypeId} {x y : Value} (h : D.Box W g t #[x, y]) (u v : Value) : D.Box ((W.setCell ⟨g, 0, none⟩ u).setCell ⟨g, 1, none⟩ v) g t #[u, v] := by
  have h0 : D.Box _ g t #[u, y] := h.set 0 u
  have h1 : D.Box _ g t #[u, v] := h0.set 1 v
  exact h1
set_option maxRecDepth 100000 in
set_option maxHeartbeats 1000000 in
theorem planOf_any (ev : List (BitVec 64) → Bool) (hev : EvIs ev) (j : JobZ) (w : World) (hL : LaidC w) (hj : j.Fit) :
    Calls Tryd.prog 25 #[jobV j] w fun x w' => ∃ u v, x = .returned (.tuple #[.agg #[u, v], .int .i64 (j.err ev)]) ∧ PlanOk j.T (j.err ev) w' u v ∧ Below w.heap.size w w' := by
  have HCK := Lib.hid (fun W hW => jcheck_any ev hev j W hW hj)
  have hT1 := Lib.hid (T_once (j := j)); have hT2 := Lib.hid (T_cron (j := j))
  have HAL := Lib.hid (fun W => alone_any j.t W)
  have HRE := Lib.hid (fun W => recurring_any j.L W hj.2.2)
  clear hev
  generalize j.err ev = z at *
  generalize j.T = TJ at *
  obtain ⟨n, o, L, t, ov, ca, re⟩ := j
  obtain ⟨n0, n1, hl5⟩ := hj
  simp only at hl5
  obtain ⟨a, b, c, d, e, rfl⟩ := list_five hl5
  simp only at hT1 hT2 HAL HRE
  obtain ⟨W0, hW0, hb0, hj0, hs0⟩ := job_new w n o a b c d e t ov ca re
  have HB0 := Lib.hid hb0; have HJ := Lib.hid hj0; have HL := Lib.hid (hL.on hb0); have HLW := Lib.hid hL
  rw [jobV_five] at *
  rw [cronV_five] at *
  unfold fiveV at *
  clear hL hb0 hj0 hl5 n0 n1
  go_enter Tryd.func25, Tryd.ntmps25
  go_wp2_with fail
  rw [← hW0]
  clear hW0
  obtain ⟨W1, hW1, hb1, hx1, hs1⟩ : ∃ W : World, W = W0.alloc (.cells #[.nilFunc, .nilFunc] 75) ∧ Below w.heap.size w W ∧ D.Box W (w.heap.size + 1) 75 #[.nilFunc, .nilFunc] ∧ W.heap.size = w.heap.size + 2 := by
    refine ⟨_, rfl, HB0.out.alloc HB0.out.size _, ?_, by simp [hs0]⟩
    have := D.Box.new W0 75 #[.nilFunc, .nilFunc]
    rwa [hs0] at this
  have HJ1 : Hid (JobAt W1 w.heap.size ⟨n, o, [a, b, c, d, e], t, ov, ca, re⟩) := Lib.hid (by rw [hW1]; exact HJ.out.alloc _)
  have HB1 := Lib.hid hb1; have HX1 := Lib.hid hx1; have HL1 : Hid (LaidC W1) := Lib.hid (by rw [hW1]; exact HL.out.on ((Below.refl _ W0).alloc (Nat.le_refl _) _))
  rw [← hW1]
  clear hW1 hb1 hx1 HB0 HJ HL
  refine (HCK.out _ HL1.out).mono ?_
  rintro x w2 ⟨rfl, hb⟩
  have HB2 := Lib.hid (HB1.out.trans (hb.mono HB1.out.size)); have HJ2 := Lib.hid (HJ1.out.on hb); have HX2 := Lib.hid (D.Box.belowAll HX1.out hb)
  have hs2 : w.heap.size + 2 ≤ w2.heap.size := by have := hb.size; omega
  clear hb HB1 HX1 HJ1 HL1 HCK hs1 hs0
  obtain ⟨c0, c1, c2, c3, c4, c5, c6, c7, c8, c9, c10⟩ := HJ2.out.cells
  by_cases hz : z = 0
  · subst hz
    cases o with
    | true =>
      have HT := Lib.hid (hT1.out rfl)
      clear hT1 hT2
      go_wp2_with fail
      refine (HAL.out _).mono ?_
      rintro x w3 ⟨f, g, l, l', rfl, hp, hb⟩
      have HP := Lib.hid (hp.low hs2)
      have HX3 := Lib.hid (D.Box.belowAll HX2.out hb)
      have HB3 := Lib.hid (HB2.out.trans (hb.mono HB2.out.size))
      obtain ⟨x0, x1, f0, f1⟩ := box_two HX3.out
      clear hb hp c0 c1 c2 c3 c4 c5 c6 c7 c8 c9 c10
      go_wp2_with fail
      have hbf := (HB3.out.setCell (p := ⟨w.heap.size + 1, 0, none⟩) (Nat.le_succ _) (.func f #[] l)).setCell (p := ⟨w.heap.size + 1, 1, none⟩) (Nat.le_succ _) (.func g #[] l')
      obtain ⟨y0, y1, _⟩ := box_two (box_set2' HX3.out (.func f #[] l) (.func g #[] l'))
      exact bodyPost_ret (v := .tuple #[.agg #[.func f #[] l, .func g #[] l'], .int .i64 0]) (by simp [results, Tryd.results25, go_sem, y0, y1]) rfl ⟨_, _, rfl, ⟨(fun _ => by rw [HT.out]; exact ((HP.out.far (by omega) _).far (by omega) _).tells (HLW.out.on hbf)), (fun h => absurd rfl h)⟩, hbf⟩
    | false =>
      have HT := Lib.hid (hT2.out rfl)
      clear hT1 hT2
      go_wp2_with fail
      refine (HRE.out _).mono ?_
      rintro x w3 ⟨f, g, l, l', rfl, hp, hb⟩
      have HP := Lib.hid (hp.low hs2)
      have HX3 := Lib.hid (D.Box.belowAll HX2.out hb)
      have HB3 := Lib.hid (HB2.out.trans (hb.mono HB2.out.size))
      obtain ⟨x0, x1, f0, f1⟩ := box_two HX3.out
      clear hb hp c0 c1 c2 c3 c4 c5 c6 c7 c8 c9 c10
      go_wp2_with fail
      have hbf := (HB3.out.setCell (p := ⟨w.heap.size + 1, 0, none⟩) (Nat.le_succ _) (.func f #[] l)).setCell (p := ⟨w.heap.size + 1, 1, none⟩) (Nat.le_succ _) (.func g #[] l')
      obtain ⟨y0, y1, _⟩ := box_two (box_set2' HX3.out (.func f #[] l) (.func g #[] l'))
      exact bodyPost_ret (v := .tuple #[.agg #[.func f #[] l, .func g #[] l'], .int .i64 0]) (by simp [results, Tryd.results25, go_sem, y0, y1]) rfl ⟨_, _, rfl, ⟨(fun _ => by rw [HT.out]; exact ((HP.out.far (by omega) _).far (by omega) _).tells (HLW.out.on hbf)), (fun h => absurd rfl h)⟩, hbf⟩
  · have hz1 : (z != 0) = true := by simpa using hz
    obtain ⟨x0, x1, f0, f1⟩ := box_two HX2.out
    go_wp2_with fail
    have hbf := (HB2.out.setCell (p := ⟨w.heap.size + 1, 0, none⟩) (Nat.le_succ _) .nilFunc).setCell (p := ⟨w.heap.size + 1, 1, none⟩) (Nat.le_succ _) .nilFunc
    obtain ⟨y0, y1, _⟩ := box_two (box_set2' HX2.out .nilFunc .nilFunc)
    exact bodyPost_ret (v := .tuple #[.agg #[.nilFunc, .nilFunc], .int .i64 z]) (by simp [results, Tryd.results25, go_sem, y0, y1]) rfl ⟨_, _, rfl, ⟨(fun h => absurd h hz), (fun _ => ⟨rfl, rfl⟩)⟩, hbf⟩
set_option maxRecDepth 100000 in
set_option maxHeartbeats 1000000 in
theorem jfirst_any (ev : List (BitVec 64) → Bool) (hev : EvIs ev) (j : JobZ) (s : Int) (w : World) (hL : LaidC w) (hj : j.Fit) :
    Calls Tryd.prog 11 #[jobV j, .int .i64 s] w fun x w' => TimeIs (FirstT (j.TT ev) s) x ∧ Below w.heap.size w w' := by
  have HPL := Lib.hid (fun W hW => planOf_any ev hev j W hW hj)
  have HBAD := Lib.hid (fun h => first_bad (ev := ev) (j := j) h s)
  have HOK := Lib.hid (TT_ok (ev := ev) (j := j))
  clear hev
  generalize j.TT ev = TT at *
  generalize j.err ev = z at *
  generalize j.T = TJ at *
  obtain ⟨n, o, L, t, ov, ca, re⟩ := j
  obtain ⟨n0, n1, hl5⟩ := hj
  simp only at hl5
  obtain ⟨a, b, c, d, e, rfl⟩ := list_five hl5
  obtain ⟨W0, hW0, hb0, hj0, hs0⟩ := job_new w n o a b c d e t ov ca re
  have HB0 := Lib.hid hb0; have HL := Lib.hid (hL.on hb0)
  rw [jobV_five] at *
  obtain ⟨c0, c1, c2, c3, c4, c5, c6, c7, c8, c9, c10⟩ := hj0.cells
  clear hL hb0 hj0 hl5 n0 n1
  go_enter Tryd.func11, Tryd.ntmps11
  go_wp2_with fail
  rw [← hW0]
  clear hW0
  refine (HPL.out _ HL.out).mono ?_
  rintro x w2 ⟨u, v, rfl, ⟨hp, hno⟩, hb⟩
  have HB2 := Lib.hid (HB0.out.trans (hb.mono HB0.out.size)); have HP := Lib.hid hp
  clear hb hp HPL HL HB0 c0 c1 c2 c3 c4 c5 c6 c7 c8 c9 c10
  have HB3 := Lib.hid (HB2.out.alloc HB2.out.size (.cells #[u, v] 75))
  by_cases hz : z = 0
  · subst hz
    obtain ⟨f, g, lb, lb', e0, hf, hg⟩ := HP.out rfl
    have e0 := congrArg (fun v : Value => v.cells.toList) e0
    simp only [Value.cells, List.cons.injEq, and_true] at e0
    obtain ⟨rfl, rfl⟩ := e0
    have hE := hf.1
    have HF := Lib.hid (hf.2 s _ ((Below.refl _ w2).alloc (Nat.le_refl _) (.cells #[.func (.func f) #[] lb, .func (.func g) #[] lb'] 75)))
    have HO := Lib.hid (HOK.out rfl)
    clear hf hg
    go_wp2_with fail
    refine HF.out.mono ?_
    rintro x w3 ⟨⟨y, ok, rfl, ht⟩, hb⟩
    have HB4 := Lib.hid (HB3.out.trans (hb.mono HB3.out.size)); have HT := Lib.hid ht
    clear hb ht
    go_wp2_with fail
    exact bodyPost_ret (v := .tuple #[.int .i64 y, .bool ok]) (by simp [results, Tryd.results11, go_sem]) rfl ⟨⟨_, _, rfl, by rw [HO.out]; exact HT.out⟩, HB4.out⟩
  · have hz1 : (z != 0) = true := by simpa using hz
    have HF := Lib.hid (HBAD.out hz)
    obtain ⟨rfl, rfl⟩ := hno hz
    go_wp2_with fail
    exact bodyPost_ret (v := .tuple #[.int .i64 0, .bool false]) (by simp [results, Tryd.results11, go_sem]) rfl ⟨⟨_, _, rfl, HF.out⟩, HB3.out⟩
set_option maxRecDepth 100000 in
set_option maxHeartbeats 1000000 in
theorem jlatest_any (ev : List (BitVec 64) → Bool) (hev : EvIs ev) (j : JobZ) (s : Int) (w : World) (hL : LaidC w) (hj : j.Fit) :
    Calls Tryd.prog 16 #[jobV j, .int .i64 s] w fun x w' => TimeIs (LastT (j.TT ev) s) x ∧ Below w.heap.size w w' := by
  have HPL := Lib.hid (fun W hW => planOf_any ev hev j W hW hj)
  have HBAD := Lib.hid (fun h => latest_bad (ev := ev) (j := j) h s)
  have HOK := Lib.hid (TT_ok (ev := ev) (j := j))
  clear hev
  generalize j.TT ev = TT at *
  generalize j.err ev = z at *
  generalize j.T = TJ at *
  obtain ⟨n, o, L, t, ov, ca, re⟩ := j
  obtain ⟨n0, n1, hl5⟩ := hj
  simp only at hl5
  obtain ⟨a, b, c, d, e, rfl⟩ := list_five hl5
  obtain ⟨W0, hW0, hb0, hj0, hs0⟩ := job_new w n o a b c d e t ov ca re
  have HB0 := Lib.hid hb0; have HL := Lib.hid (hL.on hb0)
  rw [jobV_five] at *
  obtain ⟨c0, c1, c2, c3, c4, c5, c6, c7, c8, c9, c10⟩ := hj0.cells
  clear hL hb0 hj0 hl5 n0 n1
  go_enter Tryd.func16, Tryd.ntmps16
  go_wp2_with fail
  rw [← hW0]
  clear hW0
  refine (HPL.out _ HL.out).mono ?_
  rintro x w2 ⟨u, v, rfl, ⟨hp, hno⟩, hb⟩
  have HB2 := Lib.hid (HB0.out.trans (hb.mono HB0.out.size)); have HP := Lib.hid hp
  clear hb hp HPL HL HB0 c0 c1 c2 c3 c4 c5 c6 c7 c8 c9 c10
  have HB3 := Lib.hid (HB2.out.alloc HB2.out.size (.cells #[u, v] 75))
  by_cases hz : z = 0
  · subst hz
    obtain ⟨f, g, lb, lb', e0, hf, hg⟩ := HP.out rfl
    have e0 := congrArg (fun v : Value => v.cells.toList) e0
    simp only [Value.cells, List.cons.injEq, and_true] at e0
    obtain ⟨rfl, rfl⟩ := e0
    have hE := hg.1
    have HF := Lib.hid (hg.2 s _ ((Below.refl _ w2).alloc (Nat.le_refl _) (.cells #[.func (.func f) #[] lb, .func (.func g) #[] lb'] 75)))
    have HO := Lib.hid (HOK.out rfl)
    clear hf hg
    go_wp2_with fail
    refine HF.out.mono ?_
    rintro x w3 ⟨⟨y, ok, rfl, ht⟩, hb⟩
    have HB4 := Lib.hid (HB3.out.trans (hb.mono HB3.out.size)); have HT := Lib.hid ht
    clear hb ht
    go_wp2_with fail
    exact bodyPost_ret (v := .tuple #[.int .i64 y, .bool ok]) (by simp [results, Tryd.results16, go_sem]) rfl ⟨⟨_, _, rfl, by rw [HO.out]; exact HT.out⟩, HB4.out⟩
  · have hz1 : (z != 0) = true := by simpa using hz
    have HF := Lib.hid (HBAD.out hz)
    obtain ⟨rfl, rfl⟩ := hno hz
    go_wp2_with fail
    exact bodyPost_ret (v := .tuple #[.int .i64 0, .bool false]) (by simp [results, Tryd.results16, go_sem]) rfl ⟨⟨_, _, rfl, HF.out⟩, HB3.out⟩
end Go.Proofs.YthghcffibljclaaDoor
/- From one time to the next one; Times and Idle: walked, of the program. -/
namespace Go.Proofs.YthghcffibljclaaDoor
open Go.RowKit

theorem PlanIs.on {T : Int → Prop} {w w' : World} {v : Value} (h : PlanIs T w v) (hb : Below w.heap.size w w') : PlanIs T w' v := by
  obtain ⟨f, g, l, l', e, hf, hg⟩ := h
  exact ⟨f, g, l, l', e, hf.on hb, hg.on hb⟩
theorem plan_span (w : World) (u v : Value) (s0 s1 : Int) : ∃ W : World, W = (w.alloc (.cells #[u, v] 75)).alloc (.cells #[.int .i64 s0, .int .i64 s1] 55) ∧ Below w.heap.size w W ∧ D.Box W w.heap.size 75 #[u, v] ∧ D.Box W (w.heap.size + 1) 55 #[.int .i64 s0, .int .i64 s1] ∧ W.heap.size = w.heap.size + 2 := by
  refine ⟨_, rfl, ((Below.refl _ w).alloc (Nat.le_refl _) _).alloc (by simp) _, (D.Box.new _ _ _).alloc _, ?_, by simp⟩
  have := D.Box.new (w.alloc (.cells #[u, v] 75)) 55 #[.int .i64 s0, .int .i64 s1]
  rwa [World.size_alloc] at this
set_option maxRecDepth 100000 in
set_option maxHeartbeats 1000000 in
theorem within_any (T : Int → Prop) (u v : Value) (s0 s1 : Int) (mm : Nat) (w : World) (hm : mm ≤ 64) (hp : PlanIs T w (.agg #[u, v])) :
    Calls Tryd.prog 30 #[.agg #[u, v], spanV s0 s1, .int .i64 (mm : Int)] w fun x w' => ∃ (y : Value) (l : List Int), x = .returned y ∧ w'.ownsRow w.heap.size 2 1 y l.length (l.map int1) ∧ Chain T s0 s1 mm l ∧ Below w.heap.size w w' := by
  obtain ⟨f, g, lb, lb', e0, hf, hg⟩ := hp
  have e0 := congrArg (fun v : Value => v.cells.toList) e0
  simp only [Value.cells, List.cons.injEq, and_true] at e0
  obtain ⟨rfl, rfl⟩ := e0
  obtain ⟨WB, hWB, hb0, hx0, hy0, hs0⟩ := plan_span w (.func (.func f) #[] lb) (.func (.func g) #[] lb') s0 s1
  have HB := Lib.hid hb0; have HX := Lib.hid hx0; have HY := Lib.hid hy0
  have hE := hf.1
  have HF := Lib.hid ((hf.on hb0).2)
  obtain ⟨x0, x1, _⟩ := box_two hx0
  obtain ⟨e0, e1⟩ := two_box hy0
  unfold spanV
  clear hf hg hb0 hx0 hy0
  go_enter Tryd.func30, Tryd.ntmps30
  go_wp2_with fail
  go_step3
  go_wp2_with fail
  go_step3
  go_wp2_with fail
  rw [← hWB]
  clear hWB x0 x1 e0 e1
  obtain ⟨i0, hi, hz0, hz1, hz2⟩ := info_parts info_i64
  go_loopw [7, 8, 14] (fun v at_ i wr => ∃ (k : Nat) (l : List Int) (u : Int), k ≤ mm ∧ i = .int .i64 (k : Int) ∧ at_ = .int .i64 u ∧ l.length = k ∧ wr.ownsRow WB.heap.size 2 1 v l.length (l.map int1) ∧ Hid (∀ r, Chain T u s1 (mm - k) r → Chain T s0 s1 mm (l ++ r)) ∧ Below WB.heap.size WB wr) (fun _ _ i _ => mm - (intOf i).toNat)
  case atStart => exact ⟨0, [], s0, Nat.zero_le _, rfl, rfl, rfl, World.ownsRow_nil _ _ _ _, Lib.hid (fun r h => h), Below.refl _ _⟩
  case round =>
    obtain ⟨k, l, u, hk, rfl, rfl, hlen, hrow, HCH, hb⟩ := hrel
    have HROW := Lib.hid hrow; have HBR := Lib.hid hb
    by_cases hlt : k < mm
    · obtain ⟨x0, x1, _⟩ := box_two (D.Box.belowAll HX.out hb)
      have HN := Lib.hid (HF.out u wr hb)
      clear hrow hb
      go_wp2_with fail
      refine HN.out.mono ?_
      rintro x w2 ⟨⟨t, ok, rfl, ht⟩, hb⟩
      have HB2 := Lib.hid (HBR.out.trans (hb.mono HBR.out.size))
      have HROW2 := Lib.hid (own_below HROW.out hb)
      clear hb HROW HBR HN x0 x1
      obtain ⟨e0, e1⟩ := two_box (D.Box.belowAll HY.out HB2.out)
      obtain ⟨j, hj⟩ : ∃ j, mm - k = j + 1 := ⟨mm - k - 1, by omega⟩
      cases ok with
      | false =>
        have HFI := Lib.hid (HCH.out [] (by rw [hj]; exact chainT_stop ht))
        clear ht HCH
        go_wp2_with fail
        rw [Exit.noGoto_ret]
        go_ret
        exact ⟨_, l, rfl, own_low HROW2.out (by omega), by simpa using HFI.out, HB.out.trans (HB2.out.mono HB.out.size)⟩
      | true =>
        by_cases hts : s1 < t
        · have hd : decide (s1 < t) = true := decide_eq_true hts
          have HFI := Lib.hid (HCH.out [] (by rw [hj]; exact chainT_past ht hts))
          clear ht HCH
          go_wp2_with fail
          rw [Exit.noGoto_ret]
          go_ret
          exact ⟨_, l, rfl, own_low HROW2.out (by omega), by simpa using HFI.out, HB.out.trans (HB2.out.mono HB.out.size)⟩
        · have hd : decide (s1 < t) = false := decide_eq_false hts
          have HFI : Hid (∀ r, Chain T t s1 (mm - (k + 1)) r → Chain T s0 s1 mm ((l ++ [t]) ++ r)) := Lib.hid (fun r hr => by
            rw [List.append_assoc]
            refine HCH.out _ ?_
            rw [hj]
            exact chainT_next ht (by omega) (by rw [show mm - (k + 1) = j by omega] at hr; exact hr))
          clear ht HCH
          have hrow := HROW2.out
          have hle := HB2.out.size
          have hll : l.length ≤ 64 := by omega
          go_wp2_with (at_builtin; refine wpList_append_own _ rfl _ _ 31 rfl WB.heap.size 2 i0 (.int .i64 0) 1 8 Tryd.underlying31 hi hz0 hz1 hz2 rfl (by decide) _ _ _ rfl (hrow.alloc _) ⟨w2.heap.size, 0, none⟩ 1 1 [.int .i64 t] rfl rfl (cell_one_new _ _ _) (by simp [Value.oneCell']) (by unfold maxLen; omega) (by omega) (by simp; omega) ?_; intro v' w5 hown5 hgrow5 _)
          go_roundw
          case rel =>
            exact ⟨k + 1, l ++ [t], t, by omega, by go_num, rfl, by simp; omega, by simpa [int1] using hown5, HFI, (HB2.out.alloc hle (.cells #[.int .i64 t] 2)).grown hgrow5 (by simp; omega) (fun j e => (hrow.lt j e).1)⟩
          case measure => simp [intOf]; omega
    · have hkm : k = mm := by omega
      have HFI : Hid (Chain T s0 s1 mm l) := Lib.hid (by
        have := HCH.out [] (by rw [hkm, Nat.sub_self]; exact chainT_zero _ _ _)
        simpa using this)
      clear HCH hrow hb
      go_wp2_with fail
      rw [Exit.noGoto_ret]
      go_ret
      exact ⟨_, l, rfl, own_low HROW.out (by omega), by simpa using HFI.out, HB.out.trans (HBR.out.mono HB.out.size)⟩
/-- What Times comes to. -/
def TimesIs (ev : List (BitVec 64) → Bool) (j : JobZ) (s0 s1 most : Int) (B : Nat) (x : Ending) (w' : World) : Prop :=
  (j.err ev ≠ 0 ∧ x = .returned (.tuple #[.slice none 0 0, .int .i64 (j.err ev)])) ∨
  (j.err ev = 0 ∧ (most < 0 ∨ 64 < most) ∧ x = .returned (.tuple #[.slice none 0 0, .int .i64 2])) ∨
  (j.err ev = 0 ∧ 0 ≤ most ∧ most ≤ 64 ∧ ∃ (y : Value) (l : List Int), x = .returned (.tuple #[y, .int .i64 0]) ∧ w'.ownsRow B 2 1 y l.length (l.map int1) ∧ Chain j.T s0 s1 most.toNat l)
theorem lim_new {W : World} {ty : TypeId} {g : Nat} (n lo hi : Int) (hg : g = W.heap.size) : LimsAt (W.alloc (.cells #[.int .i64 n, .int .i64 lo, .int .i64 hi] ty)) (some ⟨g, 0, none⟩) [(n, lo, hi)] := by
  subst hg
  have hb := D.Box.new W ty #[.int .i64 n, .int .i64 lo, .int .i64 hi]
  intro k x hx
  have hk := (List.getElem?_eq_some_iff.1 hx).1
  have hk0 : k = 0 := by simpa using hk
  subst hk0
  cases hx
  exact ⟨_, rfl, D.Box.lt hb, D.Box.cell hb 0, D.Box.cell hb 1, D.Box.cell hb 2⟩
theorem job_span (w : World) (n : Int) (o : Bool) (a b c d e : BitVec 64) (t ov ca re s0 s1 : Int) : ∃ W : World, W = (w.alloc (.cells #[.int .u32 n, .bool o, .int .u64 (U a), .int .u64 (U b), .int .u64 (U c), .int .u64 (U d), .int .u64 (U e), .int .i64 t, .int .i64 ov, .int .i64 ca, .int .i64 re] 28)).alloc (.cells #[.int .i64 s0, .int .i64 s1] 55) ∧ Below w.heap.size w W ∧ JobAt W w.heap.size ⟨n, o, [a, b, c, d, e], t, ov, ca, re⟩ ∧ D.Box W (w.heap.size + 1) 55 #[.int .i64 s0, .int .i64 s1] ∧ W.heap.size = w.heap.size + 2 := by
  refine ⟨_, rfl, ((Below.refl _ w).alloc (Nat.le_refl _) _).alloc (by simp) _, (JobAt.new w n o a b c d e t ov ca re).alloc _, ?_, by simp⟩
  have := D.Box.new (w.alloc (.cells #[.int .u32 n, .bool o, .int .u64 (U a), .int .u64 (U b), .int .u64 (U c), .int .u64 (U d), .int .u64 (U e), .int .i64 t, .int .i64 ov, .int .i64 ca, .int .i64 re] 28)) 55 #[.int .i64 s0, .int .i64 s1]
  rwa [World.size_alloc] at this
set_option maxRecDepth 100000 in
set_option maxHeartbeats 1000000 in
theorem jtimes_any (ev : List (BitVec 64) → Bool) (hev : EvIs ev) (j : JobZ) (s0 s1 most : Int) (w : World) (hL : LaidC w) (hj : j.Fit) :
    Calls Tryd.prog 13 #[jobV j, spanV s0 s1, .int .i64 most] w fun x w' => TimesIs ev j s0 s1 most w.heap.size x w' ∧ Below w.heap.size w w' := by
  have HPL := Lib.hid (fun W hW => planOf_any ev hev j W hW hj)
  have hT1 : Hid (j.err ev ≠ 0 → ∀ x w', x = .returned (.tuple #[.slice none 0 0, .int .i64 (j.err ev)]) → TimesIs ev j s0 s1 most w.heap.size x w') := Lib.hid (fun h x w' hx => .inl ⟨h, hx⟩)
  have hT2 : Hid (j.err ev = 0 → (most < 0 ∨ 64 < most) → ∀ x w', x = .returned (.tuple #[.slice none 0 0, .int .i64 2]) → TimesIs ev j s0 s1 most w.heap.size x w') := Lib.hid (fun h hm x w' hx => .inr (.inl ⟨h, hm, hx⟩))
  have hT3 : Hid (j.err ev = 0 → 0 ≤ most → most ≤ 64 → ∀ x w' (y : Value) (l : List Int), x = .returned (.tuple #[y, .int .i64 0]) → w'.ownsRow w.heap.size 2 1 y l.length (l.map int1) → Chain j.T s0 s1 most.toNat l → TimesIs ev j s0 s1 most w.heap.size x w') := Lib.hid (fun h m0 m1 x w' y l hx hr hc => .inr (.inr ⟨h, m0, m1, y, l, hx, hr, hc⟩))
  clear hev
  generalize TimesIs ev j s0 s1 most w.heap.size = TI at *
  generalize j.err ev = z at *
  generalize j.T = TJ at *
  obtain ⟨n, o, L, t, ov, ca, re⟩ := j
  obtain ⟨n0, n1, hl5⟩ := hj
  simp only at hl5
  obtain ⟨a, b, c, d, e, rfl⟩ := list_five hl5
  obtain ⟨W0, hW0, hb0, hj0, hx0, hs0⟩ := job_span w n o a b c d e t ov ca re s0 s1
  have HB0 := Lib.hid hb0; have HL := Lib.hid (hL.on hb0); have HX0 := Lib.hid hx0
  rw [jobV_five] at *
  unfold spanV
  obtain ⟨c0, c1, c2, c3, c4, c5, c6, c7, c8, c9, c10⟩ := hj0.cells
  clear hL hb0 hj0 hl5 n0 n1 hx0
  go_enter Tryd.func13, Tryd.ntmps13
  go_wp2_with fail
  rw [← hW0]
  clear hW0
  refine (HPL.out _ HL.out).mono ?_
  rintro x w2 ⟨u, v, rfl, ⟨hp, hno⟩, hb⟩
  have HB2 := Lib.hid (HB0.out.trans (hb.mono HB0.out.size)); have HP := Lib.hid hp; have HX2 := Lib.hid (D.Box.belowAll HX0.out hb)
  clear hb hp HPL HL HB0 HX0 c0 c1 c2 c3 c4 c5 c6 c7 c8 c9 c10
  by_cases hz : z = 0
  · subst hz
    have HPI := Lib.hid (HP.out rfl)
    obtain ⟨f, g, lb, lb', e0, _⟩ := HP.out rfl
    have e0 := congrArg (fun v : Value => v.cells.toList) e0
    simp only [Value.cells, List.cons.injEq, and_true] at e0
    obtain ⟨rfl, rfl⟩ := e0
    clear HP hno hT1
    obtain ⟨W3, hW3, hb3, hx3, hs3⟩ : ∃ W : World, W = w2.alloc (.cells #[.func (.func f) #[] lb, .func (.func g) #[] lb'] 75) ∧ Below w2.heap.size w2 W ∧ D.Box W w2.heap.size 75 #[.func (.func f) #[] lb, .func (.func g) #[] lb'] ∧ W.heap.size = w2.heap.size + 1 := ⟨_, rfl, (Below.refl _ w2).alloc (Nat.le_refl _) _, D.Box.new _ _ _, by simp⟩
    have HB3 := Lib.hid (HB2.out.trans (hb3.mono HB2.out.size)); have HP3 := Lib.hid hx3; have HX3 := Lib.hid (D.Box.belowAll HX2.out hb3)
    have HPL3 : Hid (PlanIs TJ W3 (.agg #[.func (.func f) #[] lb, .func (.func g) #[] lb'])) := Lib.hid (HPI.out.on hb3)
    obtain ⟨W4, hW4, hb4⟩ : ∃ W : World, W = W3.alloc (.cells #[.int .i64 most, .int .i64 0, .int .i64 64] 84) ∧ Below W3.heap.size W3 W := ⟨_, rfl, (Below.refl _ W3).alloc (Nat.le_refl _) _⟩
    have HLM : Hid (LimsAt W4 (some ⟨w2.heap.size + 1, 0, none⟩) [(most, 0, 64)]) := Lib.hid (by rw [hW4]; exact lim_new most 0 64 hs3.symm)
    have HB4 := Lib.hid (HB3.out.trans (hb4.mono HB3.out.size)); have HP4 := Lib.hid (D.Box.belowAll HP3.out hb4); have HX4 := Lib.hid (D.Box.belowAll HX3.out hb4)
    have HPL4 : Hid (PlanIs TJ W4 (.agg #[.func (.func f) #[] lb, .func (.func g) #[] lb'])) := Lib.hid (HPL3.out.on hb4)
    clear hb3 hx3 hb4 HB2 HX2 HB3 HX3 HP3 HPL3
    have HH := Lib.hid (hold_any (some ⟨w2.heap.size + 1, 0, none⟩) 1 [(most, 0, 64)] 1 W4 rfl (by omega) HLM.out)
    by_cases hm : 0 ≤ most ∧ most ≤ 64
    · have hh : holdB [(most, 0, 64)] = true := by unfold holdB; simp [hm]
      rw [hh] at HH
      obtain ⟨m0, m1⟩ := hm
      have HT := Lib.hid (fun x w' y l => hT3.out rfl m0 m1 x w' y l)
      obtain ⟨mm, rfl⟩ : ∃ mm : Nat, most = (mm : Int) := ⟨most.toNat, by omega⟩
      have hmm : mm ≤ 64 := by omega
      clear hT2 hT3 hh m0 m1
      go_wp2_with fail
      rw [← hW3, ← hW4]
      clear hW3 hW4
      refine HH.out.mono ?_
      rintro x w5 ⟨rfl, hb⟩
      have HB5 := Lib.hid (HB4.out.trans (hb.mono HB4.out.size)); have HP5 := Lib.hid (D.Box.belowAll HP4.out hb); have HX5 := Lib.hid (D.Box.belowAll HX4.out hb)
      have HW := Lib.hid (within_any TJ (.func (.func f) #[] lb) (.func (.func g) #[] lb') s0 s1 mm w5 hmm (HPL4.out.on hb))
      unfold spanV at HW
      clear hb HB4 HP4 HX4 HPL4 HLM HH HPI
      obtain ⟨p0, p1, _⟩ := box_two HP5.out
      obtain ⟨e0, e1⟩ := two_box HX5.out
      go_wp2_with fail
      refine HW.out.mono ?_
      rintro x w6 ⟨y, l, rfl, hrow, hch, hb⟩
      have HR := Lib.hid (own_low hrow HB5.out.size); have HC := Lib.hid hch; have HB6 := Lib.hid (HB5.out.trans (hb.mono HB5.out.size))
      clear hrow hch hb HW p0 p1 e0 e1
      go_wp2_with fail
      exact bodyPost_ret (v := .tuple #[y, .int .i64 0]) (by simp [results, Tryd.results13, go_sem]) rfl ⟨HT.out _ _ _ _ rfl HR.out (by rw [Int.toNat_natCast]; exact HC.out), HB6.out⟩
    · have hh : holdB [(most, 0, 64)] = false := by
        unfold holdB
        simp only [List.all_cons, List.all_nil, Bool.and_true, decide_eq_false_iff_not]
        exact hm
      rw [hh] at HH
      have HT := Lib.hid (fun x w' => hT2.out rfl (by omega) x w')
      clear hT2 hT3 hh hm
      go_wp2_with fail
      rw [← hW3, ← hW4]
      clear hW3 hW4
      refine HH.out.mono ?_
      rintro x w5 ⟨rfl, hb⟩
      have HB5 := Lib.hid (HB4.out.trans (hb.mono HB4.out.size))
      clear hb
      go_wp2_with fail
      exact bodyPost_ret (v := .tuple #[.slice none 0 0, .int .i64 2]) (by simp [results, Tryd.results13, go_sem]) rfl ⟨HT.out _ _ rfl, HB5.out⟩
  · have hz1 : (z != 0) = true := by simpa using hz
    obtain ⟨rfl, rfl⟩ := hno hz
    have HF := Lib.hid (hT1.out hz)
    clear hT1 hT2 hT3
    go_wp2_with fail
    exact bodyPost_ret (v := .tuple #[.slice none 0 0, .int .i64 z]) (by simp [results, Tryd.results13, go_sem]) rfl ⟨HF.out _ _ rfl, HB2.out.alloc HB2.out.size _⟩
/-- What Idle comes to. -/
def IdleIs (ev : List (BitVec 64) → Bool) (j : JobZ) (s0 s1 : Int) (z : Bool) : Prop := (j.err ev ≠ 0 ∧ z = false) ∨ (j.err ev = 0 ∧ ∃ l, Chain j.T s0 s1 1 l ∧ z = decide (l.length = 0))
end Go.Proofs.YthghcffibljclaaDoor
/- The crons that wakes asks: each hour; a day that there never is: plain. -/
namespace Go.Proofs.YthghcffibljclaaDoor

def hourlyL : List (BitVec 64) := [1#64, 16777215#64, 4294967294#64, 8190#64, 127#64]
theorem hourly_ok : crB hourlyL = true := by decide +kernel
theorem hourly_bits : ints 1#64 = [0] ∧ 4294967294#64 = wholeM 2 ∧ 8190#64 = wholeM 3 ∧ 127#64 = wholeM 4 ∧ 16777215#64 = wholeM 1 := by decide +kernel
theorem hourly_first : fitN hourlyL 0 := by
  refine ⟨1970, 1, 1, ⟨by omega, by omega, by omega, by decide⟩, by decide, ?_⟩
  show dayF 4294967294#64 8190#64 127#64 1 1 (wdZ 1970 1 1).toNat = true
  decide +kernel
theorem hourly_is {u : Int} (h : TC hourlyL u) : u % 3600 = 0 := by
  obtain ⟨_, _, _, hm⟩ := h
  obtain ⟨h, hh, m, hm, e⟩ := mem_onW.1 hm
  have hm2 : m ∈ ints 1#64 := hm
  rw [hourly_bits.1] at hm2
  have : m = 0 := by simpa using hm2
  omega
theorem hourly_in {h : Int} (hh : 0 ≤ h ∧ h ≤ 23) : TC hourlyL (h * 3600) := by
  have hok : DayOk hourlyL 0 := ⟨by omega, by omega, hourly_first⟩
  refine hok.times hourly_ok (mem_onW.2 ⟨h, ?_, 0, ?_, by omega⟩)
  · show h ∈ ints 16777215#64
    rw [mem_ints, hourly_bits.2.2.2.2, hasB_pos hh.1, whole_bit, decide_eq_true_iff]
    refine ⟨by omega, ?_, ?_⟩
    · show 0 ≤ _; omega
    · show _ ≤ 23; omega
  · show (0 : Int) ∈ ints 1#64
    rw [hourly_bits.1]
    simp
theorem hourly_ever : EverZ hourlyL := ⟨3600, by have := hourly_in (h := 1) (by omega); simpa using this, by omega⟩
theorem hourly_chain : Chain (TC hourlyL) 0 7200 9 [3600, 7200] := by
  rw [Chain]
  refine .inr ⟨3600, [7200], ⟨?_, by omega, ?_⟩, by omega, rfl, ?_⟩
  · have := hourly_in (h := 1) (by omega); simpa using this
  · intro u hu h0
    have := hourly_is hu
    omega
  · rw [Chain]
    refine .inr ⟨7200, [], ⟨?_, by omega, ?_⟩, by omega, rfl, ?_⟩
    · have := hourly_in (h := 2) (by omega); simpa using this
    · intro u hu h0
      have := hourly_is hu
      omega
    · rw [Chain]
      exact .inl ⟨fun u hu h0 => h0, rfl⟩
theorem hourly_idle : Chain (TC hourlyL) 0 3599 1 [] := by
  rw [Chain]
  refine .inl ⟨fun u hu h0 => ?_, rfl⟩
  have := hourly_is hu
  omega
/-! a day that there never is -/
def neverL : List (BitVec 64) := [1#64, 1#64, 2147483648#64, 4#64, 127#64]
theorem never_ok : crB neverL = true := by decide +kernel
theorem never_bits : (∀ i : Nat, i < 64 → (2147483648#64).getLsbD i = decide (i = 31)) ∧ (∀ i : Nat, i < 64 → (4#64).getLsbD i = decide (i = 2)) ∧ (127#64) = wholeM 4 ∧ 2147483648#64 ≠ wholeM 2 := by decide +kernel
theorem never_fit {y m d : Int} (h : D.RightZ y m d) : fitD neverL y m d = false := by
  obtain ⟨b2, b3, b5, b6⟩ := never_bits
  obtain ⟨m1, m2, d1, d2⟩ := right_in h
  obtain ⟨y0, y1, d3, d4⟩ := h
  cases hf : fitD neverL y m d with
  | false => rfl
  | true =>
    have hf : dayF 2147483648#64 4#64 127#64 d.toNat m.toNat (wdZ y m d).toNat = true := hf
    unfold dayF at hf
    rw [if_neg b6, if_pos b5, b2 _ (by omega), b3 _ (by omega), Bool.and_eq_true, decide_eq_true_iff, decide_eq_true_iff] at hf
    have e : m = 2 := by omega
    subst e
    have hl : D.mlZ y 2 ≤ 29 := by unfold D.mlZ; simp; split <;> omega
    omega
theorem never_never : ¬ EverZ neverL := by
  rintro ⟨u, ⟨_, _, ⟨y, m, d, hr, _, hf⟩, _⟩, _⟩
  rw [never_fit hr] at hf
  cases hf
theorem w_hourly : readC [64, 104, 111, 117, 114, 108, 121] = (some hourlyL, 0) := by decide +kernel
theorem w_never : readC [48, 32, 48, 32, 51, 49, 32, 50, 32, 42] = (some neverL, 0) := by decide +kernel
end Go.Proofs.YthghcffibljclaaDoor
