/- A job, and a wish: what is made of them, plain. -/
import Derived.Test.YtbaobjbckabnhaaGreatDoorK6
import Derived.Test.YtbaobjbckabnhaaGreatDoorK8
import Derived.Test.YtbaobjbckabnhaaGreatDoorKUTimes
namespace Go.Proofs.YtbaobjbckabnhaaGreatDoor

/-- What a job comes to in memory and law: its numbers, and its cron's five masks. -/
structure JobZ where
  n : Int
  o : Bool
  L : List (BitVec 64)
  t : Int
  ov : Int
  ca : Int
  re : Int
structure WishZ where
  n : Int
  s : List UInt8
  t : Int
  ov : Int
  ca : Int
  re : Int
/-- Names are from 0 to 2^32 - 1; a cron has five masks. -/
def JobZ.Fit (j : JobZ) : Prop := 0 ≤ j.n ∧ j.n ≤ 4294967295 ∧ j.L.length = 5
def WishZ.Fit (w : WishZ) : Prop := 0 ≤ w.n ∧ w.n ≤ 4294967295
def zeroJ : JobZ := ⟨0, false, nilF, 0, 0, 0, 0⟩
theorem zeroJ_fit : zeroJ.Fit := ⟨by decide, by decide, rfl⟩
def maxT : Int := 253402300799
/-- The limits that a job's numbers have to keep. -/
def limsZ (n : Int) (o : Bool) (t ov ca re : Int) : List (Int × Int × Int) := [(t, 0, if o then maxT else 0), (n, 1, 4294967295), (ov, 0, 1), (ca, 0, 2), (re, 0, 3)]
def holdB (l : List (Int × Int × Int)) : Bool := l.all fun x => decide (x.2.1 ≤ x.1 ∧ x.1 ≤ x.2.2)
def JobZ.lims (j : JobZ) : List (Int × Int × Int) := limsZ j.n j.o j.t j.ov j.ca j.re
def WishZ.lims (w : WishZ) : List (Int × Int × Int) := limsZ w.n w.s.isEmpty w.t w.ov w.ca w.re
theorem hold_iff {n : Int} {o : Bool} {t ov ca re : Int} : holdB (limsZ n o t ov ca re) = true ↔ (0 ≤ t ∧ t ≤ if o then maxT else 0) ∧ (1 ≤ n ∧ n ≤ 4294967295) ∧ (0 ≤ ov ∧ ov ≤ 1) ∧ (0 ≤ ca ∧ ca ≤ 2) ∧ (0 ≤ re ∧ re ≤ 3) := by
  simp [holdB, limsZ]
/-- Whether crons match ever. -/
def EvIs (ev : List (BitVec 64) → Bool) : Prop := ∀ L, ev L = true ↔ EverZ L
theorem ev_is : ∃ ev, EvIs ev := ⟨fun L => @decide (EverZ L) (Classical.propDecidable _), fun _ => @decide_eq_true_iff _ (Classical.propDecidable _)⟩
/-- Why a job may not be. -/
def JobZ.err (ev : List (BitVec 64) → Bool) (j : JobZ) : Int :=
  if holdB j.lims = false then 200 else if j.o = true ∧ j.L = nilF then 0 else if j.o = true ∨ crB j.L = false then 200 else if ev j.L = false then 201 else 0
/-- Its times. -/
def JobZ.T (j : JobZ) (u : Int) : Prop := if j.o then u = j.t else TC j.L u
def readE (s : List UInt8) : Option (List (BitVec 64)) × Int := if 256 < s.length then (none, 3) else match (readC s).1 with
  | some l => (some l, 0)
  | none => (none, 170)
def WishZ.job (w : WishZ) (L : List (BitVec 64)) : JobZ := ⟨w.n, w.s.isEmpty, L, w.t, w.ov, w.ca, w.re⟩
/-- The job that a wish says; the error. -/
def ofZ (ev : List (BitVec 64) → Bool) (w : WishZ) : JobZ × Int :=
  if holdB w.lims = false then (zeroJ, 200) else if w.s = [] then (w.job nilF, 0) else match readE w.s with
  | (none, e) => (zeroJ, e)
  | (some l, _) => if ev l = false then (zeroJ, 201) else (w.job l, 0)
def JobZ.wish (j : JobZ) : WishZ := ⟨j.n, if j.o then [] else ctextL j.L, j.t, j.ov, j.ca, j.re⟩
theorem readE_some {s : List UInt8} {l : List (BitVec 64)} {e : Int} (h : readE s = (some l, e)) : e = 0 ∧ l.length = 5 ∧ crB l = true ∧ s.length ≤ 256 ∧ readC s = (some l, 0) := by
  unfold readE at h
  split at h
  · cases h
  · rename_i hlen
    cases hr : readC s with
    | mk r p =>
      rw [hr] at h
      cases r with
      | none => cases h
      | some l' =>
        have h : ((some l' : Option (List (BitVec 64))), (0 : Int)) = (some l, e) := h
        injection h with h1 h2
        injection h1 with h1
        subst h1
        obtain ⟨a, b, c⟩ := read_cr hr
        subst b
        exact ⟨h2.symm, a, c, by omega, rfl⟩
theorem readE_none {s : List UInt8} {e : Int} (h : readE s = (none, e)) : (256 < s.length ∧ e = 3) ∨ (s.length ≤ 256 ∧ e = 170 ∧ ∃ p, readC s = (none, p)) := by
  unfold readE at h
  split at h
  · rename_i hl
    injection h with _ h
    exact .inl ⟨hl, h.symm⟩
  · rename_i hlen
    cases hr : readC s with
    | mk r p =>
      rw [hr] at h
      cases r with
      | some l' => cases h
      | none =>
        injection h with _ h
        exact .inr ⟨by omega, h.symm, p, rfl⟩
theorem text_some {L : List (BitVec 64)} (_h : crB L = true) (_h5 : L.length = 5) : ctextL L ≠ [] := by
  unfold ctextL textC
  simp
theorem lims_job (w : WishZ) (L : List (BitVec 64)) : (w.job L).lims = w.lims := rfl
theorem lims_wish {j : JobZ} (h5 : j.L.length = 5) (h : j.o = true ∨ crB j.L = true) : j.wish.lims = j.lims := by
  unfold WishZ.lims JobZ.lims JobZ.wish
  cases ho : j.o with
  | true => rfl
  | false =>
    rw [ho] at h
    have hc : crB j.L = true := by rcases h with h | h; cases h; exact h
    have := text_some hc h5
    simp only [Bool.false_eq_true, if_false]
    cases hx : ctextL j.L with
    | nil => exact absurd hx this
    | cons a b => rfl
theorem err_ok {ev : List (BitVec 64) → Bool} {j : JobZ} (h : j.err ev = 0) : holdB j.lims = true ∧ ((j.o = true ∧ j.L = nilF) ∨ (j.o = false ∧ crB j.L = true ∧ ev j.L = true)) := by
  unfold JobZ.err at h
  cases hh : holdB j.lims with
  | false => rw [hh] at h; simp at h
  | true =>
    rw [hh] at h
    refine ⟨rfl, ?_⟩
    simp only [Bool.true_eq_false, if_false] at h
    split at h
    · rename_i hx; exact .inl hx
    · split at h
      · cases h
      · rename_i h2
        split at h
        · cases h
        · rename_i h3
          refine .inr ⟨?_, ?_, ?_⟩
          · cases ho : j.o with
            | false => rfl
            | true => exact absurd (.inl ho) h2
          · cases ho : crB j.L with
            | true => rfl
            | false => exact absurd (.inr ho) h2
          · cases ho : ev j.L with
            | true => rfl
            | false => exact absurd ho h3
theorem err_is {ev : List (BitVec 64) → Bool} {j : JobZ} (h1 : holdB j.lims = true) (h2 : (j.o = true ∧ j.L = nilF) ∨ (j.o = false ∧ crB j.L = true ∧ ev j.L = true)) : j.err ev = 0 := by
  unfold JobZ.err
  rw [h1]
  simp only [Bool.true_eq_false, if_false]
  rcases h2 with h2 | ⟨a, b, c⟩
  · rw [if_pos h2]
  · rw [a, b, c]; simp
theorem text_len_ok {L : List (BitVec 64)} (h : crB L = true) : (ctextL L).length ≤ 256 := by have := ctextL_len h; omega
theorem readE_text {L : List (BitVec 64)} (h : crB L = true) (h5 : L.length = 5) : readE (ctextL L) = (some L, 0) := by
  obtain ⟨a, b, c, d, e, rfl⟩ := list_five h5
  have hr : readC (ctextL [a, b, c, d, e]) = (some [a, b, c, d, e], 0) := read_textC (crB_field h 0 (by omega)) (crB_field h 1 (by omega)) (crB_field h 2 (by omega)) (crB_field h 3 (by omega)) (crB_field h 4 (by omega))
  unfold readE
  rw [if_neg (by have := text_len_ok h; omega), hr]
/-- Of of Wish is the job. -/
theorem of_wish {ev : List (BitVec 64) → Bool} {j : JobZ} (h5 : j.L.length = 5) (h : j.err ev = 0) : ofZ ev j.wish = (j, 0) := by
  obtain ⟨h1, h2⟩ := err_ok h
  have hl : j.wish.lims = j.lims := lims_wish h5 (by rcases h2 with ⟨a, _⟩ | ⟨_, b, _⟩; exact .inl a; exact .inr b)
  unfold ofZ
  rw [hl, h1]
  simp only [Bool.true_eq_false, if_false]
  obtain ⟨n, o, L, t, ov, ca, re⟩ := j
  rcases h2 with ⟨a, b⟩ | ⟨a, b, c⟩
  · simp only at a b
    subst a; subst b
    rfl
  · simp only at a b c h5
    subst a
    have hx := text_some b h5
    have hne : ctextL L ≠ [] := hx
    have e1 : (JobZ.wish ⟨n, false, L, t, ov, ca, re⟩).s = ctextL L := rfl
    rw [e1, if_neg hne, readE_text b h5]
    simp only [c, Bool.true_eq_false, if_false]
    unfold WishZ.job
    rw [e1]
    cases hx : ctextL L with
    | nil => exact absurd hx hne
    | cons p q => rfl
/-- The job that a wish says may be. -/
theorem of_ok {ev : List (BitVec 64) → Bool} {w : WishZ} {j : JobZ} (hw : w.Fit) (h : ofZ ev w = (j, 0)) : j.Fit ∧ j.err ev = 0 ∧ j.n = w.n ∧ j.t = w.t ∧ j.o = w.s.isEmpty := by
  unfold ofZ at h
  cases hh : holdB w.lims with
  | false => rw [hh] at h; simp at h
  | true =>
    rw [hh] at h
    simp only [Bool.true_eq_false, if_false] at h
    split at h
    · rename_i hs
      injection h with h _
      subst h
      refine ⟨⟨hw.1, hw.2, rfl⟩, err_is hh (.inl ⟨?_, rfl⟩), rfl, rfl, rfl⟩
      show w.s.isEmpty = true
      rw [hs]; rfl
    · rename_i hs
      split at h
      · rename_i e he
        injection h with _ h
        rcases readE_none he with ⟨_, rfl⟩ | ⟨_, rfl, _⟩ <;> cases h
      · rename_i l e he
        obtain ⟨_, a, b, _, _⟩ := readE_some he
        split at h
        · cases h
        · rename_i hv
          injection h with h _
          subst h
          refine ⟨⟨hw.1, hw.2, a⟩, err_is hh (.inr ⟨?_, b, ?_⟩), rfl, rfl, rfl⟩
          · show w.s.isEmpty = false
            cases hx : w.s with
            | nil => exact absurd hx hs
            | cons p q => rfl
          · show ev l = true
            cases hx : ev l with
            | true => rfl
            | false => exact absurd hx hv
theorem of_bad {ev : List (BitVec 64) → Bool} {w : WishZ} {j : JobZ} {e : Int} (h : ofZ ev w = (j, e)) (he : e ≠ 0) : j = zeroJ := by
  unfold ofZ at h
  split at h
  · injection h with h _; exact h.symm
  · split at h
    · injection h with _ h; exact absurd h.symm he
    · split at h
      · injection h with h _; exact h.symm
      · split at h
        · injection h with h _; exact h.symm
        · injection h with _ h; exact absurd h.symm he
/-- One time alone, or those of a cron. -/
theorem T_once {j : JobZ} (h : j.o = true) : j.T = fun u => u = j.t := by funext u; unfold JobZ.T; rw [h]; simp
theorem T_cron {j : JobZ} (h : j.o = false) : j.T = TC j.L := by funext u; unfold JobZ.T; rw [h]; simp
end Go.Proofs.YtbaobjbckabnhaaGreatDoor
