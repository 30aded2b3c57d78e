/- Within each horizon there is a time, if there is one at all; the rarest day; a day's quarters: plain. -/
import Derived.Test.YtkimbmifabpppaaDoorKHTimes
namespace Go.Proofs.YtkimbmifabpppaaDoor

def asksOf (L : List (BitVec 64)) : Asks where
  mo := fun m => (L.getD 3 0#64).getLsbD m.toNat
  da := fun d => (L.getD 2 0#64).getLsbD d.toNat
  we := fun w => (L.getD 4 0#64).getLsbD w.toNat
  dw := decide (L.getD 2 0#64 = wholeM 2)
  ww := decide (L.getD 4 0#64 = wholeM 4)
theorem asks_ok {L : List (BitVec 64)} (hk : crB L = true) : (asksOf L).Ok where
  we := by
    obtain ⟨i, hi⟩ := ints_some hk (k := 4) (by omega)
    have hin := ints_in hk (k := 4) (by omega) hi
    rw [mem_ints] at hi
    refine ⟨i, by simpa [loK] using hin.1, by simpa [hiK] using hin.2, ?_⟩
    rw [hasB_pos (by have := hin.1; simp [loK] at this; omega)] at hi
    exact hi
  dw := by
    intro h d d1 d2
    have h := of_decide_eq_true h
    show (L.getD 2 0#64).getLsbD d.toNat = true
    rw [h, whole_bit, decide_eq_true_iff]
    refine ⟨by omega, ?_, ?_⟩
    · show 1 ≤ _; omega
    · show _ ≤ 31; omega
  ww := by
    intro h d d1 d2
    have h := of_decide_eq_true h
    show (L.getD 4 0#64).getLsbD d.toNat = true
    rw [h, whole_bit, decide_eq_true_iff]
    refine ⟨by omega, ?_, ?_⟩
    · show 0 ≤ _; omega
    · show _ ≤ 6; omega
theorem asks_fit {L : List (BitVec 64)} (hk : crB L = true) {y m d : Int} (h : D.RightZ y m d) : (asksOf L).fit y m d = fitD L y m d := by
  have hok := asks_ok hk
  obtain ⟨m1, m2, d1, d2⟩ := right_in h
  have hda := hok.dw; have hwa := hok.ww
  have hw : 0 ≤ (D.numZ y m d + 4) % 7 ∧ (D.numZ y m d + 4) % 7 ≤ 6 := by omega
  unfold Asks.fit fitD dayF wdZ
  generalize (D.numZ y m d + 4) % 7 = wd at *
  have a1 := fun q => hda q d d1 d2
  have a2 := fun q => hwa q wd hw.1 hw.2
  show ((L.getD 3 0#64).getLsbD m.toNat && (if (decide (L.getD 2 0#64 = wholeM 2) || decide (L.getD 4 0#64 = wholeM 4)) = true then (L.getD 2 0#64).getLsbD d.toNat && (L.getD 4 0#64).getLsbD wd.toNat else (L.getD 2 0#64).getLsbD d.toNat || (L.getD 4 0#64).getLsbD wd.toNat)) = _
  change decide (L.getD 2 0#64 = wholeM 2) = true → (L.getD 2 0#64).getLsbD d.toNat = true at a1
  change decide (L.getD 4 0#64 = wholeM 4) = true → (L.getD 4 0#64).getLsbD wd.toNat = true at a2
  generalize (L.getD 3 0#64).getLsbD m.toNat = z3 at *
  generalize (L.getD 2 0#64).getLsbD d.toNat = z2 at *
  generalize (L.getD 4 0#64).getLsbD wd.toNat = z4 at *
  congr 1
  by_cases h2 : L.getD 2 0#64 = wholeM 2
  · rw [if_pos h2, if_pos (by rw [decide_eq_true h2]; rfl), a1 (decide_eq_true h2), Bool.true_and]
  · rw [if_neg h2]
    by_cases h4 : L.getD 4 0#64 = wholeM 4
    · rw [if_pos h4, if_pos (by rw [decide_eq_true h4]; simp), a2 (decide_eq_true h4), Bool.and_true]
    · rw [if_neg h4, if_neg (by rw [decide_eq_false h2, decide_eq_false h4]; simp)]
theorem TC_window (L : List (BitVec 64)) : Window (TC L) := by
  rintro ⟨u, hu⟩ n h0 h1
  have hk := hu.1
  obtain ⟨y, m, d, hr, hn, hf⟩ := hu.2.2.1
  rw [← asks_fit hk hr] at hf
  obtain ⟨y', m', d', hr', hf', hlo, hhi⟩ := ever_window (asks_ok hk) hr hf h0 h1
  rw [asks_fit hk hr'] at hf'
  have hrange := D.num_range hr'
  have hok : DayOk L (D.numZ y' m' d') := ⟨hrange.1, hrange.2, (fitN_is hr').2 hf'⟩
  obtain ⟨v, hv⟩ := dayL_some hk (D.numZ y' m' d')
  have hd := dayL_in hk hv
  exact ⟨v, hok.times hk hv, by omega, by omega⟩
/-! the rarest day -/
def leapL : List (BitVec 64) := [1#64, 1#64, 536870912#64, 4#64, 127#64]
theorem leap_ok : crB leapL = true := by decide +kernel
theorem leap_bits : ints 1#64 = [0] ∧ (∀ i : Nat, i < 64 → (536870912#64).getLsbD i = decide (i = 29)) ∧ (∀ i : Nat, i < 64 → (4#64).getLsbD i = decide (i = 2)) ∧ (∀ i : Nat, i < 7 → (127#64).getLsbD i = true) ∧ (127#64) = wholeM 4 ∧ 536870912#64 ≠ wholeM 2 := by decide +kernel
theorem leap_fit {y m d : Int} (h : D.RightZ y m d) : fitD leapL y m d = true ↔ m = 2 ∧ d = 29 := by
  obtain ⟨_, b2, b3, _, b5, b6⟩ := leap_bits
  obtain ⟨m1, m2, d1, d2⟩ := right_in h
  show dayF 536870912#64 4#64 127#64 d.toNat m.toNat (wdZ y m d).toNat = true ↔ _
  unfold dayF
  rw [if_neg b6, if_pos b5, b2 _ (by omega), b3 _ (by omega), Bool.and_eq_true, decide_eq_true_iff, decide_eq_true_iff]
  omega
theorem leap_day (n : Int) : dayL leapL n = [n * 86400] := by
  show onW (ints 1#64) (ints 1#64) n = _
  rw [leap_bits.1]
  simp [onW]
theorem leap_time {u : Int} (h : TC leapL u) : ∃ y : Int, D.RightZ y 2 29 ∧ u = D.numZ y 2 29 * 86400 := by
  obtain ⟨_, _, ⟨y, m, d, hr, hn, hf⟩, hm⟩ := h
  obtain ⟨rfl, rfl⟩ := (leap_fit hr).1 hf
  rw [leap_day, List.mem_singleton] at hm
  exact ⟨y, hr, by omega⟩
theorem leap_is {y : Int} (hr : D.RightZ y 2 29) : TC leapL (D.numZ y 2 29 * 86400) := by
  have hrange := D.num_range hr
  exact DayOk.times leap_ok ⟨hrange.1, hrange.2, (fitN_is hr).2 ((leap_fit hr).2 ⟨rfl, rfl⟩)⟩ (by rw [leap_day]; simp)
theorem leap_between {y : Int} (h : D.RightZ y 2 29) : D.numZ y 2 29 ≤ 46080 ∨ 49001 ≤ D.numZ y 2 29 := by
  obtain ⟨y0, y1, d1, d2⟩ := h
  have hl : D.leapZ y = true := by
    cases hz : D.leapZ y with
    | true => rfl
    | false =>
      have : D.mlZ y 2 = 28 := by simp [D.mlZ, hz]
      omega
  rw [D.leapZ_iff] at hl
  rw [num_leap, dy_year y y0]
  clear d1 d2
  have hc : y ≤ 2096 ∨ 2104 ≤ y := by omega
  rcases hc with hc | hc
  · left
    have : (y - 1) / 100 = 19 ∨ (y - 1) / 100 = 20 := by omega
    clear hl
    omega
  · right
    clear hl
    have : ∃ z, y = z + 2104 ∧ 0 ≤ z := ⟨y - 2104, by omega, by omega⟩
    obtain ⟨z, rfl, hz⟩ := this
    have h1 : (z + 2104 - 1) / 4 ≥ 525 := by omega
    have h2 : (z + 2104 - 1) / 100 ≤ 21 + z := by omega
    have h3 : (z + 2104 - 1) / 400 ≥ 5 := by omega
    omega
theorem leap_two : D.RightZ 2096 2 29 ∧ D.numZ 2096 2 29 = 46080 ∧ D.RightZ 2104 2 29 ∧ D.numZ 2104 2 29 = 49001 := by
  refine ⟨right_leap (by omega) (by omega) (by decide), ?_, right_leap (by omega) (by omega) (by decide), ?_⟩
  · rw [num_leap, dy_year 2096 (by omega)]; decide
  · rw [num_leap, dy_year 2104 (by omega)]; decide
theorem leap_next : IsNext (TC leapL) 3981312000 4233686400 := by
  obtain ⟨h1, e1, h2, e2⟩ := leap_two
  have ht := leap_is h2
  rw [e2] at ht
  refine ⟨ht, by omega, ?_, ?_⟩
  · rw [dayOf_time (by omega) (by omega)]; omega
  · intro u hu hau
    obtain ⟨y, hr, rfl⟩ := leap_time hu
    have := leap_between hr
    omega
theorem leap_last : IsLast (TC leapL) 4233686399 3981312000 := by
  obtain ⟨h1, e1, h2, e2⟩ := leap_two
  have ht := leap_is h1
  rw [e1] at ht
  refine ⟨ht, by omega, ?_, ?_⟩
  · rw [dayOf_time (by omega) (by omega)]; omega
  · intro u hu hub
    obtain ⟨y, hr, rfl⟩ := leap_time hu
    have := leap_between hr
    omega
/-! a day's quarters -/
def quarL : List (BitVec 64) := [32769#64, 16777215#64, 4294967294#64, 8190#64, 127#64]
theorem quar_ok : crB quarL = true := by decide +kernel
theorem quar_bits : ints 32769#64 = [0, 15] ∧ 4294967294#64 = wholeM 2 ∧ 8190#64 = wholeM 3 ∧ 127#64 = wholeM 4 ∧ 16777215#64 = wholeM 1 := by decide +kernel
theorem quar_first : fitN quarL 0 := by
  refine ⟨1970, 1, 1, ⟨by omega, by omega, by omega, by decide⟩, by decide, ?_⟩
  show dayF 4294967294#64 8190#64 127#64 1 1 (wdZ 1970 1 1).toNat = true
  decide +kernel
theorem quar_is {u : Int} (h : TC quarL u) : u % 3600 = 0 ∨ u % 3600 = 900 := by
  obtain ⟨_, _, _, hm⟩ := h
  obtain ⟨h, hh, m, hm, e⟩ := mem_onW.1 hm
  have hm2 : m ∈ ints 32769#64 := hm
  rw [quar_bits.1] at hm2
  have : m = 0 ∨ m = 15 := by simpa using hm2
  omega
theorem quar_in {h m : Int} (hh : 0 ≤ h ∧ h ≤ 23) (hm : m = 0 ∨ m = 15) : TC quarL (h * 3600 + m * 60) := by
  have hok : DayOk quarL 0 := ⟨by omega, by omega, quar_first⟩
  refine hok.times quar_ok (mem_onW.2 ⟨h, ?_, m, ?_, by omega⟩)
  · show h ∈ ints 16777215#64
    rw [mem_ints, quar_bits.2.2.2.2, hasB_pos hh.1, whole_bit, decide_eq_true_iff]
    refine ⟨by omega, ?_, ?_⟩
    · show 0 ≤ _; omega
    · show _ ≤ 23; omega
  · show m ∈ ints 32769#64
    rw [quar_bits.1]
    simpa using hm
theorem quar_chain : Chain (TC quarL) 0 3600 9 [900, 3600] := by
  rw [Chain]
  refine .inr ⟨900, [3600], ⟨?_, by omega, ?_⟩, by omega, rfl, ?_⟩
  · have := quar_in (h := 0) (m := 15) (by omega) (.inr rfl); simpa using this
  · intro u hu h0
    have := quar_is hu
    omega
  · rw [Chain]
    refine .inr ⟨3600, [], ⟨?_, by omega, ?_⟩, by omega, rfl, ?_⟩
    · have := quar_in (h := 1) (m := 0) (by omega) (.inl rfl); simpa using this
    · intro u hu h0
      have := quar_is hu
      omega
    · rw [Chain]
      refine .inl ⟨?_, rfl⟩
      intro u hu h0
      exact h0
end Go.Proofs.YtkimbmifabpppaaDoor
