/- The crons that wakes asks: each hour; a day that there never is: plain. -/
import Derived.Test.YtbaobjbckabnhaaGreatDoorK6
import Derived.Test.YtbaobjbckabnhaaGreatDoorK8
import Derived.Test.YtbaobjbckabnhaaGreatDoorKUTimes
namespace Go.Proofs.YtbaobjbckabnhaaGreatDoor

def hourlyL : List (BitVec 64) := [1#64, 16777215#64, 4294967294#64, 8190#64, 127#64]
theorem hourly_ok : crB hourlyL = true := by decide +kernel
theorem hourly_bits : ints 1#64 = [0] ∧ 4294967294#64 = wholeM 2 ∧ 8190#64 = wholeM 3 ∧ 127#64 = wholeM 4 ∧ 16777215#64 = wholeM 1 := by decide +kernel
theorem hourly_first : fitN hourlyL 0 := by
  refine ⟨1970, 1, 1, ⟨by omega, by omega, by omega, by decide⟩, by decide, ?_⟩
  show dayF 4294967294#64 8190#64 127#64 1 1 (wdZ 1970 1 1).toNat = true
  decide +kernel
theorem hourly_is {u : Int} (h : TC hourlyL u) : u % 3600 = 0 := by
  obtain ⟨_, _, _, hm⟩ := h
  obtain ⟨h, hh, m, hm, e⟩ := mem_onW.1 hm
  have hm2 : m ∈ ints 1#64 := hm
  rw [hourly_bits.1] at hm2
  have : m = 0 := by simpa using hm2
  omega
theorem hourly_in {h : Int} (hh : 0 ≤ h ∧ h ≤ 23) : TC hourlyL (h * 3600) := by
  have hok : DayOk hourlyL 0 := ⟨by omega, by omega, hourly_first⟩
  refine hok.times hourly_ok (mem_onW.2 ⟨h, ?_, 0, ?_, by omega⟩)
  · show h ∈ ints 16777215#64
    rw [mem_ints, hourly_bits.2.2.2.2, hasB_pos hh.1, whole_bit, decide_eq_true_iff]
    refine ⟨by omega, ?_, ?_⟩
    · show 0 ≤ _; omega
    · show _ ≤ 23; omega
  · show (0 : Int) ∈ ints 1#64
    rw [hourly_bits.1]
    simp
theorem hourly_ever : EverZ hourlyL := ⟨3600, by have := hourly_in (h := 1) (by omega); simpa using this, by omega⟩
theorem hourly_chain : Chain (TC hourlyL) 0 7200 9 [3600, 7200] := by
  rw [Chain]
  refine .inr ⟨3600, [7200], ⟨?_, by omega, ?_⟩, by omega, rfl, ?_⟩
  · have := hourly_in (h := 1) (by omega); simpa using this
  · intro u hu h0
    have := hourly_is hu
    omega
  · rw [Chain]
    refine .inr ⟨7200, [], ⟨?_, by omega, ?_⟩, by omega, rfl, ?_⟩
    · have := hourly_in (h := 2) (by omega); simpa using this
    · intro u hu h0
      have := hourly_is hu
      omega
    · rw [Chain]
      exact .inl ⟨fun u hu h0 => h0, rfl⟩
theorem hourly_idle : Chain (TC hourlyL) 0 3599 1 [] := by
  rw [Chain]
  refine .inl ⟨fun u hu h0 => ?_, rfl⟩
  have := hourly_is hu
  omega
/-! a day that there never is -/
def neverL : List (BitVec 64) := [1#64, 1#64, 2147483648#64, 4#64, 127#64]
theorem never_ok : crB neverL = true := by decide +kernel
theorem never_bits : (∀ i : Nat, i < 64 → (2147483648#64).getLsbD i = decide (i = 31)) ∧ (∀ i : Nat, i < 64 → (4#64).getLsbD i = decide (i = 2)) ∧ (127#64) = wholeM 4 ∧ 2147483648#64 ≠ wholeM 2 := by decide +kernel
theorem never_fit {y m d : Int} (h : D.RightZ y m d) : fitD neverL y m d = false := by
  obtain ⟨b2, b3, b5, b6⟩ := never_bits
  obtain ⟨m1, m2, d1, d2⟩ := right_in h
  obtain ⟨y0, y1, d3, d4⟩ := h
  cases hf : fitD neverL y m d with
  | false => rfl
  | true =>
    have hf : dayF 2147483648#64 4#64 127#64 d.toNat m.toNat (wdZ y m d).toNat = true := hf
    unfold dayF at hf
    rw [if_neg b6, if_pos b5, b2 _ (by omega), b3 _ (by omega), Bool.and_eq_true, decide_eq_true_iff, decide_eq_true_iff] at hf
    have e : m = 2 := by omega
    subst e
    have hl : D.mlZ y 2 ≤ 29 := by unfold D.mlZ; simp; split <;> omega
    omega
theorem never_never : ¬ EverZ neverL := by
  rintro ⟨u, ⟨_, _, ⟨y, m, d, hr, _, hf⟩, _⟩, _⟩
  rw [never_fit hr] at hf
  cases hf
theorem w_hourly : readC [64, 104, 111, 117, 114, 108, 121] = (some hourlyL, 0) := by decide +kernel
theorem w_never : readC [48, 32, 48, 32, 51, 49, 32, 50, 32, 42] = (some neverL, 0) := by decide +kernel
end Go.Proofs.YtbaobjbckabnhaaGreatDoor
