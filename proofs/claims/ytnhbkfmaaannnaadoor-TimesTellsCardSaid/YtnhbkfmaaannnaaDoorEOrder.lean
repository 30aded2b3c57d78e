/- Times and civil times: one each, and in one order with their texts. -/
import Derived.Test.YtnhbkfmaaannnaaDoorDMath
import Derived.Test.YtnhbkfmaaannnaaDoorEText
namespace Go.Proofs.YtnhbkfmaaannnaaDoor
open Go.Op

/-- t is the time of that civil time, which may be. -/
structure CivOf (t y m d h mi s : Int) : Prop where
  right : RightZ y m d
  h0 : 0 ≤ h
  h1 : h < 24
  m0 : 0 ≤ mi
  m1 : mi < 60
  s0 : 0 ≤ s
  s1 : s < 60
  at_ : t = numZ y m d * 86400 + h * 3600 + mi * 60 + s
theorem CivOf.time {t y m d h mi s : Int} (c : CivOf t y m d h mi s) : 0 ≤ t ∧ t ≤ 253402300799 ∧ t / 86400 = numZ y m d ∧ t / 3600 % 24 = h ∧ t / 60 % 60 = mi ∧ t % 60 = s := by
  obtain ⟨n0, n1⟩ := num_range c.right
  have h := parts_time _ h mi s n0 n1 c.h0 c.h1 c.m0 c.m1 c.s0 c.s1
  rw [← c.at_] at h
  exact h
theorem civ_ex (t : Int) (h0 : 0 ≤ t) (h1 : t ≤ 253402300799) : ∃ y m d : Int, CivOf t y m d (t / 3600 % 24) (t / 60 % 60) (t % 60) ∧ numZ y m d = t / 86400 := by
  obtain ⟨a, b, c, d, e, f, g, i, j⟩ := time_parts t h0 h1
  obtain ⟨y, m, dd, hr, hn⟩ := num_surj (t / 86400).toNat (by omega)
  have hn' : numZ y m dd = t / 86400 := by omega
  exact ⟨y, m, dd, ⟨hr, c, d, e, f, g, i, by rw [hn']; exact j⟩, hn'⟩
theorem civ_inj {t y m d h mi s y' m' d' h' mi' s' : Int} (c : CivOf t y m d h mi s) (c' : CivOf t y' m' d' h' mi' s') : y = y' ∧ m = m' ∧ d = d' ∧ h = h' ∧ mi = mi' ∧ s = s' := by
  obtain ⟨_, _, a1, a2, a3, a4⟩ := c.time
  obtain ⟨_, _, b1, b2, b3, b4⟩ := c'.time
  obtain ⟨e1, e2, e3⟩ := num_inj c.right c'.right (a1.symm.trans b1)
  exact ⟨e1, e2, e3, by omega, by omega, by omega⟩
theorem civ_lt {t y m d h mi s t' y' m' d' h' mi' s' : Int} (c : CivOf t y m d h mi s) (c' : CivOf t' y' m' d' h' mi' s') :
    t < t' ↔ civLt y.toNat m.toNat d.toNat h.toNat mi.toNat s.toNat y'.toNat m'.toNat d'.toNat h'.toNat mi'.toNat s'.toNat := by
  have k := c.right.month
  have k' := c'.right.month
  have cm := cmp_num c.right c'.right
  have e1 := c.at_
  have e2 := c'.at_
  have y0 := c.right.1
  have y0' := c'.right.1
  have d0 := c.right.2.2.1
  have d0' := c'.right.2.2.1
  have lt := @cmpZ_lt y m d y' m' d'
  have gt := @cmpZ_gt y m d y' m' d'
  have eq := @cmpZ_eq y m d y' m' d'
  have a0 := c.h0; have a1 := c.h1; have a2 := c.m0; have a3 := c.m1; have a4 := c.s0; have a5 := c.s1
  have b0 := c'.h0; have b1 := c'.h1; have b2 := c'.m0; have b3 := c'.m1; have b4 := c'.s0; have b5 := c'.s1
  unfold civLt
  rcases Int.lt_trichotomy (numZ y m d) (numZ y' m' d') with hn | hn | hn
  · rw [if_pos hn] at cm
    have := lt.1 cm
    omega
  · rw [if_neg (by omega), if_pos hn] at cm
    have := eq.1 cm
    omega
  · rw [if_neg (by omega), if_neg (by omega)] at cm
    have := gt.1 cm
    omega
/-- The text of a civil time that may be. -/
theorem CivOf.small {t y m d h mi s : Int} (c : CivOf t y m d h mi s) : y.toNat < 10000 ∧ m.toNat < 100 ∧ d.toNat < 100 ∧ h.toNat < 100 ∧ mi.toNat < 100 ∧ s.toNat < 100 := by
  have := c.right.2.1
  have := c.right.month
  have := (mlZ_top y m).2
  have := c.right.2.2.2
  have := c.h1; have := c.m1; have := c.s1
  omega
def textZ (y m d h mi s : Int) : List UInt8 := textB y.toNat m.toNat d.toNat h.toNat mi.toNat s.toNat
theorem text_lt {t y m d h mi s t' y' m' d' h' mi' s' : Int} (c : CivOf t y m d h mi s) (c' : CivOf t' y' m' d' h' mi' s') :
    bytesLess (textZ y m d h mi s) (textZ y' m' d' h' mi' s') = decide (t < t') := by
  obtain ⟨a, b, e, f, g, i⟩ := c.small
  obtain ⟨a', b', e', f', g', i'⟩ := c'.small
  rw [Bool.eq_iff_iff, decide_eq_true_iff, civ_lt c c']
  exact textB_less a b e f g i a' b' e' f' g' i'
theorem text_inj {t y m d h mi s t' y' m' d' h' mi' s' : Int} (c : CivOf t y m d h mi s) (c' : CivOf t' y' m' d' h' mi' s') :
    textZ y m d h mi s = textZ y' m' d' h' mi' s' ↔ t = t' := by
  constructor
  · intro e
    have h1 := text_lt c c'
    have h2 := text_lt c' c
    rw [e, less_self] at h1 h2
    have h1' := of_decide_eq_false h1.symm
    have h2' := of_decide_eq_false h2.symm
    omega
  · intro e
    subst e
    obtain ⟨rfl, rfl, rfl, rfl, rfl, rfl⟩ := civ_inj c c'
    rfl
end Go.Proofs.YtnhbkfmaaannnaaDoor
