/- Times, plain: civil times and their numbers; texts as bytes, and how they stand. -/
import GoSem.Op.String
namespace Go.Proofs.YtnhbkfmaaannnaaDoor
open Go.Op

/-! bytes that stand ahead of others -/
theorem less_append : ∀ (a b x y : List UInt8), a.length = b.length → bytesLess (a ++ x) (b ++ y) = (bytesLess a b || (a == b && bytesLess x y))
  | [], [], x, y, _ => by simp [bytesLess]
  | [], _ :: _, _, _, h => by simp at h
  | _ :: _, [], _, _, h => by simp at h
  | u :: a, v :: b, x, y, h => by
    have ih := less_append a b x y (by simpa using h)
    simp only [List.cons_append, bytesLess, ih]
    by_cases e : u = v
    · subst e
      simp
    · have h1 : (u == v) = false := by simpa using e
      have h2 : (u :: a == v :: b) = false := by simp [e]
      simp [h1, h2]
theorem less_self : ∀ (x : List UInt8), bytesLess x x = false
  | [] => rfl
  | u :: x => by simp [bytesLess, less_self x]
/-- A digit. -/
def dg (n : Nat) : UInt8 := UInt8.ofNat (48 + n % 10)
theorem dg_nat (n : Nat) : (dg n).toNat = 48 + n % 10 := by
  unfold dg
  rw [UInt8.toNat_ofNat']
  omega
theorem dg_lt (a b : Nat) : decide (dg a < dg b) = decide (a % 10 < b % 10) := by
  rw [decide_eq_decide, UInt8.lt_iff_toNat_lt, dg_nat, dg_nat]; omega
theorem dg_eq (a b : Nat) : (dg a == dg b) = decide (a % 10 = b % 10) := by
  rw [Bool.eq_iff_iff, beq_iff_eq, decide_eq_true_iff]
  constructor
  · intro h
    have := congrArg UInt8.toNat h
    rw [dg_nat, dg_nat] at this; omega
  · intro h
    apply UInt8.toNat_inj.1
    rw [dg_nat, dg_nat, h]
def d2 (n : Nat) : List UInt8 := [dg (n / 10), dg n]
def d4 (n : Nat) : List UInt8 := [dg (n / 1000), dg (n / 100), dg (n / 10), dg n]
theorem d2_less' (a b : Nat) : bytesLess (d2 a) (d2 b) = decide (a % 100 < b % 100) := by
  unfold d2
  simp only [bytesLess, Bool.or_false, Bool.and_false, dg_lt, dg_eq]
  rw [Bool.eq_iff_iff]
  simp
  omega
theorem d2_eq' (a b : Nat) : (d2 a == d2 b) = decide (a % 100 = b % 100) := by
  unfold d2
  rw [List.cons_beq_cons, List.cons_beq_cons, dg_eq, dg_eq]
  rw [Bool.eq_iff_iff]
  simp
  omega
theorem d2_less {a b : Nat} (ha : a < 100) (hb : b < 100) : bytesLess (d2 a) (d2 b) = decide (a < b) := by
  rw [d2_less', Nat.mod_eq_of_lt ha, Nat.mod_eq_of_lt hb]
theorem d2_eq {a b : Nat} (ha : a < 100) (hb : b < 100) : (d2 a == d2 b) = decide (a = b) := by
  rw [d2_eq', Nat.mod_eq_of_lt ha, Nat.mod_eq_of_lt hb]
theorem d4_two (n : Nat) : d4 n = d2 (n / 100) ++ d2 n := by
  unfold d4 d2
  rw [Nat.div_div_eq_div_mul]; rfl
theorem d4_less {a b : Nat} (ha : a < 10000) (hb : b < 10000) : bytesLess (d4 a) (d4 b) = decide (a < b) := by
  rw [d4_two, d4_two, less_append _ _ _ _ (by rfl), d2_less', d2_less', d2_eq', Bool.eq_iff_iff]
  simp
  omega
theorem d4_eq {a b : Nat} (ha : a < 10000) (hb : b < 10000) : (d4 a == d4 b) = decide (a = b) := by
  have h1 := d4_less ha hb
  have h2 := d4_less hb ha
  rw [Bool.eq_iff_iff, beq_iff_eq, decide_eq_true_iff]
  constructor
  · intro e
    rw [e, less_self] at h1 h2
    have h1' := of_decide_eq_false h1.symm
    have h2' := of_decide_eq_false h2.symm
    omega
  · intro e; rw [e]
/-- The text. -/
def textB (y m d h mi s : Nat) : List UInt8 := d4 y ++ (45 :: d2 m ++ (45 :: d2 d ++ (32 :: d2 h ++ (58 :: d2 mi ++ (58 :: d2 s)))))
theorem textB_length (y m d h mi s : Nat) : (textB y m d h mi s).length = 19 := rfl
/-- The order of civil times. -/
def civLt (y m d h mi s y' m' d' h' mi' s' : Nat) : Prop :=
  y < y' ∨ y = y' ∧ (m < m' ∨ m = m' ∧ (d < d' ∨ d = d' ∧ (h < h' ∨ h = h' ∧ (mi < mi' ∨ mi = mi' ∧ s < s'))))
theorem sep_less (c : UInt8) (x y : List UInt8) : bytesLess (c :: x) (c :: y) = bytesLess x y := by simp [bytesLess]
theorem textB_less {y m d h mi s y' m' d' h' mi' s' : Nat} (hy : y < 10000) (hm : m < 100) (hd : d < 100) (hh : h < 100) (hmi : mi < 100) (hs : s < 100)
    (hy' : y' < 10000) (hm' : m' < 100) (hd' : d' < 100) (hh' : h' < 100) (hmi' : mi' < 100) (hs' : s' < 100) :
    bytesLess (textB y m d h mi s) (textB y' m' d' h' mi' s') = true ↔ civLt y m d h mi s y' m' d' h' mi' s' := by
  unfold textB civLt
  simp only [List.cons_append]
  rw [less_append (d4 y) (d4 y') _ _ rfl, d4_less hy hy', d4_eq hy hy', sep_less, less_append (d2 m) (d2 m') _ _ rfl, d2_less hm hm', d2_eq hm hm',
    sep_less, less_append (d2 d) (d2 d') _ _ rfl, d2_less hd hd', d2_eq hd hd', sep_less, less_append (d2 h) (d2 h') _ _ rfl, d2_less hh hh', d2_eq hh hh',
    sep_less, less_append (d2 mi) (d2 mi') _ _ rfl, d2_less hmi hmi', d2_eq hmi hmi', sep_less, d2_less hs hs']
  simp
theorem textB_inj {y m d h mi s y' m' d' h' mi' s' : Nat} (hy : y < 10000) (hm : m < 100) (hd : d < 100) (hh : h < 100) (hmi : mi < 100) (hs : s < 100)
    (hy' : y' < 10000) (hm' : m' < 100) (hd' : d' < 100) (hh' : h' < 100) (hmi' : mi' < 100) (hs' : s' < 100)
    (e : textB y m d h mi s = textB y' m' d' h' mi' s') : y = y' ∧ m = m' ∧ d = d' ∧ h = h' ∧ mi = mi' ∧ s = s' := by
  have n1 : ¬ civLt y m d h mi s y' m' d' h' mi' s' := by
    rw [← textB_less hy hm hd hh hmi hs hy' hm' hd' hh' hmi' hs', e, less_self]; simp
  have n2 : ¬ civLt y' m' d' h' mi' s' y m d h mi s := by
    rw [← textB_less hy' hm' hd' hh' hmi' hs' hy hm hd hh hmi hs, e, less_self]; simp
  unfold civLt at n1 n2
  omega

/-! times of days, hours, minutes, seconds -/
theorem time_parts (t : Int) (h0 : 0 ≤ t) (h1 : t ≤ 253402300799) :
    0 ≤ t / 86400 ∧ t / 86400 ≤ 2932896 ∧ 0 ≤ t / 3600 % 24 ∧ t / 3600 % 24 < 24 ∧ 0 ≤ t / 60 % 60 ∧ t / 60 % 60 < 60 ∧ 0 ≤ t % 60 ∧ t % 60 < 60 ∧ t = t / 86400 * 86400 + t / 3600 % 24 * 3600 + t / 60 % 60 * 60 + t % 60 := by
  omega
theorem parts_time (N h mi s : Int) (n0 : 0 ≤ N) (n1 : N ≤ 2932896) (h0 : 0 ≤ h) (h1 : h < 24) (m0 : 0 ≤ mi) (m1 : mi < 60) (s0 : 0 ≤ s) (s1 : s < 60) :
    0 ≤ N * 86400 + h * 3600 + mi * 60 + s ∧ N * 86400 + h * 3600 + mi * 60 + s ≤ 253402300799 ∧ (N * 86400 + h * 3600 + mi * 60 + s) / 86400 = N ∧ (N * 86400 + h * 3600 + mi * 60 + s) / 3600 % 24 = h ∧ (N * 86400 + h * 3600 + mi * 60 + s) / 60 % 60 = mi ∧ (N * 86400 + h * 3600 + mi * 60 + s) % 60 = s := by
  omega
end Go.Proofs.YtnhbkfmaaannnaaDoor
