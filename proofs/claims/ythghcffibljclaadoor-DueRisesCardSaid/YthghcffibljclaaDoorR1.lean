/- Texts of this seat, one behind the other: EMath, EText, FText, Math, Pop, Bits, Fold, Iter, Words, All, First, Runs, Of, BackM, FSpec, FThm, FBack, FLaw, FNum, FBase, Wakes, Spans, Ref, Ref2, Last, NextM, Ref3, RunsM, Ref4, Slices, Sets, Joins, Tells, Makes. -/
import GoSem.Op.String
import Derived.Laws.Bits64b
import Derived.Lib.TrailingZeros
import Derived.Test.YthghcffibljclaaDoorRows
import Derived.WalkKit
import Derived.WalkSpells
import Derived.WalkLawsBesides
import Derived.Lib.Hide
import Derived.RangeFuncNested
import Derived.RangeFuncBound
import Derived.RangeFuncCalls
import Derived.RangeFuncLeaves
import Derived.RangeFuncBox
import Derived.Shelf.Abstract
import Derived.Shelf.RegionOpen
import Derived.OwnWalkIn
import Derived.TacticsInMore
import Derived.LoopNIn
import Derived.LoopIn
import Derived.RangeFuncFrom
import Derived.Maps.AppendAt
import Derived.IntWalk
import Derived.Laws.RangeAny
import Derived.Deep.QuietTactic
import Derived.BigQuiet
import Derived.BigRegion
import Derived.WalkMore
import Derived.Deep.Light
import Derived.OwnWalk
import Derived.Laws.AppendOwnNone
import Derived.RegionTactic
import Derived.ChangeAlike
import Derived.Lib.SliceRun
/- Times, plain: civil times and their numbers; texts as bytes, and how they stand. -/
namespace Go.Proofs.YthghcffibljclaaDoor
open Go.Op

/-! bytes that stand ahead of others -/
theorem less_append : ∀ (a b x y : List UInt8), a.length = b.length → bytesLess (a ++ x) (b ++ y) = (bytesLess a b || (a == b && bytesLess x y))
  | [], [], x, y, _ => by simp [bytesLess]
  | [], _ :: _, _, _, h => by simp at h
  | _ :: _, [], _, _, h => by simp at h
  | u :: a, v :: b, x, y, h => by
    have ih := less_append a b x y (by simpa using h)
    simp only [List.cons_append, bytesLess, ih]
    by_cases e : u = v
    · subst e
      simp
    · have h1 : (u == v) = false := by simpa using e
      have h2 : (u :: a == v :: b) = false := by simp [e]
      simp [h1, h2]
theorem less_self : ∀ (x : List UInt8), bytesLess x x = false
  | [] => rfl
  | u :: x => by simp [bytesLess, less_self x]
/-- A digit. -/
def dg (n : Nat) : UInt8 := UInt8.ofNat (48 + n % 10)
theorem dg_nat (n : Nat) : (dg n).toNat = 48 + n % 10 := by
  unfold dg
  rw [UInt8.toNat_ofNat']
  omega
theorem dg_lt (a b : Nat) : decide (dg a < dg b) = decide (a % 10 < b % 10) := by
  rw [decide_eq_decide, UInt8.lt_iff_toNat_lt, dg_nat, dg_nat]; omega
theorem dg_eq (a b : Nat) : (dg a == dg b) = decide (a % 10 = b % 10) := by
  rw [Bool.eq_iff_iff, beq_iff_eq, decide_eq_true_iff]
  constructor
  · intro h
    have := congrArg UInt8.toNat h
    rw [dg_nat, dg_nat] at this; omega
  · intro h
    apply UInt8.toNat_inj.1
    rw [dg_nat, dg_nat, h]
def d2 (n : Nat) : List UInt8 := [dg (n / 10), dg n]
def d4 (n : Nat) : List UInt8 := [dg (n / 1000), dg (n / 100), dg (n / 10), dg n]
theorem d2_less' (a b : Nat) : bytesLess (d2 a) (d2 b) = decide (a % 100 < b % 100) := by
  unfold d2
  simp only [bytesLess, Bool.or_false, Bool.and_false, dg_lt, dg_eq]
  rw [Bool.eq_iff_iff]
  simp
  omega
theorem d2_eq' (a b : Nat) : (d2 a == d2 b) = decide (a % 100 = b % 100) := by
  unfold d2
  rw [List.cons_beq_cons, List.cons_beq_cons, dg_eq, dg_eq]
  rw [Bool.eq_iff_iff]
  simp
  omega
theorem d2_less {a b : Nat} (ha : a < 100) (hb : b < 100) : bytesLess (d2 a) (d2 b) = decide (a < b) := by
  rw [d2_less', Nat.mod_eq_of_lt ha, Nat.mod_eq_of_lt hb]
theorem d2_eq {a b : Nat} (ha : a < 100) (hb : b < 100) : (d2 a == d2 b) = decide (a = b) := by
  rw [d2_eq', Nat.mod_eq_of_lt ha, Nat.mod_eq_of_lt hb]
theorem d4_two (n : Nat) : d4 n = d2 (n / 100) ++ d2 n := by
  unfold d4 d2
  rw [Nat.div_div_eq_div_mul]; rfl
theorem d4_less {a b : Nat} (ha : a < 10000) (hb : b < 10000) : bytesLess (d4 a) (d4 b) = decide (a < b) := by
  rw [d4_two, d4_two, less_append _ _ _ _ (by rfl), d2_less', d2_less', d2_eq', Bool.eq_iff_iff]
  simp
  omega
theorem d4_eq {a b : Nat} (ha : a < 10000) (hb : b < 10000) : (d4 a == d4 b) = decide (a = b) := by
  have h1 := d4_less ha hb
  have h2 := d4_less hb ha
  rw [Bool.eq_iff_iff, beq_iff_eq, decide_eq_true_iff]
  constructor
  · intro e
    rw [e, less_self] at h1 h2
    have h1' := of_decide_eq_false h1.symm
    have h2' := of_decide_eq_false h2.symm
    omega
  · intro e; rw [e]
/-- The text. -/
def textB (y m d h mi s : Nat) : List UInt8 := d4 y ++ (45 :: d2 m ++ (45 :: d2 d ++ (32 :: d2 h ++ (58 :: d2 mi ++ (58 :: d2 s)))))
theorem textB_length (y m d h mi s : Nat) : (textB y m d h mi s).length = 19 := rfl
/-- The order of civil times. -/
def civLt (y m d h mi s y' m' d' h' mi' s' : Nat) : Prop :=
  y < y' ∨ y = y' ∧ (m < m' ∨ m = m' ∧ (d < d' ∨ d = d' ∧ (h < h' ∨ h = h' ∧ (mi < mi' ∨ mi = mi' ∧ s < s'))))
theorem sep_less (c : UInt8) (x y : List UInt8) : bytesLess (c :: x) (c :: y) = bytesLess x y := by simp [bytesLess]
theorem textB_less {y m d h mi s y' m' d' h' mi' s' : Nat} (hy : y < 10000) (hm : m < 100) (hd : d < 100) (hh : h < 100) (hmi : mi < 100) (hs : s < 100)
    (hy' : y' < 10000) (hm' : m' < 100) (hd' : d' < 100) (hh' : h' < 100) (hmi' : mi' < 100) (hs' : s' < 100) :
    bytesLess (textB y m d h mi s) (textB y' m' d' h' mi' s') = true ↔ civLt y m d h mi s y' m' d' h' mi' s' := by
  unfold textB civLt
  simp only [List.cons_append]
  rw [less_append (d4 y) (d4 y') _ _ rfl, d4_less hy hy', d4_eq hy hy', sep_less, less_append (d2 m) (d2 m') _ _ rfl, d2_less hm hm', d2_eq hm hm',
    sep_less, less_append (d2 d) (d2 d') _ _ rfl, d2_less hd hd', d2_eq hd hd', sep_less, less_append (d2 h) (d2 h') _ _ rfl, d2_less hh hh', d2_eq hh hh',
    sep_less, less_append (d2 mi) (d2 mi') _ _ rfl, d2_less hmi hmi', d2_eq hmi hmi', sep_less, d2_less hs hs']
  simp
theorem textB_inj {y m d h mi s y' m' d' h' mi' s' : Nat} (hy : y < 10000) (hm : m < 100) (hd : d < 100) (hh : h < 100) (hmi : mi < 100) (hs : s < 100)
    (hy' : y' < 10000) (hm' : m' < 100) (hd' : d' < 100) (hh' : h' < 100) (hmi' : mi' < 100) (hs' : s' < 100)
    (e : textB y m d h mi s = textB y' m' d' h' mi' s') : y = y' ∧ m = m' ∧ d = d' ∧ h = h' ∧ mi = mi' ∧ s = s' := by
  have n1 : ¬ civLt y m d h mi s y' m' d' h' mi' s' := by
    rw [← textB_less hy hm hd hh hmi hs hy' hm' hd' hh' hmi' hs', e, less_self]; simp
  have n2 : ¬ civLt y' m' d' h' mi' s' y m d h mi s := by
    rw [← textB_less hy' hm' hd' hh' hmi' hs' hy hm hd hh hmi hs, e, less_self]; simp
  unfold civLt at n1 n2
  omega

/-! times of days, hours, minutes, seconds -/
theorem time_parts (t : Int) (h0 : 0 ≤ t) (h1 : t ≤ 253402300799) :
    0 ≤ t / 86400 ∧ t / 86400 ≤ 2932896 ∧ 0 ≤ t / 3600 % 24 ∧ t / 3600 % 24 < 24 ∧ 0 ≤ t / 60 % 60 ∧ t / 60 % 60 < 60 ∧ 0 ≤ t % 60 ∧ t % 60 < 60 ∧ t = t / 86400 * 86400 + t / 3600 % 24 * 3600 + t / 60 % 60 * 60 + t % 60 := by
  omega
theorem parts_time (N h mi s : Int) (n0 : 0 ≤ N) (n1 : N ≤ 2932896) (h0 : 0 ≤ h) (h1 : h < 24) (m0 : 0 ≤ mi) (m1 : mi < 60) (s0 : 0 ≤ s) (s1 : s < 60) :
    0 ≤ N * 86400 + h * 3600 + mi * 60 + s ∧ N * 86400 + h * 3600 + mi * 60 + s ≤ 253402300799 ∧ (N * 86400 + h * 3600 + mi * 60 + s) / 86400 = N ∧ (N * 86400 + h * 3600 + mi * 60 + s) / 3600 % 24 = h ∧ (N * 86400 + h * 3600 + mi * 60 + s) / 60 % 60 = mi ∧ (N * 86400 + h * 3600 + mi * 60 + s) % 60 = s := by
  omega
end Go.Proofs.YthghcffibljclaaDoor
/- Digits read, and texts: what a text of a time says, and that it says it alone. -/
namespace Go.Proofs.YthghcffibljclaaDoor
open Go.Op

def isDg (b : UInt8) : Bool := 48 ≤ b.toNat && b.toNat ≤ 57
/-- What digits say. -/
def valL (l : List UInt8) : Nat := l.foldl (fun n b => 10 * n + (b.toNat - 48)) 0
def digs (l : List UInt8) : Bool := l.all isDg
theorem isDg_dg (n : Nat) : isDg (dg n) = true := by
  unfold isDg; rw [dg_nat]; simp; omega
theorem valL_d2 {n : Nat} (h : n < 100) : valL (d2 n) = n := by
  unfold valL d2; simp [dg_nat]; omega
theorem valL_d4 {n : Nat} (h : n < 10000) : valL (d4 n) = n := by
  unfold valL d4; simp [dg_nat]; omega
theorem digs_d2 (n : Nat) : digs (d2 n) = true := by unfold digs d2; simp [isDg_dg]
theorem digs_d4 (n : Nat) : digs (d4 n) = true := by unfold digs d4; simp [isDg_dg]
theorem valL_snoc (l : List UInt8) (b : UInt8) : valL (l ++ [b]) = 10 * valL l + (b.toNat - 48) := by unfold valL; simp
theorem dg_of {b : UInt8} (h : isDg b = true) (k : Nat) : dg (10 * k + (b.toNat - 48)) = b := by
  unfold isDg at h
  simp at h
  apply UInt8.toNat_inj.1
  rw [dg_nat]; omega
theorem d2_of {a b : UInt8} (ha : isDg a = true) (hb : isDg b = true) : [a, b] = d2 (valL [a, b]) ∧ valL [a, b] < 100 := by
  have h1 := dg_of ha 0
  have h2 := dg_of hb (a.toNat - 48)
  unfold isDg at ha hb
  simp at ha hb
  have e : valL [a, b] = 10 * (a.toNat - 48) + (b.toNat - 48) := by simp [valL]
  rw [e]
  refine ⟨?_, by omega⟩
  unfold d2
  rw [show (10 * (a.toNat - 48) + (b.toNat - 48)) / 10 = 10 * 0 + (a.toNat - 48) by omega, h1, h2]
theorem d4_of {a b c d : UInt8} (ha : isDg a = true) (hb : isDg b = true) (hc : isDg c = true) (hd : isDg d = true) : [a, b, c, d] = d4 (valL [a, b, c, d]) ∧ valL [a, b, c, d] < 10000 := by
  have h1 := dg_of ha 0
  have h2 := dg_of hb (a.toNat - 48)
  have h3 := dg_of hc (10 * (a.toNat - 48) + (b.toNat - 48))
  have h4 := dg_of hd (10 * (10 * (a.toNat - 48) + (b.toNat - 48)) + (c.toNat - 48))
  unfold isDg at ha hb hc hd
  simp at ha hb hc hd
  have e : valL [a, b, c, d] = 10 * (10 * (10 * (a.toNat - 48) + (b.toNat - 48)) + (c.toNat - 48)) + (d.toNat - 48) := by simp [valL]
  rw [e]
  refine ⟨?_, by omega⟩
  unfold d4
  rw [show (10 * (10 * (10 * (a.toNat - 48) + (b.toNat - 48)) + (c.toNat - 48)) + (d.toNat - 48)) / 1000 = 10 * 0 + (a.toNat - 48) by omega,
    show (10 * (10 * (10 * (a.toNat - 48) + (b.toNat - 48)) + (c.toNat - 48)) + (d.toNat - 48)) / 100 = 10 * (a.toNat - 48) + (b.toNat - 48) by omega,
    show (10 * (10 * (10 * (a.toNat - 48) + (b.toNat - 48)) + (c.toNat - 48)) + (d.toNat - 48)) / 10 = 10 * (10 * (a.toNat - 48) + (b.toNat - 48)) + (c.toNat - 48) by omega, h1, h2, h3, h4]
/-- Where the fields stand. -/
theorem fields (y m d h mi s : Nat) : (textB y m d h mi s).take 4 = d4 y ∧ ((textB y m d h mi s).drop 5).take 2 = d2 m ∧ ((textB y m d h mi s).drop 8).take 2 = d2 d ∧
    ((textB y m d h mi s).drop 11).take 2 = d2 h ∧ ((textB y m d h mi s).drop 14).take 2 = d2 mi ∧ ((textB y m d h mi s).drop 17).take 2 = d2 s := ⟨rfl, rfl, rfl, rfl, rfl, rfl⟩
/-- A row of nineteen bytes is a text, if its fields are digits, and its separators those. -/
theorem text_of (l : List UInt8) (hl : l.length = 19) (h0 : digs (l.take 4) = true) (h1 : digs ((l.drop 5).take 2) = true) (h2 : digs ((l.drop 8).take 2) = true) (h3 : digs ((l.drop 11).take 2) = true)
    (h4 : digs ((l.drop 14).take 2) = true) (h5 : digs ((l.drop 17).take 2) = true) (s0 : l[4]? = some 45) (s1 : l[7]? = some 45) (s2 : l[10]? = some 32) (s3 : l[13]? = some 58) (s4 : l[16]? = some 58) :
    l = textB (valL (l.take 4)) (valL ((l.drop 5).take 2)) (valL ((l.drop 8).take 2)) (valL ((l.drop 11).take 2)) (valL ((l.drop 14).take 2)) (valL ((l.drop 17).take 2)) := by
  match l, hl with
  | [a0, a1, a2, a3, a4, a5, a6, a7, a8, a9, a10, a11, a12, a13, a14, a15, a16, a17, a18], _ =>
    simp only [List.take_succ_cons, List.take_zero, List.drop_succ_cons, List.drop_zero, List.getElem?_cons_succ, List.getElem?_cons_zero, Option.some.injEq, List.take_nil] at *
    simp only [digs, List.all_cons, List.all_nil, Bool.and_true, Bool.and_eq_true] at h0 h1 h2 h3 h4 h5
    subst s0 s1 s2 s3 s4
    have e0 := (d4_of h0.1 h0.2.1 h0.2.2.1 h0.2.2.2).1
    have e1 := (d2_of h1.1 h1.2).1
    have e2 := (d2_of h2.1 h2.2).1
    have e3 := (d2_of h3.1 h3.2).1
    have e4 := (d2_of h4.1 h4.2).1
    have e5 := (d2_of h5.1 h5.2).1
    unfold textB
    rw [← e0, ← e1, ← e2, ← e3, ← e4, ← e5]
    rfl
end Go.Proofs.YthghcffibljclaaDoor
/- Texts of fields, plain: numbers, what is cut, what is split at commas. -/
namespace Go.Proofs.YthghcffibljclaaDoor
open Go.Op

/-- The number of a text. -/
def numL (l : List UInt8) : Option Nat := if l = [] ∨ 3 < l.length ∨ (1 < l.length ∧ l.head? = some 48) ∨ digs l = false then none else some (valL l)
/-- A number below 100, as it is written. -/
def dgsN (n : Nat) : List UInt8 := if n < 10 then [dg n] else d2 n
theorem num_dgs {n : Nat} (h : n < 100) : numL (dgsN n) = some n := by
  unfold dgsN
  by_cases h1 : n < 10
  · rw [if_pos h1]
    unfold numL
    rw [if_neg (by simp [digs, isDg_dg])]
    simp [valL, dg_nat]; omega
  · rw [if_neg h1]
    have hz : dg (n / 10) ≠ 48 := by
      intro e
      have := congrArg UInt8.toNat e
      rw [dg_nat] at this
      have h48 : (48 : UInt8).toNat = 48 := rfl
      omega
    unfold numL
    rw [if_neg (by simp [digs_d2]; simp [d2, hz]), valL_d2 h]
theorem dgs_all (n : Nat) : ∀ x ∈ dgsN n, isDg x = true := by
  intro x hx
  unfold dgsN at hx
  split at hx
  · simp at hx; subst hx; exact isDg_dg _
  · unfold d2 at hx; simp at hx; rcases hx with rfl | rfl <;> exact isDg_dg _
theorem dgs_len (n : Nat) : 1 ≤ (dgsN n).length ∧ (dgsN n).length ≤ 2 := by unfold dgsN; split <;> simp [d2]
theorem num_lt {l : List UInt8} {n : Nat} (h : numL l = some n) : n < 1000 := by
  unfold numL at h
  split at h
  · cases h
  · rename_i hc
    cases h
    have hc1 : ¬ 3 < l.length := fun q => hc (.inr (.inl q))
    have hd : digs l = true := by
      cases hh : digs l with
      | false => exact absurd (.inr (.inr (.inr hh))) hc
      | true => rfl
    match l, hd, hc1 with
    | [], _, _ => simp [valL]
    | [a], hd, _ => simp [digs, isDg] at hd; simp [valL]; omega
    | [a, b], hd, _ => simp [digs, isDg] at hd; simp [valL]; omega
    | [a, b, c], hd, _ => simp [digs, isDg] at hd; simp [valL]; omega
    | a :: b :: c :: d :: l, _, hc1 => simp at hc1
/-! cut at the first byte of a kind -/
def cutB : List UInt8 → UInt8 → List UInt8 × Option (List UInt8)
  | [], _ => ([], none)
  | b :: l, c => if b = c then ([], some l) else (b :: (cutB l c).1, (cutB l c).2)
theorem cutB_none : ∀ {l : List UInt8} {c : UInt8}, c ∉ l → cutB l c = (l, none)
  | [], _, _ => rfl
  | b :: l, c, h => by
    have h1 : b ≠ c := fun e => h (by simp [e])
    have h2 : c ∉ l := fun e => h (by simp [e])
    rw [cutB, if_neg h1, cutB_none h2]
theorem cutB_at : ∀ {a : List UInt8} {c : UInt8} (b : List UInt8), c ∉ a → cutB (a ++ c :: b) c = (a, some b)
  | [], c, b, _ => by simp [cutB]
  | x :: a, c, b, h => by
    have h1 : x ≠ c := fun e => h (by simp [e])
    have h2 : c ∉ a := fun e => h (by simp [e])
    rw [List.cons_append, cutB, if_neg h1, cutB_at b h2]
theorem cutB_spec : ∀ (l : List UInt8) (c : UInt8), c ∉ (cutB l c).1 ∧ ((cutB l c).2 = none ∧ (cutB l c).1 = l ∨ ∃ r, (cutB l c).2 = some r ∧ l = (cutB l c).1 ++ c :: r)
  | [], c => by simp [cutB]
  | b :: l, c => by
    obtain ⟨h1, h2⟩ := cutB_spec l c
    rw [cutB]
    by_cases e : b = c
    · rw [if_pos e]; subst e; exact ⟨by simp, .inr ⟨l, rfl, rfl⟩⟩
    · rw [if_neg e]
      refine ⟨by simp [h1]; exact fun q => e q.symm, ?_⟩
      rcases h2 with ⟨a, b'⟩ | ⟨r, a, b'⟩
      · exact .inl ⟨a, by simp [b']⟩
      · exact .inr ⟨r, a, by simpa using b'⟩
/-! split at commas -/
def splitC : List UInt8 → List (List UInt8)
  | [] => [[]]
  | b :: l => if b = 44 then [] :: splitC l else match splitC l with
    | p :: ps => (b :: p) :: ps
    | [] => [[b]]
theorem split_ne (l : List UInt8) : splitC l ≠ [] := by
  cases l with
  | nil => simp [splitC]
  | cons b l =>
    rw [splitC]
    split
    · simp
    · split <;> simp
theorem split_none : ∀ {l : List UInt8}, (44 : UInt8) ∉ l → splitC l = [l]
  | [], _ => rfl
  | b :: l, h => by
    have h1 : b ≠ 44 := fun e => h (by simp [e])
    have h2 : (44 : UInt8) ∉ l := fun e => h (by simp [e])
    rw [splitC, if_neg h1, split_none h2]
theorem split_append : ∀ (a b : List UInt8), splitC (a ++ 44 :: b) = splitC a ++ splitC b
  | [], b => by simp [splitC]
  | x :: a, b => by
    rw [List.cons_append, splitC, splitC, split_append a b]
    by_cases e : x = 44
    · rw [if_pos e, if_pos e]; rfl
    · rw [if_neg e, if_neg e]
      cases h : splitC a with
      | nil => exact absurd h (split_ne a)
      | cons p ps => rfl
/-- By cuts it is split. -/
theorem split_cut (l : List UInt8) : splitC l = (cutB l 44).1 :: (match (cutB l 44).2 with | none => [] | some r => splitC r) := by
  obtain ⟨h1, h2 | ⟨r, h2, h3⟩⟩ := cutB_spec l 44
  · rw [h2.1, ← h2.2, cutB_none h1, split_none h1]
  · rw [h2]
    conv => lhs; rw [h3]
    rw [split_append, split_none h1]; rfl
def joinC : List (List UInt8) → List UInt8
  | [] => []
  | [p] => p
  | p :: q :: ps => p ++ 44 :: joinC (q :: ps)
theorem split_join : ∀ {ps : List (List UInt8)}, ps ≠ [] → (∀ p ∈ ps, (44 : UInt8) ∉ p) → splitC (joinC ps) = ps
  | [], h, _ => absurd rfl h
  | [p], _, h => split_none (h p (by simp))
  | p :: q :: ps, _, h => by
    rw [joinC, split_append, split_none (h p (by simp)), split_join (by simp) (fun x hx => h x (by simp [hx]))]; rfl
/-- Great letters in the place of small ones. -/
def upB (b : UInt8) : UInt8 := if 97 ≤ b.toNat ∧ b.toNat ≤ 122 then b - 32 else b
def upL (l : List UInt8) : List UInt8 := l.map upB
theorem up_digit {b : UInt8} (h : isDg b = true) : upB b = b := by
  unfold isDg at h
  simp at h
  unfold upB
  rw [if_neg (by omega)]
end Go.Proofs.YthghcffibljclaaDoor
/- Plain facts on words of 64 bits: of no program. -/
namespace Go.Proofs.YthghcffibljclaaDoor
open Go

/-- The number that a word of 64 bits is. -/
def U (x : BitVec 64) : Int := (x.toNat : Int)
theorem U_nonneg (x : BitVec 64) : 0 ≤ U x := by unfold U; omega
theorem U_lt (x : BitVec 64) : U x ≤ 18446744073709551615 := by have := x.isLt; unfold U; omega
theorem U_inj {x y : BitVec 64} : U x = U y ↔ x = y := by
  unfold U
  constructor
  · intro h; exact BitVec.eq_of_toNat_eq (by omega)
  · intro h; rw [h]
theorem U_beq (x y : BitVec 64) : (U x == U y) = (x == y) := by
  rw [Bool.eq_iff_iff, beq_iff_eq, beq_iff_eq]; exact U_inj
theorem U_zero : U 0#64 = 0 := rfl
theorem U_of (n : Int) (h0 : 0 ≤ n) (h1 : n ≤ 18446744073709551615) : ∃ x : BitVec 64, n = U x := by
  refine ⟨BitVec.ofNat 64 n.toNat, ?_⟩
  unfold U
  rw [BitVec.toNat_ofNat]
  omega
theorem U_or (x y : BitVec 64) : bits .or .u64 (U x) (U y) = U (x ||| y) := by
  unfold U; rw [bits_or_u64_nat _ _ (by have := x.isLt; omega) (by have := y.isLt; omega), BitVec.toNat_or]
theorem U_and (x y : BitVec 64) : bits .and .u64 (U x) (U y) = U (x &&& y) := by
  unfold U; rw [bits_and_u64_nat _ _ (by have := x.isLt; omega) (by have := y.isLt; omega), BitVec.toNat_and]
theorem U_ofInt (x : BitVec 64) : BitVec.ofInt 64 (U x) = x := by
  unfold U; rw [BitVec.ofInt_natCast]; simp
theorem U_andNot (x y : BitVec 64) : bits .andNot .u64 (U x) (U y) = U (x &&& ~~~y) := by
  show IntKind.u64.wrap ((BitVec.ofInt 64 (U x) &&& ~~~(BitVec.ofInt 64 (U y))).toNat : Int) = _
  rw [U_ofInt, U_ofInt, IntKind.wrap_u64]
  have := (x &&& ~~~y).isLt
  unfold U
  omega
theorem U_bit (n : Nat) (h : n ≤ 63) : IntKind.u64.wrap (2 ^ n) = U (BitVec.twoPow 64 n) := by
  rw [IntKind.wrap_u64]
  have h2 : 2 ^ n < 2 ^ 64 := Nat.pow_lt_pow_right (by decide) (by omega)
  unfold U
  rw [BitVec.toNat_twoPow, Nat.mod_eq_of_lt h2]
  have e : (2 : Int) ^ n = ((2 ^ n : Nat) : Int) := by simp
  rw [e]
  generalize 2 ^ n = t at *
  omega
theorem U_sub_one (x : BitVec 64) : IntKind.u64.wrap (U x - 1) = U (x - 1) := by
  rw [IntKind.wrap_u64]
  unfold U
  rw [BitVec.toNat_sub]
  have := x.isLt
  simp
  omega
theorem U_shl (x : BitVec 64) : IntKind.u64.wrap (U x * 2) = U (x <<< 1) := by
  rw [IntKind.wrap_u64]
  unfold U
  rw [BitVec.toNat_shiftLeft, Nat.shiftLeft_eq]
  omega
theorem U_shr (x : BitVec 64) : U x / (2 : Int) = U (x >>> 1) := by
  unfold U
  rw [BitVec.toNat_ushiftRight, Nat.shiftRight_eq_div_pow]
  omega

/-- What a mask has, rising. -/
def elems (x : BitVec 64) : List Nat := (List.range 64).filter x.getLsbD
/-- How many it has. -/
def pop (x : BitVec 64) : Nat := (List.range 64).countP x.getLsbD
theorem pop_eq (x : BitVec 64) : (elems x).length = pop x := by
  unfold elems pop; rw [List.countP_eq_length_filter]
theorem pop_le (x : BitVec 64) : pop x ≤ 64 := by
  unfold pop; have := List.countP_le_length (p := x.getLsbD) (l := List.range 64); simpa using this
theorem elems_lt {x : BitVec 64} {n : Nat} (h : n ∈ elems x) : n < 64 := by
  unfold elems at h; simp at h; exact h.1
theorem mem_elems {x : BitVec 64} {n : Nat} : n ∈ elems x ↔ x.getLsbD n = true := by
  unfold elems; simp
  intro h
  exact BitVec.lt_of_getLsbD h

/-! the lowest number -/
theorem low (x : BitVec 64) (h : x ≠ 0#64) : ∃ k, Lib.ctz 64 x.toNat = k ∧ k < 64 ∧ x.getLsbD k = true ∧ (∀ i, i < k → x.getLsbD i = false) ∧
    ∀ i, (x &&& (x - 1#64)).getLsbD i = (x.getLsbD i && decide (i ≠ k)) := by
  have h0 : x.toNat ≠ 0 := fun e => h (BitVec.eq_of_toNat_eq e)
  obtain ⟨m, hm, hk⟩ := Lib.ctzFrom_spec 64 x.toNat (by omega) x.isLt
  refine ⟨Lib.ctzFrom 64 x.toNat, by unfold Lib.ctz; rw [if_neg h0], hk, ?_, ?_, ?_⟩
  all_goals generalize Lib.ctzFrom 64 x.toNat = k at hm hk
  · rw [BitVec.getLsbD, hm, Nat.mul_comm, Nat.testBit_mul_two_pow]; simp
  · intro i hi
    rw [BitVec.getLsbD, hm, Nat.mul_comm, Nat.testBit_mul_two_pow]
    simp; omega
  · intro i
    rw [BitVec.getLsbD_and]
    by_cases hi : i < 64
    · have e1 : (x - 1#64).toNat = 2 ^ k * (2 * m) + (2 ^ k - 1) := by
        have hp : 0 < 2 ^ k := Nat.two_pow_pos k
        rw [BitVec.toNat_sub]
        have := x.isLt
        have e2 : 2 ^ k * (2 * m + 1) = 2 ^ k * (2 * m) + 2 ^ k := by rw [Nat.mul_add, Nat.mul_one]
        simp
        omega
      have a1 : x.getLsbD i = (decide (k ≤ i) && (2 * m + 1).testBit (i - k)) := by
        rw [BitVec.getLsbD, hm, Nat.mul_comm, Nat.testBit_mul_two_pow]
      have a2 : (x - 1#64).getLsbD i = (if i < k then (2 ^ k - 1).testBit i else (2 * m).testBit (i - k)) := by
        rw [BitVec.getLsbD, e1, Nat.testBit_two_pow_mul_add _ (by have := Nat.two_pow_pos k; omega)]
      rw [a1, a2]
      by_cases hik : i < k
      · have : ¬ k ≤ i := by omega
        simp [this]
      · rw [if_neg hik]
        have hle : k ≤ i := by omega
        by_cases he : i = k
        · subst he; simp
        · obtain ⟨j, hj⟩ : ∃ j, i - k = j + 1 := ⟨i - k - 1, by omega⟩
          rw [hj, Nat.testBit_succ, Nat.testBit_succ]
          have d1 : (2 * m + 1) / 2 = m := by omega
          have d2 : 2 * m / 2 = m := by omega
          rw [d1, d2]
          simp [he, hle]
    · rw [BitVec.getLsbD_of_ge _ _ (by omega)]; simp

theorem range_split (k : Nat) (h : k < 64) : List.range 64 = List.range' 0 k ++ k :: List.range' (k + 1) (63 - k) := by
  rw [List.range_eq_range']
  have e1 : (64 : Nat) = k + (1 + (63 - k)) := by omega
  conv => lhs; rw [e1]
  rw [← List.range'_append_1, ← List.range'_append_1]
  simp

/-- The least one, and the others behind it. -/
theorem elems_low (x : BitVec 64) (h : x ≠ 0#64) : elems x = Lib.ctz 64 x.toNat :: elems (x &&& (x - 1#64)) := by
  obtain ⟨k, hk, hk64, h1, h2, h3⟩ := low x h
  rw [hk]
  unfold elems
  rw [range_split k hk64, List.filter_append, List.filter_cons, List.filter_append, List.filter_cons]
  have f1 : (List.range' 0 k).filter x.getLsbD = [] := by
    rw [List.filter_eq_nil_iff]; intro i hi; simp at hi; simp [h2 i hi]
  have f2 : (List.range' 0 k).filter (x &&& (x - 1#64)).getLsbD = [] := by
    rw [List.filter_eq_nil_iff]; intro i hi; simp at hi; rw [h3]; simp [h2 i hi]
  have f3 : (List.range' (k + 1) (63 - k)).filter (x &&& (x - 1#64)).getLsbD = (List.range' (k + 1) (63 - k)).filter x.getLsbD := by
    apply List.filter_congr; intro i hi; simp [List.mem_range'] at hi; obtain ⟨j, _, rfl⟩ := hi
    rw [h3]; have : k + 1 + j ≠ k := by omega
    simp [this]
  rw [f1, f2, f3, if_pos h1, if_neg (by rw [h3]; simp)]
  simp
theorem elems_zero : elems 0#64 = [] := by
  unfold elems; rw [List.filter_eq_nil_iff]; intro i _; simp
theorem pop_low (x : BitVec 64) (h : x ≠ 0#64) : pop x = pop (x &&& (x - 1#64)) + 1 := by
  rw [← pop_eq, ← pop_eq, elems_low x h]; simp
end Go.Proofs.YthghcffibljclaaDoor
/- The sum of bits by halves: of no program. -/
namespace Go.Proofs.YthghcffibljclaaDoor
open Go

def val : List Nat → Nat
  | [] => 0
  | a :: l => a + 256 * val l
def Small (l : List Nat) : Prop := ∀ a ∈ l, a < 256
theorem and_split (a c q m : Nat) (ha : a < 256) (hc : c < 256) : (a + 256 * q) &&& (c + 256 * m) = (a &&& c) + 256 * (q &&& m) := by
  have h1 : a &&& c < 2 ^ 8 := Nat.and_lt_two_pow _ (by omega)
  apply Nat.eq_of_testBit_eq
  intro i
  rw [Nat.testBit_and, show a + 256 * q = 2 ^ 8 * q + a by omega, show c + 256 * m = 2 ^ 8 * m + c by omega, show (a &&& c) + 256 * (q &&& m) = 2 ^ 8 * (q &&& m) + (a &&& c) by omega,
    Nat.testBit_two_pow_mul_add _ (by omega), Nat.testBit_two_pow_mul_add _ (by omega), Nat.testBit_two_pow_mul_add _ h1]
  split <;> rw [Nat.testBit_and]

def f1 (b : Nat) : Nat := (b / 2 &&& 85) + (b &&& 85)
def f2 (b : Nat) : Nat := (b / 4 &&& 51) + (b &&& 51)
def f3 (b : Nat) : Nat := (b / 16 + b) &&& 15
def rep (c : Nat) (l : List Nat) : Nat := val (l.map fun _ => c)

theorem m1 : ∀ a : Fin 256, ∀ r : Fin 2, (a.val / 2 + 128 * r.val) &&& 85 = a.val / 2 &&& 85 := by decide +kernel
theorem m2 : ∀ a : Fin 256, ∀ r : Fin 4, (a.val / 4 + 64 * r.val) &&& 51 = a.val / 4 &&& 51 := by decide +kernel
theorem m3 : ∀ a : Fin 256, ∀ r : Fin 5, a.val % 16 ≤ 4 → a.val / 16 ≤ 4 → (a.val / 16 + 16 * r.val + a.val) &&& 15 = f3 a.val := by decide +kernel
theorem l1 : ∀ a : Fin 256, f1 a.val < 256 := by decide +kernel
theorem l2 : ∀ a : Fin 256, f2 (f1 a.val) < 256 ∧ f2 (f1 a.val) % 16 ≤ 4 ∧ f2 (f1 a.val) / 16 ≤ 4 := by decide +kernel

theorem s1 : ∀ l : List Nat, Small l → (val l / 2 &&& rep 85 l) + (val l &&& rep 85 l) = val (l.map f1)
  | [], _ => by simp [val, rep]
  | a :: l, h => by
    have ha : a < 256 := h a (by simp)
    have ih := s1 l (fun b hb => h b (by simp [hb]))
    show ((a + 256 * val l) / 2 &&& (85 + 256 * rep 85 l)) + ((a + 256 * val l) &&& (85 + 256 * rep 85 l)) = f1 a + 256 * val (l.map f1)
    rw [show (a + 256 * val l) / 2 = (a / 2 + 128 * (val l % 2)) + 256 * (val l / 2) by omega, and_split _ _ _ _ (by omega) (by omega), and_split _ _ _ _ ha (by omega), ← ih]
    have := m1 ⟨a, ha⟩ ⟨val l % 2, by omega⟩
    simp only at this
    rw [this]
    unfold f1
    omega
theorem s2 : ∀ l : List Nat, Small l → (val l / 4 &&& rep 51 l) + (val l &&& rep 51 l) = val (l.map f2)
  | [], _ => by simp [val, rep]
  | a :: l, h => by
    have ha : a < 256 := h a (by simp)
    have ih := s2 l (fun b hb => h b (by simp [hb]))
    show ((a + 256 * val l) / 4 &&& (51 + 256 * rep 51 l)) + ((a + 256 * val l) &&& (51 + 256 * rep 51 l)) = f2 a + 256 * val (l.map f2)
    rw [show (a + 256 * val l) / 4 = (a / 4 + 64 * (val l % 4)) + 256 * (val l / 4) by omega, and_split _ _ _ _ (by omega) (by omega), and_split _ _ _ _ ha (by omega), ← ih]
    have := m2 ⟨a, ha⟩ ⟨val l % 4, by omega⟩
    simp only at this
    rw [this]
    unfold f2
    omega
def Nib (l : List Nat) : Prop := ∀ a ∈ l, a < 256 ∧ a % 16 ≤ 4 ∧ a / 16 ≤ 4
theorem head_nib : ∀ l, Nib l → val l % 16 ≤ 4
  | [], _ => by simp [val]
  | a :: l, h => by have := h a (by simp); unfold val; omega
theorem s3 : ∀ l : List Nat, Nib l → (val l / 16 + val l) &&& rep 15 l = val (l.map f3)
  | [], _ => by simp [val, rep]
  | a :: l, h => by
    obtain ⟨ha, ha1, ha2⟩ := h a (by simp)
    have hl : Nib l := fun b hb => h b (by simp [hb])
    have ih := s3 l hl
    have hn := head_nib l hl
    show ((a + 256 * val l) / 16 + (a + 256 * val l)) &&& (15 + 256 * rep 15 l) = f3 a + 256 * val (l.map f3)
    rw [show (a + 256 * val l) / 16 + (a + 256 * val l) = (a / 16 + 16 * (val l % 16) + a) + 256 * (val l / 16 + val l) by omega, and_split _ _ _ _ (by omega) (by omega), ih]
    have := m3 ⟨a, ha⟩ ⟨val l % 16, by omega⟩ ha1 ha2
    simp only at this
    rw [this]

def cnt8 (b : Nat) : Nat := (List.range 8).countP b.testBit
theorem f_cnt : ∀ a : Fin 256, f3 (f2 (f1 a.val)) = cnt8 a.val ∧ cnt8 a.val ≤ 8 := by decide +kernel

theorem cnt_at (x : BitVec 64) (k : Nat) : (List.range' (8 * k) 8).countP x.getLsbD = cnt8 (x.toNat / 2 ^ (8 * k) % 256) := by
  unfold cnt8
  rw [List.range'_eq_map_range, List.countP_map]
  apply List.countP_congr
  intro i hi
  simp at hi
  simp only [Function.comp, BitVec.getLsbD]
  rw [show (256 : Nat) = 2 ^ 8 from rfl, Nat.testBit_mod_two_pow, Nat.testBit_div_two_pow, Nat.add_comm i]
  simp [hi]
theorem pop_bytes (x : BitVec 64) : pop x = cnt8 (x.toNat % 256) + cnt8 (x.toNat / 2 ^ 8 % 256) + cnt8 (x.toNat / 2 ^ 16 % 256) + cnt8 (x.toNat / 2 ^ 24 % 256) + cnt8 (x.toNat / 2 ^ 32 % 256) + cnt8 (x.toNat / 2 ^ 40 % 256) + cnt8 (x.toNat / 2 ^ 48 % 256) + cnt8 (x.toNat / 2 ^ 56 % 256) := by
  unfold pop
  have e : List.range 64 = List.range' (8 * 0) 8 ++ (List.range' (8 * 1) 8 ++ (List.range' (8 * 2) 8 ++ (List.range' (8 * 3) 8 ++ (List.range' (8 * 4) 8 ++ (List.range' (8 * 5) 8 ++ (List.range' (8 * 6) 8 ++ List.range' (8 * 7) 8)))))) := by decide
  rw [e]
  simp only [List.countP_append, cnt_at]
  simp
  omega

/-- The bytes of a word. -/
def bytesOf (x : BitVec 64) : List Nat := [x.toNat % 256, x.toNat / 2 ^ 8 % 256, x.toNat / 2 ^ 16 % 256, x.toNat / 2 ^ 24 % 256, x.toNat / 2 ^ 32 % 256, x.toNat / 2 ^ 40 % 256, x.toNat / 2 ^ 48 % 256, x.toNat / 2 ^ 56 % 256]
theorem val_bytes (x : BitVec 64) : val (bytesOf x) = x.toNat := by
  have := x.isLt
  simp only [bytesOf, val]
  omega
theorem small_bytes (x : BitVec 64) : Small (bytesOf x) := by
  intro a h
  simp [bytesOf] at h
  omega
theorem small_map {l : List Nat} (f : Nat → Nat) (hf : ∀ a : Fin 256, f a.val < 256) (h : Small l) : Small (l.map f) := by
  intro a ha
  simp at ha
  obtain ⟨b, hb, rfl⟩ := ha
  exact hf ⟨b, h b hb⟩
theorem val_lt : ∀ l : List Nat, Small l → val l < 256 ^ l.length
  | [], _ => by simp [val]
  | a :: l, h => by
    have h1 := h a (by simp)
    have h2 := val_lt l (fun b hb => h b (by simp [hb]))
    rw [List.length_cons, Nat.pow_succ]
    show a + 256 * val l < _
    omega
theorem val_small8 (l : List Nat) (h8 : l.length = 8) (h : Small l) : val l < 18446744073709551616 := by
  have := val_lt l h
  rw [h8] at this
  simpa using this
theorem div8 (a q : Nat) (h : a < 256) : (a + 256 * q) / 256 = q := by omega
theorem div16 (a q : Nat) (h : a < 65536) : (a + 65536 * q) / 65536 = q := by omega
theorem div32 (a q : Nat) (h : a < 4294967296) : (a + 4294967296 * q) / 4294967296 = q := by omega
section
variable (a b c d e f g h : Nat)
def w3 : Nat := a + 256 * (b + 256 * (c + 256 * (d + 256 * (e + 256 * (f + 256 * (g + 256 * h))))))
def w4 : Nat := (a + b + 256 * (b + c)) + 65536 * (c + d + 256 * (d + e + 256 * (e + f + 256 * (f + g + 256 * (g + h + 256 * h)))))
def w5 : Nat := (a + b + c + d + 256 * (b + c + d + e) + 65536 * (c + d + e + f) + 16777216 * (d + e + f + g)) + 4294967296 * (e + f + g + h + 256 * (f + g + h + 256 * (g + h + 256 * h)))
def w6 : Nat := (a + b + c + d + e + f + g + h) + 128 * (2 * (b + c + d + e + f + g + h) + 512 * (c + d + e + f + g + h) + 131072 * (d + e + f + g + h) + 33554432 * (e + f + g + h + 256 * (f + g + h + 256 * (g + h + 256 * h))))
theorem w34 (ha : a ≤ 8) : w4 a b c d e f g h = w3 a b c d e f g h + w3 a b c d e f g h / 256 := by
  have q : w3 a b c d e f g h / 256 = b + 256 * (c + 256 * (d + 256 * (e + 256 * (f + 256 * (g + 256 * h))))) := div8 _ _ (by omega)
  rw [q]; unfold w3 w4; clear q; omega
theorem w45 (ha : a ≤ 8) (hb : b ≤ 8) (hc : c ≤ 8) : w5 a b c d e f g h = w4 a b c d e f g h + w4 a b c d e f g h / 65536 := by
  have q : w4 a b c d e f g h / 65536 = c + d + 256 * (d + e + 256 * (e + f + 256 * (f + g + 256 * (g + h + 256 * h)))) := div16 _ _ (by omega)
  rw [q]; unfold w4 w5; clear q; omega
theorem w56 (ha : a ≤ 8) (hb : b ≤ 8) (hc : c ≤ 8) (hd : d ≤ 8) (he : e ≤ 8) (hf : f ≤ 8) (hg : g ≤ 8) : w6 a b c d e f g h = w5 a b c d e f g h + w5 a b c d e f g h / 4294967296 := by
  have q : w5 a b c d e f g h / 4294967296 = e + f + g + h + 256 * (f + g + h + 256 * (g + h + 256 * h)) := div32 _ _ (by omega)
  rw [q]; unfold w5 w6; clear q; omega
theorem wlt (ha : a ≤ 8) (hb : b ≤ 8) (hc : c ≤ 8) (hd : d ≤ 8) (he : e ≤ 8) (hf : f ≤ 8) (hg : g ≤ 8) (hh : h ≤ 8) :
    w3 a b c d e f g h < 18446744073709551616 ∧ w4 a b c d e f g h < 18446744073709551616 ∧ w5 a b c d e f g h < 18446744073709551616 ∧ w6 a b c d e f g h < 18446744073709551616 := by
  unfold w3 w4 w5 w6
  refine ⟨by omega, by omega, by omega, by omega⟩
theorem wmod (ha : a ≤ 8) (hb : b ≤ 8) (hc : c ≤ 8) (hd : d ≤ 8) (he : e ≤ 8) (hf : f ≤ 8) (hg : g ≤ 8) (hh : h ≤ 8) : w6 a b c d e f g h % 128 = a + b + c + d + e + f + g + h := by
  unfold w6
  rw [Nat.add_mul_mod_self_left]
  omega
/-- The four sums behind the third step, of eight counts. -/
theorem tail8 (ha : a ≤ 8) (hb : b ≤ 8) (hc : c ≤ 8) (hd : d ≤ 8) (he : e ≤ 8) (hf : f ≤ 8) (hg : g ≤ 8) (hh : h ≤ 8) :
    ∃ y3 y4 y5 y6 : Nat, y3 = val [a, b, c, d, e, f, g, h] ∧ y4 = y3 + y3 / 256 ∧ y5 = y4 + y4 / 65536 ∧ y6 = y5 + y5 / 4294967296 ∧ y3 < 18446744073709551616 ∧ y4 < 18446744073709551616 ∧ y5 < 18446744073709551616 ∧ y6 < 18446744073709551616 ∧ y6 % 128 = a + b + c + d + e + f + g + h := by
  obtain ⟨l3, l4, l5, l6⟩ := wlt a b c d e f g h ha hb hc hd he hf hg hh
  refine ⟨w3 a b c d e f g h, w4 a b c d e f g h, w5 a b c d e f g h, w6 a b c d e f g h, ?_, w34 _ _ _ _ _ _ _ _ ha, w45 _ _ _ _ _ _ _ _ ha hb hc, w56 _ _ _ _ _ _ _ _ ha hb hc hd he hf hg, l3, l4, l5, l6, wmod _ _ _ _ _ _ _ _ ha hb hc hd he hf hg hh⟩
  unfold w3
  simp only [val, Nat.mul_zero, Nat.add_zero]
end
theorem swar (x : BitVec 64) : ∃ y1 y2 y3 y4 y5 y6 : Nat,
    y1 = (x.toNat / 2 &&& 6148914691236517205) + (x.toNat &&& 6148914691236517205) ∧ y1 < 18446744073709551616 ∧
    y2 = (y1 / 4 &&& 3689348814741910323) + (y1 &&& 3689348814741910323) ∧ y2 < 18446744073709551616 ∧
    y2 / 16 + y2 < 18446744073709551616 ∧ y3 = (y2 / 16 + y2) &&& 1085102592571150095 ∧
    y4 = y3 + y3 / 256 ∧ y5 = y4 + y4 / 65536 ∧ y6 = y5 + y5 / 4294967296 ∧ y3 < 18446744073709551616 ∧ y4 < 18446744073709551616 ∧ y5 < 18446744073709551616 ∧ y6 < 18446744073709551616 ∧ y6 % 128 = pop x := by
  have hs := small_bytes x
  have e1 := s1 _ hs
  have hs1 := small_map f1 l1 hs
  have e2 := s2 _ hs1
  have hn : Nib (((bytesOf x).map f1).map f2) := by
    intro a ha
    simp at ha
    obtain ⟨b, hb, rfl⟩ := ha
    exact l2 ⟨b, hs b hb⟩
  have hs2 : Small (((bytesOf x).map f1).map f2) := fun a ha => (hn a ha).1
  have e3 := s3 _ hn
  rw [val_bytes] at e1
  have c1 : rep 85 (bytesOf x) = 6148914691236517205 := by simp [rep, bytesOf, val]
  have c2 : rep 51 ((bytesOf x).map f1) = 3689348814741910323 := by simp [rep, bytesOf, val]
  have c3 : rep 15 (((bytesOf x).map f1).map f2) = 1085102592571150095 := by simp [rep, bytesOf, val]
  rw [c1] at e1
  rw [c2] at e2
  rw [c3] at e3
  have b1 := val_small8 _ (by simp [bytesOf]) hs1
  have b2 := val_small8 _ (by simp [bytesOf]) hs2
  have b3 : val (((bytesOf x).map f1).map f2) / 16 + val (((bytesOf x).map f1).map f2) < 18446744073709551616 := by
    have h7 := (hn (f2 (f1 (x.toNat / 2 ^ 56 % 256))) (by simp [bytesOf]))
    have h0 := (hn (f2 (f1 (x.toNat % 256))) (by simp [bytesOf]))
    have h1 := (hn (f2 (f1 (x.toNat / 2 ^ 8 % 256))) (by simp [bytesOf]))
    have h2 := (hn (f2 (f1 (x.toNat / 2 ^ 16 % 256))) (by simp [bytesOf]))
    have h3 := (hn (f2 (f1 (x.toNat / 2 ^ 24 % 256))) (by simp [bytesOf]))
    have h4 := (hn (f2 (f1 (x.toNat / 2 ^ 32 % 256))) (by simp [bytesOf]))
    have h5 := (hn (f2 (f1 (x.toNat / 2 ^ 40 % 256))) (by simp [bytesOf]))
    have h6 := (hn (f2 (f1 (x.toNat / 2 ^ 48 % 256))) (by simp [bytesOf]))
    simp only [bytesOf, List.map, val]
    omega
  have hc : ∀ k, k < 256 → f3 (f2 (f1 k)) = cnt8 k ∧ cnt8 k ≤ 8 := fun k hk => f_cnt ⟨k, hk⟩
  have em : (((bytesOf x).map f1).map f2).map f3 = (bytesOf x).map cnt8 := by
    rw [List.map_map, List.map_map]
    exact List.map_congr_left fun a ha => (hc a (hs a ha)).1
  rw [em] at e3
  obtain ⟨y3, y4, y5, y6, r3, r4, r5, r6, q3, q4, q5, q6, q⟩ := tail8 _ _ _ _ _ _ _ _ (hc _ (hs (x.toNat % 256) (by simp [bytesOf]))).2 (hc _ (hs (x.toNat / 2 ^ 8 % 256) (by simp [bytesOf]))).2 (hc _ (hs (x.toNat / 2 ^ 16 % 256) (by simp [bytesOf]))).2 (hc _ (hs (x.toNat / 2 ^ 24 % 256) (by simp [bytesOf]))).2 (hc _ (hs (x.toNat / 2 ^ 32 % 256) (by simp [bytesOf]))).2 (hc _ (hs (x.toNat / 2 ^ 40 % 256) (by simp [bytesOf]))).2 (hc _ (hs (x.toNat / 2 ^ 48 % 256) (by simp [bytesOf]))).2 (hc _ (hs (x.toNat / 2 ^ 56 % 256) (by simp [bytesOf]))).2
  have e3' : (val (((bytesOf x).map f1).map f2) / 16 + val (((bytesOf x).map f1).map f2)) &&& 1085102592571150095 = y3 := by rw [e3, r3]; rfl
  refine ⟨_, _, y3, y4, y5, y6, e1.symm, b1, e2.symm, b2, b3, e3'.symm, r4, r5, r6, q3, q4, q5, q6, ?_⟩
  rw [q, pop_bytes]
end Go.Proofs.YthghcffibljclaaDoor
/- OnesCount64, TrailingZeros64, and the small functions of package mask, walked. -/
namespace Go.Proofs.YthghcffibljclaaDoor
open Go.RowKit

theorem and_c (n c : Nat) (hn : n < 18446744073709551616) (hc : c < 18446744073709551616) : bits .and .u64 (n : Int) (c : Int) = ((n &&& c : Nat) : Int) := bits_and_u64_nat n c hn hc
theorem ones_core (x y1 y2 y2a y3 y4 y5 y6 r : Int) (w : World)
    (e1 : IntKind.u64.wrap (bits BinOp.and IntKind.u64 (x / 2) 6148914691236517205 + bits BinOp.and IntKind.u64 x 6148914691236517205) = y1)
    (e2 : IntKind.u64.wrap (bits BinOp.and IntKind.u64 (y1 / 4) 3689348814741910323 + bits BinOp.and IntKind.u64 y1 3689348814741910323) = y2)
    (e2a : IntKind.u64.wrap (y2 / 16 + y2) = y2a) (e3 : bits BinOp.and IntKind.u64 y2a 1085102592571150095 = y3)
    (e4 : IntKind.u64.wrap (y3 + y3 / 256) = y4) (e5 : IntKind.u64.wrap (y4 + y4 / 65536) = y5) (e6 : IntKind.u64.wrap (y5 + y5 / 4294967296) = y6)
    (e7 : bits BinOp.and IntKind.i64 (wrap64 y6) 127 = r) :
    Calls Tryd.prog 90 #[.int .u64 x] w fun e w' => e = .returned (.int .i64 r) ∧ w = w' := by
  go_enter Tryd.func90, Tryd.ntmps90
  go_wp2
  go_ret
  exact ⟨rfl, rfl⟩
theorem and_i64 (n : Nat) (hn : n < 18446744073709551616) : bits BinOp.and IntKind.i64 (wrap64 (n : Int)) 127 = ((n % 128 : Nat) : Int) := by
  show IntKind.i64.wrap ((BitVec.ofInt 64 (wrap64 (n : Int)) &&& BitVec.ofInt 64 127).toNat : Int) = _
  have h1 : BitVec.ofInt 64 (wrap64 (n : Int)) = BitVec.ofNat 64 n := by
    apply BitVec.eq_of_toNat_eq
    rw [BitVec.toNat_ofInt, BitVec.toNat_ofNat]; unfold wrap64
    omega
  rw [h1, show BitVec.ofInt 64 127 = BitVec.ofNat 64 127 from rfl, BitVec.toNat_and, BitVec.toNat_ofNat, BitVec.toNat_ofNat, Nat.mod_eq_of_lt hn, show (127 % 2 ^ 64 : Nat) = 2 ^ 7 - 1 from rfl,
    Nat.and_two_pow_sub_one_eq_mod, IntKind.wrap_i64]
  omega
theorem ones_any (x : BitVec 64) (w : World) :
    Calls Tryd.prog 90 #[.int .u64 (U x)] w fun e w' => e = .returned (.int .i64 (pop x)) ∧ w = w' := by
  obtain ⟨y1, y2, y3, y4, y5, y6, e1, b1, e2, b2, b3, e3, e4, e5, e6, l3, l4, l5, l6, e7⟩ := swar x
  have hx := x.isLt
  refine ones_core (U x) y1 y2 (y2 / 16 + y2 : Nat) y3 y4 y5 y6 (pop x) w ?_ ?_ ?_ ?_ ?_ ?_ ?_ ?_
  · have h : U x / 2 = ((x.toNat / 2 : Nat) : Int) := by unfold U; omega
    have := and_c (x.toNat / 2) 6148914691236517205 (by omega) (by omega)
    have h2 := and_c x.toNat 6148914691236517205 (by omega) (by omega)
    rw [h, show ((6148914691236517205 : Int)) = ((6148914691236517205 : Nat) : Int) from rfl, this]
    unfold U
    rw [h2, IntKind.wrap_u64]
    omega
  · have h := and_c (y1 / 4) 3689348814741910323 (by omega) (by omega)
    have h2 := and_c y1 3689348814741910323 (by omega) (by omega)
    rw [show (y1 : Int) / 4 = ((y1 / 4 : Nat) : Int) by omega, show ((3689348814741910323 : Int)) = ((3689348814741910323 : Nat) : Int) from rfl, h, h2, IntKind.wrap_u64]
    omega
  · rw [IntKind.wrap_u64]; omega
  · have h := and_c (y2 / 16 + y2) 1085102592571150095 (by omega) (by omega)
    rw [show ((1085102592571150095 : Int)) = ((1085102592571150095 : Nat) : Int) from rfl, h, e3]
  · rw [IntKind.wrap_u64]; omega
  · rw [IntKind.wrap_u64]; omega
  · rw [IntKind.wrap_u64]; omega
  · rw [and_i64 _ l6, e7]
theorem count_any (x : BitVec 64) (w : World) :
    Calls Tryd.prog 84 #[.int .u64 (U x)] w fun e w' => e = .returned (.int .i64 (pop x)) ∧ w = w' := by
  go_enter Tryd.func84, Tryd.ntmps84
  go_wp2_with (go_at_call 90; refine (ones_any _ _).mono ?_; rintro e w' ⟨rfl, rfl⟩)
  go_ret
  exact ⟨rfl, rfl⟩

/-! TrailingZeros64 -/
/-- The table in its variable. -/
def Tab (w : World) : Prop := ∀ j, j < Lib.deBruijn64tab.length → w.cell? ⟨3, j, none⟩ = some (.int .u8 (Lib.deBruijn64tab.getD j 0))
theorem tz_core (x k idx : Nat) (w : World) (hx0 : ((x : Int) == 0) = false)
    (key : IntKind.u64.wrap (bits BinOp.and IntKind.u64 (x : Int) (IntKind.u64.wrap (-(x : Int))) * 285870213051353865) / 288230376151711744 = (idx : Int))
    (hi : idx < 64) (hk : k < 64) (hcell : w.cell? ⟨3, idx, none⟩ = some (.int .u8 k)) :
    Calls Tryd.prog 92 #[.int .u64 x] w fun e w' => e = .returned (.int .i64 k) ∧ w = w' := by
  go_enter Tryd.func92, Tryd.ntmps92
  go_wp2_with (simp only [key])
  go_ret
  exact ⟨rfl, rfl⟩
theorem tz_key (x a : Nat) (hx : x < 18446744073709551616) (hx0 : x ≠ 0) (hlow : x &&& (18446744073709551616 - x) = a) :
    IntKind.u64.wrap (bits BinOp.and IntKind.u64 (x : Int) (IntKind.u64.wrap (-(x : Int))) * 285870213051353865) / 288230376151711744 = ((a * 285870213051353865 % 18446744073709551616 / 288230376151711744 : Nat) : Int) := by
  have e1 : IntKind.u64.wrap (-(x : Int)) = ((18446744073709551616 - x : Nat) : Int) := by rw [IntKind.wrap_u64]; omega
  rw [e1, bits_and_u64_nat x _ hx (by omega), hlow, IntKind.wrap_u64]
  omega
theorem tz_any (x : BitVec 64) (w : World) (h0 : x ≠ 0#64) (hT : Tab w) :
    Calls Tryd.prog 92 #[.int .u64 (U x)] w fun e w' => e = .returned (.int .i64 (Lib.ctz 64 x.toNat)) ∧ w = w' := by
  have hx0 : x.toNat ≠ 0 := fun e => h0 (BitVec.eq_of_toNat_eq e)
  obtain ⟨hlow, hk⟩ := Lib.lowest_bit 64 x.toNat hx0 x.isLt
  obtain ⟨hi, htab⟩ := Lib.deBruijn64_at _ hk
  have hcell := hT _ hi
  rw [htab] at hcell
  exact tz_core x.toNat _ _ w (by simp; omega) (tz_key x.toNat _ x.isLt hx0 hlow) hi hk hcell

/-! fits, bit, Has -/
theorem fits_yes (n : Int) (w : World) (h0 : 0 ≤ n) (h1 : n ≤ 63) :
    Calls Tryd.prog 81 #[.int .i64 n] w fun e w' => e = .returned (.bool true) ∧ w = w' := by
  go_enter Tryd.func81, Tryd.ntmps81
  go_wp2
  go_ret
  exact ⟨rfl, rfl⟩
theorem fits_no (n : Int) (w : World) (h : n < 0 ∨ 63 < n) :
    Calls Tryd.prog 81 #[.int .i64 n] w fun e w' => e = .returned (.bool false) ∧ w = w' := by
  rcases h with h | h
  · have h1 : decide (0 ≤ n) = false := by simp; omega
    go_enter Tryd.func81, Tryd.ntmps81
    go_wp2
    go_ret
    exact ⟨rfl, rfl⟩
  · have h0 : 0 ≤ n := by omega
    have h1 : decide (n ≤ 63) = false := by simp; omega
    go_enter Tryd.func81, Tryd.ntmps81
    go_wp2
    go_ret
    exact ⟨rfl, rfl⟩
theorem bit_any (n : Nat) (w : World) (h : n ≤ 63) :
    Calls Tryd.prog 68 #[.int .i64 n] w fun e w' => e = .returned (.int .u64 (U (BitVec.twoPow 64 n))) ∧ w = w' := by
  go_enter Tryd.func68, Tryd.ntmps68
  go_wp2
  go_ret
  exact ⟨by rw [← U_bit n h]; simp, rfl⟩
end Go.Proofs.YthghcffibljclaaDoor
/- Or, And, Less. -/
namespace Go.Proofs.YthghcffibljclaaDoor
open Go.RowKit

/-- A slice of n elements of one cell each reads f 0, .., f (n - 1). -/
def Arr (w : World) (A : Option Addr) (n : Nat) (f : Nat → Value) : Prop := ∀ k, k < n → ∃ b off, A = some ⟨b, off, none⟩ ∧ w.cell? ⟨b, off + k, none⟩ = some (f k)

theorem below_cell {W w1 : World} {B : Nat} (hb : Below B W w1) : (∀ b o, b < B → w1.cell? ⟨b, o, none⟩ = W.cell? ⟨b, o, none⟩) ∧ (∀ b o, b < B → w1.frozen? ⟨b, o, none⟩ = W.frozen? ⟨b, o, none⟩) :=
  ⟨fun b o h => hb.cell (p := ⟨b, o, none⟩) h, fun b o h => hb.frozen (p := ⟨b, o, none⟩) h⟩

/-- The k-th of them. -/
def nth (l : List (BitVec 64)) (k : Nat) : BitVec 64 := l.getD k 0
/-- What they come to, one behind the other. -/
def folds (g : BitVec 64 → BitVec 64 → BitVec 64) : List (BitVec 64) → BitVec 64 → BitVec 64
  | [], m => m
  | x :: l, m => folds g l (g m x)
theorem folds_take (g : BitVec 64 → BitVec 64 → BitVec 64) (l : List (BitVec 64)) (m : BitVec 64) (k : Nat) (h : k < l.length) : folds g (l.take (k + 1)) m = g (folds g (l.take k) m) (nth l k) := by
  induction l generalizing m k with
  | nil => simp at h
  | cons a l ih =>
    cases k with
    | zero => simp [folds, nth]
    | succ k => simp only [List.take_succ_cons, folds]; rw [ih _ _ (by simpa using h)]; rfl

/-- The step of or. -/
def g_or : BitVec 64 → BitVec 64 → BitVec 64 := fun x y => x ||| y
/-- The step of and. -/
def g_and : BitVec 64 → BitVec 64 → BitVec 64 := fun x y => x &&& y
/-- The step of less. -/
def g_less : BitVec 64 → BitVec 64 → BitVec 64 := fun x y => x &&& ~~~y
theorem step_less (x y : BitVec 64) (w : World) :
    Calls Tryd.prog 63 #[.int .u64 (U x), .int .u64 (U y)] w fun e w' => e = .returned (.int .u64 (U (g_less x y))) ∧ w = w' := by
  go_enter Tryd.func63, Tryd.ntmps63
  go_wp2
  go_ret
  exact ⟨by show Ending.returned (.int .u64 (bits _ .u64 (U x) (U y))) = _; rw [U_andNot]; rfl, rfl⟩
set_option maxHeartbeats 400000 in
theorem fold_less (A : Option Addr) (n c : Nat) (xs : List (BitVec 64)) (m : BitVec 64) (w : World) (hx : xs.length = n) (hn : n ≤ maxLen) (hc : Arr w A n (fun k => .int .u64 (U (nth xs k)))) :
    Calls Tryd.prog 62 #[.func (.func 63) #[] #[], .int .u64 (U m), .slice A n c] w fun e w' => e = .returned (.int .u64 (U (folds g_less xs m))) ∧ w = w' := by
  unfold maxLen at hn
  have Hx := Lib.hid hx; clear hx
  go_enter Tryd.func62, Tryd.ntmps62
  go_wp2
  go_loop [1, 11] (fun v i => ∃ k : Nat, k ≤ n ∧ i = .int .i64 k ∧ v = .int .u64 (U (folds g_less (xs.take k) m))) (fun _ i => n - (intOf i).toNat)
  case atStart => exact ⟨0, Nat.zero_le _, rfl, rfl⟩
  case round =>
    obtain ⟨k, hk, rfl, rfl⟩ := hrel
    by_cases hlt : k < n
    · obtain ⟨b, off, rfl, hcell⟩ := hc k hlt
      have H := Lib.hid (folds_take g_less xs m k (by rw [Hx.out]; omega)); clear hc
      dsimp only at hcell
      go_wp2_with (go_at_call 63; refine (step_less _ _ _).mono ?_; rintro e w' ⟨rfl, rfl⟩)
      go_round
      case rel => exact ⟨k + 1, by omega, by go_num, by rw [H.out]⟩
      case measure => simp [intOf]; omega
    · obtain rfl : k = n := by omega
      clear hc
      go_wp2
      go_ret
      exact ⟨by rw [List.take_of_length_le (by rw [Hx.out]; exact Nat.le_refl _)]; rfl, rfl⟩

theorem arr_one (w : World) (t : TypeId) (v : Value) : Arr (w.alloc (.cells #[v] t)) (some ⟨w.heap.size, 0, none⟩) 1 (fun _ => v) := by
  intro k hk
  obtain rfl : k = 0 := by omega
  exact ⟨_, _, rfl, by go_simp⟩
theorem less_any (x y : BitVec 64) (w : World) :
    Calls Tryd.prog 57 #[.int .u64 (U x), .int .u64 (U y)] w fun e w' => e = .returned (.int .u64 (U (x &&& ~~~y))) ∧ Below w.heap.size w w' := by
  have h := fold_less (some ⟨w.heap.size, 0, none⟩) 1 1 [y] x (w.alloc (.cells #[.int .u64 (U y)] 24)) rfl (by decide) (fun k hk => by obtain rfl : k = 0 := (by omega); exact arr_one w _ _ 0 hk)
  have H := Lib.hid h; clear h
  go_enter Tryd.func57, Tryd.ntmps57
  go_wp2_with (go_at_call 62; refine H.out.mono ?_; rintro e w' ⟨rfl, rfl⟩)
  go_ret
  exact ⟨rfl, (Below.refl _ _).alloc (Nat.le_refl _) _⟩
end Go.Proofs.YthghcffibljclaaDoor
/- numbers: what a mask has, told by a function over which one ranges. -/
namespace Go.Proofs.YthghcffibljclaaDoor
open Go.RowKit Go.Shelf

attribute [local go_sem] Oper.semAt_some

/-- Its own measure: how many are left. -/
def leftOf (v : Value) : Nat := pop (BitVec.ofInt 64 (intOf v))
theorem leftOf_U (y : BitVec 64) : leftOf (.int .u64 (U y)) = pop y := by
  unfold leftOf intOf
  simp only
  rw [U_ofInt]
theorem Tab.below {w w' : World} (h : Tab w) {B : Nat} (hB : 3 < B) (hb : Below B w w') : Tab w' := fun j hj => (hb.cell (p := ⟨3, j, none⟩) hB).trans (h j hj)

set_option maxRecDepth 100000 in
set_option maxHeartbeats 2000000 in
theorem numbers1_in (n : Nat) (hn : 1 ≤ n) (l B n₀ : Nat) (x : BitVec 64) (J Jx : List Nat → World → Prop) (hb0 : 3 < n₀)
    (hY : ∀ pre k W, J pre W → pre.length < 64 → YieldAt Fence.wide (n - 1) Tryd.prog l #[.int .i64 ((k : Nat) : Int)] W fun e W' =>
      (e = .returned (.bool true) ∧ J (pre ++ [k]) W' ∧ Below n₀ W W') ∨ (e = .returned (.bool false) ∧ Jx (pre ++ [k]) W'))
    (W : World) (hB : W.cell? ⟨B, 0, none⟩ = some (.int .u64 (U x))) (hT : Tab W) (h0 : J [] W) :
    CallsIn Fence.wide n Tryd.prog 91 #[.func (.yield l) #[] #[], .pointer (some ⟨B, 0, none⟩)] W fun e W' => (∃ v, e = .returned v) ∧
      ((∃ ys, ys = elems x ∧ J ys W') ∨ (∃ pre, pre <+: elems x ∧ Jx pre W')) := by
  refine callsIn_of_wp Tryd.func91 rfl trivial ?_ rfl
  simp only [Tryd.ntmps91, List.size_toArray, List.length_cons, List.length_nil, Nat.reduceAdd, Nat.reduceSub, Array.replicate_succ, Array.replicate_zero, List.push_toArray, List.append_toArray, List.nil_append, List.cons_append]
  gi_wp2
  gi_loopw [3] (fun p wr => ∃ (pre : List Nat) (y : BitVec 64), p = .int .u64 (U y) ∧ elems x = pre ++ elems y ∧ J pre wr ∧ Tab wr)
    (fun p _ => leftOf p)
  case atStart => exact ⟨[], x, rfl, rfl, h0, hT⟩
  case round =>
    obtain ⟨pre, y, rfl, hx, hJs, hTs⟩ := hrel
    by_cases hy : y = 0#64
    · subst hy
      have hz : (U 0#64 != 0) = false := by rw [U_zero]; rfl
      have Hx := Lib.hid hx; clear hx
      gi_wp2
      go_end0
      exact ⟨⟨_, rfl⟩, .inl ⟨pre, by have := Hx.out; rw [elems_zero] at this; simpa using this.symm, hJs⟩⟩
    · have hz : (U y != 0) = true := by rw [bne_iff_ne, ← U_zero]; exact fun e => hy (U_inj.1 e)
      have Hx := Lib.hid (hx.trans (by rw [elems_low y hy])); clear hx
      have hlen : pre.length < 64 := by
        have h := congrArg List.length Hx.out
        have := pop_le x
        rw [← pop_eq] at this
        simp at h
        omega
      obtain ⟨fn, tmps, assign, body, hyy, hR⟩ := hY pre (Lib.ctz 64 y.toNat) wr hJs hlen
      have Hp := Lib.hid (pop_low y hy)
      have Ha := Lib.hid (show bits .and .u64 (U y) (IntKind.u64.wrap (U y - 1)) = U (y &&& (y - 1#64)) by rw [U_sub_one]; exact U_and y (y - 1#64))
      have hy' := Lib.hid hy; clear hy
      gi_wp2_with (refine ⟨trivial, ?_⟩; gi_at_call 92; refine (callsIn_wide.2 (tz_any y _ hy'.out hTs)).mono ?_; rintro e w' ⟨rfl, rfl⟩)
      refine hR.mono ?_
      rintro e W3 (⟨rfl, hJ3, hk3⟩ | ⟨rfl, hJx3⟩)
      · gi_wp2
        go_roundw
        case rel => exact ⟨pre ++ [Lib.ctz 64 y.toNat], y &&& (y - 1#64), by rw [← Ha.out], by rw [Hx.out]; simp, hJ3, hTs.below hb0 hk3⟩
        case measure => rw [Ha.out, leftOf_U, leftOf_U, Hp.out]; omega
      · gi_wp2
        refine bodyPost_ret (results_none rfl _ _ _) rfl ?_
        exact ⟨⟨_, rfl⟩, .inr ⟨_, ⟨elems (y &&& (y - 1#64)), by rw [Hx.out]; simp⟩, hJx3⟩⟩

set_option maxHeartbeats 1000000 in
theorem numbers_in (n : Nat) (x : BitVec 64) (w : World) :
    CallsIn Fence.wide n Tryd.prog 85 #[.int .u64 (U x)] w fun e w' => e = .returned (.func (.func 91) #[] #[.pointer (some ⟨w.heap.size, 0, none⟩)]) ∧ w' = w.alloc (.cells #[.int .u64 (U x)] 24) := by
  refine callsIn_of_wp Tryd.func85 rfl trivial ?_ rfl
  simp only [Tryd.ntmps85, List.size_toArray, List.length_cons, List.length_nil, Nat.reduceAdd, Nat.reduceSub, Array.replicate_succ, Array.replicate_zero, List.push_toArray, List.append_toArray, List.nil_append, List.cons_append]
  gi_wp2
  go_ret
  exact ⟨rfl, rfl⟩
/-- What it hands back tells just these numbers, whatever the loop's body does above n₀. -/
theorem numbers_stops (n : Nat) (hn : 1 ≤ n) (B n₀ : Nat) (x : BitVec 64) (w : World) (hb0 : 3 < n₀) (hn0 : n₀ ≤ w.heap.size) (hBl : B < w.heap.size) (hB : w.cell? ⟨B, 0, none⟩ = some (.int .u64 (U x))) (hT : Tab w) :
    SeqStopsK Fence.wide n Tryd.prog 91 #[.pointer (some ⟨B, 0, none⟩)] (fun k : Nat => #[.int .i64 (k : Int)]) (Below n₀) (fun ys => ys = elems x) (fun pre => pre <+: elems x) 64 w :=
  fun l J Jx W hW _ _ hY h0 => numbers1_in n hn l B n₀ x J Jx hb0 hY W ((hW.cell (p := ⟨B, 0, none⟩) hBl).trans hB) (hT.below (Nat.lt_of_lt_of_le hb0 hn0) hW) h0
end Go.Proofs.YthghcffibljclaaDoor
/- Words for memory. -/
namespace Go.Proofs.YthghcffibljclaaDoor
open Go.RowKit Go.Shelf

theorem cell_new1 (W : World) (v : Value) (t : TypeId) : (W.alloc (.cells #[v] t)).cell? ⟨W.heap.size, 0, none⟩ = some v ∧ (W.alloc (.cells #[v] t)).frozen? ⟨W.heap.size, 0, none⟩ = false := by
  constructor <;> go_simp
theorem cell_alloc1 {W : World} {a : Addr} {v : Value} (o : Obj) (h : W.cell? a = some v) : (W.alloc o).cell? a = some v :=
  cell_kept h (World.grownBy_alloc W o none) (fun r e => by cases e)
/-- The block b is one cell: v, not frozen. -/
def OneCell (W : World) (b : Nat) (v : Value) : Prop := W.cell? ⟨b, 0, none⟩ = some v ∧ W.frozen? ⟨b, 0, none⟩ = false
theorem OneCell.new (W : World) (v : Value) (t : TypeId) : OneCell (W.alloc (.cells #[v] t)) W.heap.size v := by
  constructor <;> go_simp
theorem OneCell.kept {W W' : World} {b : Nat} {v : Value} {row : Option Nat} (h : OneCell W b v) (hg : W.grownBy W' row) (hr : ∀ r, row = some r → ∃ o : Obj, W.heap[r]? = some o ∧ o.isCells = false) : OneCell W' b v :=
  ⟨cell_kept h.1 hg hr, (frozen_kept h.1 hg hr).trans h.2⟩
theorem OneCell.lt {W : World} {b : Nat} {v : Value} (h : OneCell W b v) : b < W.heap.size := by
  rcases Nat.lt_or_ge b W.heap.size with hl | hl
  · exact hl
  · have := h.1; unfold World.cell? at this; rw [Array.getElem?_eq_none (by simpa using hl)] at this; simp at this
theorem OneCell.alloc {W : World} {b : Nat} {v : Value} (h : OneCell W b v) (o : Obj) : OneCell (W.alloc o) b v := by
  have hl := h.lt
  exact ⟨(World.cell?_alloc_lt W o ⟨b, 0, none⟩ hl).trans h.1, ((below_cell ((Below.refl W.heap.size W).alloc (Nat.le_refl _) o)).2 b 0 hl).trans h.2⟩
theorem OneCell.below {W W' : World} {b B : Nat} {v : Value} (h : OneCell W b v) (hb : Below B W W') (hB : b < B) : OneCell W' b v :=
  ⟨((below_cell hb).1 b 0 hB).trans h.1, ((below_cell hb).2 b 0 hB).trans h.2⟩
theorem OneCell.set {W : World} {b : Nat} {v : Value} (h : OneCell W b v) (u : Value) : OneCell (W.setCell ⟨b, 0, none⟩ u) b u :=
  ⟨World.cell?_setCell_same' _ _ _ (by rw [h.1]; rfl), by rw [World.frozen?_setCell]; exact h.2⟩
theorem OneCell.set_other {W : World} {b c : Nat} {v : Value} (h : OneCell W b v) (u : Value) (hne : b ≠ c) : OneCell (W.setCell ⟨c, 0, none⟩ u) b v :=
  ⟨(World.cell?_setCell_other W _ _ u (fun e => by injection e; omega)).trans h.1, by rw [World.frozen?_setCell]; exact h.2⟩
theorem OneCell.own {b : Nat} {v : Value} : Own (fun (_ : List Nat) W => OneCell W b v) := fun _ _ _ _ hs hg hr => hs.kept hg hr
end Go.Proofs.YthghcffibljclaaDoor
/- All. -/
namespace Go.Proofs.YthghcffibljclaaDoor
open Go.RowKit Go.Shelf

attribute [local go_sem] Oper.semAt_some

/-- A number as a cell. -/
def ienc (k : Nat) : Value := .int .i64 (k : Int)
theorem info_int : (Tryd.prog.info? 3).map (fun i => (i.zero, i.size, i.bytes)) = some (some (.int .i64 0), 1, 8) := by kernel_rfl

set_option maxRecDepth 100000 in
set_option maxHeartbeats 2000000 in
theorem all_in (n : Nat) (hn : 3 ≤ n) (x : BitVec 64) (w : World) (hT : Tab w) (hg : 3 < w.heap.size) :
    CallsIn Fence.wide n Tryd.prog 73 #[.int .u64 (U x)] w fun e W' => ∃ v, e = .returned v ∧ W'.ownsRow w.heap.size 3 1 v (elems x).length ((elems x).map ienc) ∧ Below w.heap.size w W' := by
  have h1 : 1 ≤ n := by omega
  have hp := pop_le x
  obtain ⟨i0, hi, hz0, hz1, hz2⟩ := info_parts info_int
  refine callsIn_of_wp_marks Tryd.func73 rfl trivial ?_ rfl
  simp only [Tryd.ntmps73, List.size_toArray, List.length_cons, List.length_nil, Nat.reduceAdd, Nat.reduceSub, Array.replicate_succ, Array.replicate_zero, List.push_toArray, List.append_toArray, List.nil_append, List.cons_append]
  gi_wp2_with (first
    | (refine ⟨trivial, ?_⟩; gi_at_call 84; refine (callsIn_wide.2 (count_any x _)).mono ?_; rintro e w' ⟨rfl, rfl⟩)
    | (gi_at_make; refine wpListIn_make_own _ rfl _ _ 130 rfl w.heap.size 3 i0 (.int .i64 0) 1 Tryd.underlying130 hi hz0 hz1 _ _ _ (pop x) rfl rfl rfl (by rw [hz2]; omega) (by unfold maxLen; omega) (Nat.le_refl _) ?_; intro w1 hown hgrow)
    | (refine ⟨trivial, ?_⟩; gi_at_call 85; refine (numbers_in (n - 1) _ _).mono ?_; rintro e w' ⟨rfl, rfl⟩))
  have hB1 : Below w.heap.size w w1 := (Below.refl w.heap.size w).grown hgrow (Nat.le_refl _) (fun j e => by cases e)
  have hle := hB1.size
  have bO := Boxed.new w1 130 (.slice (some ⟨w.heap.size, 0, none⟩) 0 (pop x))
  have bN := Boxed.new (w1.alloc (.cells #[.slice (some ⟨w.heap.size, 0, none⟩) 0 (pop x)] 130)) 24 (.int .u64 (U x))
  rw [World.size_alloc] at bN
  have hB0 : Below w.heap.size w ((w1.alloc (.cells #[.slice (some ⟨w.heap.size, 0, none⟩) 0 (pop x)] 130)).alloc (.cells #[.int .u64 (U x)] 24)) := (hB1.alloc hle _).alloc (by simp; omega) _
  have hT0 := hT.below hg hB0
  have hlen : (elems x).length ≤ 64 := by rw [pop_eq]; exact hp
  refine wpIn_rangeFunc_ownG rfl h1 (gf := 91) (lb := #[.pointer (some ⟨w1.heap.size + 1, 0, none⟩)]) rfl trivial (enters_of Tryd.func91 (by kernel_rfl) rfl)
    (numbers_stops (n - 1) (by omega) (w1.heap.size + 1) w.heap.size x _ hg (by simp; omega) (by simp) bN.cell hT0) belowK_t (belowK_b (by simp; omega)) (Below.refl _ _) (fun _ => rfl)
    (fun (pre : List Nat) W => (∃ v, Boxed W w1.heap.size 130 v ∧ W.ownsRow w.heap.size 3 1 v pre.length (pre.map ienc) ∧ True) ∧ Below w.heap.size w W)
    (fun _ _ _ => False)
    (OwnFrom.and (Own.from (holdsRow_own w.heap.size w1.heap.size 130 3 1 (fun (pre : List Nat) => pre.length) (fun pre => pre.map ienc) (fun _ _ => True)) _) (ownFrom_below (Nat.le_refl _) (by simp; omega)))
    (fun _ _ _ _ _ hs _ _ => hs)
    ⟨⟨_, bO.alloc _, (hown.alloc _).alloc _, trivial⟩, hB0⟩
    (fun k => { tmps := #[.int .u64 (U x), undef, .slice none 0 0, .pointer (some ⟨w1.heap.size, 0, none⟩), .int .i64 ((k : Nat) : Int), .int .u64 (U x), .int .i64 (pop x : Nat), .slice (some ⟨w.heap.size, 0, none⟩) 0 (pop x), .int .u64 (U x), .func (.func 91) #[] #[.pointer (some ⟨w1.heap.size + 1, 0, none⟩)], .int .i64 ((k : Nat) : Int), undef, undef, undef, undef, undef], defers := [] }) ?assign ?body ?done ?stop
  case assign =>
    intro l k W K hK
    gi_wp2
    exact hK
  case body =>
    rintro l pre k W ⟨⟨v, hv, hrow, _⟩, hB⟩ hlt
    have hc := hv.cell
    gi_wp2_with (gi_at_builtin; refine wpListIn_append_own _ rfl _ _ 130 rfl w.heap.size 3 i0 (.int .i64 0) 1 8 Tryd.underlying130 hi hz0 hz1 hz2 rfl (by decide) _ _ _ rfl (hrow.alloc _) ⟨W.heap.size, 0, none⟩ 1 1 [.int .i64 (k : Int)] rfl rfl (cell_one_new _ _ _) (by simp [Value.oneCell']) (by unfold maxLen; omega) (by omega) (by have := hB.size; simp; omega) ?_; intro v' w2 hown' hgrow' _; obtain ⟨g', cap', rfl⟩ := ownsRow_succ hown'; obtain ⟨hv1, hv2, hr2, hk2, hb2⟩ := hv.appended (by decide) hrow hB.size hle hown' hgrow'; have hc1 := hv1.cell; have hf1 := hv1.frozen)
    exact ⟨hk2.from _, hb2, ⟨_, hv2, by simpa [ienc] using hr2, trivial⟩, hB.trans hb2⟩
  case done =>
    rintro D ys W hD rfl ⟨⟨v, hv, hrow, _⟩, hB⟩ hK
    have hc := hv.cell
    gi_wp2
    refine ⟨by simp, .inl ⟨_, _, rfl, run_takeDeferred hK, ?_⟩⟩
    exact ⟨_, results_tmp rfl _ _ _, v, rfl, ownsRow_putObj hrow _ hK rfl, hB.trans (belowK_b (w := w) (Nat.le_refl _) W D _ _ (by simp at hD; omega) hK rfl rfl)⟩
  case stop =>
    rintro D c pre W _ _ h _
    exact h.elim
theorem all_any (x : BitVec 64) (w : World) (hT : Tab w) (hg : 3 < w.heap.size) :
    Calls Tryd.prog 73 #[.int .u64 (U x)] w fun e W' => ∃ v, e = .returned v ∧ W'.ownsRow w.heap.size 3 1 v (elems x).length ((elems x).map ienc) ∧ Below w.heap.size w W' :=
  callsIn_wide.1 (all_in 3 (by omega) x w hT hg)
end Go.Proofs.YthghcffibljclaaDoor
/- First, Last, Round. -/
namespace Go.Proofs.YthghcffibljclaaDoor
open Go.RowKit Go.Shelf

attribute [local go_sem] Oper.semAt_some

/-- A number, and true; or 0, and false. -/
def some2 (o : Option Nat) : Value := .tuple #[.int .i64 ((o.getD 0 : Nat) : Int), .bool o.isSome]
/-- The least one from from on. -/
def least (x : BitVec 64) (b : Int) : Option Nat := (elems x).find? (fun k => decide (b ≤ (k : Int)))
theorem find_prefix {p : Nat → Bool} : ∀ {l pre : List Nat} {k : Nat}, (pre ++ [k]) <+: l → (∀ j ∈ pre, p j = false) → p k = true → l.find? p = some k
  | l, [], k, ⟨t, h⟩, _, hk => by subst h; simp [hk]
  | l, a :: pre, k, ⟨t, h⟩, hp, hk => by
    subst h
    have := find_prefix (l := pre ++ [k] ++ t) ⟨t, rfl⟩ (fun j hj => hp j (by simp [hj])) hk
    have ha := hp a (by simp)
    simp only [List.cons_append, List.find?_cons, ha]
    exact this


end Go.Proofs.YthghcffibljclaaDoor
/- Runs. -/
namespace Go.Proofs.YthghcffibljclaaDoor
open Go.RowKit Go.Shelf

attribute [local go_sem] Oper.semAt_some

theorem cells_two (w : World) (a b : Value) (t : TypeId) : ∀ j u, [a, b][j]? = some u → (w.alloc (.cells #[a, b] t)).cell? ((⟨w.heap.size, 0, none⟩ : Addr).add j) = some u := by
  intro j u hj
  match j, hj with
  | 0, hj => simp at hj; subst hj; simp [Addr.add]
  | 1, hj => simp at hj; subst hj; simp [Addr.add]
theorem boxed_below {W W' : World} {B : Nat} {t : TypeId} {v : Value} (h : Boxed W B t v) (hb : Below W.heap.size W W') : Boxed W' B t v := (hb.block B h.lt).trans h
theorem Boxed.below_ {W W' : World} {B n : Nat} {t : TypeId} {v : Value} (h : Boxed W B t v) (hb : Below n W W') (hl : B < n) : Boxed W' B t v := (hb.block B hl).trans h
theorem own_below {W W' : World} {base : Nat} {e : TypeId} {size n : Nat} {v : Value} {xs : List Value} (h : W.ownsRow base e size v n xs) (hb : Below W.heap.size W W') : W'.ownsRow base e size v n xs := by
  refine ⟨h.1, ?_⟩
  rcases h.2 with h2 | ⟨g, cap, cur, hv, hg, hh, r⟩
  · exact .inl h2
  · exact .inr ⟨g, cap, cur, hv, hg, (hb.block g (Array.getElem?_eq_some_iff.1 hh).1).trans hh, r⟩
theorem own_mono {W : World} {base base' : Nat} {e : TypeId} {size n : Nat} {v : Value} {xs : List Value} (h : W.ownsRow base e size v n xs) (hb : base' ≤ base) : W.ownsRow base' e size v n xs := by
  refine ⟨h.1, ?_⟩
  rcases h.2 with h2 | ⟨g, cap, cur, hv, hg, r⟩
  · exact .inl h2
  · exact .inr ⟨g, cap, cur, hv, Nat.le_trans hb hg, r⟩
theorem keeps_below {W W' : World} (hb : Below W.heap.size W W') : KeepsOthers W W' := ⟨hb.size, fun k _ ho _ => (hb.block k (Array.getElem?_eq_some_iff.1 ho).1).trans ho⟩

/-- Where runs begin, and where they end. -/
def begins (x : BitVec 64) : BitVec 64 := x &&& ~~~(x <<< 1)
def ends (x : BitVec 64) : BitVec 64 := x &&& ~~~(x >>> 1)
/-- The run that begins at k. -/
def runOf (ex : BitVec 64) (k : Nat) : Nat × Nat := (k, (least ex k).getD 0)
def renc (r : Nat × Nat) : List Value := [.int .i64 (r.1 : Int), .int .i64 (r.2 : Int)]
/-- The runs, rising. -/
def runsOf (x : BitVec 64) : List (Nat × Nat) := (elems (begins x)).map (runOf (ends x))
theorem info_run : (Tryd.prog.info? 114).map (fun i => (i.zero, i.size, i.bytes)) = some (some (.agg #[.int .i64 0, .int .i64 0]), 2, 16) := by kernel_rfl

end Go.Proofs.YthghcffibljclaaDoor
/- Of, Span, Has. -/
namespace Go.Proofs.YthghcffibljclaaDoor
open Go.RowKit

/-- The word that has just these bits. -/
def mkUpto (p : Nat → Bool) : Nat → BitVec 64
  | 0 => 0#64
  | n + 1 => if p n then mkUpto p n ||| BitVec.twoPow 64 n else mkUpto p n
def mk (p : Nat → Bool) : BitVec 64 := mkUpto p 64
theorem mkUpto_bit (p : Nat → Bool) (n i : Nat) (hn : n ≤ 64) : (mkUpto p n).getLsbD i = (decide (i < n) && p i) := by
  induction n with
  | zero => simp [mkUpto]
  | succ n ih =>
    have ih := ih (by omega)
    unfold mkUpto
    by_cases h : p n = true
    · rw [if_pos h, BitVec.getLsbD_or, ih, BitVec.getLsbD_twoPow]
      by_cases e : n = i
      · subst e; simp [h]; omega
      · by_cases hi : i < n
        · simp [e, hi]; omega
        · simp [e, hi]; omega
    · rw [if_neg h, ih]
      by_cases e : i = n
      · subst e; simp [h]
      · by_cases hi : i < n
        · simp [hi]; omega
        · simp [hi]; omega
theorem mk_bit (p : Nat → Bool) (i : Nat) : (mk p).getLsbD i = (decide (i < 64) && p i) := mkUpto_bit p 64 i (Nat.le_refl _)
theorem mk_congr {p q : Nat → Bool} (h : ∀ i, i < 64 → p i = q i) : mk p = mk q := by
  apply BitVec.eq_of_getLsbD_eq
  intro i hi
  rw [mk_bit, mk_bit, h i hi]
theorem mk_or_bit (p q : Nat → Bool) (k : Nat) (hk : k < 64) (h : ∀ i, i < 64 → q i = (p i || decide (i = k))) : mk p ||| BitVec.twoPow 64 k = mk q := by
  apply BitVec.eq_of_getLsbD_eq
  intro i hi
  rw [BitVec.getLsbD_or, mk_bit, mk_bit, BitVec.getLsbD_twoPow, h i hi]
  simp [hi, hk]
  by_cases e : k = i <;> simp [e, eq_comm]

/-! Of -/
def inside (z : Int) : Prop := 0 ≤ z ∧ z ≤ 63
instance (z : Int) : Decidable (inside z) := by unfold inside; infer_instance
def ofs : List Int → BitVec 64 → Option (BitVec 64)
  | [], m => some m
  | z :: l, m => if inside z then ofs l (m ||| BitVec.twoPow 64 z.toNat) else none
def nthI (l : List Int) (k : Nat) : Int := l.getD k 0
theorem drop_nthI (l : List Int) (k : Nat) (h : k < l.length) : l.drop k = nthI l k :: l.drop (k + 1) := by
  rw [List.drop_eq_getElem_cons h]
  unfold nthI
  simp [h]
/-- A mask and OK; or 0 and ErrArg. -/
def maskErr : Option (BitVec 64) → Value
  | some m => .tuple #[.int .u64 (U m), .int .i64 0]
  | none => .tuple #[.int .u64 0, .int .i64 2]

/-! Span -/
def spanB (f t s : Int) (i : Nat) : Bool := decide (f ≤ (i : Int) ∧ (i : Int) ≤ t ∧ ((i : Int) - f) % s = 0)
def spanOk (f t s : Int) : Prop := 0 ≤ f ∧ t ≤ 63 ∧ f ≤ t ∧ 1 ≤ s
instance (f t s : Int) : Decidable (spanOk f t s) := by unfold spanOk; infer_instance
def spanM (f t s : Int) : Option (BitVec 64) := if spanOk f t s then some (mk (spanB f t s)) else none

theorem span_no (f t s : Int) (w : World) (h : ¬ spanOk f t s) :
    Calls Tryd.prog 64 #[.int .i64 f, .int .i64 t, .int .i64 s] w fun e w' => e = .returned (maskErr none) ∧ w = w' := by
  by_cases h0 : f < 0
  · clear h
    go_enter Tryd.func64, Tryd.ntmps64
    go_wp2
    go_ret2
    exact ⟨rfl, rfl⟩
  · by_cases h1 : 63 < t
    · clear h
      have k0 : 0 ≤ f := by omega
      have d0 : decide (f < 0) = false := by simp; omega
      go_enter Tryd.func64, Tryd.ntmps64
      go_wp2
      go_ret2
      exact ⟨rfl, rfl⟩
    · by_cases h2 : t < f
      · clear h
        have k0 : 0 ≤ f := by omega
        have d0 : decide (f < 0) = false := by simp; omega
        have d1 : decide (63 < t) = false := by simp; omega
        go_enter Tryd.func64, Tryd.ntmps64
        go_wp2
        go_ret2
        exact ⟨rfl, rfl⟩
      · have h3 : s < 1 := by unfold spanOk at h; omega
        clear h
        have k0 : 0 ≤ f := by omega
        have d0 : decide (f < 0) = false := by simp; omega
        have d1 : decide (63 < t) = false := by simp; omega
        have d2 : decide (t < f) = false := by simp; omega
        go_enter Tryd.func64, Tryd.ntmps64
        go_wp2
        go_ret2
        exact ⟨rfl, rfl⟩

theorem mod_small (a s : Int) (h0 : 0 ≤ a) (h1 : a < s) : (a % s = 0) ↔ a = 0 := by
  rw [Int.emod_eq_of_lt h0 h1]
/-- A step of 64 at most tells the same numbers. -/
theorem span_min (f t s : Int) (hf : 0 ≤ f) (hs : 1 ≤ s) (i : Nat) (hi : i < 64) : spanB f t s i = spanB f t (min s 64) i := by
  unfold spanB
  rw [decide_eq_decide]
  by_cases h : s ≤ 64
  · rw [show min s 64 = s by omega]
  · rw [show min s 64 = 64 by omega]
    constructor <;> rintro ⟨a, b, c⟩ <;> refine ⟨a, b, ?_⟩
    · rw [mod_small _ _ (by omega) (by omega)] at c; rw [c]; rfl
    · rw [mod_small _ _ (by omega) (by omega)] at c; rw [c]; rfl
theorem step_bit (f s : Int) (j i : Nat) (hs : 1 ≤ s) :
    decide (f ≤ (i : Int) ∧ (i : Int) < f + s * ((j + 1 : Nat) : Int) ∧ ((i : Int) - f) % s = 0) = (decide (f ≤ (i : Int) ∧ (i : Int) < f + s * (j : Int) ∧ ((i : Int) - f) % s = 0) || decide ((i : Int) = f + s * j)) := by
  rw [Bool.eq_iff_iff]
  simp only [Bool.or_eq_true, decide_eq_true_eq]
  have e : s * ((j + 1 : Nat) : Int) = s * j + s := by rw [show ((j + 1 : Nat) : Int) = (j : Int) + 1 by omega, Int.mul_add, Int.mul_one]
  rw [e]
  constructor
  · rintro ⟨a, b, c⟩
    by_cases h : (i : Int) < f + s * j
    · exact .inl ⟨a, h, c⟩
    · right
      have h1 : ((i : Int) - f - s * j) % s = 0 := by rw [Int.sub_mul_emod_self_left]; exact c
      rw [mod_small _ _ (by omega) (by omega)] at h1
      omega
  · rintro (⟨a, b, c⟩ | h)
    · exact ⟨a, by omega, c⟩
    · have hp : 0 ≤ s * (j : Int) := Int.mul_nonneg (by omega) (by omega)
      refine ⟨by omega, by omega, ?_⟩
      rw [h, show f + s * (j : Int) - f = s * j by omega]
      exact Int.mul_emod_right _ _

/-- What has come behind j rounds. -/
def part (f u : Int) (j : Nat) : BitVec 64 := mk fun i => decide (f ≤ (i : Int) ∧ (i : Int) < f + u * (j : Int) ∧ ((i : Int) - f) % u = 0)
theorem part_zero (f u : Int) : part f u 0 = 0#64 := by
  unfold part
  apply BitVec.eq_of_getLsbD_eq
  intro i hi
  rw [mk_bit]
  simp
  intro _ h1 h2
  omega
theorem part_succ (f u : Int) (j m : Nat) (hu : 1 ≤ u) (hm : f + u * (j : Int) = m) (h : m ≤ 63) : part f u j ||| BitVec.twoPow 64 m = part f u (j + 1) := by
  unfold part
  apply mk_or_bit _ _ m (by omega)
  intro i _
  rw [step_bit f u j i hu, hm]
  congr 1
  rw [decide_eq_decide]
  omega
theorem part_end (f t u : Int) (j : Nat) (h : t < f + u * (j : Int)) (hl : ∀ i : Nat, (i : Int) < f + u * (j : Int) → f ≤ (i : Int) → ((i : Int) - f) % u = 0 → (i : Int) ≤ t) : part f u j = mk (spanB f t u) := by
  unfold part
  apply mk_congr
  intro i _
  unfold spanB
  rw [decide_eq_decide]
  constructor
  · rintro ⟨a, b, c⟩; exact ⟨a, hl i b a c, c⟩
  · rintro ⟨a, b, c⟩; exact ⟨a, by omega, c⟩
theorem last_in (f u t : Int) (j : Nat) (h : j = 0 ∨ f + u * ((j - 1 : Nat) : Int) ≤ t) (i : Nat) (h1 : (i : Int) < f + u * (j : Int)) (h0 : f ≤ (i : Int)) (h2 : ((i : Int) - f) % u = 0) : (i : Int) ≤ t := by
  rcases h with rfl | h
  · simp at h1; omega
  · cases j with
    | zero => simp at h1; omega
    | succ j =>
      rw [Nat.add_sub_cancel] at h
      rw [show ((j + 1 : Nat) : Int) = (j : Int) + 1 by omega, Int.mul_add, Int.mul_one] at h1
      by_cases hle : (i : Int) ≤ f + u * (j : Int)
      · omega
      · have h3 : ((i : Int) - f - u * j) % u = 0 := by rw [Int.sub_mul_emod_self_left]; exact h2
        rw [mod_small _ _ (by omega) (by omega)] at h3
        omega
/-- Between two rounds: j have been, m is next, b has come. -/
def SpanRel (f t u m : Int) (b : BitVec 64) : Prop := ∃ j : Nat, m = f + u * (j : Int) ∧ b = part f u j ∧ 0 ≤ m ∧ m ≤ 127 ∧ (j = 0 ∨ f + u * ((j - 1 : Nat) : Int) ≤ t)
theorem SpanRel.bd {f t u m : Int} {b : BitVec 64} (h : SpanRel f t u m b) : 0 ≤ m ∧ m ≤ 127 := by
  obtain ⟨j, _, _, h0, h1, _⟩ := h; exact ⟨h0, h1⟩
theorem SpanRel.next {f t u m : Int} {b : BitVec 64} (h : SpanRel f t u m b) (hu : 1 ≤ u ∧ u ≤ 64) (ht : t ≤ 63) (hm : m ≤ t) : SpanRel f t u (m + u) (b ||| BitVec.twoPow 64 m.toNat) := by
  obtain ⟨j, rfl, rfl, h0, h1, hj⟩ := h
  have e : f + u * ((j + 1 : Nat) : Int) = f + u * (j : Int) + u := by rw [show ((j + 1 : Nat) : Int) = (j : Int) + 1 by omega, Int.mul_add, Int.mul_one]; omega
  refine ⟨j + 1, e.symm, part_succ f u j _ hu.1 (by omega) (by omega), by omega, by omega, .inr ?_⟩
  rw [Nat.add_sub_cancel]; exact hm
theorem SpanRel.fin {f t u m : Int} {b : BitVec 64} (h : SpanRel f t u m b) (hm : t < m) : b = mk (spanB f t u) := by
  obtain ⟨j, rfl, rfl, h0, h1, hj⟩ := h
  exact part_end f t u j hm fun i a b c => last_in f u t j hj i a b c

set_option maxHeartbeats 1000000 in
theorem span_yes (f t s : Int) (w : World) (h : spanOk f t s) :
    Calls Tryd.prog 64 #[.int .i64 f, .int .i64 t, .int .i64 s] w fun e w' => e = .returned (maskErr (some (mk (spanB f t s)))) ∧ w = w' := by
  obtain ⟨h0, h1, h2, h3⟩ := h
  have He := Lib.hid (mk_congr (span_min f t s h0 h3))
  have d0 : decide (f < 0) = false := by simp; omega
  have d1 : decide (63 < t) = false := by simp; omega
  have d2 : decide (t < f) = false := by simp; omega
  have d3 : decide (s < 1) = false := by simp; omega
  rcases Int.lt_or_le 64 s with h4 | h4
  · have Hm := Lib.hid (show min s 64 = 64 by omega)
    go_enter Tryd.func64, Tryd.ntmps64
    go_wp2
    clear d0 d1 d2 d3
    go_loop [8, 9] (fun v i => ∃ (m : Int) (b : BitVec 64), i = .int .i64 m ∧ v = .int .u64 (U b) ∧ SpanRel f t 64 m b) (fun _ i => (t + 1 - intOf i).toNat)
    case atStart => exact ⟨f, 0#64, rfl, rfl, 0, by simp, (part_zero f 64).symm, h0, by omega, .inl rfl⟩
    case round =>
      obtain ⟨m, b, rfl, rfl, hr⟩ := hrel
      obtain ⟨m0, m1⟩ := hr.bd
      by_cases hlt : m ≤ t
      · have Hn := Lib.hid (hr.next (by omega) h1 hlt)
        obtain ⟨k, rfl⟩ := Int.eq_ofNat_of_zero_le m0
        have hk : k ≤ 63 := by omega
        go_wp2_with (go_at_call 68; refine (bit_any k _ hk).mono ?_; rintro e w' ⟨rfl, rfl⟩)
        go_round
        case rel => exact ⟨_, b ||| BitVec.twoPow 64 k, rfl, by rw [U_or], by have := Hn.out; rwa [Int.toNat_natCast] at this⟩
        case measure => simp [intOf]; omega
      · have He2 := Lib.hid (hr.fin (by omega))
        go_wp2
        go_ret2
        exact ⟨by rw [He.out, Hm.out, ← He2.out]; rfl, rfl⟩
  · have Hm := Lib.hid (show min s 64 = s by omega)
    go_enter Tryd.func64, Tryd.ntmps64
    go_wp2
    clear d0 d1 d2 d3
    go_loop [8, 9] (fun v i => ∃ (m : Int) (b : BitVec 64), i = .int .i64 m ∧ v = .int .u64 (U b) ∧ SpanRel f t s m b) (fun _ i => (t + 1 - intOf i).toNat)
    case atStart => exact ⟨f, 0#64, rfl, rfl, 0, by simp, (part_zero f s).symm, h0, by omega, .inl rfl⟩
    case round =>
      obtain ⟨m, b, rfl, rfl, hr⟩ := hrel
      obtain ⟨m0, m1⟩ := hr.bd
      by_cases hlt : m ≤ t
      · have Hn := Lib.hid (hr.next (by omega) h1 hlt)
        obtain ⟨k, rfl⟩ := Int.eq_ofNat_of_zero_le m0
        have hk : k ≤ 63 := by omega
        go_wp2_with (go_at_call 68; refine (bit_any k _ hk).mono ?_; rintro e w' ⟨rfl, rfl⟩)
        go_round
        case rel => exact ⟨_, b ||| BitVec.twoPow 64 k, rfl, by rw [U_or], by have := Hn.out; rwa [Int.toNat_natCast] at this⟩
        case measure => simp [intOf]; omega
      · have He2 := Lib.hid (hr.fin (by omega))
        go_wp2
        go_ret2
        exact ⟨by rw [He.out, Hm.out, ← He2.out]; rfl, rfl⟩

theorem span_any (f t s : Int) (w : World) :
    Calls Tryd.prog 64 #[.int .i64 f, .int .i64 t, .int .i64 s] w fun e w' => e = .returned (maskErr (spanM f t s)) ∧ w = w' := by
  unfold spanM
  by_cases h : spanOk f t s
  · rw [if_pos h]; exact span_yes f t s w h
  · rw [if_neg h]; exact span_no f t s w h
end Go.Proofs.YthghcffibljclaaDoor
/- What runs are: plain facts. -/
namespace Go.Proofs.YthghcffibljclaaDoor
open Go.RowKit

/-! Of of All -/
theorem ofs_all (l : List Nat) (m : BitVec 64) (h : ∀ k ∈ l, k < 64) : ofs (l.map fun k : Nat => (k : Int)) m = some (l.foldl (fun m k => m ||| BitVec.twoPow 64 k) m) := by
  induction l generalizing m with
  | nil => rfl
  | cons a l ih =>
    have ha := h a (by simp)
    rw [List.map_cons, ofs, if_pos (by unfold inside; omega), Int.toNat_natCast, ih _ (fun k hk => h k (by simp [hk]))]
    rfl
theorem fold_bit (l : List Nat) (m : BitVec 64) (i : Nat) (hi : i < 64) : (l.foldl (fun m k => m ||| BitVec.twoPow 64 k) m).getLsbD i = (m.getLsbD i || decide (i ∈ l)) := by
  induction l generalizing m with
  | nil => simp
  | cons a l ih =>
    rw [List.foldl_cons, ih, BitVec.getLsbD_or, BitVec.getLsbD_twoPow]
    by_cases h : i = a
    · subst h; simp [hi]
    · have : ¬ a = i := fun e => h e.symm
      simp [h, this]
theorem ofs_elems (x : BitVec 64) : ofs ((elems x).map fun k : Nat => (k : Int)) 0#64 = some x := by
  rw [ofs_all _ _ (fun k hk => elems_lt hk)]
  congr 1
  apply BitVec.eq_of_getLsbD_eq
  intro i hi
  rw [fold_bit _ _ _ hi]
  simp [mem_elems]

/-! runs -/
theorem begins_bit (x : BitVec 64) (i : Nat) (hi : i < 64) : (begins x).getLsbD i = (x.getLsbD i && !(decide (0 < i) && x.getLsbD (i - 1))) := by
  unfold begins
  rw [BitVec.getLsbD_and, BitVec.getLsbD_not, BitVec.getLsbD_shiftLeft]
  by_cases h : i = 0
  · subst h; simp
  · have h1 : ¬ i < 1 := by omega
    have h2 : 0 < i := by omega
    simp [hi, h1, h2]
theorem ends_bit (x : BitVec 64) (i : Nat) (hi : i < 64) : (ends x).getLsbD i = (x.getLsbD i && !x.getLsbD (i + 1)) := by
  unfold ends
  rw [BitVec.getLsbD_and, BitVec.getLsbD_not, BitVec.getLsbD_ushiftRight, Nat.add_comm 1 i]
  simp [hi]
/-- The least end from k on, of a number that x has: all between are x's. -/
theorem end_from (x : BitVec 64) : ∀ (d k : Nat), d = 64 - k → k < 64 → x.getLsbD k = true → ∃ e, k ≤ e ∧ e < 64 ∧ (ends x).getLsbD e = true ∧ ∀ j, k ≤ j → j ≤ e → x.getLsbD j = true
  | 0, k, hd, hk, _ => by omega
  | d + 1, k, hd, hk, hx => by
    by_cases h : x.getLsbD (k + 1) = true
    · have hk1 : k + 1 < 64 := BitVec.lt_of_getLsbD h
      obtain ⟨e, h1, h2, h3, h4⟩ := end_from x d (k + 1) (by omega) hk1 h
      exact ⟨e, by omega, h2, h3, fun j hj1 hj2 => by
        rcases Nat.eq_or_lt_of_le hj1 with rfl | hj
        · exact hx
        · exact h4 j hj hj2⟩
    · exact ⟨k, Nat.le_refl _, hk, by rw [ends_bit x k hk, hx]; simpa using h, fun j h1 h2 => by obtain rfl : j = k := (by omega); exact hx⟩
theorem find_sorted {l : List Nat} (hs : l.Pairwise (· < ·)) {p : Nat → Bool} {e : Nat} (he : e ∈ l) (hp : p e = true) : ∃ m, l.find? p = some m ∧ m ≤ e ∧ m ∈ l ∧ p m = true := by
  induction l with
  | nil => simp at he
  | cons a l ih =>
    rw [List.find?_cons]
    by_cases ha : p a = true
    · simp only [ha]
      refine ⟨a, rfl, ?_, by simp, ha⟩
      rcases List.mem_cons.1 he with rfl | h
      · exact Nat.le_refl _
      · exact Nat.le_of_lt (List.rel_of_pairwise_cons hs h)
    · simp only [Bool.not_eq_true] at ha
      simp only [ha]
      rcases List.mem_cons.1 he with rfl | h
      · rw [hp] at ha; cases ha
      · obtain ⟨m, h1, h2, h3, h4⟩ := ih (List.Pairwise.of_cons hs) h
        exact ⟨m, h1, h2, by simp [h3], h4⟩
theorem elems_sorted (x : BitVec 64) : (elems x).Pairwise (· < ·) := List.Pairwise.filter _ List.pairwise_lt_range
/-- The run that begins at k. -/
theorem run_spec (x : BitVec 64) (k : Nat) (hk : k ∈ elems (begins x)) : ∃ e, (runOf (ends x) k) = (k, e) ∧ least (ends x) k = some e ∧ k ≤ e ∧ e < 64 ∧ (∀ j, k ≤ j → j ≤ e → x.getLsbD j = true) ∧ x.getLsbD (e + 1) = false := by
  have hk64 := elems_lt hk
  have hb := mem_elems.1 hk
  rw [begins_bit x k hk64] at hb
  have hx : x.getLsbD k = true := by revert hb; cases x.getLsbD k <;> simp
  obtain ⟨e, h1, h2, h3, h4⟩ := end_from x _ k rfl hk64 hx
  obtain ⟨m, g1, g2, g3, g4⟩ := find_sorted (elems_sorted (ends x)) (p := fun j => decide ((k : Int) ≤ (j : Int))) (mem_elems.2 h3) (by simp; omega)
  have hm64 := elems_lt g3
  have hme := mem_elems.1 g3
  rw [ends_bit x m hm64] at hme
  have hl : least (ends x) k = some m := g1
  refine ⟨m, by unfold runOf; rw [hl]; rfl, hl, by simp at g4; omega, hm64, fun j a b => h4 j a (by omega), ?_⟩
  revert hme; cases x.getLsbD (m + 1) <;> simp

/-- The numbers of a run, as a mask. -/
def segOf (r : Nat × Nat) : BitVec 64 := mk (spanB r.1 r.2 1)
theorem seg_bit (r : Nat × Nat) (i : Nat) (hi : i < 64) : (segOf r).getLsbD i = decide (r.1 ≤ i ∧ i ≤ r.2) := by
  unfold segOf
  rw [mk_bit, decide_eq_true hi, Bool.true_and]
  unfold spanB
  rw [decide_eq_decide]
  omega
theorem run_mem {x : BitVec 64} {r : Nat × Nat} (h : r ∈ runsOf x) : ∃ k e, r = (k, e) ∧ k ∈ elems (begins x) ∧ k ≤ e ∧ e < 64 ∧ (∀ j, k ≤ j → j ≤ e → x.getLsbD j = true) ∧ x.getLsbD (e + 1) = false := by
  unfold runsOf at h
  obtain ⟨k, hk, rfl⟩ := List.mem_map.1 h
  obtain ⟨e, h1, _, h2, h3, h4, h5⟩ := run_spec x k hk
  exact ⟨k, e, h1, hk, h2, h3, h4, h5⟩
theorem run_span {x : BitVec 64} {r : Nat × Nat} (h : r ∈ runsOf x) : spanM r.1 r.2 1 = some (segOf r) := by
  obtain ⟨k, e, rfl, _, h2, h3, _⟩ := run_mem h
  unfold spanM
  rw [if_pos (by unfold spanOk; simp; omega)]
  rfl
theorem runs_gap (x : BitVec 64) : (runsOf x).Pairwise (fun r s => r.2 + 1 < s.1) := by
  unfold runsOf
  rw [List.pairwise_map]
  refine (elems_sorted (begins x)).imp_of_mem ?_
  intro k k' hk hk' hlt
  obtain ⟨e, h1, _, h2, h3, h4, h5⟩ := run_spec x k hk
  rw [h1]
  show e + 1 < k'
  have hk64 := elems_lt hk'
  have hb := mem_elems.1 hk'
  rw [begins_bit x k' hk64] at hb
  apply Nat.lt_of_not_le
  intro hle
  have := h4 (k' - 1) (by omega) (by omega)
  rw [this, decide_eq_true (by omega)] at hb
  simp at hb
theorem begin_below (x : BitVec 64) : ∀ i, i < 64 → x.getLsbD i = true → ∃ b, b ∈ elems (begins x) ∧ b ≤ i ∧ ∀ j, b ≤ j → j ≤ i → x.getLsbD j = true
  | 0, hi, hx => ⟨0, mem_elems.2 (by rw [begins_bit x 0 hi, hx]; simp), Nat.le_refl _, fun j _ h => by obtain rfl : j = 0 := (by omega); exact hx⟩
  | i + 1, hi, hx => by
    by_cases h : x.getLsbD i = true
    · obtain ⟨b, h1, h2, h3⟩ := begin_below x i (by omega) h
      exact ⟨b, h1, by omega, fun j a c => by
        rcases Nat.eq_or_lt_of_le c with rfl | hj
        · exact hx
        · exact h3 j a (by omega)⟩
    · exact ⟨i + 1, mem_elems.2 (by rw [begins_bit x _ hi, hx]; simpa using h), Nat.le_refl _, fun j a c => by obtain rfl : j = i + 1 := (by omega); exact hx⟩
theorem folds_or_bit (l : List (BitVec 64)) (m : BitVec 64) (i : Nat) : (folds g_or l m).getLsbD i = (m.getLsbD i || l.any (·.getLsbD i)) := by
  induction l generalizing m with
  | nil => simp [folds]
  | cons a l ih => rw [folds, ih, show g_or m a = m ||| a from rfl, BitVec.getLsbD_or, List.any_cons, Bool.or_assoc]
theorem runs_join (x : BitVec 64) : folds g_or ((runsOf x).map segOf) 0#64 = x := by
  apply BitVec.eq_of_getLsbD_eq
  intro i hi
  rw [folds_or_bit, Bool.eq_iff_iff]
  simp only [BitVec.getLsbD_zero, Bool.false_or, List.any_eq_true]
  constructor
  · rintro ⟨m, hm, hb⟩
    obtain ⟨r, hr, rfl⟩ := List.mem_map.1 hm
    rw [seg_bit r i hi] at hb
    obtain ⟨k, e, rfl, _, h2, h3, h4, _⟩ := run_mem hr
    simp at hb
    exact h4 i hb.1 hb.2
  · intro hx
    obtain ⟨b, h1, h2, h3⟩ := begin_below x i hi hx
    obtain ⟨e, g1, _, g2, g3, g4, g5⟩ := run_spec x b h1
    refine ⟨segOf (b, e), List.mem_map.2 ⟨_, List.mem_map.2 ⟨b, h1, g1⟩, rfl⟩, ?_⟩
    rw [seg_bit _ i hi]
    simp only [decide_eq_true_eq]
    refine ⟨h2, Nat.le_of_not_lt fun hlt => ?_⟩
    have := h3 (e + 1) (by omega) hlt
    rw [g5] at this
    cases this
theorem nthI_elems (x : BitVec 64) (k : Nat) (hk : k < (elems x).length) : ((elems x).map ienc)[k]? = some (.int .i64 (nthI ((elems x).map fun k : Nat => (k : Int)) k)) := by
  unfold nthI
  rw [List.getElem?_map, List.getD_eq_getElem?_getD, List.getElem?_map, List.getElem?_eq_getElem hk]
  rfl
theorem nthI_at (x : BitVec 64) (k : Nat) (hk : k < (elems x).length) : nthI ((elems x).map fun k : Nat => (k : Int)) k = ((elems x)[k] : Int) := by
  unfold nthI
  rw [List.getD_eq_getElem?_getD, List.getElem?_map, List.getElem?_eq_getElem hk]
  rfl
end Go.Proofs.YthghcffibljclaaDoor
/- Fields of crons, plain: what items and texts have; the one text. -/
namespace Go.Proofs.YthghcffibljclaaDoor
open Go Go.Op

def loK (k : Nat) : Nat := [0, 0, 1, 1, 0].getD k 0
def hiK (k : Nat) : Nat := [59, 23, 31, 12, 6].getD k 0
def topK (k : Nat) : Nat := if k = 4 then 7 else hiK k
def namesK (k : Nat) : List (List UInt8) :=
  if k = 3 then [[74, 65, 78], [70, 69, 66], [77, 65, 82], [65, 80, 82], [77, 65, 89], [74, 85, 78], [74, 85, 76], [65, 85, 71], [83, 69, 80], [79, 67, 84], [78, 79, 86], [68, 69, 67]]
  else if k = 4 then [[83, 85, 78], [77, 79, 78], [84, 85, 69], [87, 69, 68], [84, 72, 85], [70, 82, 73], [83, 65, 84]]
  else []
def wholeM (k : Nat) : BitVec 64 := mk (spanB (loK k) (hiK k) 1)
/-- A field of the kind. -/
def FieldM (k : Nat) (m : BitVec 64) : Prop := m ≠ 0#64 ∧ ∀ i, m.getLsbD i = true → loK k ≤ i ∧ i ≤ hiK k
/-- The number of a value. -/
def valueL (k : Nat) (s : List UInt8) : Option Nat :=
  match (namesK k).findIdx? (fun nm => upL s == nm) with
  | some i => some (loK k + i)
  | none => match numL s with
    | some n => if loK k ≤ n ∧ n ≤ topK k then some n else none
    | none => none
/-- 7 is 0 of weekdays. -/
def fix7 (k : Nat) (m : BitVec 64) : BitVec 64 := if k = 4 ∧ m.getLsbD 7 = true then mk (fun i => decide (i = 0) || (m.getLsbD i && decide (i ≠ 7))) else m
/-- The step of an item. -/
def stepL (st : Option (List UInt8)) : Option Nat := match st with
  | none => some 1
  | some s => match numL s with
    | some n => if 1 ≤ n ∧ n ≤ 63 then some n else none
    | none => none
/-- What an item has. -/
def spanL (k : Nat) (sp : List UInt8) (steps : Bool) (by_ : Nat) : Option (BitVec 64) :=
  if sp = [42] then spanM (loK k) (hiK k) by_
  else match valueL k (cutB sp 45).1 with
    | none => none
    | some a => match (cutB sp 45).2 with
      | none => if steps then none else (spanM a a by_).map (fix7 k)
      | some b => match valueL k b with
        | none => none
        | some t => (spanM a t by_).map (fix7 k)
def itemL (k : Nat) (s : List UInt8) : Option (BitVec 64) :=
  match stepL (cutB s 47).2 with
  | none => none
  | some by_ => spanL k (cutB s 47).1 (cutB s 47).2.isSome by_
/-- What Read comes to: the mask, the place, the error. -/
def readP (k : Nat) : List (List UInt8) → Nat → BitVec 64 → BitVec 64 × Nat × Int
  | [], _, m => (m, 0, 0)
  | s :: l, at_, m => match itemL k s with
    | none => (0#64, at_, 160)
    | some x => readP k l (at_ + s.length + 1) (m ||| x)
def readL (k : Nat) (s : List UInt8) : BitVec 64 × Nat × Int := if 256 < s.length then (0#64, 0, 3) else readP k (splitC s) 0 0#64
/-- Its one text. -/
def stepsN (k : Nat) (m : BitVec 64) : Option Nat := (List.range' 2 62).find? (fun n => spanM (loK k) (hiK k) n == some m)
def runL (r : Nat × Nat) : List UInt8 := if r.1 < r.2 then dgsN r.1 ++ 45 :: dgsN r.2 else dgsN r.1
def runsL (m : BitVec 64) : List UInt8 := joinC ((runsOf m).map runL)
def textL (k : Nat) (m : BitVec 64) : List UInt8 :=
  if m = wholeM k then [42]
  else if 3 ≤ pop m then match stepsN k m with
    | some n => 42 :: 47 :: dgsN n
    | none => runsL m
  else runsL m
/-! bits of spans -/
theorem span_bit {f t s : Int} {m : BitVec 64} (h : spanM f t s = some m) (i : Nat) (hi : i < 64) : m.getLsbD i = spanB f t s i := by
  unfold spanM at h
  split at h
  · cases h; rw [mk_bit, decide_eq_true hi, Bool.true_and]
  · cases h
theorem span_ok {f t s : Int} {m : BitVec 64} (h : spanM f t s = some m) : spanOk f t s := by
  unfold spanM at h
  split at h
  · assumption
  · cases h
theorem span_first {f t s : Int} {m : BitVec 64} (h : spanM f t s = some m) : m.getLsbD f.toNat = true := by
  obtain ⟨a, b, c, d⟩ := span_ok h
  rw [span_bit h _ (by omega)]
  unfold spanB
  rw [decide_eq_true_iff]
  refine ⟨by omega, by omega, ?_⟩
  rw [show (f.toNat : Int) - f = 0 by omega]; simp
theorem span_in {f t s : Int} {m : BitVec 64} (h : spanM f t s = some m) {i : Nat} (hi : m.getLsbD i = true) : f ≤ (i : Int) ∧ (i : Int) ≤ t := by
  have h64 := BitVec.lt_of_getLsbD hi
  rw [span_bit h i h64] at hi
  unfold spanB at hi
  rw [decide_eq_true_iff] at hi
  exact ⟨hi.1, hi.2.1⟩
theorem whole_bit (k i : Nat) : (wholeM k).getLsbD i = decide (i < 64 ∧ loK k ≤ i ∧ i ≤ hiK k) := by
  unfold wholeM
  rw [mk_bit]
  unfold spanB
  rw [Bool.eq_iff_iff]
  simp
theorem hi_lt (k : Nat) : hiK k ≤ 59 ∧ loK k ≤ hiK k ∧ loK k ≤ 1 := by
  unfold hiK loK
  match k with
  | 0 => decide
  | 1 => decide
  | 2 => decide
  | 3 => decide
  | 4 => decide
  | n + 5 => simp
theorem whole_span (k : Nat) : spanM (loK k) (hiK k) 1 = some (wholeM k) := by
  have := hi_lt k
  unfold spanM
  rw [if_pos (by unfold spanOk; omega)]; rfl
end Go.Proofs.YthghcffibljclaaDoor
/- Fields of crons, plain: what is read is a field; the one text, read, is the field; texts put together. -/
namespace Go.Proofs.YthghcffibljclaaDoor
open Go Go.Op

theorem value_in {k n : Nat} {s : List UInt8} (hk : k < 5) (h : valueL k s = some n) : loK k ≤ n ∧ n ≤ topK k := by
  unfold valueL at h
  split at h
  · rename_i i hi
    cases h
    have hlt : i < (namesK k).length := by
      have := List.findIdx?_eq_some_iff_findIdx_eq.1 hi
      exact this.1
    have hc : k = 0 ∨ k = 1 ∨ k = 2 ∨ k = 3 ∨ k = 4 := by omega
    rcases hc with rfl | rfl | rfl | rfl | rfl <;> simp [namesK, loK, topK, hiK] at hlt ⊢ <;> omega
  · split at h
    · split at h
      · cases h; assumption
      · cases h
    · cases h
theorem fix7_other {k : Nat} {m : BitVec 64} (h : ¬ (k = 4 ∧ m.getLsbD 7 = true)) : fix7 k m = m := by unfold fix7; rw [if_neg h]
theorem fix_field {k a t : Nat} {s : Int} {m : BitVec 64} (hk : k < 5) (ha : loK k ≤ a) (ht : t ≤ topK k) (h : spanM a t s = some m) : FieldM k (fix7 k m) := by
  have hf := span_first h
  rw [Int.toNat_natCast] at hf
  by_cases hc : k = 4 ∧ m.getLsbD 7 = true
  · unfold fix7
    rw [if_pos hc]
    refine ⟨fun e => ?_, fun i hi => ?_⟩
    · have h0 := mk_bit (fun i => decide (i = 0) || (m.getLsbD i && decide (i ≠ 7))) 0
      rw [e] at h0
      simp at h0
    · rw [mk_bit] at hi
      simp at hi
      rcases hi.2 with e | ⟨hi2, h7⟩
      · subst e; rw [hc.1]; decide
      · have := span_in h hi2
        rw [hc.1]
        have : topK k = 7 := by rw [hc.1]; rfl
        exact ⟨by show 0 ≤ i; omega, by show i ≤ 6; omega⟩
  · rw [fix7_other hc]
    refine ⟨fun e => ?_, fun i hi => ?_⟩
    · rw [e] at hf; simp at hf
    · have hin := span_in h hi
      refine ⟨by omega, ?_⟩
      unfold topK at ht
      by_cases h4 : k = 4
      · subst h4
        rw [if_pos rfl] at ht
        have : i ≠ 7 := fun e => hc ⟨rfl, by rw [← e]; exact hi⟩
        show i ≤ 6
        omega
      · rw [if_neg h4] at ht; omega
theorem item_right {k : Nat} {s : List UInt8} {m : BitVec 64} (hk : k < 5) (h : itemL k s = some m) : FieldM k m := by
  unfold itemL at h
  split at h
  · cases h
  · rename_i by_ hb
    unfold spanL at h
    split at h
    · refine ⟨fun e => ?_, fun i hi => ?_⟩
      · have := span_first h
        rw [e] at this; simp at this
      · have := span_in h hi; omega
    · split at h
      · cases h
      · rename_i a ha
        have hva := value_in hk ha
        split at h
        · split at h
          · cases h
          · obtain ⟨x, hx, rfl⟩ := Option.map_eq_some_iff.1 h
            exact fix_field hk hva.1 hva.2 hx
        · split at h
          · cases h
          · rename_i t ht
            obtain ⟨x, hx, rfl⟩ := Option.map_eq_some_iff.1 h
            exact fix_field hk hva.1 (value_in hk ht).2 hx
theorem field_or {k : Nat} {a b : BitVec 64} (ha : a = 0#64 ∨ FieldM k a) (hb : FieldM k b) : FieldM k (a ||| b) := by
  refine ⟨fun e => ?_, fun i hi => ?_⟩
  · have hb0 := hb.1
    apply hb0
    apply BitVec.eq_of_getLsbD_eq
    intro i _
    have := congrArg (fun x : BitVec 64 => x.getLsbD i) e
    simp at this
    simp [this.2]
  · rw [BitVec.getLsbD_or, Bool.or_eq_true] at hi
    rcases hi with hi | hi
    · rcases ha with rfl | ha
      · simp at hi
      · exact ha.2 i hi
    · exact hb.2 i hi
/-- What is read is a field; or its place lies within. -/
theorem readP_right {k : Nat} (hk : k < 5) : ∀ (l : List (List UInt8)) (at_ : Nat) (m : BitVec 64), (m = 0#64 ∨ FieldM k m) →
    ((readP k l at_ m).2.2 = 0 ∧ (readP k l at_ m).2.1 = 0 ∧ ((l = [] ∧ (readP k l at_ m).1 = m) ∨ FieldM k (readP k l at_ m).1)) ∨
    ((readP k l at_ m).2.2 = 160 ∧ (readP k l at_ m).1 = 0#64 ∧ at_ ≤ (readP k l at_ m).2.1 ∧ (readP k l at_ m).2.1 + 1 ≤ at_ + (l.map fun s => s.length + 1).sum)
  | [], at_, m, _ => by
    left
    exact ⟨rfl, rfl, .inl ⟨rfl, rfl⟩⟩
  | s :: l, at_, m, h => by
    rw [readP]
    cases hi : itemL k s with
    | none => right; simp; omega
    | some x =>
      have hx := item_right hk hi
      have ih := readP_right hk l (at_ + s.length + 1) (m ||| x) (.inr (field_or h hx))
      simp only []
      rcases ih with ⟨a, b, c⟩ | ⟨a, b, c, d⟩
      · left
        refine ⟨a, b, .inr ?_⟩
        rcases c with ⟨rfl, c⟩ | c
        · rw [c]; exact field_or h hx
        · exact c
      · right
        refine ⟨a, b, by omega, ?_⟩
        simp only [List.map_cons, List.sum_cons]
        omega
theorem split_sum : ∀ l : List UInt8, ((splitC l).map fun s => s.length + 1).sum = l.length + 1
  | [] => rfl
  | b :: l => by
    have ih := split_sum l
    rw [splitC]
    split
    · simp [ih]; omega
    · cases h : splitC l with
      | nil => exact absurd h (split_ne l)
      | cons p ps => rw [h] at ih; simp at ih ⊢; omega
theorem readL_right {k : Nat} (hk : k < 5) (s : List UInt8) :
    ((readL k s).2.2 = 0 ∧ (readL k s).2.1 = 0 ∧ FieldM k (readL k s).1) ∨
    (((readL k s).2.2 = 160 ∨ (readL k s).2.2 = 3) ∧ (readL k s).1 = 0#64 ∧ (readL k s).2.1 ≤ s.length) := by
  unfold readL
  split
  · right; exact ⟨.inr rfl, rfl, Nat.zero_le _⟩
  · rcases readP_right hk (splitC s) 0 0#64 (.inl rfl) with ⟨a, b, c⟩ | ⟨a, b, _, d⟩
    · left
      refine ⟨a, b, ?_⟩
      rcases c with ⟨c, _⟩ | c
      · exact absurd c (split_ne s)
      · exact c
    · right
      rw [split_sum] at d
      exact ⟨.inl a, b, by omega⟩
/-! texts put together -/
theorem readP_append {k : Nat} : ∀ (l r : List (List UInt8)) (at_ : Nat) (m : BitVec 64),
    readP k (l ++ r) at_ m = if (readP k l at_ m).2.2 = 0 then readP k r (at_ + (l.map fun s => s.length + 1).sum) (readP k l at_ m).1 else readP k l at_ m
  | [], r, at_, m => by simp [readP]
  | s :: l, r, at_, m => by
    rw [List.cons_append, readP, readP]
    cases hi : itemL k s with
    | none => simp
    | some x =>
      simp only []
      rw [readP_append l r]
      simp only [List.map_cons, List.sum_cons]
      rw [show at_ + s.length + 1 + (l.map fun s => s.length + 1).sum = at_ + (s.length + 1 + (l.map fun s => s.length + 1).sum) by omega]
theorem readP_shift {k : Nat} : ∀ (l : List (List UInt8)) (at_ : Nat) (m : BitVec 64),
    readP k l at_ m = if (readP k l 0 0#64).2.2 = 0 then (m ||| (readP k l 0 0#64).1, 0, 0) else (0#64, at_ + (readP k l 0 0#64).2.1, 160)
  | [], at_, m => by simp [readP]
  | s :: l, at_, m => by
    rw [readP, readP]
    cases hi : itemL k s with
    | none => simp
    | some x =>
      simp only []
      rw [readP_shift l (at_ + s.length + 1), readP_shift l (0 + s.length + 1) (0#64 ||| x)]
      by_cases h0 : (readP k l 0 0#64).2.2 = 0
      · simp [h0, BitVec.or_assoc]
      · simp [h0]; omega
theorem readL_join {k : Nat} (a b : List UInt8) (h : a.length + b.length + 1 ≤ 256) :
    readL k (a ++ 44 :: b) = if (readL k a).2.2 = 0 then (if (readL k b).2.2 = 0 then ((readL k a).1 ||| (readL k b).1, 0, 0) else (0#64, (readL k b).2.1 + a.length + 1, 160)) else readL k a := by
  have e1 : ¬ 256 < (a ++ 44 :: b).length := by simp; omega
  have e2 : ¬ 256 < a.length := by omega
  have e3 : ¬ 256 < b.length := by omega
  unfold readL
  rw [if_neg e1, if_neg e2, if_neg e3, split_append, readP_append]
  by_cases h0 : (readP k (splitC a) 0 0#64).2.2 = 0
  · rw [if_pos h0, if_pos h0, readP_shift, split_sum]
    by_cases h1 : (readP k (splitC b) 0 0#64).2.2 = 0
    · rw [if_pos h1, if_pos h1]
    · rw [if_neg h1, if_neg h1]
      simp; omega
  · rw [if_neg h0, if_neg h0]
theorem readL_err {k : Nat} (s : List UInt8) (h : (readL k s).2.2 ≠ 0) : (readL k s).1 = 0#64 ∧ ((readL k s).2.2 = 3 ∧ 256 < s.length ∧ (readL k s).2.1 = 0 ∨ (readL k s).2.2 = 160 ∧ s.length ≤ 256) := by
  unfold readL at *
  split
  · rename_i hl
    exact ⟨rfl, .inl ⟨rfl, hl, rfl⟩⟩
  · rename_i hl
    rw [if_neg hl] at h
    rw [readP_shift] at h ⊢
    by_cases h0 : (readP k (splitC s) 0 0#64).2.2 = 0
    · rw [if_pos h0] at h; simp at h
    · rw [if_neg h0]; exact ⟨rfl, .inr ⟨rfl, by omega⟩⟩
end Go.Proofs.YthghcffibljclaaDoor
/- Fields of crons, plain: the one text, read, is the field. -/
namespace Go.Proofs.YthghcffibljclaaDoor
open Go Go.Op

theorem not_dgs {c : UInt8} (hc : isDg c = false) (n : Nat) : c ∉ dgsN n := fun h => by rw [dgs_all n c h] at hc; cases hc
theorem names_len (k : Nat) : ∀ x ∈ namesK k, x.length = 3 := by
  unfold namesK
  split
  · decide
  · split
    · decide
    · simp
theorem value_dgs {k n : Nat} (h0 : loK k ≤ n) (h1 : n ≤ topK k) : valueL k (dgsN n) = some n := by
  have ht : topK k ≤ 59 := by
    have := (hi_lt k).1
    unfold topK; split <;> omega
  have hn : (namesK k).findIdx? (fun nm => upL (dgsN n) == nm) = none := by
    rw [List.findIdx?_eq_none_iff]
    intro x hx
    have hl := names_len k x hx
    have := dgs_len n
    rw [beq_eq_false_iff_ne]
    intro e
    rw [← e] at hl
    unfold upL at hl
    rw [List.length_map] at hl
    omega
  unfold valueL
  rw [hn, num_dgs (by omega)]
  show (if loK k ≤ n ∧ n ≤ topK k then some n else none) = some n
  rw [if_pos ⟨h0, h1⟩]
theorem item_star (k : Nat) : itemL k [42] = some (wholeM k) := by
  have h : cutB [42] 47 = ([42], none) := by decide
  unfold itemL
  rw [h]
  show spanL k [42] false 1 = _
  unfold spanL
  rw [if_pos rfl]
  exact whole_span k
theorem item_step (k n : Nat) (h1 : 1 ≤ n) (h2 : n ≤ 63) : itemL k (42 :: 47 :: dgsN n) = spanM (loK k) (hiK k) n := by
  have h : cutB (42 :: 47 :: dgsN n) 47 = ([42], some (dgsN n)) := cutB_at (a := [42]) (dgsN n) (by decide)
  unfold itemL
  rw [h]
  have hs : stepL (some (dgsN n)) = some n := by
    show (match numL (dgsN n) with | some n => if 1 ≤ n ∧ n ≤ 63 then some n else none | none => none) = _
    rw [num_dgs (by omega)]
    show (if 1 ≤ n ∧ n ≤ 63 then some n else none) = some n
    rw [if_pos ⟨h1, h2⟩]
  show (match stepL (some (dgsN n)) with | none => none | some by_ => spanL k [42] true by_) = _
  rw [hs]
  show spanL k [42] true n = _
  unfold spanL
  rw [if_pos rfl]
theorem span_of (k : Nat) (sp : List UInt8) (st : Bool) (b : Nat) (h : sp ≠ [42]) {a : Nat} (ha : valueL k (cutB sp 45).1 = some a) :
    spanL k sp st b = match (cutB sp 45).2 with
      | none => if st then none else (spanM a a b).map (fix7 k)
      | some r => match valueL k r with
        | none => none
        | some t => (spanM a t b).map (fix7 k) := by
  unfold spanL
  rw [if_neg h, ha]
  try rfl
theorem item_run {k a b : Nat} (h0 : loK k ≤ a) (h1 : a ≤ b) (h2 : b ≤ hiK k) : itemL k (runL (a, b)) = some (segOf (a, b)) := by
  have hh := hi_lt k
  have htop : hiK k ≤ topK k := by
    unfold topK
    split
    · rename_i h; subst h; decide
    · exact Nat.le_refl _
  have hsp : spanM (a : Int) (b : Int) 1 = some (segOf (a, b)) := by
    unfold spanM
    rw [if_pos (by unfold spanOk; omega)]; rfl
  have hfix : fix7 k (segOf (a, b)) = segOf (a, b) := fix7_other fun q => by
    have h7 := q.2
    rw [seg_bit _ 7 (by omega)] at h7
    have h7' := of_decide_eq_true h7
    simp at h7'
    have : hiK k = 6 := by rw [q.1]; rfl
    omega
  have d47 : ∀ n, (47 : UInt8) ∉ dgsN n := fun n => not_dgs (by decide) n
  have d45 : ∀ n, (45 : UInt8) ∉ dgsN n := fun n => not_dgs (by decide) n
  have d42 : ∀ n, (42 : UInt8) ∉ dgsN n := fun n => not_dgs (by decide) n
  by_cases hab : a < b
  · have hr : runL (a, b) = dgsN a ++ 45 :: dgsN b := by unfold runL; rw [if_pos hab]
    rw [hr]
    have hn : (47 : UInt8) ∉ dgsN a ++ 45 :: dgsN b := by
      intro q
      rcases List.mem_append.1 q with q | q
      · exact d47 a q
      · rcases List.mem_cons.1 q with q | q
        · revert q; decide
        · exact d47 b q
    unfold itemL
    rw [cutB_none hn]
    show spanL k (dgsN a ++ 45 :: dgsN b) false 1 = _
    have hc := cutB_at (dgsN b) (d45 a)
    have hne : dgsN a ++ 45 :: dgsN b ≠ [42] := fun e => by
      have : (45 : UInt8) ∈ dgsN a ++ 45 :: dgsN b := by simp
      rw [e] at this; revert this; decide
    rw [span_of k _ false 1 hne (a := a) (by rw [hc]; exact value_dgs h0 (by omega)), hc]
    show (match valueL k (dgsN b) with | none => none | some t => (spanM (a : Int) (t : Int) ((1 : Nat) : Int)).map (fix7 k)) = _
    rw [value_dgs (by omega) (by omega)]
    show (spanM (a : Int) (b : Int) 1).map (fix7 k) = _
    rw [hsp, Option.map_some, hfix]
  · obtain rfl : a = b := by omega
    have hr : runL (a, a) = dgsN a := by unfold runL; rw [if_neg (by simp)]
    rw [hr]
    unfold itemL
    rw [cutB_none (d47 a)]
    show spanL k (dgsN a) false 1 = _
    have hne : dgsN a ≠ [42] := fun e => d42 a (by rw [e]; simp)
    have hc := cutB_none (d45 a)
    rw [span_of k _ false 1 hne (a := a) (by rw [hc]; exact value_dgs h0 (by omega)), hc]
    show (spanM (a : Int) (a : Int) 1).map (fix7 k) = _
    rw [hsp, Option.map_some, hfix]
theorem readP_runs {k : Nat} : ∀ (rs : List (Nat × Nat)) (at_ : Nat) (m : BitVec 64), (∀ r ∈ rs, itemL k (runL r) = some (segOf r)) → readP k (rs.map runL) at_ m = (folds g_or (rs.map segOf) m, 0, 0)
  | [], _, _, _ => rfl
  | r :: rs, at_, m, h => by
    rw [List.map_cons, readP, h r (by simp)]
    exact readP_runs rs _ _ (fun x hx => h x (by simp [hx]))
theorem run_field {k : Nat} {m : BitVec 64} (hf : FieldM k m) {r : Nat × Nat} (h : r ∈ runsOf m) : loK k ≤ r.1 ∧ r.1 ≤ r.2 ∧ r.2 ≤ hiK k := by
  obtain ⟨a, e, rfl, _, h1, _, h2, _⟩ := run_mem h
  exact ⟨(hf.2 a (h2 a (Nat.le_refl _) h1)).1, h1, (hf.2 e (h2 e h1 (Nat.le_refl _))).2⟩
theorem run_len (r : Nat × Nat) : (runL r).length + 1 ≤ 3 * (r.2 - r.1) + 3 ∧ (runL r).length + 1 ≤ 6 := by
  unfold runL
  have h1 := dgs_len r.1
  have h2 := dgs_len r.2
  split
  · simp; omega
  · omega
theorem runs_len : ∀ (rs : List (Nat × Nat)), (∀ r ∈ rs, r.1 ≤ r.2 ∧ r.2 ≤ 59) → rs.Pairwise (fun r s => r.2 + 1 < s.1) → ∀ r l, rs = r :: l → ((rs.map runL).map fun s => s.length + 1).sum ≤ 3 * (62 - r.1)
  | [], _, _, r, l, e => by cases e
  | [r], h, _, _, _, e => by
    cases e
    have := run_len r
    have := (h r (by simp))
    simp
    omega
  | r :: s :: l, h, hp, _, _, e => by
    cases e
    have ih := runs_len (s :: l) (fun x hx => h x (by simp [hx])) (List.Pairwise.of_cons hp) s l rfl
    have hr := run_len r
    have hg := List.rel_of_pairwise_cons hp (a' := s) (by simp)
    have h1 := h r (by simp)
    have h2 := h s (by simp)
    rw [List.map_cons, List.map_cons, List.sum_cons]
    omega
theorem joinC_len : ∀ (ps : List (List UInt8)), (joinC ps).length ≤ (ps.map fun s => s.length + 1).sum
  | [] => by simp [joinC]
  | [p] => by simp [joinC]
  | p :: q :: ps => by
    have := joinC_len (q :: ps)
    rw [joinC, List.map_cons, List.sum_cons]
    simp only [List.length_append, List.length_cons] at *
    omega
theorem runs_some {m : BitVec 64} (h : m ≠ 0#64) : runsOf m ≠ [] := fun e => h (by
  have := runs_join m
  rw [e] at this
  exact this.symm)
theorem runsL_len {k : Nat} {m : BitVec 64} (hf : FieldM k m) : (runsL m).length ≤ 186 := by
  have h1 := joinC_len ((runsOf m).map runL)
  cases hr : runsOf m with
  | nil => exact absurd hr (runs_some hf.1)
  | cons r l =>
    have h2 := runs_len (runsOf m) (fun r hr => by
      have := run_field hf hr
      have := (hi_lt k).1
      omega) (runs_gap m) r l hr
    unfold runsL
    omega
theorem run_no_comma (r : Nat × Nat) : (44 : UInt8) ∉ runL r := by
  unfold runL
  have d : ∀ n, (44 : UInt8) ∉ dgsN n := fun n => not_dgs (by decide) n
  split
  · intro q
    rcases List.mem_append.1 q with q | q
    · exact d _ q
    · rcases List.mem_cons.1 q with q | q
      · revert q; decide
      · exact d _ q
  · exact d _
theorem read_runs {k : Nat} {m : BitVec 64} (hf : FieldM k m) : readL k (runsL m) = (m, 0, 0) := by
  have hl := runsL_len hf
  unfold readL
  rw [if_neg (by omega)]
  unfold runsL
  rw [split_join (by simpa using runs_some hf.1) (fun p hp => by
    obtain ⟨r, _, rfl⟩ := List.mem_map.1 hp
    exact run_no_comma r)]
  rw [readP_runs _ _ _ (fun r hr => by
    obtain ⟨a, b, c⟩ := run_field hf hr
    exact item_run a b c), runs_join]
theorem steps_is {k n : Nat} {m : BitVec 64} (h : stepsN k m = some n) : 2 ≤ n ∧ n ≤ 63 ∧ spanM (loK k) (hiK k) n = some m := by
  unfold stepsN at h
  have h1 := List.find?_some h
  have h2 := List.mem_of_find?_eq_some h
  simp at h1 h2
  exact ⟨h2.1, by omega, h1⟩
theorem read_one {k : Nat} {s : List UInt8} {m : BitVec 64} (h44 : (44 : UInt8) ∉ s) (hl : s.length ≤ 256) (hi : itemL k s = some m) : readL k s = (m, 0, 0) := by
  unfold readL
  rw [if_neg (by omega), split_none h44, readP, hi]
  simp [readP]
/-- The one text, read, is the field. -/
theorem read_text {k : Nat} {m : BitVec 64} (hf : FieldM k m) : readL k (textL k m) = (m, 0, 0) := by
  unfold textL
  split
  · rename_i h
    rw [h]
    exact read_one (by decide) (by decide) (item_star k)
  · split
    · cases hs : stepsN k m with
      | none => exact read_runs hf
      | some n =>
        obtain ⟨h1, h2, h3⟩ := steps_is hs
        refine read_one (fun q => ?_) (by have := dgs_len n; simp; omega) ((item_step k n (by omega) h2).trans h3)
        rcases List.mem_cons.1 q with q | q
        · revert q; decide
        · rcases List.mem_cons.1 q with q | q
          · revert q; decide
          · exact not_dgs (by decide) n q
    · exact read_runs hf
end Go.Proofs.YthghcffibljclaaDoor
/- Fields of crons, plain: spans by steps; names in the place of numbers. -/
namespace Go.Proofs.YthghcffibljclaaDoor
open Go Go.Op

theorem read_item {k : Nat} {s : List UInt8} (h44 : (44 : UInt8) ∉ s) (hl : s.length ≤ 256) :
    readL k s = match itemL k s with | none => (0#64, 0, 160) | some m => (m, 0, 0) := by
  unfold readL
  rw [if_neg (by omega), split_none h44, readP]
  cases itemL k s with
  | none => rfl
  | some m => simp [readP]
/-- What stands between two values, and the step, if there is one. -/
theorem item_two {k a b : Nat} {x y : List UInt8} (h47x : (47 : UInt8) ∉ x) (h45x : (45 : UInt8) ∉ x) (h47y : (47 : UInt8) ∉ y) (ha : valueL k x = some a) (hb : valueL k y = some b) :
    itemL k (x ++ 45 :: y) = (spanM a b 1).map (fix7 k) := by
  have hn : (47 : UInt8) ∉ x ++ 45 :: y := by
    intro q
    rcases List.mem_append.1 q with q | q
    · exact h47x q
    · rcases List.mem_cons.1 q with q | q
      · revert q; decide
      · exact h47y q
  unfold itemL
  rw [cutB_none hn]
  show spanL k (x ++ 45 :: y) false 1 = _
  have hc := cutB_at y h45x
  have hne : x ++ 45 :: y ≠ [42] := fun e => by
    have : (45 : UInt8) ∈ x ++ 45 :: y := by simp
    rw [e] at this; revert this; decide
  rw [span_of k _ false 1 hne (a := a) (by rw [hc]; exact ha), hc]
  show (match valueL k y with | none => none | some t => (spanM (a : Int) (t : Int) ((1 : Nat) : Int)).map (fix7 k)) = _
  rw [hb]; rfl
theorem item_steps {k a b st : Nat} {x y : List UInt8} (h47x : (47 : UInt8) ∉ x) (h45x : (45 : UInt8) ∉ x) (h47y : (47 : UInt8) ∉ y) (ha : valueL k x = some a) (hb : valueL k y = some b) (h1 : 1 ≤ st) (h2 : st ≤ 63) :
    itemL k ((x ++ 45 :: y) ++ 47 :: dgsN st) = (spanM a b st).map (fix7 k) := by
  have hn : (47 : UInt8) ∉ x ++ 45 :: y := by
    intro q
    rcases List.mem_append.1 q with q | q
    · exact h47x q
    · rcases List.mem_cons.1 q with q | q
      · revert q; decide
      · exact h47y q
  unfold itemL
  rw [cutB_at (dgsN st) hn]
  have hs : stepL (some (dgsN st)) = some st := by
    show (match numL (dgsN st) with | some n => if 1 ≤ n ∧ n ≤ 63 then some n else none | none => none) = _
    rw [num_dgs (by omega)]
    show (if 1 ≤ st ∧ st ≤ 63 then some st else none) = some st
    rw [if_pos ⟨h1, h2⟩]
  show (match stepL (some (dgsN st)) with | none => none | some by_ => spanL k (x ++ 45 :: y) true by_) = _
  rw [hs]
  show spanL k (x ++ 45 :: y) true st = _
  have hc := cutB_at y h45x
  have hne : x ++ 45 :: y ≠ [42] := fun e => by
    have : (45 : UInt8) ∈ x ++ 45 :: y := by simp
    rw [e] at this; revert this; decide
  rw [span_of k _ true st hne (a := a) (by rw [hc]; exact ha), hc]
  show (match valueL k y with | none => none | some t => (spanM (a : Int) (t : Int) (st : Int)).map (fix7 k)) = _
  rw [hb]
theorem fix_within {k a b : Nat} {s : Int} (hb : b ≤ hiK k) : (spanM (a : Int) (b : Int) s).map (fix7 k) = spanM a b s := by
  cases h : spanM (a : Int) (b : Int) s with
  | none => rfl
  | some m =>
    rw [Option.map_some, fix7_other]
    rintro ⟨rfl, h7⟩
    have := span_in h h7
    have : hiK 4 = 6 := rfl
    omega
theorem top_hi (k : Nat) : hiK k ≤ topK k := by
  unfold topK
  split
  · rename_i h; subst h; decide
  · exact Nat.le_refl _
/-- FieldSteps: what is read of two numbers and a step. -/
theorem read_steps {k a b st : Nat} (a0 : loK k ≤ a) (a1 : a ≤ hiK k) (b0 : loK k ≤ b) (b1 : b ≤ hiK k) (h1 : 1 ≤ st) (h2 : st ≤ 63) :
    readL k ((dgsN a ++ 45 :: dgsN b) ++ 47 :: dgsN st) = match spanM a b st with | none => (0#64, 0, 160) | some m => (m, 0, 0) := by
  have ht := top_hi k
  have la := dgs_len a
  have lb := dgs_len b
  have ls := dgs_len st
  rw [read_item (fun q => ?_) (by simp; omega), item_steps (not_dgs (by decide) a) (not_dgs (by decide) a) (not_dgs (by decide) b) (value_dgs a0 (by omega)) (value_dgs b0 (by omega)) h1 h2, fix_within b1]
  simp only [List.mem_append, List.mem_cons] at q
  rcases q with (q | q | q) | q | q
  · exact not_dgs (by decide) a q
  · revert q; decide
  · exact not_dgs (by decide) b q
  · revert q; decide
  · exact not_dgs (by decide) st q
theorem read_each {k st : Nat} (h1 : 1 ≤ st) (h2 : st ≤ 63) : readL k (42 :: 47 :: dgsN st) = match spanM (loK k) (hiK k) st with | none => (0#64, 0, 160) | some m => (m, 0, 0) := by
  have ls := dgs_len st
  rw [read_item (fun q => ?_) (by simp; omega), item_step k st h1 h2]
  simp only [List.mem_cons] at q
  rcases q with q | q | q
  · revert q; decide
  · revert q; decide
  · exact not_dgs (by decide) st q
theorem span_some {a b : Nat} {s : Int} (h : a ≤ b) (hb : b ≤ 63) (hs : 1 ≤ s) : ∃ m, spanM (a : Int) (b : Int) s = some m := by
  unfold spanM
  rw [if_pos (by unfold spanOk; omega)]
  exact ⟨_, rfl⟩
theorem span_none' {a b : Nat} {s : Int} (h : b < a) : spanM (a : Int) (b : Int) s = none := by
  unfold spanM
  rw [if_neg (by unfold spanOk; omega)]
/-! names -/
def letter (b : UInt8) : Bool := 65 ≤ b.toNat && b.toNat ≤ 90
/-- A name, some of its letters small. -/
def lowN : List UInt8 → (Nat → Bool) → Nat → List UInt8
  | [], _, _ => []
  | b :: l, f, p => (if f p then b + 32 else b) :: lowN l f (p + 1)
theorem up_low {b : UInt8} (h : letter b = true) (c : Bool) : upB (if c then b + 32 else b) = b := by
  unfold letter at h
  simp at h
  unfold upB
  cases c
  · show (if 97 ≤ b.toNat ∧ b.toNat ≤ 122 then b - 32 else b) = b
    rw [if_neg (by omega)]
  · show (if 97 ≤ (b + 32).toNat ∧ (b + 32).toNat ≤ 122 then b + 32 - 32 else b + 32) = b
    have e : (b + 32).toNat = b.toNat + 32 := by
      rw [UInt8.toNat_add]
      have : (32 : UInt8).toNat = 32 := rfl
      omega
    rw [if_pos (by omega)]
    apply UInt8.toNat_inj.1
    rw [UInt8.toNat_sub, e]
    have : (32 : UInt8).toNat = 32 := rfl
    omega
theorem up_lowN : ∀ (l : List UInt8) (f : Nat → Bool) (p : Nat), l.all letter = true → upL (lowN l f p) = l
  | [], _, _, _ => rfl
  | b :: l, f, p, h => by
    simp only [List.all_cons, Bool.and_eq_true] at h
    have := up_lowN l f (p + 1) h.2
    unfold upL at *
    rw [lowN, List.map_cons, up_low h.1, this]
theorem low_mem : ∀ (l : List UInt8) (f : Nat → Bool) (p : Nat), l.all letter = true → ∀ x ∈ lowN l f p, 65 ≤ x.toNat
  | [], _, _, _, x, hx => by cases hx
  | b :: l, f, p, h, x, hx => by
    simp only [List.all_cons, Bool.and_eq_true] at h
    have hb := h.1
    unfold letter at hb
    simp at hb
    rcases List.mem_cons.1 hx with e | hx
    · subst e
      split
      · rw [UInt8.toNat_add]
        have : (32 : UInt8).toNat = 32 := rfl
        omega
      · exact hb.1
    · exact low_mem l f (p + 1) h.2 x hx
theorem names_letters (k : Nat) : ∀ x ∈ namesK k, x.all letter = true := by
  unfold namesK
  split
  · decide
  · split
    · decide
    · simp
theorem names_find (k i : Nat) (nm : List UInt8) (h : (namesK k)[i]? = some nm) : (namesK k).findIdx? (fun x => nm == x) = some i := by
  unfold namesK at *
  split at h
  · rename_i e
    rw [if_pos e]
    have hi : i < 12 := by have := (List.getElem?_eq_some_iff.1 h).1; simpa using this
    have hc : i = 0 ∨ i = 1 ∨ i = 2 ∨ i = 3 ∨ i = 4 ∨ i = 5 ∨ i = 6 ∨ i = 7 ∨ i = 8 ∨ i = 9 ∨ i = 10 ∨ i = 11 := by omega
    rcases hc with rfl | rfl | rfl | rfl | rfl | rfl | rfl | rfl | rfl | rfl | rfl | rfl <;> (simp at h; subst h; decide)
  · rename_i e
    rw [if_neg e]
    split at h
    · rename_i e2
      rw [if_pos e2]
      have hi : i < 7 := by have := (List.getElem?_eq_some_iff.1 h).1; simpa using this
      have hc : i = 0 ∨ i = 1 ∨ i = 2 ∨ i = 3 ∨ i = 4 ∨ i = 5 ∨ i = 6 := by omega
      rcases hc with rfl | rfl | rfl | rfl | rfl | rfl | rfl <;> (simp at h; subst h; decide)
    · simp at h
theorem value_name {k i : Nat} {nm : List UInt8} (h : (namesK k)[i]? = some nm) (f : Nat → Bool) : valueL k (lowN nm f 0) = some (loK k + i) := by
  have hm : nm ∈ namesK k := List.mem_of_getElem? h
  unfold valueL
  rw [up_lowN nm f 0 (names_letters k nm hm), names_find k i nm h]
theorem low_not {l : List UInt8} (h : l.all letter = true) (f : Nat → Bool) {c : UInt8} (hc : c.toNat < 65) : c ∉ lowN l f 0 := fun q => by
  have := low_mem l f 0 h c q
  omega
theorem low_len : ∀ (l : List UInt8) (f : Nat → Bool) (p : Nat), (lowN l f p).length = l.length
  | [], _, _ => rfl
  | b :: l, f, p => by rw [lowN, List.length_cons, low_len l f (p + 1), List.length_cons]
/-- FieldNames: what is read of two names is what is read of their numbers. -/
theorem read_names {k i j : Nat} {nm nj : List UInt8} (hi : (namesK k)[i]? = some nm) (hj : (namesK k)[j]? = some nj) (f : Nat → Bool) (hti : loK k + i ≤ hiK k) (htj : loK k + j ≤ hiK k) :
    readL k (lowN nm f 0 ++ 45 :: nj) = (match spanM ((loK k + i : Nat) : Int) ((loK k + j : Nat) : Int) 1 with | none => (0#64, 0, 160) | some m => (m, 0, 0)) ∧
    readL k (dgsN (loK k + i) ++ 45 :: dgsN (loK k + j)) = (match spanM ((loK k + i : Nat) : Int) ((loK k + j : Nat) : Int) 1 with | none => (0#64, 0, 160) | some m => (m, 0, 0)) := by
  have ht := top_hi k
  have hli := names_letters k nm (List.mem_of_getElem? hi)
  have hlj := names_letters k nj (List.mem_of_getElem? hj)
  have l3 := names_len k nm (List.mem_of_getElem? hi)
  have l4 := names_len k nj (List.mem_of_getElem? hj)
  have la := dgs_len (loK k + i)
  have lb := dgs_len (loK k + j)
  have ej : lowN nj (fun _ => false) 0 = nj := by
    have : ∀ (l : List UInt8) p, lowN l (fun _ => false) p = l := fun l => by
      induction l with
      | nil => intro p; rfl
      | cons b l ih => intro p; rw [lowN, ih]; rfl
    exact this nj 0
  have hvj := value_name hj (fun _ => false)
  rw [ej] at hvj
  have nj' : ∀ {c : UInt8}, c.toNat < 65 → c ∉ nj := fun {c} hc => by
    have := low_not hlj (fun _ => false) hc
    rwa [ej] at this
  constructor
  · rw [read_item (fun q => ?_) (by simp [low_len]; omega), item_two (low_not hli f (by decide)) (low_not hli f (by decide)) (nj' (by decide)) (value_name hi f) hvj, fix_within htj]
    simp only [List.mem_append, List.mem_cons] at q
    rcases q with q | q | q
    · exact low_not hli f (by decide) q
    · revert q; decide
    · exact nj' (by decide) q
  · rw [read_item (fun q => ?_) (by simp; omega), item_two (not_dgs (by decide) _) (not_dgs (by decide) _) (not_dgs (by decide) _) (value_dgs (by omega) (by omega)) (value_dgs (by omega) (by omega)), fix_within htj]
    simp only [List.mem_append, List.mem_cons] at q
    rcases q with q | q | q
    · exact not_dgs (by decide) _ q
    · revert q; decide
    · exact not_dgs (by decide) _ q
/-- Of hours no name is a value. -/
theorem no_name {k i : Nat} {nm : List UInt8} (hi : (namesK k)[i]? = some nm) (f : Nat → Bool) : valueL 1 (lowN nm f 0) = none := by
  have hl := names_letters k nm (List.mem_of_getElem? hi)
  have h3 := names_len k nm (List.mem_of_getElem? hi)
  have hd : digs (lowN nm f 0) = false := by
    match nm, h3 with
    | [a, b, c], _ =>
      have h65 := low_mem [a, b, c] f 0 hl (if f 0 then a + 32 else a) (by rw [lowN]; simp)
      rw [lowN]
      unfold digs
      rw [List.all_cons]
      have : isDg (if f 0 then a + 32 else a) = false := by
        unfold isDg
        simp
        intro _
        omega
      rw [this]; rfl
  have hn : numL (lowN nm f 0) = none := by
    unfold numL
    rw [if_pos (.inr (.inr (.inr hd)))]
  unfold valueL
  have : (namesK 1).findIdx? (fun x => upL (lowN nm f 0) == x) = none := rfl
  rw [this, hn]
end Go.Proofs.YthghcffibljclaaDoor
/- Fields of crons, plain: numbers and names as the program tells them. -/
namespace Go.Proofs.YthghcffibljclaaDoor
open Go Go.Op

/-- The program's number: one beyond 64 is told as 64. -/
def numS (l : List UInt8) : Option Nat := if l = [] ∨ (1 < l.length ∧ l.head? = some 48) ∨ digs l = false then none else some (min 64 (valL l))
theorem val_mono : ∀ (b a : List UInt8), valL a ≤ valL (a ++ b)
  | [], a => by simp
  | x :: b, a => by
    have h := val_mono b (a ++ [x])
    rw [valL_snoc, List.append_assoc] at h
    simp only [List.cons_append, List.nil_append] at h
    omega
theorem digs_take {l : List UInt8} (h : digs l = true) (k : Nat) : digs (l.take k) = true := by
  unfold digs at *
  rw [List.all_eq_true] at *
  exact fun x hx => h x (List.mem_of_mem_take hx)
theorem val_take (l : List UInt8) (k : Nat) : valL (l.take k) ≤ valL l := by
  have := val_mono (l.drop k) (l.take k)
  rwa [List.take_append_drop] at this
/-- What holds of a number behind k letters. -/
def NInv (l : List UInt8) (k n : Nat) : Prop := k ≤ l.length ∧ digs (l.take k) = true ∧ n = min 64 (valL (l.take k)) ∧ (2 ≤ k → l.head? ≠ some 48)
theorem NInv.zero (l : List UInt8) : NInv l 0 0 := ⟨Nat.zero_le _, rfl, rfl, fun h => by omega⟩
theorem NInv.le {l : List UInt8} {k n : Nat} (h : NInv l k n) : n ≤ 64 := by rw [h.2.2.1]; omega
theorem NInv.head {l : List UInt8} {k n : Nat} (h : NInv l k n) (hk : 1 ≤ k) : l.head? = some 48 ↔ n = 0 := by
  obtain ⟨h1, h2, h3, h4⟩ := h
  match l, h1 with
  | [], h1 => simp at h1; omega
  | a :: l, _ =>
    obtain ⟨j, rfl⟩ : ∃ j, k = j + 1 := ⟨k - 1, by omega⟩
    simp only [List.take_succ_cons, List.head?_cons, Option.some.injEq] at *
    have hd : isDg a = true := by unfold digs at h2; simp at h2; exact h2.1
    have hm := val_mono (l.take j) [a]
    have hv : valL [a] = a.toNat - 48 := by simp [valL]
    simp only [List.cons_append, List.nil_append] at hm
    unfold isDg at hd
    simp at hd
    constructor
    · rintro rfl
      match j with
      | 0 => simp at h3; rw [h3, hv]; rfl
      | j + 1 => exact absurd rfl (h4 (by omega))
    · intro h0
      have h48 : a.toNat = 48 := by omega
      exact UInt8.toNat_inj.1 h48
theorem NInv.next {l : List UInt8} {k n : Nat} (h : NInv l k n) {b : UInt8} (hb : l[k]? = some b) (hd : isDg b = true) (hn : k = 0 ∨ n ≠ 0) : NInv l (k + 1) (min (n * 10 + (b.toNat - 48)) 64) := by
  have hh := fun q => h.head q
  obtain ⟨h1, h2, h3, h4⟩ := h
  obtain ⟨hlt, hv⟩ := List.getElem?_eq_some_iff.1 hb
  have ht : l.take (k + 1) = l.take k ++ [b] := by rw [List.take_succ_eq_append_getElem hlt, hv]
  refine ⟨hlt, ?_, ?_, fun hk => ?_⟩
  · rw [ht]; unfold digs at *; rw [List.all_append, h2]; simp [hd]
  · rw [ht, valL_snoc, h3]; omega
  · rcases hn with rfl | hn
    · omega
    · exact fun e => hn ((hh (by omega)).1 e)
theorem NInv.bad {l : List UInt8} {k n : Nat} (_h : NInv l k n) {b : UInt8} (hb : l[k]? = some b) (hd : isDg b = false) : numS l = none := by
  unfold numS
  rw [if_pos]
  refine .inr (.inr ?_)
  rw [← Bool.not_eq_true]
  intro q
  unfold digs at q
  rw [List.all_eq_true] at q
  rw [q b (List.mem_of_getElem? hb)] at hd
  cases hd
theorem NInv.lead {l : List UInt8} {k n : Nat} (h : NInv l k n) (hk : 1 ≤ k) (hlt : k < l.length) (hn : n = 0) : numS l = none := by
  unfold numS
  rw [if_pos]
  exact .inr (.inl ⟨by omega, (h.head hk).2 hn⟩)
theorem NInv.fin {l : List UInt8} {n : Nat} (h : NInv l l.length n) (hl : l ≠ []) : numS l = some n := by
  obtain ⟨_, h2, h3, h4⟩ := h
  rw [List.take_length] at h2 h3
  unfold numS
  rw [if_neg, h3]
  rintro (h | ⟨a, b⟩ | h)
  · exact hl h
  · exact h4 (by omega) b
  · rw [h2] at h; cases h
theorem numS_nil : numS [] = none := by simp [numS]
theorem numS_le {l : List UInt8} {n : Nat} (h : numS l = some n) : n ≤ 64 := by
  unfold numS at h
  split at h
  · cases h
  · cases h; omega
/-- Below 64 both numbers are one. -/
theorem numS_iff (l : List UInt8) (n : Nat) (hn : n < 64) : numS l = some n ↔ numL l = some n := by
  unfold numS numL
  by_cases h3 : 3 < l.length
  · rw [if_pos (show l = [] ∨ 3 < l.length ∨ (1 < l.length ∧ l.head? = some 48) ∨ digs l = false from .inr (.inl h3))]
    constructor
    · intro h
      split at h
      · cases h
      · rename_i hc
        simp only [Option.some.injEq] at h
        exfalso
        match l, h3 with
        | a :: b :: c :: d :: r, _ =>
          have hd : digs (a :: b :: c :: d :: r) = true := by
            cases hh : digs (a :: b :: c :: d :: r) with
            | true => rfl
            | false => exact absurd (.inr (.inr hh)) hc
          have ha : a ≠ 48 := fun e => hc (.inr (.inl ⟨by simp, by simp [e]⟩))
          have hda : isDg a = true := by unfold digs at hd; simp at hd; exact hd.1
          unfold isDg at hda
          simp at hda
          have h49 : a.toNat ≠ 48 := fun e => ha (UInt8.toNat_inj.1 e)
          have hm := val_mono (d :: r) [a, b, c]
          have hv : valL [a, b, c] = 10 * (10 * (a.toNat - 48) + (b.toNat - 48)) + (c.toNat - 48) := by simp [valL]
          simp only [List.cons_append, List.nil_append] at hm
          omega
    · intro h; cases h
  · have hcc : (l = [] ∨ 3 < l.length ∨ (1 < l.length ∧ l.head? = some 48) ∨ digs l = false) ↔ (l = [] ∨ (1 < l.length ∧ l.head? = some 48) ∨ digs l = false) := by
      constructor
      · rintro (h | h | h)
        · exact .inl h
        · exact absurd h h3
        · exact .inr h
      · rintro (h | h)
        · exact .inl h
        · exact .inr (.inr h)
    simp only [hcc]
    split
    · exact Iff.rfl
    · simp only [Option.some.injEq]
      omega
/-! names -/
/-- Whether s is the name, each letter great or small. -/
def sameL (s nm : List UInt8) : Bool := s.length == nm.length && (s.zip nm).all fun p => p.1 == p.2 || p.1.toNat == p.2.toNat + 32
theorem upB_is {a b : UInt8} (hb : letter b = true) : (upB a == b) = (a == b || a.toNat == b.toNat + 32) := by
  unfold letter at hb
  simp at hb
  rw [Bool.eq_iff_iff]
  simp only [beq_iff_eq, Bool.or_eq_true]
  unfold upB
  constructor
  · split
    · rename_i hc
      intro e
      right
      rw [← e, UInt8.toNat_sub_of_le _ _ (by rw [UInt8.le_iff_toNat_le]; show 32 ≤ a.toNat; omega)]
      show a.toNat = a.toNat - 32 + 32
      omega
    · exact .inl
  · rintro (rfl | e)
    · rw [if_neg (by omega)]
    · rw [if_pos (by omega)]
      apply UInt8.toNat_inj.1
      rw [UInt8.toNat_sub_of_le _ _ (by rw [UInt8.le_iff_toNat_le]; show 32 ≤ a.toNat; omega)]
      show a.toNat - 32 = b.toNat
      omega
theorem same_up : ∀ (s nm : List UInt8), nm.all letter = true → sameL s nm = (upL s == nm)
  | [], [], _ => rfl
  | [], b :: nm, _ => by simp [sameL, upL]
  | a :: s, [], _ => by simp [sameL, upL]
  | a :: s, b :: nm, h => by
    rw [List.all_cons, Bool.and_eq_true] at h
    have ih := same_up s nm h.2
    have hb := upB_is (a := a) h.1
    unfold sameL at *
    simp only [List.length_cons, List.zip_cons_cons, List.all_cons, upL, List.map_cons]
    rw [← hb]
    show _ = ((upB a :: upL s) == (b :: nm))
    rw [show ((upB a :: upL s) == (b :: nm)) = ((upB a == b) && (upL s == nm)) by rfl, ← ih]
    rw [show (s.length + 1 == nm.length + 1) = (s.length == nm.length) by simp]
    cases (upB a == b) <;> cases (s.length == nm.length) <;> simp
/-- Behind k letters all were the name's. -/
theorem same_bad {s nm : List UInt8} {k : Nat} {a b : UInt8} (ha : s[k]? = some a) (hb : nm[k]? = some b) (h : ¬ (a = b ∨ a.toNat = b.toNat + 32)) : sameL s nm = false := by
  unfold sameL
  rw [Bool.and_eq_false_iff]
  right
  rw [List.all_eq_false]
  refine ⟨(a, b), ?_, ?_⟩
  · apply List.mem_of_getElem? (i := k)
    rw [List.getElem?_zip_eq_some]
    exact ⟨ha, hb⟩
  · simpa using h
theorem same_len {s nm : List UInt8} (h : s.length ≠ nm.length) : sameL s nm = false := by
  unfold sameL
  rw [Bool.and_eq_false_iff]
  left
  simpa using h
theorem same_all {s nm : List UInt8} (hl : s.length = nm.length) (h : ∀ (k : Nat) (a b : UInt8), s[k]? = some a → nm[k]? = some b → a = b ∨ a.toNat = b.toNat + 32) : sameL s nm = true := by
  unfold sameL
  rw [Bool.and_eq_true]
  refine ⟨by simpa using hl, ?_⟩
  rw [List.all_eq_true]
  rintro ⟨a, b⟩ hp
  obtain ⟨k, hk⟩ := List.getElem?_of_mem hp
  rw [List.getElem?_zip_eq_some] at hk
  simpa using h k a b hk.1 hk.2
/-- The program's value. -/
def nameP (k : Nat) (s : List UInt8) : Option Nat := (namesK k).findIdx? (fun nm => sameL s nm)
def valueP (k : Nat) (s : List UInt8) : Option Nat :=
  match numS s with
  | some n => if loK k ≤ n ∧ n ≤ topK k then some n else (nameP k s).map (loK k + ·)
  | none => (nameP k s).map (loK k + ·)
theorem name_is (k : Nat) (s : List UInt8) : nameP k s = (namesK k).findIdx? (fun nm => upL s == nm) := by
  unfold nameP
  have h := names_letters k
  generalize namesK k = l at *
  induction l with
  | nil => rfl
  | cons x l ih =>
    rw [List.findIdx?_cons, List.findIdx?_cons, same_up s x (h x (by simp)), ih (fun y hy => h y (by simp [hy]))]
theorem up_digs {s : List UInt8} (h : digs s = true) : upL s = s := by
  unfold upL
  conv => rhs; rw [← List.map_id s]
  apply List.map_congr_left
  intro x hx
  unfold digs at h
  rw [List.all_eq_true] at h
  exact up_digit (h x hx)
theorem num_name {k n : Nat} {s : List UInt8} (h : numS s = some n) : nameP k s = none := by
  rw [name_is, List.findIdx?_eq_none_iff]
  intro nm hnm
  have hd : digs s = true := by
    unfold numS at h
    split at h
    · cases h
    · rename_i hc
      cases hh : digs s with
      | true => rfl
      | false => exact absurd (.inr (.inr hh)) hc
  have hne : s ≠ [] := by rintro rfl; simp [numS] at h
  rw [up_digs hd]
  have hl := names_letters k nm hnm
  match s, hne with
  | a :: s, _ =>
    cases nm with
    | nil => rfl
    | cons b nm =>
      have h1 : isDg a = true := by unfold digs at hd; simp at hd; exact hd.1
      have h2 : letter b = true := by simp at hl; exact hl.1
      unfold isDg at h1
      unfold letter at h2
      simp at h1 h2
      have : a ≠ b := by rintro rfl; omega
      simp [this]
theorem top_small (k : Nat) : topK k < 64 := by
  have := hi_lt k
  unfold topK
  split <;> omega
theorem value_is (k : Nat) (s : List UInt8) : valueP k s = valueL k s := by
  unfold valueP valueL
  rw [← name_is]
  have ht := top_small k
  cases hn : numS s with
  | none =>
    have hnl : ∀ n, n < 64 → numL s ≠ some n := fun n h64 e => by rw [(numS_iff s n h64).2 e] at hn; cases hn
    cases nameP k s with
    | some i => rfl
    | none =>
      simp only [Option.map_none]
      cases hm : numL s with
      | none => rfl
      | some m =>
        have : 64 ≤ m := by
          rcases Nat.lt_or_ge m 64 with h | h
          · exact absurd hm (hnl m h)
          · exact h
        simp only
        rw [if_neg (by omega)]
  | some n =>
    rw [num_name hn]
    simp only [Option.map_none]
    by_cases h64 : n < 64
    · rw [(numS_iff s n h64).1 hn]
    · have hle := numS_le hn
      rw [if_neg (by omega)]
      cases hm : numL s with
      | none => rfl
      | some m =>
        have hm64 : 64 ≤ m := by
          rcases Nat.lt_or_ge m 64 with h | h
          · rw [(numS_iff s m h).2 hm] at hn; cases hn; omega
          · exact h
        simp only
        rw [if_neg (by omega)]
end Go.Proofs.YthghcffibljclaaDoor
/- What lies in the variables; numbers, steps and names: walked, of the program. -/
namespace Go.Proofs.YthghcffibljclaaDoor
open Go.RowKit

theorem ret_bool {a b : Bool} (h : a = b) : Ending.returned (.bool a) = .returned (.bool b) := by rw [h]
theorem ret_int {k : IntKind} {a b : Int} (h : a = b) : Ending.returned (.int k a) = .returned (.int k b) := by rw [h]
def strV (l : List UInt8) : Value := .string ⟨l.toArray⟩
theorem strV_data (s : ByteArray) : Value.string s = strV s.data.toList := by unfold strV; simp
/-- A slice of strings reads l. -/
def ArrL (w : World) (A : Option Addr) (n : Nat) (l : List (List UInt8)) : Prop := l.length = n ∧ ∀ i x, l[i]? = some x → ∃ b off, A = some ⟨b, off, none⟩ ∧ b < w.heap.size ∧ w.cell? ⟨b, off + i, none⟩ = some (strV x)
theorem ArrL.below {w w' : World} {A : Option Addr} {n : Nat} {l : List (List UInt8)} (h : ArrL w A n l) (hb : Below w.heap.size w w') : ArrL w' A n l :=
  ⟨h.1, fun i x hx => by
    obtain ⟨b, off, rfl, hlt, hc⟩ := h.2 i x hx
    exact ⟨b, off, rfl, Nat.lt_of_lt_of_le hlt hb.size, (hb.cell (p := ⟨b, off + i, none⟩) hlt).trans hc⟩⟩
/-- What the variables hold. -/
structure Laid (w : World) : Prop where
  tab : Tab w
  lo : ∀ k, k < 5 → w.cell? ⟨0, k * 2, none⟩ = some (.int .i64 (loK k : Nat))
  hi : ∀ k, k < 5 → w.cell? ⟨0, k * 2 + 1, none⟩ = some (.int .i64 (hiK k : Nat))
  lt : max 0 3 < w.heap.size
theorem Laid.on {w w' : World} (h : Laid w) (hb : Below w.heap.size w w') : Laid w' := by
  have hl := h.lt
  refine ⟨h.tab.below (B := w.heap.size) (by omega) hb, fun k hk => ?_, fun k hk => ?_, Nat.lt_of_lt_of_le hl hb.size⟩
  · exact (hb.cell (p := ⟨0, k * 2, none⟩) (by show 0 < w.heap.size; omega)).trans (h.lo k hk)
  · exact (hb.cell (p := ⟨0, k * 2 + 1, none⟩) (by show 0 < w.heap.size; omega)).trans (h.hi k hk)
theorem bdrewN {B : Nat} {a w : World} (h : Below B a w) (n : Nat) : Below B a (w.drewN n) := ⟨h.os, h.tape, h.output, h.size, h.block⟩
theorem below_iter (w : World) (s : ByteArray) (k : Nat) : Below w.heap.size w (w.iter s k) := (Below.refl _ w).alloc (Nat.le_refl _) _

/-! kinds -/
theorem kind_nat {z : Int} (h0 : 0 ≤ z) (h1 : z < 5) : ∃ k : Nat, z = k ∧ k < 5 := ⟨z.toNat, by omega, by omega⟩
theorem there_yes (k : Nat) (w : World) (h : k < 5) :
    Calls Tryd.prog 56 #[.int .i64 (k : Int)] w fun e w' => e = .returned (.bool true) ∧ w = w' := by
  have h1 : (k : Int) < 5 := by omega
  go_enter Tryd.func56, Tryd.ntmps56
  go_wp2_with fail
  go_ret
  exact ⟨rfl, rfl⟩
def NoKind (z : Int) : Prop := z < 0 ∨ 5 ≤ z
theorem there_no (z : Int) (w : World) (h : NoKind z) :
    Calls Tryd.prog 56 #[.int .i64 z] w fun e w' => e = .returned (.bool false) ∧ w = w' := by
  rcases h with h | h
  · have h1 : decide (0 ≤ z) = false := by simp; omega
    go_enter Tryd.func56, Tryd.ntmps56
    go_wp2_with fail
    go_ret
    exact ⟨rfl, rfl⟩
  · have h0 : 0 ≤ z := by omega
    have h1 : decide (z < 5) = false := by simp; omega
    go_enter Tryd.func56, Tryd.ntmps56
    go_wp2_with fail
    go_ret
    exact ⟨rfl, rfl⟩
/-! a text's letters -/
theorem rune_at (w : World) (s : ByteArray) (k : Nat) (h : k < s.size) : ∃ (r : Int) (q : Nat), (∀ ty, (Instr.next (.pointer (some ⟨w.heap.size, 0, none⟩)) true ty).run Tryd.prog (w.iter s k) = .ok (.tuple #[.bool true, .int .i64 k, .int .i32 r]) (w.iter s q)) ∧
    0 ≤ r ∧ r ≤ 2147483647 ∧ (r = (s[k].toNat : Int) ∧ r < 128 ∧ q = k + 1 ∨ 128 ≤ r ∧ 128 ≤ s[k].toNat) := by
  by_cases ha : s[k].toNat < 128
  · exact ⟨_, _, fun ty => run_next_ascii w s k ty h ha, by omega, by omega, .inl ⟨rfl, by omega, rfl⟩⟩
  · have hd := decode_high s k h (by omega)
    have hl := decode_le s k
    exact ⟨_, _, fun ty => run_next_any w s k ty h, by omega, by omega, .inr ⟨by omega, by omega⟩⟩
theorem get_list (s : ByteArray) (k : Nat) (h : k < s.size) : s.data.toList[k]? = some s[k] := by
  rw [List.getElem?_eq_getElem (by simpa using h)]; rfl
theorem len_list (s : ByteArray) : s.data.toList.length = s.size := by simp
theorem dg_yes {b : UInt8} {r : Int} (hr : r = (b.toNat : Int)) (h0 : 48 ≤ r) (h1 : r ≤ 57) : isDg b = true := by unfold isDg; simp; omega
theorem dg_no {b : UInt8} {r : Int} (hr : r = (b.toNat : Int) ∨ 128 ≤ r ∧ 128 ≤ b.toNat) (h : r < 48 ∨ 57 < r) : isDg b = false := by
  unfold isDg
  rw [← Bool.not_eq_true]
  simp
  omega
end Go.Proofs.YthghcffibljclaaDoor
/- wakes: true. -/
namespace Go.Proofs.YthghcffibljclaaDoor
open Go.RowKit

theorem arr_list (w : World) (t : TypeId) (cs : Array Value) (f : Nat → Value) (n : Nat) (h : ∀ k, k < n → cs[k]? = some (f k)) : Arr (w.alloc (.cells cs t)) (some ⟨w.heap.size, 0, none⟩) n f := by
  intro k hk
  refine ⟨_, _, rfl, ?_⟩
  have := h k hk
  go_simp
theorem wk_of : ofs [0, 3, 3, 63] 0#64 = some 9223372036854775817#64 := by decide +kernel
theorem wk_span : spanM 0 10 4 = some 273#64 := by
  unfold spanM
  rw [if_pos (by decide)]
  congr 1
theorem wk_least : least 273#64 5 = some 8 := by decide +kernel
theorem wk_pop : pop 9223372036854775817#64 = 3 := by decide +kernel
theorem U9 : U 9223372036854775817#64 = 9223372036854775817 := rfl
theorem U273 : U 273#64 = 273 := rfl

end Go.Proofs.YthghcffibljclaaDoor
/- Has; and MaskSpans: a span has its beginning, and each number behind it by the step; its numbers are as many as there is room for. -/
namespace Go.Proofs.YthghcffibljclaaDoor
open Go.RowKit

/-- Whether it has n. -/
def hasB (x : BitVec 64) (n : Int) : Bool := decide (0 ≤ n) && x.getLsbD n.toNat
theorem and_bit (x : BitVec 64) (n : Nat) (hn : n ≤ 63) : (U (x &&& BitVec.twoPow 64 n) != 0) = hasB x n := by
  have h1 : hasB x n = x.getLsbD n := by unfold hasB; simp
  rw [h1, BitVec.and_twoPow]
  by_cases h : x.getLsbD n = true
  · rw [if_pos h, h, bne_iff_ne, ← U_zero, ne_eq, U_inj]
    intro e
    have := congrArg (fun y => y.getLsbD n) e
    simp [BitVec.getLsbD_twoPow] at this
    omega
  · rw [if_neg h, U_zero]
    simp at h
    rw [h]; rfl
theorem has_any (x : BitVec 64) (n : Int) (w : World) :
    Calls Tryd.prog 71 #[.int .u64 (U x), .int .i64 n] w fun e w' => e = .returned (.bool (hasB x n)) ∧ w = w' := by
  by_cases h : 0 ≤ n ∧ n ≤ 63
  · obtain ⟨h0, h1⟩ := h
    obtain ⟨k, rfl⟩ := Int.eq_ofNat_of_zero_le h0
    have hk : k ≤ 63 := by omega
    have key : (bits .and .u64 (U x) (U (BitVec.twoPow 64 k)) != 0) = hasB x k := by rw [U_and]; exact and_bit x k hk
    generalize hasB x k = b at *
    go_enter Tryd.func71, Tryd.ntmps71
    go_wp2_with (first | (go_at_call 81; refine (fits_yes _ _ h0 h1).mono ?_; rintro e w' ⟨rfl, rfl⟩) | (go_at_call 68; refine (bit_any k _ hk).mono ?_; rintro e w' ⟨rfl, rfl⟩))
    go_ret
    exact ⟨rfl, rfl⟩
  · have hz : n < 0 ∨ 63 < n := by omega
    have e : hasB x n = false := by
      unfold hasB
      rcases hz with hz | hz
      · rw [decide_eq_false (by omega)]; rfl
      · rw [BitVec.getLsbD_of_ge _ _ (by omega)]; simp
    rw [e]
    have Hz := Lib.hid hz; clear hz h e
    go_enter Tryd.func71, Tryd.ntmps71
    go_wp2_with (go_at_call 81; refine (fits_no _ _ Hz.out).mono ?_; rintro e w' ⟨rfl, rfl⟩)
    go_ret
    exact ⟨rfl, rfl⟩

theorem count_span (F T S : Nat) (hS : 1 ≤ S) (hFT : F ≤ T) : ∀ n, (List.range n).countP (fun i => decide (F ≤ i ∧ i ≤ T ∧ (i - F) % S = 0)) = if n ≤ F then 0 else (min (n - 1) T - F) / S + 1
  | 0 => by simp
  | n + 1 => by
    rw [List.range_succ, List.countP_append, count_span F T S hS hFT n]
    simp only [List.countP_cons, List.countP_nil, Nat.zero_add, decide_eq_true_eq, Nat.add_sub_cancel]
    by_cases h1 : n < F
    · rw [if_pos (show n ≤ F by omega), if_neg (show ¬(F ≤ n ∧ n ≤ T ∧ (n - F) % S = 0) from fun h => absurd h.1 (by omega)), if_pos (show n + 1 ≤ F by omega)]
    · rw [if_neg (show ¬ n + 1 ≤ F by omega)]
      by_cases h2 : n = F
      · subst h2
        rw [if_pos (show n ≤ n by omega), if_pos (show n ≤ n ∧ n ≤ T ∧ (n - n) % S = 0 from ⟨Nat.le_refl _, hFT, by simp⟩), Nat.min_eq_left hFT]
        simp
      · rw [if_neg (show ¬ n ≤ F by omega)]
        by_cases h3 : n ≤ T
        · have e : n - F = n - 1 - F + 1 := by omega
          rw [Nat.min_eq_left (show n - 1 ≤ T by omega), Nat.min_eq_left h3, e, Nat.succ_div]
          by_cases h4 : S ∣ n - 1 - F + 1
          · rw [if_pos h4, if_pos (show F ≤ n ∧ n ≤ T ∧ (n - 1 - F + 1) % S = 0 from ⟨by omega, h3, Nat.mod_eq_zero_of_dvd h4⟩)]
          · rw [if_neg h4, if_neg (show ¬(F ≤ n ∧ n ≤ T ∧ (n - 1 - F + 1) % S = 0) from fun h => h4 (Nat.dvd_of_mod_eq_zero h.2.2))]
        · rw [if_neg (show ¬(F ≤ n ∧ n ≤ T ∧ (n - F) % S = 0) from fun h => h3 h.2.1), Nat.min_eq_right (show T ≤ n - 1 by omega), Nat.min_eq_right (show T ≤ n by omega)]
theorem pop_span (f t s : Int) (h : spanOk f t s) : (pop (mk (spanB f t s)) : Int) = (t - f) / s + 1 := by
  obtain ⟨h0, h1, h2, h3⟩ := h
  obtain ⟨F, rfl⟩ := Int.eq_ofNat_of_zero_le h0
  obtain ⟨T, rfl⟩ := Int.eq_ofNat_of_zero_le (show 0 ≤ t by omega)
  obtain ⟨S, rfl⟩ := Int.eq_ofNat_of_zero_le (show 0 ≤ s by omega)
  have e : pop (mk (spanB (F : Int) T S)) = (List.range 64).countP (fun i => decide (F ≤ i ∧ i ≤ T ∧ (i - F) % S = 0)) := by
    unfold pop
    apply List.countP_congr
    intro i hi
    simp at hi
    rw [mk_bit]
    unfold spanB
    simp only [hi, decide_true, Bool.true_and, decide_eq_true_eq]
    constructor
    · rintro ⟨a, b, c⟩
      have : ((i : Int) - F) = ((i - F : Nat) : Int) := by omega
      rw [this] at c
      exact ⟨by omega, by omega, by exact_mod_cast c⟩
    · rintro ⟨a, b, c⟩
      have : ((i : Int) - F) = ((i - F : Nat) : Int) := by omega
      rw [this]
      exact ⟨by omega, by omega, by exact_mod_cast c⟩
  rw [e, count_span F T S (by omega) (by omega) 64, if_neg (by omega), Nat.min_eq_right (by omega)]
  have : ((T : Int) - F) = ((T - F : Nat) : Int) := by omega
  rw [this]
  simp
theorem has_span (f t s : Int) (k : Nat) (hk : k < 64) : hasB (mk (spanB f t s)) k = spanB f t s k := by
  unfold hasB
  rw [decide_eq_true (by omega), Bool.true_and, Int.toNat_natCast, mk_bit, decide_eq_true hk, Bool.true_and]

theorem quiet_count (x : BitVec 64) (w : World) : Calls Tryd.prog 84 #[.int .u64 (U x)] w fun e w' => e = .returned (.int .i64 (pop x)) ∧ w' = w := (count_any x w).mono fun _ _ ⟨h, k⟩ => ⟨h, k.symm⟩
theorem span_tests (f t s : Int) (k : Nat) :
    (decide (f ≤ (k : Int)) = false ∧ spanB f t s k = false) ∨ (f ≤ (k : Int) ∧ decide ((k : Int) ≤ t) = false ∧ spanB f t s k = false) ∨
    (f ≤ (k : Int) ∧ (k : Int) ≤ t ∧ spanB f t s k = (((k : Int) - f) % s == 0)) := by
  unfold spanB
  by_cases h1 : f ≤ (k : Int)
  · by_cases h2 : (k : Int) ≤ t
    · exact .inr (.inr ⟨h1, h2, by simp [h1, h2, Bool.beq_eq_decide_eq]⟩)
    · exact .inr (.inl ⟨h1, by simpa using h2, by simp [h2]⟩)
  · exact .inl ⟨by simpa using h1, by simp [h1]⟩
end Go.Proofs.YthghcffibljclaaDoor
/- The plain answers of layer 1: power, Has, Of, All. -/
namespace Go.Proofs.YthghcffibljclaaDoor
open Go.RowKit

/-- 2 to the power k. -/
def P2 (k : Nat) : Int := ((2 ^ k : Nat) : Int)
theorem P2_zero : P2 0 = 1 := rfl
theorem P2_succ (k : Nat) (h : k < 63) : IntKind.u64.wrap (P2 k * 2) = P2 (k + 1) := by
  unfold P2
  have h2 : 2 ^ (k + 1) < 2 ^ 64 := Nat.pow_lt_pow_right (by decide) (by omega)
  rw [IntKind.wrap_u64]
  rw [Nat.pow_succ] at h2 ⊢
  generalize 2 ^ k = t at *
  omega
theorem P2_bd (k : Nat) (h : k ≤ 63) : 1 ≤ P2 k ∧ P2 k ≤ 9223372036854775808 := by
  unfold P2
  have h1 := Nat.two_pow_pos k
  have h2 : 2 ^ k ≤ 2 ^ 63 := Nat.pow_le_pow_right (by decide) h
  generalize 2 ^ k = t at *
  omega
theorem bit_div (x : BitVec 64) (n : Nat) : ((U x / P2 n).tmod 2 == 1) = hasB x n := by
  have h0 : 0 ≤ U x / P2 n := Int.ediv_nonneg (U_nonneg x) (by unfold P2; exact Int.natCast_nonneg _)
  rw [Int.tmod_eq_emod_of_nonneg h0]
  unfold hasB
  rw [decide_eq_true (by omega), Bool.true_and, Int.toNat_natCast]
  unfold U P2
  have e : ((x.toNat : Int) / ((2 ^ n : Nat) : Int) % 2) = ((x.toNat / 2 ^ n % 2 : Nat) : Int) := by simp
  rw [e, BitVec.getLsbD, Nat.testBit_eq_decide_div_mod_eq]
  rw [Bool.eq_iff_iff, beq_iff_eq, decide_eq_true_eq]
  generalize x.toNat / 2 ^ n % 2 = t
  omega
theorem hasB_far (x : BitVec 64) (n : Int) (h : n < 0 ∨ 63 < n) : hasB x n = false := by
  unfold hasB
  rcases h with h | h
  · rw [decide_eq_false (by omega)]; rfl
  · rw [BitVec.getLsbD_of_ge _ _ (by omega)]; simp
/-! Of -/
theorem add_bit (m : BitVec 64) (k : Nat) (hk : k ≤ 63) (h : hasB m k = false) : IntKind.u64.wrap (U m + P2 k) = U (m ||| BitVec.twoPow 64 k) := by
  have hb : m.getLsbD k = false := by
    unfold hasB at h
    simpa using h
  have h2 : 2 ^ k < 2 ^ 64 := Nat.pow_lt_pow_right (by decide) (by omega)
  have e : m ||| BitVec.twoPow 64 k = m + BitVec.twoPow 64 k := by
    rw [BitVec.add_eq_or_of_and_eq_zero]
    apply BitVec.eq_of_getLsbD_eq
    intro i hi
    rw [BitVec.getLsbD_and, BitVec.getLsbD_twoPow]
    by_cases hik : k = i
    · subst hik; simp [hb]
    · simp [hik]
  rw [e, IntKind.wrap_u64]
  unfold U P2
  rw [BitVec.toNat_add, BitVec.toNat_twoPow, Nat.mod_eq_of_lt h2]
  omega
theorem or_same (m : BitVec 64) (k : Nat) (h : hasB m k = true) : m ||| BitVec.twoPow 64 k = m := by
  have hb : m.getLsbD k = true := by
    unfold hasB at h
    simpa using h
  apply BitVec.eq_of_getLsbD_eq
  intro i hi
  rw [BitVec.getLsbD_or, BitVec.getLsbD_twoPow]
  by_cases hik : k = i
  · subst hik; simp [hb]
  · simp [hik]
/-- A mask, and true; or 0, and false. -/
def maskOk : Option (BitVec 64) → Value
  | some m => .tuple #[.int .u64 (U m), .bool true]
  | none => .tuple #[.int .u64 0, .bool false]

end Go.Proofs.YthghcffibljclaaDoor
/- The plain answers of layer 1: All, Join, Or. -/
namespace Go.Proofs.YthghcffibljclaaDoor
open Go.RowKit

def pres (x : BitVec 64) (k : Nat) : List Nat := (List.range k).filter x.getLsbD
theorem pres_yes (x : BitVec 64) (k : Nat) (h : hasB x k = true) : pres x (k + 1) = pres x k ++ [k] := by
  have hb : x.getLsbD k = true := by unfold hasB at h; simpa using h
  unfold pres; rw [List.range_succ, List.filter_append]; simp [hb]
theorem pres_no (x : BitVec 64) (k : Nat) (h : hasB x k = false) : pres x (k + 1) = pres x k := by
  have hb : x.getLsbD k = false := by unfold hasB at h; simpa using h
  unfold pres; rw [List.range_succ, List.filter_append]; simp [hb]
theorem pres_len (x : BitVec 64) (k : Nat) : (pres x k).length ≤ k := by
  unfold pres; have := List.length_filter_le x.getLsbD (List.range k); simpa using this

theorem own_arr0 {w : World} {base : Nat} {e : TypeId} {v : Value} {n : Nat} {xs : List Value} (h : w.ownsRow base e 1 v n xs) (f : Nat → Value) (hf : ∀ k, k < n → xs[k]? = some (f k)) : ∃ A c, v = .slice A n c ∧ Arr w A n f := by
  rcases h.2 with ⟨rfl, rfl⟩ | ⟨g, cap, cur, rfl, hg, hh, r⟩
  · exact ⟨_, _, rfl, fun k hk => absurd hk (by omega)⟩
  · refine ⟨_, _, rfl, fun k hk => ⟨g, 0, rfl, ?_⟩⟩
    rw [Nat.zero_add, h.cellAt k (by omega), hf k hk]
theorem own_slice0 {w : World} {base : Nat} {e : TypeId} {size : Nat} {v : Value} {n : Nat} {xs : List Value} (h : w.ownsRow base e size v n xs) : ∃ A c, v = .slice A n c := by
  rcases h.2 with ⟨rfl, rfl⟩ | ⟨g, cap, cur, rfl, _⟩ <;> exact ⟨_, _, rfl⟩
theorem gr_trans' {w w1 w2 : World} (h : Below w.heap.size w w1) (k : Below w1.heap.size w1 w2) : Below w.heap.size w w2 := h.trans (k.mono h.size)
/-! Of of a row -/
theorem ofs_some (l : List Nat) (h : ∀ k ∈ l, k < 64) : ∃ m, ofs (l.map fun k : Nat => (k : Int)) 0#64 = some m ∧ ∀ i, i < 64 → m.getLsbD i = decide (i ∈ l) :=
  ⟨_, ofs_all l 0#64 h, fun i hi => by rw [fold_bit _ _ _ hi]; simp⟩
theorem nthI_row (l : List Nat) (k : Nat) (hk : k < l.length) : (l.map ienc)[k]? = some (.int .i64 (nthI (l.map fun k : Nat => (k : Int)) k)) := by
  unfold nthI
  rw [List.getElem?_map, List.getD_eq_getElem?_getD, List.getElem?_map, List.getElem?_eq_getElem hk]
  rfl
/-! Join -/
def js (a b : BitVec 64) (t : Bool) (k : Nat) : List Nat := ((elems a).take k).filter fun n => hasB b n == t
theorem js_len (a b : BitVec 64) (t : Bool) (k : Nat) : (js a b t k).length ≤ k := by
  unfold js
  have h1 := List.length_filter_le (fun n : Nat => hasB b n == t) ((elems a).take k)
  have h2 := List.length_take_le k (elems a)
  omega
theorem js_yes (a b : BitVec 64) (t : Bool) (k q : Nat) (hq : (elems a)[k]? = some q) (h : (hasB b q == t) = true) : js a b t (k + 1) = js a b t k ++ [q] := by
  unfold js; rw [List.take_add_one, hq, List.filter_append]; simp [h]
theorem js_no (a b : BitVec 64) (t : Bool) (k q : Nat) (hq : (elems a)[k]? = some q) (h : (hasB b q == t) = false) : js a b t (k + 1) = js a b t k := by
  unfold js; rw [List.take_add_one, hq, List.filter_append]; simp [h]
def joinM (a b : BitVec 64) : Bool → BitVec 64
  | true => a &&& b
  | false => a &&& ~~~b
theorem join_bit (a b : BitVec 64) (t : Bool) (i : Nat) (hi : i < 64) : (joinM a b t).getLsbD i = decide (i ∈ js a b t (elems a).length) := by
  unfold js
  rw [List.take_length, Bool.eq_iff_iff, decide_eq_true_eq, List.mem_filter, mem_elems]
  have hh : hasB b (i : Int) = b.getLsbD i := by unfold hasB; simp
  rw [hh]
  cases t
  · unfold joinM
    rw [BitVec.getLsbD_and, BitVec.getLsbD_not]
    simp [hi]
  · unfold joinM
    rw [BitVec.getLsbD_and]
    simp
/-! Or -/
def alls (xs : List (BitVec 64)) (k : Nat) : List Nat := (xs.take k).flatMap elems
theorem alls_succ (xs : List (BitVec 64)) (k : Nat) (h : k < xs.length) : alls xs (k + 1) = alls xs k ++ elems (nth xs k) := by
  unfold alls nth
  rw [List.take_add_one, List.flatMap_append, List.getElem?_eq_getElem h, List.getD_eq_getElem?_getD, List.getElem?_eq_getElem h]
  simp
theorem flat_len : ∀ l : List (BitVec 64), (l.flatMap elems).length ≤ 64 * l.length
  | [] => by simp
  | x :: l => by
    have h1 : (elems x).length ≤ 64 := by rw [pop_eq]; exact pop_le x
    have := flat_len l
    rw [List.flatMap_cons, List.length_append, List.length_cons]
    omega
theorem alls_len (xs : List (BitVec 64)) (k : Nat) : (alls xs k).length ≤ 64 * k := by
  unfold alls
  have h1 := flat_len (xs.take k)
  have h2 := List.length_take_le k xs
  have h3 : 64 * (xs.take k).length ≤ 64 * k := Nat.mul_le_mul_left _ h2
  omega
theorem alls_bit (xs : List (BitVec 64)) (i : Nat) (_hi : i < 64) : (folds g_or xs 0#64).getLsbD i = decide (i ∈ alls xs xs.length) := by
  unfold alls
  rw [List.take_length, folds_or_bit, Bool.eq_iff_iff, decide_eq_true_eq, List.mem_flatMap]
  simp [mem_elems]
end Go.Proofs.YthghcffibljclaaDoor
/- Last, Round. -/
namespace Go.Proofs.YthghcffibljclaaDoor
open Go.RowKit Go.Shelf

attribute [local go_sem] Oper.semAt_some

theorem scopeIn {n : Nat} {P : Program} {c : Code} {Q : Exit → Act → World → Prop} {a : Act} {w : World} (h : c.wpIn Fence.wide n P (Exit.noGoto Q) a w) : (Code.scope c).wpIn Fence.wide n P Q a w :=
  wpIn_wide.2 (wp_scope_straight (wpIn_wide.1 h))
theorem labelIn {n l : Nat} {P : Program} {Q : Exit → Act → World → Prop} {a : Act} {w : World} (h : Q .normal a w) : (Code.label l).wpIn Fence.wide n P Q a w :=
  wpIn_wide.2 (wp_label h)
/-- The greatest one up to b. -/
def great (x : BitVec 64) (b : Int) : Option Nat := ((elems x).takeWhile (fun k : Nat => decide ((k : Int) ≤ b))).getLast?
theorem great_all {x : BitVec 64} {b : Int} (h : ∀ y ∈ elems x, (y : Int) ≤ b) : great x b = (elems x).getLast? := by
  unfold great
  have : ∀ l : List Nat, (∀ y ∈ l, (y : Int) ≤ b) → l.takeWhile (fun k : Nat => decide ((k : Int) ≤ b)) = l := by
    intro l
    induction l with
    | nil => intro _; rfl
    | cons a l ih =>
      intro hl
      rw [List.takeWhile_cons, decide_eq_true (hl a (by simp)), ih (fun y hy => hl y (by simp [hy]))]
      rfl
  rw [this _ h]
theorem great_stop {x : BitVec 64} {b : Int} {pre : List Nat} {k : Nat} (hp : (pre ++ [k]) <+: elems x) (h : ∀ y ∈ pre, (y : Int) ≤ b) (hk : b < (k : Int)) : great x b = pre.getLast? := by
  obtain ⟨t, ht⟩ := hp
  unfold great
  rw [← ht, List.append_assoc, List.takeWhile_append_of_pos (fun y hy => by simpa using h y hy)]
  simp only [List.cons_append, List.nil_append, List.takeWhile_cons]
  rw [decide_eq_false (by omega)]
  simp
def lastV (pre : List Nat) : Value := .int .i64 ((pre.getLast?.getD 0 : Nat) : Int)
def foundV (pre : List Nat) : Value := .bool pre.getLast?.isSome
theorem lastV_snoc (pre : List Nat) (k : Nat) : lastV (pre ++ [k]) = .int .i64 (k : Int) := by simp [lastV]
theorem foundV_snoc (pre : List Nat) (k : Nat) : foundV (pre ++ [k]) = .bool true := by simp [foundV]

/-! Round -/
/-- The least one from b on; else the least one. -/
def around (x : BitVec 64) (b : Int) : Option Nat := match least x b with
  | some k => some k
  | none => least x 0
end Go.Proofs.YthghcffibljclaaDoor
/- What First and Last tell, one behind the other: plain facts. -/
namespace Go.Proofs.YthghcffibljclaaDoor
open Go.RowKit

theorem find_next : ∀ (l : List Nat), l.Pairwise (· < ·) → ∀ (k e : Nat), l[k]? = some e → l.find? (fun y : Nat => decide ((e : Int) + 1 ≤ (y : Int))) = l[k + 1]?
  | [], _, k, e, h => by simp at h
  | a :: l, hs, 0, e, h => by
    simp at h
    subst h
    rw [List.find?_cons, decide_eq_false (by omega)]
    cases l with
    | nil => rfl
    | cons b l =>
      have : a < b := List.rel_of_pairwise_cons hs (by simp)
      simp only [List.find?_cons]
      rw [decide_eq_true (by omega)]
      rfl
  | a :: l, hs, k + 1, e, h => by
    have hm : e ∈ l := List.mem_of_getElem? (by simpa using h)
    have : a < e := List.rel_of_pairwise_cons hs hm
    rw [List.find?_cons, decide_eq_false (by omega)]
    exact find_next l hs.of_cons k e (by simpa using h)
theorem least_next (x : BitVec 64) (k e : Nat) (h : (elems x)[k]? = some e) : least x ((e : Int) + 1) = (elems x)[k + 1]? := find_next _ (elems_sorted x) k e h
theorem least_zero (x : BitVec 64) : least x 0 = (elems x)[0]? := by
  unfold least
  cases elems x with
  | nil => rfl
  | cons a l => simp
theorem take_less : ∀ (l : List Nat), l.Pairwise (· < ·) → ∀ (k e : Nat), l[k]? = some e → l.takeWhile (fun y : Nat => decide ((y : Int) ≤ (e : Int) - 1)) = l.take k
  | [], _, k, e, h => by simp at h
  | a :: l, hs, 0, e, h => by
    simp at h
    subst h
    rw [List.takeWhile_cons, decide_eq_false (by omega)]
    rfl
  | a :: l, hs, k + 1, e, h => by
    have hm : e ∈ l := List.mem_of_getElem? (by simpa using h)
    have : a < e := List.rel_of_pairwise_cons hs hm
    rw [List.takeWhile_cons, decide_eq_true (by omega), List.take_succ_cons]
    exact congrArg (a :: ·) (take_less l hs.of_cons k e (by simpa using h))
theorem great_top (x : BitVec 64) : great x 63 = (elems x).reverse[0]? := by
  rw [great_all (fun y hy => by have := elems_lt hy; omega), List.getLast?_eq_head?_reverse, List.head?_eq_getElem?]
theorem great_next (x : BitVec 64) (k e : Nat) (h : (elems x).reverse[k]? = some e) : great x ((e : Int) - 1) = (elems x).reverse[k + 1]? := by
  have hk : k < (elems x).length := by have := (List.getElem?_eq_some_iff.1 h).1; simpa using this
  rw [List.getElem?_reverse hk] at h
  unfold great
  rw [take_less _ (elems_sorted x) _ _ h]
  by_cases h2 : k + 1 < (elems x).length
  · rw [List.getElem?_reverse h2, List.getLast?_eq_getElem?, List.length_take, List.getElem?_take]
    rw [if_pos (by omega)]
    congr 1
    omega
  · rw [show (elems x).length - 1 - k = 0 by omega, List.getElem?_eq_none (by simp; omega)]
    rfl
theorem least_ge {x : BitVec 64} {b : Int} {k : Nat} (h : least x b = some k) : b ≤ (k : Int) ∧ x.getLsbD k = true := by
  have h1 := List.find?_some h
  have h2 := List.mem_of_find?_eq_some h
  exact ⟨by simpa using h1, mem_elems.1 h2⟩
theorem mem_while {p : Nat → Bool} {y : Nat} : ∀ {l : List Nat}, y ∈ l.takeWhile p → p y = true
  | [], h => by simp at h
  | a :: l, h => by
    rw [List.takeWhile_cons] at h
    by_cases ha : p a = true
    · rw [ha] at h
      rcases List.mem_cons.1 h with rfl | h
      · exact ha
      · exact mem_while h
    · simp only [Bool.not_eq_true] at ha
      rw [ha] at h
      simp at h
theorem great_le {x : BitVec 64} {b : Int} {k : Nat} (h : great x b = some k) : (k : Int) ≤ b ∧ x.getLsbD k = true := by
  unfold great at h
  have hm := List.mem_of_getLast? h
  have h1 := mem_while hm
  exact ⟨by simpa using h1, mem_elems.1 ((List.takeWhile_prefix _).subset hm)⟩
theorem elems_nil {x : BitVec 64} (h : (elems x)[0]? = none) : x = 0#64 := by
  have hl : elems x = [] := by
    cases he : elems x with
    | nil => rfl
    | cons a l => rw [he] at h; simp at h
  apply BitVec.eq_of_getLsbD_eq
  intro i hi
  have : i ∉ elems x := by rw [hl]; simp
  rw [mem_elems] at this
  simpa using this
theorem elems_step (x : BitVec 64) (k : Nat) (h : k + 1 < (elems x).length) : (elems x)[k]'(by omega) < (elems x)[k + 1] := List.pairwise_iff_getElem.1 (elems_sorted x) k (k + 1) (by omega) h (by omega)
end Go.Proofs.YthghcffibljclaaDoor
/- The plain answers of layer 1: First, Last. -/
namespace Go.Proofs.YthghcffibljclaaDoor
open Go.RowKit

def numV (o : Option Nat) : Value := .int .i64 ((o.getD 0 : Nat) : Int)
def isV (o : Option Nat) : Value := .bool o.isSome
theorem some2_is (o : Option Nat) : some2 o = .tuple #[numV o, isV o] := rfl
theorem least_at (x : BitVec 64) (b : Int) (k q : Nat) (hq : (elems x)[k]? = some q) (hp : ∀ j y, j < k → (elems x)[j]? = some y → (y : Int) < b) (hb : b ≤ (q : Int)) : least x b = some q := by
  refine find_prefix (pre := (elems x).take k) (k := q) ?_ (fun y hy => ?_) (by simpa using hb)
  · refine ⟨(elems x).drop (k + 1), ?_⟩
    have h1 : (elems x).take (k + 1) = (elems x).take k ++ [q] := by rw [List.take_add_one, hq]; rfl
    rw [← h1, List.take_append_drop]
  · obtain ⟨j, hj, e⟩ := List.mem_take_iff_getElem.1 hy
    have := hp j y (by omega) (by rw [← e]; exact List.getElem?_eq_getElem _)
    simp; omega
theorem least_none (x : BitVec 64) (b : Int) (hp : ∀ j y, j < (elems x).length → (elems x)[j]? = some y → (y : Int) < b) : least x b = none := by
  refine List.find?_eq_none.2 fun y hy => ?_
  obtain ⟨j, hj, e⟩ := List.mem_iff_getElem.1 hy
  have := hp j y hj (by rw [← e]; exact List.getElem?_eq_getElem _)
  simp; omega
/-! Last -/
def lastUp (x : BitVec 64) (b : Int) (k : Nat) : Option Nat := (((elems x).take k).filter fun y : Nat => decide ((y : Int) ≤ b)).getLast?
theorem lastUp_yes (x : BitVec 64) (b : Int) (k q : Nat) (hq : (elems x)[k]? = some q) (h : (q : Int) ≤ b) : lastUp x b (k + 1) = some q := by
  unfold lastUp; rw [List.take_add_one, hq, List.filter_append]; simp [h]
theorem lastUp_no (x : BitVec 64) (b : Int) (k q : Nat) (hq : (elems x)[k]? = some q) (h : b < (q : Int)) : lastUp x b (k + 1) = lastUp x b k := by
  unfold lastUp; rw [List.take_add_one, hq, List.filter_append]
  have : ¬ (q : Int) ≤ b := by omega
  simp [this]
theorem filter_while : ∀ (l : List Nat) (b : Int), l.Pairwise (· < ·) → l.filter (fun y : Nat => decide ((y : Int) ≤ b)) = l.takeWhile (fun y : Nat => decide ((y : Int) ≤ b))
  | [], _, _ => rfl
  | a :: l, b, hs => by
    rw [List.filter_cons, List.takeWhile_cons]
    by_cases h : (a : Int) ≤ b
    · simp only [h, decide_true, if_true]
      rw [filter_while l b hs.of_cons]
    · simp only [h, decide_false]
      rw [if_neg (by simp), if_neg (by simp)]
      rw [List.filter_eq_nil_iff]
      intro y hy
      have : a < y := List.rel_of_pairwise_cons hs hy
      simp; omega
theorem lastUp_end (x : BitVec 64) (b : Int) : lastUp x b (elems x).length = great x b := by
  unfold lastUp great
  rw [List.take_length, filter_while _ _ (elems_sorted x)]
end Go.Proofs.YthghcffibljclaaDoor
/- The runs as they are gathered one number behind the other: plain facts. -/
namespace Go.Proofs.YthghcffibljclaaDoor
open Go.RowKit

theorem hasB_nat (x : BitVec 64) (i : Nat) : hasB x (i : Int) = x.getLsbD i := by unfold hasB; simp
theorem hasB_pred (x : BitVec 64) (i : Nat) : hasB x ((i : Int) - 1) = (decide (0 < i) && x.getLsbD (i - 1)) := by
  unfold hasB
  by_cases h : 0 < i
  · rw [decide_eq_true h, decide_eq_true (by omega), show ((i : Int) - 1).toNat = i - 1 by omega]
  · rw [decide_eq_false h, decide_eq_false (by omega)]; rfl
theorem begins_elems (x : BitVec 64) : elems (begins x) = (elems x).filter fun n : Nat => !hasB x ((n : Int) - 1) := by
  unfold elems
  rw [List.filter_filter]
  apply List.filter_congr
  intro i hi
  rw [begins_bit x i (by simpa using hi), hasB_pred, Bool.and_comm]
theorem run_unique (x : BitVec 64) (b e : Nat) (hb : b ∈ elems (begins x)) (he : b ≤ e) (hin : ∀ j, b ≤ j → j ≤ e → x.getLsbD j = true) (hout : x.getLsbD (e + 1) = false) : runOf (ends x) b = (b, e) := by
  obtain ⟨e', h1, _, h2, h3, h4, h5⟩ := run_spec x b hb
  have : e = e' := by
    rcases Nat.lt_trichotomy e e' with h | h | h
    · have := h4 (e + 1) (by omega) (by omega); rw [hout] at this; cases this
    · exact h
    · have := hin (e' + 1) (by omega) (by omega); rw [h5] at this; cases this
  rw [h1, this]
/-- k numbers have been; these are the runs so far. -/
structure RInv (x : BitVec 64) (k : Nat) (acc : List (Nat × Nat)) : Prop where
  fst : acc.map (·.1) = ((elems x).take k).filter fun n : Nat => !hasB x ((n : Int) - 1)
  ins : ∀ r ∈ acc, r.1 ≤ r.2 ∧ ∀ j, r.1 ≤ j → j ≤ r.2 → x.getLsbD j = true
  last : ∀ e, k = e + 1 → ∃ pre r, acc = pre ++ [r] ∧ (elems x)[e]? = some r.2
  out : ∀ pre r, acc = pre ++ [r] → ∀ s ∈ pre, x.getLsbD (s.2 + 1) = false
theorem RInv.zero (x : BitVec 64) : RInv x 0 [] := ⟨rfl, by simp, fun e h => by omega, fun pre r h => by simp at h⟩
theorem RInv.push {x : BitVec 64} {k q : Nat} {acc : List (Nat × Nat)} (h : RInv x k acc) (hq : (elems x)[k]? = some q) (hh : hasB x ((q : Int) - 1) = false) : RInv x (k + 1) (acc ++ [(q, q)]) := by
  have hqx := mem_elems.1 (List.mem_of_getElem? hq)
  refine ⟨?_, ?_, ?_, ?_⟩
  · rw [List.map_append, h.fst, List.take_add_one, hq, List.filter_append]
    simp [hh]
  · intro r hr
    rcases List.mem_append.1 hr with hr | hr
    · exact h.ins r hr
    · simp at hr
      subst hr
      exact ⟨Nat.le_refl _, fun j h1 h2 => by obtain rfl : j = q := (by simp at h1 h2; omega); exact hqx⟩
  · intro e he
    obtain rfl : k = e := by omega
    exact ⟨acc, (q, q), rfl, hq⟩
  · intro pre r he s hs
    have := List.append_inj' he rfl
    obtain ⟨rfl, _⟩ := this
    rcases Nat.eq_zero_or_pos k with h0 | h0
    · subst h0
      have : acc = [] := by
        have := h.fst
        simpa using this
      rw [this] at hs
      simp at hs
    · obtain ⟨e, rfl⟩ : ∃ e, k = e + 1 := ⟨k - 1, by omega⟩
      obtain ⟨pre, r', rfl, hr'⟩ := h.last e rfl
      rcases List.mem_append.1 hs with hs | hs
      · exact h.out pre r' rfl s hs
      · simp at hs
        subst hs
        have hlt : s.2 < q := by
          have hl := (List.getElem?_eq_some_iff.1 hq).1
          have := elems_step x e hl
          rw [(List.getElem?_eq_some_iff.1 hr').2, (List.getElem?_eq_some_iff.1 hq).2] at this
          exact this
        rw [hasB_pred, decide_eq_true (by omega), Bool.true_and] at hh
        cases hx : x.getLsbD (s.2 + 1)
        · rfl
        · exfalso
          have hm : s.2 + 1 ∈ elems x := mem_elems.2 hx
          obtain ⟨j, hj, hje⟩ := List.mem_iff_getElem.1 hm
          have hs' := elems_sorted x
          have hl := (List.getElem?_eq_some_iff.1 hq).1
          have e1 := (List.getElem?_eq_some_iff.1 hr').2
          have e2 := (List.getElem?_eq_some_iff.1 hq).2
          have hje' : j = e + 1 := by
            have h1 : e < j := by
              apply Nat.lt_of_not_le
              intro hle
              rcases Nat.eq_or_lt_of_le hle with he2 | he2
              · subst he2; omega
              · have := List.pairwise_iff_getElem.1 hs' j e hj (by omega) he2
                omega
            apply Nat.le_antisymm _ h1
            apply Nat.le_of_not_lt
            intro hlt2
            have := List.pairwise_iff_getElem.1 hs' (e + 1) j hl hj hlt2
            omega
          subst hje'
          have : q = s.2 + 1 := by rw [← e2, ← hje]
          rw [this, Nat.add_sub_cancel] at hh
          have := mem_elems.1 (List.mem_of_getElem? hr')
          rw [hh] at this
          cases this
theorem RInv.grow {x : BitVec 64} {k q : Nat} {acc : List (Nat × Nat)} (h : RInv x k acc) (hq : (elems x)[k]? = some q) (hh : hasB x ((q : Int) - 1) = true) : ∃ pre b e, acc = pre ++ [(b, e)] ∧ RInv x (k + 1) (pre ++ [(b, q)]) := by
  have hqx := mem_elems.1 (List.mem_of_getElem? hq)
  have hh0 := hh
  rw [hasB_pred] at hh
  have hq0 : 0 < q := by
    rcases Nat.eq_zero_or_pos q with h0 | h0
    · subst h0; simp at hh
    · exact h0
  rw [decide_eq_true hq0, Bool.true_and] at hh
  have hm : q - 1 ∈ elems x := mem_elems.2 hh
  obtain ⟨j, hj, hje⟩ := List.mem_iff_getElem.1 hm
  have hs' := elems_sorted x
  have hl := (List.getElem?_eq_some_iff.1 hq).1
  have e2 := (List.getElem?_eq_some_iff.1 hq).2
  have hjk : j + 1 = k := by
    have h1 : j < k := by
      apply Nat.lt_of_not_le
      intro hle
      rcases Nat.eq_or_lt_of_le hle with he2 | he2
      · subst he2; omega
      · have := List.pairwise_iff_getElem.1 hs' k j hl hj he2
        omega
    apply Nat.le_antisymm h1
    apply Nat.le_of_not_lt
    intro hlt2
    have h3 := List.pairwise_iff_getElem.1 hs' j (j + 1) hj (by omega) (by omega)
    have h4 := List.pairwise_iff_getElem.1 hs' (j + 1) k (by omega) hl hlt2
    omega
  subst hjk
  obtain ⟨pre, r, rfl, hr⟩ := h.last j rfl
  obtain ⟨b, e⟩ := r
  have he : e = q - 1 := by rw [← hje]; exact ((List.getElem?_eq_some_iff.1 hr).2).symm
  refine ⟨pre, b, e, rfl, ?_, ?_, ?_, ?_⟩
  · have := h.fst
    rw [List.map_append] at this ⊢
    rw [List.take_add_one, hq, List.filter_append, ← this]
    simp [hh0]
  · intro r hr2
    rcases List.mem_append.1 hr2 with hr2 | hr2
    · exact h.ins r (by simp [hr2])
    · simp at hr2
      subst hr2
      obtain ⟨i1, i2⟩ := h.ins (b, e) (by simp)
      simp only at i1 i2 ⊢
      exact ⟨by omega, fun j' h1 h2 => by
        rcases Nat.lt_or_ge e j' with h3 | h3
        · obtain rfl : j' = q := by omega
          exact hqx
        · exact i2 j' h1 h3⟩
  · intro e' he'
    obtain rfl : e' = j + 1 := by omega
    exact ⟨pre, (b, q), rfl, hq⟩
  · intro pre' r' he' s hs
    obtain ⟨rfl, _⟩ := List.append_inj' he' rfl
    exact h.out pre (b, e) rfl s hs
theorem RInv.fin {x : BitVec 64} {acc : List (Nat × Nat)} (h : RInv x (elems x).length acc) : acc = runsOf x := by
  have hf := h.fst
  rw [List.take_length, ← begins_elems] at hf
  unfold runsOf
  rw [← hf, List.map_map]
  have key : ∀ r ∈ acc, (runOf (ends x) ∘ fun r : Nat × Nat => r.1) r = r := by
    intro r hr
    have hb : r.1 ∈ elems (begins x) := by rw [← hf]; exact List.mem_map.2 ⟨r, hr, rfl⟩
    obtain ⟨i1, i2⟩ := h.ins r hr
    refine run_unique x r.1 r.2 hb i1 i2 ?_
    have hne : 0 < (elems x).length := by
      rcases Nat.eq_zero_or_pos (elems x).length with h0 | h0
      · have : elems (begins x) = [] := by rw [begins_elems, List.length_eq_zero_iff.1 h0]; rfl
        rw [this] at hb; simp at hb
      · exact h0
    obtain ⟨e, he⟩ : ∃ e, (elems x).length = e + 1 := ⟨(elems x).length - 1, by omega⟩
    obtain ⟨pre, r', hacc, hr'⟩ := h.last e he
    rw [hacc] at hr
    rcases List.mem_append.1 hr with hr | hr
    · exact h.out pre r' hacc r hr
    · simp at hr
      subst hr
      cases hx : x.getLsbD (r.2 + 1)
      · rfl
      · exfalso
        obtain ⟨j, hj, hje⟩ := List.mem_iff_getElem.1 (mem_elems.2 hx)
        have e1 := (List.getElem?_eq_some_iff.1 hr').2
        have hl := (List.getElem?_eq_some_iff.1 hr').1
        rcases Nat.eq_or_lt_of_le (show j ≤ e by omega) with h3 | h3
        · subst h3; omega
        · have := List.pairwise_iff_getElem.1 (elems_sorted x) j e hj hl h3
          omega
  exact (List.map_id acc).symm.trans (List.map_congr_left fun r hr => (key r hr).symm)
end Go.Proofs.YthghcffibljclaaDoor
/- The plain answers of layer 1: Runs; and slices.Equal at runs. -/
namespace Go.Proofs.YthghcffibljclaaDoor
open Go.RowKit

theorem flat_at2 (l : List (Nat × Nat)) (k : Nat) (r : Nat × Nat) (h : l[k]? = some r) : (l.flatMap renc)[k * 2]? = some (.int .i64 (r.1 : Int)) ∧ (l.flatMap renc)[k * 2 + 1]? = some (.int .i64 (r.2 : Int)) := by
  induction l generalizing k with
  | nil => simp at h
  | cons a l ih =>
    cases k with
    | zero => simp at h; subst h; simp [renc]
    | succ k =>
      have := ih k (by simpa using h)
      rw [List.flatMap_cons, show renc a = [.int .i64 (a.1 : Int), .int .i64 (a.2 : Int)] from rfl]
      rw [show (k + 1) * 2 = k * 2 + 1 + 1 by omega]
      simpa using this
theorem flat_len2 : ∀ l : List (Nat × Nat), (l.flatMap renc).length = l.length * 2
  | [] => rfl
  | a :: l => by rw [List.flatMap_cons, List.length_append, flat_len2 l, List.length_cons]; simp [renc]; omega
theorem flat_set : ∀ (pre : List (Nat × Nat)) (b e q : Nat), ((pre ++ [(b, e)]).flatMap renc).set (pre.length * 2 + 1) (.int .i64 (q : Int)) = (pre ++ [(b, q)]).flatMap renc
  | [], b, e, q => by simp [renc]
  | a :: pre, b, e, q => by
    rw [List.cons_append, List.flatMap_cons, List.cons_append, List.flatMap_cons, ← flat_set pre b e q, show renc a = [.int .i64 (a.1 : Int), .int .i64 (a.2 : Int)] from rfl, List.length_cons,
      show (pre.length + 1) * 2 + 1 = pre.length * 2 + 1 + 1 + 1 by omega]
    rfl
theorem run_cells2 {w : World} {base : Nat} {A : Option Addr} {c n : Nat} {l : List (Nat × Nat)} (h : w.ownsRow base 114 2 (.slice A n c) n (l.flatMap renc)) (k : Nat) (r : Nat × Nat) (hk : l[k]? = some r) (hn : k < n) :
    ∃ g, A = some ⟨g, 0, none⟩ ∧ g < w.heap.size ∧ w.cell? ⟨g, k * 2, none⟩ = some (.int .i64 (r.1 : Int)) ∧ w.cell? ⟨g, k * 2 + 1, none⟩ = some (.int .i64 (r.2 : Int)) := by
  obtain ⟨f0, f1⟩ := flat_at2 l k r hk
  rcases h.2 with ⟨hv, h0⟩ | ⟨g, cap, cur, hv, hg, hh, _⟩
  · omega
  · injection hv with e1 e2 e3
    subst e1; subst e3
    exact ⟨g, rfl, (Array.getElem?_eq_some_iff.1 hh).1, by rw [h.cellAt _ (by omega), f0], by rw [h.cellAt _ (by omega), f1]⟩

end Go.Proofs.YthghcffibljclaaDoor
/- slices.Equal, Reverse, IsSorted at []int. -/
namespace Go.Proofs.YthghcffibljclaaDoor
open Go.RowKit

def int1 (z : Int) : Value := .int .i64 z
/-- Slice A of n reads f's numbers. -/
def ArrI (w : World) (A : Option Addr) (n : Nat) (f : Nat → Int) : Prop := Arr w A n (fun k => .int .i64 (f k))

theorem grown_drew {a w : World} {row : Option Nat} (h : a.grownBy w row) : a.grownBy w.drew row := ⟨h.os, h.tape, h.output, h.size, h.block⟩
/-! Reverse -/
def nthZ (zs : List Int) (k : Nat) : Int := zs.getD k 0
/-- Behind i rounds: the first i and the last i have changed their places. -/
def rv (zs : List Int) (i : Nat) : List Int := (List.range zs.length).map fun k => if k < i ∨ zs.length - i ≤ k then nthZ zs (zs.length - 1 - k) else nthZ zs k
theorem rv_len (zs : List Int) (i : Nat) : (rv zs i).length = zs.length := by simp [rv]
theorem rv_at (zs : List Int) (i k : Nat) (hk : k < zs.length) : (rv zs i)[k]? = some (if k < i ∨ zs.length - i ≤ k then nthZ zs (zs.length - 1 - k) else nthZ zs k) := by
  unfold rv; rw [List.getElem?_map, List.getElem?_range hk]; rfl
theorem rv_zero (zs : List Int) : rv zs 0 = zs := by
  apply List.ext_getElem?
  intro k
  by_cases hk : k < zs.length
  · rw [rv_at zs 0 k hk, if_neg (by omega)]
    unfold nthZ
    rw [List.getD_eq_getElem?_getD, List.getElem?_eq_getElem hk]; rfl
  · rw [List.getElem?_eq_none (by rw [rv_len]; omega), List.getElem?_eq_none (by omega)]
theorem rv_end (zs : List Int) (i : Nat) (h : zs.length ≤ 2 * i + 1) : rv zs i = zs.reverse := by
  apply List.ext_getElem?
  intro k
  by_cases hk : k < zs.length
  · rw [rv_at zs i k hk, List.getElem?_reverse hk]
    have hq : zs.length - 1 - k < zs.length := by omega
    rw [List.getElem?_eq_getElem hq]
    have e : nthZ zs (zs.length - 1 - k) = zs[zs.length - 1 - k] := by unfold nthZ; rw [List.getD_eq_getElem?_getD, List.getElem?_eq_getElem hq]; rfl
    split
    · rw [e]
    · have : k = zs.length - 1 - k := by omega
      rw [← e, ← this]
  · rw [List.getElem?_eq_none (by rw [rv_len]; omega), List.getElem?_eq_none (by simp; omega)]
theorem rv_step (zs : List Int) (i j : Nat) (hij : i < j) (hj : i + j + 1 = zs.length) : ((rv zs i).set i (nthZ zs j)).set j (nthZ zs i) = rv zs (i + 1) := by
  apply List.ext_getElem?
  intro k
  by_cases hk : k < zs.length
  · rw [List.getElem?_set, List.getElem?_set, rv_at zs _ k hk, rv_at zs _ k hk]
    simp only [List.length_set, rv_len]
    by_cases h1 : j = k
    · subst h1
      rw [if_pos rfl, if_pos hk, if_pos (by omega), show zs.length - 1 - j = i by omega]
    · rw [if_neg h1]
      by_cases h2 : i = k
      · subst h2
        rw [if_pos rfl, if_pos hk, if_pos (by omega), show zs.length - 1 - i = j by omega]
      · rw [if_neg h2]
        by_cases h3 : k < i ∨ zs.length - i ≤ k
        · rw [if_pos h3, if_pos (by omega)]
        · rw [if_neg h3, if_neg (by omega)]
  · rw [List.getElem?_eq_none (by simp [rv_len]; omega), List.getElem?_eq_none (by rw [rv_len]; omega)]
theorem rv_mid (zs : List Int) (i k : Nat) (h1 : i ≤ k) (h2 : k < zs.length - i) : (rv zs i)[k]? = some (nthZ zs k) := by
  rw [rv_at zs i k (by omega), if_neg (by omega)]

set_option maxRecDepth 100000 in
set_option maxHeartbeats 2000000 in
theorem reverse_ints (base n cap g : Nat) (zs : List Int) (w : World) (hz : zs.length = n) (hn : n ≤ maxLen) (ho : w.ownsRow base 3 1 (.slice (some ⟨g, 0, none⟩) n cap) n (zs.map int1)) :
    Calls Tryd.prog 74 #[.slice (some ⟨g, 0, none⟩) n cap] w fun e w' => e = .returned (.tuple #[]) ∧ w'.ownsRow base 3 1 (.slice (some ⟨g, 0, none⟩) n cap) n (zs.reverse.map int1) ∧ w.grownBy w' (some g) := by
  unfold maxLen at hn
  go_enter Tryd.func74, Tryd.ntmps74
  go_wp2
  go_loopw [2, 3] (fun s2 s3 wr => ∃ i : Nat, s2 = .int .i64 i ∧ s3 = .int .i64 ((n : Int) - 1 - i) ∧ 2 * i ≤ n ∧ wr.ownsRow base 3 1 (.slice (some ⟨g, 0, none⟩) n cap) n ((rv zs i).map int1) ∧ w.grownBy wr (some g)) (fun s2 _ _ => n - (intOf s2).toNat)
  case atStart => exact ⟨0, rfl, by simp, by omega, by rw [rv_zero]; exact ho, World.grownBy.refl _ _⟩
  case round =>
    obtain ⟨i, rfl, rfl, hi, hr, hgr⟩ := hrel
    by_cases hlt : (i : Int) < (n : Int) - 1 - i
    · obtain ⟨j, hj⟩ : ∃ j : Nat, (n : Int) - 1 - i = ((j : Nat) : Int) := ⟨n - 1 - i, by omega⟩
      have hij : i < j := by omega
      have c1 := hr.cellAt i (by omega)
      have c2 := hr.cellAt j (by omega)
      rw [List.getElem?_map, rv_mid zs i i (by omega) (by omega)] at c1
      rw [List.getElem?_map, rv_mid zs i j (by omega) (by omega)] at c2
      simp only [Option.map_some, int1] at c1 c2
      have f1 := hr.frozenAt i
      have f2 := hr.frozenAt j
      have Hst := Lib.hid (rv_step zs i j hij (by omega))
      have H1 := Lib.hid hr; clear hr
      have H2 := Lib.hid hgr; clear hgr
      have Hz := Lib.hid hz; clear hz
      have Hj := Lib.hid hj
      rw [hj] at hlt ⊢
      clear hj ho
      generalize nthZ zs i = u at *
      generalize nthZ zs j = v at *
      have h0 : (0 : Int) ≤ (i : Int) := by omega
      have h1 : (i : Int) < (n : Int) := by have := Hj.out; omega
      have h2 : (0 : Int) ≤ (j : Int) := by omega
      have h3 : (j : Int) < (n : Int) := by have := Hj.out; omega
      go_wp2
      go_region
      all_goals
        go_wp2
        go_roundw
        case rel =>
          have s1 := H1.out.stored i (int1 v)
          have s2 := s1.1.stored j (int1 u)
          have Hs := Hst.out
          refine ⟨i + 1, by go_num, congrArg (Value.int .i64) (by have := Hj.out; omega), by have := Hj.out; omega, ?_, grown_drew ((H2.out.trans s1.2).trans s2.2)⟩
          rw [← Hs, List.map_set, List.map_set]
          exact s2.1
        case measure => have := Hj.out; simp [intOf]; omega
    · go_wp2
      go_end0
      exact ⟨rfl, by rw [← List.map_reverse, ← rv_end zs i (by omega)]; exact hr, hgr⟩

theorem reverse_none (c : Nat) (w : World) :
    Calls Tryd.prog 74 #[.slice none 0 c] w fun e w' => e = .returned (.tuple #[]) ∧ w' = w := by
  go_enter Tryd.func74, Tryd.ntmps74
  go_wp2
  go_loopw [2, 3] (fun s2 s3 wr => s2 = .int .i64 0 ∧ s3 = .int .i64 (-1) ∧ wr = w) (fun _ _ _ => 0)
  case atStart => exact ⟨rfl, rfl, rfl⟩
  case round =>
    obtain ⟨rfl, rfl, rfl⟩ := hrel
    go_wp2
    go_end0
    exact ⟨rfl, rfl⟩
theorem reverse_any (base n : Nat) (v : Value) (zs : List Int) (w : World) (hz : zs.length = n) (hn : n ≤ maxLen) (ho : w.ownsRow base 3 1 v n (zs.map int1)) :
    Calls Tryd.prog 74 #[v] w fun e w' => e = .returned (.tuple #[]) ∧ w'.ownsRow base 3 1 v n (zs.reverse.map int1) ∧ w.grownBy w' v.ownBlock := by
  rcases ho.2 with ⟨rfl, rfl⟩ | ⟨g, cap, cur, rfl, _⟩
  · refine (reverse_none 0 w).mono ?_
    rintro e w' ⟨rfl, rfl⟩
    have : zs = [] := List.length_eq_zero_iff.1 hz
    subst this
    exact ⟨rfl, ho, World.grownBy.refl _ _⟩
  · exact reverse_ints base n cap g zs w hz hn ho
end Go.Proofs.YthghcffibljclaaDoor
/- MaskSets: what two masks have alone, and what they have both, is what they have together, and as many. -/
namespace Go.Proofs.YthghcffibljclaaDoor
open Go.RowKit

theorem g_or_eq (x y : BitVec 64) : g_or x y = x ||| y := rfl
/-! the plain facts -/
theorem or_parts (a b : BitVec 64) : ((a &&& ~~~b) ||| (b &&& ~~~a)) ||| (a &&& b) = a ||| b := by
  apply BitVec.eq_of_getLsbD_eq
  intro i hi
  simp only [BitVec.getLsbD_or, BitVec.getLsbD_and, BitVec.getLsbD_not, hi, decide_true, Bool.true_and]
  cases a.getLsbD i <;> cases b.getLsbD i <;> rfl
theorem countP_add (l : List Nat) (p q r s : Nat → Bool) (h : ∀ i ∈ l, (p i).toNat + (q i).toNat + (r i).toNat = (s i).toNat) : l.countP p + l.countP q + l.countP r = l.countP s := by
  induction l with
  | nil => rfl
  | cons a l ih =>
    have h1 := h a (by simp)
    have h2 := ih (fun i hi => h i (by simp [hi]))
    simp only [List.countP_cons]
    revert h1
    cases p a <;> cases q a <;> cases r a <;> cases s a <;> simp <;> omega
theorem pop_parts (a b : BitVec 64) : pop (a &&& ~~~b) + pop (b &&& ~~~a) + pop (a &&& b) = pop (a ||| b) := by
  unfold pop
  apply countP_add
  intro i hi
  simp only [List.mem_range] at hi
  simp only [BitVec.getLsbD_or, BitVec.getLsbD_and, BitVec.getLsbD_not, hi, decide_true, Bool.true_and]
  cases a.getLsbD i <;> cases b.getLsbD i <;> rfl
theorem own_none (a b : BitVec 64) : (a &&& ~~~b) &&& b = 0#64 := by
  apply BitVec.eq_of_getLsbD_eq
  intro i hi
  simp only [BitVec.getLsbD_and, BitVec.getLsbD_not, hi, decide_true, Bool.true_and, BitVec.getLsbD_zero]
  cases a.getLsbD i <;> cases b.getLsbD i <;> rfl
theorem and_or (a b c : BitVec 64) : a &&& (b ||| c) = (a &&& b) ||| (a &&& c) := by
  apply BitVec.eq_of_getLsbD_eq
  intro i hi
  simp only [BitVec.getLsbD_or, BitVec.getLsbD_and]
  cases a.getLsbD i <;> cases b.getLsbD i <;> rfl
theorem less_or (a b c : BitVec 64) : a &&& ~~~(b ||| c) = (a &&& ~~~b) &&& ~~~c := by
  apply BitVec.eq_of_getLsbD_eq
  intro i hi
  simp only [BitVec.getLsbD_or, BitVec.getLsbD_and, BitVec.getLsbD_not, hi, decide_true, Bool.true_and]
  cases a.getLsbD i <;> cases b.getLsbD i <;> cases c.getLsbD i <;> rfl
theorem U_ne {x y : BitVec 64} (h : x = y) : (U x != U y) = false := by subst h; simp
theorem U_eq {x y : BitVec 64} (h : x = y) : (U x == U y) = true := by subst h; simp

theorem gr_trans {w w1 w2 : World} (h : Below w.heap.size w w1) (k : Below w1.heap.size w1 w2) : Below w.heap.size w w2 := h.trans (k.mono h.size)
theorem gr_alloc {w w1 : World} (h : Below w.heap.size w w1) (o : Obj) : Below w.heap.size w (w1.alloc o) := h.alloc h.size o

end Go.Proofs.YthghcffibljclaaDoor
/- MaskJoins walked. -/
namespace Go.Proofs.YthghcffibljclaaDoor
open Go.RowKit

theorem info_msk : (Tryd.prog.info? 24).map (fun i => (i.zero, i.size, i.bytes)) = some (some (.int .u64 0), 1, 8) := by kernel_rfl
def mcell (m : BitVec 64) : Value := .int .u64 (U m)
/-- The slice reads these masks; its block lies below B. -/
def ArrM (w : World) (B : Nat) (A : Option Addr) (n : Nat) (xs : List (BitVec 64)) : Prop := ∀ k, k < n → ∃ b o, A = some ⟨b, o, none⟩ ∧ b < B ∧ w.cell? ⟨b, o + k, none⟩ = some (.int .u64 (U (nth xs k)))
theorem ArrM.below {w w' : World} {B : Nat} {A : Option Addr} {n : Nat} {xs : List (BitVec 64)} (h : ArrM w B A n xs) (hb : Below B w w') : ArrM w' B A n xs := by
  intro k hk
  obtain ⟨b, o, e, hl, hc⟩ := h k hk
  exact ⟨b, o, e, hl, ((below_cell hb).1 b _ hl).trans hc⟩
theorem ArrM.mono {w : World} {B B' : Nat} {A : Option Addr} {n : Nat} {xs : List (BitVec 64)} (h : ArrM w B A n xs) (hb : B ≤ B') : ArrM w B' A n xs := by
  intro k hk
  obtain ⟨b, o, e, hl, hc⟩ := h k hk
  exact ⟨b, o, e, by omega, hc⟩
theorem ArrM.arr {w : World} {B : Nat} {A : Option Addr} {n : Nat} {xs : List (BitVec 64)} (h : ArrM w B A n xs) : Arr w A n (fun k => .int .u64 (U (nth xs k))) := by
  intro k hk
  obtain ⟨b, o, e, hl, hc⟩ := h k hk
  exact ⟨b, o, e, hc⟩

theorem own_arrM {w : World} {base : Nat} {v : Value} {n : Nat} {xs : List (BitVec 64)} (hx : xs.length = n) (h : w.ownsRow base 24 1 v n (xs.map mcell)) : ∃ A c, v = .slice A n c ∧ Arr w A n (fun k => .int .u64 (U (nth xs k))) := by
  refine own_arr0 h _ (fun k hk => ?_)
  rw [List.getElem?_map, List.getElem?_eq_getElem (by omega)]
  unfold nth
  rw [List.getD_eq_getElem?_getD, List.getElem?_eq_getElem (by omega)]
  rfl
theorem ArrM.drewN {w : World} {B : Nat} {A : Option Addr} {n : Nat} {xs : List (BitVec 64)} (h : ArrM w B A n xs) (q : Nat) : ArrM (w.drewN q) B A n xs := fun k hk => h k hk
theorem below_drew {B : Nat} {a w : World} (h : Below B a w) (n : Nat) : Below B a (w.drewN n) := ⟨h.os, h.tape, h.output, h.size, h.block⟩
theorem ArrM.lt {w : World} {B : Nat} {A : Option Addr} {n : Nat} {xs : List (BitVec 64)} (h : ArrM w B A n xs) : ∀ b o, A = some ⟨b, o, none⟩ → 0 < n → b < B := by
  intro b o e h0
  obtain ⟨b', o', e', hl, _⟩ := h 0 h0
  rw [e] at e'
  injection e' with e'
  injection e' with e1 e2
  omega

end Go.Proofs.YthghcffibljclaaDoor
/- MaskTells walked. -/
namespace Go.Proofs.YthghcffibljclaaDoor
open Go.RowKit

def RunsAt (w : World) (A : Option Addr) (n : Nat) (l : List (Nat × Nat)) : Prop := ∀ k, k < n → ∃ g a b, A = some ⟨g, 0, none⟩ ∧ w.cell? ⟨g, k * 2, none⟩ = some (.int .i64 ((a : Nat) : Int)) ∧ w.cell? ⟨g, k * 2 + 1, none⟩ = some (.int .i64 ((b : Nat) : Int)) ∧ l[k]? = some (a, b)
theorem runs_at {w : World} {base : Nat} {A : Option Addr} {c : Nat} {l : List (Nat × Nat)} (h : w.ownsRow base 114 2 (.slice A l.length c) l.length (l.flatMap renc)) : RunsAt w A l.length l := by
  intro k hk
  obtain ⟨g, e, _, h0, h1⟩ := run_cells2 h k l[k] (List.getElem?_eq_getElem hk) hk
  exact ⟨g, _, _, e, h0, h1, List.getElem?_eq_getElem hk⟩
/-- The slice reads these numbers; its block lies below B. -/
def ArrZ (w : World) (B : Nat) (A : Option Addr) (n : Nat) (zs : List Int) : Prop := ∀ k, k < n → ∃ b o, A = some ⟨b, o, none⟩ ∧ b < B ∧ w.cell? ⟨b, o + k, none⟩ = some (.int .i64 (nthI zs k))
theorem ArrZ.below {w w' : World} {B : Nat} {A : Option Addr} {n : Nat} {zs : List Int} (h : ArrZ w B A n zs) (hb : Below B w w') : ArrZ w' B A n zs := by
  intro k hk
  obtain ⟨b, o, e, hl, hc⟩ := h k hk
  exact ⟨b, o, e, hl, ((below_cell hb).1 b _ hl).trans hc⟩
theorem own_arrZ {w : World} {base : Nat} {v : Value} {n : Nat} {l : List Nat} (hn : l.length = n) (h : w.ownsRow base 3 1 v n (l.map ienc)) : ∃ A c, v = .slice A n c ∧ ArrI w A n (fun k => nthI (l.map fun k : Nat => (k : Int)) k) :=
  own_arr0 h _ (fun k hk => nthI_row l k (by omega))
theorem own_runs {w : World} {base : Nat} {v : Value} {l : List (Nat × Nat)} {n : Nat} (hn : l.length = n) (h : w.ownsRow base 114 2 v n (l.flatMap renc)) : ∃ A c, v = .slice A n c ∧ RunsAt w A n l := by
  obtain ⟨A, c, rfl⟩ := own_slice0 h
  subst hn
  exact ⟨A, c, rfl, runs_at h⟩

end Go.Proofs.YthghcffibljclaaDoor
/- MaskMakes walked. -/
namespace Go.Proofs.YthghcffibljclaaDoor
open Go.RowKit

/-- The numbers below k that the span has. -/
def sp (f t s : Int) (k : Nat) : List Nat := (List.range k).filter (spanB f t s)
theorem sp_yes (f t s : Int) (k : Nat) (h : spanB f t s k = true) : sp f t s (k + 1) = sp f t s k ++ [k] := by
  unfold sp; rw [List.range_succ, List.filter_append]; simp [h]
theorem sp_no (f t s : Int) (k : Nat) (h : spanB f t s k = false) : sp f t s (k + 1) = sp f t s k := by
  unfold sp; rw [List.range_succ, List.filter_append]; simp [h]
theorem sp_len (f t s : Int) (k : Nat) : (sp f t s k).length ≤ k := by
  unfold sp; have := List.length_filter_le (spanB f t s) (List.range k); simpa using this
theorem sp_start (f t s : Int) (k : Nat) (h : (k : Int) ≤ f) : sp f t s k = [] := by
  unfold sp
  refine List.filter_eq_nil_iff.2 fun i hi => ?_
  have := List.mem_range.1 hi
  unfold spanB
  simp; omega
theorem sp_mem (f t s : Int) (k i : Nat) (h : t < (k : Int)) : decide (i ∈ sp f t s k) = spanB f t s i := by
  have e : (i ∈ sp f t s k) ↔ spanB f t s i = true := by
    unfold sp
    rw [List.mem_filter, List.mem_range]
    refine ⟨fun h => h.2, fun hb => ⟨?_, hb⟩⟩
    have : (i : Int) ≤ t := by unfold spanB at hb; simp at hb; omega
    omega
  cases hb : spanB f t s i with
  | false => rw [hb] at e; simpa using e
  | true => rw [hb] at e; simpa using e
theorem sp_lt (f t s : Int) (k i : Nat) (hk : k ≤ 64) (h : i ∈ sp f t s k) : i < 64 := by
  unfold sp at h
  have := List.mem_range.1 (List.mem_filter.1 h).1
  omega
theorem span_tmod (f t s : Int) (k : Nat) (h0 : f ≤ (k : Int)) (h1 : (k : Int) ≤ t) : (((k : Int) - f).tmod s == 0) = spanB f t s k := by
  unfold spanB
  rw [Int.tmod_eq_emod_of_nonneg (by omega)]
  have : ((k : Int) - f) % s = 0 ↔ (f ≤ (k : Int) ∧ (k : Int) ≤ t ∧ ((k : Int) - f) % s = 0) := ⟨fun h => ⟨h0, h1, h⟩, fun h => h.2.2⟩
  rw [show ((((k : Int) - f) % s == 0) = decide (((k : Int) - f) % s = 0)) from rfl]
  exact decide_eq_decide.2 this

theorem ArrZ.cut {w : World} {B : Nat} {A : Option Addr} {n m : Nat} {zs : List Int} (h : ArrZ w B A n zs) (hm : m ≤ n) : ∃ ys : List Int, ys.length = m ∧ ArrZ w B A m ys := by
  refine ⟨(List.range m).map (nthI zs), by simp, fun k hk => ?_⟩
  obtain ⟨b, o, e, hl, hc⟩ := h k (by omega)
  refine ⟨b, o, e, hl, ?_⟩
  rw [hc]
  unfold nthI
  rw [List.getD_eq_getElem?_getD (l := List.map _ _), List.getElem?_map, List.getElem?_range hk]
  rfl
theorem ArrZ.mono {w : World} {B B' : Nat} {A : Option Addr} {n : Nat} {zs : List Int} (h : ArrZ w B A n zs) (hb : B ≤ B') : ArrZ w B' A n zs := by
  intro k hk
  obtain ⟨b, o, e, hl, hc⟩ := h k hk
  exact ⟨b, o, e, Nat.lt_of_lt_of_le hl hb, hc⟩
theorem ArrZ.arr {w : World} {B : Nat} {A : Option Addr} {n : Nat} {zs : List Int} (h : ArrZ w B A n zs) : ArrI w A n (nthI zs) := by
  intro k hk
  obtain ⟨b, o, e, hl, hc⟩ := h k hk
  exact ⟨b, o, e, hc⟩
/-- The row's own copy holds these numbers. -/
def izs (zs : List Int) (n : Nat) : List Value := (List.range n).map fun k => .int .i64 (nthI zs k)
theorem own_izs {w : World} {base : Nat} {v : Value} {n : Nat} {zs : List Int} (h : w.ownsRow base 3 1 v n (izs zs n)) : ∃ A c, v = .slice A n c ∧ ArrI w A n (nthI zs) :=
  own_arr0 h _ (fun k hk => by unfold izs; rw [List.getElem?_map, List.getElem?_range hk]; rfl)

/-- The value is a row of numbers that lies below B. -/
def RowIn (w : World) (B : Nat) (v : Value) : Prop := ∃ A L C zs, v = .slice A L C ∧ L ≤ C ∧ C ≤ maxLen ∧ (A = none → C = 0) ∧ ArrZ w B A L zs
def RowsIn (w : World) (B : Nat) (A : Option Addr) (n : Nat) : Prop := ∀ k, k < n → ∃ b o v, A = some ⟨b, o, none⟩ ∧ b < B ∧ w.cell? ⟨b, o + k, none⟩ = some v ∧ RowIn w B v
theorem RowIn.below {w w' : World} {B : Nat} {v : Value} (h : RowIn w B v) (hb : Below B w w') : RowIn w' B v := by
  obtain ⟨A, L, C, zs, e, h1, h2, h3, h4⟩ := h
  exact ⟨A, L, C, zs, e, h1, h2, h3, h4.below hb⟩
theorem RowsIn.below {w w' : World} {B : Nat} {A : Option Addr} {n : Nat} (h : RowsIn w B A n) (hb : Below B w w') : RowsIn w' B A n := by
  intro k hk
  obtain ⟨b, o, v, e, hl, hc, hr⟩ := h k hk
  exact ⟨b, o, v, e, hl, ((below_cell hb).1 b _ hl).trans hc, hr.below hb⟩
/-- The slice reads these bounds; its block lies below B. -/
def SpansIn (w : World) (B : Nat) (A : Option Addr) (n : Nat) : Prop := ∀ k, k < n → ∃ b o f t s, A = some ⟨b, o, none⟩ ∧ b < B ∧ w.cell? ⟨b, o + k * 3, none⟩ = some (.int .i64 f) ∧ w.cell? ⟨b, o + k * 3 + 1, none⟩ = some (.int .i64 t) ∧ w.cell? ⟨b, o + k * 3 + 2, none⟩ = some (.int .i64 s) ∧ s ≤ 9223372036854775807
theorem SpansIn.below {w w' : World} {B : Nat} {A : Option Addr} {n : Nat} (h : SpansIn w B A n) (hb : Below B w w') : SpansIn w' B A n := by
  intro k hk
  obtain ⟨b, o, f, t, s, e, hl, c0, c1, c2, hs⟩ := h k hk
  exact ⟨b, o, f, t, s, e, hl, ((below_cell hb).1 b _ hl).trans c0, ((below_cell hb).1 b _ hl).trans c1, ((below_cell hb).1 b _ hl).trans c2, hs⟩
end Go.Proofs.YthghcffibljclaaDoor
