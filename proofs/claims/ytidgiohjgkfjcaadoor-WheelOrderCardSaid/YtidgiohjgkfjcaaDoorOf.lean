/- Of, Span, Has. -/
import Derived.Test.YtidgiohjgkfjcaaDoorFold
namespace Go.Proofs.YtidgiohjgkfjcaaDoor
open Go.RowKit

/-- The word that has just these bits. -/
def mkUpto (p : Nat → Bool) : Nat → BitVec 64
  | 0 => 0#64
  | n + 1 => if p n then mkUpto p n ||| BitVec.twoPow 64 n else mkUpto p n
def mk (p : Nat → Bool) : BitVec 64 := mkUpto p 64
theorem mkUpto_bit (p : Nat → Bool) (n i : Nat) (hn : n ≤ 64) : (mkUpto p n).getLsbD i = (decide (i < n) && p i) := by
  induction n with
  | zero => simp [mkUpto]
  | succ n ih =>
    have ih := ih (by omega)
    unfold mkUpto
    by_cases h : p n = true
    · rw [if_pos h, BitVec.getLsbD_or, ih, BitVec.getLsbD_twoPow]
      by_cases e : n = i
      · subst e; simp [h]; omega
      · by_cases hi : i < n
        · simp [e, hi]; omega
        · simp [e, hi]; omega
    · rw [if_neg h, ih]
      by_cases e : i = n
      · subst e; simp [h]
      · by_cases hi : i < n
        · simp [hi]; omega
        · simp [hi]; omega
theorem mk_bit (p : Nat → Bool) (i : Nat) : (mk p).getLsbD i = (decide (i < 64) && p i) := mkUpto_bit p 64 i (Nat.le_refl _)
theorem mk_congr {p q : Nat → Bool} (h : ∀ i, i < 64 → p i = q i) : mk p = mk q := by
  apply BitVec.eq_of_getLsbD_eq
  intro i hi
  rw [mk_bit, mk_bit, h i hi]
theorem mk_or_bit (p q : Nat → Bool) (k : Nat) (hk : k < 64) (h : ∀ i, i < 64 → q i = (p i || decide (i = k))) : mk p ||| BitVec.twoPow 64 k = mk q := by
  apply BitVec.eq_of_getLsbD_eq
  intro i hi
  rw [BitVec.getLsbD_or, mk_bit, mk_bit, BitVec.getLsbD_twoPow, h i hi]
  simp [hi, hk]
  by_cases e : k = i <;> simp [e, eq_comm]

/-! Of -/
def inside (z : Int) : Prop := 0 ≤ z ∧ z ≤ 63
instance (z : Int) : Decidable (inside z) := by unfold inside; infer_instance
def ofs : List Int → BitVec 64 → Option (BitVec 64)
  | [], m => some m
  | z :: l, m => if inside z then ofs l (m ||| BitVec.twoPow 64 z.toNat) else none
def nthI (l : List Int) (k : Nat) : Int := l.getD k 0
theorem drop_nthI (l : List Int) (k : Nat) (h : k < l.length) : l.drop k = nthI l k :: l.drop (k + 1) := by
  rw [List.drop_eq_getElem_cons h]
  unfold nthI
  simp [h]
/-- A mask and OK; or 0 and ErrArg. -/
def maskErr : Option (BitVec 64) → Value
  | some m => .tuple #[.int .u64 (U m), .int .i64 0]
  | none => .tuple #[.int .u64 0, .int .i64 2]

set_option maxHeartbeats 400000 in
theorem of_any (A : Option Addr) (n c : Nat) (zs : List Int) (w : World) (hx : zs.length = n) (hn : n ≤ maxLen) (hc : Arr w A n (fun k => .int .i64 (nthI zs k))) :
    Calls Tryd.prog 62 #[.slice A n c] w fun e w' => e = .returned (maskErr (ofs zs 0#64)) ∧ w = w' := by
  unfold maxLen at hn
  have Hx := Lib.hid hx; clear hx
  go_enter Tryd.func62, Tryd.ntmps62
  go_wp2
  go_loop [4, 9] (fun v i => ∃ (k : Nat) (m : BitVec 64), k ≤ n ∧ i = .int .i64 k ∧ v = .int .u64 (U m) ∧ ofs zs 0#64 = ofs (zs.drop k) m) (fun _ i => n - (intOf i).toNat)
  case atStart => exact ⟨0, 0#64, Nat.zero_le _, rfl, rfl, rfl⟩
  case round =>
    obtain ⟨k, m, hk, rfl, rfl, ho⟩ := hrel
    by_cases hlt : k < n
    · obtain ⟨b, off, rfl, hcell⟩ := hc k hlt
      rw [drop_nthI zs k (by rw [Hx.out]; exact hlt), ofs] at ho
      clear hc
      dsimp only at hcell
      generalize nthI zs k = z at *
      by_cases hz : inside z
      · rw [if_pos hz] at ho
        have Ho := Lib.hid ho; clear ho
        obtain ⟨z0, z1⟩ := hz
        obtain ⟨j, rfl⟩ := Int.eq_ofNat_of_zero_le z0
        rw [Int.toNat_natCast] at Ho
        have hj : j ≤ 63 := by omega
        go_wp2_with (first | (go_at_call 67; refine (fits_yes _ _ z0 z1).mono ?_; rintro e w' ⟨rfl, rfl⟩) | (go_at_call 68; refine (bit_any j _ hj).mono ?_; rintro e w' ⟨rfl, rfl⟩))
        go_round
        case rel => exact ⟨k + 1, _, by omega, by go_num, by rw [U_or], Ho.out⟩
        case measure => simp [intOf]; omega
      · rw [if_neg hz] at ho
        have Ho := Lib.hid ho; clear ho
        have hz' : z < 0 ∨ 63 < z := by unfold inside at hz; omega
        have Hz := Lib.hid hz'; clear hz hz'
        go_wp2_with (go_at_call 67; refine (fits_no _ _ Hz.out).mono ?_; rintro e w' ⟨rfl, rfl⟩)
        go_ret2
        exact ⟨by rw [Ho.out]; rfl, rfl⟩
    · obtain rfl : k = n := by omega
      have Ho := Lib.hid ho; clear ho
      clear hc
      go_wp2
      go_ret2
      exact ⟨by rw [Ho.out, List.drop_of_length_le (by rw [Hx.out]; exact Nat.le_refl _)]; rfl, rfl⟩

/-! Span -/
def spanB (f t s : Int) (i : Nat) : Bool := decide (f ≤ (i : Int) ∧ (i : Int) ≤ t ∧ ((i : Int) - f) % s = 0)
def spanOk (f t s : Int) : Prop := 0 ≤ f ∧ t ≤ 63 ∧ f ≤ t ∧ 1 ≤ s
instance (f t s : Int) : Decidable (spanOk f t s) := by unfold spanOk; infer_instance
def spanM (f t s : Int) : Option (BitVec 64) := if spanOk f t s then some (mk (spanB f t s)) else none

theorem mod_small (a s : Int) (h0 : 0 ≤ a) (h1 : a < s) : (a % s = 0) ↔ a = 0 := by
  rw [Int.emod_eq_of_lt h0 h1]
/-- A step of 64 at most tells the same numbers. -/
theorem span_min (f t s : Int) (hf : 0 ≤ f) (hs : 1 ≤ s) (i : Nat) (hi : i < 64) : spanB f t s i = spanB f t (min s 64) i := by
  unfold spanB
  rw [decide_eq_decide]
  by_cases h : s ≤ 64
  · rw [show min s 64 = s by omega]
  · rw [show min s 64 = 64 by omega]
    constructor <;> rintro ⟨a, b, c⟩ <;> refine ⟨a, b, ?_⟩
    · rw [mod_small _ _ (by omega) (by omega)] at c; rw [c]; rfl
    · rw [mod_small _ _ (by omega) (by omega)] at c; rw [c]; rfl
theorem step_bit (f s : Int) (j i : Nat) (hs : 1 ≤ s) :
    decide (f ≤ (i : Int) ∧ (i : Int) < f + s * ((j + 1 : Nat) : Int) ∧ ((i : Int) - f) % s = 0) = (decide (f ≤ (i : Int) ∧ (i : Int) < f + s * (j : Int) ∧ ((i : Int) - f) % s = 0) || decide ((i : Int) = f + s * j)) := by
  rw [Bool.eq_iff_iff]
  simp only [Bool.or_eq_true, decide_eq_true_eq]
  have e : s * ((j + 1 : Nat) : Int) = s * j + s := by rw [show ((j + 1 : Nat) : Int) = (j : Int) + 1 by omega, Int.mul_add, Int.mul_one]
  rw [e]
  constructor
  · rintro ⟨a, b, c⟩
    by_cases h : (i : Int) < f + s * j
    · exact .inl ⟨a, h, c⟩
    · right
      have h1 : ((i : Int) - f - s * j) % s = 0 := by rw [Int.sub_mul_emod_self_left]; exact c
      rw [mod_small _ _ (by omega) (by omega)] at h1
      omega
  · rintro (⟨a, b, c⟩ | h)
    · exact ⟨a, by omega, c⟩
    · have hp : 0 ≤ s * (j : Int) := Int.mul_nonneg (by omega) (by omega)
      refine ⟨by omega, by omega, ?_⟩
      rw [h, show f + s * (j : Int) - f = s * j by omega]
      exact Int.mul_emod_right _ _

/-- What has come behind j rounds. -/
def part (f u : Int) (j : Nat) : BitVec 64 := mk fun i => decide (f ≤ (i : Int) ∧ (i : Int) < f + u * (j : Int) ∧ ((i : Int) - f) % u = 0)
theorem part_zero (f u : Int) : part f u 0 = 0#64 := by
  unfold part
  apply BitVec.eq_of_getLsbD_eq
  intro i hi
  rw [mk_bit]
  simp
  intro _ h1 h2
  omega
theorem part_succ (f u : Int) (j m : Nat) (hu : 1 ≤ u) (hm : f + u * (j : Int) = m) (h : m ≤ 63) : part f u j ||| BitVec.twoPow 64 m = part f u (j + 1) := by
  unfold part
  apply mk_or_bit _ _ m (by omega)
  intro i _
  rw [step_bit f u j i hu, hm]
  congr 1
  rw [decide_eq_decide]
  omega
theorem part_end (f t u : Int) (j : Nat) (h : t < f + u * (j : Int)) (hl : ∀ i : Nat, (i : Int) < f + u * (j : Int) → f ≤ (i : Int) → ((i : Int) - f) % u = 0 → (i : Int) ≤ t) : part f u j = mk (spanB f t u) := by
  unfold part
  apply mk_congr
  intro i _
  unfold spanB
  rw [decide_eq_decide]
  constructor
  · rintro ⟨a, b, c⟩; exact ⟨a, hl i b a c, c⟩
  · rintro ⟨a, b, c⟩; exact ⟨a, by omega, c⟩
theorem last_in (f u t : Int) (j : Nat) (h : j = 0 ∨ f + u * ((j - 1 : Nat) : Int) ≤ t) (i : Nat) (h1 : (i : Int) < f + u * (j : Int)) (h0 : f ≤ (i : Int)) (h2 : ((i : Int) - f) % u = 0) : (i : Int) ≤ t := by
  rcases h with rfl | h
  · simp at h1; omega
  · cases j with
    | zero => simp at h1; omega
    | succ j =>
      rw [Nat.add_sub_cancel] at h
      rw [show ((j + 1 : Nat) : Int) = (j : Int) + 1 by omega, Int.mul_add, Int.mul_one] at h1
      by_cases hle : (i : Int) ≤ f + u * (j : Int)
      · omega
      · have h3 : ((i : Int) - f - u * j) % u = 0 := by rw [Int.sub_mul_emod_self_left]; exact h2
        rw [mod_small _ _ (by omega) (by omega)] at h3
        omega
/-- Between two rounds: j have been, m is next, b has come. -/
def SpanRel (f t u m : Int) (b : BitVec 64) : Prop := ∃ j : Nat, m = f + u * (j : Int) ∧ b = part f u j ∧ 0 ≤ m ∧ m ≤ 127 ∧ (j = 0 ∨ f + u * ((j - 1 : Nat) : Int) ≤ t)
theorem SpanRel.bd {f t u m : Int} {b : BitVec 64} (h : SpanRel f t u m b) : 0 ≤ m ∧ m ≤ 127 := by
  obtain ⟨j, _, _, h0, h1, _⟩ := h; exact ⟨h0, h1⟩
theorem SpanRel.next {f t u m : Int} {b : BitVec 64} (h : SpanRel f t u m b) (hu : 1 ≤ u ∧ u ≤ 64) (ht : t ≤ 63) (hm : m ≤ t) : SpanRel f t u (m + u) (b ||| BitVec.twoPow 64 m.toNat) := by
  obtain ⟨j, rfl, rfl, h0, h1, hj⟩ := h
  have e : f + u * ((j + 1 : Nat) : Int) = f + u * (j : Int) + u := by rw [show ((j + 1 : Nat) : Int) = (j : Int) + 1 by omega, Int.mul_add, Int.mul_one]; omega
  refine ⟨j + 1, e.symm, part_succ f u j _ hu.1 (by omega) (by omega), by omega, by omega, .inr ?_⟩
  rw [Nat.add_sub_cancel]; exact hm
theorem SpanRel.fin {f t u m : Int} {b : BitVec 64} (h : SpanRel f t u m b) (hm : t < m) : b = mk (spanB f t u) := by
  obtain ⟨j, rfl, rfl, h0, h1, hj⟩ := h
  exact part_end f t u j hm fun i a b c => last_in f u t j hj i a b c

end Go.Proofs.YtidgiohjgkfjcaaDoor
