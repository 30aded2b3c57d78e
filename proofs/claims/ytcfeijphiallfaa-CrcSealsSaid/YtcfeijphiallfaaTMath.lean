/- Short numbers, plain: digits to 128, what bytes say, and that both lead back to one another. -/
import Derived.Lib.BitFns
namespace Go.Proofs.Ytcfeijphiallfaa

/-- The short bytes of a number. -/
def sh (n : Nat) : List Nat := if h : n < 128 then [n] else (n % 128 + 128) :: sh (n / 128)
termination_by n
decreasing_by omega
theorem sh_lt {n : Nat} (h : n < 128) : sh n = [n] := by rw [sh]; simp [h]
theorem sh_ge {n : Nat} (h : 128 ≤ n) : sh n = (n % 128 + 128) :: sh (n / 128) := by rw [sh, dif_neg (by omega)]
theorem sh_byte (n : Nat) : ∀ b ∈ sh n, b < 256 := by
  induction n using Nat.strongRecOn with
  | _ n ih =>
    by_cases h : n < 128
    · rw [sh_lt h]; intro b hb; simp at hb; omega
    · rw [sh_ge (by omega)]; intro b hb
      rcases List.mem_cons.1 hb with rfl | hb
      · omega
      · exact ih (n / 128) (by omega) b hb
theorem sh_len : ∀ (k n : Nat), (k = 0 ∨ 128 ^ k ≤ n) → n < 128 ^ (k + 1) → (sh n).length = k + 1
  | 0, n, _, h => by rw [sh_lt (by simpa using h)]; rfl
  | k + 1, n, h0, h => by
    have h1 : 128 ^ (k + 1) ≤ n := by rcases h0 with h0 | h0; · omega
                                      · exact h0
    have h2 : 128 * 128 ^ k ≤ n := by rw [Nat.pow_succ] at h1; omega
    have h3 : 1 ≤ 128 ^ k := Nat.pow_pos (by omega)
    rw [sh_ge (by omega), List.length_cons, sh_len k (n / 128) (by
      right
      exact (Nat.le_div_iff_mul_le (by omega)).2 (by rw [Nat.mul_comm]; exact h2)) (by
      rw [Nat.pow_succ] at h
      exact (Nat.div_lt_iff_lt_mul (by omega)).2 h)]
theorem sh_pos (n : Nat) : 1 ≤ (sh n).length := by
  by_cases h : n < 128
  · rw [sh_lt h]; simp
  · rw [sh_ge (by omega)]; simp
theorem sh_ne (n : Nat) : sh n ≠ [] := fun h => by have := sh_pos n; rw [h] at this; simp at this
theorem sh_len_mono {m n : Nat} (h : m ≤ n) : (sh m).length ≤ (sh n).length := by
  induction n using Nat.strongRecOn generalizing m with
  | _ n ih =>
    by_cases hm : m < 128
    · rw [sh_lt hm]; exact sh_pos n
    · rw [sh_ge (by omega), sh_ge (show 128 ≤ n by omega)]
      simp only [List.length_cons]
      have := @ih (n / 128) (by omega) (m / 128) (by omega)
      omega
theorem sh_le : ∀ (k n : Nat), n < 128 ^ (k + 1) → (sh n).length ≤ k + 1
  | 0, n, h => by rw [sh_lt (by simpa using h)]; simp
  | k + 1, n, h => by
    by_cases hm : n < 128
    · rw [sh_lt hm]; simp
    · rw [sh_ge (by omega), List.length_cons]
      have := sh_le k (n / 128) (by rw [Nat.pow_succ] at h; exact (Nat.div_lt_iff_lt_mul (by omega)).2 h)
      omega
theorem sh_ten {n : Nat} (h : n < 18446744073709551616) : (sh n).length ≤ 10 := sh_le 9 n (Nat.lt_of_lt_of_le h (by decide))
theorem bl_bounds : ∀ (f x : Nat), x < 2 ^ f → x ≠ 0 → 1 ≤ Lib.bitLenAux f x ∧ 2 ^ (Lib.bitLenAux f x - 1) ≤ x ∧ x < 2 ^ Lib.bitLenAux f x
  | 0, x, h, h0 => by simp at h; exact absurd h h0
  | f + 1, x, h, h0 => by
    rw [Lib.bitLenAux, if_neg h0]
    by_cases h2 : x / 2 = 0
    · have e : Lib.bitLenAux f (x / 2) = 0 := by rw [h2]; cases f <;> simp [Lib.bitLenAux]
      rw [e]; simp; omega
    · obtain ⟨a, b, c⟩ := bl_bounds f (x / 2) (by rw [Nat.pow_succ] at h; omega) h2
      generalize Lib.bitLenAux f (x / 2) = L at a b c ⊢
      obtain ⟨m, rfl⟩ : ∃ m, L = m + 1 := ⟨L - 1, by omega⟩
      rw [show 1 + (m + 1) - 1 = m + 1 by omega, show 1 + (m + 1) = m + 2 by omega]
      rw [show m + 1 - 1 = m by omega] at b
      have e1 : (2 : Nat) ^ (m + 1) = 2 * 2 ^ m := by rw [Nat.pow_succ]; omega
      have e2 : (2 : Nat) ^ (m + 2) = 2 * 2 ^ (m + 1) := by rw [Nat.pow_succ]; omega
      omega
/-- What Len64 of the number, with its lowest bit set, comes to. -/
theorem size_eq {n : Nat} (h : n < 18446744073709551616) : (Lib.bitLen (n ||| 1) + 7 - 1) / 7 = (sh n).length := by
  have h1 : n ||| 1 < 2 ^ 64 := Nat.or_lt_two_pow (by simpa using h) (by decide)
  have h0 : n ||| 1 ≠ 0 := by
    intro e
    have := congrArg (fun x => x.testBit 0) e
    simp at this
  obtain ⟨a, b, c⟩ := bl_bounds 64 (n ||| 1) h1 h0
  have hn : n ||| 1 = n / 2 * 2 + 1 := by
    apply Nat.eq_of_testBit_eq
    intro i
    rw [Nat.testBit_or]
    cases i with
    | zero => simp
    | succ i => rw [Nat.testBit_succ, Nat.testBit_succ, Nat.testBit_succ]; simp; rw [show (n / 2 * 2 + 1) / 2 = n / 2 by omega]
  change (Lib.bitLenAux 64 (n ||| 1) + 7 - 1) / 7 = _
  generalize hL : Lib.bitLenAux 64 (n ||| 1) = L at a b c
  rw [hn] at b c
  obtain ⟨k, hk⟩ : ∃ k, (L + 7 - 1) / 7 = k + 1 := ⟨(L + 7 - 1) / 7 - 1, by omega⟩
  rw [hk]
  symm
  have e128 : ∀ j, (128 : Nat) ^ j = 2 ^ (7 * j) := fun j => by rw [Nat.pow_mul]
  apply sh_len
  · rcases Nat.eq_zero_or_pos k with h5 | h5
    · exact .inl h5
    · right
      rw [e128]
      have h6 : (2 : Nat) ^ (7 * k) ≤ 2 ^ (L - 1) := Nat.pow_le_pow_right (by omega) (by omega)
      have h7 : ∃ q, (2 : Nat) ^ (7 * k) = 2 * q := ⟨2 ^ (7 * k - 1), by rw [show 7 * k = (7 * k - 1) + 1 by omega, Nat.pow_succ]; simp; omega⟩
      omega
  · rw [e128]
    have h6 : (2 : Nat) ^ L ≤ 2 ^ (7 * (k + 1)) := Nat.pow_le_pow_right (by omega) (by omega)
    omega

/-! reading -/
def lead : List Nat → Nat
  | [] => 0
  | b :: l => if 128 ≤ b then lead l + 1 else 0
def val : List Nat → Nat
  | [] => 0
  | b :: l => b % 128 + 128 * val l
def nthB (l : List Nat) (k : Nat) : Nat := l.getD k 0
theorem nth_mem {l : List Nat} {i : Nat} (h : i < l.length) : nthB l i ∈ l := by
  unfold nthB; rw [List.getD_eq_getElem?_getD, List.getElem?_eq_getElem h]; exact List.getElem_mem h
theorem lead_le (l : List Nat) : lead l ≤ l.length := by
  induction l with
  | nil => simp [lead]
  | cons b l ih => unfold lead; split <;> simp <;> omega
theorem nth_lead {l : List Nat} {k : Nat} (h : k < lead l) : 128 ≤ nthB l k := by
  induction l generalizing k with
  | nil => simp [lead] at h
  | cons b l ih =>
    unfold lead at h
    split at h
    · cases k with
      | zero => simpa [nthB]
      | succ k => have := ih (k := k) (by omega); simpa [nthB] using this
    · omega
theorem at_lead {l : List Nat} (h : lead l < l.length) : nthB l (lead l) < 128 := by
  induction l with
  | nil => simp at h
  | cons b l ih =>
    unfold lead at h ⊢
    by_cases hb : 128 ≤ b
    · rw [if_pos hb] at h ⊢
      have := ih (by simp at h; omega)
      simpa [nthB] using this
    · rw [if_neg hb]; simp [nthB]; omega
theorem lead_eq {l : List Nat} {k : Nat} (h : k ≤ lead l) (hb : nthB l k < 128) : lead l = k := by
  rcases Nat.lt_or_ge k (lead l) with h1 | h1
  · have := nth_lead h1; omega
  · omega
theorem lead_succ {l : List Nat} {k : Nat} (h : k ≤ lead l) (hk : k < l.length) (hb : 128 ≤ nthB l k) : k + 1 ≤ lead l := by
  rcases Nat.lt_or_ge k (lead l) with h1 | h1
  · omega
  · have e : lead l = k := by omega
    have := at_lead (l := l) (by omega)
    rw [e] at this; omega
theorem val_lt (l : List Nat) : val l < 128 ^ l.length := by
  induction l with
  | nil => simp [val]
  | cons b l ih => unfold val; rw [List.length_cons, Nat.pow_succ]; omega
theorem val_snoc (l : List Nat) (b : Nat) : val (l ++ [b]) = val l + 128 ^ l.length * (b % 128) := by
  induction l with
  | nil => simp [val]
  | cons a l ih =>
    rw [List.cons_append, val, ih, val, List.length_cons, Nat.pow_succ, Nat.mul_add, Nat.mul_comm (128 ^ l.length) 128, Nat.mul_assoc]
    omega
theorem take_next {l : List Nat} {k : Nat} (h : k < l.length) : l.take (k + 1) = l.take k ++ [nthB l k] := by
  rw [List.take_succ_eq_append_getElem h]; unfold nthB; rw [List.getD_eq_getElem?_getD, List.getElem?_eq_getElem h]; rfl
theorem val_take {l : List Nat} {k : Nat} (h : k < l.length) : val (l.take (k + 1)) = val (l.take k) + 128 ^ k * (nthB l k % 128) := by
  rw [take_next h, val_snoc, List.length_take, Nat.min_eq_left (by omega)]
theorem val_take_lt {l : List Nat} {k : Nat} (h : k ≤ l.length) : val (l.take k) < 128 ^ k := by
  have := val_lt (l.take k); rwa [List.length_take, Nat.min_eq_left h] at this

/-- The short number that bytes begin with, how many bytes it has, and the error. -/
def rdS (l : List Nat) : Nat × Nat × Nat :=
  if 10 ≤ lead l ∨ (lead l = 9 ∧ 9 < l.length ∧ 1 < nthB l 9) then (0, 0, 120)
  else if lead l = l.length then (0, 0, 7)
  else if 0 < lead l ∧ nthB l (lead l) = 0 then (0, 0, 120)
  else (val (l.take (lead l + 1)), lead l + 1, 0)
theorem rdS_ten {l : List Nat} (h : 9 ≤ lead l) (hl : 9 < l.length) (hb : 1 < nthB l 9) : rdS l = (0, 0, 120) := by
  unfold rdS
  rw [if_pos (by omega)]
theorem rdS_end {l : List Nat} (h : lead l = l.length) (h9 : l.length ≤ 9) : rdS l = (0, 0, 7) := by
  unfold rdS
  rw [if_neg (by omega), if_pos h]
theorem rdS_no {l : List Nat} (h0 : 0 < lead l) (hl : lead l < l.length) (h9 : lead l ≤ 9) (hb : nthB l (lead l) = 0) : rdS l = (0, 0, 120) := by
  unfold rdS
  by_cases h : lead l = 9
  · rw [if_neg (by rw [h] at hb; omega), if_neg (by omega), if_pos ⟨h0, hb⟩]
  · rw [if_neg (by omega), if_neg (by omega), if_pos ⟨h0, hb⟩]
theorem rdS_yes {l : List Nat} (hl : lead l < l.length) (h9 : lead l ≤ 9) (h10 : lead l = 9 → nthB l 9 ≤ 1) (hb : lead l = 0 ∨ nthB l (lead l) ≠ 0) : rdS l = (val (l.take (lead l + 1)), lead l + 1, 0) := by
  unfold rdS
  rw [if_neg (by rintro (h | ⟨h1, _, h2⟩); · omega
                 · have := h10 h1; omega), if_neg (by omega), if_neg (by rintro ⟨h1, h2⟩; rcases hb with h | h <;> omega)]
/-- Is it all that stands there? The digits that the number wants are as many. -/
theorem sh_val {l : List Nat} {k : Nat} (hk : k < l.length) (hb : nthB l k < 128) : ((sh (val (l.take (k + 1)))).length = k + 1) ↔ (k = 0 ∨ nthB l k ≠ 0) := by
  have h1 := val_take hk
  have h2 := val_take_lt (l := l) (k := k) (by omega)
  have h3 := val_take_lt (l := l) (k := k + 1) (by omega)
  rw [Nat.mod_eq_of_lt hb] at h1
  constructor
  · intro h
    rcases Nat.eq_zero_or_pos k with h0 | h0
    · exact .inl h0
    · right
      intro e
      rw [e, Nat.mul_zero] at h1
      obtain ⟨j, rfl⟩ : ∃ j, k = j + 1 := ⟨k - 1, by omega⟩
      have := sh_le j (val (l.take (j + 1 + 1))) (by rw [h1]; exact h2)
      omega
  · intro h
    refine sh_len k _ ?_ h3
    rcases h with h | h
    · exact .inl h
    · right
      rw [h1]
      have : 128 ^ k * 1 ≤ 128 ^ k * nthB l k := Nat.mul_le_mul_left _ (by omega)
      omega
theorem val_u64 {l : List Nat} (hl : lead l < l.length) (h9 : lead l ≤ 9) (h10 : lead l = 9 → nthB l 9 ≤ 1) : val (l.take (lead l + 1)) < 18446744073709551616 := by
  have h1 := val_take hl
  have h2 := val_take_lt (l := l) (k := lead l) (by omega)
  have h3 := val_take_lt (l := l) (k := lead l + 1) (by omega)
  by_cases h : lead l = 9
  · rw [h] at h1 h2 ⊢
    have := h10 h
    have e : nthB l 9 % 128 ≤ 1 := by omega
    have e2 : 128 ^ 9 * (nthB l 9 % 128) ≤ 128 ^ 9 * 1 := Nat.mul_le_mul_left _ e
    rw [h1]
    omega
  · have : (128 : Nat) ^ (lead l + 1) ≤ 128 ^ 9 := Nat.pow_le_pow_right (by omega) (by omega)
    omega
/-- What was put is read, whatever stands behind. -/
theorem lead_sh (n : Nat) (r : List Nat) : lead (sh n ++ r) + 1 = (sh n).length := by
  induction n using Nat.strongRecOn with
  | _ n ih =>
    by_cases h : n < 128
    · rw [sh_lt h]; simp [lead]; omega
    · rw [sh_ge (by omega), List.cons_append, lead, if_pos (by omega), ih (n / 128) (by omega)]; rfl
theorem val_sh (n : Nat) : val (sh n) = n := by
  induction n using Nat.strongRecOn with
  | _ n ih =>
    by_cases h : n < 128
    · rw [sh_lt h]; simp [val]; omega
    · rw [sh_ge (by omega), val, ih (n / 128) (by omega)]; omega
theorem last_sh (n : Nat) (r : List Nat) : (sh n).length = 1 ∨ nthB (sh n ++ r) ((sh n).length - 1) ≠ 0 := by
  induction n using Nat.strongRecOn with
  | _ n ih =>
    by_cases h : n < 128
    · rw [sh_lt h]; simp
    · right
      rw [sh_ge (by omega)]
      have hp := sh_pos (n / 128)
      obtain ⟨m, hm⟩ : ∃ m, (sh (n / 128)).length = m + 1 := ⟨_, (Nat.succ_pred_eq_of_pos hp).symm⟩
      simp only [List.length_cons, List.cons_append, Nat.add_sub_cancel]
      rw [hm]
      show nthB (sh (n / 128) ++ r) m ≠ 0
      rcases ih (n / 128) (by omega) with h1 | h1
      · have hm0 : m = 0 := by omega
        subst hm0
        by_cases h2 : n / 128 < 128
        · rw [sh_lt h2]; simp [nthB]; omega
        · rw [sh_ge (by omega)] at h1; simp at h1; exact absurd h1 (sh_ne _)
      · rw [hm] at h1; simpa using h1
theorem nine_sh {n : Nat} (hn : n < 18446744073709551616) (r : List Nat) (h : (sh n).length = 10) : nthB (sh n ++ r) 9 ≤ 1 := by
  have hl := lead_sh n r
  have h1 := val_take (l := sh n ++ r) (k := 9) (by rw [List.length_append]; omega)
  rw [show 9 + 1 = (sh n).length by omega, List.take_left, val_sh] at h1
  have h3 := at_lead (l := sh n ++ r) (by rw [List.length_append]; omega)
  rw [show lead (sh n ++ r) = 9 by omega] at h3
  rw [Nat.mod_eq_of_lt h3] at h1
  rcases Nat.lt_or_ge 1 (nthB (sh n ++ r) 9) with h2 | h2
  · have : 128 ^ 9 * 2 ≤ 128 ^ 9 * nthB (sh n ++ r) 9 := Nat.mul_le_mul_left _ h2
    omega
  · exact h2
theorem rdS_sh {n : Nat} (hn : n < 18446744073709551616) (r : List Nat) : rdS (sh n ++ r) = (n, (sh n).length, 0) := by
  have hl := lead_sh n r
  have h10 := sh_ten hn
  have hs := last_sh n r
  rw [show (sh n).length - 1 = lead (sh n ++ r) by omega] at hs
  rw [rdS_yes (by rw [List.length_append]; omega) (by omega) (fun h => nine_sh hn r (by omega)) (by rcases hs with h | h; · left; omega
                                                                                                    · right; exact h)]
  rw [hl, List.take_left, val_sh]
theorem sh_take : ∀ (k : Nat) (l : List Nat), k < l.length → (∀ j, j < k → 128 ≤ nthB l j) → nthB l k < 128 → (∀ b ∈ l, b < 256) → (k = 0 ∨ nthB l k ≠ 0) → sh (val (l.take (k + 1))) = l.take (k + 1)
  | _, [], h, _, _, _, _ => by simp at h
  | 0, b :: l, _, _, hb, _, _ => by simp only [nthB, List.getD_cons_zero] at hb; simp [val, Nat.mod_eq_of_lt hb, sh_lt hb]
  | k + 1, b :: l, hk, hj, hb, h256, h0 => by
    have hb0 := hj 0 (by omega)
    simp only [nthB, List.getD_cons_zero] at hb0
    have hbl := h256 b (by simp)
    have hnz : nthB l k ≠ 0 := by rcases h0 with h | h; · omega
                                  · simpa [nthB] using h
    have ih := sh_take k l (by simp at hk; omega) (fun j h => by have := hj (j + 1) (by omega); simpa [nthB] using this) (by simpa [nthB] using hb) (fun x hx => h256 x (by simp [hx])) (.inr hnz)
    rw [List.take_succ_cons, val]
    have hv : 1 ≤ val (l.take (k + 1)) := by
      rw [val_take (by simp at hk; omega), Nat.mod_eq_of_lt (by simpa [nthB] using hb)]
      have : 128 ^ k * 1 ≤ 128 ^ k * nthB l k := Nat.mul_le_mul_left _ (by omega)
      have : 1 ≤ 128 ^ k := Nat.pow_pos (by omega)
      omega
    rw [sh_ge (by omega), show (b % 128 + 128 * val (l.take (k + 1))) / 128 = val (l.take (k + 1)) by omega, ih, show (b % 128 + 128 * val (l.take (k + 1))) % 128 + 128 = b by omega]
/-- What was read, put again, is what was read. -/
theorem rdS_ok {l : List Nat} (h256 : ∀ b ∈ l, b < 256) {n s : Nat} (h : rdS l = (n, s, 0)) : n < 18446744073709551616 ∧ s ≤ l.length ∧ l.take s = sh n := by
  unfold rdS at h
  split at h
  · simp at h
  · rename_i h1
    split at h
    · simp at h
    · rename_i h2
      split at h
      · simp at h
      · rename_i h3
        simp only [Prod.mk.injEq, and_true] at h
        obtain ⟨rfl, rfl⟩ := h
        have hl := lead_le l
        have hlt : lead l < l.length := by omega
        have h9 : lead l ≤ 9 := by omega
        refine ⟨val_u64 hlt h9 (fun e => ?_), by omega, ?_⟩
        · rcases Nat.lt_or_ge 1 (nthB l 9) with h5 | h5
          · exact absurd (.inr ⟨e, by omega, h5⟩) h1
          · exact h5
        · symm
          refine sh_take (lead l) l hlt (fun j hj => nth_lead hj) (at_lead hlt) h256 ?_
          rcases Nat.eq_zero_or_pos (lead l) with h5 | h5
          · exact .inl h5
          · right; intro e; exact h3 ⟨h5, e⟩
theorem rdS_len {l : List Nat} {n s e : Nat} (h : rdS l = (n, s, e)) : s ≤ l.length ∧ (e = 0 ∨ (n = 0 ∧ s = 0 ∧ (e = 7 ∨ e = 120))) ∧ (e = 0 → 1 ≤ s) := by
  have hl := lead_le l
  unfold rdS at h
  split at h
  · simp only [Prod.mk.injEq] at h; omega
  · split at h
    · simp only [Prod.mk.injEq] at h; omega
    · split at h
      · simp only [Prod.mk.injEq] at h; omega
      · simp only [Prod.mk.injEq] at h; omega

/-! numbers turned -/
def turnZ (n : Int) : Int := if 0 ≤ n then 2 * n else -2 * n - 1
def backZ (u : Int) : Int := if u % 2 = 0 then u / 2 else -(u / 2) - 1
theorem back_turn (n : Int) : backZ (turnZ n) = n := by unfold backZ turnZ; split <;> split <;> omega
theorem turn_back {u : Int} (h : 0 ≤ u) : turnZ (backZ u) = u := by unfold backZ turnZ; split <;> split <;> omega
theorem turn_lo (n : Int) : 0 ≤ turnZ n := by unfold turnZ; split <;> omega
theorem turn_hi {n : Int} (h0 : -9223372036854775808 ≤ n) (h1 : n ≤ 9223372036854775807) : turnZ n < 18446744073709551616 := by unfold turnZ; split <;> omega
theorem back_bd {u : Int} (h0 : 0 ≤ u) (h1 : u < 18446744073709551616) : -9223372036854775808 ≤ backZ u ∧ backZ u ≤ 9223372036854775807 := by unfold backZ; split <;> omega
theorem turn_near {a b : Int} (h : 0 ≤ a ∧ 0 ≤ b ∧ a ≤ b ∨ a < 0 ∧ b < 0 ∧ b ≤ a) : turnZ a ≤ turnZ b := by unfold turnZ; split <;> split <;> omega
theorem turn_inj (a b : Int) : turnZ a = turnZ b ↔ a = b := ⟨fun h => by have := congrArg backZ h; rwa [back_turn, back_turn] at this, fun h => by rw [h]⟩
end Go.Proofs.Ytcfeijphiallfaa
