/- Three rows put together, plain. -/
import Derived.Test.YtcfeijphiallfaaCConcat
namespace Go.Proofs.Ytcfeijphiallfaa
open Go.RowKit

theorem xor3_len {n : Nat} : ∀ {a b c : List Nat}, a.length = n → b.length = n → c.length = n → (xor3 a b c).length = n := by
  induction n with
  | zero =>
    intro a b c ha hb hc
    rw [List.length_eq_zero_iff.1 ha, List.length_eq_zero_iff.1 hb, List.length_eq_zero_iff.1 hc]; rfl
  | succ n ih =>
    intro a b c ha hb hc
    match a, b, c, ha, hb, hc with
    | p :: a, q :: b, r :: c, ha, hb, hc =>
      unfold xor3
      rw [List.length_cons, ih (by simpa using ha) (by simpa using hb) (by simpa using hc)]
theorem xor3_at {n : Nat} : ∀ {a b c : List Nat}, a.length = n → b.length = n → c.length = n → ∀ j, j < n → nthB (xor3 a b c) j = nthB a j ^^^ nthB b j ^^^ nthB c j := by
  induction n with
  | zero => intro a b c _ _ _ j hj; omega
  | succ n ih =>
    intro a b c ha hb hc j hj
    match a, b, c, ha, hb, hc with
    | p :: a, q :: b, r :: c, ha, hb, hc =>
      unfold xor3
      cases j with
      | zero => rfl
      | succ j => exact ih (by simpa using ha) (by simpa using hb) (by simpa using hc) j (by omega)
theorem sum_xor3 {n : Nat} {a b c : List Nat} (ha : a.length = n) (hb : b.length = n) (hc : c.length = n) : sumOf (xor3 a b c) = sumOf a ^^^ sumOf b ^^^ sumOf c := by
  have h := raw_xor3 (x := 4294967295) (y := 4294967295) (z := 4294967295) ha hb hc
  rw [Nat.xor_self, Nat.zero_xor] at h
  unfold sumOf
  rw [h]
  have e : ∀ x y z m : Nat, x ^^^ m ^^^ (y ^^^ m) ^^^ (z ^^^ m) = x ^^^ y ^^^ z ^^^ m ^^^ (m ^^^ m) := fun x y z m => by ac_rfl
  rw [e, Nat.xor_self, Nat.xor_zero]
theorem nthB_ext {a b : List Nat} {n : Nat} (ha : a.length = n) (hb : b.length = n) (h : ∀ j, j < n → nthB a j = nthB b j) : a = b := by
  apply List.ext_getElem (by omega)
  intro j h1 h2
  rw [← nthB_get a j h1, ← nthB_get b j h2]
  exact h j (by omega)
/-- Bytes that are, one by one, three rows' put together. -/
theorem three_sum {l a b c : List Nat} {n : Nat} (hl : l.length = n) (ha : n ≤ a.length) (hb : n ≤ b.length) (hc : n ≤ c.length) (h : ∀ j, j < n → nthB l j = nthB a j ^^^ nthB b j ^^^ nthB c j) : sumOf l = sumOf (a.take n) ^^^ sumOf (b.take n) ^^^ sumOf (c.take n) := by
  have la : (a.take n).length = n := by rw [List.length_take]; omega
  have lb : (b.take n).length = n := by rw [List.length_take]; omega
  have lc : (c.take n).length = n := by rw [List.length_take]; omega
  rw [← sum_xor3 la lb lc]
  congr 1
  refine nthB_ext hl (xor3_len la lb lc) (fun j hj => ?_)
  rw [h j hj, xor3_at la lb lc j hj, nthB_take _ _ _ hj, nthB_take _ _ _ hj, nthB_take _ _ _ hj]
theorem cat3 (L : Nat → List Nat) : catB L 3 = L 0 ++ L 1 ++ L 2 := by
  rw [catB_succ, catB_succ, catB_succ]; simp [catB]
theorem nthB_set_eq (l : List Nat) (i x : Nat) (h : i < l.length) : nthB (l.set i x) i = x := by
  rw [nthB_get _ _ (by simpa using h)]; simp
theorem nthB_set_ne (l : List Nat) (i j x : Nat) (h : i ≠ j) : nthB (l.set i x) j = nthB l j := by
  unfold nthB; rw [List.getD_eq_getElem?_getD, List.getD_eq_getElem?_getD, List.getElem?_set_ne h]
theorem min_three (ts : Array TypeId) (t : TypeId) (x y z : Nat) : ∃ n : Nat, n ≤ x ∧ n ≤ y ∧ n ≤ z ∧ ∀ w : World, (Builtin.min_ ts t #[.int .i64 (x : Int), .int .i64 (y : Int), .int .i64 (z : Int)]).run Try.prog w = .ok (.int .i64 (n : Int)) w := by
  refine ⟨min x (min y z), by omega, by omega, by omega, fun w => ?_⟩
  have e : (if (z : Int) < (if (y : Int) < (x : Int) then (y : Int) else (x : Int)) then (z : Int) else (if (y : Int) < (x : Int) then (y : Int) else (x : Int))) = ((min x (min y z) : Nat) : Int) := by
    split <;> split <;> omega
  rw [← e]
  simp [Builtin.min_, Builtin.min2]
end Go.Proofs.Ytcfeijphiallfaa
