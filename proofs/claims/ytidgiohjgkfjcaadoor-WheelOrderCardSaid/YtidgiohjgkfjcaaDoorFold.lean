/- Or, And, Less. -/
import Derived.Test.YtidgiohjgkfjcaaDoorBits
namespace Go.Proofs.YtidgiohjgkfjcaaDoor
open Go.RowKit

/-- A slice of n elements of one cell each reads f 0, .., f (n - 1). -/
def Arr (w : World) (A : Option Addr) (n : Nat) (f : Nat → Value) : Prop := ∀ k, k < n → ∃ b off, A = some ⟨b, off, none⟩ ∧ w.cell? ⟨b, off + k, none⟩ = some (f k)

theorem below_cell {W w1 : World} {B : Nat} (hb : Below B W w1) : (∀ b o, b < B → w1.cell? ⟨b, o, none⟩ = W.cell? ⟨b, o, none⟩) ∧ (∀ b o, b < B → w1.frozen? ⟨b, o, none⟩ = W.frozen? ⟨b, o, none⟩) :=
  ⟨fun b o h => hb.cell (p := ⟨b, o, none⟩) h, fun b o h => hb.frozen (p := ⟨b, o, none⟩) h⟩

/-- The k-th of them. -/
def nth (l : List (BitVec 64)) (k : Nat) : BitVec 64 := l.getD k 0
/-- What they come to, one behind the other. -/
def folds (g : BitVec 64 → BitVec 64 → BitVec 64) : List (BitVec 64) → BitVec 64 → BitVec 64
  | [], m => m
  | x :: l, m => folds g l (g m x)
theorem folds_take (g : BitVec 64 → BitVec 64 → BitVec 64) (l : List (BitVec 64)) (m : BitVec 64) (k : Nat) (h : k < l.length) : folds g (l.take (k + 1)) m = g (folds g (l.take k) m) (nth l k) := by
  induction l generalizing m k with
  | nil => simp at h
  | cons a l ih =>
    cases k with
    | zero => simp [folds, nth]
    | succ k => simp only [List.take_succ_cons, folds]; rw [ih _ _ (by simpa using h)]; rfl

/-- The step of or. -/
def g_or : BitVec 64 → BitVec 64 → BitVec 64 := fun x y => x ||| y
theorem step_or (x y : BitVec 64) (w : World) :
    Calls Tryd.prog 70 #[.int .u64 (U x), .int .u64 (U y)] w fun e w' => e = .returned (.int .u64 (U (g_or x y))) ∧ w = w' := by
  go_enter Tryd.func70, Tryd.ntmps70
  go_wp2
  go_ret
  exact ⟨by show Ending.returned (.int .u64 (bits _ .u64 (U x) (U y))) = _; rw [U_or]; rfl, rfl⟩
set_option maxHeartbeats 400000 in
theorem fold_or (A : Option Addr) (n c : Nat) (xs : List (BitVec 64)) (m : BitVec 64) (w : World) (hx : xs.length = n) (hn : n ≤ maxLen) (hc : Arr w A n (fun k => .int .u64 (U (nth xs k)))) :
    Calls Tryd.prog 69 #[.func (.func 70) #[] #[], .int .u64 (U m), .slice A n c] w fun e w' => e = .returned (.int .u64 (U (folds g_or xs m))) ∧ w = w' := by
  unfold maxLen at hn
  have Hx := Lib.hid hx; clear hx
  go_enter Tryd.func69, Tryd.ntmps69
  go_wp2
  go_loop [1, 11] (fun v i => ∃ k : Nat, k ≤ n ∧ i = .int .i64 k ∧ v = .int .u64 (U (folds g_or (xs.take k) m))) (fun _ i => n - (intOf i).toNat)
  case atStart => exact ⟨0, Nat.zero_le _, rfl, rfl⟩
  case round =>
    obtain ⟨k, hk, rfl, rfl⟩ := hrel
    by_cases hlt : k < n
    · obtain ⟨b, off, rfl, hcell⟩ := hc k hlt
      have H := Lib.hid (folds_take g_or xs m k (by rw [Hx.out]; omega)); clear hc
      dsimp only at hcell
      go_wp2_with (go_at_call 70; refine (step_or _ _ _).mono ?_; rintro e w' ⟨rfl, rfl⟩)
      go_round
      case rel => exact ⟨k + 1, by omega, by go_num, by rw [H.out]⟩
      case measure => simp [intOf]; omega
    · obtain rfl : k = n := by omega
      clear hc
      go_wp2
      go_ret
      exact ⟨by rw [List.take_of_length_le (by rw [Hx.out]; exact Nat.le_refl _)]; rfl, rfl⟩

/-- The step of and. -/
def g_and : BitVec 64 → BitVec 64 → BitVec 64 := fun x y => x &&& y
/-- The step of less. -/
def g_less : BitVec 64 → BitVec 64 → BitVec 64 := fun x y => x &&& ~~~y
theorem step_less (x y : BitVec 64) (w : World) :
    Calls Tryd.prog 71 #[.int .u64 (U x), .int .u64 (U y)] w fun e w' => e = .returned (.int .u64 (U (g_less x y))) ∧ w = w' := by
  go_enter Tryd.func71, Tryd.ntmps71
  go_wp2
  go_ret
  exact ⟨by show Ending.returned (.int .u64 (bits _ .u64 (U x) (U y))) = _; rw [U_andNot]; rfl, rfl⟩
set_option maxHeartbeats 400000 in
theorem fold_less (A : Option Addr) (n c : Nat) (xs : List (BitVec 64)) (m : BitVec 64) (w : World) (hx : xs.length = n) (hn : n ≤ maxLen) (hc : Arr w A n (fun k => .int .u64 (U (nth xs k)))) :
    Calls Tryd.prog 69 #[.func (.func 71) #[] #[], .int .u64 (U m), .slice A n c] w fun e w' => e = .returned (.int .u64 (U (folds g_less xs m))) ∧ w = w' := by
  unfold maxLen at hn
  have Hx := Lib.hid hx; clear hx
  go_enter Tryd.func69, Tryd.ntmps69
  go_wp2
  go_loop [1, 11] (fun v i => ∃ k : Nat, k ≤ n ∧ i = .int .i64 k ∧ v = .int .u64 (U (folds g_less (xs.take k) m))) (fun _ i => n - (intOf i).toNat)
  case atStart => exact ⟨0, Nat.zero_le _, rfl, rfl⟩
  case round =>
    obtain ⟨k, hk, rfl, rfl⟩ := hrel
    by_cases hlt : k < n
    · obtain ⟨b, off, rfl, hcell⟩ := hc k hlt
      have H := Lib.hid (folds_take g_less xs m k (by rw [Hx.out]; omega)); clear hc
      dsimp only at hcell
      go_wp2_with (go_at_call 71; refine (step_less _ _ _).mono ?_; rintro e w' ⟨rfl, rfl⟩)
      go_round
      case rel => exact ⟨k + 1, by omega, by go_num, by rw [H.out]⟩
      case measure => simp [intOf]; omega
    · obtain rfl : k = n := by omega
      clear hc
      go_wp2
      go_ret
      exact ⟨by rw [List.take_of_length_le (by rw [Hx.out]; exact Nat.le_refl _)]; rfl, rfl⟩

theorem or_any (A : Option Addr) (n c : Nat) (xs : List (BitVec 64)) (w : World) (hx : xs.length = n) (hn : n ≤ maxLen) (hc : Arr w A n (fun k => .int .u64 (U (nth xs k)))) :
    Calls Tryd.prog 63 #[.slice A n c] w fun e w' => e = .returned (.int .u64 (U (folds g_or xs 0#64))) ∧ w = w' := by
  have h := fold_or A n c xs 0#64 w hx hn hc
  rw [U_zero] at h
  have H := Lib.hid h; clear h hx hn hc
  go_enter Tryd.func63, Tryd.ntmps63
  go_wp2_with (go_at_call 69; refine H.out.mono ?_; rintro e w' ⟨rfl, rfl⟩)
  go_ret
  exact ⟨rfl, rfl⟩
theorem arr_one (w : World) (t : TypeId) (v : Value) : Arr (w.alloc (.cells #[v] t)) (some ⟨w.heap.size, 0, none⟩) 1 (fun _ => v) := by
  intro k hk
  obtain rfl : k = 0 := by omega
  exact ⟨_, _, rfl, by go_simp⟩
theorem less_any (x y : BitVec 64) (w : World) :
    Calls Tryd.prog 64 #[.int .u64 (U x), .int .u64 (U y)] w fun e w' => e = .returned (.int .u64 (U (x &&& ~~~y))) ∧ Below w.heap.size w w' := by
  have h := fold_less (some ⟨w.heap.size, 0, none⟩) 1 1 [y] x (w.alloc (.cells #[.int .u64 (U y)] 107)) rfl (by decide) (fun k hk => by obtain rfl : k = 0 := (by omega); exact arr_one w _ _ 0 hk)
  have H := Lib.hid h; clear h
  go_enter Tryd.func64, Tryd.ntmps64
  go_wp2_with (go_at_call 69; refine H.out.mono ?_; rintro e w' ⟨rfl, rfl⟩)
  go_ret
  exact ⟨rfl, (Below.refl _ _).alloc (Nat.le_refl _) _⟩
end Go.Proofs.YtidgiohjgkfjcaaDoor
