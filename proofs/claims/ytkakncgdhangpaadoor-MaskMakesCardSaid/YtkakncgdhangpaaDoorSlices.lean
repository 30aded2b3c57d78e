/- slices.Equal, Reverse, IsSorted at []int. -/
import Derived.Test.YtkakncgdhangpaaDoorAll
import Derived.Test.YtkakncgdhangpaaDoorRuns
import Derived.Deep.QuietTactic
import Derived.BigQuiet
import Derived.RegionTactic
import Derived.ChangeAlike
namespace Go.Proofs.YtkakncgdhangpaaDoor
open Go.RowKit

def int1 (z : Int) : Value := .int .i64 z
/-- Slice A of n reads f's numbers. -/
def ArrI (w : World) (A : Option Addr) (n : Nat) (f : Nat → Int) : Prop := Arr w A n (fun k => .int .i64 (f k))

set_option maxHeartbeats 1000000 in
theorem equal_ints (A B : Option Addr) (n c d : Nat) (f : Nat → Int) (w : World) (hn : n ≤ maxLen) (ha : ArrI w A n f) (hb : ArrI w B n f) :
    Calls Tryd.prog 14 #[.slice A n c, .slice B n d] w fun e w' => e = .returned (.bool true) ∧ ∃ q, w' = w.drewN q := by
  unfold maxLen at hn
  go_enter Tryd.func14, Tryd.ntmps14
  go_wp2
  go_loopw [13] (fun i wr => ∃ k q : Nat, k ≤ n ∧ i = .int .i64 k ∧ wr = w.drewN q) (fun i _ => n - (intOf i).toNat)
  case atStart => exact ⟨0, 0, Nat.zero_le _, rfl, rfl⟩
  case round =>
    obtain ⟨k, q, hk, rfl, rfl⟩ := hrel
    by_cases hlt : k < n
    · obtain ⟨b1, o1, rfl, c1⟩ := ha k hlt
      obtain ⟨b2, o2, rfl, c2⟩ := hb k hlt
      clear ha hb
      dsimp only at c1 c2
      generalize f k = v at *
      have h0 : (0 : Int) ≤ (k : Int) := by omega
      have h1 : (k : Int) < (n : Int) := by omega
      go_wp2
      go_quiet (fail)
      go_wp2
      go_roundw
      case rel => exact ⟨k + 1, _, by omega, by go_num, rfl⟩
      case measure => simp [intOf]; omega
    · clear ha hb
      go_wp2
      go_ret
      exact ⟨rfl, q, rfl⟩

theorem grown_drew {a w : World} {row : Option Nat} (h : a.grownBy w row) : a.grownBy w.drew row := ⟨h.os, h.tape, h.output, h.size, h.block⟩
theorem less_no (a b : Int) (w : World) (h : b ≤ a) :
    Calls Tryd.prog 48 #[.int .i64 a, .int .i64 b] w fun e w' => e = .returned (.bool false) ∧ w' = w := by
  have hd : decide (a < b) = false := by simp; omega
  go_enter Tryd.func48, Tryd.ntmps48
  go_wp2_with go_in
  go_ret
  exact ⟨rfl, rfl⟩

set_option maxHeartbeats 1000000 in
theorem sorted_ints (A : Option Addr) (n c : Nat) (f : Nat → Int) (w : World) (hn : n ≤ maxLen) (ha : ArrI w A n f) (hs : ∀ k, k + 1 < n → f k ≤ f (k + 1)) :
    Calls Tryd.prog 38 #[.slice A n c] w fun e w' => e = .returned (.bool true) ∧ ∃ q, w' = w.drewN q := by
  unfold maxLen at hn
  go_enter Tryd.func38, Tryd.ntmps38
  go_wp2
  go_loopw [3] (fun i wr => ∃ (k : Int) (q : Nat), k ≤ (n : Int) - 1 ∧ -1 ≤ k ∧ i = .int .i64 k ∧ wr = w.drewN q) (fun i _ => (intOf i).toNat)
  case atStart => exact ⟨(n : Int) - 1, 0, by omega, by omega, rfl, rfl⟩
  case round =>
    obtain ⟨k, q, hk, hk1, rfl, hw⟩ := hrel
    by_cases hlt : 0 < k
    · obtain ⟨j, rfl⟩ : ∃ j : Nat, k = ((j : Nat) : Int) + 1 := ⟨(k - 1).toNat, by omega⟩
      obtain ⟨b1, o1, rfl, c1⟩ := ha (j + 1) (by omega)
      obtain ⟨b2, o2, e2, c2⟩ := ha j (by omega)
      injection e2 with e2
      injection e2 with e3 e4
      subst e3; subst e4
      have hle := hs j (by omega)
      clear ha hs
      dsimp only at c1 c2
      have d1 : wr.cell? ⟨b1, o1 + (j + 1), none⟩ = some (.int .i64 (f (j + 1))) := by rw [hw]; exact c1
      have d2 : wr.cell? ⟨b1, o1 + j, none⟩ = some (.int .i64 (f j)) := by rw [hw]; exact c2
      have Hw := Lib.hid hw; clear hw c1 c2
      generalize f (j + 1) = v at *
      generalize f j = u at *
      have hno : u ≤ v := by omega
      have h0 : (0 : Int) ≤ (j : Int) + 1 := by omega
      have h1 : (j : Int) + 1 < (n : Int) := by omega
      have h2 : (0 : Int) ≤ (j : Int) := by omega
      have h3 : (j : Int) < (n : Int) := by omega
      have hw1 : IntKind.i64.wrap (j : Int) = (j : Int) := by rw [IntKind.wrap_i64]; omega
      go_wp2
      go_quiet ((go_at_call 48; exact Calls.quiet_of_same (less_no v u _ hno)))
      go_wp2
      go_roundw
      case rel => exact ⟨(j : Int), _, by omega, by omega, by simp, by rw [Hw.out, World.drewN_drewN]⟩
      case measure => simp [intOf]
    · clear ha hs
      go_wp2
      go_ret
      exact ⟨rfl, q, rfl⟩

/-! Reverse -/
def nthZ (zs : List Int) (k : Nat) : Int := zs.getD k 0
/-- Behind i rounds: the first i and the last i have changed their places. -/
def rv (zs : List Int) (i : Nat) : List Int := (List.range zs.length).map fun k => if k < i ∨ zs.length - i ≤ k then nthZ zs (zs.length - 1 - k) else nthZ zs k
theorem rv_len (zs : List Int) (i : Nat) : (rv zs i).length = zs.length := by simp [rv]
theorem rv_at (zs : List Int) (i k : Nat) (hk : k < zs.length) : (rv zs i)[k]? = some (if k < i ∨ zs.length - i ≤ k then nthZ zs (zs.length - 1 - k) else nthZ zs k) := by
  unfold rv; rw [List.getElem?_map, List.getElem?_range hk]; rfl
theorem rv_zero (zs : List Int) : rv zs 0 = zs := by
  apply List.ext_getElem?
  intro k
  by_cases hk : k < zs.length
  · rw [rv_at zs 0 k hk, if_neg (by omega)]
    unfold nthZ
    rw [List.getD_eq_getElem?_getD, List.getElem?_eq_getElem hk]; rfl
  · rw [List.getElem?_eq_none (by rw [rv_len]; omega), List.getElem?_eq_none (by omega)]
theorem rv_end (zs : List Int) (i : Nat) (h : zs.length ≤ 2 * i + 1) : rv zs i = zs.reverse := by
  apply List.ext_getElem?
  intro k
  by_cases hk : k < zs.length
  · rw [rv_at zs i k hk, List.getElem?_reverse hk]
    have hq : zs.length - 1 - k < zs.length := by omega
    rw [List.getElem?_eq_getElem hq]
    have e : nthZ zs (zs.length - 1 - k) = zs[zs.length - 1 - k] := by unfold nthZ; rw [List.getD_eq_getElem?_getD, List.getElem?_eq_getElem hq]; rfl
    split
    · rw [e]
    · have : k = zs.length - 1 - k := by omega
      rw [← e, ← this]
  · rw [List.getElem?_eq_none (by rw [rv_len]; omega), List.getElem?_eq_none (by simp; omega)]
theorem rv_step (zs : List Int) (i j : Nat) (hij : i < j) (hj : i + j + 1 = zs.length) : ((rv zs i).set i (nthZ zs j)).set j (nthZ zs i) = rv zs (i + 1) := by
  apply List.ext_getElem?
  intro k
  by_cases hk : k < zs.length
  · rw [List.getElem?_set, List.getElem?_set, rv_at zs _ k hk, rv_at zs _ k hk]
    simp only [List.length_set, rv_len]
    by_cases h1 : j = k
    · subst h1
      rw [if_pos rfl, if_pos hk, if_pos (by omega), show zs.length - 1 - j = i by omega]
    · rw [if_neg h1]
      by_cases h2 : i = k
      · subst h2
        rw [if_pos rfl, if_pos hk, if_pos (by omega), show zs.length - 1 - i = j by omega]
      · rw [if_neg h2]
        by_cases h3 : k < i ∨ zs.length - i ≤ k
        · rw [if_pos h3, if_pos (by omega)]
        · rw [if_neg h3, if_neg (by omega)]
  · rw [List.getElem?_eq_none (by simp [rv_len]; omega), List.getElem?_eq_none (by rw [rv_len]; omega)]
theorem rv_mid (zs : List Int) (i k : Nat) (h1 : i ≤ k) (h2 : k < zs.length - i) : (rv zs i)[k]? = some (nthZ zs k) := by
  rw [rv_at zs i k (by omega), if_neg (by omega)]

set_option maxRecDepth 100000 in
set_option maxHeartbeats 2000000 in
theorem reverse_ints (base n cap g : Nat) (zs : List Int) (w : World) (hz : zs.length = n) (hn : n ≤ maxLen) (ho : w.ownsRow base 3 1 (.slice (some ⟨g, 0, none⟩) n cap) n (zs.map int1)) :
    Calls Tryd.prog 37 #[.slice (some ⟨g, 0, none⟩) n cap] w fun e w' => e = .returned (.tuple #[]) ∧ w'.ownsRow base 3 1 (.slice (some ⟨g, 0, none⟩) n cap) n (zs.reverse.map int1) ∧ w.grownBy w' (some g) := by
  unfold maxLen at hn
  go_enter Tryd.func37, Tryd.ntmps37
  go_wp2
  go_loopw [2, 3] (fun s2 s3 wr => ∃ i : Nat, s2 = .int .i64 i ∧ s3 = .int .i64 ((n : Int) - 1 - i) ∧ 2 * i ≤ n ∧ wr.ownsRow base 3 1 (.slice (some ⟨g, 0, none⟩) n cap) n ((rv zs i).map int1) ∧ w.grownBy wr (some g)) (fun s2 _ _ => n - (intOf s2).toNat)
  case atStart => exact ⟨0, rfl, by simp, by omega, by rw [rv_zero]; exact ho, World.grownBy.refl _ _⟩
  case round =>
    obtain ⟨i, rfl, rfl, hi, hr, hgr⟩ := hrel
    by_cases hlt : (i : Int) < (n : Int) - 1 - i
    · obtain ⟨j, hj⟩ : ∃ j : Nat, (n : Int) - 1 - i = ((j : Nat) : Int) := ⟨n - 1 - i, by omega⟩
      have hij : i < j := by omega
      have c1 := hr.cellAt i (by omega)
      have c2 := hr.cellAt j (by omega)
      rw [List.getElem?_map, rv_mid zs i i (by omega) (by omega)] at c1
      rw [List.getElem?_map, rv_mid zs i j (by omega) (by omega)] at c2
      simp only [Option.map_some, int1] at c1 c2
      have f1 := hr.frozenAt i
      have f2 := hr.frozenAt j
      have Hst := Lib.hid (rv_step zs i j hij (by omega))
      have H1 := Lib.hid hr; clear hr
      have H2 := Lib.hid hgr; clear hgr
      have Hz := Lib.hid hz; clear hz
      have Hj := Lib.hid hj
      rw [hj] at hlt ⊢
      clear hj ho
      generalize nthZ zs i = u at *
      generalize nthZ zs j = v at *
      have h0 : (0 : Int) ≤ (i : Int) := by omega
      have h1 : (i : Int) < (n : Int) := by have := Hj.out; omega
      have h2 : (0 : Int) ≤ (j : Int) := by omega
      have h3 : (j : Int) < (n : Int) := by have := Hj.out; omega
      go_wp2
      go_region
      all_goals
        go_wp2
        go_roundw
        case rel =>
          have s1 := H1.out.stored i (int1 v)
          have s2 := s1.1.stored j (int1 u)
          have Hs := Hst.out
          refine ⟨i + 1, by go_num, congrArg (Value.int .i64) (by have := Hj.out; omega), by have := Hj.out; omega, ?_, grown_drew ((H2.out.trans s1.2).trans s2.2)⟩
          rw [← Hs, List.map_set, List.map_set]
          exact s2.1
        case measure => have := Hj.out; simp [intOf]; omega
    · go_wp2
      go_end0
      exact ⟨rfl, by rw [← List.map_reverse, ← rv_end zs i (by omega)]; exact hr, hgr⟩

theorem reverse_none (c : Nat) (w : World) :
    Calls Tryd.prog 37 #[.slice none 0 c] w fun e w' => e = .returned (.tuple #[]) ∧ w' = w := by
  go_enter Tryd.func37, Tryd.ntmps37
  go_wp2
  go_loopw [2, 3] (fun s2 s3 wr => s2 = .int .i64 0 ∧ s3 = .int .i64 (-1) ∧ wr = w) (fun _ _ _ => 0)
  case atStart => exact ⟨rfl, rfl, rfl⟩
  case round =>
    obtain ⟨rfl, rfl, rfl⟩ := hrel
    go_wp2
    go_end0
    exact ⟨rfl, rfl⟩
theorem reverse_any (base n : Nat) (v : Value) (zs : List Int) (w : World) (hz : zs.length = n) (hn : n ≤ maxLen) (ho : w.ownsRow base 3 1 v n (zs.map int1)) :
    Calls Tryd.prog 37 #[v] w fun e w' => e = .returned (.tuple #[]) ∧ w'.ownsRow base 3 1 v n (zs.reverse.map int1) ∧ w.grownBy w' v.ownBlock := by
  rcases ho.2 with ⟨rfl, rfl⟩ | ⟨g, cap, cur, rfl, _⟩
  · refine (reverse_none 0 w).mono ?_
    rintro e w' ⟨rfl, rfl⟩
    have : zs = [] := List.length_eq_zero_iff.1 hz
    subst this
    exact ⟨rfl, ho, World.grownBy.refl _ _⟩
  · exact reverse_ints base n cap g zs w hz hn ho
end Go.Proofs.YtkakncgdhangpaaDoor
