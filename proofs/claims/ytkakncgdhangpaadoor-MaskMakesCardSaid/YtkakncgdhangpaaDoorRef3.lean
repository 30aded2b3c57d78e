/- The plain answers of layer 1: First, Last. -/
import Derived.Test.YtkakncgdhangpaaDoorRef2
import Derived.Test.YtkakncgdhangpaaDoorLast
import Derived.Test.YtkakncgdhangpaaDoorNextM
namespace Go.Proofs.YtkakncgdhangpaaDoor
open Go.RowKit

def numV (o : Option Nat) : Value := .int .i64 ((o.getD 0 : Nat) : Int)
def isV (o : Option Nat) : Value := .bool o.isSome
theorem some2_is (o : Option Nat) : some2 o = .tuple #[numV o, isV o] := rfl
theorem least_at (x : BitVec 64) (b : Int) (k q : Nat) (hq : (elems x)[k]? = some q) (hp : ∀ j y, j < k → (elems x)[j]? = some y → (y : Int) < b) (hb : b ≤ (q : Int)) : least x b = some q := by
  refine find_prefix (pre := (elems x).take k) (k := q) ?_ (fun y hy => ?_) (by simpa using hb)
  · refine ⟨(elems x).drop (k + 1), ?_⟩
    have h1 : (elems x).take (k + 1) = (elems x).take k ++ [q] := by rw [List.take_add_one, hq]; rfl
    rw [← h1, List.take_append_drop]
  · obtain ⟨j, hj, e⟩ := List.mem_take_iff_getElem.1 hy
    have := hp j y (by omega) (by rw [← e]; exact List.getElem?_eq_getElem _)
    simp; omega
theorem least_none (x : BitVec 64) (b : Int) (hp : ∀ j y, j < (elems x).length → (elems x)[j]? = some y → (y : Int) < b) : least x b = none := by
  refine List.find?_eq_none.2 fun y hy => ?_
  obtain ⟨j, hj, e⟩ := List.mem_iff_getElem.1 hy
  have := hp j y hj (by rw [← e]; exact List.getElem?_eq_getElem _)
  simp; omega
set_option maxRecDepth 100000 in
set_option maxHeartbeats 1000000 in
theorem rfirst_any (x : BitVec 64) (b : Int) (w : World) :
    Calls Tryd.prog 26 #[.int .u64 (U x), .int .i64 b] w fun e w' => e = .returned (some2 (least x b)) ∧ Below w.heap.size w w' := by
  have hlen : (elems x).length ≤ 64 := by rw [pop_eq]; exact pop_le x
  go_enter Tryd.func26, Tryd.ntmps26
  go_wp2_with fail
  refine (rall_any x w).mono ?_; rintro e wA ⟨av, rfl, hav, hbA⟩
  obtain ⟨A, c, rfl, ha⟩ := own_arr0 hav (fun k => .int .i64 (nthI ((elems x).map fun k : Nat => (k : Int)) k)) (fun k hk => nthI_row _ k hk)
  clear hav
  go_wp2
  go_loop [7, 11] (fun _ i => ∃ k : Nat, k ≤ (elems x).length ∧ i = .int .i64 k ∧ ∀ j y, j < k → (elems x)[j]? = some y → (y : Int) < b) (fun _ i => (elems x).length - (intOf i).toNat)
  case atStart => exact ⟨0, by omega, rfl, fun j y h => absurd h (by omega)⟩
  case round =>
    obtain ⟨k, hk, rfl, hp⟩ := hrel
    have Hp := Lib.hid hp; clear hp
    by_cases hlt : k < (elems x).length
    · have hq : (elems x)[k]? = some (elems x)[k] := List.getElem?_eq_getElem hlt
      obtain ⟨g, o, rfl, hc⟩ := ha k hlt
      dsimp only at hc
      rw [nthI_at x k hlt] at hc
      generalize (elems x)[k] = q at hq hc
      clear ha
      have Hq := Lib.hid hq; clear hq
      by_cases hb : b ≤ (q : Int)
      · have hd : decide (b ≤ (q : Int)) = true := by simpa using hb
        have Hl := Lib.hid (least_at x b k q Hq.out Hp.out hb)
        go_wp2
        go_ret2
        exact ⟨by rw [Hl.out]; rfl, hbA⟩
      · have hd : decide (b ≤ (q : Int)) = false := by simpa using hb
        have hb' : (q : Int) < b := by omega
        clear hb
        go_wp2
        go_round
        case rel =>
          refine ⟨k + 1, by omega, by go_num, fun j y hj hy => ?_⟩
          rcases Nat.lt_or_ge j k with h | h
          · exact Hp.out j y h hy
          · obtain rfl : j = k := by omega
            rw [Hq.out] at hy
            cases hy
            exact hb'
        case measure => simp [intOf]; omega
    · have hke : k = (elems x).length := by omega
      have Hl := Lib.hid (least_none x b (fun j y hj => Hp.out j y (by omega)))
      clear ha
      go_wp2
      go_ret2
      exact ⟨by rw [Hl.out]; rfl, hbA⟩

/-! Last -/
def lastUp (x : BitVec 64) (b : Int) (k : Nat) : Option Nat := (((elems x).take k).filter fun y : Nat => decide ((y : Int) ≤ b)).getLast?
theorem lastUp_yes (x : BitVec 64) (b : Int) (k q : Nat) (hq : (elems x)[k]? = some q) (h : (q : Int) ≤ b) : lastUp x b (k + 1) = some q := by
  unfold lastUp; rw [List.take_add_one, hq, List.filter_append]; simp [h]
theorem lastUp_no (x : BitVec 64) (b : Int) (k q : Nat) (hq : (elems x)[k]? = some q) (h : b < (q : Int)) : lastUp x b (k + 1) = lastUp x b k := by
  unfold lastUp; rw [List.take_add_one, hq, List.filter_append]
  have : ¬ (q : Int) ≤ b := by omega
  simp [this]
theorem filter_while : ∀ (l : List Nat) (b : Int), l.Pairwise (· < ·) → l.filter (fun y : Nat => decide ((y : Int) ≤ b)) = l.takeWhile (fun y : Nat => decide ((y : Int) ≤ b))
  | [], _, _ => rfl
  | a :: l, b, hs => by
    rw [List.filter_cons, List.takeWhile_cons]
    by_cases h : (a : Int) ≤ b
    · simp only [h, decide_true, if_true]
      rw [filter_while l b hs.of_cons]
    · simp only [h, decide_false]
      rw [if_neg (by simp), if_neg (by simp)]
      rw [List.filter_eq_nil_iff]
      intro y hy
      have : a < y := List.rel_of_pairwise_cons hs hy
      simp; omega
theorem lastUp_end (x : BitVec 64) (b : Int) : lastUp x b (elems x).length = great x b := by
  unfold lastUp great
  rw [List.take_length, filter_while _ _ (elems_sorted x)]
set_option maxRecDepth 100000 in
set_option maxHeartbeats 1000000 in
theorem rlast_any (x : BitVec 64) (b : Int) (w : World) :
    Calls Tryd.prog 27 #[.int .u64 (U x), .int .i64 b] w fun e w' => e = .returned (some2 (great x b)) ∧ Below w.heap.size w w' := by
  have hlen : (elems x).length ≤ 64 := by rw [pop_eq]; exact pop_le x
  go_enter Tryd.func27, Tryd.ntmps27
  go_wp2_with fail
  refine (rall_any x w).mono ?_; rintro e wA ⟨av, rfl, hav, hbA⟩
  obtain ⟨A, c, rfl, ha⟩ := own_arr0 hav (fun k => .int .i64 (nthI ((elems x).map fun k : Nat => (k : Int)) k)) (fun k hk => nthI_row _ k hk)
  clear hav
  go_wp2
  go_loop [6, 7, 13] (fun nv ov i => ∃ k : Nat, k ≤ (elems x).length ∧ i = .int .i64 k ∧ nv = numV (lastUp x b k) ∧ ov = isV (lastUp x b k)) (fun _ _ i => (elems x).length - (intOf i).toNat)
  case atStart => exact ⟨0, by omega, rfl, rfl, rfl⟩
  case round =>
    obtain ⟨k, hk, rfl, rfl, rfl⟩ := hrel
    by_cases hlt : k < (elems x).length
    · have hq : (elems x)[k]? = some (elems x)[k] := List.getElem?_eq_getElem hlt
      obtain ⟨g, o, rfl, hc⟩ := ha k hlt
      dsimp only at hc
      rw [nthI_at x k hlt] at hc
      generalize (elems x)[k] = q at hq hc
      clear ha
      have Hq := Lib.hid hq; clear hq
      by_cases hb : (q : Int) ≤ b
      · have hd : decide ((q : Int) ≤ b) = true := by simpa using hb
        have Hl := Lib.hid (lastUp_yes x b k q Hq.out hb)
        go_wp2
        go_round
        case rel => exact ⟨k + 1, by omega, by go_num, by rw [Hl.out]; rfl, by rw [Hl.out]; rfl⟩
        case measure => simp [intOf]; omega
      · have hd : decide ((q : Int) ≤ b) = false := by simpa using hb
        have Hl := Lib.hid (lastUp_no x b k q Hq.out (by omega))
        clear hb
        go_wp2
        go_round
        case rel => exact ⟨k + 1, by omega, by go_num, by rw [Hl.out], by rw [Hl.out]⟩
        case measure => simp [intOf]; omega
    · have hke : k = (elems x).length := by omega
      have Hl := Lib.hid (lastUp_end x b)
      have Hk := Lib.hid hke; clear hke
      clear ha
      go_wp2
      go_ret2
      exact ⟨by rw [← Hl.out, ← Hk.out]; rfl, hbA⟩
end Go.Proofs.YtkakncgdhangpaaDoor
