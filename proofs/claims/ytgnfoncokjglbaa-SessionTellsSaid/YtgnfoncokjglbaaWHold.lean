/- Whether numbers are within limits, and rise: walked, for three kinds. -/
import Derived.Test.YtgnfoncokjglbaaWMem
namespace Go.Proofs.Ytgnfoncokjglbaa
open Go.RowKit

theorem rise_take {lo hi : Int} {l : List Int} (h : RiseW lo hi l) (k : Nat) : RiseW lo hi (l.take k) := by
  have ht : ∀ (i : Nat) x, (l.take k)[i]? = some x → l[i]? = some x := fun i x hx => by
    rw [List.getElem?_take] at hx
    split at hx
    · exact hx
    · cases hx
  exact ⟨fun i x hx => h.1 i x (ht i x hx), fun i x y hx hy => h.2 i x y (ht i x hx) (ht _ y hy)⟩
theorem rise_next {lo hi x : Int} {l : List Int} {k : Nat} (h : RiseW lo hi (l.take k)) (hx : l[k]? = some x) (h1 : lo ≤ x) (h2 : x ≤ hi) (h3 : ∀ y, 0 < k → l[k - 1]? = some y → y < x) : RiseW lo hi (l.take (k + 1)) := by
  have hg : ∀ (i : Nat) z, (l.take (k + 1))[i]? = some z → (i < k ∧ (l.take k)[i]? = some z) ∨ (i = k ∧ z = x) := fun i z hz => by
    rw [List.getElem?_take] at hz
    split at hz
    · by_cases e : i = k
      · subst e
        rw [hx] at hz
        cases hz
        exact .inr ⟨rfl, rfl⟩
      · refine .inl ⟨by omega, ?_⟩
        rw [List.getElem?_take, if_pos (by omega)]
        exact hz
    · cases hz
  refine ⟨fun i z hz => ?_, fun i a b ha hb => ?_⟩
  · rcases hg i z hz with ⟨_, h'⟩ | ⟨_, rfl⟩
    · exact h.1 i z h'
    · exact ⟨h1, h2⟩
  · rcases hg i a ha with ⟨hi', h'⟩ | ⟨e, rfl⟩
    · rcases hg (i + 1) b hb with ⟨_, h''⟩ | ⟨e, rfl⟩
      · exact h.2 i a b h' h''
      · rw [List.getElem?_take, if_pos hi'] at h'
        exact h3 a (by omega) (by rw [← e, Nat.add_sub_cancel]; exact h')
    · rcases hg (i + 1) b hb with ⟨hlt, _⟩ | ⟨e2, _⟩ <;> omega
theorem rise_last {lo hi x : Int} {l : List Int} {k : Nat} (h : RiseW lo hi (l.take (k + 1))) (hx : l[k]? = some x) : lo ≤ x ∧ x ≤ hi ∧ (∀ y, 0 < k → l[k - 1]? = some y → y < x) := by
  have hk : (l.take (k + 1))[k]? = some x := by rw [List.getElem?_take, if_pos (by omega)]; exact hx
  obtain ⟨a, b⟩ := h.1 k x hk
  refine ⟨a, b, fun y h0 hy => ?_⟩
  exact h.2 (k - 1) y x (by rw [List.getElem?_take, if_pos (by omega)]; exact hy) (by rw [show k - 1 + 1 = k by omega]; exact hk)
set_option maxRecDepth 100000 in
set_option maxHeartbeats 1000000 in
theorem hold_u32 (lo hi : Int) (A : Option Addr) (n c : Nat) (l : List Int) (w : World) (h : NumR w .u32 A n c l) :
    Calls Try.prog 31 #[.int .u32 lo, .int .u32 hi, .slice A n c] w fun x w' => x = .returned (.bool (holdW lo hi l)) ∧ w' = w := by
  have HH := Lib.hid h; have HM := Lib.hid h.len
  have htop : n ≤ maxLen := Nat.le_trans h.cap h.top
  unfold maxLen at htop
  clear h
  go_enter Try.func31, Try.ntmps31
  go_wp2_with fail
  go_loopw [7, 8, 11] (fun _ _ i wr => ∃ k : Nat, k ≤ n ∧ i = .int .i64 (k : Int) ∧ wr = w ∧ Hid (RiseW lo hi (l.take k))) (fun _ _ i _ => n - (intOf i).toNat)
  case atStart => exact ⟨0, by omega, rfl, rfl, Lib.hid ⟨fun q x hq => by simp at hq, fun q x y hq => by simp at hq⟩⟩
  case round =>
    obtain ⟨k, hk, rfl, rfl, HA⟩ := hrel
    by_cases hlt : k < n
    · obtain ⟨x, hx⟩ : ∃ x, l[k]? = some x := ⟨_, List.getElem?_eq_getElem (by have := HM.out; omega)⟩
      obtain ⟨g, o, rfl, hg, c0⟩ := HH.out.at_ hx
      have HX := Lib.hid hx
      clear hx
      have HNO : Hid (¬ RiseW lo hi (l.take (k + 1)) → holdW lo hi l = false) := Lib.hid (fun hn => holdW_no (fun hr => hn (rise_take hr _)))
      have HST : Hid (lo ≤ x → x ≤ hi → (∀ y, 0 < k → l[k - 1]? = some y → y < x) → RiseW lo hi (l.take (k + 1))) := Lib.hid (fun h1 h2 h3 => rise_next HA.out HX.out h1 h2 h3)
      have HOF : Hid (RiseW lo hi (l.take (k + 1)) → lo ≤ x ∧ x ≤ hi ∧ (∀ y, 0 < k → l[k - 1]? = some y → y < x)) := Lib.hid (fun h => rise_last h HX.out)
      have i0 : (0 : Int) ≤ (k : Int) := by omega
      have i1 : (k : Int) < (n : Int) := by omega
      by_cases h1 : x < lo
      · have hd : decide (x < lo) = true := decide_eq_true h1
        have HZ := Lib.hid (HNO.out (fun h => by have := (HOF.out h).1; omega))
        go_wp2_with fail
        go_ret
        exact ⟨by rw [HZ.out]; try rfl, rfl⟩
      · have hd : decide (x < lo) = false := decide_eq_false h1
        by_cases h2 : hi < x
        · have hd2 : decide (hi < x) = true := decide_eq_true h2
          have HZ := Lib.hid (HNO.out (fun h => by have := (HOF.out h).2.1; omega))
          go_wp2_with fail
          go_ret
          exact ⟨by rw [HZ.out]; try rfl, rfl⟩
        · have hd2 : decide (hi < x) = false := decide_eq_false h2
          by_cases hk0 : 0 < k
          · obtain ⟨y, hy⟩ : ∃ y, l[k - 1]? = some y := ⟨_, List.getElem?_eq_getElem (by have := HM.out; omega)⟩
            obtain ⟨g', o', he, _, c1⟩ := HH.out.at_ hy
            cases he
            have HY := Lib.hid hy
            clear hy
            have hz1 : decide ((0 : Int) < (k : Int)) = true := decide_eq_true (by omega)
            have hz2 : decide (0 < k) = true := decide_eq_true (by omega)
            obtain ⟨j, rfl⟩ : ∃ j, k = j + 1 := ⟨k - 1, by omega⟩
            rw [Nat.add_sub_cancel] at c1
            have e1 : (((j + 1 : Nat) : Int) - 1) = (j : Int) := by omega
            have e2 : wrap64 (((j + 1 : Nat) : Int) - 1) = (j : Int) := by unfold wrap64; omega
            have e3 : wrap64 ((j : Int) + 1 - 1) = (j : Int) := by unfold wrap64; omega
            have j0 : (0 : Int) ≤ (j : Int) := by omega
            have j1 : (j : Int) < (n : Int) := by omega
            by_cases h3 : x ≤ y
            · have hd3 : decide (x ≤ y) = true := decide_eq_true h3
              have HZ := Lib.hid (HNO.out (fun h => by have := (HOF.out h).2.2 y (by omega) HY.out; omega))
              go_wp2_with fail
              go_ret
              exact ⟨by rw [HZ.out]; try rfl, rfl⟩
            · have hd3 : decide (x ≤ y) = false := decide_eq_false h3
              have HN := Lib.hid (HST.out (by omega) (by omega) (fun y' _ hy' => by
                have := HY.out.symm.trans hy'
                cases this
                omega))
              go_wp2_with fail
              go_roundw
              case rel => exact ⟨j + 1 + 1, by omega, by go_num, by first | trivial | rfl, HN⟩
              case measure => simp [intOf]; omega
          · have hz1 : decide ((0 : Int) < (k : Int)) = false := decide_eq_false (by omega)
            have hz2 : decide (0 < k) = false := decide_eq_false (by omega)
            have HN := Lib.hid (HST.out (by omega) (by omega) (fun y' h _ => absurd h hk0))
            go_wp2_with fail
            go_roundw
            case rel => exact ⟨k + 1, by omega, by go_num, by first | trivial | rfl, HN⟩
            case measure => simp [intOf]; omega
    · have HZ : Hid (holdW lo hi l = true) := Lib.hid (holdW_yes.2 (by
        have := HA.out
        rwa [List.take_of_length_le (by have := HM.out; omega)] at this))
      go_wp2_with fail
      go_ret
      exact ⟨by rw [HZ.out]; try rfl, rfl⟩
set_option maxRecDepth 100000 in
set_option maxHeartbeats 1000000 in
theorem hold_u64 (lo hi : Int) (A : Option Addr) (n c : Nat) (l : List Int) (w : World) (h : NumR w .u64 A n c l) :
    Calls Try.prog 26 #[.int .u64 lo, .int .u64 hi, .slice A n c] w fun x w' => x = .returned (.bool (holdW lo hi l)) ∧ w' = w := by
  have HH := Lib.hid h; have HM := Lib.hid h.len
  have htop : n ≤ maxLen := Nat.le_trans h.cap h.top
  unfold maxLen at htop
  clear h
  go_enter Try.func26, Try.ntmps26
  go_wp2_with fail
  go_loopw [7, 8, 11] (fun _ _ i wr => ∃ k : Nat, k ≤ n ∧ i = .int .i64 (k : Int) ∧ wr = w ∧ Hid (RiseW lo hi (l.take k))) (fun _ _ i _ => n - (intOf i).toNat)
  case atStart => exact ⟨0, by omega, rfl, rfl, Lib.hid ⟨fun q x hq => by simp at hq, fun q x y hq => by simp at hq⟩⟩
  case round =>
    obtain ⟨k, hk, rfl, rfl, HA⟩ := hrel
    by_cases hlt : k < n
    · obtain ⟨x, hx⟩ : ∃ x, l[k]? = some x := ⟨_, List.getElem?_eq_getElem (by have := HM.out; omega)⟩
      obtain ⟨g, o, rfl, hg, c0⟩ := HH.out.at_ hx
      have HX := Lib.hid hx
      clear hx
      have HNO : Hid (¬ RiseW lo hi (l.take (k + 1)) → holdW lo hi l = false) := Lib.hid (fun hn => holdW_no (fun hr => hn (rise_take hr _)))
      have HST : Hid (lo ≤ x → x ≤ hi → (∀ y, 0 < k → l[k - 1]? = some y → y < x) → RiseW lo hi (l.take (k + 1))) := Lib.hid (fun h1 h2 h3 => rise_next HA.out HX.out h1 h2 h3)
      have HOF : Hid (RiseW lo hi (l.take (k + 1)) → lo ≤ x ∧ x ≤ hi ∧ (∀ y, 0 < k → l[k - 1]? = some y → y < x)) := Lib.hid (fun h => rise_last h HX.out)
      have i0 : (0 : Int) ≤ (k : Int) := by omega
      have i1 : (k : Int) < (n : Int) := by omega
      by_cases h1 : x < lo
      · have hd : decide (x < lo) = true := decide_eq_true h1
        have HZ := Lib.hid (HNO.out (fun h => by have := (HOF.out h).1; omega))
        go_wp2_with fail
        go_ret
        exact ⟨by rw [HZ.out]; try rfl, rfl⟩
      · have hd : decide (x < lo) = false := decide_eq_false h1
        by_cases h2 : hi < x
        · have hd2 : decide (hi < x) = true := decide_eq_true h2
          have HZ := Lib.hid (HNO.out (fun h => by have := (HOF.out h).2.1; omega))
          go_wp2_with fail
          go_ret
          exact ⟨by rw [HZ.out]; try rfl, rfl⟩
        · have hd2 : decide (hi < x) = false := decide_eq_false h2
          by_cases hk0 : 0 < k
          · obtain ⟨y, hy⟩ : ∃ y, l[k - 1]? = some y := ⟨_, List.getElem?_eq_getElem (by have := HM.out; omega)⟩
            obtain ⟨g', o', he, _, c1⟩ := HH.out.at_ hy
            cases he
            have HY := Lib.hid hy
            clear hy
            have hz1 : decide ((0 : Int) < (k : Int)) = true := decide_eq_true (by omega)
            have hz2 : decide (0 < k) = true := decide_eq_true (by omega)
            obtain ⟨j, rfl⟩ : ∃ j, k = j + 1 := ⟨k - 1, by omega⟩
            rw [Nat.add_sub_cancel] at c1
            have e1 : (((j + 1 : Nat) : Int) - 1) = (j : Int) := by omega
            have e2 : wrap64 (((j + 1 : Nat) : Int) - 1) = (j : Int) := by unfold wrap64; omega
            have e3 : wrap64 ((j : Int) + 1 - 1) = (j : Int) := by unfold wrap64; omega
            have j0 : (0 : Int) ≤ (j : Int) := by omega
            have j1 : (j : Int) < (n : Int) := by omega
            by_cases h3 : x ≤ y
            · have hd3 : decide (x ≤ y) = true := decide_eq_true h3
              have HZ := Lib.hid (HNO.out (fun h => by have := (HOF.out h).2.2 y (by omega) HY.out; omega))
              go_wp2_with fail
              go_ret
              exact ⟨by rw [HZ.out]; try rfl, rfl⟩
            · have hd3 : decide (x ≤ y) = false := decide_eq_false h3
              have HN := Lib.hid (HST.out (by omega) (by omega) (fun y' _ hy' => by
                have := HY.out.symm.trans hy'
                cases this
                omega))
              go_wp2_with fail
              go_roundw
              case rel => exact ⟨j + 1 + 1, by omega, by go_num, by first | trivial | rfl, HN⟩
              case measure => simp [intOf]; omega
          · have hz1 : decide ((0 : Int) < (k : Int)) = false := decide_eq_false (by omega)
            have hz2 : decide (0 < k) = false := decide_eq_false (by omega)
            have HN := Lib.hid (HST.out (by omega) (by omega) (fun y' h _ => absurd h hk0))
            go_wp2_with fail
            go_roundw
            case rel => exact ⟨k + 1, by omega, by go_num, by first | trivial | rfl, HN⟩
            case measure => simp [intOf]; omega
    · have HZ : Hid (holdW lo hi l = true) := Lib.hid (holdW_yes.2 (by
        have := HA.out
        rwa [List.take_of_length_le (by have := HM.out; omega)] at this))
      go_wp2_with fail
      go_ret
      exact ⟨by rw [HZ.out]; try rfl, rfl⟩
set_option maxRecDepth 100000 in
set_option maxHeartbeats 1000000 in
theorem hold_i64 (lo hi : Int) (A : Option Addr) (n c : Nat) (l : List Int) (w : World) (h : NumR w .i64 A n c l) :
    Calls Try.prog 27 #[.int .i64 lo, .int .i64 hi, .slice A n c] w fun x w' => x = .returned (.bool (holdW lo hi l)) ∧ w' = w := by
  have HH := Lib.hid h; have HM := Lib.hid h.len
  have htop : n ≤ maxLen := Nat.le_trans h.cap h.top
  unfold maxLen at htop
  clear h
  go_enter Try.func27, Try.ntmps27
  go_wp2_with fail
  go_loopw [7, 8, 11] (fun _ _ i wr => ∃ k : Nat, k ≤ n ∧ i = .int .i64 (k : Int) ∧ wr = w ∧ Hid (RiseW lo hi (l.take k))) (fun _ _ i _ => n - (intOf i).toNat)
  case atStart => exact ⟨0, by omega, rfl, rfl, Lib.hid ⟨fun q x hq => by simp at hq, fun q x y hq => by simp at hq⟩⟩
  case round =>
    obtain ⟨k, hk, rfl, rfl, HA⟩ := hrel
    by_cases hlt : k < n
    · obtain ⟨x, hx⟩ : ∃ x, l[k]? = some x := ⟨_, List.getElem?_eq_getElem (by have := HM.out; omega)⟩
      obtain ⟨g, o, rfl, hg, c0⟩ := HH.out.at_ hx
      have HX := Lib.hid hx
      clear hx
      have HNO : Hid (¬ RiseW lo hi (l.take (k + 1)) → holdW lo hi l = false) := Lib.hid (fun hn => holdW_no (fun hr => hn (rise_take hr _)))
      have HST : Hid (lo ≤ x → x ≤ hi → (∀ y, 0 < k → l[k - 1]? = some y → y < x) → RiseW lo hi (l.take (k + 1))) := Lib.hid (fun h1 h2 h3 => rise_next HA.out HX.out h1 h2 h3)
      have HOF : Hid (RiseW lo hi (l.take (k + 1)) → lo ≤ x ∧ x ≤ hi ∧ (∀ y, 0 < k → l[k - 1]? = some y → y < x)) := Lib.hid (fun h => rise_last h HX.out)
      have i0 : (0 : Int) ≤ (k : Int) := by omega
      have i1 : (k : Int) < (n : Int) := by omega
      by_cases h1 : x < lo
      · have hd : decide (x < lo) = true := decide_eq_true h1
        have HZ := Lib.hid (HNO.out (fun h => by have := (HOF.out h).1; omega))
        go_wp2_with fail
        go_ret
        exact ⟨by rw [HZ.out]; try rfl, rfl⟩
      · have hd : decide (x < lo) = false := decide_eq_false h1
        by_cases h2 : hi < x
        · have hd2 : decide (hi < x) = true := decide_eq_true h2
          have HZ := Lib.hid (HNO.out (fun h => by have := (HOF.out h).2.1; omega))
          go_wp2_with fail
          go_ret
          exact ⟨by rw [HZ.out]; try rfl, rfl⟩
        · have hd2 : decide (hi < x) = false := decide_eq_false h2
          by_cases hk0 : 0 < k
          · obtain ⟨y, hy⟩ : ∃ y, l[k - 1]? = some y := ⟨_, List.getElem?_eq_getElem (by have := HM.out; omega)⟩
            obtain ⟨g', o', he, _, c1⟩ := HH.out.at_ hy
            cases he
            have HY := Lib.hid hy
            clear hy
            have hz1 : decide ((0 : Int) < (k : Int)) = true := decide_eq_true (by omega)
            have hz2 : decide (0 < k) = true := decide_eq_true (by omega)
            obtain ⟨j, rfl⟩ : ∃ j, k = j + 1 := ⟨k - 1, by omega⟩
            rw [Nat.add_sub_cancel] at c1
            have e1 : (((j + 1 : Nat) : Int) - 1) = (j : Int) := by omega
            have e2 : wrap64 (((j + 1 : Nat) : Int) - 1) = (j : Int) := by unfold wrap64; omega
            have e3 : wrap64 ((j : Int) + 1 - 1) = (j : Int) := by unfold wrap64; omega
            have j0 : (0 : Int) ≤ (j : Int) := by omega
            have j1 : (j : Int) < (n : Int) := by omega
            by_cases h3 : x ≤ y
            · have hd3 : decide (x ≤ y) = true := decide_eq_true h3
              have HZ := Lib.hid (HNO.out (fun h => by have := (HOF.out h).2.2 y (by omega) HY.out; omega))
              go_wp2_with fail
              go_ret
              exact ⟨by rw [HZ.out]; try rfl, rfl⟩
            · have hd3 : decide (x ≤ y) = false := decide_eq_false h3
              have HN := Lib.hid (HST.out (by omega) (by omega) (fun y' _ hy' => by
                have := HY.out.symm.trans hy'
                cases this
                omega))
              go_wp2_with fail
              go_roundw
              case rel => exact ⟨j + 1 + 1, by omega, by go_num, by first | trivial | rfl, HN⟩
              case measure => simp [intOf]; omega
          · have hz1 : decide ((0 : Int) < (k : Int)) = false := decide_eq_false (by omega)
            have hz2 : decide (0 < k) = false := decide_eq_false (by omega)
            have HN := Lib.hid (HST.out (by omega) (by omega) (fun y' h _ => absurd h hk0))
            go_wp2_with fail
            go_roundw
            case rel => exact ⟨k + 1, by omega, by go_num, by first | trivial | rfl, HN⟩
            case measure => simp [intOf]; omega
    · have HZ : Hid (holdW lo hi l = true) := Lib.hid (holdW_yes.2 (by
        have := HA.out
        rwa [List.take_of_length_le (by have := HM.out; omega)] at this))
      go_wp2_with fail
      go_ret
      exact ⟨by rw [HZ.out]; try rfl, rfl⟩
end Go.Proofs.Ytgnfoncokjglbaa
