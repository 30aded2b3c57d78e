/- slices.Clone, slices.Equal at bytes; few. -/
import Derived.Test.YtcfeijphiallfaaCMem
namespace Go.Proofs.Ytcfeijphiallfaa
open Go.RowKit

set_option maxHeartbeats 1000000 in
theorem clone_bytes (A : Option Addr) (n c : Nat) (bs : List Nat) (w : World) (h : RowB w w.heap.size A n c bs) (hn : n ≤ 140737488355328) :
    Calls Try.prog 22 #[.slice A n c] w fun e w' => ∃ v, e = .returned v ∧ OwnB w' w.heap.size v bs ∧ Below w.heap.size w w' := by
  cases A with
  | none =>
    obtain rfl : c = 0 := h.nil rfl
    obtain rfl : n = 0 := by have := h.cap; omega
    have : bs = [] := List.length_eq_zero_iff.1 h.len
    subst this
    have heq := fun (W : World) => Lib.run_eql_slice_nil (P := Try.prog) W 24 5 none 0 0 0 0 Try.underlying24
    clear h hn
    go_enter Try.func22, Try.ntmps22
    go_wp2
    go_ret
    exact ⟨_, rfl, OwnB.nil _ _, Below.refl _ _⟩
  | some ad =>
    have heq := fun (W : World) => Lib.run_eql_slice_nil (P := Try.prog) W 24 5 (some ad) n c 0 0 Try.underlying24
    have h1 : RowB (w.alloc (.cells #[] 5)) w.heap.size (some ad) n c bs := h.below ((Below.refl _ w).alloc (Nat.le_refl _) _)
    have hm : OwnB (w.alloc (.cells #[] 5)) w.heap.size (.slice (some ⟨w.heap.size, 0, none⟩) 0 0) [] := OwnB.made (Nat.le_refl _) (by unfold maxLen; omega) rfl
    have H1 := Lib.hid h1
    have H := Lib.hid h
    clear h h1
    go_enter Try.func22, Try.ntmps22
    go_wp2_with (at_builtin; refine append_row rfl _ _ rfl w.heap.size _ [] rfl hm w.heap.size (some ad) n c bs rfl H1.out (by simp; omega) (by simp) ?_; intro v' w5 hown5 hgrow5)
    go_ret
    refine ⟨_, rfl, by simpa using hown5, below_grown ((Below.refl _ w).alloc (Nat.le_refl _) (.cells #[] 5)) hm hgrow5 (by simp)⟩

set_option maxHeartbeats 1000000 in
theorem equal_bytes (A B : Option Addr) (n c d B1 B2 : Nat) (xs ys : List Nat) (w : World) (ha : RowB w B1 A n c xs) (hb : RowB w B2 B n d ys) :
    Calls Try.prog 13 #[.slice A n c, .slice B n d] w fun e w' => e = .returned (.bool (decide (xs = ys))) ∧ ∃ q, w' = w.drewN q := by
  have hn : n ≤ 9223372036854775807 := by have := ha.cap; have := ha.top; unfold maxLen at this; omega
  have hx := ha.len
  have hy := hb.len
  have hca := ha.at_
  have hcb := hb.at_
  clear ha hb
  go_enter Try.func13, Try.ntmps13
  go_wp2
  go_loopw [13] (fun i wr => ∃ k q : Nat, k ≤ n ∧ i = .int .i64 k ∧ wr = w.drewN q ∧ xs.take k = ys.take k) (fun i _ => n - (intOf i).toNat)
  case atStart => exact ⟨0, 0, Nat.zero_le _, rfl, rfl, by simp⟩
  case round =>
    obtain ⟨k, q, hk, rfl, rfl, heq⟩ := hrel
    by_cases hlt : k < n
    · obtain ⟨b1, o1, rfl, _, c1⟩ := hca k hlt
      obtain ⟨b2, o2, rfl, _, c2⟩ := hcb k hlt
      have t1 := take_next (l := xs) (k := k) (by omega)
      have t2 := take_next (l := ys) (k := k) (by omega)
      unfold bv at c1 c2
      have T1 := Lib.hid t1; have T2 := Lib.hid t2; have Heq := Lib.hid heq
      have HX := Lib.hid hx; have HY := Lib.hid hy
      clear hca hcb t1 t2 heq hx hy
      generalize nthB xs k = x at *
      generalize nthB ys k = y at *
      have h0 : (0 : Int) ≤ (k : Int) := by omega
      have h1 : (k : Int) < (n : Int) := by omega
      by_cases hxy : x = y
      · have hd : ((x : Int) != (y : Int)) = false := by subst hxy; simp
        have Hxy := Lib.hid hxy
        clear hxy
        go_wp2
        go_quiet (fail)
        go_wp2
        go_roundw
        case rel => exact ⟨k + 1, _, by omega, by go_num, rfl, by rw [T1.out, T2.out, Heq.out, Hxy.out]⟩
        case measure => simp [intOf]; omega
      · have hd : ((x : Int) != (y : Int)) = true := by simp; omega
        have Hxy := Lib.hid hxy
        clear hxy
        go_wp2
        go_quiet (fail)
        go_wp2
        go_ret
        refine ⟨?_, _, World.drewN_drewN _ _ _⟩
        have hne : xs ≠ ys := by
          intro e
          subst e
          have := T1.out.symm.trans T2.out
          simp at this
          exact Hxy.out this
        rw [decide_eq_false hne]; rfl
    · clear hca hcb
      have Heq := Lib.hid heq
      have HX := Lib.hid hx; have HY := Lib.hid hy
      clear heq hx hy
      go_wp2
      go_ret
      have e : xs = ys := by
        have := Heq.out
        rwa [List.take_of_length_le (by rw [HX.out]; omega), List.take_of_length_le (by rw [HY.out]; omega)] at this
      exact ⟨by rw [decide_eq_true e]; rfl, q, rfl⟩
set_option maxHeartbeats 1000000 in
theorem unequal_bytes (A B : Option Addr) (n m c d : Nat) (w : World) (h : n ≠ m) :
    Calls Try.prog 13 #[.slice A n c, .slice B m d] w fun e w' => e = .returned (.bool false) ∧ w = w' := by
  have hd : ((n : Int) != (m : Int)) = true := by simp; omega
  go_enter Try.func13, Try.ntmps13
  go_wp2
  go_ret
  exact ⟨rfl, rfl⟩
theorem same_bytes (A B : Option Addr) (n c d B1 B2 : Nat) (xs : List Nat) (w : World) (ha : RowB w B1 A n c xs) (hb : RowB w B2 B n d xs) :
    Calls Try.prog 13 #[.slice A n c, .slice B n d] w fun e w' => e = .returned (.bool true) ∧ ∃ q, w' = w.drewN q := by
  have := equal_bytes A B n c d B1 B2 xs xs w ha hb
  simpa using this

set_option maxHeartbeats 1000000 in
theorem few_any (A : Option Addr) (n c : Nat) (bs : List Nat) (w : World) (h : RowB w w.heap.size A n c bs) :
    Calls Try.prog 9 #[.slice A n c] w fun e w' => ∃ v, e = .returned v ∧ OwnB w' w.heap.size v (bs.take 3000) ∧ Below w.heap.size w w' := by
  have hcap := h.cap
  have hlen := h.len
  have htop := h.top
  unfold maxLen at htop
  by_cases hc : n ≤ 3000
  · have hr : RowB w w.heap.size A n c (bs.take 3000) := by rw [List.take_of_length_le (by omega)]; exact h
    have HR := Lib.hid hr
    have hi : (n : Int) ≤ 3000 := by omega
    have hi0 : (0 : Int) ≤ (n : Int) := by omega
    clear h hr hlen
    go_enter Try.func9, Try.ntmps9
    go_wp2_with fail
    try simp only [Int.min_eq_left hi, Int.toNat_natCast]
    refine (clone_bytes A n c (bs.take 3000) w HR.out (by omega)).mono ?_; rintro e w' ⟨v, rfl, ho, hb⟩
    go_wp2_with fail
    go_ret
    exact ⟨v, rfl, ho, hb⟩
  · have hr := h.take (k := 3000) (by omega)
    have HR := Lib.hid hr
    have hi : (3000 : Int) < (n : Int) := by omega
    clear h hr hlen
    go_enter Try.func9, Try.ntmps9
    go_wp2_with fail
    refine (clone_bytes A 3000 c (bs.take 3000) w HR.out (by omega)).mono ?_; rintro e w' ⟨v, rfl, ho, hb⟩
    go_wp2_with fail
    go_ret
    exact ⟨v, rfl, ho, hb⟩
end Go.Proofs.Ytcfeijphiallfaa
