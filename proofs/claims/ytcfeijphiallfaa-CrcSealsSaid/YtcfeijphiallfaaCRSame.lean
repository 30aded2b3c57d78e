/- The document's Same and Opens. -/
import Derived.Test.YtcfeijphiallfaaCRSeal
namespace Go.Proofs.Ytcfeijphiallfaa
open Go.RowKit

set_option maxHeartbeats 1000000 in
theorem requal_bytes (A B : Option Addr) (n c d B1 B2 : Nat) (xs ys : List Nat) (w : World) (ha : RowB w B1 A n c xs) (hb : RowB w B2 B n d ys) :
    Calls Try.prog 27 #[.slice A n c, .slice B n d] w fun e w' => e = .returned (.bool (decide (xs = ys))) ∧ ∃ q, w' = w.drewN q := by
  have hn : n ≤ 9223372036854775807 := by have := ha.cap; have := ha.top; unfold maxLen at this; omega
  have hx := ha.len
  have hy := hb.len
  have hca := ha.at_
  have hcb := hb.at_
  clear ha hb
  go_enter Try.func27, Try.ntmps27
  go_wp2
  go_loopw [13] (fun i wr => ∃ k q : Nat, k ≤ n ∧ i = .int .i64 k ∧ wr = w.drewN q ∧ xs.take k = ys.take k) (fun i _ => n - (intOf i).toNat)
  case atStart => exact ⟨0, 0, Nat.zero_le _, rfl, rfl, by simp⟩
  case round =>
    obtain ⟨k, q, hk, rfl, rfl, heq⟩ := hrel
    by_cases hlt : k < n
    · obtain ⟨b1, o1, rfl, _, c1⟩ := hca k hlt
      obtain ⟨b2, o2, rfl, _, c2⟩ := hcb k hlt
      have t1 := take_next (l := xs) (k := k) (by omega)
      have t2 := take_next (l := ys) (k := k) (by omega)
      unfold bv at c1 c2
      have T1 := Lib.hid t1; have T2 := Lib.hid t2; have Heq := Lib.hid heq
      have HX := Lib.hid hx; have HY := Lib.hid hy
      clear hca hcb t1 t2 heq hx hy
      generalize nthB xs k = x at *
      generalize nthB ys k = y at *
      have h0 : (0 : Int) ≤ (k : Int) := by omega
      have h1 : (k : Int) < (n : Int) := by omega
      by_cases hxy : x = y
      · have hd : ((x : Int) != (y : Int)) = false := by subst hxy; simp
        have Hxy := Lib.hid hxy
        clear hxy
        go_wp2
        go_quiet (fail)
        go_wp2
        go_roundw
        case rel => exact ⟨k + 1, _, by omega, by go_num, rfl, by rw [T1.out, T2.out, Heq.out, Hxy.out]⟩
        case measure => simp [intOf]; omega
      · have hd : ((x : Int) != (y : Int)) = true := by simp; omega
        have Hxy := Lib.hid hxy
        clear hxy
        go_wp2
        go_quiet (fail)
        go_wp2
        go_ret
        refine ⟨?_, _, World.drewN_drewN _ _ _⟩
        have hne : xs ≠ ys := by
          intro e
          subst e
          have := T1.out.symm.trans T2.out
          simp at this
          exact Hxy.out this
        rw [decide_eq_false hne]; rfl
    · clear hca hcb
      have Heq := Lib.hid heq
      have HX := Lib.hid hx; have HY := Lib.hid hy
      clear heq hx hy
      go_wp2
      go_ret
      have e : xs = ys := by
        have := Heq.out
        rwa [List.take_of_length_le (by rw [HX.out]; omega), List.take_of_length_le (by rw [HY.out]; omega)] at this
      exact ⟨by rw [decide_eq_true e]; rfl, q, rfl⟩
set_option maxHeartbeats 1000000 in
theorem runequal_bytes (A B : Option Addr) (n m c d : Nat) (w : World) (h : n ≠ m) :
    Calls Try.prog 27 #[.slice A n c, .slice B m d] w fun e w' => e = .returned (.bool false) ∧ w = w' := by
  have hd : ((n : Int) != (m : Int)) = true := by simp; omega
  go_enter Try.func27, Try.ntmps27
  go_wp2
  go_ret
  exact ⟨rfl, rfl⟩
theorem rsame_bytes (A B : Option Addr) (n c d B1 B2 : Nat) (xs : List Nat) (w : World) (ha : RowB w B1 A n c xs) (hb : RowB w B2 B n d xs) :
    Calls Try.prog 27 #[.slice A n c, .slice B n d] w fun e w' => e = .returned (.bool true) ∧ ∃ q, w' = w.drewN q := by
  have := requal_bytes A B n c d B1 B2 xs xs w ha hb
  simpa using this


theorem opens_same {bs : List Nat} {k : Nat} (h : bs.length = k + 4) : bs = sealOf (bs.take k) ↔ opens bs := by
  have e : bs.length - 4 = k := by omega
  unfold opens sealOf
  rw [e]
  constructor
  · intro h1
    refine ⟨by omega, ?_⟩
    have h2 : bs.take k ++ bs.drop k = bs.take k ++ le4 (sumOf (bs.take k)) := by rw [List.take_append_drop]; exact h1
    exact List.append_cancel_left h2
  · rintro ⟨_, h2⟩
    have h3 := List.take_append_drop k bs
    rw [h2] at h3
    exact h3.symm
set_option maxRecDepth 100000 in
set_option maxHeartbeats 1000000 in
theorem ropens_any (A : Option Addr) (n c : Nat) (bs : List Nat) (w : World) (h : RowB w w.heap.size A n c bs) (h4 : 4 ≤ n) (hn : n ≤ 90000) :
    Calls Try.prog 19 #[.slice A n c] w fun e w' => ∃ b, e = .returned (.bool b) ∧ (b = true ↔ opens bs) ∧ Below w.heap.size w w' := by
  obtain ⟨k, rfl⟩ : ∃ k, n = k + 4 := ⟨n - 4, by omega⟩
  have hx := h.len
  have hcap := h.cap
  have htop := h.top
  unfold maxLen at htop
  have hr1 := h.take (k := k) (by omega)
  have H := Lib.hid h; have HX := Lib.hid hx; have HR1 := Lib.hid hr1
  clear h hx hr1
  have i5 : ((k + 4 : Nat) : Int) - 4 = (k : Int) := by omega
  have i7 : (k : Int) ≤ (c : Int) := by omega
  have i8 : (k : Int) ≤ ((k + 4 : Nat) : Int) := by omega
  have i9 : (0 : Int) ≤ (k : Int) := by omega
  have i10 : (k : Int) ≤ (k : Int) + 4 := by omega
  go_enter Try.func19, Try.ntmps19
  go_wp2_with fail
  refine (rseal_any A k c (bs.take k) w HR1.out (by omega)).mono ?_; rintro e w1 ⟨v1, rfl, ho1, hb1⟩
  obtain ⟨A2, c2, rfl, hr2⟩ := ho1.row
  have hl : (sealOf (bs.take k)).length = k + 4 := by rw [seal_len, List.length_take, HX.out]; omega
  rw [hl] at hr2 ⊢
  have H1 := H.out.below hb1
  have HO := Lib.hid ho1; have HB := Lib.hid hb1; have HR2 := Lib.hid hr2; have HH := Lib.hid H1; have HL := Lib.hid hl
  clear ho1 hb1 hr2 H1 hl
  go_wp2_with fail
  refine (requal_bytes A A2 (k + 4) c c2 _ _ bs (sealOf (bs.take k)) w1 HH.out HR2.out).mono ?_; rintro e w2 ⟨rfl, q, rfl⟩
  go_wp2_with fail
  go_ret
  exact ⟨_, rfl, by rw [decide_eq_true_iff]; exact opens_same HX.out, below_drew HB.out q⟩
end Go.Proofs.Ytcfeijphiallfaa
