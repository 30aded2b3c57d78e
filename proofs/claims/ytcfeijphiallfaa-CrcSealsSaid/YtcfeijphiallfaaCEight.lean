/- Eight of the document: eight steps. -/
import Derived.Test.YtcfeijphiallfaaCMath
import Derived.Test.YtcfeijphiallfaaCBox
namespace Go.Proofs.Ytcfeijphiallfaa
open Go.RowKit

theorem eN_next (k x : Nat) : eN (k + 1) x = e1 (eN k x) := by rw [eN_add]; rfl
theorem e1_odd {x : Nat} (h : x % 2 = 1) : e1 x = x / 2 ^^^ 2197175160 := by unfold e1 crcP; rw [if_pos h]
theorem e1_ev {x : Nat} (h : x % 2 = 0) : e1 x = x / 2 := by unfold e1; rw [if_neg (by omega)]

set_option maxHeartbeats 1000000 in
theorem eight_any (x : Nat) (w : World) (h : x < 4294967296) :
    Calls Try.prog 15 #[.int .u32 (x : Int)] w fun e w' => e = .returned (.int .u32 (eN 8 x : Nat)) ∧ w = w' := by
  have hlt : ∀ k, eN k x < 4294967296 := fun k => eN_lt (n := k) (show x < 2 ^ 32 from h)
  clear h
  go_enter Try.func15, Try.ntmps15
  go_wp2_with fail
  go_loopw [0, 4] (fun y i wr => ∃ k : Nat, k ≤ 8 ∧ i = .int .i64 k ∧ y = .int .u32 (eN k x : Nat) ∧ wr = w) (fun _ i _ => 8 - (intOf i).toNat)
  case atStart => exact ⟨0, by omega, rfl, rfl, rfl⟩
  case round =>
    obtain ⟨k, hk, rfl, rfl, rfl⟩ := hrel
    by_cases hk8 : k < 8
    · have hy := hlt k
      have hn := eN_next k x
      have Hn := Lib.hid hn
      clear hn hlt
      generalize eN k x = y at *
      have h0 : (0 : Int) ≤ (k : Int) := by omega
      have h1 : (k : Int) < 8 := by omega
      rcases Nat.mod_two_eq_zero_or_one y with h2 | h2
      · have hd : (((y % 2 : Nat) : Int) == 1) = false := by simp; omega
        have hd2 : (((y : Int) % 2) == 1) = false := by simp; omega
        have H2 := Lib.hid h2
        clear h2
        go_wp2_with fail
        go_roundw
        case rel => exact ⟨k + 1, by omega, by go_num, by rw [Hn.out, e1_ev H2.out]; first | rfl | omega, trivial⟩
        case measure => simp [intOf]; omega
      · have hd : (((y % 2 : Nat) : Int) == 1) = true := by simp; omega
        have hd2 : (((y : Int) % 2) == 1) = true := by simp; omega
        have H2 := Lib.hid h2
        clear h2
        have hxx : bits .xor .u32 ((y : Int) / 2) 2197175160 = ((y / 2 ^^^ 2197175160 : Nat) : Int) := u32_xor_nat (y / 2) 2197175160 (by omega) (by omega)
        go_wp2_with fail
        go_roundw
        case rel => exact ⟨k + 1, by omega, by go_num, by rw [Hn.out, e1_odd H2.out], trivial⟩
        case measure => simp [intOf]; omega
    · have hk9 : k = 8 := by omega
      subst hk9
      clear hlt
      go_wp2_with fail
      go_ret
      exact ⟨rfl, rfl⟩
end Go.Proofs.Ytcfeijphiallfaa
