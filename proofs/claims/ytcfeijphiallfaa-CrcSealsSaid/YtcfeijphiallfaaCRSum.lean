/- The document's Sum. -/
import Derived.Test.YtcfeijphiallfaaCMore
namespace Go.Proofs.Ytcfeijphiallfaa
open Go.RowKit

set_option maxHeartbeats 1000000 in
theorem rsum_any (A : Option Addr) (n c B : Nat) (bs : List Nat) (w : World) (h : RowB w B A n c bs) :
    Calls Try.prog 12 #[.slice A n c] w fun e w' => e = .returned (.int .u32 (sumOf bs : Nat)) ∧ w = w' := by
  have hn : n ≤ 9223372036854775807 := by have := h.cap; have := h.top; unfold maxLen at this; omega
  have hx := h.len
  have hby := h.byte
  have H := Lib.hid h
  clear h
  go_enter Try.func12, Try.ntmps12
  go_wp2_with fail
  go_loopw [3, 8] (fun y i wr => ∃ k : Nat, k ≤ n ∧ i = .int .i64 k ∧ y = .int .u32 (raw 4294967295 (bs.take k) : Nat) ∧ wr = w) (fun _ i _ => n - (intOf i).toNat)
  case atStart => exact ⟨0, Nat.zero_le _, rfl, rfl, rfl⟩
  case round =>
    obtain ⟨k, hk, rfl, rfl, rfl⟩ := hrel
    have hraw := raw_take_lt (it := 4294967295) k (by omega) hby
    by_cases hlt : k < n
    · obtain ⟨b1, o1, rfl, hl1, c1⟩ := H.out.at_ k hlt
      have hb1 := byte_at hby (show k < bs.length by omega)
      have hnext := raw_take_next 4294967295 bs k (by omega)
      have Hnext := Lib.hid hnext
      unfold bv at c1
      clear hnext
      generalize nthB bs k = x at *
      generalize raw 4294967295 (bs.take k) = y at *
      have hbx : bits .xor .u32 (y : Int) (x : Int) = ((y ^^^ x : Nat) : Int) := u32_xor_nat y x hraw (by omega)
      have hl : y ^^^ x < 4294967296 := Nat.xor_lt_two_pow (n := 32) hraw (by omega)
      have HX := Lib.hid hx; have HY := Lib.hid hby
      clear hx hby
      have h0 : (0 : Int) ≤ (k : Int) := by omega
      have h1 : (k : Int) < (n : Int) := by omega
      generalize y ^^^ x = z at *
      go_wp2_with fail
      refine (eight_any z _ hl).mono ?_; rintro e w2 ⟨rfl, rfl⟩
      go_wp2_with fail
      go_roundw
      case rel => exact ⟨k + 1, by omega, by go_num, by rw [Hnext.out], trivial⟩
      case measure => simp [intOf]; omega
    · obtain rfl : k = n := by omega
      have ht : bs.take k = bs := List.take_of_length_le (by omega)
      rw [ht] at hraw ⊢
      have hs : sumOf bs = 4294967295 - raw 4294967295 bs := by unfold sumOf; rw [not_u32 _ hraw]
      have Hs := Lib.hid hs
      have HX := Lib.hid hx; have HY := Lib.hid hby; have HT := Lib.hid ht
      clear hx hby hs ht
      generalize raw 4294967295 bs = y at *
      go_wp2_with fail
      go_ret
      exact ⟨by rw [Hs.out]; exact congrArg (fun z => Ending.returned (.int .u32 z)) (by omega), rfl⟩
end Go.Proofs.Ytcfeijphiallfaa
