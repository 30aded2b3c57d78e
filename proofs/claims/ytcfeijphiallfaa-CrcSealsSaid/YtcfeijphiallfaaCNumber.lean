/- The number whose bytes four are. -/
import Derived.Test.YtcfeijphiallfaaCRSum
namespace Go.Proofs.Ytcfeijphiallfaa
open Go.RowKit

theorem le_snoc (bs : List Nat) (k : Nat) (h : k < bs.length) : le (bs.take (k + 1)) = le (bs.take k) + 2 ^ (8 * k) * nthB bs k := by
  rw [take_next (by omega), le_append, List.length_take, Nat.min_eq_left (by omega)]
  rfl
theorem or_bits {k x y : Nat} (hk : k < 4) (hx : x < 256) (hy : y < 2 ^ (8 * k)) : bits .or .u32 (y : Int) ((x : Int) * 2 ^ (k * 8) % 4294967296) = ((y + 2 ^ (8 * k) * x : Nat) : Int) := by
  have hb : 2 ^ (8 * k) * x < 4294967296 ∧ y < 4294967296 := by
    rcases (show k = 0 ∨ k = 1 ∨ k = 2 ∨ k = 3 by omega) with rfl | rfl | rfl | rfl <;> omega
  have e : (x : Int) * 2 ^ (k * 8) % 4294967296 = ((2 ^ (8 * k) * x : Nat) : Int) := by
    rw [show ((x : Int) * 2 ^ (k * 8)) = ((2 ^ (8 * k) * x : Nat) : Int) by push_cast; rw [Nat.mul_comm k 8, Int.mul_comm]]
    omega
  rw [e, u32_or_nat _ _ hb.2 hb.1, Nat.or_comm, ← Nat.two_pow_add_eq_or_of_lt hy, Nat.add_comm]
set_option maxHeartbeats 1000000 in
theorem number_any (A : Option Addr) (c B : Nat) (bs : List Nat) (w : World) (h : RowB w B A 4 c bs) :
    Calls Try.prog 26 #[.slice A 4 c] w fun e w' => e = .returned (.int .u32 (le bs : Nat)) ∧ w = w' := by
  have hx := h.len
  have hby := h.byte
  have H := Lib.hid h
  clear h
  go_enter Try.func26, Try.ntmps26
  go_wp2_with fail
  go_loopw [3, 8] (fun y i wr => ∃ k : Nat, k ≤ 4 ∧ i = .int .i64 k ∧ y = .int .u32 (le (bs.take k) : Nat) ∧ wr = w) (fun _ i _ => 4 - (intOf i).toNat)
  case atStart => exact ⟨0, Nat.zero_le _, rfl, rfl, rfl⟩
  case round =>
    obtain ⟨k, hk, rfl, rfl, rfl⟩ := hrel
    by_cases hlt : k < 4
    · obtain ⟨b1, o1, rfl, hl1, c1⟩ := H.out.at_ k hlt
      have hb1 := byte_at hby (show k < bs.length by omega)
      have hnext := le_snoc bs k (by omega)
      have Hnext := Lib.hid hnext
      have hy := le_lt (l := bs.take k) (fun c hc => hby c (List.mem_of_mem_take hc))
      rw [List.length_take, Nat.min_eq_left (by omega)] at hy
      unfold bv at c1
      clear hnext
      generalize nthB bs k = x at *
      generalize le (bs.take k) = y at *
      have HX := Lib.hid hx; have HY := Lib.hid hby; have HYL := Lib.hid hy
      clear hx hby hy
      have h0 : (0 : Int) ≤ (k : Int) := by omega
      have h1 : (k : Int) < 4 := by omega
      go_wp2_with fail
      exact ⟨⟨k + 1, by omega, by go_num, by rw [Hnext.out, or_bits hlt hb1 HYL.out], trivial⟩, by simp [intOf]; omega⟩
    · obtain rfl : k = 4 := by omega
      have ht : bs.take 4 = bs := List.take_of_length_le (by omega)
      rw [ht]
      have HX := Lib.hid hx; have HY := Lib.hid hby; have HT := Lib.hid ht
      clear hx hby ht
      go_wp2_with fail
      go_ret
      exact ⟨rfl, rfl⟩
end Go.Proofs.Ytcfeijphiallfaa
