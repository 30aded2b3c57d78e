/- What goes on from byte to byte. -/
import Derived.Test.YtcfeijphiallfaaCTable
import Derived.BigRegion
namespace Go.Proofs.Ytcfeijphiallfaa
open Go.RowKit

/-- A running sum, and the table. -/
def runC (it : Nat) : Array Value := #[u32v it] ++ tabK 256
theorem runC_size (it : Nat) : (runC it).size = 257 := by unfold runC; simp [tabK_size]
theorem runC_zero (it : Nat) : (runC it)[0]? = some (u32v it) := by
  unfold runC
  rw [Array.getElem?_append_left (by simp)]; rfl
theorem runC_at (it : Nat) {j : Nat} (h : j < 256) : (runC it)[1 + j]? = some (u32v (eN 8 j)) := by
  unfold runC
  rw [Array.getElem?_append_right (by simp)]
  simp only [List.size_toArray, List.length_cons, List.length_nil, Nat.zero_add, Nat.add_sub_cancel_left]
  rw [tabK_at h, if_pos h]
theorem runC_set (it it' : Nat) : (runC it).setIfInBounds 0 (u32v it') = runC it' := by
  unfold runC
  apply Array.toList_inj.1
  simp
theorem byte_lt (x y : Nat) (h : y < 256) : x % 256 ^^^ y < 256 := Nat.xor_lt_two_pow (n := 8) (by omega) h
theorem add_bits {it x : Nat} (hit : it < 4294967296) (hx : x < 256) : bits .xor .u32 ((it : Int) / 256) (eN 8 (it % 256 ^^^ x) : Nat) = (eN 8 (it ^^^ x) : Nat) := by
  have h : eN 8 (it % 256 ^^^ x) < 4294967296 := eN_lt (n := 8) (show it % 256 ^^^ x < 2 ^ 32 from Nat.lt_of_lt_of_le (byte_lt it x hx) (by decide))
  refine (u32_xor_nat (it / 256) _ (by omega) h).trans ?_
  rw [eight_byte (x := it) hx, Nat.xor_comm]
set_option maxHeartbeats 1000000 in
set_option maxRecDepth 100000 in
theorem add_any (g it x : Nat) (w : World) (hb : Box w g 44 (runC it)) (hit : it < 4294967296) (hx : x < 256) :
    Calls Try.prog 24 #[.pointer (some ⟨g, 0, none⟩), .int .u8 (x : Int)] w fun e w' => e = .returned (.tuple #[]) ∧ ∃ q, w' = (w.setCell ⟨g, 0, none⟩ (u32v (eN 8 (it ^^^ x)))).drewN q := by
  have hab := add_bits hit hx
  have hj := byte_lt it x hx
  have hbx : bits .xor .u8 ((it : Int) % 256) (x : Int) = ((it % 256 ^^^ x : Nat) : Int) := u8_xor_nat (it % 256) x (by omega) hx
  have hc0 := (hb.cell 0).trans (runC_zero it)
  have hc1 := (hb.cell (1 + (it % 256 ^^^ x))).trans (runC_at it hj)
  have hf := hb.frozen 0
  unfold u32v at hc0 hc1 ⊢
  generalize it % 256 ^^^ x = j at *
  generalize eN 8 j = y at *
  generalize eN 8 (it ^^^ x) = z at *
  have hc2 := hc1
  rw [Nat.add_comm] at hc2
  have Hb := Lib.hid hb
  clear hb
  have j1 : (j : Int) < 256 := by omega
  go_enter Try.func24, Try.ntmps24
  go_region
  go_wp2_with fail
  go_end0
  exact ⟨rfl, 1, rfl⟩
end Go.Proofs.Ytcfeijphiallfaa
