/- cut: walked. -/
import Derived.Test.YtbaobjbckabnhaaGreatDoorK6
import Derived.Test.YtbaobjbckabnhaaGreatDoorKUMem
namespace Go.Proofs.YtbaobjbckabnhaaGreatDoor
open Go.RowKit

def WishZ.cut (x : WishZ) : WishZ := ⟨x.n, x.s.take 260, x.t, x.ov, x.ca, x.re⟩
theorem cutW_len (x : WishZ) : x.cut.s.length ≤ 260 := by unfold WishZ.cut; rw [List.length_take]; omega
theorem cut260_at (l : List UInt8) : (⟨l.toArray⟩ : ByteArray).extract 0 (min ((⟨l.toArray⟩ : ByteArray).size : Int) 260).toNat = ⟨(l.take 260).toArray⟩ := by
  have hz : (⟨l.toArray⟩ : ByteArray).size = l.length := by show l.toArray.size = _; simp
  have h := Value.string.inj (ext_head (⟨l.toArray⟩ : ByteArray) (min ((⟨l.toArray⟩ : ByteArray).size : Int) 260).toNat)
  rw [h]
  have hx : (⟨l.toArray⟩ : ByteArray).data.toList.take (min ((⟨l.toArray⟩ : ByteArray).size : Int) 260).toNat = l.take 260 := by
    rw [hz, show (⟨l.toArray⟩ : ByteArray).data.toList = l by simp]
    by_cases hl : l.length ≤ 260
    · rw [List.take_of_length_le (by omega), List.take_of_length_le hl]
    · rw [show (min (l.length : Int) 260).toNat = 260 by omega]
  rw [hx]
set_option maxRecDepth 100000 in
set_option maxHeartbeats 1000000 in
theorem jcut_any (x : WishZ) (w : World) (hs : x.s.length ≤ maxLen) :
    Calls Tryz.prog 9 #[wishV x] w fun y w' => y = .returned (wishV x.cut) ∧ Below w.heap.size w w' := by
  obtain ⟨n, s, t, ov, ca, re⟩ := x
  have hcut := cut260_at s
  have hz : (⟨s.toArray⟩ : ByteArray).size = s.length := by show s.toArray.size = _; simp
  unfold WishZ.cut
  simp only at hs ⊢
  unfold maxLen at hs
  rw [hz] at hcut
  generalize s.take 260 = tx at *
  rw [wishV_six, wishV_six]
  have h0 : (0 : Int) ≤ min (s.length : Int) 260 := by omega
  have h1 : min (s.length : Int) 260 ≤ (s.length : Int) := by omega
  go_enter Tryz.func9, Tryz.ntmps9
  go_wp2_with fail
  have hb : Below w.heap.size w ((w.alloc (.cells #[.int .u32 n, .string ⟨tx.toArray⟩, .int .i64 t, .int .i64 ov, .int .i64 ca, .int .i64 re] 26)).alloc (.cells #[.int .u32 n, .string ⟨tx.toArray⟩, .int .i64 t, .int .i64 ov, .int .i64 ca, .int .i64 re] 26)) := ((Below.refl _ w).alloc (Nat.le_refl _) _).alloc (by simp) _
  have hx := WishAt.new (w.alloc (.cells #[.int .u32 n, .string ⟨tx.toArray⟩, .int .i64 t, .int .i64 ov, .int .i64 ca, .int .i64 re] 26)) n tx t ov ca re
  rw [World.size_alloc] at hx
  obtain ⟨r0, r1, r2, r3, r4, r5⟩ := hx.cells
  exact bodyPost_ret (v := .agg #[.int .u32 n, .string ⟨tx.toArray⟩, .int .i64 t, .int .i64 ov, .int .i64 ca, .int .i64 re]) (by simp [results, Tryz.results9, go_sem, r0, r1, r2, r3, r4, r5]) rfl ⟨rfl, hb⟩
end Go.Proofs.YtbaobjbckabnhaaGreatDoor
