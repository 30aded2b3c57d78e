/- The document's Both, Same, Seal, Opens. -/
import Derived.Test.YtcfeijphiallfaaCOpen
namespace Go.Proofs.Ytcfeijphiallfaa
open Go.RowKit

set_option maxRecDepth 100000 in
set_option maxHeartbeats 1000000 in
theorem rboth_any (A : Option Addr) (n c : Nat) (bs : List Nat) (w : World) (h : RowB w w.heap.size A n c bs) (hn : n ≤ 90000) :
    Calls Try.prog 25 #[.slice A n c, .slice none 0 0] w fun e w' => ∃ v, e = .returned v ∧ OwnB w' w.heap.size v bs ∧ Below w.heap.size w w' := by
  obtain ⟨zs, hzs, hz0, hmk⟩ := make_u8 0 n (by omega) (by omega)
  rw [show ((0 : Nat) : Int) = 0 from rfl] at hmk
  have hx := h.len
  have hb1 : Below w.heap.size w (w.alloc (.cells zs 5)) := (Below.refl _ w).alloc (Nat.le_refl _) _
  have hm : OwnB (w.alloc (.cells zs 5)) w.heap.size (.slice (some ⟨w.heap.size, 0, none⟩) 0 n) [] := OwnB.made (Nat.le_refl _) (by unfold maxLen; omega) hzs
  have H1 := Lib.hid (h.below hb1); have HX := Lib.hid hx; have HB1 := Lib.hid hb1; have HM := Lib.hid hm
  clear h hx hb1 hm hzs hz0
  go_enter Try.func25, Try.ntmps25
  go_wp2_with (first
    | (at_builtin; refine append_row rfl _ _ rfl w.heap.size _ [] rfl HM.out w.heap.size A n c bs rfl H1.out (by simp; omega) (by simp) ?_; intro v5 w5 hown5 hgrow5)
    | (at_builtin; refine append_row rfl _ _ rfl w.heap.size v5 ([] ++ bs) rfl hown5 0 none 0 0 [] rfl (RowB.none_ _ _) (by simp [HX.out]; omega) (by have := hgrow5.size; simp at this; omega) ?_; intro v6 w6 hown6 hgrow6))
  go_ret
  refine ⟨_, rfl, by simpa using hown6, below_grown (below_grown HB1.out HM.out hgrow5 (by simp)) hown5 hgrow6 (by have := hgrow5.size; simp at this; omega)⟩
theorem div_next (S k : Nat) : S / 2 ^ (8 * k) / 256 = S / 2 ^ (8 * (k + 1)) := by
  rw [Nat.div_div_eq_div_mul, show 8 * (k + 1) = 8 * k + 8 by omega, Nat.pow_add]
set_option maxRecDepth 100000 in
set_option maxHeartbeats 1000000 in
theorem rseal_any (A : Option Addr) (n c : Nat) (bs : List Nat) (w : World) (h : RowB w w.heap.size A n c bs) (hn : n ≤ 90000) :
    Calls Try.prog 17 #[.slice A n c] w fun e w' => ∃ v, e = .returned v ∧ OwnB w' w.heap.size v (sealOf bs) ∧ Below w.heap.size w w' := by
  have hx := h.len
  have H := Lib.hid h; have HX := Lib.hid hx
  clear h hx
  go_enter Try.func17, Try.ntmps17
  go_wp2_with fail
  refine (rboth_any A n c bs w H.out hn).mono ?_; rintro e w1 ⟨v1, rfl, ho1, hb1⟩
  have hr1 := H.out.below hb1
  have HO := Lib.hid ho1; have HB := Lib.hid hb1; have HR := Lib.hid hr1
  clear ho1 hb1 hr1
  go_wp2_with fail
  refine (rsum_any A n c _ bs w1 HR.out).mono ?_; rintro e w2 ⟨rfl, rfl⟩
  have hS : sumOf bs < 4294967296 := sumOf_lt H.out.byte
  generalize hSe : sumOf bs = S at *
  have HSE := Lib.hid hSe
  clear hSe
  go_wp2_with fail
  go_loopw [3, 4, 9] (fun v x i wr => ∃ k : Nat, k ≤ 4 ∧ i = .int .i64 k ∧ x = .int .u32 (S / 2 ^ (8 * k) : Nat) ∧ OwnB wr w.heap.size v (bs ++ (le4 S).take k) ∧ Below w.heap.size w wr) (fun _ _ i _ => 4 - (intOf i).toNat)
  case atStart => exact ⟨0, Nat.zero_le _, rfl, by simp, by simpa using HO.out, HB.out⟩
  case round =>
    obtain ⟨k, hk, rfl, rfl, ho, hb⟩ := hrel
    have HO' := Lib.hid ho; have HB' := Lib.hid hb
    clear ho hb HO HB HR
    by_cases hlt : k < 4
    · have h0 : (0 : Int) ≤ (k : Int) := by omega
      have h1 : (k : Int) < 4 := by omega
      have hnx := div_next S k
      have hle4 := le4_take S k hlt
      have hyl : S / 2 ^ (8 * k) < 4294967296 := Nat.lt_of_le_of_lt (Nat.div_le_self _ _) hS
      have HN := Lib.hid hnx; have HL4 := Lib.hid hle4
      clear hnx hle4
      generalize S / 2 ^ (8 * k) = y at *
      have hm : y % 256 < 256 := Nat.mod_lt _ (by omega)
      have hz : (y : Int) % 256 = ((y % 256 : Nat) : Int) := by omega
      have ha := HO'.out.alloc (.cells #[.int .u8 ((y : Int) % 256)] 5)
      have hr := RowB.fresh wr (z := (y : Int) % 256) _ hm hz
      have HA := Lib.hid ha; have HR' := Lib.hid hr; have HZ := Lib.hid hz
      have hlen : (bs ++ (le4 S).take k).length + 1 ≤ 140737488355328 := by rw [List.length_append, HX.out, List.length_take]; omega
      have hle : w.heap.size ≤ wr.heap.size := HB'.out.size
      have HL := Lib.hid hlen; have HLE := Lib.hid hle
      clear ha hr hz hlen hle
      go_wp2_with (at_builtin; refine append_row rfl _ _ rfl w.heap.size _ (bs ++ (le4 S).take k) rfl HA.out (wr.heap.size + 1) (some ⟨wr.heap.size, 0, none⟩) 1 1 [y % 256] rfl HR'.out HL.out (by have := HLE.out; simp; omega) ?_; intro v5 w5 hown5 hgrow5)
      have hb5 := below_grown (gr_alloc' HB'.out (.cells #[.int .u8 ((y : Int) % 256)] 5)) HA.out hgrow5 (by have := HLE.out; simp; omega)
      have HO5 := Lib.hid hown5; have HB5 := Lib.hid hb5
      clear hown5 hb5 hgrow5
      go_wp2_with fail
      go_roundw
      case rel => exact ⟨k + 1, by omega, by go_num, by rw [← HN.out]; first | rfl | omega, by rw [HL4.out, ← List.append_assoc]; exact HO5.out, HB5.out⟩
      case measure => simp [intOf]; omega
    · obtain rfl : k = 4 := by omega
      go_wp2_with fail
      go_ret
      refine ⟨_, rfl, ?_, HB'.out⟩
      unfold sealOf
      rw [HSE.out]
      have := HO'.out
      rwa [show (le4 S).take 4 = le4 S by rfl] at this
end Go.Proofs.Ytcfeijphiallfaa
