/- slices.Equal of int64; the law's wakes: walked. -/
import Derived.Test.YtkimbmifabpppaaDoorKHRSome
namespace Go.Proofs.YtkimbmifabpppaaDoor
open Go.RowKit

set_option maxHeartbeats 1000000 in
theorem equal_i64 (A B : Option Addr) (n c d : Nat) (l : List Int) (w : World) (hn : n ≤ maxLen) (ha : ArrT w A n l) (hb : ArrT w B n l) :
    Calls Tryd.prog 19 #[.slice A n c, .slice B n d] w fun e w' => e = .returned (.bool true) ∧ ∃ q, w' = w.drewN q := by
  have hl := ha.1
  unfold maxLen at hn
  go_enter Tryd.func19, Tryd.ntmps19
  go_wp2
  go_loopw [13] (fun i wr => ∃ k q : Nat, k ≤ n ∧ i = .int .i64 k ∧ wr = w.drewN q) (fun i _ => n - (intOf i).toNat)
  case atStart => exact ⟨0, 0, Nat.zero_le _, rfl, rfl⟩
  case round =>
    obtain ⟨k, q, hk, rfl, rfl⟩ := hrel
    by_cases hlt : k < n
    · obtain ⟨v, hv⟩ : ∃ v, l[k]? = some v := ⟨_, List.getElem?_eq_getElem (by omega)⟩
      obtain ⟨b1, o1, rfl, _, c1⟩ := ha.2 k v hv
      obtain ⟨b2, o2, rfl, _, c2⟩ := hb.2 k v hv
      clear ha hb hv hl
      have h0 : (0 : Int) ≤ (k : Int) := by omega
      have h1 : (k : Int) < (n : Int) := by omega
      go_wp2
      go_quiet (fail)
      go_wp2
      go_roundw
      case rel => exact ⟨k + 1, _, by omega, by go_num, rfl⟩
      case measure => simp [intOf]; omega
    · clear ha hb
      go_wp2
      go_ret
      exact ⟨rfl, q, rfl⟩
theorem leap_any (w : World) :
    Calls Tryd.prog 23 #[] w fun e w' => e = .returned (cronV leapL) ∧ Below w.heap.size w w' := by
  go_enter Tryd.func23, Tryd.ntmps23
  go_wp2_with fail
  refine bodyPost_ret (v := .agg #[.int .u64 1, .int .u64 1, .int .u64 536870912, .int .u64 4, .int .u64 127]) (by simp [results, Tryd.results23, go_sem]) rfl ⟨rfl, (Below.refl _ w).alloc (Nat.le_refl _) _⟩
set_option maxRecDepth 100000 in
set_option maxHeartbeats 1000000 in
theorem hwakes_any (w : World) (hL : LaidC w) :
    Calls Tryd.prog 9 #[] w fun e w' => e = .returned (.bool true) ∧ Below w.heap.size w w' := by
  have HLP := Lib.hid leap_any
  have HNX := Lib.hid (fun W hW => next_any leapL 3981312000 W hW rfl)
  have HLS := Lib.hid (fun W hW => nlast_any leapL 4233686399 W hW rfl)
  have HSM := Lib.hid (fun W hW => some_any quarL 0 3600 9 W hW rfl)
  have hq : cronV quarL = .agg #[.int .u64 32769, .int .u64 16777215, .int .u64 4294967294, .int .u64 8190, .int .u64 127] := rfl
  unfold spanV at HSM
  rw [hq] at HSM
  have hl : cronV leapL = .agg #[.int .u64 1, .int .u64 1, .int .u64 536870912, .int .u64 4, .int .u64 127] := rfl
  rw [hl] at *
  clear hq hl
  have HL := Lib.hid hL
  clear hL
  go_enter Tryd.func9, Tryd.ntmps9
  go_wp2_with fail
  refine (HLP.out _).mono ?_
  rintro x w1 ⟨rfl, hb⟩
  have HX1 := Lib.hid hb
  clear hb
  go_wp2_with fail
  refine (HNX.out _ (HL.out.on HX1.out)).mono ?_
  rintro x w2 ⟨hx, hb⟩
  have HX2 := Lib.hid (HX1.out.trans (hb.mono HX1.out.size))
  clear hb HX1
  rcases hx with ⟨t, ht, rfl⟩ | ⟨hn, rfl⟩
  case inr => exact (next_none leap_next hn).elim
  obtain rfl := next_one leap_next ht
  clear ht
  go_wp2_with fail
  refine (HLP.out _).mono ?_
  rintro x w3 ⟨rfl, hb⟩
  have HX3 := Lib.hid (HX2.out.trans (hb.mono HX2.out.size))
  clear hb HX2
  go_wp2_with fail
  refine (HLS.out _ (HL.out.on HX3.out)).mono ?_
  rintro x w4 ⟨hx, hb⟩
  have HX4 := Lib.hid (HX3.out.trans (hb.mono HX3.out.size))
  clear hb HX3
  rcases hx with ⟨t, ht, rfl⟩ | ⟨hn, rfl⟩
  case inr => exact (last_none leap_last hn).elim
  obtain rfl := last_one leap_last ht
  clear ht
  go_wp2_with fail
  refine (HSM.out _ (HL.out.on HX4.out)).mono ?_
  rintro x w5 ⟨hx, hb⟩
  have HX5 := Lib.hid (HX4.out.trans (hb.mono HX4.out.size))
  clear hb HX4
  rcases hx with ⟨hk, _⟩ | ⟨_, hk, _⟩ | ⟨_, _, _, v, l, rfl, hv, hch⟩
  · exact absurd (hk.symm.trans quar_ok) (by simp)
  · omega
  obtain rfl := chain_one _ _ _ _ _ quar_chain hch
  obtain ⟨A, cp, rfl⟩ := own_slice0 hv
  have HAR := Lib.hid (own_arr hv)
  clear hv hch HNX HLS HSM HLP
  go_wp2_with fail
  have hB6 : Below w5.heap.size w5 (w5.alloc (.cells #[.int .i64 900, .int .i64 3600] 2)) := (Below.refl _ w5).alloc (Nat.le_refl _) _
  have hA1 := HAR.out.on hB6
  have hA2 : ArrT (w5.alloc (.cells #[.int .i64 900, .int .i64 3600] 2)) (some ⟨w5.heap.size, 0, none⟩) 2 [900, 3600] := by
    refine ⟨rfl, fun i x h => ⟨w5.heap.size, 0, rfl, by simp, ?_⟩⟩
    have hlt := (List.getElem?_eq_some_iff.1 h).1
    have hc : i = 0 ∨ i = 1 := by simp at hlt; omega
    rcases hc with rfl | rfl
    · cases h; simp
    · cases h; simp
  have HB7 := Lib.hid (HX5.out.trans (hB6.mono HX5.out.size))
  refine (equal_i64 A (some ⟨w5.heap.size, 0, none⟩) 2 cp 2 [900, 3600] _ (by unfold maxLen; omega) hA1 hA2).mono ?_
  rintro x w7 ⟨rfl, q, rfl⟩
  clear hB6 hA1 hA2 HAR
  have HB8 := Lib.hid (bdrewN HB7.out q)
  generalize (w5.alloc (.cells #[.int .i64 900, .int .i64 3600] 2)).drewN q = w8 at *
  go_wp2_with fail
  go_ret
  exact ⟨rfl, HB8.out⟩
end Go.Proofs.YtkimbmifabpppaaDoor
