/- The document's Some: walked. -/
import Derived.Test.YtkimbmifabpppaaDoorKHRLast
namespace Go.Proofs.YtkimbmifabpppaaDoor
open Go.RowKit

set_option maxRecDepth 100000 in
set_option maxHeartbeats 1000000 in
theorem rsome_any (a b c d e : BitVec 64) (s0 s1 : Int) (mm : Nat) (w : World) (hk : crB [a, b, c, d, e] = true) (hm64 : mm ≤ 64) :
    Calls Tryd.prog 18 #[cronV [a, b, c, d, e], spanV s0 s1, .int .i64 (mm : Int)] w fun x w' => ∃ (v : Value) (l : List Int), x = .returned v ∧ w'.ownsRow w.heap.size 2 1 v l.length (l.map int1) ∧ Chain (TC [a, b, c, d, e]) s0 s1 mm l ∧ Below w.heap.size w w' := by
  have HNX := Lib.hid (fun t W => rnext_any a b c d e t W hk)
  obtain ⟨WB, hWB, hb, hc, hx, hs⟩ := span_cells w a b c d e s0 s1
  have HB := Lib.hid hb; have HC := Lib.hid hc; have HX := Lib.hid hx
  obtain ⟨c0, c1, c2, c3, c4⟩ := hc.five
  obtain ⟨e0, e1⟩ := two_box hx
  unfold spanV
  rw [cronV_five] at *
  unfold fiveV at *
  clear hb hc hx
  go_enter Tryd.func18, Tryd.ntmps18
  go_wp2_with fail
  rw [← hWB]
  clear hWB
  obtain ⟨i0, hi, hz0, hz1, hz2⟩ := info_parts info_i64
  clear e0 e1 c0 c1 c2 c3 c4
  go_loopw [7, 8] (fun v at_ wr => ∃ (k : Nat) (l : List Int) (u : Int) (A : Option Addr) (cp : Nat), k ≤ mm ∧ v = .slice A k cp ∧ at_ = .int .i64 u ∧ l.length = k ∧ wr.ownsRow WB.heap.size 2 1 (.slice A k cp) l.length (l.map int1) ∧ Hid (∀ r, Chain (TC [a, b, c, d, e]) u s1 (mm - k) r → Chain (TC [a, b, c, d, e]) s0 s1 mm (l ++ r)) ∧ Below WB.heap.size WB wr) (fun v _ _ => match v with | .slice _ n _ => mm - n | _ => 0)
  case atStart => exact ⟨0, [], s0, none, 0, Nat.zero_le _, rfl, rfl, rfl, World.ownsRow_nil _ _ _ _, Lib.hid (fun r h => h), Below.refl _ _⟩
  case round =>
    obtain ⟨k, l, u, A, cp, hk, rfl, rfl, rfl, hrow, HCH, hb⟩ := hrel
    have hkm : l.length ≤ maxLen := by unfold maxLen; omega
    by_cases hlt : l.length < mm
    · have HROW := Lib.hid hrow; have HBR := Lib.hid hb
      obtain ⟨c0, c1, c2, c3, c4⟩ := (HC.out.on hb).five
      have HN := Lib.hid (HNX.out u wr)
      clear hrow hb
      go_wp2_with fail
      refine HN.out.mono ?_
      rintro x w2 ⟨hx, hb⟩
      have HB2 := Lib.hid (HBR.out.trans (hb.mono HBR.out.size))
      have HROW2 := Lib.hid (own_below HROW.out hb)
      clear hb HROW HBR HN c0 c1 c2 c3 c4
      obtain ⟨e0, e1⟩ := two_box (D.Box.belowAll HX.out HB2.out)
      rcases hx with ⟨t, ht, rfl⟩ | ⟨hn, rfl⟩
      · by_cases hts : s1 < t
        · have hd : decide (s1 < t) = true := decide_eq_true hts
          have hch : Chain (TC [a, b, c, d, e]) u s1 (mm - l.length) [] := by
            obtain ⟨j, hj⟩ : ∃ j, mm - l.length = j + 1 := ⟨mm - l.length - 1, by omega⟩
            rw [hj]; exact chain_past ht hts
          have HF := Lib.hid (HCH.out [] hch)
          clear ht hch HCH
          go_wp2_with fail
          go_ret
          exact ⟨_, l, rfl, own_low HROW2.out (by omega), by simpa using HF.out, HB.out.trans (HB2.out.mono HB.out.size)⟩
        · have hd : decide (s1 < t) = false := decide_eq_false hts
          have HF : Hid (∀ r, Chain (TC [a, b, c, d, e]) t s1 (mm - (l.length + 1)) r → Chain (TC [a, b, c, d, e]) s0 s1 mm ((l ++ [t]) ++ r)) := Lib.hid (fun r hr => by
            rw [List.append_assoc]
            refine HCH.out _ ?_
            obtain ⟨j, hj⟩ : ∃ j, mm - l.length = j + 1 := ⟨mm - l.length - 1, by omega⟩
            rw [hj]
            exact chain_next ht (by omega) (by rw [show mm - (l.length + 1) = j by omega] at hr; exact hr))
          clear ht HCH
          have hrow := HROW2.out
          have hle := HB2.out.size
          have hll : l.length ≤ 64 := by omega
          go_wp2_with (at_builtin; refine wpList_append_own _ rfl _ _ 26 rfl WB.heap.size 2 i0 (.int .i64 0) 1 8 Tryd.underlying26 hi hz0 hz1 hz2 rfl (by decide) _ _ _ rfl (hrow.alloc _) ⟨w2.heap.size, 0, none⟩ 1 1 [.int .i64 t] rfl rfl (cell_one_new _ _ _) (by simp [Value.oneCell']) (by unfold maxLen; omega) (by omega) (by simp; omega) ?_; intro v' w5 hown5 hgrow5 _; obtain ⟨A5, c5, rfl⟩ := own_slice0 hown5)
          go_roundw
          case rel =>
            exact ⟨l.length + 1, l ++ [t], t, A5, c5, by omega, rfl, rfl, by simp, by simpa [int1] using hown5, HF, (HB2.out.alloc hle (.cells #[.int .i64 t] 2)).grown hgrow5 (by simp; omega) (fun j e => (hrow.lt j e).1)⟩
          case measure => simp; omega
      · have hch : Chain (TC [a, b, c, d, e]) u s1 (mm - l.length) [] := by
          obtain ⟨j, hj⟩ : ∃ j, mm - l.length = j + 1 := ⟨mm - l.length - 1, by omega⟩
          rw [hj]; exact chain_stop (TC_times _) (TC_window _) hn
        have HF := Lib.hid (HCH.out [] hch)
        clear hn hch HCH
        go_wp2_with fail
        go_ret
        exact ⟨_, l, rfl, own_low HROW2.out (by omega), by simpa using HF.out, HB.out.trans (HB2.out.mono HB.out.size)⟩
    · have hkm2 : l.length = mm := by omega
      have HF : Hid (Chain (TC [a, b, c, d, e]) s0 s1 mm l) := Lib.hid (by
        have := HCH.out [] (by rw [hkm2, Nat.sub_self]; exact chain_zero _ _ _)
        simpa using this)
      have HROW2 := Lib.hid hrow; have HB2 := Lib.hid hb
      clear HCH hrow hb
      go_wp2_with fail
      go_ret
      exact ⟨_, l, rfl, own_low HROW2.out (by omega), by simpa using HF.out, HB.out.trans (HB2.out.mono HB.out.size)⟩
end Go.Proofs.YtkimbmifabpppaaDoor
