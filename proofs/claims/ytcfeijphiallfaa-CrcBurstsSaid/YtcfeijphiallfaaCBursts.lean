/- CrcBursts, walked. -/
import Derived.Test.YtcfeijphiallfaaCTurned
namespace Go.Proofs.Ytcfeijphiallfaa
open Go.RowKit

set_option maxRecDepth 100000 in
set_option maxHeartbeats 1000000 in
theorem bursts_walk (A : Option Addr) (n c : Nat) (bs : List Nat) (at' : Int) (bits' : Nat) (W : World) (h : RowB W W.heap.size A n c bs) (hbits : bits' < 4294967296) :
    Calls Try.prog 6 #[.slice A n c, .int .i64 at', .int .u32 (bits' : Int)] W fun e W' => e = .returned (.bool true) ∧ Below W.heap.size W W' := by
  have H := Lib.hid h
  clear h
  go_enter Try.func6, Try.ntmps6
  go_wp2_with fail
  refine (wakes_any W).mono ?_; rintro e w1 ⟨rfl, hb1⟩
  have h1 := (H.out.below hb1).mono hb1.size
  have H1 := Lib.hid h1; have B1 := Lib.hid hb1
  clear h1 hb1
  go_wp2_with fail
  refine (few_any A n c bs w1 H1.out).mono ?_; rintro e w2 ⟨v2, rfl, ho2, hb2⟩
  have hlen : (bs.take 3000).length ≤ 3000 := by rw [List.length_take]; omega
  have ho2 := ho2.mono B1.out.size
  obtain ⟨A2, c2, rfl, r2⟩ := ho2.row
  have B2 := Lib.hid (B1.out.trans (hb2.mono B1.out.size)); have R2 := Lib.hid r2; have O2 := Lib.hid ho2
  generalize bs.take 3000 = l at *
  clear ho2 hb2 r2 H1 B1
  go_wp2_with fail
  refine (sum_any A2 l.length c2 l w2 R2.out).mono ?_; rintro e w3 ⟨rfl, hb3⟩
  have B3 := Lib.hid (B2.out.trans (hb3.mono B2.out.size)); have R3 := Lib.hid ((R2.out.below hb3).mono hb3.size); have O3 := Lib.hid (O2.out.below hb3)
  have hby := R2.out.byte
  have HBY := Lib.hid hby
  clear hb3 B2 R2 O2 hby
  go_wp2_with fail
  refine (seal_any A2 l.length c2 l w3 R3.out (by omega)).mono ?_; rintro e w4 ⟨v4, rfl, ho4, hb4⟩
  have hs := seal_len l
  obtain ⟨A4, c4, rfl⟩ : ∃ A4 c4, v4 = .slice A4 (sealOf l).length c4 := by obtain ⟨A4, c4, h, _⟩ := ho4.row; exact ⟨A4, c4, h⟩
  have O4 := Lib.hid (O3.out.below hb4)
  have HLT := Lib.hid O3.out.lt
  have S4 := Lib.hid ho4
  have B4 := Lib.hid (B3.out.trans (hb4.mono B3.out.size)); have Z4 := Lib.hid hb4.size
  have hop : opens (sealOf l) := opens_seal
  have HOP := Lib.hid hop; have HS := Lib.hid hs
  have Z3 := Lib.hid B3.out.size
  rw [hs] at S4 ⊢
  generalize sealOf l = s at *
  clear ho4 hb4 R3 O3 B3 hop hs
  go_wp2_with fail
  refine (turned_any A2 l.length c2 W.heap.size l at' bits' w4 O4.out rfl (by omega) hbits (by have := B4.out.size; omega)).mono ?_; rintro e w5 ⟨any1, rfl, l1, f1, m1, T1, g1, hm1, hT1, ha1, hl1, hle1, ho5, _, hkeep, hb5⟩
  have hst := sum_turn HBY.out ho5.2 hl1 hm1 hle1 hT1
  obtain ⟨A', c', he, r5⟩ := ho5.row
  rw [hl1] at he r5
  cases he
  have S5 := Lib.hid (hkeep _ _ _ HLT.out S4.out); have R5 := Lib.hid r5; have B5 := Lib.hid (B4.out.trans hb5); have Z5 := Lib.hid (Nat.le_trans Z4.out hb5.size)
  have hd1 : (((sumOf l1 : Nat) : Int) != ((sumOf l : Nat) : Int)) = any1 := by
    cases any1
    · have : T1 = 0 := by have := ha1.2; simp at this; omega
      rw [hst.2 this]; simp
    · have h1 := ha1.1 rfl
      have : ¬ sumOf l1 = sumOf l := fun h => h1 (hst.1 h)
      simp; omega
  have HD1 := Lib.hid hd1
  clear hkeep r5 hb5 hst hle1 ho5 ha1 hT1 hm1 hd1 HLT S4 O4 B4 Z4 ho2
  go_wp2_with fail
  refine (sum_any A2 l.length _ l1 w5 R5.out).mono ?_; rintro e w6 ⟨rfl, hb6⟩
  have hd2 := HD1.out
  have S6 := Lib.hid (S5.out.below hb6); have B6 := Lib.hid (B5.out.trans (hb6.mono B5.out.size)); have Z6 := Lib.hid (Nat.le_trans Z5.out hb6.size)
  clear hb6 S5 R5 B5 Z5 HD1
  generalize sumOf l1 = x1 at *
  generalize sumOf l = x0 at *
  go_wp2_with fail
  refine (turned_any A4 (l.length + 4) c4 w3.heap.size s at' bits' w6 S6.out HS.out (by omega) hbits Z6.out).mono ?_; rintro e w7 ⟨any2, rfl, l2, f2, m2, T2, g2, hm2, hT2, ha2, hl2, hle2, ho7, _, _, hb7⟩
  have hot := opens_turn (l := s) (l' := l2) (B := T2) (from' := f2) (m := m2) S6.out.2 ho7.2 (by rw [hl2, HS.out]) (by rw [HS.out]; exact hm2) hle2 hT2 HOP.out
  obtain ⟨A', c', he, r7⟩ := ho7.row
  rw [hl2] at he r7
  cases he
  have R7 := Lib.hid r7; have B7 := Lib.hid (B6.out.trans (hb7.mono Z3.out)); have HOT := Lib.hid hot; have HA2 := Lib.hid ha2; have HL2 := Lib.hid hl2
  clear r7 hb7 hot hle2 ho7 ha2 hT2 hm2 S6 B6 Z6 hl2 hd2
  go_wp2_with fail
  refine (open_any _ (l.length + 4) _ l2 w7 R7.out (by omega)).mono ?_; rintro e w8 ⟨hb8, h8⟩
  have B8 := Lib.hid (B7.out.trans (hb8.mono B7.out.size))
  clear hb8
  rcases h8 with ⟨h, _⟩ | ⟨_, h, rfl⟩ | ⟨h, v8, rfl, _⟩
  · rw [HL2.out] at h; omega
  · have ht : any2 = true := HA2.out.2 (fun h0 => h (HOT.out.2 h0))
    clear h
    subst ht
    go_wp2_with fail
    go_ret
    exact ⟨rfl, B8.out⟩
  · have ht : any2 = false := by
      have := HOT.out.1 h
      cases any2
      · rfl
      · exact absurd this (HA2.out.1 rfl)
    clear h
    subst ht
    go_wp2_with fail
    go_ret
    exact ⟨rfl, B8.out⟩
end Go.Proofs.Ytcfeijphiallfaa
