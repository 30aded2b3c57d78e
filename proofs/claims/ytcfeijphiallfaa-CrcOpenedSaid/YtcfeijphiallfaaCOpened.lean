/- CrcOpened, walked. -/
import Derived.Test.YtcfeijphiallfaaCOwn
namespace Go.Proofs.Ytcfeijphiallfaa
open Go.RowKit

theorem at_mod (at' : Int) (n : Nat) (h : 0 < n) : ∃ i : Nat, i < n ∧ (IntKind.u64.wrap at').tmod (n : Int) = (i : Int) := by
  rw [IntKind.wrap_u64, Int.tmod_eq_emod_of_nonneg (Int.emod_nonneg _ (by omega))]
  have h1 := Int.emod_nonneg (at' % 18446744073709551616) (show (n : Int) ≠ 0 by omega)
  have h2 := Int.emod_lt_of_pos (at' % 18446744073709551616) (show (0 : Int) < (n : Int) by omega)
  exact ⟨(at' % 18446744073709551616 % (n : Int)).toNat, by omega, by omega⟩
set_option maxRecDepth 100000 in
set_option maxHeartbeats 1000000 in
theorem opened_walk (A : Option Addr) (n c : Nat) (bs : List Nat) (at' : Int) (by' : Nat) (W : World) (h : RowB W W.heap.size A n c bs) (hby : by' < 256) :
    Calls Try.prog 7 #[.slice A n c, .int .i64 at', .int .u8 (by' : Int)] W fun e W' => e = .returned (.bool true) ∧ Below W.heap.size W W' := by
  have H := Lib.hid h
  clear h
  go_enter Try.func7, Try.ntmps7
  go_wp2_with fail
  refine (wakes_any W).mono ?_; rintro e w1 ⟨rfl, hb1⟩
  have h1 := (H.out.below hb1).mono hb1.size
  have H1 := Lib.hid h1; have B1 := Lib.hid hb1
  clear h1 hb1
  go_wp2_with fail
  refine (few_any A n c bs w1 H1.out).mono ?_; rintro e w2 ⟨v2, rfl, ho2, hb2⟩
  have hlen : (bs.take 3000).length ≤ 3000 := by rw [List.length_take]; omega
  have ho2 := ho2.mono B1.out.size
  obtain ⟨A2, c2, rfl, r2⟩ := ho2.row
  have B2 := Lib.hid (B1.out.trans (hb2.mono B1.out.size)); have R2 := Lib.hid r2
  generalize bs.take 3000 = l at *
  clear ho2 hb2 r2 H1 B1
  go_wp2_with fail
  refine (seal_any A2 l.length c2 l w2 R2.out (by omega)).mono ?_; rintro e w3 ⟨v3, rfl, ho3, hb3⟩
  have hs := seal_len l
  obtain ⟨A3, c3, rfl, r3⟩ := ho3.row
  have B3 := Lib.hid (B2.out.trans (hb3.mono B2.out.size)); have R3 := Lib.hid r3; have O3 := Lib.hid (ho3.mono B2.out.size); have R23 := Lib.hid ((R2.out.below hb3).mono hb3.size)
  have hop : opens (sealOf l) := opens_seal
  have htk : (sealOf l).take ((sealOf l).length - 4) = l := by rw [hs, Nat.add_sub_cancel]; unfold sealOf; rw [List.take_left]
  rw [hs] at htk
  have hls := R3.out.len
  have HB := R3.out.byte
  have HBy := Lib.hid HB; have HOP := Lib.hid hop; have HTK := Lib.hid htk; have HS := Lib.hid hs
  rw [hs] at R3 O3 ⊢
  generalize sealOf l = s at *
  clear ho3 hb3 r3 B2 R2 hls HB hop htk hs
  go_wp2_with fail
  refine (open_any A3 (l.length + 4) c3 s w3 R3.out (by omega)).mono ?_; rintro e w4 ⟨hb4, h4⟩
  rcases h4 with ⟨h, _⟩ | ⟨_, h, _⟩ | ⟨_, v4, rfl, ho4⟩
  · rw [HS.out] at h; omega
  · exact absurd HOP.out h
  rw [HS.out, HTK.out] at ho4
  obtain ⟨A4, c4, rfl, r4⟩ := ho4.row
  have O4 := Lib.hid (O3.out.below hb4)
  have R24 := Lib.hid (R23.out.below hb4); have R4 := Lib.hid r4; have B4 := Lib.hid (B3.out.trans (hb4.mono B3.out.size))
  clear ho4 r4 hb4 B3 R3 O3 R23 ho2
  go_wp2_with fail
  refine (same_bytes A4 A2 l.length c4 c2 _ _ l w4 R4.out R24.out).mono ?_; rintro e w5 ⟨rfl, q, rfl⟩
  have O5 := Lib.hid (O4.out.drewN q); have B5 := Lib.hid (below_drew B4.out q)
  clear O4 B4 R4 R24
  generalize w4.drewN q = w5 at *
  obtain ⟨i, hi, hie⟩ := at_mod at' (l.length + 4) (by omega)
  obtain ⟨g, rfl, hg, hgl, hne, hcell, hfro, hset⟩ := O5.out.spot (i := i) (by rw [HS.out]; exact hi)
  have hxb := byte_at HBy.out (show i < s.length by rw [HS.out]; exact hi)
  have hone := opens_one (d := by') HBy.out (show i < s.length by rw [HS.out]; exact hi) hby HOP.out
  have hxl : nthB s i ^^^ by' < 256 := Nat.xor_lt_two_pow (n := 8) hxb hby
  have hset' := hset _ hxl
  have hxor : bits .xor .u8 (nthB s i : Int) (by' : Int) = ((nthB s i ^^^ by' : Nat) : Int) := u8_xor_nat _ _ hxb hby
  have hsl : (s.set i (nthB s i ^^^ by')).length = l.length + 4 := by rw [List.length_set, HS.out]
  have HONE := Lib.hid hone; have HSET := Lib.hid hset'; have HSL := Lib.hid hsl
  clear hone hset' hset hsl hne
  unfold bv at hcell HSET
  generalize s.set i (nthB s i ^^^ by') = s' at *
  generalize nthB s i = x at *
  generalize x ^^^ by' = y at *
  rw [Int.natCast_add, show ((4 : Nat) : Int) = 4 from rfl] at hie
  have i0 : (0 : Int) ≤ (i : Int) := by omega
  have i1 : (i : Int) < (l.length : Int) + 4 := by omega
  go_wp2_with fail
  have B6 := Lib.hid (B5.out.setCell (p := ⟨g, i, none⟩) hg (.int .u8 (y : Int)))
  obtain ⟨A6, c6, he6, r6⟩ := HSET.out.row
  rw [HSL.out] at he6 r6
  cases he6
  have R6 := Lib.hid r6
  clear r6 HSET hcell hfro O5 B5 hxor
  generalize w5.setCell ⟨g, i, none⟩ (.int .u8 (y : Int)) = w6 at *
  refine (open_any _ (l.length + 4) c3 s' w6 R6.out (by omega)).mono ?_; rintro e w7 ⟨hb7, h7⟩
  have B7 := Lib.hid (B6.out.trans (hb7.mono B6.out.size))
  clear hb7
  rcases h7 with ⟨h, _⟩ | ⟨_, h, rfl⟩ | ⟨h, v7, rfl, _⟩
  · rw [HSL.out] at h; omega
  · have hne : ((by' : Int) == 0) = false := by
      have := fun h0 => h (HONE.out.2 h0)
      simp; omega
    clear h
    go_wp2_with fail
    go_ret
    exact ⟨rfl, B7.out⟩
  · have hne : by' = 0 := HONE.out.1 h
    clear h
    subst hne
    go_wp2_with fail
    go_ret
    exact ⟨rfl, B7.out⟩
end Go.Proofs.Ytcfeijphiallfaa
