/- CrcSeals, walked. -/
import Derived.Test.YtcfeijphiallfaaCTurned
import Derived.Test.YtcfeijphiallfaaCRows
import Derived.Deep.CutBlock
namespace Go.Proofs.Ytcfeijphiallfaa
open Go.RowKit

/-- What Open tells, in one form. -/
theorem open_one {bs : List Nat} {w w' : World} {e : Ending} (h : OpenIs bs w e w') : ∃ (A : Option Addr) (c : Nat) (ee : Nat) (l : List Nat), e = .returned (.tuple #[.slice A l.length c, .int .i64 (ee : Int)]) ∧ OwnB w' w.heap.size (.slice A l.length c) l ∧ l.length ≤ bs.length ∧
    ((bs.length < 4 ∧ ee = 7 ∧ l.length = 0) ∨ (4 ≤ bs.length ∧ ¬ opens bs ∧ ee = 130 ∧ l.length = 0) ∨ (4 ≤ bs.length ∧ opens bs ∧ ee = 0 ∧ l = bs.take (bs.length - 4))) := by
  obtain ⟨_, h⟩ := h
  rcases h with ⟨h4, rfl⟩ | ⟨h4, hn, rfl⟩ | ⟨ho, v, rfl, hown⟩
  · exact ⟨none, 0, 7, [], rfl, OwnB.nil _ _, by simp, .inl ⟨h4, rfl, rfl⟩⟩
  · exact ⟨none, 0, 130, [], rfl, OwnB.nil _ _, by simp, .inr (.inl ⟨h4, hn, rfl, rfl⟩)⟩
  · obtain ⟨A, c, rfl, _⟩ := hown.row
    exact ⟨A, c, 0, _, rfl, hown, by rw [List.length_take]; omega, .inr (.inr ⟨ho.1, ho, rfl, rfl⟩)⟩
set_option maxRecDepth 100000 in
set_option maxHeartbeats 2000000 in
theorem seals_walk (A : Option Addr) (n c : Nat) (W : World) (h : RowsB W W.heap.size A n) (hn : n ≤ 9223372036854775807) :
    Calls Try.prog 4 #[.slice A n c] W fun e W' => e = .returned (.bool true) ∧ Below W.heap.size W W' := by
  have H := Lib.hid h; have HN := Lib.hid hn
  clear h hn
  go_enter Try.func4, Try.ntmps4
  go_wp2_with fail
  refine (wakes_any W).mono ?_; rintro e w1 ⟨rfl, hb1⟩
  have B1 := Lib.hid hb1
  clear hb1
  go_wp2_with fail
  go_loopw [15] (fun i wr => ∃ k : Nat, k ≤ n ∧ k ≤ 8 ∧ i = .int .i64 k ∧ Below W.heap.size W wr) (fun i _ => n - (intOf i).toNat)
  case atStart => exact ⟨0, by omega, by omega, rfl, B1.out⟩
  case round =>
    obtain ⟨k, hk, hk8, rfl, hb⟩ := hrel
    have HB := Lib.hid hb
    clear B1
    have hn := HN.out
    by_cases hlt : k < n
    · obtain ⟨g, o, A', m, d, bs, rfl, hg, hcell, hrow⟩ := (H.out.below hb) k hlt
      have k0 : (0 : Int) ≤ (k : Int) := by omega
      have k1 : (k : Int) < (n : Int) := by omega
      by_cases h8 : k = 8
      · subst h8
        clear hb
        go_wp2_with fail
        go_ret
        exact ⟨rfl, HB.out⟩
      · have h8' : ((k : Int) == 8) = false := by simp; omega
        have R := Lib.hid hrow
        have Z := Lib.hid hb.size
        clear hb hrow
        go_wp2_with fail
        refine (few_any A' m d bs wr (R.out.mono Z.out)).mono ?_; rintro e w2 ⟨v2, rfl, ho2, hb2⟩
        obtain ⟨l, hl⟩ : ∃ l, l = bs.take 3000 := ⟨_, rfl⟩
        have hll : l.length ≤ 3000 := by rw [hl, List.length_take]; omega
        rw [← hl] at ho2
        obtain ⟨A2, c2, rfl, r2⟩ := ho2.row
        have R2 := Lib.hid r2; have B2 := Lib.hid (hb2.mono Z.out); have Z2 := Lib.hid (Nat.le_trans Z.out hb2.size)
        have HLL := Lib.hid hll; have HL := Lib.hid hl
        clear ho2 hb2 r2 hll hl
        go_wp2_with fail
        refine (seal_any A2 l.length c2 l w2 R2.out (by have := HLL.out; omega)).mono ?_; rintro e w3 ⟨v3, rfl, ho3, hb3⟩
        obtain ⟨s, hs⟩ : ∃ s, s = sealOf l := ⟨_, rfl⟩
        have hsl : s.length = l.length + 4 := by rw [hs]; exact seal_len l
        rw [← hs] at ho3
        obtain ⟨A3, c3, rfl, r3⟩ := ho3.row
        have O3 := Lib.hid ho3; have S3 := Lib.hid r3; have R3 := Lib.hid (R2.out.below hb3); have B3 := Lib.hid (B2.out.trans (hb3.mono Z2.out)); have Z3 := Lib.hid (Nat.le_trans Z2.out hb3.size); have ZS := Lib.hid hb3.size
        have HS := Lib.hid hs; have HSL := Lib.hid hsl
        clear ho3 r3 hb3 hs hsl R2 B2
        go_wp2_with fail
        refine (few_any A' m d bs w3 ((R.out.below B3.out).mono Z3.out)).mono ?_; rintro e w4 ⟨v4, rfl, ho4, hb4⟩
        rw [← HL.out] at ho4
        obtain ⟨A4, c4, rfl, r4⟩ := ho4.row
        have R4 := Lib.hid r4; have O4 := Lib.hid (O3.out.below hb4); have S4 := Lib.hid ((S3.out.below hb4).mono hb4.size); have L4 := Lib.hid (R3.out.below (hb4.mono ZS.out)); have B4 := Lib.hid (B3.out.trans (hb4.mono Z3.out)); have Z4 := Lib.hid (Nat.le_trans Z3.out hb4.size); have ZS4 := Lib.hid (Nat.le_trans ZS.out hb4.size)
        clear ho4 r4 hb4 O3 S3 R3 B3 Z3 ZS
        go_wp2_with fail
        refine (rseal_any A4 l.length c4 l w4 R4.out (by have := HLL.out; omega)).mono ?_; rintro e w5 ⟨v5, rfl, ho5, hb5⟩
        rw [← HS.out] at ho5
        obtain ⟨A5, c5, rfl, r5⟩ := ho5.row
        have R5 := Lib.hid r5; have O5 := Lib.hid (O4.out.below hb5); have S5 := Lib.hid ((S4.out.below hb5).mono hb5.size); have L5 := Lib.hid (L4.out.below (hb5.mono ZS4.out)); have B5 := Lib.hid (B4.out.trans (hb5.mono Z4.out)); have Z5 := Lib.hid (Nat.le_trans Z4.out hb5.size); have ZS5 := Lib.hid (Nat.le_trans ZS4.out hb5.size)
        clear ho5 r5 hb5 O4 S4 R4 L4 B4 Z4 ZS4
        go_wp2_with fail
        refine (same_bytes A3 A5 s.length c3 c5 _ _ s w5 S5.out R5.out).mono ?_; rintro e w6 ⟨rfl, q, rfl⟩
        have O6 := Lib.hid (O5.out.drewN q); have L6 := Lib.hid (L5.out.drewN q); have B6 := Lib.hid (below_drew B5.out q)
        have Z6 : Hid (W.heap.size ≤ (w5.drewN q).heap.size) := Z5.out
        have ZS6 : Hid (w2.heap.size ≤ (w5.drewN q).heap.size) := ZS5.out
        clear O5 L5 B5 Z5 ZS5 S5 R5
        generalize w5.drewN q = w6 at *
        go_wp2_with fail
        refine (open_any A2 l.length c2 l w6 (L6.out.mono ZS6.out) (by have := HLL.out; omega)).mono ?_; rintro e w7 h7
        have hb7 := h7.1
        obtain ⟨A7, c7, ee, lo, rfl, ho7, hlo, hcase⟩ := open_one h7
        have O7 := Lib.hid (O6.out.below hb7); have L7 := Lib.hid (L6.out.below (hb7.mono ZS6.out)); have B7 := Lib.hid (B6.out.trans (hb7.mono Z6.out)); have Z7 := Lib.hid (Nat.le_trans Z6.out hb7.size); have ZS7 := Lib.hid (Nat.le_trans ZS6.out hb7.size); have P7 := Lib.hid ho7
        have HLO := Lib.hid hlo; have HCASE := Lib.hid hcase; have ZO := Lib.hid hb7.size; have HLT6 := Lib.hid O6.out.lt
        clear h7 hb7 ho7 hlo hcase O6 L6 B6
        go_upto_block 2 with fail
        go_cut [37] from 38 to 72 (fun s37 wx => Below w7.heap.size w7 wx)
        case first =>
          rcases HCASE.out with ⟨h4, rfl, hz⟩ | ⟨h4, hno, rfl, hz⟩ | ⟨h4, hop, rfl, hle⟩
          · have i4 : (l.length : Int) < 4 := by omega
            have i5 : ((lo.length : Int) != 0) = false := by rw [hz]; rfl
            clear HCASE hz h4
            go_wp2_with fail
            go_meet
            exact Below.refl _ _
          · have i4 : ¬ ((l.length : Int) < 4) := by omega
            have i5 : ((lo.length : Int) != 0) = false := by rw [hz]; rfl
            clear HCASE hz
            go_wp2_with fail
            refine (few_any A' m d bs w7 ((R.out.below B7.out).mono Z7.out)).mono ?_; rintro e w8 ⟨v8, rfl, ho8, hb8⟩
            rw [← HL.out] at ho8
            obtain ⟨A8, c8, rfl, r8⟩ := ho8.row
            have R8 := Lib.hid r8
            clear ho8 r8
            have B8 := Lib.hid hb8
            clear hb8
            go_wp2_with fail
            refine (ropens_any A8 l.length c8 l w8 R8.out h4 (by have := HLL.out; omega)).mono ?_; rintro e w9 ⟨b, rfl, hbi, hb9⟩
            have hbf : b = false := by
              cases b
              · rfl
              · exact absurd (hbi.1 rfl) hno
            subst hbf
            have B9 := Lib.hid (B8.out.trans (hb9.mono B8.out.size))
            clear hbi hb9
            go_wp2_with fail
            go_meet
            exact B9.out
          · have i4 : ¬ ((l.length : Int) < 4) := by omega
            have hlk : lo.length = l.length - 4 := by rw [hle, List.length_take]; omega
            have hk4 : l.length = lo.length + 4 := by omega
            have hle2 : lo = l.take lo.length := by rw [hlk]; exact hle
            clear hle hlk
            have i6 : (l.length : Int) - 4 = (lo.length : Int) := by omega
            have i7 : (0 : Int) ≤ (lo.length : Int) := by omega
            have i8 : (lo.length : Int) ≤ (c2 : Int) := by have := L7.out.cap; omega
            have i9 : (lo.length : Int) ≤ 3000 := by have := HLL.out; omega
            have T7 := Lib.hid (L7.out.take (k := lo.length) (by omega))
            have HK := Lib.hid hk4; have HE2 := Lib.hid hle2
            clear HCASE hk4 hle2
            go_wp2_with fail
            refine (few_any A' m d bs w7 ((R.out.below B7.out).mono Z7.out)).mono ?_; rintro e w8 ⟨v8, rfl, ho8, hb8⟩
            rw [← HL.out] at ho8
            obtain ⟨A8, c8, rfl, r8⟩ := ho8.row
            have R8 := Lib.hid r8
            clear ho8 r8
            have B8 := Lib.hid hb8
            clear hb8
            go_wp2_with fail
            refine (ropens_any A8 l.length c8 l w8 R8.out h4 (by have := HLL.out; omega)).mono ?_; rintro e w9 ⟨b, rfl, hbi, hb9⟩
            have hbf : b = true := hbi.2 hop
            subst hbf
            have B9 := Lib.hid (B8.out.trans (hb9.mono B8.out.size))
            clear hbi hb9
            have T9 := Lib.hid (T7.out.below (B9.out.mono ZS7.out))
            obtain ⟨A'', c', he, r9⟩ := (P7.out.below (B9.out)).row
            cases he
            have T9' : Hid (RowB w9 w2.heap.size A2 lo.length c2 lo) := by have := T9.out; rwa [← HE2.out] at this
            have R9 := Lib.hid r9
            clear r9 T7 T9
            go_wp2_with fail
            refine (same_bytes A7 A2 lo.length c7 c2 _ _ lo w9 R9.out T9'.out).mono ?_; rintro e w10 ⟨rfl, q, rfl⟩
            go_wp2_with fail
            go_meet
            exact below_drew B9.out q
        case rest =>
          have hbx := hcut
          have O9 := Lib.hid (O7.out.below hbx); have L9 := Lib.hid (L7.out.below (hbx.mono ZS7.out)); have B9 := Lib.hid (B7.out.trans (hbx.mono Z7.out)); have Z9 := Lib.hid (Nat.le_trans Z7.out hbx.size); have ZS9 := Lib.hid (Nat.le_trans ZS7.out hbx.size); have P9 := Lib.hid (P7.out.below hbx)
          have ZO9 := Lib.hid (Nat.le_trans ZO.out hbx.size)
          clear hbx hcut O7 L7 B7 Z7 ZS7 P7 HCASE ZO
          have BW := Lib.hid (HB.out.trans B9.out); have RX := Lib.hid (R.out.below B9.out)
          clear R Z HB hcell
          go_wp2_with fail
          have hs0 : (0 : Int) ≤ (s.length : Int) := by omega
          have hs1 : (s.length : Int) ≤ 4000 := by have := HSL.out; have := HLL.out; omega
          have hl1 : (lo.length : Int) ≤ 4000 := by have := HLO.out; have := HLL.out; omega
          have hl0 : (0 : Int) ≤ (lo.length : Int) := by omega
          go_loopw [75] (fun i wr' => ∃ (j : Nat) (s' : List Nat), j ≤ s.length ∧ i = .int .i64 j ∧ OwnB wr' w2.heap.size (.slice A3 s.length c3) s' ∧ s'.length = s.length ∧ Below w2.heap.size wc wr' ∧ OwnB wr' w6.heap.size (.slice A7 lo.length c7) lo) (fun i _ => s.length - (intOf i).toNat)
          case atStart => exact ⟨0, s, by omega, rfl, O9.out, rfl, Below.refl _ _, P9.out⟩
          case round =>
            obtain ⟨j, s', hj, rfl, ho, hsl, hbj, hp⟩ := hrel
            have HO := Lib.hid ho; have HS' := Lib.hid hsl; have HBJ := Lib.hid hbj; have HP := Lib.hid hp
            clear ho hsl hbj hp
            by_cases hjl : j < s.length
            · obtain ⟨gs, e', hgs, _, hne', hcj, hfj, hset⟩ := HO.out.spot (i := j) (by rw [HS'.out]; exact hjl)
              have hlt6 := HLT6.out gs e'
              subst e'
              have hxb := byte_at HO.out.2 (show j < s'.length by rw [HS'.out]; exact hjl)
              have hset' := hset ((nthB s' j + 1) % 256) (Nat.mod_lt _ (by omega))
              have hsl' : (s'.set j ((nthB s' j + 1) % 256)).length = s.length := by rw [List.length_set, HS'.out]
              have hz : ((nthB s' j : Int) + 1) % 256 = (((nthB s' j + 1) % 256 : Nat) : Int) := by omega
              have hp' := HP.out.grown (grown_set (World.grownBy.refl _ _) (g := gs) j (bv ((nthB s' j + 1) % 256))) (fun k e => by cases e; exact hlt6)
              have hb' := HBJ.out.setCell (p := ⟨gs, j, none⟩) hgs (bv ((nthB s' j + 1) % 256))
              unfold bv at hcj hset' hp' hb'
              have HSET := Lib.hid hset'; have HSL' := Lib.hid hsl'; have HP' := Lib.hid hp'; have HB' := Lib.hid hb'
              clear hset hset' hsl' hp' hb' hne'
              generalize s'.set j ((nthB s' j + 1) % 256) = s2 at *
              generalize (nthB s' j + 1) % 256 = y at *
              generalize nthB s' j = x at *
              have j0 : (0 : Int) ≤ (j : Int) := by omega
              have j1 : (j : Int) < (s.length : Int) := by omega
              go_wp2_with fail
              go_roundw
              case rel => exact ⟨j + 1, s2, by omega, by go_num, HSET.out, HSL'.out, HB'.out, HP'.out⟩
              case measure => simp [intOf]; omega
            · have hje : j = s.length := by omega
              subst hje
              clear O9 P9 HO HS' HLT6
              go_wp2_with fail
              generalize hw1 : wr = we at *
              clear hw1
              go_loopw [87] (fun i wr' => ∃ (j : Nat) (s' : List Nat), j ≤ lo.length ∧ i = .int .i64 j ∧ OwnB wr' w6.heap.size (.slice A7 lo.length c7) s' ∧ s'.length = lo.length ∧ Below w2.heap.size wc wr') (fun i _ => lo.length - (intOf i).toNat)
              case atStart => exact ⟨0, lo, by omega, rfl, HP.out, rfl, HBJ.out⟩
              case round =>
                obtain ⟨j, s', hj2, rfl, ho, hsl, hbj⟩ := hrel
                have HO := Lib.hid ho; have HS' := Lib.hid hsl; have HBJ2 := Lib.hid hbj
                clear ho hsl hbj HBJ HP
                by_cases hjl2 : j < lo.length
                · obtain ⟨gs, e', hgs, _, hne', hcj, hfj, hset⟩ := HO.out.spot (i := j) (by rw [HS'.out]; exact hjl2)
                  subst e'
                  have hxb := byte_at HO.out.2 (show j < s'.length by rw [HS'.out]; exact hjl2)
                  have hset' := hset ((nthB s' j + 1) % 256) (Nat.mod_lt _ (by omega))
                  have hsl' : (s'.set j ((nthB s' j + 1) % 256)).length = lo.length := by rw [List.length_set, HS'.out]
                  have hz : ((nthB s' j : Int) + 1) % 256 = (((nthB s' j + 1) % 256 : Nat) : Int) := by omega
                  have hb' := HBJ2.out.setCell (p := ⟨gs, j, none⟩) (Nat.le_trans ZS6.out hgs) (bv ((nthB s' j + 1) % 256))
                  unfold bv at hcj hset' hb'
                  have HSET := Lib.hid hset'; have HSL' := Lib.hid hsl'; have HB' := Lib.hid hb'
                  clear hset hset' hsl' hb' hne'
                  generalize s'.set j ((nthB s' j + 1) % 256) = s2 at *
                  generalize (nthB s' j + 1) % 256 = y at *
                  generalize nthB s' j = x at *
                  have j0 : (0 : Int) ≤ (j : Int) := by omega
                  have j1 : (j : Int) < (lo.length : Int) := by omega
                  go_wp2_with fail
                  go_roundw
                  case rel => exact ⟨j + 1, s2, by omega, by go_num, HSET.out, HSL'.out, HB'.out⟩
                  case measure => simp [intOf]; omega
                · have hje2 : j = lo.length := by omega
                  subst hje2
                  have L10 := Lib.hid (L9.out.below HBJ2.out)
                  have R10 := Lib.hid (RX.out.below (HBJ2.out.mono Z2.out))
                  have B10 := Lib.hid (BW.out.trans (HBJ2.out.mono Z2.out))
                  have Z10 := Lib.hid (Nat.le_trans Z9.out HBJ2.out.size)
                  have ZS10 := Lib.hid (Nat.le_trans ZS9.out HBJ2.out.size)
                  clear L9 RX BW HO HS' HBJ2
                  go_wp2_with fail
                  refine (few_any A' m d bs _ (R10.out.mono Z10.out)).mono ?_; rintro e w11 ⟨v11, rfl, ho11, hb11⟩
                  rw [← HL.out] at ho11
                  obtain ⟨A11, c11, rfl, r11⟩ := ho11.row
                  have L11 := Lib.hid (L10.out.below (hb11.mono ZS10.out)); have R11 := Lib.hid r11; have B11 := Lib.hid (B10.out.trans (hb11.mono Z10.out))
                  clear ho11 r11 hb11 L10 R10 B10
                  go_wp2_with fail
                  refine (same_bytes A2 A11 l.length c2 c11 _ _ l w11 L11.out R11.out).mono ?_; rintro e w12 ⟨rfl, q, rfl⟩
                  have B12 := Lib.hid (below_drew B11.out q)
                  clear L11 R11 B11
                  generalize w11.drewN q = w12 at *
                  have k8 : (k : Int) ≤ 8 := by omega
                  go_wp2_with fail
                  go_roundw
                  case rel => exact ⟨k + 1, by omega, by omega, by go_num, B12.out⟩
                  case measure => simp [intOf]; omega
    · obtain rfl : k = n := by omega
      clear hb
      go_wp2_with fail
      go_ret
      exact ⟨rfl, HB.out⟩
end Go.Proofs.Ytcfeijphiallfaa
