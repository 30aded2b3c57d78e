/- CrcLinear, walked. -/
import Derived.Test.YtcfeijphiallfaaCLinM
import Derived.Test.YtcfeijphiallfaaCTurned
namespace Go.Proofs.Ytcfeijphiallfaa
open Go.RowKit

set_option maxRecDepth 100000 in
set_option maxHeartbeats 1000000 in
theorem linear_walk (A1 A2 A3 : Option Addr) (n1 c1 n2 c2 n3 c3 : Nat) (x1 x2 x3 : List Nat) (W : World) (h1 : RowB W W.heap.size A1 n1 c1 x1) (h2 : RowB W W.heap.size A2 n2 c2 x2) (h3 : RowB W W.heap.size A3 n3 c3 x3) :
    Calls Try.prog 5 #[.slice A1 n1 c1, .slice A2 n2 c2, .slice A3 n3 c3] W fun e W' => e = .returned (.bool true) ∧ Below W.heap.size W W' := by
  have H1 := Lib.hid h1; have H2 := Lib.hid h2; have H3 := Lib.hid h3
  clear h1 h2 h3
  go_enter Try.func5, Try.ntmps5
  go_wp2_with fail
  refine (wakes_any W).mono ?_; rintro e w1 ⟨rfl, hb1⟩
  have B1 := Lib.hid hb1
  have R1 := Lib.hid ((H1.out.below hb1).mono hb1.size)
  clear hb1
  go_wp2_with fail
  refine (few_any A1 n1 c1 x1 w1 R1.out).mono ?_; rintro e w2 ⟨v2, rfl, ho2, hb2⟩
  have hl1 : (x1.take 3000).length ≤ 3000 := by rw [List.length_take]; omega
  obtain ⟨A4, c4, rfl, r2⟩ := ho2.row
  have B2 := Lib.hid (B1.out.trans (hb2.mono B1.out.size)); have RA2 := Lib.hid r2
  have R2 := Lib.hid ((H2.out.below B2.out).mono B2.out.size)
  generalize x1.take 3000 = la at *
  clear ho2 hb2 r2 R1 B1 H1
  go_wp2_with fail
  refine (few_any A2 n2 c2 x2 w2 R2.out).mono ?_; rintro e w3 ⟨v3, rfl, ho3, hb3⟩
  have hl2 : (x2.take 3000).length ≤ 3000 := by rw [List.length_take]; omega
  obtain ⟨A5, c5, rfl, r3⟩ := ho3.row
  have B3 := Lib.hid (B2.out.trans (hb3.mono B2.out.size)); have RB3 := Lib.hid r3
  have RA3 := Lib.hid ((RA2.out.below hb3).mono hb3.size)
  have R3 := Lib.hid ((H3.out.below B3.out).mono B3.out.size)
  generalize x2.take 3000 = lb at *
  clear ho3 hb3 r3 R2 B2 H2 RA2
  go_wp2_with fail
  refine (few_any A3 n3 c3 x3 w3 R3.out).mono ?_; rintro e w4 ⟨v4, rfl, ho4, hb4⟩
  have hl3 : (x3.take 3000).length ≤ 3000 := by rw [List.length_take]; omega
  obtain ⟨A6, c6, rfl, r4⟩ := ho4.row
  have B4 := Lib.hid (B3.out.trans (hb4.mono B3.out.size)); have RC4 := Lib.hid r4
  have RA4 := Lib.hid ((RA3.out.below hb4).mono hb4.size)
  have RB4 := Lib.hid ((RB3.out.below hb4).mono hb4.size)
  generalize x3.take 3000 = lc at *
  clear ho4 hb4 r4 R3 B3 H3 RA3 RB3
  go_wp2_with fail
  refine (sum_any A4 la.length c4 la w4 RA4.out).mono ?_; rintro e w5 ⟨rfl, hb5⟩
  have ha0 : sumOf la < 4294967296 := sumOf_lt RA4.out.byte
  have B5 := Lib.hid (B4.out.trans (hb5.mono B4.out.size))
  have RA5 := Lib.hid ((RA4.out.below hb5).mono hb5.size)
  have RB5 := Lib.hid ((RB4.out.below hb5).mono hb5.size)
  have RC5 := Lib.hid ((RC4.out.below hb5).mono hb5.size)
  clear hb5 B4 RA4 RB4 RC4
  go_wp2_with fail
  refine (more_any (sumOf la) A5 lb.length c5 lb w5 RB5.out ha0).mono ?_; rintro e w6 ⟨rfl, hb6⟩
  rw [more_sum]
  have hab : sumOf (la ++ lb) < 4294967296 := sumOf_lt (fun x hx => (List.mem_append.1 hx).elim (RA5.out.byte x) (RB5.out.byte x))
  have B6 := Lib.hid (B5.out.trans (hb6.mono B5.out.size))
  have RA6 := Lib.hid ((RA5.out.below hb6).mono hb6.size)
  have RB6 := Lib.hid ((RB5.out.below hb6).mono hb6.size)
  have RC6 := Lib.hid ((RC5.out.below hb6).mono hb6.size)
  clear hb6 B5 RA5 RB5 RC5
  go_wp2_with fail
  refine (more_any (sumOf (la ++ lb)) A6 lc.length c6 lc w6 RC6.out hab).mono ?_; rintro e w7 ⟨rfl, hb7⟩
  rw [more_sum]
  obtain ⟨S, hS⟩ : ∃ S, S = sumOf (la ++ lb ++ lc) := ⟨_, rfl⟩
  rw [← hS]
  have HS := Lib.hid hS
  clear hS
  have B7 := Lib.hid (B6.out.trans (hb7.mono B6.out.size))
  have RA7 := Lib.hid ((RA6.out.below hb7).mono hb7.size)
  have RB7 := Lib.hid ((RB6.out.below hb7).mono hb7.size)
  have RC7 := Lib.hid ((RC6.out.below hb7).mono hb7.size)
  clear hb7 B6 RA6 RB6 RC6 hab
  -- the three rows in one
  obtain ⟨S3, hS3⟩ : ∃ S3, S3 = #[Value.slice A4 la.length c4, .slice A5 lb.length c5, .slice A6 lc.length c6] := ⟨_, rfl⟩
  have hb8 : Below w7.heap.size w7 (w7.alloc (.cells S3 24)) := (Below.refl _ w7).alloc (Nat.le_refl _) _
  have hbx8 : Box (w7.alloc (.cells S3 24)) w7.heap.size 24 S3 := Box.new _ _ _
  have hsz8 : (w7.alloc (.cells S3 24)).heap.size = w7.heap.size + 1 := by simp
  have RA8 := (RA7.out.below hb8).mono (show w7.heap.size ≤ w7.heap.size + 1 by omega)
  have RB8 := (RB7.out.below hb8).mono (show w7.heap.size ≤ w7.heap.size + 1 by omega)
  have RC8 := (RC7.out.below hb8).mono (show w7.heap.size ≤ w7.heap.size + 1 by omega)
  have hcat := concat_any w7.heap.size (w7.heap.size + 1) (fun | 0 => A4 | 1 => A5 | _ => A6) (fun | 0 => c4 | 1 => c5 | _ => c6) (fun | 0 => la | 1 => lb | _ => lc) (w7.alloc (.cells S3 24)) (by rw [hsz8]; omega) (by omega) (fun k hk => by
    rcases (show k = 0 ∨ k = 1 ∨ k = 2 by omega) with rfl | rfl | rfl
    · exact ⟨by rw [hbx8.cell 0, hS3]; rfl, RA8, hl1⟩
    · exact ⟨by rw [hbx8.cell 1, hS3]; rfl, RB8, hl2⟩
    · exact ⟨by rw [hbx8.cell 2, hS3]; rfl, RC8, hl3⟩)
  rw [cat3] at hcat
  have HCAT := Lib.hid hcat
  have B8 := Lib.hid (B7.out.trans (hb8.mono B7.out.size))
  have Z8 := Lib.hid hb8.size
  subst hS3
  clear hcat RA8 RB8 RC8 hsz8 hbx8
  go_wp2_with fail
  refine HCAT.out.mono ?_; rintro e w9 ⟨v9, rfl, ho9, hb9⟩
  obtain ⟨A9, c9, rfl, r9⟩ := ho9.row
  obtain ⟨n9, hn9⟩ : ∃ n9, n9 = (la ++ lb ++ lc).length := ⟨_, rfl⟩
  rw [← hn9] at r9 ⊢
  have B9 := Lib.hid (B8.out.trans (hb9.mono B8.out.size))
  have hz9 := Nat.le_trans Z8.out hb9.size
  have hb79 : Below w7.heap.size w7 w9 := hb8.trans (hb9.mono Z8.out)
  have RA9 := Lib.hid ((RA7.out.below hb79).mono hz9)
  have RB9 := Lib.hid ((RB7.out.below hb79).mono hz9)
  have RC9 := Lib.hid ((RC7.out.below hb79).mono hz9)
  have R9 := Lib.hid r9
  clear HCAT B8 Z8 ho9 hb9 hb8 hb79 hz9 r9 hn9 RA7 RB7 RC7 B7
  go_wp2_with fail
  refine (sum_any A9 n9 c9 _ w9 R9.out).mono ?_; rintro e w10 ⟨rfl, hb10⟩
  rw [← HS.out]
  have B10 := Lib.hid (B9.out.trans (hb10.mono B9.out.size))
  have RA10 := Lib.hid ((RA9.out.below hb10).mono hb10.size)
  have RB10 := Lib.hid ((RB9.out.below hb10).mono hb10.size)
  have RC10 := Lib.hid ((RC9.out.below hb10).mono hb10.size)
  clear hb10 B9 RA9 RB9 RC9 R9
  go_wp2_with fail
  refine (sum_any A4 la.length c4 la w10 RA10.out).mono ?_; rintro e w11 ⟨rfl, hb11⟩
  have B11 := Lib.hid (B10.out.trans (hb11.mono B10.out.size))
  have RA11 := Lib.hid ((RA10.out.below hb11).mono hb11.size)
  have RB11 := Lib.hid ((RB10.out.below hb11).mono hb11.size)
  have RC11 := Lib.hid ((RC10.out.below hb11).mono hb11.size)
  clear hb11 B10 RA10 RB10 RC10
  go_wp2_with fail
  refine (more_any (sumOf la) none 0 0 [] w11 (RowB.none_ _ _) ha0).mono ?_; rintro e w12 ⟨rfl, hb12⟩
  rw [more_nil]
  have B12 := Lib.hid (B11.out.trans (hb12.mono B11.out.size))
  have RA12 := Lib.hid ((RA11.out.below hb12).mono hb12.size)
  have RB12 := Lib.hid ((RB11.out.below hb12).mono hb12.size)
  have RC12 := Lib.hid ((RC11.out.below hb12).mono hb12.size)
  clear hb12 B11 RA11 RB11 RC11
  go_wp2_with fail
  refine (sum_any A4 la.length c4 la w12 RA12.out).mono ?_; rintro e w13 ⟨rfl, hb13⟩
  have B13 := Lib.hid (B12.out.trans (hb13.mono B12.out.size))
  have RA13 := Lib.hid ((RA12.out.below hb13).mono hb13.size)
  have RB13 := Lib.hid ((RB12.out.below hb13).mono hb13.size)
  have RC13 := Lib.hid ((RC12.out.below hb13).mono hb13.size)
  clear hb13 B12 RA12 RB12 RC12
  obtain ⟨n, na, nb, nc, hmin⟩ := min_three #[3, 3, 3] 3 la.length lb.length lc.length
  obtain ⟨zs, hzs, hz0, hmk⟩ := make_u8 n n (by omega) (by omega)
  have hb14 := gr_alloc B13.out (.cells zs 5)
  have hb13 : Below w13.heap.size w13 (w13.alloc (.cells zs 5)) := (Below.refl _ w13).alloc (Nat.le_refl _) _
  have RA14 := Lib.hid (RA13.out.below hb13); have RB14 := Lib.hid (RB13.out.below hb13); have RC14 := Lib.hid (RC13.out.below hb13)
  have hbx : Box (w13.alloc (.cells zs 5)) w13.heap.size 5 zs := Box.new _ _ _
  have hown : OwnB (w13.alloc (.cells zs 5)) w13.heap.size (.slice (some ⟨w13.heap.size, 0, none⟩) (List.replicate n 0).length n) (List.replicate n 0) :=
    OwnB.head (Nat.le_refl _) hbx hzs (by simp) (by unfold maxLen; omega) (fun x hx => by rw [(List.mem_replicate.1 hx).2]; omega) (fun j hj => by
      have hj' : j < n := by simpa using hj
      rw [hz0 j hj', nthB_get _ _ hj]; simp)
  rw [List.length_replicate] at hown
  have HOWN := Lib.hid hown; have B14 := Lib.hid hb14; have Z13 := Lib.hid B13.out.size; have BB := Lib.hid (Below.refl w13.heap.size (w13.alloc (.cells zs 5)))
  have ZZ : Hid (w13.heap.size ≤ (w13.alloc (.cells zs 5)).heap.size) := by show w13.heap.size ≤ _; simp
  clear hbx hown hb14 hb13 RA13 RB13 RC13 B13 hzs hz0
  have hn := Lib.hid (show n ≤ 3000 by omega)
  go_wp2_with fail
  generalize w13.alloc (.cells zs 5) = w14 at *
  obtain ⟨g, hg⟩ : ∃ g, g = w13.heap.size := ⟨_, rfl⟩
  rw [← hg] at RA14 RB14 RC14 HOWN Z13 BB ZZ ⊢
  clear hmin hmk hg hl1 hl2 hl3 ha0 HS
  have HNA := Lib.hid na; have HNB := Lib.hid nb; have HNC := Lib.hid nc
  clear na nb nc
  go_loopw [50] (fun i wr => ∃ (k : Nat) (l : List Nat), k ≤ n ∧ i = .int .i64 k ∧ OwnB wr g (.slice (some ⟨g, 0, none⟩) n n) l ∧ l.length = n ∧ (∀ j, j < k → nthB l j = nthB la j ^^^ nthB lb j ^^^ nthB lc j) ∧ Below g w14 wr) (fun i _ => n - (intOf i).toNat)
  case atStart => exact ⟨0, _, by omega, rfl, HOWN.out, by simp, fun j hj => absurd hj (by omega), BB.out⟩
  case round =>
    obtain ⟨k, l, hk, rfl, ho, hll, hall, hb⟩ := hrel
    have HO := Lib.hid ho; have HLL := Lib.hid hll; have HALL := Lib.hid hall; have HBB := Lib.hid hb
    clear ho hll hall HOWN BB
    by_cases hlt : k < n
    · obtain ⟨ga, oa, ea, _, ca⟩ := (RA14.out.below hb).at_ k (by have := HNA.out; omega)
      obtain ⟨gb, ob, eb, _, cb⟩ := (RB14.out.below hb).at_ k (by have := HNB.out; omega)
      obtain ⟨gc, oc, ec, _, cc⟩ := (RC14.out.below hb).at_ k (by have := HNC.out; omega)
      obtain ⟨g', e', _, _, hne', hcell, hfro, hset⟩ := HO.out.spot (i := k) (by rw [HLL.out]; exact hlt)
      cases e'
      have ba := byte_at RA14.out.byte (k := k) (by have := HNA.out; omega)
      have bb := byte_at RB14.out.byte (k := k) (by have := HNB.out; omega)
      have bc := byte_at RC14.out.byte (k := k) (by have := HNC.out; omega)
      have bab : nthB la k ^^^ nthB lb k < 256 := Nat.xor_lt_two_pow (n := 8) ba bb
      have babc : nthB la k ^^^ nthB lb k ^^^ nthB lc k < 256 := Nat.xor_lt_two_pow (n := 8) bab bc
      have hx1 : bits .xor .u8 (nthB la k : Int) (nthB lb k : Int) = ((nthB la k ^^^ nthB lb k : Nat) : Int) := u8_xor_nat _ _ ba bb
      have hx2 : bits .xor .u8 ((nthB la k ^^^ nthB lb k : Nat) : Int) (nthB lc k : Int) = ((nthB la k ^^^ nthB lb k ^^^ nthB lc k : Nat) : Int) := u8_xor_nat _ _ bab bc
      have hset' := hset _ babc
      have hall' : ∀ j, j < k + 1 → nthB (l.set k (nthB la k ^^^ nthB lb k ^^^ nthB lc k)) j = nthB la j ^^^ nthB lb j ^^^ nthB lc j := fun j hj => by
        by_cases hjk : k = j
        · subst hjk; rw [nthB_set_eq _ _ _ (by rw [HLL.out]; exact hlt)]
        · rw [nthB_set_ne _ _ _ _ hjk]; exact HALL.out j (by omega)
      have hsl : (l.set k (nthB la k ^^^ nthB lb k ^^^ nthB lc k)).length = n := by rw [List.length_set, HLL.out]
      have ia : (k : Int) < (la.length : Int) := by have := HNA.out; omega
      have ib : (k : Int) < (lb.length : Int) := by have := HNB.out; omega
      have ic : (k : Int) < (lc.length : Int) := by have := HNC.out; omega
      have HSET := Lib.hid hset'; have HALL' := Lib.hid hall'; have HSL := Lib.hid hsl
      clear hset' hall' hsl hset hne' hb
      unfold bv at hcell ca cb cc HSET
      generalize l.set k (nthB la k ^^^ nthB lb k ^^^ nthB lc k) = l' at *
      generalize nthB la k ^^^ nthB lb k ^^^ nthB lc k = y at *
      generalize nthB la k ^^^ nthB lb k = z at *
      generalize nthB la k = xa at *
      generalize nthB lb k = xb at *
      generalize nthB lc k = xc at *
      generalize nthB l k = x0 at *
      subst ea eb ec
      have k0 : (0 : Int) ≤ (k : Int) := by omega
      have k1 : (k : Int) < (n : Int) := by omega
      have k2 : (n : Int) ≤ 3000 := by have := hn.out; omega
      go_wp2_with fail
      go_region
      go_wp2_with fail
      go_roundw
      case rel => exact ⟨k + 1, l', by omega, by go_num, HSET.out.drewN 1, HSL.out, HALL'.out, below_drew (HBB.out.setCell (p := ⟨g, k, none⟩) (Nat.le_refl _) _) 1⟩
      case measure => simp [intOf]; omega
    · obtain rfl : k = n := by omega
      have he := three_sum HLL.out HNA.out HNB.out HNC.out HALL.out
      have hzz := Nat.le_trans ZZ.out hb.size
      have ra := ((RA14.out.below hb).mono hzz).take HNA.out
      have rb := ((RB14.out.below hb).mono hzz).take HNB.out
      have rc := ((RC14.out.below hb).mono hzz).take HNC.out
      obtain ⟨A', c', e', r0⟩ := HO.out.row
      rw [HLL.out] at e' r0
      cases e'
      have hS0 : ∀ w', Below wr.heap.size wr w' → Calls Try.prog 11 #[.slice (some ⟨g, 0, none⟩) k k] w' _ := fun w' hb => sum_any _ k k l w' ((r0.below hb).mono hb.size)
      have hSa : ∀ w', Below wr.heap.size wr w' → Calls Try.prog 11 #[.slice A4 k c4] w' _ := fun w' hb => sum_any _ k c4 _ w' ((ra.below hb).mono hb.size)
      have hSb : ∀ w', Below wr.heap.size wr w' → Calls Try.prog 11 #[.slice A5 k c5] w' _ := fun w' hb => sum_any _ k c5 _ w' ((rb.below hb).mono hb.size)
      have hSc : ∀ w', Below wr.heap.size wr w' → Calls Try.prog 11 #[.slice A6 k c6] w' _ := fun w' hb => sum_any _ k c6 _ w' ((rc.below hb).mono hb.size)
      have ta := sumOf_lt ra.byte
      have tb := sumOf_lt rb.byte
      have tc := sumOf_lt rc.byte
      have tab : sumOf (la.take k) ^^^ sumOf (lb.take k) < 4294967296 := Nat.xor_lt_two_pow (n := 32) ta tb
      have hx1 : bits .xor .u32 (sumOf (la.take k) : Int) (sumOf (lb.take k) : Int) = ((sumOf (la.take k) ^^^ sumOf (lb.take k) : Nat) : Int) := u32_xor_nat _ _ ta tb
      have hx2 : bits .xor .u32 ((sumOf (la.take k) ^^^ sumOf (lb.take k) : Nat) : Int) (sumOf (lc.take k) : Int) = ((sumOf (la.take k) ^^^ sumOf (lb.take k) ^^^ sumOf (lc.take k) : Nat) : Int) := u32_xor_nat _ _ tab tc
      rw [he] at hS0
      have H0 := Lib.hid hS0; have Ha := Lib.hid hSa; have Hb := Lib.hid hSb; have Hc := Lib.hid hSc
      have ia : (k : Int) ≤ (la.length : Int) := by have := HNA.out; omega
      have ib : (k : Int) ≤ (lb.length : Int) := by have := HNB.out; omega
      have ic : (k : Int) ≤ (lc.length : Int) := by have := HNC.out; omega
      have ja : (k : Int) ≤ (c4 : Int) := by have := ra.cap; omega
      have jb : (k : Int) ≤ (c5 : Int) := by have := rb.cap; omega
      have jc : (k : Int) ≤ (c6 : Int) := by have := rc.cap; omega
      have BW := Lib.hid (B14.out.trans (hb.mono Z13.out))
      have ZW := Lib.hid (Nat.le_trans Z13.out hzz)
      clear hS0 hSa hSb hSc he ra rb rc r0 hb ta tb tc tab hzz
      generalize sumOf (la.take k) ^^^ sumOf (lb.take k) ^^^ sumOf (lc.take k) = T0 at *
      generalize sumOf (la.take k) ^^^ sumOf (lb.take k) = T1 at *
      generalize sumOf (la.take k) = Ta at *
      generalize sumOf (lb.take k) = Tb at *
      generalize sumOf (lc.take k) = Tc at *
      have k0 : (0 : Int) ≤ (k : Int) := by omega
      have hBE := Below.refl wr.heap.size wr
      go_upto_region 13 with (fail)
      go_region_held3 (fun w' => Below wr.heap.size wr w') (first | exact hBE | exact hBE.drew) (first
        | (go_at_call 11
           (with_reducible first | refine (H0.out _ hBE).mono ?_ | refine (Ha.out _ hBE).mono ?_ | refine (Hb.out _ hBE).mono ?_ | refine (Hc.out _ hBE).mono ?_ | refine (H0.out _ hBE.drew).mono ?_ | refine (Ha.out _ hBE.drew).mono ?_ | refine (Hb.out _ hBE.drew).mono ?_ | refine (Hc.out _ hBE.drew).mono ?_)
           rintro e wE ⟨rfl, hwE⟩
           replace hBE : Below wr.heap.size wr wE := Below.trans (by first | exact hBE | exact hBE.drew) (hwE.mono (by first | exact hBE.size | exact hBE.drew.size))
           clear hwE))
      all_goals
        go_wp2_with fail
        go_ret
        exact ⟨rfl, BW.out.trans (hBE.mono ZW.out)⟩
end Go.Proofs.Ytcfeijphiallfaa
