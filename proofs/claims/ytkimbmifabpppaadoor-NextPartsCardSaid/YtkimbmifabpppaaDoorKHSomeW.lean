/- NextSome: its times of a span, the first ones: walked. -/
import Derived.Test.YtkimbmifabpppaaDoorKHTellsW
namespace Go.Proofs.YtkimbmifabpppaaDoor
open Go.RowKit

theorem nil_arr (w : World) : ArrT w none 0 [] := ⟨rfl, fun i x h => by cases h⟩
theorem rsome_int (a b c d e : BitVec 64) (s0 s1 m : Int) (w : World) (hk : crB [a, b, c, d, e] = true) (m0 : 0 ≤ m) (m1 : m ≤ 64) :
    Calls Tryd.prog 18 #[cronV [a, b, c, d, e], spanV s0 s1, .int .i64 m] w fun x w' => ∃ (A : Option Addr) (cp : Nat) (l : List Int), x = .returned (.slice A l.length cp) ∧ ArrT w' A l.length l ∧ Chain (TC [a, b, c, d, e]) s0 s1 m.toNat l ∧ Below w.heap.size w w' := by
  obtain ⟨mm, rfl⟩ : ∃ mm : Nat, m = (mm : Int) := ⟨m.toNat, by omega⟩
  refine (rsome_any a b c d e s0 s1 mm w hk (by omega)).mono ?_
  rintro x w' ⟨v, l, rfl, hv, hch, hb⟩
  obtain ⟨A, cp, rfl⟩ := own_slice0 hv
  exact ⟨A, cp, l, rfl, own_arr hv, by simpa using hch, hb⟩
theorem some_int (L : List (BitVec 64)) (s0 s1 m : Int) (w : World) (hL : LaidC w) (h5 : L.length = 5) :
    Calls Tryd.prog 17 #[cronV L, spanV s0 s1, .int .i64 m] w fun x w' =>
      ((crB L = false ∧ x = .returned (.tuple #[.slice none 0 0, .int .i64 170])) ∨
       (crB L = true ∧ (m < 0 ∨ 64 < m) ∧ x = .returned (.tuple #[.slice none 0 0, .int .i64 2])) ∨
       (crB L = true ∧ 0 ≤ m ∧ m ≤ 64 ∧ ∃ (A : Option Addr) (cp : Nat) (l : List Int), x = .returned (.tuple #[.slice A l.length cp, .int .i64 0]) ∧ ArrT w' A l.length l ∧ w'.ownsRow w.heap.size 2 1 (.slice A l.length cp) l.length (l.map int1) ∧ Chain (TC L) s0 s1 m.toNat l)) ∧ Below w.heap.size w w' := by
  refine (some_any L s0 s1 m w hL h5).mono ?_
  rintro x w' ⟨h, hb⟩
  refine ⟨?_, hb⟩
  rcases h with ⟨h1, rfl⟩ | ⟨h1, h2, rfl⟩ | ⟨h1, h2, h3, v, l, rfl, hv, hch⟩
  · exact .inl ⟨h1, rfl⟩
  · exact .inr (.inl ⟨h1, h2, rfl⟩)
  · obtain ⟨A, cp, rfl⟩ := own_slice0 hv
    exact .inr (.inr ⟨h1, h2, h3, A, cp, l, rfl, own_arr hv, hv, hch⟩)
def isI64 (t : Int) : Prop := -9223372036854775808 ≤ t ∧ t ≤ 9223372036854775807
theorem quo_65 {t : Int} (h : isI64 t) : ∃ q : Int, wrap64 (t.tdiv 65) = q ∧ wrap64 (64 * q) = 64 * q ∧ wrap64 (12 + 64 * q) = 12 + 64 * q := by
  obtain ⟨h0, h1⟩ := h
  have hq : -141898031336227321 ≤ t.tdiv 65 ∧ t.tdiv 65 ≤ 141898031336227321 := by
    rcases Int.le_total 0 t with hs | hs
    · rw [Int.tdiv_eq_ediv_of_nonneg hs]; omega
    · have e : t.tdiv 65 = -((-t).tdiv 65) := by rw [Int.neg_tdiv]; omega
      rw [e, Int.tdiv_eq_ediv_of_nonneg (by omega)]; omega
  generalize t.tdiv 65 = q at *
  refine ⟨q, ?_, ?_, ?_⟩ <;> (unfold wrap64; omega)
set_option maxRecDepth 100000 in
set_option maxHeartbeats 2000000 in
theorem nsome_walk (a b c d e : BitVec 64) (s0 s1 : Int) (A : Option Addr) (n cap : Nat) (w : World) (hL : LaidC w) (hn : n ≤ maxLen) (hN : NumsAt .i64 isI64 w w.heap.size A n) :
    Calls Tryd.prog 4 #[cronV [a, b, c, d, e], spanV s0 s1, .slice A n cap] w fun x w' => x = .returned (.bool true) ∧ Below w.heap.size w w' := by
  obtain ⟨WB, hWB, hb0, hc0, hx0, _⟩ := span_cells w a b c d e s0 s1
  have HWK := Lib.hid hwakes_any
  have HSM := Lib.hid (fun m W hW => some_int [a, b, c, d, e] s0 s1 m W hW rfl)
  have HRT := Lib.hid (fun W => crB_five' a b c d e W)
  have HRS := Lib.hid (fun m W hk h0 h1 => rsome_int a b c d e s0 s1 m W hk h0 h1)
  have HB0 := Lib.hid hb0; have HC := Lib.hid hc0; have HXB := Lib.hid hx0; have HL := Lib.hid (hL.on hb0)
  have HX0 := Lib.hid (Below.refl WB.heap.size WB)
  have HNN := Lib.hid (hN.on hb0)
  have hwb := hb0.size
  unfold spanV at *
  rw [cronV_five] at *
  unfold fiveV at *
  clear hL hb0 hc0 hx0 hN
  go_enter Tryd.func4, Tryd.ntmps4
  go_wp2_with fail
  rw [← hWB]
  clear hWB
  refine (HWK.out _ HL.out).mono ?_
  rintro x w1 ⟨rfl, hb⟩
  have HX1 := Lib.hid (HX0.out.trans (hb.mono HX0.out.size))
  clear hb HX0
  go_wp2_with fail
  go_loopw [17] (fun i wr => ∃ k : Nat, k ≤ n ∧ k ≤ 4 ∧ i = .int .i64 (k : Int) ∧ Below WB.heap.size WB wr) (fun i _ => n - (intOf i).toNat)
  case atStart => exact ⟨0, Nat.zero_le _, by omega, rfl, HX1.out⟩
  case round =>
    clear HX1
    obtain ⟨k, hk, hk4, rfl, hx⟩ := hrel
    have HX := Lib.hid hx
    clear hx
    by_cases hlt : k < n
    · by_cases hk5 : k = 4
      · subst hk5
        obtain ⟨bb, off, t, hA, hlb, hc, _⟩ := (HNN.out.on (HX.out.mono hwb)) 4 hlt
        subst hA
        rw [show ((4 : Nat) : Int) = 4 by rfl]
        have hi4 : (4 : Int) < (n : Int) := by omega
        go_wp2_with fail
        go_ret
        exact ⟨rfl, HB0.out.trans (HX.out.mono HB0.out.size)⟩
      · obtain ⟨bb, off, t, hA, hlb, hc, ht⟩ := (HNN.out.on (HX.out.mono hwb)) k hlt
        subst hA
        have hd4 : ((k : Int) == 4) = false := by simp; omega
        have hk0 : (0 : Int) ≤ (k : Int) := by omega
        have hkn : (k : Int) < (n : Int) := by omega
        obtain ⟨q, hq1, hq2, hq3⟩ := quo_65 ht
        clear ht
        obtain ⟨c0, c1, c2, c3, c4⟩ := (HC.out.on HX.out).five
        obtain ⟨e0, e1⟩ := two_box (D.Box.belowAll HXB.out HX.out)
        by_cases hle : 12 + 64 * q < t
        · go_wp2_with fail
          clear c0 c1 c2 c3 c4 e0 e1 hc
          refine (HSM.out (12 + 64 * q) _ (HL.out.on HX.out)).mono ?_
          rintro x v1 ⟨hx, hb⟩
          have HX1 := Lib.hid (HX.out.trans (hb.mono HX.out.size))
          clear hb HX
          rcases hx with ⟨hk1, rfl⟩ | ⟨hk1, hm, rfl⟩ | ⟨hk1, m0, m1, A2, cp, l, rfl, har, _, hch⟩
          · have HR1 := HRT
            rw [hk1] at HR1
            clear hk1 hle hq1 hq2 hq3
            obtain ⟨c0, c1, c2, c3, c4⟩ := (HC.out.on HX1.out).five
            go_wp2_with fail
            clear c0 c1 c2 c3 c4
            refine (HR1.out _).mono ?_
            rintro x v2 ⟨rfl, hb⟩
            have HX2 := Lib.hid (HX1.out.trans (hb.mono HX1.out.size))
            clear hb HX1
            go_wp2_with fail
            refine (equal_i64 none none 0 0 0 [] _ (by unfold maxLen; omega) (nil_arr _) (nil_arr _)).mono ?_
            rintro x v9 ⟨rfl, qq, rfl⟩
            have HX9 := Lib.hid (bdrewN HX2.out qq)
            generalize World.drewN _ qq = v10 at *
            go_wp2_with fail
            go_roundw
            case rel => exact ⟨k + 1, by omega, by omega, by go_num, HX9.out⟩
            case measure => simp [intOf]; omega
          · have HR1 := HRT
            rw [hk1] at HR1
            clear hk1
            by_cases hneg : (12 + 64 * q) < 0
            · have hd : decide ((12 + 64 * q) < 0) = true := decide_eq_true hneg
              obtain ⟨c0, c1, c2, c3, c4⟩ := (HC.out.on HX1.out).five
              go_wp2_with fail
              clear c0 c1 c2 c3 c4
              refine (HR1.out _).mono ?_
              rintro x v2 ⟨rfl, hb⟩
              have HX2 := Lib.hid (HX1.out.trans (hb.mono HX1.out.size))
              clear hb HX1
              go_wp2_with fail
              refine (equal_i64 none none 0 0 0 [] _ (by unfold maxLen; omega) (nil_arr _) (nil_arr _)).mono ?_
              rintro x v9 ⟨rfl, qq, rfl⟩
              have HX9 := Lib.hid (bdrewN HX2.out qq)
              generalize World.drewN _ qq = v10 at *
              go_wp2_with fail
              go_roundw
              case rel => exact ⟨k + 1, by omega, by omega, by go_num, HX9.out⟩
              case measure => simp [intOf]; omega
            · have hd : decide ((12 + 64 * q) < 0) = false := decide_eq_false hneg
              have hd2 : decide (64 < (12 + 64 * q)) = true := decide_eq_true (by omega)
              obtain ⟨c0, c1, c2, c3, c4⟩ := (HC.out.on HX1.out).five
              go_wp2_with fail
              clear c0 c1 c2 c3 c4
              refine (HR1.out _).mono ?_
              rintro x v2 ⟨rfl, hb⟩
              have HX2 := Lib.hid (HX1.out.trans (hb.mono HX1.out.size))
              clear hb HX1
              go_wp2_with fail
              refine (equal_i64 none none 0 0 0 [] _ (by unfold maxLen; omega) (nil_arr _) (nil_arr _)).mono ?_
              rintro x v9 ⟨rfl, qq, rfl⟩
              have HX9 := Lib.hid (bdrewN HX2.out qq)
              generalize World.drewN _ qq = v10 at *
              go_wp2_with fail
              go_roundw
              case rel => exact ⟨k + 1, by omega, by omega, by go_num, HX9.out⟩
              case measure => simp [intOf]; omega
          · have HR1 := HRT
            rw [hk1] at HR1
            have hd : decide ((12 + 64 * q) < 0) = false := decide_eq_false (by omega)
            have hd2 : decide (64 < (12 + 64 * q)) = false := decide_eq_false (by omega)
            have HRSM := Lib.hid (fun W => HRS.out (12 + 64 * q) W hk1 m0 m1)
            have HAR := Lib.hid har; have HCH := Lib.hid hch
            have hll : l.length ≤ 64 := by have := chain_len _ _ _ _ hch; omega
            clear har hch hk1
            obtain ⟨c0, c1, c2, c3, c4⟩ := (HC.out.on HX1.out).five
            go_wp2_with fail
            clear c0 c1 c2 c3 c4
            refine (HR1.out _).mono ?_
            rintro x v2 ⟨rfl, hb⟩
            have HX2 := Lib.hid (HX1.out.trans (hb.mono HX1.out.size))
            have HAR2 := Lib.hid (HAR.out.on hb)
            clear hb HX1 HAR
            obtain ⟨c0, c1, c2, c3, c4⟩ := (HC.out.on HX2.out).five
            obtain ⟨e0, e1⟩ := two_box (D.Box.belowAll HXB.out HX2.out)
            go_wp2_with fail
            clear c0 c1 c2 c3 c4 e0 e1
            refine (HRSM.out _).mono ?_
            rintro x v3 ⟨A3, cp3, l3, rfl, har3, hch3, hb⟩
            obtain rfl := chain_one _ _ _ _ _ HCH.out hch3
            have HX3 := Lib.hid (HX2.out.trans (hb.mono HX2.out.size)); have HAR3 := Lib.hid (HAR2.out.on hb); have HAR4 := Lib.hid har3
            clear hb HX2 HAR2 har3 hch3 HCH
            go_wp2_with fail
            refine (equal_i64 A2 A3 l.length cp cp3 l _ (by unfold maxLen; omega) HAR3.out HAR4.out).mono ?_
            rintro x v9 ⟨rfl, qq, rfl⟩
            have HX9 := Lib.hid (bdrewN HX3.out qq)
            generalize World.drewN _ qq = v10 at *
            go_wp2_with fail
            go_roundw
            case rel => exact ⟨k + 1, by omega, by omega, by go_num, HX9.out⟩
            case measure => simp [intOf]; omega
        · go_wp2_with fail
          clear c0 c1 c2 c3 c4 e0 e1 hc
          refine (HSM.out t _ (HL.out.on HX.out)).mono ?_
          rintro x v1 ⟨hx, hb⟩
          have HX1 := Lib.hid (HX.out.trans (hb.mono HX.out.size))
          clear hb HX
          rcases hx with ⟨hk1, rfl⟩ | ⟨hk1, hm, rfl⟩ | ⟨hk1, m0, m1, A2, cp, l, rfl, har, _, hch⟩
          · have HR1 := HRT
            rw [hk1] at HR1
            clear hk1 hle hq1 hq2 hq3
            obtain ⟨c0, c1, c2, c3, c4⟩ := (HC.out.on HX1.out).five
            go_wp2_with fail
            clear c0 c1 c2 c3 c4
            refine (HR1.out _).mono ?_
            rintro x v2 ⟨rfl, hb⟩
            have HX2 := Lib.hid (HX1.out.trans (hb.mono HX1.out.size))
            clear hb HX1
            go_wp2_with fail
            refine (equal_i64 none none 0 0 0 [] _ (by unfold maxLen; omega) (nil_arr _) (nil_arr _)).mono ?_
            rintro x v9 ⟨rfl, qq, rfl⟩
            have HX9 := Lib.hid (bdrewN HX2.out qq)
            generalize World.drewN _ qq = v10 at *
            go_wp2_with fail
            go_roundw
            case rel => exact ⟨k + 1, by omega, by omega, by go_num, HX9.out⟩
            case measure => simp [intOf]; omega
          · have HR1 := HRT
            rw [hk1] at HR1
            clear hk1
            by_cases hneg : t < 0
            · have hd : decide (t < 0) = true := decide_eq_true hneg
              obtain ⟨c0, c1, c2, c3, c4⟩ := (HC.out.on HX1.out).five
              go_wp2_with fail
              clear c0 c1 c2 c3 c4
              refine (HR1.out _).mono ?_
              rintro x v2 ⟨rfl, hb⟩
              have HX2 := Lib.hid (HX1.out.trans (hb.mono HX1.out.size))
              clear hb HX1
              go_wp2_with fail
              refine (equal_i64 none none 0 0 0 [] _ (by unfold maxLen; omega) (nil_arr _) (nil_arr _)).mono ?_
              rintro x v9 ⟨rfl, qq, rfl⟩
              have HX9 := Lib.hid (bdrewN HX2.out qq)
              generalize World.drewN _ qq = v10 at *
              go_wp2_with fail
              go_roundw
              case rel => exact ⟨k + 1, by omega, by omega, by go_num, HX9.out⟩
              case measure => simp [intOf]; omega
            · have hd : decide (t < 0) = false := decide_eq_false hneg
              have hd2 : decide (64 < t) = true := decide_eq_true (by omega)
              obtain ⟨c0, c1, c2, c3, c4⟩ := (HC.out.on HX1.out).five
              go_wp2_with fail
              clear c0 c1 c2 c3 c4
              refine (HR1.out _).mono ?_
              rintro x v2 ⟨rfl, hb⟩
              have HX2 := Lib.hid (HX1.out.trans (hb.mono HX1.out.size))
              clear hb HX1
              go_wp2_with fail
              refine (equal_i64 none none 0 0 0 [] _ (by unfold maxLen; omega) (nil_arr _) (nil_arr _)).mono ?_
              rintro x v9 ⟨rfl, qq, rfl⟩
              have HX9 := Lib.hid (bdrewN HX2.out qq)
              generalize World.drewN _ qq = v10 at *
              go_wp2_with fail
              go_roundw
              case rel => exact ⟨k + 1, by omega, by omega, by go_num, HX9.out⟩
              case measure => simp [intOf]; omega
          · have HR1 := HRT
            rw [hk1] at HR1
            have hd : decide (t < 0) = false := decide_eq_false (by omega)
            have hd2 : decide (64 < t) = false := decide_eq_false (by omega)
            have HRSM := Lib.hid (fun W => HRS.out t W hk1 m0 m1)
            have HAR := Lib.hid har; have HCH := Lib.hid hch
            have hll : l.length ≤ 64 := by have := chain_len _ _ _ _ hch; omega
            clear har hch hk1
            obtain ⟨c0, c1, c2, c3, c4⟩ := (HC.out.on HX1.out).five
            go_wp2_with fail
            clear c0 c1 c2 c3 c4
            refine (HR1.out _).mono ?_
            rintro x v2 ⟨rfl, hb⟩
            have HX2 := Lib.hid (HX1.out.trans (hb.mono HX1.out.size))
            have HAR2 := Lib.hid (HAR.out.on hb)
            clear hb HX1 HAR
            obtain ⟨c0, c1, c2, c3, c4⟩ := (HC.out.on HX2.out).five
            obtain ⟨e0, e1⟩ := two_box (D.Box.belowAll HXB.out HX2.out)
            go_wp2_with fail
            clear c0 c1 c2 c3 c4 e0 e1
            refine (HRSM.out _).mono ?_
            rintro x v3 ⟨A3, cp3, l3, rfl, har3, hch3, hb⟩
            obtain rfl := chain_one _ _ _ _ _ HCH.out hch3
            have HX3 := Lib.hid (HX2.out.trans (hb.mono HX2.out.size)); have HAR3 := Lib.hid (HAR2.out.on hb); have HAR4 := Lib.hid har3
            clear hb HX2 HAR2 har3 hch3 HCH
            go_wp2_with fail
            refine (equal_i64 A2 A3 l.length cp cp3 l _ (by unfold maxLen; omega) HAR3.out HAR4.out).mono ?_
            rintro x v9 ⟨rfl, qq, rfl⟩
            have HX9 := Lib.hid (bdrewN HX3.out qq)
            generalize World.drewN _ qq = v10 at *
            go_wp2_with fail
            go_roundw
            case rel => exact ⟨k + 1, by omega, by omega, by go_num, HX9.out⟩
            case measure => simp [intOf]; omega
    · have hkn : k = n := by omega
      subst hkn
      go_wp2_with fail
      go_ret
      exact ⟨rfl, HB0.out.trans (HX.out.mono HB0.out.size)⟩
end Go.Proofs.YtkimbmifabpppaaDoor
