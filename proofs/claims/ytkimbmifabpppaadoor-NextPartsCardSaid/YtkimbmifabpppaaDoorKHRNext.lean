/- The document's Next, Last and Ever: walked. -/
import Derived.Test.YtkimbmifabpppaaDoorKHRDays
namespace Go.Proofs.YtkimbmifabpppaaDoor
open Go.RowKit

theorem hit_at {L : List (BitVec 64)} {first : Int} {P : Int → Prop} {k j : Nat} {x : Int} (hd : DayOk L (first + k)) (hx : (dayL L (first + k))[j]? = some x) (hp : P x) (hne : ∀ (i : Nat) (y : Int), i < j → (dayL L (first + k))[i]? = some y → ¬ P y) : Hit L first 1 P k x := by
  have e : first + 1 * (k : Int) = first + k := by omega
  unfold Hit
  rw [e]
  refine ⟨hd, hp, (dayL L (first + k)).take j, (dayL L (first + k)).drop (j + 1), ?_, fun y hy => ?_⟩
  · show (if (1 : Int) = -1 then _ else _) = _
    rw [if_neg (by omega)]
    have hj := (List.getElem?_eq_some_iff.1 hx)
    obtain ⟨hlt, he⟩ := hj
    rw [← he]
    exact (List.take_append_drop j _).symm.trans (by rw [List.drop_eq_getElem_cons hlt])
  · obtain ⟨i, hi⟩ := List.mem_iff_getElem?.1 hy
    rw [List.getElem?_take] at hi
    split at hi
    · exact hne i y (by omega) hi
    · cases hi
theorem none_one {L : List (BitVec 64)} {first : Int} {P : Int → Prop} {k : Nat} (h : NoneTo L first 1 P k) (hk : DayOk L (first + k) → ∀ u ∈ dayL L (first + k), ¬ P u) : NoneTo L first 1 P (k + 1) := by
  refine h.succ ?_
  rw [show first + 1 * (k : Int) = first + k by omega]
  exact hk
theorem none_end {L : List (BitVec 64)} {first : Int} {P : Int → Prop} {k : Nat} (h : NoneTo L first 1 P k) (hk : 2932896 < first + k ∨ 2923 ≤ k) : NoneTo L first 1 P 2923 := by
  intro j hj hd
  by_cases e : j < k
  · exact h j e hd
  · rcases hk with hk | hk
    · have := hd.2.1
      omega
    · omega
set_option maxRecDepth 100000 in
set_option maxHeartbeats 2000000 in
theorem rnext_any (a b c d e : BitVec 64) (t : Int) (w : World) (hk : crB [a, b, c, d, e] = true) :
    Calls Tryd.prog 13 #[cronV [a, b, c, d, e], .int .i64 t] w fun x w' => NextIs [a, b, c, d, e] t x ∧ Below w.heap.size w w' := by
  have HKK := Lib.hid hk
  have HFT := Lib.hid (fun y m n W (hr : D.RightZ y m n) => rfits_any a b c d e y m n W hk hr)
  have HON := Lib.hid (fun n W h0 h1 => ron_any a b c d e n W hk h0 h1)
  obtain ⟨WB, hWB, hb0, hc0⟩ : ∃ W : World, W = w.alloc (.cells #[.int .u64 (U a), .int .u64 (U b), .int .u64 (U c), .int .u64 (U d), .int .u64 (U e)] 25) ∧ Below w.heap.size w W ∧ CronAt W w.heap.size [a, b, c, d, e] := ⟨_, rfl, (Below.refl _ w).alloc (Nat.le_refl _) _, CronAt.new w a b c d e⟩
  have HB := Lib.hid hb0; have HC := Lib.hid hc0
  obtain ⟨c0, c1, c2, c3, c4⟩ := hc0.five
  have HD := Lib.hid (fun W => rday_any t W)
  obtain ⟨p0, p1⟩ := dayOf_in t
  have HAT := Lib.hid (fun W => D.atR_ok (dayOf t) W p0 p1)
  unfold D.dateV at HAT
  have HHIT : Hid (∀ (k : Nat) (u : Int), k ≤ 2922 → NoneTo [a, b, c, d, e] (dayOf t) 1 (fun u => t < u) k → Hit [a, b, c, d, e] (dayOf t) 1 (fun u => t < u) k u → IsNext (TC [a, b, c, d, e]) t u) := Lib.hid (fun k u h1 h2 h3 => next_hit hk h1 h2 h3)
  have HMISS : Hid (NoneTo [a, b, c, d, e] (dayOf t) 1 (fun u => t < u) 2923 → NoNext (TC [a, b, c, d, e]) t) := Lib.hid (fun h => next_miss h)
  generalize dayOf t = first at *
  rw [cronV_five] at *
  unfold fiveV at *
  clear hk hb0 hc0
  go_enter Tryd.func13, Tryd.ntmps13
  go_wp2_with fail
  rw [← hWB]
  clear hWB
  refine (HD.out _).mono ?_
  rintro x w0 ⟨rfl, rfl⟩
  go_wp2_with fail
  refine (HAT.out _).mono ?_
  rintro x w1 ⟨y, m, n, rfl, hr, hn, hb⟩
  obtain ⟨w2, hw2, hb2, hd2, hs2⟩ : ∃ W : World, W = w1.alloc (.cells #[.int .i64 y, .int .i64 m, .int .i64 n] 56) ∧ Below w1.heap.size w1 W ∧ D.Box W w1.heap.size 56 #[.int .i64 y, .int .i64 m, .int .i64 n] ∧ W.heap.size = w1.heap.size + 1 := ⟨_, rfl, (Below.refl _ w1).alloc (Nat.le_refl _) _, D.Box.new _ _ _, by simp⟩
  have HX2 := Lib.hid (hb.trans (hb2.mono hb.size)); have HD2 := Lib.hid hd2
  have hlo := hb.size
  have HR := Lib.hid hr; have HN := Lib.hid hn
  clear hb hb2 hd2 HAT c0 c1 c2 c3 c4 hr hn
  go_wp2_with fail
  rw [← hw2]
  clear hw2
  go_loopw [8] (fun i wr => ∃ (k : Nat) (y m n : Int), k ≤ 2923 ∧ first + k ≤ 2932897 ∧ i = .int .i64 (first + k) ∧ D.Box wr w1.heap.size 56 #[.int .i64 y, .int .i64 m, .int .i64 n] ∧ Hid (first + k ≤ 2932896 → D.RightZ y m n ∧ D.numZ y m n = first + k) ∧ Hid (NoneTo [a, b, c, d, e] first 1 (fun u => t < u) k) ∧ Below w0.heap.size w0 wr) (fun i _ => (first + 2923 - intOf i).toNat)
  case atStart => exact ⟨0, y, m, n, by omega, by omega, by simp, HD2.out, Lib.hid (fun _ => ⟨HR.out, by rw [HN.out]; simp⟩), Lib.hid NoneTo.zero, HX2.out⟩
  case round =>
    clear HD2 HR HN HX2
    obtain ⟨k, y, m, n, hk1, hk2, rfl, hdt, HRN, HNO, hx⟩ := hrel
    by_cases hlt : k ≤ 2922 ∧ first + k ≤ 2932896
    · obtain ⟨hl1, hin⟩ := hlt
      have HF := Lib.hid (HFT.out y m n wr (HRN.out hin).1)
      rw [(HRN.out hin).2] at HF
      have HBH := Lib.hid (fun W => rbehind_any y m n W (HRN.out hin).1)
      have HNX : Hid (∀ y' m' d', behindZ y m n y' m' d' → (first + (k + 1 : Nat) ≤ 2932896 → D.RightZ y' m' d' ∧ D.numZ y' m' d' = first + (k + 1 : Nat))) := Lib.hid (fun y' m' d' hb h => by
        have h2 := behind_next (HRN.out hin).1 (by rw [(HRN.out hin).2]; omega) hb
        rw [(HRN.out hin).2] at h2
        exact ⟨h2.1, by rw [h2.2]; omega⟩)
      have HFI : Hid (fitN [a, b, c, d, e] (first + k) ↔ fitD [a, b, c, d, e] y m n = true) := Lib.hid (by rw [← (HRN.out hin).2]; exact fitN_is (HRN.out hin).1)
      have HDT := Lib.hid hdt; have HX := Lib.hid hx
      obtain ⟨c0, c1, c2, c3, c4⟩ := (HC.out.on hx).five
      obtain ⟨d0, d1, d2, _, _, _⟩ := D.Box.three hdt
      clear hdt hx HRN
      go_wp2_with fail
      all_goals
        refine HF.out.mono ?_
        rintro x w3 ⟨rfl, hb⟩
        have HDT3 := Lib.hid (D.Box.belowAll HDT.out hb); have HX3 := Lib.hid (HX.out.trans (hb.mono HX.out.size))
        clear hb HDT HX HF c0 c1 c2 c3 c4 d0 d1 d2
        obtain ⟨c0, c1, c2, c3, c4⟩ := (HC.out.on HX3.out).five
        obtain ⟨d0, d1, d2, d3, d4, d5⟩ := D.Box.three HDT3.out
        have hhs := HDT3.out.lt
        cases hz : fitD [a, b, c, d, e] y m n with
        | true =>
          have HOK : Hid (DayOk [a, b, c, d, e] (first + k)) := Lib.hid ⟨by omega, hin, HFI.out.2 hz⟩
          clear hz HFI
          have HO := Lib.hid (HON.out (first + k) w3 (by omega) hin)
          have hon64 : (dayL [a, b, c, d, e] (first + k)).length ≤ 4096 := on_len (ints_64 _) (ints_64 _)
          generalize hday : dayL [a, b, c, d, e] (first + k) = on at *
          have HDAY := Lib.hid hday
          clear hday
          go_wp2_with fail
          refine HO.out.mono ?_
          rintro x w4 ⟨v, rfl, hv, hb⟩
          obtain ⟨A, cap, rfl⟩ := own_slice0 hv
          have HAR := Lib.hid (own_arr hv)
          have HDT4 := Lib.hid (D.Box.belowAll HDT3.out hb); have HX4 := Lib.hid (HX3.out.trans (hb.mono HX3.out.size))
          clear hb hv HO HDT3 HX3 d0 d1 d2 d3 d4 d5 c0 c1 c2 c3 c4 hhs
          have honm : on.length ≤ maxLen := by unfold maxLen; omega
          obtain ⟨d0, d1, d2, d3, d4, d5⟩ := D.Box.three HDT4.out
          go_wp2_with fail
          go_loop [31] (fun i => ∃ j : Nat, j ≤ on.length ∧ i = .int .i64 (j : Int) ∧ Hid (∀ (i : Nat) (y : Int), i < j → on[i]? = some y → ¬ t < y)) (fun i => on.length - (intOf i).toNat)
          case atStart => exact ⟨0, Nat.zero_le _, rfl, Lib.hid (fun i y h => absurd h (by omega))⟩
          case round =>
            obtain ⟨j, hj, rfl, HNE⟩ := hrel
            by_cases hlt2 : j < on.length
            · obtain ⟨u, hu⟩ : ∃ u, on[j]? = some u := ⟨_, List.getElem?_eq_getElem hlt2⟩
              obtain ⟨bb, off, hA, hlb, hc⟩ := HAR.out.2 j u hu
              have HU := Lib.hid hu
              subst hA
              by_cases htu : t < u
              · have hd : decide (t < u) = true := decide_eq_true htu
                clear hu
                have HRES := Lib.hid (HHIT.out k u hl1 HNO.out (hit_at HOK.out (by rw [HDAY.out]; exact HU.out) htu (by rw [HDAY.out]; exact HNE.out)))
                go_wp2_with fail
                exact bodyPost_ret (v := .tuple #[.int .i64 u, .bool true]) (by simp [results, Tryd.results13, go_sem]) rfl ⟨.inl ⟨u, HRES.out, rfl⟩, HB.out.trans (HX4.out.mono HB.out.size)⟩
              · have hd : decide (t < u) = false := decide_eq_false htu
                clear hu
                have HNE2 : Hid (∀ (i : Nat) (y : Int), i < j + 1 → on[i]? = some y → ¬ t < y) := Lib.hid (fun i y hi hy => by
                  by_cases e : i = j
                  · subst e; rw [HU.out] at hy; cases hy; exact htu
                  · exact HNE.out i y (by omega) hy)
                go_wp2_with fail
                go_round
                case rel => exact ⟨j + 1, by omega, by go_num, HNE2⟩
                case measure => simp [intOf]; omega
            · have hj2 : j = on.length := by omega
              have HNO2 := Lib.hid (none_one HNO.out (fun _ u hu => by
                rw [HDAY.out] at hu
                obtain ⟨i, hi⟩ := List.mem_iff_getElem?.1 hu
                exact HNE.out i u (by have := (List.getElem?_eq_some_iff.1 hi).1; omega) hi))
              clear HNE HNO HAR
              go_wp2_with fail
              refine (HBH.out _).mono ?_
              rintro x w5 ⟨y', m', n', rfl, hbz, hb⟩
              have HDT5 := Lib.hid (D.Box.belowAll HDT4.out hb); have HX5 := Lib.hid (HX4.out.trans (hb.mono HX4.out.size))
              have HNX2 := Lib.hid (HNX.out y' m' n' hbz)
              clear hb hbz HDT4 HX4 HNX d0 d1 d2 d3 d4 d5
              obtain ⟨d0, d1, d2, d3, d4, d5⟩ := D.Box.three HDT5.out
              go_wp2_with fail
              go_roundw
              case rel => exact ⟨k + 1, y', m', n', by omega, by omega, by go_num, D.Box.onDate HDT5.out _ _ _, HNX2, HNO2, below_date HX5.out hlo _ _ _⟩
              case measure => simp [intOf]; omega
        | false =>
          have HNO2 := Lib.hid (none_one HNO.out (fun hd u _ => absurd (HFI.out.1 hd.2.2) (by rw [hz]; simp)))
          clear hz HFI HNO
          go_wp2_with fail
          refine (HBH.out _).mono ?_
          rintro x w4 ⟨y', m', n', rfl, hbz, hb⟩
          have HDT4 := Lib.hid (D.Box.belowAll HDT3.out hb); have HX4 := Lib.hid (HX3.out.trans (hb.mono HX3.out.size))
          have HNX2 := Lib.hid (HNX.out y' m' n' hbz)
          clear hb hbz HDT3 HX3 HNX d0 d1 d2 d3 d4 d5
          obtain ⟨d0, d1, d2, d3, d4, d5⟩ := D.Box.three HDT4.out
          go_wp2_with fail
          go_roundw
          case rel => exact ⟨k + 1, y', m', n', by omega, by omega, by go_num, D.Box.onDate HDT4.out _ _ _, HNX2, HNO2, below_date HX4.out hlo _ _ _⟩
          case measure => simp [intOf]; omega
    · have HRES := Lib.hid (HMISS.out (none_end HNO.out (by omega)))
      have HX := Lib.hid hx
      clear hdt hx HRN HNO
      go_wp2_with fail
      all_goals exact bodyPost_ret (v := .tuple #[.int .i64 0, .bool false]) (by simp [results, Tryd.results13, go_sem]) rfl ⟨.inr ⟨HRES.out, rfl⟩, HB.out.trans (HX.out.mono HB.out.size)⟩
end Go.Proofs.YtkimbmifabpppaaDoor
