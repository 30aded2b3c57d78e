/- NextTight: what is told matches, and no time between does: walked. -/
import Derived.Test.YtkimbmifabpppaaDoorKHSomeW
import Derived.Deep.DeepCutAuto
namespace Go.Proofs.YtkimbmifabpppaaDoor
open Go.RowKit

theorem fitD_day {L : List (BitVec 64)} {y m n : Int} (h : D.RightZ y m n) : dayZ L y m n = (crB L && fitD L y m n) := by
  unfold dayZ
  rw [(rightB_iff y m n).2 h]; simp
theorem tc_civ {L : List (BitVec 64)} {t y m n h mi s : Int} (hc : D.CivOf t y m n h mi s) : atZ L y m n h mi s = true ↔ TC L t := by
  have htime := hc.time
  obtain ⟨t0, t1, hd, h3, h4, h5⟩ := htime
  have hr := hc.right
  have e := hc.at_
  unfold atZ
  rw [fitD_day hr]
  simp only [Bool.and_eq_true, decide_eq_true_iff]
  constructor
  · rintro ⟨rfl, hmi, hh, hk, hf⟩
    refine ⟨hk, ⟨t0, t1⟩, by rw [hd]; exact (fitN_is hr).2 hf, ?_⟩
    rw [hd]
    exact mem_onW.2 ⟨h, mem_ints.2 hh, mi, mem_ints.2 hmi, by omega⟩
  · rintro ⟨hk, _, hf, hm⟩
    rw [hd] at hf hm
    obtain ⟨h', hh', m', hm', e'⟩ := mem_onW.1 hm
    have a1 := hour_in hk hh'
    have a2 := min_in hk hm'
    have b1 := hc.h0; have b2 := hc.h1; have b3 := hc.m0; have b4 := hc.m1; have b5 := hc.s0; have b6 := hc.s1
    have : h' = h ∧ m' = mi ∧ s = 0 := by omega
    obtain ⟨rfl, rfl, rfl⟩ := this
    exact ⟨rfl, mem_ints.1 hm', mem_ints.1 hh', hk, (fitN_is hr).1 hf⟩
theorem at_any (L : List (BitVec 64)) (t : Int) (w : World) (hL : LaidC w) (h5 : L.length = 5) :
    Calls Tryd.prog 20 #[cronV L, .int .i64 t] w fun x w' => ∃ z : Bool, x = .returned (.bool z) ∧ (z = true ↔ TC L t) ∧ Below w.heap.size w w' := by
  by_cases h : D.TimeZ t
  · obtain ⟨y, m, n, hh, mi, s, hc⟩ : ∃ y m n h mi s, D.CivOf t y m n h mi s := by
      obtain ⟨t0, t1⟩ := h
      obtain ⟨y, m, d, hr, hn⟩ := D.num_surj (t / 86400).toNat (by omega)
      exact ⟨y, m, d, t / 3600 % 24, t / 60 % 60, t % 60, ⟨hr, by omega, by omega, by omega, by omega, by omega, by omega, by omega⟩⟩
    refine (cat_is L t y m n hh mi s w hL h5 hc).mono ?_
    rintro x w' ⟨rfl, hb⟩
    exact ⟨_, rfl, tc_civ hc, hb⟩
  · refine (cat_no L t w hL h5 h).mono ?_
    rintro x w' ⟨rfl, hb⟩
    exact ⟨false, rfl, ⟨fun q => (by cases q), fun q => absurd q.2.1 h⟩, hb⟩
/-- No time of the cron's stands in the span. -/
def Bare (T : Int → Prop) (f t : Int) : Prop := 0 ≤ f ∧ f ≤ 253402300800 ∧ -1 ≤ t ∧ t ≤ 253402300799 ∧ ∀ u, f ≤ u → u ≤ t → ¬ T u
theorem bare_none (T : Int → Prop) : Bare T 1 0 := ⟨by omega, by omega, by omega, by omega, fun u h1 h2 => by omega⟩
theorem at_yes {L : List (BitVec 64)} {t : Int} (h : TC L t) (w : World) (hL : LaidC w) (h5 : L.length = 5) : Calls Tryd.prog 20 #[cronV L, .int .i64 t] w fun x w' => x = .returned (.bool true) ∧ Below w.heap.size w w' := by
  refine (at_any L t w hL h5).mono ?_
  rintro x w' ⟨z, rfl, hz, hb⟩
  rw [hz.2 h]
  exact ⟨rfl, hb⟩
theorem at_not {L : List (BitVec 64)} {t : Int} (h : ¬ TC L t) (w : World) (hL : LaidC w) (h5 : L.length = 5) : Calls Tryd.prog 20 #[cronV L, .int .i64 t] w fun x w' => x = .returned (.bool false) ∧ Below w.heap.size w w' := by
  refine (at_any L t w hL h5).mono ?_
  rintro x w' ⟨z, rfl, hz, hb⟩
  cases z with
  | true => exact absurd (hz.1 rfl) h
  | false => exact ⟨rfl, hb⟩
set_option maxRecDepth 100000 in
set_option maxHeartbeats 4000000 in
theorem tight_walk (a b c d e : BitVec 64) (t : Int) (A : Option Addr) (n cap : Nat) (w : World) (hL : LaidC w) (ht : isI64 t) (hn : n ≤ maxLen) (hN : NumsAt .u64 (fun t => 0 ≤ t ∧ t ≤ 18446744073709551615) w w.heap.size A n) :
    Calls Tryd.prog 5 #[cronV [a, b, c, d, e], .int .i64 t, .slice A n cap] w fun x w' => x = .returned (.bool true) ∧ Below w.heap.size w w' := by
  obtain ⟨WB, hWB, hb0, hc0⟩ := cron_cell1 w a b c d e
  have HWK := Lib.hid hwakes_any
  have HNX := Lib.hid (fun t W hW => (next_any [a, b, c, d, e] t W hW rfl).mono fun x w' h => (⟨h.1.v, h.2⟩ : (∃ (u : Int) (z : Bool), x = .returned (.tuple #[.int .i64 u, .bool z]) ∧ NextV [a, b, c, d, e] t u z) ∧ Below W.heap.size W w'))
  have HLS := Lib.hid (fun t W hW => (nlast_any [a, b, c, d, e] t W hW rfl).mono fun x w' h => (⟨h.1.v, h.2⟩ : (∃ (u : Int) (z : Bool), x = .returned (.tuple #[.int .i64 u, .bool z]) ∧ LastV [a, b, c, d, e] t u z) ∧ Below W.heap.size W w'))
  have HYES := Lib.hid (fun (u : Int) (h : TC [a, b, c, d, e] u) W hW => at_yes h W hW rfl)
  have HNOT := Lib.hid (fun (u : Int) (h : ¬ TC [a, b, c, d, e] u) W hW => at_not h W hW rfl)
  have HB0 := Lib.hid hb0; have HC := Lib.hid hc0; have HL := Lib.hid (hL.on hb0)
  have HX0 := Lib.hid (Below.refl WB.heap.size WB)
  have HNN := Lib.hid (hN.on hb0)
  have hwb := hb0.size
  have HT := Lib.hid (TC_times [a, b, c, d, e])
  have HTI := Lib.hid ht
  rw [cronV_five] at *
  unfold fiveV at *
  clear hL hb0 hc0 hN ht
  go_enter Tryd.func5, Tryd.ntmps5
  go_wp2_with fail
  rw [← hWB]
  clear hWB
  refine (HWK.out _ HL.out).mono ?_
  rintro x w1 ⟨rfl, hb⟩
  have HX1 := Lib.hid (HX0.out.trans (hb.mono HX0.out.size))
  clear hb HX0
  obtain ⟨c0, c1, c2, c3, c4⟩ := (HC.out.on HX1.out).five
  go_wp2_with fail
  clear c0 c1 c2 c3 c4
  refine (HNX.out t _ (HL.out.on HX1.out)).mono ?_
  rintro x w2 ⟨⟨u, ok, rfl, hu⟩, hb⟩
  have HX2 := Lib.hid (HX1.out.trans (hb.mono HX1.out.size)); have HU := Lib.hid hu
  clear hb HX1 hu
  obtain ⟨c0, c1, c2, c3, c4⟩ := (HC.out.on HX2.out).five
  go_wp2_with fail
  clear c0 c1 c2 c3 c4
  refine (HLS.out t _ (HL.out.on HX2.out)).mono ?_
  rintro x w3 ⟨⟨v, was, rfl, hv⟩, hb⟩
  have HX3 := Lib.hid (HX2.out.trans (hb.mono HX2.out.size)); have HV := Lib.hid hv
  clear hb HX2 hv
  go_upto_region 5 with fail
  go_cut [64] from 31 to 63 (fun s64 wx => s64 = .bool false ∧ Below WB.heap.size WB wx)
  case first =>
    rcases HU.out with ⟨rfl, hnx⟩ | ⟨rfl, rfl, hno⟩
    · have hu0 := HT.out u hnx.1
      have e1 : decide (u ≤ t) = false := decide_eq_false (by have := hnx.2.1; omega)
      have e2 : decide (253402300799 < u) = false := decide_eq_false (by have := hu0.2; omega)
      have HY := Lib.hid (fun W hW => HYES.out u hnx.1 W hW)
      clear hnx hu0
      obtain ⟨c0, c1, c2, c3, c4⟩ := (HC.out.on HX3.out).five
      go_wp2_with fail
      clear c0 c1 c2 c3 c4
      refine (HY.out _ (HL.out.on HX3.out)).mono ?_
      rintro x w4 ⟨rfl, hb⟩
      have HX4 := Lib.hid (HX3.out.trans (hb.mono HX3.out.size))
      clear hb HX3 HY
      rcases HV.out with ⟨rfl, hls⟩ | ⟨rfl, rfl, hno⟩
      · have hv0 := HT.out v hls.1
        have e3 : decide (t < v) = false := decide_eq_false (by have := hls.2.1; omega)
        have e4 : decide (v < 0) = false := decide_eq_false (by have := hv0.1; omega)
        have HY := Lib.hid (fun W hW => HYES.out v hls.1 W hW)
        clear hls hv0
        obtain ⟨c0, c1, c2, c3, c4⟩ := (HC.out.on HX4.out).five
        go_wp2_with fail
        clear c0 c1 c2 c3 c4
        refine (HY.out _ (HL.out.on HX4.out)).mono ?_
        rintro x w5 ⟨rfl, hb⟩
        have HX5 := Lib.hid (HX4.out.trans (hb.mono HX4.out.size))
        clear hb HX4 HY
        go_wp2_with fail
        go_meet
        exact ⟨rfl, HX5.out⟩
      · clear hno
        go_wp2_with fail
        go_meet
        exact ⟨rfl, HX4.out⟩
    · clear hno
      rcases HV.out with ⟨rfl, hls⟩ | ⟨rfl, rfl, hno⟩
      · have hv0 := HT.out v hls.1
        have e3 : decide (t < v) = false := decide_eq_false (by have := hls.2.1; omega)
        have e4 : decide (v < 0) = false := decide_eq_false (by have := hv0.1; omega)
        have HY := Lib.hid (fun W hW => HYES.out v hls.1 W hW)
        clear hls hv0
        obtain ⟨c0, c1, c2, c3, c4⟩ := (HC.out.on HX3.out).five
        go_wp2_with fail
        clear c0 c1 c2 c3 c4
        refine (HY.out _ (HL.out.on HX3.out)).mono ?_
        rintro x w5 ⟨rfl, hb⟩
        have HX5 := Lib.hid (HX3.out.trans (hb.mono HX3.out.size))
        clear hb HX3 HY
        go_wp2_with fail
        go_meet
        exact ⟨rfl, HX5.out⟩
      · clear hno
        go_wp2_with fail
        go_meet
        exact ⟨rfl, HX3.out⟩
  case rest =>
    obtain ⟨rfl, hxc⟩ := hcut
    have HXC := Lib.hid hxc
    clear hxc HX3
    have hub : -1 ≤ u - 1 ∧ u - 1 ≤ 253402300799 := by
      rcases HU.out with ⟨_, h⟩ | ⟨_, rfl, _⟩
      · have := HT.out u h.1; unfold D.TimeZ at this; omega
      · omega
    have hvb : 0 ≤ v ∧ v ≤ 253402300799 := by
      rcases HV.out with ⟨_, h⟩ | ⟨_, rfl, _⟩
      · exact HT.out v h.1
      · omega
    obtain ⟨u0, u1⟩ := hub
    obtain ⟨v0, v1⟩ := hvb
    go_upto_region 7 with fail
    go_cut [11, 12] from 65 to 69 (fun s11 s12 wx => (∃ f0 : Int, s11 = .int .i64 f0 ∧ (ok = true → Bare (TC [a, b, c, d, e]) f0 (u - 1))) ∧ s12 = .int .i64 (u - 1) ∧ wx = wc)
    case first =>
      by_cases ht1 : t < -1
      · have hfb : ok = true → Bare (TC [a, b, c, d, e]) 0 (u - 1) := fun hok => by
          rcases HU.out with ⟨_, h⟩ | ⟨h1, _⟩
          · exact ⟨by omega, by omega, u0, u1, fun x h1 h2 hx => by have := h.2.2.2 x hx (by omega); omega⟩
          · rw [h1] at hok; cases hok
        have HFB := Lib.hid hfb
        clear hfb
        go_wp2_with fail
        go_meet
        exact ⟨⟨0, rfl, HFB.out⟩, rfl, rfl⟩
      · have hfb : ok = true → Bare (TC [a, b, c, d, e]) (wrap64 (t + 1)) (u - 1) := fun hok => by
          rcases HU.out with ⟨_, h⟩ | ⟨h1, _⟩
          · have h2 := h.2.1
            have e : wrap64 (t + 1) = t + 1 := by unfold wrap64; omega
            rw [e]
            exact ⟨by omega, by omega, u0, u1, fun x h1 h2 hx => by have := h.2.2.2 x hx (by omega); omega⟩
          · rw [h1] at hok; cases hok
        have HFB := Lib.hid hfb
        clear hfb
        go_wp2_with fail
        go_meet
        exact ⟨⟨_, rfl, HFB.out⟩, rfl, rfl⟩
    case rest =>
      obtain ⟨⟨f0, rfl, hf0⟩, rfl, rfl⟩ := hcut
      have HF0 := Lib.hid hf0
      clear hf0
      go_upto_if 71 with fail
      go_cut [11, 12] from 70 to 71 (fun s11 s12 wx => (∃ f0 t0 : Int, s11 = .int .i64 f0 ∧ s12 = .int .i64 t0 ∧ Bare (TC [a, b, c, d, e]) f0 t0) ∧ Below WB.heap.size WB wx)
      case first =>
        cases ok with
        | true =>
          go_wp2_with fail
          go_meet
          exact ⟨⟨f0, u - 1, rfl, rfl, HF0.out (by simp)⟩, HXC.out⟩
        | false =>
          go_wp2_with fail
          go_meet
          exact ⟨⟨1, 0, rfl, rfl, bare_none _⟩, HXC.out⟩
      case rest =>
        obtain ⟨⟨f1, t1, rfl, rfl, hb1⟩, hxc⟩ := hcut
        have HB1 := Lib.hid hb1
        clear HXC HF0
        have HXC := Lib.hid hxc
        clear hb1 hxc
        go_upto_region 10 with fail
        go_cut [13, 14] from 72 to 75 (fun s13 s14 wx => (∃ t2 : Int, s14 = .int .i64 t2 ∧ (was = true → Bare (TC [a, b, c, d, e]) (v + 1) t2)) ∧ s13 = .int .i64 (v + 1) ∧ Below WB.heap.size WB wx)
        case first =>
          by_cases ht1 : 253402300799 < t
          · have hfb : was = true → Bare (TC [a, b, c, d, e]) (v + 1) 253402300799 := fun hok => by
              rcases HV.out with ⟨_, h⟩ | ⟨h1, _⟩
              · exact ⟨by omega, by omega, by omega, by omega, fun x h1 h2 hx => by have := h.2.2.2 x hx (by omega); omega⟩
              · rw [h1] at hok; cases hok
            have HFB := Lib.hid hfb
            clear hfb
            go_wp2_with fail
            go_meet
            exact ⟨⟨_, rfl, HFB.out⟩, rfl, HXC.out⟩
          · have hfb : was = true → Bare (TC [a, b, c, d, e]) (v + 1) t := fun hok => by
              rcases HV.out with ⟨_, h⟩ | ⟨h1, _⟩
              · have := h.2.1
                exact ⟨by omega, by omega, by omega, by omega, fun x h1 h2 hx => by have := h.2.2.2 x hx (by omega); omega⟩
              · rw [h1] at hok; cases hok
            have HFB := Lib.hid hfb
            clear hfb
            go_wp2_with fail
            go_meet
            exact ⟨⟨_, rfl, HFB.out⟩, rfl, HXC.out⟩
        case rest =>
          obtain ⟨⟨t2, rfl, hf0⟩, rfl, hxc⟩ := hcut
          have HF0 := Lib.hid hf0
          clear HXC
          have HXC := Lib.hid hxc
          clear hf0 hxc
          go_upto_if 77 with fail
          go_cut [13, 14] from 76 to 77 (fun s13 s14 wx => (∃ f0 t0 : Int, s13 = .int .i64 f0 ∧ s14 = .int .i64 t0 ∧ Bare (TC [a, b, c, d, e]) f0 t0) ∧ Below WB.heap.size WB wx)
          case first =>
            cases was with
            | true =>
              go_wp2_with fail
              go_meet
              exact ⟨⟨v + 1, t2, rfl, rfl, HF0.out (by simp)⟩, HXC.out⟩
            | false =>
              go_wp2_with fail
              go_meet
              exact ⟨⟨1, 0, rfl, rfl, bare_none _⟩, HXC.out⟩
          case rest =>
            obtain ⟨⟨g1, s1, rfl, rfl, hb1⟩, hxc⟩ := hcut
            have HB2 := Lib.hid hb1
            clear HXC HF0
            have HXC := Lib.hid hxc
            clear hb1 hxc HU HV u0 u1 v0 v1 HTI HT HYES HNX HLS HWK
            go_wp2_with fail
            go_loopw [80] (fun i wr => ∃ k : Nat, k ≤ n ∧ k ≤ 20 ∧ i = .int .i64 (k : Int) ∧ Below WB.heap.size WB wr) (fun i _ => n - (intOf i).toNat)
            case atStart => exact ⟨0, Nat.zero_le _, by omega, rfl, HXC.out⟩
            case round =>
              clear HXC
              obtain ⟨k, hk, hk4, rfl, hx⟩ := hrel
              have HX := Lib.hid hx
              clear hx
              by_cases hlt : k < n
              · by_cases hk5 : k = 20
                · subst hk5
                  obtain ⟨bb, off, p, hA, hlb, hc, _⟩ := (HNN.out.on (HX.out.mono hwb)) 20 hlt
                  subst hA
                  rw [show ((20 : Nat) : Int) = 20 by rfl]
                  have hi4 : (20 : Int) < (n : Int) := by omega
                  go_wp2_with fail
                  go_ret
                  exact ⟨rfl, HB0.out.trans (HX.out.mono HB0.out.size)⟩
                · obtain ⟨bb, off, p, hA, hlb, hc, hp⟩ := (HNN.out.on (HX.out.mono hwb)) k hlt
                  subst hA
                  have hd4 : ((k : Int) == 20) = false := by simp; omega
                  have hk0 : (0 : Int) ≤ (k : Int) := by omega
                  have hkn : (k : Int) < (n : Int) := by omega
                  have HPP := Lib.hid hp
                  clear hp
                  go_wp2_with fail
                  have HS1 := HB1; have HS2 := HB2
                  by_cases hc1 : f1 ≤ t1
                  · by_cases hc2 : g1 ≤ s1
                    · skip
                      have hd1 : decide (f1 ≤ t1) = true := decide_eq_true hc1
                      obtain ⟨m1, hm1⟩ : ∃ m, p.tmod (t1 - f1 + 1) = m := ⟨_, rfl⟩
                      have hmb1 : 0 ≤ m1 ∧ m1 ≤ t1 - f1 := by
                        rw [← hm1, Int.tmod_eq_emod_of_nonneg HPP.out.1]
                        exact ⟨Int.emod_nonneg _ (by omega), by have := Int.emod_lt_of_pos p (show 0 < t1 - f1 + 1 by omega); omega⟩
                      have HA1 := Lib.hid (fun W hW => HNOT.out (f1 + m1) (HS1.out.2.2.2.2 _ (by omega) (by omega)) W hW)
                      have hq11 : IntKind.i64.wrap (t1 - f1) = t1 - f1 := by rw [IntKind.wrap_i64]; have := HS1.out.1; have := HS1.out.2.1; have := HS1.out.2.2.1; have := HS1.out.2.2.2.1; omega
                      have hq12 : IntKind.i64.wrap (t1 - f1 + 1) = t1 - f1 + 1 := by rw [IntKind.wrap_i64]; have := HS1.out.1; have := HS1.out.2.1; have := HS1.out.2.2.1; have := HS1.out.2.2.2.1; omega
                      have hq13 : IntKind.u64.wrap (t1 - f1 + 1) = t1 - f1 + 1 := by rw [IntKind.wrap_u64]; have := HS1.out.1; have := HS1.out.2.2.2.1; omega
                      have hq14 : ¬ (t1 - f1 + 1 = 0) := by omega
                      have hq15 : IntKind.i64.wrap m1 = m1 := by rw [IntKind.wrap_i64]; have := HS1.out.1; have := HS1.out.2.2.2.1; omega
                      have hq16 : IntKind.i64.wrap (f1 + m1) = f1 + m1 := by rw [IntKind.wrap_i64]; have := HS1.out.1; have := HS1.out.2.2.2.1; omega
                      have hd2 : decide (g1 ≤ s1) = true := decide_eq_true hc2
                      obtain ⟨m2, hm2⟩ : ∃ m, p.tmod (s1 - g1 + 1) = m := ⟨_, rfl⟩
                      have hmb2 : 0 ≤ m2 ∧ m2 ≤ s1 - g1 := by
                        rw [← hm2, Int.tmod_eq_emod_of_nonneg HPP.out.1]
                        exact ⟨Int.emod_nonneg _ (by omega), by have := Int.emod_lt_of_pos p (show 0 < s1 - g1 + 1 by omega); omega⟩
                      have HA2 := Lib.hid (fun W hW => HNOT.out (g1 + m2) (HS2.out.2.2.2.2 _ (by omega) (by omega)) W hW)
                      have hq21 : IntKind.i64.wrap (s1 - g1) = s1 - g1 := by rw [IntKind.wrap_i64]; have := HS2.out.1; have := HS2.out.2.1; have := HS2.out.2.2.1; have := HS2.out.2.2.2.1; omega
                      have hq22 : IntKind.i64.wrap (s1 - g1 + 1) = s1 - g1 + 1 := by rw [IntKind.wrap_i64]; have := HS2.out.1; have := HS2.out.2.1; have := HS2.out.2.2.1; have := HS2.out.2.2.2.1; omega
                      have hq23 : IntKind.u64.wrap (s1 - g1 + 1) = s1 - g1 + 1 := by rw [IntKind.wrap_u64]; have := HS2.out.1; have := HS2.out.2.2.2.1; omega
                      have hq24 : ¬ (s1 - g1 + 1 = 0) := by omega
                      have hq25 : IntKind.i64.wrap m2 = m2 := by rw [IntKind.wrap_i64]; have := HS2.out.1; have := HS2.out.2.2.2.1; omega
                      have hq26 : IntKind.i64.wrap (g1 + m2) = g1 + m2 := by rw [IntKind.wrap_i64]; have := HS2.out.1; have := HS2.out.2.2.2.1; omega
                      have HK : Hid (∀ w', Below wr.heap.size wr w' → (w'.cell? ⟨w.heap.size, 0, none⟩ = some (.int .u64 (U a)) ∧ w'.cell? ⟨w.heap.size, 1, none⟩ = some (.int .u64 (U b)) ∧ w'.cell? ⟨w.heap.size, 2, none⟩ = some (.int .u64 (U c)) ∧ w'.cell? ⟨w.heap.size, 3, none⟩ = some (.int .u64 (U d)) ∧ w'.cell? ⟨w.heap.size, 4, none⟩ = some (.int .u64 (U e)))) := Lib.hid (fun w' hb => (HC.out.on (HX.out.trans (hb.mono HX.out.size))).five)
                      have hBE := Below.refl wr.heap.size wr
                      clear hc
                      refine wp_region_held_drew (S := (fun W => W.cell? ⟨w.heap.size, 0, none⟩ = some (.int .u64 (U a)) ∧ W.cell? ⟨w.heap.size, 1, none⟩ = some (.int .u64 (U b)) ∧ W.cell? ⟨w.heap.size, 2, none⟩ = some (.int .u64 (U c)) ∧ W.cell? ⟨w.heap.size, 3, none⟩ = some (.int .u64 (U d)) ∧ W.cell? ⟨w.heap.size, 4, none⟩ = some (.int .u64 (U e)))) (by kernel_rfl) (HK.out _ hBE.drew) (fun hHeld => ?_)
                      replace hBE := hBE.drew
                      refine wpAnyH_take (i := 0) (oi := { dst := some 87, op := Op.move (Operand.tmp 11), type := 2, pos := "outright.go:34", after := #[], guard := none }) (v := ?v11x0) rfl (by kernel_rfl) (by kernel_rfl) (by kernel_rfl) (fun _ _ _ h => h) (Or.inl ⟨by rfl, ?h11x0⟩) (by assumption) ?r11x0
                      case h11x0 => (intro w hSw; (try dsimp only at hSw); go_simp; (try with_reducible rfl))
                      try simp only [Act.put, List.setIfInBounds_toArray, List.set_cons_zero, List.set_cons_succ]
                      refine wpAnyH_take (i := 1) (oi := { dst := some 88, op := Op.move (Operand.tmp 12), type := 2, pos := "outright.go:34", after := #[], guard := none }) (v := ?v11x1) rfl (by kernel_rfl) (by kernel_rfl) (by kernel_rfl) (fun _ _ _ h => h) (Or.inl ⟨by rfl, ?h11x1⟩) (by assumption) ?r11x1
                      case h11x1 => (intro w hSw; (try dsimp only at hSw); go_simp; (try with_reducible rfl))
                      try simp only [Act.put, List.setIfInBounds_toArray, List.set_cons_zero, List.set_cons_succ]
                      refine wpAnyH_take (i := 2) (oi := { dst := some 89, op := Op.binOp BinOp.leq 2 (Operand.tmp 87) (Operand.tmp 88) 2, type := 4, pos := "outright.go:34", after := #[{ on := 0, ground := Ground.data }, { on := 1, ground := Ground.data }], guard := none }) (v := ?v11x2) rfl (by kernel_rfl) (by kernel_rfl) (by kernel_rfl) (fun _ _ _ h => h) (Or.inl ⟨by rfl, ?h11x2⟩) (by assumption) ?r11x2
                      case h11x2 => (intro w hSw; (try dsimp only at hSw); go_simp; (try with_reducible rfl))
                      try simp only [Act.put, List.setIfInBounds_toArray, List.set_cons_zero, List.set_cons_succ]
                      refine wpAnyH_take (i := 3) (oi := { dst := some 90, op := Op.move (Operand.tmp 89), type := 4, pos := "outright.go:34", after := #[{ on := 2, ground := Ground.data }], guard := none }) (v := ?v11x3) rfl (by kernel_rfl) (by kernel_rfl) (by kernel_rfl) (fun _ _ _ h => h) (Or.inl ⟨by rfl, ?h11x3⟩) (by assumption) ?r11x3
                      case h11x3 => (intro w hSw; (try dsimp only at hSw); go_simp; (try with_reducible rfl))
                      try simp only [Act.put, List.setIfInBounds_toArray, List.set_cons_zero, List.set_cons_succ]
                      refine wpAnyH_take (i := 4) (oi := { dst := some 91, op := Op.load 25 (Operand.tmp 3), type := 25, pos := "outright.go:34", after := #[{ on := 3, ground := Ground.guard }], guard := some (3, true) }) (v := ?v11x4) rfl (by kernel_rfl) (by kernel_rfl) (by kernel_rfl) (fun _ _ _ h => h) (Or.inl ⟨by rfl, ?h11x4⟩) (by assumption) ?r11x4
                      case h11x4 => (intro w hSw; (try dsimp only at hSw); go_simp; (try with_reducible rfl))
                      try simp only [Act.put, List.setIfInBounds_toArray, List.set_cons_zero, List.set_cons_succ]
                      refine wpAnyH_take (i := 5) (oi := { dst := some 92, op := Op.move (Operand.tmp 11), type := 2, pos := "outright.go:34", after := #[{ on := 3, ground := Ground.guard }], guard := some (3, true) }) (v := ?v11x5) rfl (by kernel_rfl) (by kernel_rfl) (by kernel_rfl) (fun _ _ _ h => h) (Or.inl ⟨by rfl, ?h11x5⟩) (by assumption) ?r11x5
                      case h11x5 => (intro w hSw; (try dsimp only at hSw); go_simp; (try with_reducible rfl))
                      try simp only [Act.put, List.setIfInBounds_toArray, List.set_cons_zero, List.set_cons_succ]
                      refine wpAnyH_take (i := 6) (oi := { dst := some 93, op := Op.move (Operand.tmp 16), type := 22, pos := "outright.go:34", after := #[{ on := 3, ground := Ground.guard }], guard := some (3, true) }) (v := ?v11x6) rfl (by kernel_rfl) (by kernel_rfl) (by kernel_rfl) (fun _ _ _ h => h) (Or.inl ⟨by rfl, ?h11x6⟩) (by assumption) ?r11x6
                      case h11x6 => (intro w hSw; (try dsimp only at hSw); go_simp; (try with_reducible rfl))
                      try simp only [Act.put, List.setIfInBounds_toArray, List.set_cons_zero, List.set_cons_succ]
                      refine wpAnyH_take (i := 7) (oi := { dst := some 94, op := Op.move (Operand.tmp 12), type := 2, pos := "outright.go:34", after := #[{ on := 3, ground := Ground.guard }], guard := some (3, true) }) (v := ?v11x7) rfl (by kernel_rfl) (by kernel_rfl) (by kernel_rfl) (fun _ _ _ h => h) (Or.inl ⟨by rfl, ?h11x7⟩) (by assumption) ?r11x7
                      case h11x7 => (intro w hSw; (try dsimp only at hSw); go_simp; (try with_reducible rfl))
                      try simp only [Act.put, List.setIfInBounds_toArray, List.set_cons_zero, List.set_cons_succ]
                      refine wpAnyH_take (i := 8) (oi := { dst := some 95, op := Op.move (Operand.tmp 11), type := 2, pos := "outright.go:34", after := #[{ on := 3, ground := Ground.guard }], guard := some (3, true) }) (v := ?v11x8) rfl (by kernel_rfl) (by kernel_rfl) (by kernel_rfl) (fun _ _ _ h => h) (Or.inl ⟨by rfl, ?h11x8⟩) (by assumption) ?r11x8
                      case h11x8 => (intro w hSw; (try dsimp only at hSw); go_simp; (try with_reducible rfl))
                      try simp only [Act.put, List.setIfInBounds_toArray, List.set_cons_zero, List.set_cons_succ]
                      refine wpAnyH_take (i := 9) (oi := { dst := some 96, op := Op.binOp BinOp.sub 2 (Operand.tmp 94) (Operand.tmp 95) 2, type := 2, pos := "outright.go:34", after := #[{ on := 7, ground := Ground.data }, { on := 8, ground := Ground.data }, { on := 3, ground := Ground.guard }], guard := some (3, true) }) (v := ?v11x9) rfl (by kernel_rfl) (by kernel_rfl) (by kernel_rfl) (fun _ _ _ h => h) (Or.inl ⟨by rfl, ?h11x9⟩) (by assumption) ?r11x9
                      case h11x9 => (intro w hSw; (try dsimp only at hSw); go_simp; (try with_reducible rfl))
                      try simp only [Act.put, List.setIfInBounds_toArray, List.set_cons_zero, List.set_cons_succ]
                      refine wpAnyH_take (i := 10) (oi := { dst := some 97, op := Op.binOp BinOp.add 2 (Operand.tmp 96) (Operand.const (Value.int IntKind.i64 1)) 2, type := 2, pos := "outright.go:34", after := #[{ on := 9, ground := Ground.data }, { on := 3, ground := Ground.guard }], guard := some (3, true) }) (v := ?v11x10) rfl (by kernel_rfl) (by kernel_rfl) (by kernel_rfl) (fun _ _ _ h => h) (Or.inl ⟨by rfl, ?h11x10⟩) (by assumption) ?r11x10
                      case h11x10 => (intro w hSw; (try dsimp only at hSw); go_simp; (try with_reducible rfl))
                      try simp only [Act.put, List.setIfInBounds_toArray, List.set_cons_zero, List.set_cons_succ]
                      refine wpAnyH_take (i := 11) (oi := { dst := some 98, op := Op.convert 2 22 (Operand.tmp 97), type := 22, pos := "outright.go:34", after := #[{ on := 10, ground := Ground.data }, { on := 3, ground := Ground.guard }], guard := some (3, true) }) (v := ?v11x11) rfl (by kernel_rfl) (by kernel_rfl) (by kernel_rfl) (fun _ _ _ h => h) (Or.inl ⟨by rfl, ?h11x11⟩) (by assumption) ?r11x11
                      case h11x11 => (intro w hSw; (try dsimp only at hSw); go_simp; (try with_reducible rfl))
                      try simp only [Act.put, List.setIfInBounds_toArray, List.set_cons_zero, List.set_cons_succ]
                      refine wpAnyH_take (i := 12) (oi := { dst := some 99, op := Op.binOp BinOp.rem 22 (Operand.tmp 93) (Operand.tmp 98) 22, type := 22, pos := "outright.go:34", after := #[{ on := 6, ground := Ground.data }, { on := 11, ground := Ground.data }, { on := 3, ground := Ground.guard }], guard := some (3, true) }) (v := ?v11x12) rfl (by kernel_rfl) (by kernel_rfl) (by kernel_rfl) (fun _ _ _ h => h) (Or.inl ⟨by rfl, ?h11x12⟩) (by assumption) ?r11x12
                      case h11x12 => (intro w hSw; (try dsimp only at hSw); go_simp; (try with_reducible rfl))
                      try simp only [Act.put, List.setIfInBounds_toArray, List.set_cons_zero, List.set_cons_succ]
                      refine wpAnyH_take (i := 13) (oi := { dst := some 100, op := Op.convert 22 2 (Operand.tmp 99), type := 2, pos := "outright.go:34", after := #[{ on := 12, ground := Ground.data }, { on := 3, ground := Ground.guard }], guard := some (3, true) }) (v := ?v11x13) rfl (by kernel_rfl) (by kernel_rfl) (by kernel_rfl) (fun _ _ _ h => h) (Or.inl ⟨by rfl, ?h11x13⟩) (by assumption) ?r11x13
                      case h11x13 => (intro w hSw; (try dsimp only at hSw); go_simp; (try with_reducible rfl))
                      try simp only [Act.put, List.setIfInBounds_toArray, List.set_cons_zero, List.set_cons_succ]
                      refine wpAnyH_take (i := 14) (oi := { dst := some 101, op := Op.binOp BinOp.add 2 (Operand.tmp 92) (Operand.tmp 100) 2, type := 2, pos := "outright.go:34", after := #[{ on := 5, ground := Ground.data }, { on := 13, ground := Ground.data }, { on := 3, ground := Ground.guard }], guard := some (3, true) }) (v := ?v11x14) rfl (by kernel_rfl) (by kernel_rfl) (by kernel_rfl) (fun _ _ _ h => h) (Or.inl ⟨by rfl, ?h11x14⟩) (by assumption) ?r11x14
                      case h11x14 => (intro w hSw; (try dsimp only at hSw); go_simp; (try with_reducible rfl))
                      try simp only [Act.put, List.setIfInBounds_toArray, List.set_cons_zero, List.set_cons_succ]
                      refine wpAnyH_ready (rs := [15]) (by kernel_rfl) (by simp) (AllReadyH.cons (o := { dst := some 102, op := Op.call { callee := Callee.value (Operand.func 20), args := #[Operand.tmp 91, Operand.tmp 101], argTypes := #[25, 2] }, type := 4, pos := "outright.go:34", after := #[{ on := 4, ground := Ground.data }, { on := 14, ground := Ground.data }, { on := 3, ground := Ground.chain }, { on := 3, ground := Ground.guard }], guard := some (3, true) }) rfl (fun K hK => ?_) AllReadyH.nil)
                      go_simp
                      go_at_call 20; (with_reducible refine (HA1.out _ (HL.out.on (HX.out.trans (hBE.mono HX.out.size)))).mono ?_)
                      rintro e wa ⟨rfl, hb⟩
                      replace hBE := hBE.trans (hb.mono hBE.size)
                      clear hb
                      refine hK.out _ _ (HK.out _ hBE) (fun hHeld2 => ?_)
                      clear hK K hHeld
                      have hHeld := hHeld2
                      clear hHeld2
                      try simp only [Act.put, List.setIfInBounds_toArray, List.set_cons_zero, List.set_cons_succ]
                      refine wpAnyH_take (i := 16) (oi := { dst := some 103, op := Op.pick (Operand.tmp 90) (Operand.tmp 102) (Operand.const (Value.bool false)), type := 4, pos := "outright.go:34", after := #[{ on := 3, ground := Ground.data }, { on := 15, ground := Ground.data }], guard := none }) (v := ?v11x16) rfl (by kernel_rfl) (by kernel_rfl) (by kernel_rfl) (fun _ _ _ h => h) (Or.inl ⟨by rfl, ?h11x16⟩) (by assumption) ?r11x16
                      case h11x16 => (intro w hSw; (try dsimp only at hSw); go_simp; (try with_reducible rfl))
                      try simp only [Act.put, List.setIfInBounds_toArray, List.set_cons_zero, List.set_cons_succ]
                      refine wpAnyH_take (i := 17) (oi := { dst := some 104, op := Op.move (Operand.tmp 103), type := 4, pos := "outright.go:34", after := #[{ on := 16, ground := Ground.data }, { on := 15, ground := Ground.chain }], guard := none }) (v := ?v11x17) rfl (by kernel_rfl) (by kernel_rfl) (by kernel_rfl) (fun _ _ _ h => h) (Or.inl ⟨by rfl, ?h11x17⟩) (by assumption) ?r11x17
                      case h11x17 => (intro w hSw; (try dsimp only at hSw); go_simp; (try with_reducible rfl))
                      try simp only [Act.put, List.setIfInBounds_toArray, List.set_cons_zero, List.set_cons_succ]
                      refine wpAnyH_take (i := 18) (oi := { dst := some 105, op := Op.move (Operand.tmp 13), type := 2, pos := "outright.go:34", after := #[{ on := 17, ground := Ground.guard }], guard := some (17, false) }) (v := ?v11x18) rfl (by kernel_rfl) (by kernel_rfl) (by kernel_rfl) (fun _ _ _ h => h) (Or.inl ⟨by rfl, ?h11x18⟩) (by assumption) ?r11x18
                      case h11x18 => (intro w hSw; (try dsimp only at hSw); go_simp; (try with_reducible rfl))
                      try simp only [Act.put, List.setIfInBounds_toArray, List.set_cons_zero, List.set_cons_succ]
                      refine wpAnyH_take (i := 19) (oi := { dst := some 106, op := Op.move (Operand.tmp 14), type := 2, pos := "outright.go:34", after := #[{ on := 17, ground := Ground.guard }], guard := some (17, false) }) (v := ?v11x19) rfl (by kernel_rfl) (by kernel_rfl) (by kernel_rfl) (fun _ _ _ h => h) (Or.inl ⟨by rfl, ?h11x19⟩) (by assumption) ?r11x19
                      case h11x19 => (intro w hSw; (try dsimp only at hSw); go_simp; (try with_reducible rfl))
                      try simp only [Act.put, List.setIfInBounds_toArray, List.set_cons_zero, List.set_cons_succ]
                      refine wpAnyH_take (i := 20) (oi := { dst := some 107, op := Op.binOp BinOp.leq 2 (Operand.tmp 105) (Operand.tmp 106) 2, type := 4, pos := "outright.go:34", after := #[{ on := 18, ground := Ground.data }, { on := 19, ground := Ground.data }, { on := 17, ground := Ground.guard }], guard := some (17, false) }) (v := ?v11x20) rfl (by kernel_rfl) (by kernel_rfl) (by kernel_rfl) (fun _ _ _ h => h) (Or.inl ⟨by rfl, ?h11x20⟩) (by assumption) ?r11x20
                      case h11x20 => (intro w hSw; (try dsimp only at hSw); go_simp; (try with_reducible rfl))
                      try simp only [Act.put, List.setIfInBounds_toArray, List.set_cons_zero, List.set_cons_succ]
                      refine wpAnyH_take (i := 21) (oi := { dst := some 108, op := Op.move (Operand.tmp 107), type := 4, pos := "outright.go:34", after := #[{ on := 20, ground := Ground.data }, { on := 17, ground := Ground.chain }, { on := 17, ground := Ground.guard }], guard := some (17, false) }) (v := ?v11x21) rfl (by kernel_rfl) (by kernel_rfl) (by kernel_rfl) (fun _ _ _ h => h) (Or.inl ⟨by rfl, ?h11x21⟩) (by assumption) ?r11x21
                      case h11x21 => (intro w hSw; (try dsimp only at hSw); go_simp; (try with_reducible rfl))
                      try simp only [Act.put, List.setIfInBounds_toArray, List.set_cons_zero, List.set_cons_succ]
                      refine wpAnyH_take (i := 22) (oi := { dst := some 109, op := Op.load 25 (Operand.tmp 3), type := 25, pos := "outright.go:34", after := #[{ on := 21, ground := Ground.guard }], guard := some (21, true) }) (v := ?v11x22) rfl (by kernel_rfl) (by kernel_rfl) (by kernel_rfl) (fun _ _ _ h => h) (Or.inl ⟨by rfl, ?h11x22⟩) (by assumption) ?r11x22
                      case h11x22 => (intro w hSw; (try dsimp only at hSw); go_simp; (try with_reducible rfl))
                      try simp only [Act.put, List.setIfInBounds_toArray, List.set_cons_zero, List.set_cons_succ]
                      refine wpAnyH_take (i := 23) (oi := { dst := some 110, op := Op.move (Operand.tmp 13), type := 2, pos := "outright.go:34", after := #[{ on := 21, ground := Ground.guard }], guard := some (21, true) }) (v := ?v11x23) rfl (by kernel_rfl) (by kernel_rfl) (by kernel_rfl) (fun _ _ _ h => h) (Or.inl ⟨by rfl, ?h11x23⟩) (by assumption) ?r11x23
                      case h11x23 => (intro w hSw; (try dsimp only at hSw); go_simp; (try with_reducible rfl))
                      try simp only [Act.put, List.setIfInBounds_toArray, List.set_cons_zero, List.set_cons_succ]
                      refine wpAnyH_take (i := 24) (oi := { dst := some 111, op := Op.move (Operand.tmp 16), type := 22, pos := "outright.go:34", after := #[{ on := 21, ground := Ground.guard }], guard := some (21, true) }) (v := ?v11x24) rfl (by kernel_rfl) (by kernel_rfl) (by kernel_rfl) (fun _ _ _ h => h) (Or.inl ⟨by rfl, ?h11x24⟩) (by assumption) ?r11x24
                      case h11x24 => (intro w hSw; (try dsimp only at hSw); go_simp; (try with_reducible rfl))
                      try simp only [Act.put, List.setIfInBounds_toArray, List.set_cons_zero, List.set_cons_succ]
                      refine wpAnyH_take (i := 25) (oi := { dst := some 112, op := Op.move (Operand.tmp 14), type := 2, pos := "outright.go:34", after := #[{ on := 21, ground := Ground.guard }], guard := some (21, true) }) (v := ?v11x25) rfl (by kernel_rfl) (by kernel_rfl) (by kernel_rfl) (fun _ _ _ h => h) (Or.inl ⟨by rfl, ?h11x25⟩) (by assumption) ?r11x25
                      case h11x25 => (intro w hSw; (try dsimp only at hSw); go_simp; (try with_reducible rfl))
                      try simp only [Act.put, List.setIfInBounds_toArray, List.set_cons_zero, List.set_cons_succ]
                      refine wpAnyH_take (i := 26) (oi := { dst := some 113, op := Op.move (Operand.tmp 13), type := 2, pos := "outright.go:34", after := #[{ on := 21, ground := Ground.guard }], guard := some (21, true) }) (v := ?v11x26) rfl (by kernel_rfl) (by kernel_rfl) (by kernel_rfl) (fun _ _ _ h => h) (Or.inl ⟨by rfl, ?h11x26⟩) (by assumption) ?r11x26
                      case h11x26 => (intro w hSw; (try dsimp only at hSw); go_simp; (try with_reducible rfl))
                      try simp only [Act.put, List.setIfInBounds_toArray, List.set_cons_zero, List.set_cons_succ]
                      refine wpAnyH_take (i := 27) (oi := { dst := some 114, op := Op.binOp BinOp.sub 2 (Operand.tmp 112) (Operand.tmp 113) 2, type := 2, pos := "outright.go:34", after := #[{ on := 25, ground := Ground.data }, { on := 26, ground := Ground.data }, { on := 21, ground := Ground.guard }], guard := some (21, true) }) (v := ?v11x27) rfl (by kernel_rfl) (by kernel_rfl) (by kernel_rfl) (fun _ _ _ h => h) (Or.inl ⟨by rfl, ?h11x27⟩) (by assumption) ?r11x27
                      case h11x27 => (intro w hSw; (try dsimp only at hSw); go_simp; (try with_reducible rfl))
                      try simp only [Act.put, List.setIfInBounds_toArray, List.set_cons_zero, List.set_cons_succ]
                      refine wpAnyH_take (i := 28) (oi := { dst := some 115, op := Op.binOp BinOp.add 2 (Operand.tmp 114) (Operand.const (Value.int IntKind.i64 1)) 2, type := 2, pos := "outright.go:34", after := #[{ on := 27, ground := Ground.data }, { on := 21, ground := Ground.guard }], guard := some (21, true) }) (v := ?v11x28) rfl (by kernel_rfl) (by kernel_rfl) (by kernel_rfl) (fun _ _ _ h => h) (Or.inl ⟨by rfl, ?h11x28⟩) (by assumption) ?r11x28
                      case h11x28 => (intro w hSw; (try dsimp only at hSw); go_simp; (try with_reducible rfl))
                      try simp only [Act.put, List.setIfInBounds_toArray, List.set_cons_zero, List.set_cons_succ]
                      refine wpAnyH_take (i := 29) (oi := { dst := some 116, op := Op.convert 2 22 (Operand.tmp 115), type := 22, pos := "outright.go:34", after := #[{ on := 28, ground := Ground.data }, { on := 21, ground := Ground.guard }], guard := some (21, true) }) (v := ?v11x29) rfl (by kernel_rfl) (by kernel_rfl) (by kernel_rfl) (fun _ _ _ h => h) (Or.inl ⟨by rfl, ?h11x29⟩) (by assumption) ?r11x29
                      case h11x29 => (intro w hSw; (try dsimp only at hSw); go_simp; (try with_reducible rfl))
                      try simp only [Act.put, List.setIfInBounds_toArray, List.set_cons_zero, List.set_cons_succ]
                      refine wpAnyH_take (i := 30) (oi := { dst := some 117, op := Op.binOp BinOp.rem 22 (Operand.tmp 111) (Operand.tmp 116) 22, type := 22, pos := "outright.go:34", after := #[{ on := 24, ground := Ground.data }, { on := 29, ground := Ground.data }, { on := 21, ground := Ground.guard }], guard := some (21, true) }) (v := ?v11x30) rfl (by kernel_rfl) (by kernel_rfl) (by kernel_rfl) (fun _ _ _ h => h) (Or.inl ⟨by rfl, ?h11x30⟩) (by assumption) ?r11x30
                      case h11x30 => (intro w hSw; (try dsimp only at hSw); go_simp; (try with_reducible rfl))
                      try simp only [Act.put, List.setIfInBounds_toArray, List.set_cons_zero, List.set_cons_succ]
                      refine wpAnyH_take (i := 31) (oi := { dst := some 118, op := Op.convert 22 2 (Operand.tmp 117), type := 2, pos := "outright.go:34", after := #[{ on := 30, ground := Ground.data }, { on := 21, ground := Ground.guard }], guard := some (21, true) }) (v := ?v11x31) rfl (by kernel_rfl) (by kernel_rfl) (by kernel_rfl) (fun _ _ _ h => h) (Or.inl ⟨by rfl, ?h11x31⟩) (by assumption) ?r11x31
                      case h11x31 => (intro w hSw; (try dsimp only at hSw); go_simp; (try with_reducible rfl))
                      try simp only [Act.put, List.setIfInBounds_toArray, List.set_cons_zero, List.set_cons_succ]
                      refine wpAnyH_take (i := 32) (oi := { dst := some 119, op := Op.binOp BinOp.add 2 (Operand.tmp 110) (Operand.tmp 118) 2, type := 2, pos := "outright.go:34", after := #[{ on := 23, ground := Ground.data }, { on := 31, ground := Ground.data }, { on := 21, ground := Ground.guard }], guard := some (21, true) }) (v := ?v11x32) rfl (by kernel_rfl) (by kernel_rfl) (by kernel_rfl) (fun _ _ _ h => h) (Or.inl ⟨by rfl, ?h11x32⟩) (by assumption) ?r11x32
                      case h11x32 => (intro w hSw; (try dsimp only at hSw); go_simp; (try with_reducible rfl))
                      try simp only [Act.put, List.setIfInBounds_toArray, List.set_cons_zero, List.set_cons_succ]
                      refine wpAnyH_ready (rs := [33]) (by kernel_rfl) (by simp) (AllReadyH.cons (o := { dst := some 120, op := Op.call { callee := Callee.value (Operand.func 20), args := #[Operand.tmp 109, Operand.tmp 119], argTypes := #[25, 2] }, type := 4, pos := "outright.go:34", after := #[{ on := 22, ground := Ground.data }, { on := 32, ground := Ground.data }, { on := 21, ground := Ground.chain }, { on := 21, ground := Ground.guard }], guard := some (21, true) }) rfl (fun K hK => ?_) AllReadyH.nil)
                      go_simp
                      go_at_call 20; (with_reducible refine (HA2.out _ (HL.out.on (HX.out.trans (hBE.mono HX.out.size)))).mono ?_)
                      rintro e wa ⟨rfl, hb⟩
                      replace hBE := hBE.trans (hb.mono hBE.size)
                      clear hb
                      refine hK.out _ _ (HK.out _ hBE) (fun hHeld2 => ?_)
                      clear hK K hHeld
                      have hHeld := hHeld2
                      clear hHeld2
                      try simp only [Act.put, List.setIfInBounds_toArray, List.set_cons_zero, List.set_cons_succ]
                      refine wpAnyH_take (i := 34) (oi := { dst := some 121, op := Op.pick (Operand.tmp 108) (Operand.tmp 120) (Operand.const (Value.bool false)), type := 4, pos := "outright.go:34", after := #[{ on := 21, ground := Ground.data }, { on := 33, ground := Ground.data }, { on := 17, ground := Ground.guard }], guard := some (17, false) }) (v := ?v11x34) rfl (by kernel_rfl) (by kernel_rfl) (by kernel_rfl) (fun _ _ _ h => h) (Or.inl ⟨by rfl, ?h11x34⟩) (by assumption) ?r11x34
                      case h11x34 => (intro w hSw; (try dsimp only at hSw); go_simp; (try with_reducible rfl))
                      try simp only [Act.put, List.setIfInBounds_toArray, List.set_cons_zero, List.set_cons_succ]
                      refine wpAnyH_take (i := 35) (oi := { dst := some 122, op := Op.pick (Operand.tmp 104) (Operand.const (Value.bool true)) (Operand.tmp 121), type := 4, pos := "outright.go:34", after := #[{ on := 17, ground := Ground.data }, { on := 34, ground := Ground.data }], guard := none }) (v := ?v11x35) rfl (by kernel_rfl) (by kernel_rfl) (by kernel_rfl) (fun _ _ _ h => h) (Or.inl ⟨by rfl, ?h11x35⟩) (by assumption) ?r11x35
                      case h11x35 => (intro w hSw; (try dsimp only at hSw); go_simp; (try with_reducible rfl))
                      try simp only [Act.put, List.setIfInBounds_toArray, List.set_cons_zero, List.set_cons_succ]
                      refine wpAnyH_done (by kernel_rfl) ?_ _
                      have HX9 := Lib.hid (HX.out.trans (hBE.mono HX.out.size))
                      clear hHeld hBE HK
                      go_wp2_with fail
                      go_roundw
                      case rel => exact ⟨k + 1, by omega, by omega, by go_num, HX9.out⟩
                      case measure => simp [intOf]; omega
                    · skip
                      have hd1 : decide (f1 ≤ t1) = true := decide_eq_true hc1
                      obtain ⟨m1, hm1⟩ : ∃ m, p.tmod (t1 - f1 + 1) = m := ⟨_, rfl⟩
                      have hmb1 : 0 ≤ m1 ∧ m1 ≤ t1 - f1 := by
                        rw [← hm1, Int.tmod_eq_emod_of_nonneg HPP.out.1]
                        exact ⟨Int.emod_nonneg _ (by omega), by have := Int.emod_lt_of_pos p (show 0 < t1 - f1 + 1 by omega); omega⟩
                      have HA1 := Lib.hid (fun W hW => HNOT.out (f1 + m1) (HS1.out.2.2.2.2 _ (by omega) (by omega)) W hW)
                      have hq11 : IntKind.i64.wrap (t1 - f1) = t1 - f1 := by rw [IntKind.wrap_i64]; have := HS1.out.1; have := HS1.out.2.1; have := HS1.out.2.2.1; have := HS1.out.2.2.2.1; omega
                      have hq12 : IntKind.i64.wrap (t1 - f1 + 1) = t1 - f1 + 1 := by rw [IntKind.wrap_i64]; have := HS1.out.1; have := HS1.out.2.1; have := HS1.out.2.2.1; have := HS1.out.2.2.2.1; omega
                      have hq13 : IntKind.u64.wrap (t1 - f1 + 1) = t1 - f1 + 1 := by rw [IntKind.wrap_u64]; have := HS1.out.1; have := HS1.out.2.2.2.1; omega
                      have hq14 : ¬ (t1 - f1 + 1 = 0) := by omega
                      have hq15 : IntKind.i64.wrap m1 = m1 := by rw [IntKind.wrap_i64]; have := HS1.out.1; have := HS1.out.2.2.2.1; omega
                      have hq16 : IntKind.i64.wrap (f1 + m1) = f1 + m1 := by rw [IntKind.wrap_i64]; have := HS1.out.1; have := HS1.out.2.2.2.1; omega
                      have hd2 : decide (g1 ≤ s1) = false := decide_eq_false hc2
                      have HK : Hid (∀ w', Below wr.heap.size wr w' → (w'.cell? ⟨w.heap.size, 0, none⟩ = some (.int .u64 (U a)) ∧ w'.cell? ⟨w.heap.size, 1, none⟩ = some (.int .u64 (U b)) ∧ w'.cell? ⟨w.heap.size, 2, none⟩ = some (.int .u64 (U c)) ∧ w'.cell? ⟨w.heap.size, 3, none⟩ = some (.int .u64 (U d)) ∧ w'.cell? ⟨w.heap.size, 4, none⟩ = some (.int .u64 (U e)))) := Lib.hid (fun w' hb => (HC.out.on (HX.out.trans (hb.mono HX.out.size))).five)
                      have hBE := Below.refl wr.heap.size wr
                      clear hc
                      refine wp_region_held_drew (S := (fun W => W.cell? ⟨w.heap.size, 0, none⟩ = some (.int .u64 (U a)) ∧ W.cell? ⟨w.heap.size, 1, none⟩ = some (.int .u64 (U b)) ∧ W.cell? ⟨w.heap.size, 2, none⟩ = some (.int .u64 (U c)) ∧ W.cell? ⟨w.heap.size, 3, none⟩ = some (.int .u64 (U d)) ∧ W.cell? ⟨w.heap.size, 4, none⟩ = some (.int .u64 (U e)))) (by kernel_rfl) (HK.out _ hBE.drew) (fun hHeld => ?_)
                      replace hBE := hBE.drew
                      refine wpAnyH_take (i := 0) (oi := { dst := some 87, op := Op.move (Operand.tmp 11), type := 2, pos := "outright.go:34", after := #[], guard := none }) (v := ?v10x0) rfl (by kernel_rfl) (by kernel_rfl) (by kernel_rfl) (fun _ _ _ h => h) (Or.inl ⟨by rfl, ?h10x0⟩) (by assumption) ?r10x0
                      case h10x0 => (intro w hSw; (try dsimp only at hSw); go_simp; (try with_reducible rfl))
                      try simp only [Act.put, List.setIfInBounds_toArray, List.set_cons_zero, List.set_cons_succ]
                      refine wpAnyH_take (i := 1) (oi := { dst := some 88, op := Op.move (Operand.tmp 12), type := 2, pos := "outright.go:34", after := #[], guard := none }) (v := ?v10x1) rfl (by kernel_rfl) (by kernel_rfl) (by kernel_rfl) (fun _ _ _ h => h) (Or.inl ⟨by rfl, ?h10x1⟩) (by assumption) ?r10x1
                      case h10x1 => (intro w hSw; (try dsimp only at hSw); go_simp; (try with_reducible rfl))
                      try simp only [Act.put, List.setIfInBounds_toArray, List.set_cons_zero, List.set_cons_succ]
                      refine wpAnyH_take (i := 2) (oi := { dst := some 89, op := Op.binOp BinOp.leq 2 (Operand.tmp 87) (Operand.tmp 88) 2, type := 4, pos := "outright.go:34", after := #[{ on := 0, ground := Ground.data }, { on := 1, ground := Ground.data }], guard := none }) (v := ?v10x2) rfl (by kernel_rfl) (by kernel_rfl) (by kernel_rfl) (fun _ _ _ h => h) (Or.inl ⟨by rfl, ?h10x2⟩) (by assumption) ?r10x2
                      case h10x2 => (intro w hSw; (try dsimp only at hSw); go_simp; (try with_reducible rfl))
                      try simp only [Act.put, List.setIfInBounds_toArray, List.set_cons_zero, List.set_cons_succ]
                      refine wpAnyH_take (i := 3) (oi := { dst := some 90, op := Op.move (Operand.tmp 89), type := 4, pos := "outright.go:34", after := #[{ on := 2, ground := Ground.data }], guard := none }) (v := ?v10x3) rfl (by kernel_rfl) (by kernel_rfl) (by kernel_rfl) (fun _ _ _ h => h) (Or.inl ⟨by rfl, ?h10x3⟩) (by assumption) ?r10x3
                      case h10x3 => (intro w hSw; (try dsimp only at hSw); go_simp; (try with_reducible rfl))
                      try simp only [Act.put, List.setIfInBounds_toArray, List.set_cons_zero, List.set_cons_succ]
                      refine wpAnyH_take (i := 4) (oi := { dst := some 91, op := Op.load 25 (Operand.tmp 3), type := 25, pos := "outright.go:34", after := #[{ on := 3, ground := Ground.guard }], guard := some (3, true) }) (v := ?v10x4) rfl (by kernel_rfl) (by kernel_rfl) (by kernel_rfl) (fun _ _ _ h => h) (Or.inl ⟨by rfl, ?h10x4⟩) (by assumption) ?r10x4
                      case h10x4 => (intro w hSw; (try dsimp only at hSw); go_simp; (try with_reducible rfl))
                      try simp only [Act.put, List.setIfInBounds_toArray, List.set_cons_zero, List.set_cons_succ]
                      refine wpAnyH_take (i := 5) (oi := { dst := some 92, op := Op.move (Operand.tmp 11), type := 2, pos := "outright.go:34", after := #[{ on := 3, ground := Ground.guard }], guard := some (3, true) }) (v := ?v10x5) rfl (by kernel_rfl) (by kernel_rfl) (by kernel_rfl) (fun _ _ _ h => h) (Or.inl ⟨by rfl, ?h10x5⟩) (by assumption) ?r10x5
                      case h10x5 => (intro w hSw; (try dsimp only at hSw); go_simp; (try with_reducible rfl))
                      try simp only [Act.put, List.setIfInBounds_toArray, List.set_cons_zero, List.set_cons_succ]
                      refine wpAnyH_take (i := 6) (oi := { dst := some 93, op := Op.move (Operand.tmp 16), type := 22, pos := "outright.go:34", after := #[{ on := 3, ground := Ground.guard }], guard := some (3, true) }) (v := ?v10x6) rfl (by kernel_rfl) (by kernel_rfl) (by kernel_rfl) (fun _ _ _ h => h) (Or.inl ⟨by rfl, ?h10x6⟩) (by assumption) ?r10x6
                      case h10x6 => (intro w hSw; (try dsimp only at hSw); go_simp; (try with_reducible rfl))
                      try simp only [Act.put, List.setIfInBounds_toArray, List.set_cons_zero, List.set_cons_succ]
                      refine wpAnyH_take (i := 7) (oi := { dst := some 94, op := Op.move (Operand.tmp 12), type := 2, pos := "outright.go:34", after := #[{ on := 3, ground := Ground.guard }], guard := some (3, true) }) (v := ?v10x7) rfl (by kernel_rfl) (by kernel_rfl) (by kernel_rfl) (fun _ _ _ h => h) (Or.inl ⟨by rfl, ?h10x7⟩) (by assumption) ?r10x7
                      case h10x7 => (intro w hSw; (try dsimp only at hSw); go_simp; (try with_reducible rfl))
                      try simp only [Act.put, List.setIfInBounds_toArray, List.set_cons_zero, List.set_cons_succ]
                      refine wpAnyH_take (i := 8) (oi := { dst := some 95, op := Op.move (Operand.tmp 11), type := 2, pos := "outright.go:34", after := #[{ on := 3, ground := Ground.guard }], guard := some (3, true) }) (v := ?v10x8) rfl (by kernel_rfl) (by kernel_rfl) (by kernel_rfl) (fun _ _ _ h => h) (Or.inl ⟨by rfl, ?h10x8⟩) (by assumption) ?r10x8
                      case h10x8 => (intro w hSw; (try dsimp only at hSw); go_simp; (try with_reducible rfl))
                      try simp only [Act.put, List.setIfInBounds_toArray, List.set_cons_zero, List.set_cons_succ]
                      refine wpAnyH_take (i := 9) (oi := { dst := some 96, op := Op.binOp BinOp.sub 2 (Operand.tmp 94) (Operand.tmp 95) 2, type := 2, pos := "outright.go:34", after := #[{ on := 7, ground := Ground.data }, { on := 8, ground := Ground.data }, { on := 3, ground := Ground.guard }], guard := some (3, true) }) (v := ?v10x9) rfl (by kernel_rfl) (by kernel_rfl) (by kernel_rfl) (fun _ _ _ h => h) (Or.inl ⟨by rfl, ?h10x9⟩) (by assumption) ?r10x9
                      case h10x9 => (intro w hSw; (try dsimp only at hSw); go_simp; (try with_reducible rfl))
                      try simp only [Act.put, List.setIfInBounds_toArray, List.set_cons_zero, List.set_cons_succ]
                      refine wpAnyH_take (i := 10) (oi := { dst := some 97, op := Op.binOp BinOp.add 2 (Operand.tmp 96) (Operand.const (Value.int IntKind.i64 1)) 2, type := 2, pos := "outright.go:34", after := #[{ on := 9, ground := Ground.data }, { on := 3, ground := Ground.guard }], guard := some (3, true) }) (v := ?v10x10) rfl (by kernel_rfl) (by kernel_rfl) (by kernel_rfl) (fun _ _ _ h => h) (Or.inl ⟨by rfl, ?h10x10⟩) (by assumption) ?r10x10
                      case h10x10 => (intro w hSw; (try dsimp only at hSw); go_simp; (try with_reducible rfl))
                      try simp only [Act.put, List.setIfInBounds_toArray, List.set_cons_zero, List.set_cons_succ]
                      refine wpAnyH_take (i := 11) (oi := { dst := some 98, op := Op.convert 2 22 (Operand.tmp 97), type := 22, pos := "outright.go:34", after := #[{ on := 10, ground := Ground.data }, { on := 3, ground := Ground.guard }], guard := some (3, true) }) (v := ?v10x11) rfl (by kernel_rfl) (by kernel_rfl) (by kernel_rfl) (fun _ _ _ h => h) (Or.inl ⟨by rfl, ?h10x11⟩) (by assumption) ?r10x11
                      case h10x11 => (intro w hSw; (try dsimp only at hSw); go_simp; (try with_reducible rfl))
                      try simp only [Act.put, List.setIfInBounds_toArray, List.set_cons_zero, List.set_cons_succ]
                      refine wpAnyH_take (i := 12) (oi := { dst := some 99, op := Op.binOp BinOp.rem 22 (Operand.tmp 93) (Operand.tmp 98) 22, type := 22, pos := "outright.go:34", after := #[{ on := 6, ground := Ground.data }, { on := 11, ground := Ground.data }, { on := 3, ground := Ground.guard }], guard := some (3, true) }) (v := ?v10x12) rfl (by kernel_rfl) (by kernel_rfl) (by kernel_rfl) (fun _ _ _ h => h) (Or.inl ⟨by rfl, ?h10x12⟩) (by assumption) ?r10x12
                      case h10x12 => (intro w hSw; (try dsimp only at hSw); go_simp; (try with_reducible rfl))
                      try simp only [Act.put, List.setIfInBounds_toArray, List.set_cons_zero, List.set_cons_succ]
                      refine wpAnyH_take (i := 13) (oi := { dst := some 100, op := Op.convert 22 2 (Operand.tmp 99), type := 2, pos := "outright.go:34", after := #[{ on := 12, ground := Ground.data }, { on := 3, ground := Ground.guard }], guard := some (3, true) }) (v := ?v10x13) rfl (by kernel_rfl) (by kernel_rfl) (by kernel_rfl) (fun _ _ _ h => h) (Or.inl ⟨by rfl, ?h10x13⟩) (by assumption) ?r10x13
                      case h10x13 => (intro w hSw; (try dsimp only at hSw); go_simp; (try with_reducible rfl))
                      try simp only [Act.put, List.setIfInBounds_toArray, List.set_cons_zero, List.set_cons_succ]
                      refine wpAnyH_take (i := 14) (oi := { dst := some 101, op := Op.binOp BinOp.add 2 (Operand.tmp 92) (Operand.tmp 100) 2, type := 2, pos := "outright.go:34", after := #[{ on := 5, ground := Ground.data }, { on := 13, ground := Ground.data }, { on := 3, ground := Ground.guard }], guard := some (3, true) }) (v := ?v10x14) rfl (by kernel_rfl) (by kernel_rfl) (by kernel_rfl) (fun _ _ _ h => h) (Or.inl ⟨by rfl, ?h10x14⟩) (by assumption) ?r10x14
                      case h10x14 => (intro w hSw; (try dsimp only at hSw); go_simp; (try with_reducible rfl))
                      try simp only [Act.put, List.setIfInBounds_toArray, List.set_cons_zero, List.set_cons_succ]
                      refine wpAnyH_ready (rs := [15]) (by kernel_rfl) (by simp) (AllReadyH.cons (o := { dst := some 102, op := Op.call { callee := Callee.value (Operand.func 20), args := #[Operand.tmp 91, Operand.tmp 101], argTypes := #[25, 2] }, type := 4, pos := "outright.go:34", after := #[{ on := 4, ground := Ground.data }, { on := 14, ground := Ground.data }, { on := 3, ground := Ground.chain }, { on := 3, ground := Ground.guard }], guard := some (3, true) }) rfl (fun K hK => ?_) AllReadyH.nil)
                      go_simp
                      go_at_call 20; (with_reducible refine (HA1.out _ (HL.out.on (HX.out.trans (hBE.mono HX.out.size)))).mono ?_)
                      rintro e wa ⟨rfl, hb⟩
                      replace hBE := hBE.trans (hb.mono hBE.size)
                      clear hb
                      refine hK.out _ _ (HK.out _ hBE) (fun hHeld2 => ?_)
                      clear hK K hHeld
                      have hHeld := hHeld2
                      clear hHeld2
                      try simp only [Act.put, List.setIfInBounds_toArray, List.set_cons_zero, List.set_cons_succ]
                      refine wpAnyH_take (i := 16) (oi := { dst := some 103, op := Op.pick (Operand.tmp 90) (Operand.tmp 102) (Operand.const (Value.bool false)), type := 4, pos := "outright.go:34", after := #[{ on := 3, ground := Ground.data }, { on := 15, ground := Ground.data }], guard := none }) (v := ?v10x16) rfl (by kernel_rfl) (by kernel_rfl) (by kernel_rfl) (fun _ _ _ h => h) (Or.inl ⟨by rfl, ?h10x16⟩) (by assumption) ?r10x16
                      case h10x16 => (intro w hSw; (try dsimp only at hSw); go_simp; (try with_reducible rfl))
                      try simp only [Act.put, List.setIfInBounds_toArray, List.set_cons_zero, List.set_cons_succ]
                      refine wpAnyH_take (i := 17) (oi := { dst := some 104, op := Op.move (Operand.tmp 103), type := 4, pos := "outright.go:34", after := #[{ on := 16, ground := Ground.data }, { on := 15, ground := Ground.chain }], guard := none }) (v := ?v10x17) rfl (by kernel_rfl) (by kernel_rfl) (by kernel_rfl) (fun _ _ _ h => h) (Or.inl ⟨by rfl, ?h10x17⟩) (by assumption) ?r10x17
                      case h10x17 => (intro w hSw; (try dsimp only at hSw); go_simp; (try with_reducible rfl))
                      try simp only [Act.put, List.setIfInBounds_toArray, List.set_cons_zero, List.set_cons_succ]
                      refine wpAnyH_take (i := 18) (oi := { dst := some 105, op := Op.move (Operand.tmp 13), type := 2, pos := "outright.go:34", after := #[{ on := 17, ground := Ground.guard }], guard := some (17, false) }) (v := ?v10x18) rfl (by kernel_rfl) (by kernel_rfl) (by kernel_rfl) (fun _ _ _ h => h) (Or.inl ⟨by rfl, ?h10x18⟩) (by assumption) ?r10x18
                      case h10x18 => (intro w hSw; (try dsimp only at hSw); go_simp; (try with_reducible rfl))
                      try simp only [Act.put, List.setIfInBounds_toArray, List.set_cons_zero, List.set_cons_succ]
                      refine wpAnyH_take (i := 19) (oi := { dst := some 106, op := Op.move (Operand.tmp 14), type := 2, pos := "outright.go:34", after := #[{ on := 17, ground := Ground.guard }], guard := some (17, false) }) (v := ?v10x19) rfl (by kernel_rfl) (by kernel_rfl) (by kernel_rfl) (fun _ _ _ h => h) (Or.inl ⟨by rfl, ?h10x19⟩) (by assumption) ?r10x19
                      case h10x19 => (intro w hSw; (try dsimp only at hSw); go_simp; (try with_reducible rfl))
                      try simp only [Act.put, List.setIfInBounds_toArray, List.set_cons_zero, List.set_cons_succ]
                      refine wpAnyH_take (i := 20) (oi := { dst := some 107, op := Op.binOp BinOp.leq 2 (Operand.tmp 105) (Operand.tmp 106) 2, type := 4, pos := "outright.go:34", after := #[{ on := 18, ground := Ground.data }, { on := 19, ground := Ground.data }, { on := 17, ground := Ground.guard }], guard := some (17, false) }) (v := ?v10x20) rfl (by kernel_rfl) (by kernel_rfl) (by kernel_rfl) (fun _ _ _ h => h) (Or.inl ⟨by rfl, ?h10x20⟩) (by assumption) ?r10x20
                      case h10x20 => (intro w hSw; (try dsimp only at hSw); go_simp; (try with_reducible rfl))
                      try simp only [Act.put, List.setIfInBounds_toArray, List.set_cons_zero, List.set_cons_succ]
                      refine wpAnyH_take (i := 21) (oi := { dst := some 108, op := Op.move (Operand.tmp 107), type := 4, pos := "outright.go:34", after := #[{ on := 20, ground := Ground.data }, { on := 17, ground := Ground.chain }, { on := 17, ground := Ground.guard }], guard := some (17, false) }) (v := ?v10x21) rfl (by kernel_rfl) (by kernel_rfl) (by kernel_rfl) (fun _ _ _ h => h) (Or.inl ⟨by rfl, ?h10x21⟩) (by assumption) ?r10x21
                      case h10x21 => (intro w hSw; (try dsimp only at hSw); go_simp; (try with_reducible rfl))
                      try simp only [Act.put, List.setIfInBounds_toArray, List.set_cons_zero, List.set_cons_succ]
                      refine wpAnyH_take (i := 22) (oi := { dst := some 109, op := Op.load 25 (Operand.tmp 3), type := 25, pos := "outright.go:34", after := #[{ on := 21, ground := Ground.guard }], guard := some (21, true) }) (v := undef) rfl (by kernel_rfl) (by kernel_rfl) (by kernel_rfl) (fun _ _ _ h => h) (Or.inr ⟨by rfl, rfl⟩) (by assumption) ?_
                      try simp only [Act.put, List.setIfInBounds_toArray, List.set_cons_zero, List.set_cons_succ]
                      refine wpAnyH_take (i := 23) (oi := { dst := some 110, op := Op.move (Operand.tmp 13), type := 2, pos := "outright.go:34", after := #[{ on := 21, ground := Ground.guard }], guard := some (21, true) }) (v := undef) rfl (by kernel_rfl) (by kernel_rfl) (by kernel_rfl) (fun _ _ _ h => h) (Or.inr ⟨by rfl, rfl⟩) (by assumption) ?_
                      try simp only [Act.put, List.setIfInBounds_toArray, List.set_cons_zero, List.set_cons_succ]
                      refine wpAnyH_take (i := 24) (oi := { dst := some 111, op := Op.move (Operand.tmp 16), type := 22, pos := "outright.go:34", after := #[{ on := 21, ground := Ground.guard }], guard := some (21, true) }) (v := undef) rfl (by kernel_rfl) (by kernel_rfl) (by kernel_rfl) (fun _ _ _ h => h) (Or.inr ⟨by rfl, rfl⟩) (by assumption) ?_
                      try simp only [Act.put, List.setIfInBounds_toArray, List.set_cons_zero, List.set_cons_succ]
                      refine wpAnyH_take (i := 25) (oi := { dst := some 112, op := Op.move (Operand.tmp 14), type := 2, pos := "outright.go:34", after := #[{ on := 21, ground := Ground.guard }], guard := some (21, true) }) (v := undef) rfl (by kernel_rfl) (by kernel_rfl) (by kernel_rfl) (fun _ _ _ h => h) (Or.inr ⟨by rfl, rfl⟩) (by assumption) ?_
                      try simp only [Act.put, List.setIfInBounds_toArray, List.set_cons_zero, List.set_cons_succ]
                      refine wpAnyH_take (i := 26) (oi := { dst := some 113, op := Op.move (Operand.tmp 13), type := 2, pos := "outright.go:34", after := #[{ on := 21, ground := Ground.guard }], guard := some (21, true) }) (v := undef) rfl (by kernel_rfl) (by kernel_rfl) (by kernel_rfl) (fun _ _ _ h => h) (Or.inr ⟨by rfl, rfl⟩) (by assumption) ?_
                      try simp only [Act.put, List.setIfInBounds_toArray, List.set_cons_zero, List.set_cons_succ]
                      refine wpAnyH_take (i := 27) (oi := { dst := some 114, op := Op.binOp BinOp.sub 2 (Operand.tmp 112) (Operand.tmp 113) 2, type := 2, pos := "outright.go:34", after := #[{ on := 25, ground := Ground.data }, { on := 26, ground := Ground.data }, { on := 21, ground := Ground.guard }], guard := some (21, true) }) (v := undef) rfl (by kernel_rfl) (by kernel_rfl) (by kernel_rfl) (fun _ _ _ h => h) (Or.inr ⟨by rfl, rfl⟩) (by assumption) ?_
                      try simp only [Act.put, List.setIfInBounds_toArray, List.set_cons_zero, List.set_cons_succ]
                      refine wpAnyH_take (i := 28) (oi := { dst := some 115, op := Op.binOp BinOp.add 2 (Operand.tmp 114) (Operand.const (Value.int IntKind.i64 1)) 2, type := 2, pos := "outright.go:34", after := #[{ on := 27, ground := Ground.data }, { on := 21, ground := Ground.guard }], guard := some (21, true) }) (v := undef) rfl (by kernel_rfl) (by kernel_rfl) (by kernel_rfl) (fun _ _ _ h => h) (Or.inr ⟨by rfl, rfl⟩) (by assumption) ?_
                      try simp only [Act.put, List.setIfInBounds_toArray, List.set_cons_zero, List.set_cons_succ]
                      refine wpAnyH_take (i := 29) (oi := { dst := some 116, op := Op.convert 2 22 (Operand.tmp 115), type := 22, pos := "outright.go:34", after := #[{ on := 28, ground := Ground.data }, { on := 21, ground := Ground.guard }], guard := some (21, true) }) (v := undef) rfl (by kernel_rfl) (by kernel_rfl) (by kernel_rfl) (fun _ _ _ h => h) (Or.inr ⟨by rfl, rfl⟩) (by assumption) ?_
                      try simp only [Act.put, List.setIfInBounds_toArray, List.set_cons_zero, List.set_cons_succ]
                      refine wpAnyH_take (i := 30) (oi := { dst := some 117, op := Op.binOp BinOp.rem 22 (Operand.tmp 111) (Operand.tmp 116) 22, type := 22, pos := "outright.go:34", after := #[{ on := 24, ground := Ground.data }, { on := 29, ground := Ground.data }, { on := 21, ground := Ground.guard }], guard := some (21, true) }) (v := undef) rfl (by kernel_rfl) (by kernel_rfl) (by kernel_rfl) (fun _ _ _ h => h) (Or.inr ⟨by rfl, rfl⟩) (by assumption) ?_
                      try simp only [Act.put, List.setIfInBounds_toArray, List.set_cons_zero, List.set_cons_succ]
                      refine wpAnyH_take (i := 31) (oi := { dst := some 118, op := Op.convert 22 2 (Operand.tmp 117), type := 2, pos := "outright.go:34", after := #[{ on := 30, ground := Ground.data }, { on := 21, ground := Ground.guard }], guard := some (21, true) }) (v := undef) rfl (by kernel_rfl) (by kernel_rfl) (by kernel_rfl) (fun _ _ _ h => h) (Or.inr ⟨by rfl, rfl⟩) (by assumption) ?_
                      try simp only [Act.put, List.setIfInBounds_toArray, List.set_cons_zero, List.set_cons_succ]
                      refine wpAnyH_take (i := 32) (oi := { dst := some 119, op := Op.binOp BinOp.add 2 (Operand.tmp 110) (Operand.tmp 118) 2, type := 2, pos := "outright.go:34", after := #[{ on := 23, ground := Ground.data }, { on := 31, ground := Ground.data }, { on := 21, ground := Ground.guard }], guard := some (21, true) }) (v := undef) rfl (by kernel_rfl) (by kernel_rfl) (by kernel_rfl) (fun _ _ _ h => h) (Or.inr ⟨by rfl, rfl⟩) (by assumption) ?_
                      try simp only [Act.put, List.setIfInBounds_toArray, List.set_cons_zero, List.set_cons_succ]
                      refine wpAnyH_take (i := 33) (oi := { dst := some 120, op := Op.call { callee := Callee.value (Operand.func 20), args := #[Operand.tmp 109, Operand.tmp 119], argTypes := #[25, 2] }, type := 4, pos := "outright.go:34", after := #[{ on := 22, ground := Ground.data }, { on := 32, ground := Ground.data }, { on := 21, ground := Ground.chain }, { on := 21, ground := Ground.guard }], guard := some (21, true) }) (v := undef) rfl (by kernel_rfl) (by kernel_rfl) (by kernel_rfl) (fun _ _ _ h => h) (Or.inr ⟨by rfl, rfl⟩) (by assumption) ?_
                      try simp only [Act.put, List.setIfInBounds_toArray, List.set_cons_zero, List.set_cons_succ]
                      refine wpAnyH_take (i := 34) (oi := { dst := some 121, op := Op.pick (Operand.tmp 108) (Operand.tmp 120) (Operand.const (Value.bool false)), type := 4, pos := "outright.go:34", after := #[{ on := 21, ground := Ground.data }, { on := 33, ground := Ground.data }, { on := 17, ground := Ground.guard }], guard := some (17, false) }) (v := ?v10x34) rfl (by kernel_rfl) (by kernel_rfl) (by kernel_rfl) (fun _ _ _ h => h) (Or.inl ⟨by rfl, ?h10x34⟩) (by assumption) ?r10x34
                      case h10x34 => (intro w hSw; (try dsimp only at hSw); go_simp; (try with_reducible rfl))
                      try simp only [Act.put, List.setIfInBounds_toArray, List.set_cons_zero, List.set_cons_succ]
                      refine wpAnyH_take (i := 35) (oi := { dst := some 122, op := Op.pick (Operand.tmp 104) (Operand.const (Value.bool true)) (Operand.tmp 121), type := 4, pos := "outright.go:34", after := #[{ on := 17, ground := Ground.data }, { on := 34, ground := Ground.data }], guard := none }) (v := ?v10x35) rfl (by kernel_rfl) (by kernel_rfl) (by kernel_rfl) (fun _ _ _ h => h) (Or.inl ⟨by rfl, ?h10x35⟩) (by assumption) ?r10x35
                      case h10x35 => (intro w hSw; (try dsimp only at hSw); go_simp; (try with_reducible rfl))
                      try simp only [Act.put, List.setIfInBounds_toArray, List.set_cons_zero, List.set_cons_succ]
                      refine wpAnyH_done (by kernel_rfl) ?_ _
                      have HX9 := Lib.hid (HX.out.trans (hBE.mono HX.out.size))
                      clear hHeld hBE HK
                      go_wp2_with fail
                      go_roundw
                      case rel => exact ⟨k + 1, by omega, by omega, by go_num, HX9.out⟩
                      case measure => simp [intOf]; omega
                  · by_cases hc2 : g1 ≤ s1
                    · skip
                      have hd1 : decide (f1 ≤ t1) = false := decide_eq_false hc1
                      have hd2 : decide (g1 ≤ s1) = true := decide_eq_true hc2
                      obtain ⟨m2, hm2⟩ : ∃ m, p.tmod (s1 - g1 + 1) = m := ⟨_, rfl⟩
                      have hmb2 : 0 ≤ m2 ∧ m2 ≤ s1 - g1 := by
                        rw [← hm2, Int.tmod_eq_emod_of_nonneg HPP.out.1]
                        exact ⟨Int.emod_nonneg _ (by omega), by have := Int.emod_lt_of_pos p (show 0 < s1 - g1 + 1 by omega); omega⟩
                      have HA2 := Lib.hid (fun W hW => HNOT.out (g1 + m2) (HS2.out.2.2.2.2 _ (by omega) (by omega)) W hW)
                      have hq21 : IntKind.i64.wrap (s1 - g1) = s1 - g1 := by rw [IntKind.wrap_i64]; have := HS2.out.1; have := HS2.out.2.1; have := HS2.out.2.2.1; have := HS2.out.2.2.2.1; omega
                      have hq22 : IntKind.i64.wrap (s1 - g1 + 1) = s1 - g1 + 1 := by rw [IntKind.wrap_i64]; have := HS2.out.1; have := HS2.out.2.1; have := HS2.out.2.2.1; have := HS2.out.2.2.2.1; omega
                      have hq23 : IntKind.u64.wrap (s1 - g1 + 1) = s1 - g1 + 1 := by rw [IntKind.wrap_u64]; have := HS2.out.1; have := HS2.out.2.2.2.1; omega
                      have hq24 : ¬ (s1 - g1 + 1 = 0) := by omega
                      have hq25 : IntKind.i64.wrap m2 = m2 := by rw [IntKind.wrap_i64]; have := HS2.out.1; have := HS2.out.2.2.2.1; omega
                      have hq26 : IntKind.i64.wrap (g1 + m2) = g1 + m2 := by rw [IntKind.wrap_i64]; have := HS2.out.1; have := HS2.out.2.2.2.1; omega
                      have HK : Hid (∀ w', Below wr.heap.size wr w' → (w'.cell? ⟨w.heap.size, 0, none⟩ = some (.int .u64 (U a)) ∧ w'.cell? ⟨w.heap.size, 1, none⟩ = some (.int .u64 (U b)) ∧ w'.cell? ⟨w.heap.size, 2, none⟩ = some (.int .u64 (U c)) ∧ w'.cell? ⟨w.heap.size, 3, none⟩ = some (.int .u64 (U d)) ∧ w'.cell? ⟨w.heap.size, 4, none⟩ = some (.int .u64 (U e)))) := Lib.hid (fun w' hb => (HC.out.on (HX.out.trans (hb.mono HX.out.size))).five)
                      have hBE := Below.refl wr.heap.size wr
                      clear hc
                      refine wp_region_held_drew (S := (fun W => W.cell? ⟨w.heap.size, 0, none⟩ = some (.int .u64 (U a)) ∧ W.cell? ⟨w.heap.size, 1, none⟩ = some (.int .u64 (U b)) ∧ W.cell? ⟨w.heap.size, 2, none⟩ = some (.int .u64 (U c)) ∧ W.cell? ⟨w.heap.size, 3, none⟩ = some (.int .u64 (U d)) ∧ W.cell? ⟨w.heap.size, 4, none⟩ = some (.int .u64 (U e)))) (by kernel_rfl) (HK.out _ hBE.drew) (fun hHeld => ?_)
                      replace hBE := hBE.drew
                      refine wpAnyH_take (i := 0) (oi := { dst := some 87, op := Op.move (Operand.tmp 11), type := 2, pos := "outright.go:34", after := #[], guard := none }) (v := ?v01x0) rfl (by kernel_rfl) (by kernel_rfl) (by kernel_rfl) (fun _ _ _ h => h) (Or.inl ⟨by rfl, ?h01x0⟩) (by assumption) ?r01x0
                      case h01x0 => (intro w hSw; (try dsimp only at hSw); go_simp; (try with_reducible rfl))
                      try simp only [Act.put, List.setIfInBounds_toArray, List.set_cons_zero, List.set_cons_succ]
                      refine wpAnyH_take (i := 1) (oi := { dst := some 88, op := Op.move (Operand.tmp 12), type := 2, pos := "outright.go:34", after := #[], guard := none }) (v := ?v01x1) rfl (by kernel_rfl) (by kernel_rfl) (by kernel_rfl) (fun _ _ _ h => h) (Or.inl ⟨by rfl, ?h01x1⟩) (by assumption) ?r01x1
                      case h01x1 => (intro w hSw; (try dsimp only at hSw); go_simp; (try with_reducible rfl))
                      try simp only [Act.put, List.setIfInBounds_toArray, List.set_cons_zero, List.set_cons_succ]
                      refine wpAnyH_take (i := 2) (oi := { dst := some 89, op := Op.binOp BinOp.leq 2 (Operand.tmp 87) (Operand.tmp 88) 2, type := 4, pos := "outright.go:34", after := #[{ on := 0, ground := Ground.data }, { on := 1, ground := Ground.data }], guard := none }) (v := ?v01x2) rfl (by kernel_rfl) (by kernel_rfl) (by kernel_rfl) (fun _ _ _ h => h) (Or.inl ⟨by rfl, ?h01x2⟩) (by assumption) ?r01x2
                      case h01x2 => (intro w hSw; (try dsimp only at hSw); go_simp; (try with_reducible rfl))
                      try simp only [Act.put, List.setIfInBounds_toArray, List.set_cons_zero, List.set_cons_succ]
                      refine wpAnyH_take (i := 3) (oi := { dst := some 90, op := Op.move (Operand.tmp 89), type := 4, pos := "outright.go:34", after := #[{ on := 2, ground := Ground.data }], guard := none }) (v := ?v01x3) rfl (by kernel_rfl) (by kernel_rfl) (by kernel_rfl) (fun _ _ _ h => h) (Or.inl ⟨by rfl, ?h01x3⟩) (by assumption) ?r01x3
                      case h01x3 => (intro w hSw; (try dsimp only at hSw); go_simp; (try with_reducible rfl))
                      try simp only [Act.put, List.setIfInBounds_toArray, List.set_cons_zero, List.set_cons_succ]
                      refine wpAnyH_take (i := 4) (oi := { dst := some 91, op := Op.load 25 (Operand.tmp 3), type := 25, pos := "outright.go:34", after := #[{ on := 3, ground := Ground.guard }], guard := some (3, true) }) (v := undef) rfl (by kernel_rfl) (by kernel_rfl) (by kernel_rfl) (fun _ _ _ h => h) (Or.inr ⟨by rfl, rfl⟩) (by assumption) ?_
                      try simp only [Act.put, List.setIfInBounds_toArray, List.set_cons_zero, List.set_cons_succ]
                      refine wpAnyH_take (i := 5) (oi := { dst := some 92, op := Op.move (Operand.tmp 11), type := 2, pos := "outright.go:34", after := #[{ on := 3, ground := Ground.guard }], guard := some (3, true) }) (v := undef) rfl (by kernel_rfl) (by kernel_rfl) (by kernel_rfl) (fun _ _ _ h => h) (Or.inr ⟨by rfl, rfl⟩) (by assumption) ?_
                      try simp only [Act.put, List.setIfInBounds_toArray, List.set_cons_zero, List.set_cons_succ]
                      refine wpAnyH_take (i := 6) (oi := { dst := some 93, op := Op.move (Operand.tmp 16), type := 22, pos := "outright.go:34", after := #[{ on := 3, ground := Ground.guard }], guard := some (3, true) }) (v := undef) rfl (by kernel_rfl) (by kernel_rfl) (by kernel_rfl) (fun _ _ _ h => h) (Or.inr ⟨by rfl, rfl⟩) (by assumption) ?_
                      try simp only [Act.put, List.setIfInBounds_toArray, List.set_cons_zero, List.set_cons_succ]
                      refine wpAnyH_take (i := 7) (oi := { dst := some 94, op := Op.move (Operand.tmp 12), type := 2, pos := "outright.go:34", after := #[{ on := 3, ground := Ground.guard }], guard := some (3, true) }) (v := undef) rfl (by kernel_rfl) (by kernel_rfl) (by kernel_rfl) (fun _ _ _ h => h) (Or.inr ⟨by rfl, rfl⟩) (by assumption) ?_
                      try simp only [Act.put, List.setIfInBounds_toArray, List.set_cons_zero, List.set_cons_succ]
                      refine wpAnyH_take (i := 8) (oi := { dst := some 95, op := Op.move (Operand.tmp 11), type := 2, pos := "outright.go:34", after := #[{ on := 3, ground := Ground.guard }], guard := some (3, true) }) (v := undef) rfl (by kernel_rfl) (by kernel_rfl) (by kernel_rfl) (fun _ _ _ h => h) (Or.inr ⟨by rfl, rfl⟩) (by assumption) ?_
                      try simp only [Act.put, List.setIfInBounds_toArray, List.set_cons_zero, List.set_cons_succ]
                      refine wpAnyH_take (i := 9) (oi := { dst := some 96, op := Op.binOp BinOp.sub 2 (Operand.tmp 94) (Operand.tmp 95) 2, type := 2, pos := "outright.go:34", after := #[{ on := 7, ground := Ground.data }, { on := 8, ground := Ground.data }, { on := 3, ground := Ground.guard }], guard := some (3, true) }) (v := undef) rfl (by kernel_rfl) (by kernel_rfl) (by kernel_rfl) (fun _ _ _ h => h) (Or.inr ⟨by rfl, rfl⟩) (by assumption) ?_
                      try simp only [Act.put, List.setIfInBounds_toArray, List.set_cons_zero, List.set_cons_succ]
                      refine wpAnyH_take (i := 10) (oi := { dst := some 97, op := Op.binOp BinOp.add 2 (Operand.tmp 96) (Operand.const (Value.int IntKind.i64 1)) 2, type := 2, pos := "outright.go:34", after := #[{ on := 9, ground := Ground.data }, { on := 3, ground := Ground.guard }], guard := some (3, true) }) (v := undef) rfl (by kernel_rfl) (by kernel_rfl) (by kernel_rfl) (fun _ _ _ h => h) (Or.inr ⟨by rfl, rfl⟩) (by assumption) ?_
                      try simp only [Act.put, List.setIfInBounds_toArray, List.set_cons_zero, List.set_cons_succ]
                      refine wpAnyH_take (i := 11) (oi := { dst := some 98, op := Op.convert 2 22 (Operand.tmp 97), type := 22, pos := "outright.go:34", after := #[{ on := 10, ground := Ground.data }, { on := 3, ground := Ground.guard }], guard := some (3, true) }) (v := undef) rfl (by kernel_rfl) (by kernel_rfl) (by kernel_rfl) (fun _ _ _ h => h) (Or.inr ⟨by rfl, rfl⟩) (by assumption) ?_
                      try simp only [Act.put, List.setIfInBounds_toArray, List.set_cons_zero, List.set_cons_succ]
                      refine wpAnyH_take (i := 12) (oi := { dst := some 99, op := Op.binOp BinOp.rem 22 (Operand.tmp 93) (Operand.tmp 98) 22, type := 22, pos := "outright.go:34", after := #[{ on := 6, ground := Ground.data }, { on := 11, ground := Ground.data }, { on := 3, ground := Ground.guard }], guard := some (3, true) }) (v := undef) rfl (by kernel_rfl) (by kernel_rfl) (by kernel_rfl) (fun _ _ _ h => h) (Or.inr ⟨by rfl, rfl⟩) (by assumption) ?_
                      try simp only [Act.put, List.setIfInBounds_toArray, List.set_cons_zero, List.set_cons_succ]
                      refine wpAnyH_take (i := 13) (oi := { dst := some 100, op := Op.convert 22 2 (Operand.tmp 99), type := 2, pos := "outright.go:34", after := #[{ on := 12, ground := Ground.data }, { on := 3, ground := Ground.guard }], guard := some (3, true) }) (v := undef) rfl (by kernel_rfl) (by kernel_rfl) (by kernel_rfl) (fun _ _ _ h => h) (Or.inr ⟨by rfl, rfl⟩) (by assumption) ?_
                      try simp only [Act.put, List.setIfInBounds_toArray, List.set_cons_zero, List.set_cons_succ]
                      refine wpAnyH_take (i := 14) (oi := { dst := some 101, op := Op.binOp BinOp.add 2 (Operand.tmp 92) (Operand.tmp 100) 2, type := 2, pos := "outright.go:34", after := #[{ on := 5, ground := Ground.data }, { on := 13, ground := Ground.data }, { on := 3, ground := Ground.guard }], guard := some (3, true) }) (v := undef) rfl (by kernel_rfl) (by kernel_rfl) (by kernel_rfl) (fun _ _ _ h => h) (Or.inr ⟨by rfl, rfl⟩) (by assumption) ?_
                      try simp only [Act.put, List.setIfInBounds_toArray, List.set_cons_zero, List.set_cons_succ]
                      refine wpAnyH_take (i := 15) (oi := { dst := some 102, op := Op.call { callee := Callee.value (Operand.func 20), args := #[Operand.tmp 91, Operand.tmp 101], argTypes := #[25, 2] }, type := 4, pos := "outright.go:34", after := #[{ on := 4, ground := Ground.data }, { on := 14, ground := Ground.data }, { on := 3, ground := Ground.chain }, { on := 3, ground := Ground.guard }], guard := some (3, true) }) (v := undef) rfl (by kernel_rfl) (by kernel_rfl) (by kernel_rfl) (fun _ _ _ h => h) (Or.inr ⟨by rfl, rfl⟩) (by assumption) ?_
                      try simp only [Act.put, List.setIfInBounds_toArray, List.set_cons_zero, List.set_cons_succ]
                      refine wpAnyH_take (i := 16) (oi := { dst := some 103, op := Op.pick (Operand.tmp 90) (Operand.tmp 102) (Operand.const (Value.bool false)), type := 4, pos := "outright.go:34", after := #[{ on := 3, ground := Ground.data }, { on := 15, ground := Ground.data }], guard := none }) (v := ?v01x16) rfl (by kernel_rfl) (by kernel_rfl) (by kernel_rfl) (fun _ _ _ h => h) (Or.inl ⟨by rfl, ?h01x16⟩) (by assumption) ?r01x16
                      case h01x16 => (intro w hSw; (try dsimp only at hSw); go_simp; (try with_reducible rfl))
                      try simp only [Act.put, List.setIfInBounds_toArray, List.set_cons_zero, List.set_cons_succ]
                      refine wpAnyH_take (i := 17) (oi := { dst := some 104, op := Op.move (Operand.tmp 103), type := 4, pos := "outright.go:34", after := #[{ on := 16, ground := Ground.data }, { on := 15, ground := Ground.chain }], guard := none }) (v := ?v01x17) rfl (by kernel_rfl) (by kernel_rfl) (by kernel_rfl) (fun _ _ _ h => h) (Or.inl ⟨by rfl, ?h01x17⟩) (by assumption) ?r01x17
                      case h01x17 => (intro w hSw; (try dsimp only at hSw); go_simp; (try with_reducible rfl))
                      try simp only [Act.put, List.setIfInBounds_toArray, List.set_cons_zero, List.set_cons_succ]
                      refine wpAnyH_take (i := 18) (oi := { dst := some 105, op := Op.move (Operand.tmp 13), type := 2, pos := "outright.go:34", after := #[{ on := 17, ground := Ground.guard }], guard := some (17, false) }) (v := ?v01x18) rfl (by kernel_rfl) (by kernel_rfl) (by kernel_rfl) (fun _ _ _ h => h) (Or.inl ⟨by rfl, ?h01x18⟩) (by assumption) ?r01x18
                      case h01x18 => (intro w hSw; (try dsimp only at hSw); go_simp; (try with_reducible rfl))
                      try simp only [Act.put, List.setIfInBounds_toArray, List.set_cons_zero, List.set_cons_succ]
                      refine wpAnyH_take (i := 19) (oi := { dst := some 106, op := Op.move (Operand.tmp 14), type := 2, pos := "outright.go:34", after := #[{ on := 17, ground := Ground.guard }], guard := some (17, false) }) (v := ?v01x19) rfl (by kernel_rfl) (by kernel_rfl) (by kernel_rfl) (fun _ _ _ h => h) (Or.inl ⟨by rfl, ?h01x19⟩) (by assumption) ?r01x19
                      case h01x19 => (intro w hSw; (try dsimp only at hSw); go_simp; (try with_reducible rfl))
                      try simp only [Act.put, List.setIfInBounds_toArray, List.set_cons_zero, List.set_cons_succ]
                      refine wpAnyH_take (i := 20) (oi := { dst := some 107, op := Op.binOp BinOp.leq 2 (Operand.tmp 105) (Operand.tmp 106) 2, type := 4, pos := "outright.go:34", after := #[{ on := 18, ground := Ground.data }, { on := 19, ground := Ground.data }, { on := 17, ground := Ground.guard }], guard := some (17, false) }) (v := ?v01x20) rfl (by kernel_rfl) (by kernel_rfl) (by kernel_rfl) (fun _ _ _ h => h) (Or.inl ⟨by rfl, ?h01x20⟩) (by assumption) ?r01x20
                      case h01x20 => (intro w hSw; (try dsimp only at hSw); go_simp; (try with_reducible rfl))
                      try simp only [Act.put, List.setIfInBounds_toArray, List.set_cons_zero, List.set_cons_succ]
                      refine wpAnyH_take (i := 21) (oi := { dst := some 108, op := Op.move (Operand.tmp 107), type := 4, pos := "outright.go:34", after := #[{ on := 20, ground := Ground.data }, { on := 17, ground := Ground.chain }, { on := 17, ground := Ground.guard }], guard := some (17, false) }) (v := ?v01x21) rfl (by kernel_rfl) (by kernel_rfl) (by kernel_rfl) (fun _ _ _ h => h) (Or.inl ⟨by rfl, ?h01x21⟩) (by assumption) ?r01x21
                      case h01x21 => (intro w hSw; (try dsimp only at hSw); go_simp; (try with_reducible rfl))
                      try simp only [Act.put, List.setIfInBounds_toArray, List.set_cons_zero, List.set_cons_succ]
                      refine wpAnyH_take (i := 22) (oi := { dst := some 109, op := Op.load 25 (Operand.tmp 3), type := 25, pos := "outright.go:34", after := #[{ on := 21, ground := Ground.guard }], guard := some (21, true) }) (v := ?v01x22) rfl (by kernel_rfl) (by kernel_rfl) (by kernel_rfl) (fun _ _ _ h => h) (Or.inl ⟨by rfl, ?h01x22⟩) (by assumption) ?r01x22
                      case h01x22 => (intro w hSw; (try dsimp only at hSw); go_simp; (try with_reducible rfl))
                      try simp only [Act.put, List.setIfInBounds_toArray, List.set_cons_zero, List.set_cons_succ]
                      refine wpAnyH_take (i := 23) (oi := { dst := some 110, op := Op.move (Operand.tmp 13), type := 2, pos := "outright.go:34", after := #[{ on := 21, ground := Ground.guard }], guard := some (21, true) }) (v := ?v01x23) rfl (by kernel_rfl) (by kernel_rfl) (by kernel_rfl) (fun _ _ _ h => h) (Or.inl ⟨by rfl, ?h01x23⟩) (by assumption) ?r01x23
                      case h01x23 => (intro w hSw; (try dsimp only at hSw); go_simp; (try with_reducible rfl))
                      try simp only [Act.put, List.setIfInBounds_toArray, List.set_cons_zero, List.set_cons_succ]
                      refine wpAnyH_take (i := 24) (oi := { dst := some 111, op := Op.move (Operand.tmp 16), type := 22, pos := "outright.go:34", after := #[{ on := 21, ground := Ground.guard }], guard := some (21, true) }) (v := ?v01x24) rfl (by kernel_rfl) (by kernel_rfl) (by kernel_rfl) (fun _ _ _ h => h) (Or.inl ⟨by rfl, ?h01x24⟩) (by assumption) ?r01x24
                      case h01x24 => (intro w hSw; (try dsimp only at hSw); go_simp; (try with_reducible rfl))
                      try simp only [Act.put, List.setIfInBounds_toArray, List.set_cons_zero, List.set_cons_succ]
                      refine wpAnyH_take (i := 25) (oi := { dst := some 112, op := Op.move (Operand.tmp 14), type := 2, pos := "outright.go:34", after := #[{ on := 21, ground := Ground.guard }], guard := some (21, true) }) (v := ?v01x25) rfl (by kernel_rfl) (by kernel_rfl) (by kernel_rfl) (fun _ _ _ h => h) (Or.inl ⟨by rfl, ?h01x25⟩) (by assumption) ?r01x25
                      case h01x25 => (intro w hSw; (try dsimp only at hSw); go_simp; (try with_reducible rfl))
                      try simp only [Act.put, List.setIfInBounds_toArray, List.set_cons_zero, List.set_cons_succ]
                      refine wpAnyH_take (i := 26) (oi := { dst := some 113, op := Op.move (Operand.tmp 13), type := 2, pos := "outright.go:34", after := #[{ on := 21, ground := Ground.guard }], guard := some (21, true) }) (v := ?v01x26) rfl (by kernel_rfl) (by kernel_rfl) (by kernel_rfl) (fun _ _ _ h => h) (Or.inl ⟨by rfl, ?h01x26⟩) (by assumption) ?r01x26
                      case h01x26 => (intro w hSw; (try dsimp only at hSw); go_simp; (try with_reducible rfl))
                      try simp only [Act.put, List.setIfInBounds_toArray, List.set_cons_zero, List.set_cons_succ]
                      refine wpAnyH_take (i := 27) (oi := { dst := some 114, op := Op.binOp BinOp.sub 2 (Operand.tmp 112) (Operand.tmp 113) 2, type := 2, pos := "outright.go:34", after := #[{ on := 25, ground := Ground.data }, { on := 26, ground := Ground.data }, { on := 21, ground := Ground.guard }], guard := some (21, true) }) (v := ?v01x27) rfl (by kernel_rfl) (by kernel_rfl) (by kernel_rfl) (fun _ _ _ h => h) (Or.inl ⟨by rfl, ?h01x27⟩) (by assumption) ?r01x27
                      case h01x27 => (intro w hSw; (try dsimp only at hSw); go_simp; (try with_reducible rfl))
                      try simp only [Act.put, List.setIfInBounds_toArray, List.set_cons_zero, List.set_cons_succ]
                      refine wpAnyH_take (i := 28) (oi := { dst := some 115, op := Op.binOp BinOp.add 2 (Operand.tmp 114) (Operand.const (Value.int IntKind.i64 1)) 2, type := 2, pos := "outright.go:34", after := #[{ on := 27, ground := Ground.data }, { on := 21, ground := Ground.guard }], guard := some (21, true) }) (v := ?v01x28) rfl (by kernel_rfl) (by kernel_rfl) (by kernel_rfl) (fun _ _ _ h => h) (Or.inl ⟨by rfl, ?h01x28⟩) (by assumption) ?r01x28
                      case h01x28 => (intro w hSw; (try dsimp only at hSw); go_simp; (try with_reducible rfl))
                      try simp only [Act.put, List.setIfInBounds_toArray, List.set_cons_zero, List.set_cons_succ]
                      refine wpAnyH_take (i := 29) (oi := { dst := some 116, op := Op.convert 2 22 (Operand.tmp 115), type := 22, pos := "outright.go:34", after := #[{ on := 28, ground := Ground.data }, { on := 21, ground := Ground.guard }], guard := some (21, true) }) (v := ?v01x29) rfl (by kernel_rfl) (by kernel_rfl) (by kernel_rfl) (fun _ _ _ h => h) (Or.inl ⟨by rfl, ?h01x29⟩) (by assumption) ?r01x29
                      case h01x29 => (intro w hSw; (try dsimp only at hSw); go_simp; (try with_reducible rfl))
                      try simp only [Act.put, List.setIfInBounds_toArray, List.set_cons_zero, List.set_cons_succ]
                      refine wpAnyH_take (i := 30) (oi := { dst := some 117, op := Op.binOp BinOp.rem 22 (Operand.tmp 111) (Operand.tmp 116) 22, type := 22, pos := "outright.go:34", after := #[{ on := 24, ground := Ground.data }, { on := 29, ground := Ground.data }, { on := 21, ground := Ground.guard }], guard := some (21, true) }) (v := ?v01x30) rfl (by kernel_rfl) (by kernel_rfl) (by kernel_rfl) (fun _ _ _ h => h) (Or.inl ⟨by rfl, ?h01x30⟩) (by assumption) ?r01x30
                      case h01x30 => (intro w hSw; (try dsimp only at hSw); go_simp; (try with_reducible rfl))
                      try simp only [Act.put, List.setIfInBounds_toArray, List.set_cons_zero, List.set_cons_succ]
                      refine wpAnyH_take (i := 31) (oi := { dst := some 118, op := Op.convert 22 2 (Operand.tmp 117), type := 2, pos := "outright.go:34", after := #[{ on := 30, ground := Ground.data }, { on := 21, ground := Ground.guard }], guard := some (21, true) }) (v := ?v01x31) rfl (by kernel_rfl) (by kernel_rfl) (by kernel_rfl) (fun _ _ _ h => h) (Or.inl ⟨by rfl, ?h01x31⟩) (by assumption) ?r01x31
                      case h01x31 => (intro w hSw; (try dsimp only at hSw); go_simp; (try with_reducible rfl))
                      try simp only [Act.put, List.setIfInBounds_toArray, List.set_cons_zero, List.set_cons_succ]
                      refine wpAnyH_take (i := 32) (oi := { dst := some 119, op := Op.binOp BinOp.add 2 (Operand.tmp 110) (Operand.tmp 118) 2, type := 2, pos := "outright.go:34", after := #[{ on := 23, ground := Ground.data }, { on := 31, ground := Ground.data }, { on := 21, ground := Ground.guard }], guard := some (21, true) }) (v := ?v01x32) rfl (by kernel_rfl) (by kernel_rfl) (by kernel_rfl) (fun _ _ _ h => h) (Or.inl ⟨by rfl, ?h01x32⟩) (by assumption) ?r01x32
                      case h01x32 => (intro w hSw; (try dsimp only at hSw); go_simp; (try with_reducible rfl))
                      try simp only [Act.put, List.setIfInBounds_toArray, List.set_cons_zero, List.set_cons_succ]
                      refine wpAnyH_ready (rs := [33]) (by kernel_rfl) (by simp) (AllReadyH.cons (o := { dst := some 120, op := Op.call { callee := Callee.value (Operand.func 20), args := #[Operand.tmp 109, Operand.tmp 119], argTypes := #[25, 2] }, type := 4, pos := "outright.go:34", after := #[{ on := 22, ground := Ground.data }, { on := 32, ground := Ground.data }, { on := 21, ground := Ground.chain }, { on := 21, ground := Ground.guard }], guard := some (21, true) }) rfl (fun K hK => ?_) AllReadyH.nil)
                      go_simp
                      go_at_call 20; (with_reducible refine (HA2.out _ (HL.out.on (HX.out.trans (hBE.mono HX.out.size)))).mono ?_)
                      rintro e wa ⟨rfl, hb⟩
                      replace hBE := hBE.trans (hb.mono hBE.size)
                      clear hb
                      refine hK.out _ _ (HK.out _ hBE) (fun hHeld2 => ?_)
                      clear hK K hHeld
                      have hHeld := hHeld2
                      clear hHeld2
                      try simp only [Act.put, List.setIfInBounds_toArray, List.set_cons_zero, List.set_cons_succ]
                      refine wpAnyH_take (i := 34) (oi := { dst := some 121, op := Op.pick (Operand.tmp 108) (Operand.tmp 120) (Operand.const (Value.bool false)), type := 4, pos := "outright.go:34", after := #[{ on := 21, ground := Ground.data }, { on := 33, ground := Ground.data }, { on := 17, ground := Ground.guard }], guard := some (17, false) }) (v := ?v01x34) rfl (by kernel_rfl) (by kernel_rfl) (by kernel_rfl) (fun _ _ _ h => h) (Or.inl ⟨by rfl, ?h01x34⟩) (by assumption) ?r01x34
                      case h01x34 => (intro w hSw; (try dsimp only at hSw); go_simp; (try with_reducible rfl))
                      try simp only [Act.put, List.setIfInBounds_toArray, List.set_cons_zero, List.set_cons_succ]
                      refine wpAnyH_take (i := 35) (oi := { dst := some 122, op := Op.pick (Operand.tmp 104) (Operand.const (Value.bool true)) (Operand.tmp 121), type := 4, pos := "outright.go:34", after := #[{ on := 17, ground := Ground.data }, { on := 34, ground := Ground.data }], guard := none }) (v := ?v01x35) rfl (by kernel_rfl) (by kernel_rfl) (by kernel_rfl) (fun _ _ _ h => h) (Or.inl ⟨by rfl, ?h01x35⟩) (by assumption) ?r01x35
                      case h01x35 => (intro w hSw; (try dsimp only at hSw); go_simp; (try with_reducible rfl))
                      try simp only [Act.put, List.setIfInBounds_toArray, List.set_cons_zero, List.set_cons_succ]
                      refine wpAnyH_done (by kernel_rfl) ?_ _
                      have HX9 := Lib.hid (HX.out.trans (hBE.mono HX.out.size))
                      clear hHeld hBE HK
                      go_wp2_with fail
                      go_roundw
                      case rel => exact ⟨k + 1, by omega, by omega, by go_num, HX9.out⟩
                      case measure => simp [intOf]; omega
                    · skip
                      have hd1 : decide (f1 ≤ t1) = false := decide_eq_false hc1
                      have hd2 : decide (g1 ≤ s1) = false := decide_eq_false hc2
                      have HK : Hid (∀ w', Below wr.heap.size wr w' → (w'.cell? ⟨w.heap.size, 0, none⟩ = some (.int .u64 (U a)) ∧ w'.cell? ⟨w.heap.size, 1, none⟩ = some (.int .u64 (U b)) ∧ w'.cell? ⟨w.heap.size, 2, none⟩ = some (.int .u64 (U c)) ∧ w'.cell? ⟨w.heap.size, 3, none⟩ = some (.int .u64 (U d)) ∧ w'.cell? ⟨w.heap.size, 4, none⟩ = some (.int .u64 (U e)))) := Lib.hid (fun w' hb => (HC.out.on (HX.out.trans (hb.mono HX.out.size))).five)
                      have hBE := Below.refl wr.heap.size wr
                      clear hc
                      refine wp_region_held_drew (S := (fun W => W.cell? ⟨w.heap.size, 0, none⟩ = some (.int .u64 (U a)) ∧ W.cell? ⟨w.heap.size, 1, none⟩ = some (.int .u64 (U b)) ∧ W.cell? ⟨w.heap.size, 2, none⟩ = some (.int .u64 (U c)) ∧ W.cell? ⟨w.heap.size, 3, none⟩ = some (.int .u64 (U d)) ∧ W.cell? ⟨w.heap.size, 4, none⟩ = some (.int .u64 (U e)))) (by kernel_rfl) (HK.out _ hBE.drew) (fun hHeld => ?_)
                      replace hBE := hBE.drew
                      refine wpAnyH_take (i := 0) (oi := { dst := some 87, op := Op.move (Operand.tmp 11), type := 2, pos := "outright.go:34", after := #[], guard := none }) (v := ?v00x0) rfl (by kernel_rfl) (by kernel_rfl) (by kernel_rfl) (fun _ _ _ h => h) (Or.inl ⟨by rfl, ?h00x0⟩) (by assumption) ?r00x0
                      case h00x0 => (intro w hSw; (try dsimp only at hSw); go_simp; (try with_reducible rfl))
                      try simp only [Act.put, List.setIfInBounds_toArray, List.set_cons_zero, List.set_cons_succ]
                      refine wpAnyH_take (i := 1) (oi := { dst := some 88, op := Op.move (Operand.tmp 12), type := 2, pos := "outright.go:34", after := #[], guard := none }) (v := ?v00x1) rfl (by kernel_rfl) (by kernel_rfl) (by kernel_rfl) (fun _ _ _ h => h) (Or.inl ⟨by rfl, ?h00x1⟩) (by assumption) ?r00x1
                      case h00x1 => (intro w hSw; (try dsimp only at hSw); go_simp; (try with_reducible rfl))
                      try simp only [Act.put, List.setIfInBounds_toArray, List.set_cons_zero, List.set_cons_succ]
                      refine wpAnyH_take (i := 2) (oi := { dst := some 89, op := Op.binOp BinOp.leq 2 (Operand.tmp 87) (Operand.tmp 88) 2, type := 4, pos := "outright.go:34", after := #[{ on := 0, ground := Ground.data }, { on := 1, ground := Ground.data }], guard := none }) (v := ?v00x2) rfl (by kernel_rfl) (by kernel_rfl) (by kernel_rfl) (fun _ _ _ h => h) (Or.inl ⟨by rfl, ?h00x2⟩) (by assumption) ?r00x2
                      case h00x2 => (intro w hSw; (try dsimp only at hSw); go_simp; (try with_reducible rfl))
                      try simp only [Act.put, List.setIfInBounds_toArray, List.set_cons_zero, List.set_cons_succ]
                      refine wpAnyH_take (i := 3) (oi := { dst := some 90, op := Op.move (Operand.tmp 89), type := 4, pos := "outright.go:34", after := #[{ on := 2, ground := Ground.data }], guard := none }) (v := ?v00x3) rfl (by kernel_rfl) (by kernel_rfl) (by kernel_rfl) (fun _ _ _ h => h) (Or.inl ⟨by rfl, ?h00x3⟩) (by assumption) ?r00x3
                      case h00x3 => (intro w hSw; (try dsimp only at hSw); go_simp; (try with_reducible rfl))
                      try simp only [Act.put, List.setIfInBounds_toArray, List.set_cons_zero, List.set_cons_succ]
                      refine wpAnyH_take (i := 4) (oi := { dst := some 91, op := Op.load 25 (Operand.tmp 3), type := 25, pos := "outright.go:34", after := #[{ on := 3, ground := Ground.guard }], guard := some (3, true) }) (v := undef) rfl (by kernel_rfl) (by kernel_rfl) (by kernel_rfl) (fun _ _ _ h => h) (Or.inr ⟨by rfl, rfl⟩) (by assumption) ?_
                      try simp only [Act.put, List.setIfInBounds_toArray, List.set_cons_zero, List.set_cons_succ]
                      refine wpAnyH_take (i := 5) (oi := { dst := some 92, op := Op.move (Operand.tmp 11), type := 2, pos := "outright.go:34", after := #[{ on := 3, ground := Ground.guard }], guard := some (3, true) }) (v := undef) rfl (by kernel_rfl) (by kernel_rfl) (by kernel_rfl) (fun _ _ _ h => h) (Or.inr ⟨by rfl, rfl⟩) (by assumption) ?_
                      try simp only [Act.put, List.setIfInBounds_toArray, List.set_cons_zero, List.set_cons_succ]
                      refine wpAnyH_take (i := 6) (oi := { dst := some 93, op := Op.move (Operand.tmp 16), type := 22, pos := "outright.go:34", after := #[{ on := 3, ground := Ground.guard }], guard := some (3, true) }) (v := undef) rfl (by kernel_rfl) (by kernel_rfl) (by kernel_rfl) (fun _ _ _ h => h) (Or.inr ⟨by rfl, rfl⟩) (by assumption) ?_
                      try simp only [Act.put, List.setIfInBounds_toArray, List.set_cons_zero, List.set_cons_succ]
                      refine wpAnyH_take (i := 7) (oi := { dst := some 94, op := Op.move (Operand.tmp 12), type := 2, pos := "outright.go:34", after := #[{ on := 3, ground := Ground.guard }], guard := some (3, true) }) (v := undef) rfl (by kernel_rfl) (by kernel_rfl) (by kernel_rfl) (fun _ _ _ h => h) (Or.inr ⟨by rfl, rfl⟩) (by assumption) ?_
                      try simp only [Act.put, List.setIfInBounds_toArray, List.set_cons_zero, List.set_cons_succ]
                      refine wpAnyH_take (i := 8) (oi := { dst := some 95, op := Op.move (Operand.tmp 11), type := 2, pos := "outright.go:34", after := #[{ on := 3, ground := Ground.guard }], guard := some (3, true) }) (v := undef) rfl (by kernel_rfl) (by kernel_rfl) (by kernel_rfl) (fun _ _ _ h => h) (Or.inr ⟨by rfl, rfl⟩) (by assumption) ?_
                      try simp only [Act.put, List.setIfInBounds_toArray, List.set_cons_zero, List.set_cons_succ]
                      refine wpAnyH_take (i := 9) (oi := { dst := some 96, op := Op.binOp BinOp.sub 2 (Operand.tmp 94) (Operand.tmp 95) 2, type := 2, pos := "outright.go:34", after := #[{ on := 7, ground := Ground.data }, { on := 8, ground := Ground.data }, { on := 3, ground := Ground.guard }], guard := some (3, true) }) (v := undef) rfl (by kernel_rfl) (by kernel_rfl) (by kernel_rfl) (fun _ _ _ h => h) (Or.inr ⟨by rfl, rfl⟩) (by assumption) ?_
                      try simp only [Act.put, List.setIfInBounds_toArray, List.set_cons_zero, List.set_cons_succ]
                      refine wpAnyH_take (i := 10) (oi := { dst := some 97, op := Op.binOp BinOp.add 2 (Operand.tmp 96) (Operand.const (Value.int IntKind.i64 1)) 2, type := 2, pos := "outright.go:34", after := #[{ on := 9, ground := Ground.data }, { on := 3, ground := Ground.guard }], guard := some (3, true) }) (v := undef) rfl (by kernel_rfl) (by kernel_rfl) (by kernel_rfl) (fun _ _ _ h => h) (Or.inr ⟨by rfl, rfl⟩) (by assumption) ?_
                      try simp only [Act.put, List.setIfInBounds_toArray, List.set_cons_zero, List.set_cons_succ]
                      refine wpAnyH_take (i := 11) (oi := { dst := some 98, op := Op.convert 2 22 (Operand.tmp 97), type := 22, pos := "outright.go:34", after := #[{ on := 10, ground := Ground.data }, { on := 3, ground := Ground.guard }], guard := some (3, true) }) (v := undef) rfl (by kernel_rfl) (by kernel_rfl) (by kernel_rfl) (fun _ _ _ h => h) (Or.inr ⟨by rfl, rfl⟩) (by assumption) ?_
                      try simp only [Act.put, List.setIfInBounds_toArray, List.set_cons_zero, List.set_cons_succ]
                      refine wpAnyH_take (i := 12) (oi := { dst := some 99, op := Op.binOp BinOp.rem 22 (Operand.tmp 93) (Operand.tmp 98) 22, type := 22, pos := "outright.go:34", after := #[{ on := 6, ground := Ground.data }, { on := 11, ground := Ground.data }, { on := 3, ground := Ground.guard }], guard := some (3, true) }) (v := undef) rfl (by kernel_rfl) (by kernel_rfl) (by kernel_rfl) (fun _ _ _ h => h) (Or.inr ⟨by rfl, rfl⟩) (by assumption) ?_
                      try simp only [Act.put, List.setIfInBounds_toArray, List.set_cons_zero, List.set_cons_succ]
                      refine wpAnyH_take (i := 13) (oi := { dst := some 100, op := Op.convert 22 2 (Operand.tmp 99), type := 2, pos := "outright.go:34", after := #[{ on := 12, ground := Ground.data }, { on := 3, ground := Ground.guard }], guard := some (3, true) }) (v := undef) rfl (by kernel_rfl) (by kernel_rfl) (by kernel_rfl) (fun _ _ _ h => h) (Or.inr ⟨by rfl, rfl⟩) (by assumption) ?_
                      try simp only [Act.put, List.setIfInBounds_toArray, List.set_cons_zero, List.set_cons_succ]
                      refine wpAnyH_take (i := 14) (oi := { dst := some 101, op := Op.binOp BinOp.add 2 (Operand.tmp 92) (Operand.tmp 100) 2, type := 2, pos := "outright.go:34", after := #[{ on := 5, ground := Ground.data }, { on := 13, ground := Ground.data }, { on := 3, ground := Ground.guard }], guard := some (3, true) }) (v := undef) rfl (by kernel_rfl) (by kernel_rfl) (by kernel_rfl) (fun _ _ _ h => h) (Or.inr ⟨by rfl, rfl⟩) (by assumption) ?_
                      try simp only [Act.put, List.setIfInBounds_toArray, List.set_cons_zero, List.set_cons_succ]
                      refine wpAnyH_take (i := 15) (oi := { dst := some 102, op := Op.call { callee := Callee.value (Operand.func 20), args := #[Operand.tmp 91, Operand.tmp 101], argTypes := #[25, 2] }, type := 4, pos := "outright.go:34", after := #[{ on := 4, ground := Ground.data }, { on := 14, ground := Ground.data }, { on := 3, ground := Ground.chain }, { on := 3, ground := Ground.guard }], guard := some (3, true) }) (v := undef) rfl (by kernel_rfl) (by kernel_rfl) (by kernel_rfl) (fun _ _ _ h => h) (Or.inr ⟨by rfl, rfl⟩) (by assumption) ?_
                      try simp only [Act.put, List.setIfInBounds_toArray, List.set_cons_zero, List.set_cons_succ]
                      refine wpAnyH_take (i := 16) (oi := { dst := some 103, op := Op.pick (Operand.tmp 90) (Operand.tmp 102) (Operand.const (Value.bool false)), type := 4, pos := "outright.go:34", after := #[{ on := 3, ground := Ground.data }, { on := 15, ground := Ground.data }], guard := none }) (v := ?v00x16) rfl (by kernel_rfl) (by kernel_rfl) (by kernel_rfl) (fun _ _ _ h => h) (Or.inl ⟨by rfl, ?h00x16⟩) (by assumption) ?r00x16
                      case h00x16 => (intro w hSw; (try dsimp only at hSw); go_simp; (try with_reducible rfl))
                      try simp only [Act.put, List.setIfInBounds_toArray, List.set_cons_zero, List.set_cons_succ]
                      refine wpAnyH_take (i := 17) (oi := { dst := some 104, op := Op.move (Operand.tmp 103), type := 4, pos := "outright.go:34", after := #[{ on := 16, ground := Ground.data }, { on := 15, ground := Ground.chain }], guard := none }) (v := ?v00x17) rfl (by kernel_rfl) (by kernel_rfl) (by kernel_rfl) (fun _ _ _ h => h) (Or.inl ⟨by rfl, ?h00x17⟩) (by assumption) ?r00x17
                      case h00x17 => (intro w hSw; (try dsimp only at hSw); go_simp; (try with_reducible rfl))
                      try simp only [Act.put, List.setIfInBounds_toArray, List.set_cons_zero, List.set_cons_succ]
                      refine wpAnyH_take (i := 18) (oi := { dst := some 105, op := Op.move (Operand.tmp 13), type := 2, pos := "outright.go:34", after := #[{ on := 17, ground := Ground.guard }], guard := some (17, false) }) (v := ?v00x18) rfl (by kernel_rfl) (by kernel_rfl) (by kernel_rfl) (fun _ _ _ h => h) (Or.inl ⟨by rfl, ?h00x18⟩) (by assumption) ?r00x18
                      case h00x18 => (intro w hSw; (try dsimp only at hSw); go_simp; (try with_reducible rfl))
                      try simp only [Act.put, List.setIfInBounds_toArray, List.set_cons_zero, List.set_cons_succ]
                      refine wpAnyH_take (i := 19) (oi := { dst := some 106, op := Op.move (Operand.tmp 14), type := 2, pos := "outright.go:34", after := #[{ on := 17, ground := Ground.guard }], guard := some (17, false) }) (v := ?v00x19) rfl (by kernel_rfl) (by kernel_rfl) (by kernel_rfl) (fun _ _ _ h => h) (Or.inl ⟨by rfl, ?h00x19⟩) (by assumption) ?r00x19
                      case h00x19 => (intro w hSw; (try dsimp only at hSw); go_simp; (try with_reducible rfl))
                      try simp only [Act.put, List.setIfInBounds_toArray, List.set_cons_zero, List.set_cons_succ]
                      refine wpAnyH_take (i := 20) (oi := { dst := some 107, op := Op.binOp BinOp.leq 2 (Operand.tmp 105) (Operand.tmp 106) 2, type := 4, pos := "outright.go:34", after := #[{ on := 18, ground := Ground.data }, { on := 19, ground := Ground.data }, { on := 17, ground := Ground.guard }], guard := some (17, false) }) (v := ?v00x20) rfl (by kernel_rfl) (by kernel_rfl) (by kernel_rfl) (fun _ _ _ h => h) (Or.inl ⟨by rfl, ?h00x20⟩) (by assumption) ?r00x20
                      case h00x20 => (intro w hSw; (try dsimp only at hSw); go_simp; (try with_reducible rfl))
                      try simp only [Act.put, List.setIfInBounds_toArray, List.set_cons_zero, List.set_cons_succ]
                      refine wpAnyH_take (i := 21) (oi := { dst := some 108, op := Op.move (Operand.tmp 107), type := 4, pos := "outright.go:34", after := #[{ on := 20, ground := Ground.data }, { on := 17, ground := Ground.chain }, { on := 17, ground := Ground.guard }], guard := some (17, false) }) (v := ?v00x21) rfl (by kernel_rfl) (by kernel_rfl) (by kernel_rfl) (fun _ _ _ h => h) (Or.inl ⟨by rfl, ?h00x21⟩) (by assumption) ?r00x21
                      case h00x21 => (intro w hSw; (try dsimp only at hSw); go_simp; (try with_reducible rfl))
                      try simp only [Act.put, List.setIfInBounds_toArray, List.set_cons_zero, List.set_cons_succ]
                      refine wpAnyH_take (i := 22) (oi := { dst := some 109, op := Op.load 25 (Operand.tmp 3), type := 25, pos := "outright.go:34", after := #[{ on := 21, ground := Ground.guard }], guard := some (21, true) }) (v := undef) rfl (by kernel_rfl) (by kernel_rfl) (by kernel_rfl) (fun _ _ _ h => h) (Or.inr ⟨by rfl, rfl⟩) (by assumption) ?_
                      try simp only [Act.put, List.setIfInBounds_toArray, List.set_cons_zero, List.set_cons_succ]
                      refine wpAnyH_take (i := 23) (oi := { dst := some 110, op := Op.move (Operand.tmp 13), type := 2, pos := "outright.go:34", after := #[{ on := 21, ground := Ground.guard }], guard := some (21, true) }) (v := undef) rfl (by kernel_rfl) (by kernel_rfl) (by kernel_rfl) (fun _ _ _ h => h) (Or.inr ⟨by rfl, rfl⟩) (by assumption) ?_
                      try simp only [Act.put, List.setIfInBounds_toArray, List.set_cons_zero, List.set_cons_succ]
                      refine wpAnyH_take (i := 24) (oi := { dst := some 111, op := Op.move (Operand.tmp 16), type := 22, pos := "outright.go:34", after := #[{ on := 21, ground := Ground.guard }], guard := some (21, true) }) (v := undef) rfl (by kernel_rfl) (by kernel_rfl) (by kernel_rfl) (fun _ _ _ h => h) (Or.inr ⟨by rfl, rfl⟩) (by assumption) ?_
                      try simp only [Act.put, List.setIfInBounds_toArray, List.set_cons_zero, List.set_cons_succ]
                      refine wpAnyH_take (i := 25) (oi := { dst := some 112, op := Op.move (Operand.tmp 14), type := 2, pos := "outright.go:34", after := #[{ on := 21, ground := Ground.guard }], guard := some (21, true) }) (v := undef) rfl (by kernel_rfl) (by kernel_rfl) (by kernel_rfl) (fun _ _ _ h => h) (Or.inr ⟨by rfl, rfl⟩) (by assumption) ?_
                      try simp only [Act.put, List.setIfInBounds_toArray, List.set_cons_zero, List.set_cons_succ]
                      refine wpAnyH_take (i := 26) (oi := { dst := some 113, op := Op.move (Operand.tmp 13), type := 2, pos := "outright.go:34", after := #[{ on := 21, ground := Ground.guard }], guard := some (21, true) }) (v := undef) rfl (by kernel_rfl) (by kernel_rfl) (by kernel_rfl) (fun _ _ _ h => h) (Or.inr ⟨by rfl, rfl⟩) (by assumption) ?_
                      try simp only [Act.put, List.setIfInBounds_toArray, List.set_cons_zero, List.set_cons_succ]
                      refine wpAnyH_take (i := 27) (oi := { dst := some 114, op := Op.binOp BinOp.sub 2 (Operand.tmp 112) (Operand.tmp 113) 2, type := 2, pos := "outright.go:34", after := #[{ on := 25, ground := Ground.data }, { on := 26, ground := Ground.data }, { on := 21, ground := Ground.guard }], guard := some (21, true) }) (v := undef) rfl (by kernel_rfl) (by kernel_rfl) (by kernel_rfl) (fun _ _ _ h => h) (Or.inr ⟨by rfl, rfl⟩) (by assumption) ?_
                      try simp only [Act.put, List.setIfInBounds_toArray, List.set_cons_zero, List.set_cons_succ]
                      refine wpAnyH_take (i := 28) (oi := { dst := some 115, op := Op.binOp BinOp.add 2 (Operand.tmp 114) (Operand.const (Value.int IntKind.i64 1)) 2, type := 2, pos := "outright.go:34", after := #[{ on := 27, ground := Ground.data }, { on := 21, ground := Ground.guard }], guard := some (21, true) }) (v := undef) rfl (by kernel_rfl) (by kernel_rfl) (by kernel_rfl) (fun _ _ _ h => h) (Or.inr ⟨by rfl, rfl⟩) (by assumption) ?_
                      try simp only [Act.put, List.setIfInBounds_toArray, List.set_cons_zero, List.set_cons_succ]
                      refine wpAnyH_take (i := 29) (oi := { dst := some 116, op := Op.convert 2 22 (Operand.tmp 115), type := 22, pos := "outright.go:34", after := #[{ on := 28, ground := Ground.data }, { on := 21, ground := Ground.guard }], guard := some (21, true) }) (v := undef) rfl (by kernel_rfl) (by kernel_rfl) (by kernel_rfl) (fun _ _ _ h => h) (Or.inr ⟨by rfl, rfl⟩) (by assumption) ?_
                      try simp only [Act.put, List.setIfInBounds_toArray, List.set_cons_zero, List.set_cons_succ]
                      refine wpAnyH_take (i := 30) (oi := { dst := some 117, op := Op.binOp BinOp.rem 22 (Operand.tmp 111) (Operand.tmp 116) 22, type := 22, pos := "outright.go:34", after := #[{ on := 24, ground := Ground.data }, { on := 29, ground := Ground.data }, { on := 21, ground := Ground.guard }], guard := some (21, true) }) (v := undef) rfl (by kernel_rfl) (by kernel_rfl) (by kernel_rfl) (fun _ _ _ h => h) (Or.inr ⟨by rfl, rfl⟩) (by assumption) ?_
                      try simp only [Act.put, List.setIfInBounds_toArray, List.set_cons_zero, List.set_cons_succ]
                      refine wpAnyH_take (i := 31) (oi := { dst := some 118, op := Op.convert 22 2 (Operand.tmp 117), type := 2, pos := "outright.go:34", after := #[{ on := 30, ground := Ground.data }, { on := 21, ground := Ground.guard }], guard := some (21, true) }) (v := undef) rfl (by kernel_rfl) (by kernel_rfl) (by kernel_rfl) (fun _ _ _ h => h) (Or.inr ⟨by rfl, rfl⟩) (by assumption) ?_
                      try simp only [Act.put, List.setIfInBounds_toArray, List.set_cons_zero, List.set_cons_succ]
                      refine wpAnyH_take (i := 32) (oi := { dst := some 119, op := Op.binOp BinOp.add 2 (Operand.tmp 110) (Operand.tmp 118) 2, type := 2, pos := "outright.go:34", after := #[{ on := 23, ground := Ground.data }, { on := 31, ground := Ground.data }, { on := 21, ground := Ground.guard }], guard := some (21, true) }) (v := undef) rfl (by kernel_rfl) (by kernel_rfl) (by kernel_rfl) (fun _ _ _ h => h) (Or.inr ⟨by rfl, rfl⟩) (by assumption) ?_
                      try simp only [Act.put, List.setIfInBounds_toArray, List.set_cons_zero, List.set_cons_succ]
                      refine wpAnyH_take (i := 33) (oi := { dst := some 120, op := Op.call { callee := Callee.value (Operand.func 20), args := #[Operand.tmp 109, Operand.tmp 119], argTypes := #[25, 2] }, type := 4, pos := "outright.go:34", after := #[{ on := 22, ground := Ground.data }, { on := 32, ground := Ground.data }, { on := 21, ground := Ground.chain }, { on := 21, ground := Ground.guard }], guard := some (21, true) }) (v := undef) rfl (by kernel_rfl) (by kernel_rfl) (by kernel_rfl) (fun _ _ _ h => h) (Or.inr ⟨by rfl, rfl⟩) (by assumption) ?_
                      try simp only [Act.put, List.setIfInBounds_toArray, List.set_cons_zero, List.set_cons_succ]
                      refine wpAnyH_take (i := 34) (oi := { dst := some 121, op := Op.pick (Operand.tmp 108) (Operand.tmp 120) (Operand.const (Value.bool false)), type := 4, pos := "outright.go:34", after := #[{ on := 21, ground := Ground.data }, { on := 33, ground := Ground.data }, { on := 17, ground := Ground.guard }], guard := some (17, false) }) (v := ?v00x34) rfl (by kernel_rfl) (by kernel_rfl) (by kernel_rfl) (fun _ _ _ h => h) (Or.inl ⟨by rfl, ?h00x34⟩) (by assumption) ?r00x34
                      case h00x34 => (intro w hSw; (try dsimp only at hSw); go_simp; (try with_reducible rfl))
                      try simp only [Act.put, List.setIfInBounds_toArray, List.set_cons_zero, List.set_cons_succ]
                      refine wpAnyH_take (i := 35) (oi := { dst := some 122, op := Op.pick (Operand.tmp 104) (Operand.const (Value.bool true)) (Operand.tmp 121), type := 4, pos := "outright.go:34", after := #[{ on := 17, ground := Ground.data }, { on := 34, ground := Ground.data }], guard := none }) (v := ?v00x35) rfl (by kernel_rfl) (by kernel_rfl) (by kernel_rfl) (fun _ _ _ h => h) (Or.inl ⟨by rfl, ?h00x35⟩) (by assumption) ?r00x35
                      case h00x35 => (intro w hSw; (try dsimp only at hSw); go_simp; (try with_reducible rfl))
                      try simp only [Act.put, List.setIfInBounds_toArray, List.set_cons_zero, List.set_cons_succ]
                      refine wpAnyH_done (by kernel_rfl) ?_ _
                      have HX9 := Lib.hid (HX.out.trans (hBE.mono HX.out.size))
                      clear hHeld hBE HK
                      go_wp2_with fail
                      go_roundw
                      case rel => exact ⟨k + 1, by omega, by omega, by go_num, HX9.out⟩
                      case measure => simp [intOf]; omega
              · have hkn : k = n := by omega
                subst hkn
                go_wp2_with fail
                go_ret
                exact ⟨rfl, HB0.out.trans (HX.out.mono HB0.out.size)⟩
end Go.Proofs.YtkimbmifabpppaaDoor
