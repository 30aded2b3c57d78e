/- CronMore: walked. -/
import Derived.Test.YtmjjdccpnepjjaaGreatDoorKGReads7
import Derived.Test.YtmjjdccpnepjjaaGreatDoorK2
import Derived.Deep.RegionHeld3
import Derived.Deep.DeepCutAuto
import Derived.Deep.Light
namespace Go.Proofs.YtmjjdccpnepjjaaGreatDoor
open Go.RowKit

/-- Who has more fits no less often. -/
theorem fit_more {a b c d e a' b' d' : BitVec 64} {y m n h mi s : Int} (ha : ∀ i, a.getLsbD i = true → a'.getLsbD i = true) (hb : ∀ i, b.getLsbD i = true → b'.getLsbD i = true) (hd : ∀ i, d.getLsbD i = true → d'.getLsbD i = true)
    (hk : crB [a', b', c, d', e] = true) (hf : atZ [a, b, c, d, e] y m n h mi s = true) : atZ [a', b', c, d', e] y m n h mi s = true := by
  have hm : ∀ {x x' : BitVec 64}, (∀ i, x.getLsbD i = true → x'.getLsbD i = true) → ∀ k : Int, hasB x k = true → hasB x' k = true := fun hx k h => by
    unfold hasB at *
    rw [Bool.and_eq_true] at *
    exact ⟨h.1, hx _ h.2⟩
  have e1 : atZ [a, b, c, d, e] y m n h mi s = (decide (s = 0) && (hasB a mi && (hasB b h && dayZ [a, b, c, d, e] y m n))) := rfl
  have e2 : atZ [a', b', c, d', e] y m n h mi s = (decide (s = 0) && (hasB a' mi && (hasB b' h && dayZ [a', b', c, d', e] y m n))) := rfl
  rw [e1] at hf
  rw [e2]
  simp only [Bool.and_eq_true] at *
  refine ⟨hf.1, hm ha _ hf.2.1, hm hb _ hf.2.2.1, ?_⟩
  have hz := hf.2.2.2
  unfold dayZ at *
  simp only [Bool.and_eq_true] at *
  exact ⟨hk, hz.2.1, dayF_more (hd _) hz.2.2⟩
theorem or_more (x y : BitVec 64) (i : Nat) (h : x.getLsbD i = true) : (x ||| y).getLsbD i = true := by rw [BitVec.getLsbD_or, h]; rfl
/-- What both say of a time: who has more says no less. -/
theorem at_more (a b c d e a' b' d' : BitVec 64) (t : Int) (hk : crB [a ||| a', b ||| b', c, d ||| d', e] = true) :
    ∃ p q : Bool, (p = true → q = true) ∧ (∀ W, LaidC W → Calls Tryz.prog 20 #[cronV [a, b, c, d, e], .int .i64 t] W fun x w' => x = .returned (.bool p) ∧ Below W.heap.size W w') ∧ (∀ W, LaidC W → Calls Tryz.prog 20 #[cronV [a ||| a', b ||| b', c, d ||| d', e], .int .i64 t] W fun x w' => x = .returned (.bool q) ∧ Below W.heap.size W w') := by
  by_cases h : D.TimeZ t
  · obtain ⟨y, m, n, hc, _⟩ := D.civ_ex t h.1 h.2
    exact ⟨_, _, fit_more (or_more a a') (or_more b b') (or_more d d') hk, fun W hW => cat_is _ t y m n _ _ _ W hW rfl hc, fun W hW => cat_is _ t y m n _ _ _ W hW rfl hc⟩
  · exact ⟨false, false, id, fun W hW => cat_no _ t W hW rfl h, fun W hW => cat_no _ t W hW rfl h⟩
/-- What several goals ask in the same words is shown once. -/
theorem share {T G : Prop} (k : Hid T → G) (h : T) : G := k (Lib.hid h)
set_option maxRecDepth 100000 in
set_option maxHeartbeats 8000000 in
theorem more7_walk (L M : List (BitVec 64)) (A : Option Addr) (n ca : Nat) (w : World) (hL : LaidC w) (h5 : L.length = 5) (h5' : M.length = 5) (hn : n ≤ maxLen) (ht : TimesAt w w.heap.size A n) :
    Calls Tryz.prog 8 #[cronV L, cronV M, .slice A n ca] w fun e w' => e = .returned (.bool true) ∧ Below w.heap.size w w' := by
  unfold maxLen at hn
  have HL := Lib.hid hL; have HTm := Lib.hid ht
  clear hL ht
  obtain ⟨a, b, c, d, e, rfl⟩ := list_five h5
  obtain ⟨a', b', c', d', e', rfl⟩ := list_five h5'
  have HAM := Lib.hid (fun t hk => at_more a b c d e a' b' d' t hk)
  rw [cronV_five, cronV_five] at *
  unfold fiveV at *
  go_enter Tryz.func8, Tryz.ntmps8
  go_wp2_with fail
  have hF : ∃ W : World, W = (w.alloc (.cells #[.int .u64 (U a), .int .u64 (U b), .int .u64 (U c), .int .u64 (U d), .int .u64 (U e)] 27)).alloc (.cells #[.int .u64 (U a'), .int .u64 (U b'), .int .u64 (U c'), .int .u64 (U d'), .int .u64 (U e')] 27) ∧ Below w.heap.size w W ∧ CronAt W w.heap.size [a, b, c, d, e] ∧ CronAt W (w.heap.size + 1) [a', b', c', d', e'] := by
    refine ⟨_, rfl, ((Below.refl _ w).alloc (Nat.le_refl _) _).alloc (by simp) _, (CronAt.new w a b c d e).alloc _, ?_⟩
    have := CronAt.new (w.alloc (.cells #[.int .u64 (U a), .int .u64 (U b), .int .u64 (U c), .int .u64 (U d), .int .u64 (U e)] 27)) a' b' c' d' e'
    rwa [World.size_alloc] at this
  obtain ⟨w0, hw0, hb0, hc0, hd0⟩ := hF
  rw [← hw0]
  clear hw0
  have HL0 := Lib.hid (HL.out.on hb0)
  refine (cwakes_any w0 HL0.out).mono ?_
  rintro x w1 ⟨rfl, hb⟩
  have HB1 := Lib.hid (hb0.trans (hb.mono hb0.size)); have HC1 := Lib.hid (hc0.on hb); have HD1 := Lib.hid (hd0.on hb)
  clear hb hb0 hc0 hd0 HL0
  obtain ⟨c0, c1, c2, c3, c4⟩ := HC1.out.five
  go_wp2_with fail
  have hF : ∃ W : World, W = w1.alloc (.cells #[.int .u64 (U a), .int .u64 (U b), .int .u64 (U c), .int .u64 (U d), .int .u64 (U e)] 27) ∧ Below w.heap.size w W ∧ CronAt W w.heap.size [a, b, c, d, e] ∧ CronAt W (w.heap.size + 1) [a', b', c', d', e'] ∧ CronAt W w1.heap.size [a, b, c, d, e] ∧ w.heap.size + 1 < w1.heap.size :=
    ⟨_, rfl, HB1.out.alloc HB1.out.size _, HC1.out.alloc _, HD1.out.alloc _, CronAt.new w1 a b c d e, HD1.out.lt⟩
  obtain ⟨w2, hw2, hb2, hc2, hd2, he2, hlt⟩ := hF
  rw [← hw2]
  have HB2 := Lib.hid hb2; have HC2 := Lib.hid hc2; have HD2 := Lib.hid hd2; have HE2 := Lib.hid he2
  clear hw2 hb2 hc2 hd2 he2 HB1 HC1 HD1 c0 c1 c2 c3 c4
  have hg1 := HC2.out.lt; have hg2 := HD2.out.lt; have hg3 := HE2.out.lt
  obtain ⟨c0, c1, c2, c3, c4⟩ := HC2.out.five
  obtain ⟨d0, d1, d2, d3, d4⟩ := HD2.out.five
  obtain ⟨e0, e1, e2, e3, e4⟩ := HE2.out.five
  have f0 := HE2.out.frozen 0; have f1 := HE2.out.frozen 1; have f3 := HE2.out.frozen 3
  have hlt0 : w.heap.size < w1.heap.size := by omega
  have HALL : Hid (∀ W, Below w1.heap.size w2 W → (W.cell? ⟨w.heap.size, 0, none⟩ = some (.int .u64 (U a)) ∧ W.cell? ⟨w.heap.size, 1, none⟩ = some (.int .u64 (U b)) ∧ W.cell? ⟨w.heap.size, 3, none⟩ = some (.int .u64 (U d)) ∧ W.cell? ⟨w.heap.size + 1, 0, none⟩ = some (.int .u64 (U a')) ∧ W.cell? ⟨w.heap.size + 1, 1, none⟩ = some (.int .u64 (U b')) ∧ W.cell? ⟨w.heap.size + 1, 3, none⟩ = some (.int .u64 (U d')))) := Lib.hid (fun W hb =>
    ⟨(hb.cell (p := ⟨w.heap.size, 0, none⟩) hlt0).trans c0, (hb.cell (p := ⟨w.heap.size, 1, none⟩) hlt0).trans c1, (hb.cell (p := ⟨w.heap.size, 3, none⟩) hlt0).trans c3, (hb.cell (p := ⟨w.heap.size + 1, 0, none⟩) hlt).trans d0, (hb.cell (p := ⟨w.heap.size + 1, 1, none⟩) hlt).trans d1, (hb.cell (p := ⟨w.heap.size + 1, 3, none⟩) hlt).trans d3⟩)
  have hBE := Below.refl w1.heap.size w2
  apply share
  case k =>
    intro hkey
    go_region_held3 (fun W => (W.cell? ⟨w.heap.size, 0, none⟩ = some (.int .u64 (U a)) ∧ W.cell? ⟨w.heap.size, 1, none⟩ = some (.int .u64 (U b)) ∧ W.cell? ⟨w.heap.size, 3, none⟩ = some (.int .u64 (U d)) ∧ W.cell? ⟨w.heap.size + 1, 0, none⟩ = some (.int .u64 (U a')) ∧ W.cell? ⟨w.heap.size + 1, 1, none⟩ = some (.int .u64 (U b')) ∧ W.cell? ⟨w.heap.size + 1, 3, none⟩ = some (.int .u64 (U d')))) ((refine HALL.out _ ?_; repeat (first | exact hBE | refine Below.drew ?_ | refine Below.setCell ?_ (by simp) _ | refine Below.alloc ?_ (by first | omega | (simp; omega)) _))) (first
      | (go_at_call 28; first | ((with_reducible refine (or_two a a' _ _ ?_ ?_).mono ?_); (· go_simp); (· go_simp); rintro x' w4 ⟨rfl, rfl⟩) | ((with_reducible refine (or_two b b' _ _ ?_ ?_).mono ?_); (· go_simp); (· go_simp); rintro x' w4 ⟨rfl, rfl⟩) | ((with_reducible refine (or_two d d' _ _ ?_ ?_).mono ?_); (· go_simp); (· go_simp); rintro x' w4 ⟨rfl, hw4⟩; (have hG4 : Below w2.heap.size w2 w4 := by (rw [← hw4]; repeat (first | exact Below.refl _ _ | refine Below.drew ?_ | refine Below.alloc ?_ (by first | exact Nat.le_refl _ | (simp; done) | (simp; omega)) _))); clear hw4; have hX4 := HE2.out.on hG4; obtain ⟨m0, m1, m2, m3, m4⟩ := hX4.five; (have n0 := hX4.frozen 0); (have n1 := hX4.frozen 1); (have n3 := hX4.frozen 3); replace hBE := hBE.trans (hG4.mono (Nat.le_of_lt hg3)))))
    all_goals (
      have hb7 := ((hBE.setCell (p := ⟨w1.heap.size, 0, none⟩) (Nat.le_refl _) (.int .u64 (U (a ||| a')))).setCell (p := ⟨w1.heap.size, 1, none⟩) (Nat.le_refl _) (.int .u64 (U (b ||| b')))).setCell (p := ⟨w1.heap.size, 3, none⟩) (Nat.le_refl _) (.int .u64 (U (d ||| d')))
      have hc7 : CronAt (((w4.setCell ⟨w1.heap.size, 0, none⟩ (.int .u64 (U (a ||| a')))).setCell ⟨w1.heap.size, 1, none⟩ (.int .u64 (U (b ||| b')))).setCell ⟨w1.heap.size, 3, none⟩ (.int .u64 (U (d ||| d')))) w1.heap.size [a ||| a', b ||| b', c, d ||| d', e] := ((hX4.set 0 (a ||| a')).set 1 (b ||| b')).set 3 (d ||| d')
      generalize ((w4.setCell ⟨w1.heap.size, 0, none⟩ (.int .u64 (U (a ||| a')))).setCell ⟨w1.heap.size, 1, none⟩ (.int .u64 (U (b ||| b')))).setCell ⟨w1.heap.size, 3, none⟩ (.int .u64 (U (d ||| d'))) = w7 at hb7 hc7 ⊢
      generalize Value.slice (some ⟨w2.heap.size, 0, none⟩) 2 2 = s0
      generalize Value.slice (some ⟨w2.heap.size + 1, 0, none⟩) 2 2 = s1
      generalize Value.slice (some ⟨w2.heap.size + 1 + 1, 0, none⟩) 2 2 = s2
      clear hX4 m0 m1 m2 m3 m4 n0 n1 n3 hBE hG4)
    · revert s0 s1 s2 w7
      exact hkey.out
    all_goals first
      | with_reducible exact hkey.out w7 hb7 hc7 s0 s1 s2
      | with_reducible exact hkey.out w7 hb7 hc7 s0 s2 s1
      | with_reducible exact hkey.out w7 hb7 hc7 s1 s0 s2
      | with_reducible exact hkey.out w7 hb7 hc7 s1 s2 s0
      | with_reducible exact hkey.out w7 hb7 hc7 s2 s0 s1
      | with_reducible exact hkey.out w7 hb7 hc7 s2 s1 s0
  intro w7 hb7 hc7 s0 s1 s2
  have HB7 := Lib.hid (HB2.out.trans (hb7.mono (Nat.le_of_lt hlt0))); have HC7 := Lib.hid (HC2.out.below hb7 hlt0); have HE7 := Lib.hid hc7
  have HL7 := Lib.hid (HL.out.on HB7.out)
  clear hb7 hc7 HALL HB2 HC2 HD2 HE2 c0 c1 c2 c3 c4 d0 d1 d2 d3 d4 e0 e1 e2 e3 e4 f0 f1 f3 hg1 hg2 hg3
  have HK := Lib.hid (fun W hW => ccheck_any [a, b, c, d, e] W hW rfl)
  have HK' := Lib.hid (fun W hW => ccheck_any [a ||| a', b ||| b', c, d ||| d', e] W hW rfl)
  rw [cronV_five] at HK HK'
  unfold fiveV at HK HK'
  have hne : ¬ w1.heap.size = w.heap.size := by omega
  obtain ⟨c0, c1, c2, c3, c4⟩ := HC7.out.five
  cases hcc : crB [a, b, c, d, e] with
  | false =>
    have hce : crE [a, b, c, d, e] = 170 := by unfold crE; rw [hcc]; rfl
    simp only [hce] at HK
    clear hce hcc HK' HAM
    go_wp2_with fail
    refine (HK.out _ HL7.out.fld).mono ?_
    rintro x w8 ⟨rfl, hb⟩
    have HB8 := Lib.hid (HB7.out.trans (hb.mono HB7.out.size))
    go_wp2_with fail
    go_ret
    exact ⟨rfl, HB8.out⟩
  | true =>
    have hce : crE [a, b, c, d, e] = 0 := by unfold crE; rw [hcc]; rfl
    simp only [hce] at HK
    clear hce hcc
    go_wp2_with fail
    refine (HK.out _ HL7.out.fld).mono ?_
    rintro x w8 ⟨rfl, hb⟩
    have HB8 := Lib.hid (HB7.out.trans (hb.mono HB7.out.size)); have HC8 := Lib.hid (HC7.out.on hb); have HE8 := Lib.hid (HE7.out.on hb); have HL8 := Lib.hid (HL7.out.on hb)
    clear hb c0 c1 c2 c3 c4 HB7 HC7 HE7 HL7
    obtain ⟨e0, e1, e2, e3, e4⟩ := HE8.out.five
    cases hcm : crB [a ||| a', b ||| b', c, d ||| d', e] with
    | false =>
      have hce : crE [a ||| a', b ||| b', c, d ||| d', e] = 170 := by unfold crE; rw [hcm]; rfl
      simp only [hce] at HK'
      clear hce hcm HAM
      go_wp2_with fail
      refine (HK'.out _ HL8.out.fld).mono ?_
      rintro x w9 ⟨rfl, hb⟩
      have HB9 := Lib.hid (HB8.out.trans (hb.mono HB8.out.size))
      go_wp2_with fail
      go_ret
      exact ⟨rfl, HB9.out⟩
    | true =>
      have hce : crE [a ||| a', b ||| b', c, d ||| d', e] = 0 := by unfold crE; rw [hcm]; rfl
      simp only [hce] at HK'
      have HAT := Lib.hid (fun t => HAM.out t hcm)
      clear hce hcm HAM
      go_wp2_with fail
      refine (HK'.out _ HL8.out.fld).mono ?_
      rintro x w9 ⟨rfl, hb⟩
      have HB9 := Lib.hid (HB8.out.trans (hb.mono HB8.out.size)); have HC9 := Lib.hid (HC8.out.on hb); have HE9 := Lib.hid (HE8.out.on hb)
      clear hb e0 e1 e2 e3 e4 HB8 HC8 HE8 HL8 HK HK'
      generalize a ||| a' = am at *
      generalize b ||| b' = bm at *
      generalize d ||| d' = dm at *
      go_wp2_with fail
      go_loopw [8, 9, 44] (fun _ _ i wr => ∃ k : Nat, k ≤ n ∧ i = .int .i64 (k : Int) ∧ Below w.heap.size w wr ∧ CronAt wr w.heap.size [a, b, c, d, e] ∧ CronAt wr w1.heap.size [am, bm, c, dm, e]) (fun _ _ i _ => n - (intOf i).toNat)
      case atStart => exact ⟨0, Nat.zero_le _, rfl, HB9.out, HC9.out, HE9.out⟩
      case round =>
        clear HB9 HC9 HE9
        obtain ⟨k, hk, rfl, hb, hc, hd⟩ := hrel
        have HB := Lib.hid hb; have HC := Lib.hid hc; have HD := Lib.hid hd
        clear hb hc hd
        by_cases hlt9 : k < n
        · obtain ⟨bb, oo, t, rfl, hbb, e0⟩ := (HTm.out.on HB.out) k hlt9
          have HLr := Lib.hid (HL.out.on HB.out)
          have hsz := HB.out.size
          obtain ⟨p, q, hpq, h1, h2⟩ := HAT.out t
          have H1 := Lib.hid h1; have H2 := Lib.hid h2; have HPQ := Lib.hid hpq
          clear h1 h2 hpq
          obtain ⟨c0, c1, c2, c3, c4⟩ := HC.out.five
          obtain ⟨d0, d1, d2, d3, d4⟩ := HD.out.five
          have hg1 := HC.out.lt; have hg2 := HD.out.lt
          by_cases h12 : k < 20
          · have h12' : (k : Int) < 20 := by omega
            go_wp2_with fail
            refine (H1.out _ HLr.out).mono ?_
            rintro x w3 ⟨rfl, hb⟩
            have HB3 := Lib.hid (HB.out.trans (hb.mono HB.out.size)); have HC3 := Lib.hid (HC.out.on hb); have HD3 := Lib.hid (HD.out.on hb); have HL3 := Lib.hid (HLr.out.on hb)
            clear hb c0 c1 c2 c3 c4 d0 d1 d2 d3 d4 e0
            obtain ⟨d0, d1, d2, d3, d4⟩ := HD3.out.five
            cases p with
            | true =>
              have hq : q = true := HPQ.out rfl
              subst hq
              go_wp2_with fail
              refine (H2.out _ HL3.out).mono ?_
              rintro x w4 ⟨rfl, hb⟩
              have HB4 := Lib.hid (HB3.out.trans (hb.mono HB3.out.size)); have HC4 := Lib.hid (HC3.out.on hb); have HD4 := Lib.hid (HD3.out.on hb)
              clear hb d0 d1 d2 d3 d4
              go_wp2_with fail
              exact ⟨⟨k + 1, by omega, by go_num, HB4.out, HC4.out, HD4.out⟩, by simp [intOf]; omega⟩
            | false =>
              clear HPQ
              go_wp2_with fail
              exact ⟨⟨k + 1, by omega, by go_num, HB3.out, HC3.out, HD3.out⟩, by simp [intOf]; omega⟩
          · have h12' : decide ((k : Int) < 20) = false := by simp; omega
            go_wp2_with fail
            exact ⟨⟨k + 1, by omega, by go_num, HB.out, HC.out, HD.out⟩, by simp [intOf]; omega⟩
        · have hkn : k = n := by omega
          subst hkn
          go_wp2_with fail
          go_ret
          exact ⟨rfl, HB.out⟩
end Go.Proofs.YtmjjdccpnepjjaaGreatDoor
