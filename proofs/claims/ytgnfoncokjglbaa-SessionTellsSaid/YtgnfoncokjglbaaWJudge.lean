/- What an asking is, what is kept: walked. -/
import Derived.Test.YtgnfoncokjglbaaWOf
namespace Go.Proofs.Ytgnfoncokjglbaa
open Go.RowKit

set_option maxRecDepth 100000 in
set_option maxHeartbeats 2000000 in
theorem asking_any (xc xq xe : Int) (v : Value) (q : Int) (w : World) (h0 : 0 ≤ xq) (h1 : xq ≤ 1099511627776) :
    Calls Try.prog 35 #[.agg #[.int .i64 xc, .int .u64 xq, .int .i64 xe, v], .int .u64 q] w fun e w' => e = .returned (.int .i64 (askZ xq q)) ∧ Below w.heap.size w w' := by
  have hb := Lib.hid (new_below w (.cells #[.int .i64 xc, .int .u64 xq, .int .i64 xe, v] 71))
  have hw : IntKind.u64.wrap (xq + 1) = xq + 1 := by rw [IntKind.wrap_u64]; omega
  have HA : Hid (askZ xq q = if q = xq + 1 then 1 else if q = xq then 2 else 3) := Lib.hid rfl
  generalize askZ xq q = AZ at *
  clear h0 h1
  go_enter Try.func35, Try.ntmps35
  by_cases ha : q = xq + 1
  · have hd : (q == xq + 1) = true := by simp [ha]
    have HZ : Hid (AZ = 1) := Lib.hid (by rw [HA.out, if_pos ha])
    clear ha
    go_wp2_with fail
    go_ret
    exact ⟨by rw [HZ.out]; try rfl, hb.out⟩
  · have hd : (q == xq + 1) = false := by simp [ha]
    by_cases hb2 : q = xq
    · have hd2 : (q == xq) = true := by simp [hb2]
      have HZ : Hid (AZ = 2) := Lib.hid (by rw [HA.out, if_neg ha, if_pos hb2])
      clear ha hb2
      go_wp2_with fail
      go_ret
      exact ⟨by rw [HZ.out]; try rfl, hb.out⟩
    · have hd2 : (q == xq) = false := by simp [hb2]
      have HZ : Hid (AZ = 3) := Lib.hid (by rw [HA.out, if_neg ha, if_neg hb2])
      clear ha hb2
      go_wp2_with fail
      go_ret
      exact ⟨by rw [HZ.out]; try rfl, hb.out⟩
theorem of_seq {l : List SesZ} {c : Int} (h : MayS l) (h1 : 1 ≤ c) (h2 : c ≤ 3) : 0 ≤ (ofZ l c).seq ∧ (ofZ l c).seq ≤ 1099511627776 ∧ (ofZ l c).seq = (ofD l c).seq := by
  obtain ⟨t, ht, rfl⟩ := tri_of h
  rw [ofZ_rows ht h1 h2, ofD_rows t c h1 h2, slotS_seq]
  obtain ⟨s1, s2, s3⟩ := t
  obtain ⟨m1, m2, m3⟩ := ht
  have k : ∀ s, SlotMay s → 0 ≤ lastQ s ∧ lastQ s ≤ 1099511627776 := fun s hs => by
    cases s with
    | none => exact ⟨Int.le_refl _, by decide⟩
    | some p => exact ⟨by have := hs.1; show 0 ≤ p.1; omega, hs.2.1⟩
  refine ⟨?_, ?_, rfl⟩
  · rcases (show c = 1 ∨ c = 2 ∨ c = 3 by omega) with rfl | rfl | rfl
    · exact (k s1 m1).1
    · exact (k s2 m2).1
    · exact (k s3 m3).1
  · rcases (show c = 1 ∨ c = 2 ∨ c = 3 by omega) with rfl | rfl | rfl
    · exact (k s1 m1).2
    · exact (k s2 m2).2
    · exact (k s3 m3).2
set_option maxRecDepth 100000 in
set_option maxHeartbeats 2000000 in
theorem judge_any (A : Option Addr) (n c : Nat) (a q : Int) (ms : List SesM) (w : World) (h : SR w A n c ms) (ha : -9223372036854775808 ≤ a ∧ a ≤ 9223372036854775807) :
    Calls Try.prog 22 #[.agg #[.slice A n c], .int .i64 a, .int .u64 q] w fun e w' => e = .returned (.tuple #[.int .i64 (judgeH (ms.map (·.1)) a q), .int .i64 (judgeE (ms.map (·.1)) a q)]) ∧ Below w.heap.size w w' := by
  have hb0 := new_below w (.cells #[.slice A n c] 24)
  have hx0 := SBox.new w 24 #[.slice A n c]
  obtain ⟨W0, hW0⟩ : ∃ W0 : World, W0 = w.alloc (.cells #[.slice A n c] 24) := ⟨_, rfl⟩
  rw [← hW0] at hb0 hx0
  have HB0 := Lib.hid hb0; have HX0 := Lib.hid hx0
  have hc := hx0.one
  have HCK := Lib.hid (check_any A n c ms W0 (h.on hb0))
  have HT := Lib.hid (h.on hb0)
  have HJ : Hid (¬ MayS (ms.map (·.1)) → judgeE (ms.map (·.1)) a q = 220 ∧ judgeH (ms.map (·.1)) a q = 0) := Lib.hid (fun hm => ⟨by unfold judgeE; rw [okS_no hm, if_neg (by simp)], by unfold judgeH; rw [if_neg (fun hh => hm (okS_yes.1 hh.1))]⟩)
  have HJ2 : Hid (MayS (ms.map (·.1)) → ¬ Asked a q → judgeE (ms.map (·.1)) a q = 2 ∧ judgeH (ms.map (·.1)) a q = 0) := Lib.hid (fun hm hna => ⟨by unfold judgeE; rw [okS_yes.2 hm, if_pos rfl, if_neg hna], by unfold judgeH; rw [if_neg (fun hh => hna hh.2)]⟩)
  have HJ3 : Hid (MayS (ms.map (·.1)) → Asked a q → judgeE (ms.map (·.1)) a q = 0 ∧ judgeH (ms.map (·.1)) a q = askZ (ofZ (ms.map (·.1)) a).seq q ∧ 0 ≤ (ofZ (ms.map (·.1)) a).seq ∧ (ofZ (ms.map (·.1)) a).seq ≤ 1099511627776) := Lib.hid (fun hm hna => by
    obtain ⟨k1, k2, k3⟩ := of_seq hm hna.1 hna.2.1
    exact ⟨by unfold judgeE; rw [okS_yes.2 hm, if_pos rfl, if_pos hna], by unfold judgeH; rw [if_pos ⟨okS_yes.2 hm, hna⟩, k3], k1, k2⟩)
  have HEN : Hid (¬ MayS (ms.map (·.1)) → sesE (ms.map (·.1)) = 220) := Lib.hid sesE_no
  have HEY : Hid (MayS (ms.map (·.1)) → sesE (ms.map (·.1)) = 0) := Lib.hid sesE_yes
  have HOF := Lib.hid (fun W (hb : Below W0.heap.size W0 W) => of_any A n c a ms W ((h.on hb0).on hb) ha)
  generalize sesE (ms.map (·.1)) = SE at *
  generalize judgeE (ms.map (·.1)) a q = JE at *
  generalize judgeH (ms.map (·.1)) a q = JH at *
  generalize MayS (ms.map (·.1)) = MAY at *
  generalize ofZ (ms.map (·.1)) a = X at *
  clear hb0 hx0 h ha
  go_enter Try.func22, Try.ntmps22
  go_wp2_with fail
  rw [← hW0]
  clear hW0
  refine HCK.out.mono ?_
  rintro e w1 ⟨rfl, hb1⟩
  have HB1 := Lib.hid hb1
  clear hb1 hc
  by_cases hm : MAY
  · obtain rfl := HEY.out hm
    have HM := Lib.hid hm
    clear hm HEY HEN
    go_wp2_with fail
    refine (hold_i64 1 3 _ 1 1 [a] _ (one_new w1 .i64 3 a)).mono ?_
    rintro y w2 ⟨rfl, rfl⟩
    have HB2 := Lib.hid (HB1.out.alloc HB1.out.size (.cells #[.int .i64 a] 3))
    obtain ⟨w2, hw2⟩ : ∃ w2 : World, w2 = w1.alloc (.cells #[.int .i64 a] 3) := ⟨_, rfl⟩
    rw [← hw2] at HB2 ⊢
    clear hw2
    have HH : Hid (holdW 1 3 [a] = decide (1 ≤ a ∧ a ≤ 3)) := Lib.hid hold_one
    generalize holdW 1 3 [a] = HO at *
    cases HO with
    | false =>
      obtain ⟨rfl, rfl⟩ := HJ2.out HM.out (fun hh => by have := HH.out; rw [decide_eq_true ⟨hh.1, hh.2.1⟩] at this; cases this)
      go_wp2_with fail
      exact bodyPost_ret (v := .tuple #[.int .i64 0, .int .i64 2]) (by simp [results, Try.results22, go_sem]) rfl ⟨rfl, HB0.out.trans (HB2.out.mono HB0.out.size)⟩
    | true =>
      go_wp2_with fail
      refine (hold_u64 1 1099511627776 _ 1 1 [q] _ (one_new w2 .u64 32 q)).mono ?_
      rintro y w3 ⟨rfl, rfl⟩
      have HB3 := Lib.hid (HB2.out.alloc HB2.out.size (.cells #[.int .u64 q] 32))
      obtain ⟨w3, hw3⟩ : ∃ w3 : World, w3 = w2.alloc (.cells #[.int .u64 q] 32) := ⟨_, rfl⟩
      rw [← hw3] at HB3 ⊢
      clear hw3
      have HH2 : Hid (holdW 1 1099511627776 [q] = decide (1 ≤ q ∧ q ≤ 1099511627776)) := Lib.hid hold_one
      generalize holdW 1 1099511627776 [q] = HO2 at *
      cases HO2 with
      | false =>
        obtain ⟨rfl, rfl⟩ := HJ2.out HM.out (fun hh => by have := HH2.out; rw [decide_eq_true ⟨hh.2.2.1, hh.2.2.2⟩] at this; cases this)
        go_wp2_with fail
        exact bodyPost_ret (v := .tuple #[.int .i64 0, .int .i64 2]) (by simp [results, Try.results22, go_sem]) rfl ⟨rfl, HB0.out.trans (HB3.out.mono HB0.out.size)⟩
      | true =>
        have h1 := of_decide_eq_true HH.out.symm
        have h2 := of_decide_eq_true HH2.out.symm
        obtain ⟨rfl, rfl, k1, k2⟩ := HJ3.out HM.out ⟨h1.1, h1.2, h2.1, h2.2⟩
        have HK1 := Lib.hid k1; have HK2 := Lib.hid k2
        have hc := (HX0.out.on HB3.out).one
        clear h1 h2 k1 k2
        have HOF3 := Lib.hid (HOF.out _ HB3.out)
        obtain ⟨xc, xq, xe, xn⟩ := X
        simp only at HK1 HK2
        go_wp2_with fail
        refine HOF3.out.mono ?_
        rintro y w4 ⟨⟨A4, c4, rfl, _⟩, hb4⟩
        have HB4 := Lib.hid (HB3.out.trans (hb4.mono HB3.out.size))
        unfold sesV
        simp only
        generalize xn.length = nn at *
        have HAK := Lib.hid (asking_any xc xq xe (.slice A4 nn c4) q w4 HK1.out HK2.out)
        generalize hAZ : askZ xq q = AZ at *
        have HAZ := Lib.hid hAZ
        clear hb4 hc hAZ
        go_wp2_with fail
        refine HAK.out.mono ?_
        rintro y w5 ⟨rfl, hb5⟩
        have HB5 := Lib.hid (HB4.out.trans (hb5.mono HB4.out.size))
        clear hb5
        go_wp2_with fail
        exact bodyPost_ret (v := .tuple #[.int .i64 AZ, .int .i64 0]) (by simp [results, Try.results22, go_sem]) rfl ⟨by rw [HAZ.out], HB0.out.trans (HB5.out.mono HB0.out.size)⟩
  · obtain rfl := HEN.out hm
    obtain ⟨rfl, rfl⟩ := HJ.out hm
    clear hm HEY HEN
    go_wp2_with fail
    exact bodyPost_ret (v := .tuple #[.int .i64 0, .int .i64 220]) (by simp [results, Try.results22, go_sem]) rfl ⟨rfl, HB0.out.trans (HB1.out.mono HB0.out.size)⟩
end Go.Proofs.Ytgnfoncokjglbaa
