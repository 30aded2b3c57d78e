/- At: walked, of the program. -/
import Derived.Test.YtmjjdccpnepjjaaGreatDoorK3
import Derived.Test.YtmjjdccpnepjjaaGreatDoorKGDay
namespace Go.Proofs.YtmjjdccpnepjjaaGreatDoor
open Go.RowKit

theorem tat_is (t y m d h mi s : Int) (w : World) (hL : D.Laid w) (hc : D.CivOf t y m d h mi s) :
    Calls Tryz.prog 24 #[.int .i64 t] w fun e w' => e = .returned (.tuple #[.agg #[.int .i64 y, .int .i64 m, .int .i64 d, .int .i64 h, .int .i64 mi, .int .i64 s], .int .i64 0]) ∧ Below w.heap.size w w' := by
  refine (D.tat_ok t w hL hc.timeZ).mono ?_
  rintro e w' ⟨y', m', d', h', mi', s', rfl, hc', hb⟩
  obtain ⟨rfl, rfl, rfl, rfl, rfl, rfl⟩ := D.civ_inj hc hc'
  exact ⟨rfl, hb⟩
set_option maxRecDepth 100000 in
set_option maxHeartbeats 2000000 in
theorem cat_is (L : List (BitVec 64)) (t y m n h mi s : Int) (w : World) (hL : LaidC w) (h5 : L.length = 5) (hc : D.CivOf t y m n h mi s) :
    Calls Tryz.prog 20 #[cronV L, .int .i64 t] w fun x w' => x = .returned (.bool (atZ L y m n h mi s)) ∧ Below w.heap.size w w' := by
  have HL := Lib.hid hL
  have HT := Lib.hid (fun W hW => tat_is t y m n h mi s W hW hc)
  have HD := Lib.hid (fun W hW => cday_any L y m n W hW h5)
  clear hL hc
  obtain ⟨a, b, c, d, e, rfl⟩ := list_five h5
  rw [cronV_five] at *
  unfold fiveV at *
  have hz : atZ [a, b, c, d, e] y m n h mi s = (decide (s = 0) && (hasB a mi && (hasB b h && dayZ [a, b, c, d, e] y m n))) := rfl
  rw [hz]
  clear hz
  generalize dayZ [a, b, c, d, e] y m n = dz at *
  have hb0 : Below w.heap.size w (w.alloc (.cells #[.int .u64 (U a), .int .u64 (U b), .int .u64 (U c), .int .u64 (U d), .int .u64 (U e)] 27)) := (Below.refl _ w).alloc (Nat.le_refl _) _
  have hc0 := CronAt.new w a b c d e
  have HM := Lib.hid (fun W => has_any a mi W); have HH := Lib.hid (fun W => has_any b h W)
  by_cases hs : s = 0
  · subst hs
    rw [decide_eq_true rfl, Bool.true_and]
    cases hm : hasB a mi with
    | false =>
      rw [hm] at HM
      clear hm HH HD
      rw [Bool.false_and]
      go_enter Tryz.func20, Tryz.ntmps20
      go_wp2_with fail
      have HL0 := Lib.hid (HL.out.on hb0)
      generalize w.alloc _ = w0 at *
      refine (HT.out _ HL0.out.days).mono ?_
      rintro x w1 ⟨rfl, hb⟩
      have HB1 := Lib.hid (hb0.trans (hb.mono hb0.size)); have HL1 := Lib.hid (HL0.out.on hb); have HC1 := Lib.hid (hc0.on hb)
      have hlt := HC1.out.lt
      clear hb hb0 hc0 HL0 HT
      obtain ⟨c0, c1, c2, c3, c4⟩ := HC1.out.five
      go_wp2_with fail
      have HB2 := Lib.hid (HB1.out.alloc HB1.out.size (.cells #[.int .i64 y, .int .i64 m, .int .i64 n, .int .i64 h, .int .i64 mi, .int .i64 0] 55)); have HL2 := Lib.hid (HL1.out.on ((Below.refl _ w1).alloc (Nat.le_refl _) (.cells #[.int .i64 y, .int .i64 m, .int .i64 n, .int .i64 h, .int .i64 mi, .int .i64 0] 55)))
      refine (HM.out _).mono ?_
      rintro x w3 ⟨rfl, rfl⟩
      go_wp2_with fail
      go_ret
      exact ⟨rfl, HB2.out⟩
    | true =>
      rw [hm] at HM
      clear hm
      rw [Bool.true_and]
      cases hh : hasB b h with
      | false =>
        rw [hh] at HH
        clear hh HD
        rw [Bool.false_and]
        go_enter Tryz.func20, Tryz.ntmps20
        go_wp2_with fail
        have HL0 := Lib.hid (HL.out.on hb0)
        generalize w.alloc _ = w0 at *
        refine (HT.out _ HL0.out.days).mono ?_
        rintro x w1 ⟨rfl, hb⟩
        have HB1 := Lib.hid (hb0.trans (hb.mono hb0.size)); have HL1 := Lib.hid (HL0.out.on hb); have HC1 := Lib.hid (hc0.on hb)
        have hlt := HC1.out.lt
        clear hb hb0 hc0 HL0 HT
        obtain ⟨c0, c1, c2, c3, c4⟩ := HC1.out.five
        go_wp2_with fail
        have HB2 := Lib.hid (HB1.out.alloc HB1.out.size (.cells #[.int .i64 y, .int .i64 m, .int .i64 n, .int .i64 h, .int .i64 mi, .int .i64 0] 55)); have HL2 := Lib.hid (HL1.out.on ((Below.refl _ w1).alloc (Nat.le_refl _) (.cells #[.int .i64 y, .int .i64 m, .int .i64 n, .int .i64 h, .int .i64 mi, .int .i64 0] 55)))
        refine (HM.out _).mono ?_
        rintro x w3 ⟨rfl, rfl⟩
        go_wp2_with fail
        refine (HH.out _).mono ?_
        rintro x w3 ⟨rfl, rfl⟩
        go_wp2_with fail
        go_ret
        exact ⟨rfl, HB2.out⟩
      | true =>
        rw [hh] at HH
        clear hh
        rw [Bool.true_and]
        go_enter Tryz.func20, Tryz.ntmps20
        go_wp2_with fail
        have HL0 := Lib.hid (HL.out.on hb0)
        generalize w.alloc _ = w0 at *
        refine (HT.out _ HL0.out.days).mono ?_
        rintro x w1 ⟨rfl, hb⟩
        have HB1 := Lib.hid (hb0.trans (hb.mono hb0.size)); have HL1 := Lib.hid (HL0.out.on hb); have HC1 := Lib.hid (hc0.on hb)
        have hlt := HC1.out.lt
        clear hb hb0 hc0 HL0 HT
        obtain ⟨c0, c1, c2, c3, c4⟩ := HC1.out.five
        go_wp2_with fail
        have HB2 := Lib.hid (HB1.out.alloc HB1.out.size (.cells #[.int .i64 y, .int .i64 m, .int .i64 n, .int .i64 h, .int .i64 mi, .int .i64 0] 55)); have HL2 := Lib.hid (HL1.out.on ((Below.refl _ w1).alloc (Nat.le_refl _) (.cells #[.int .i64 y, .int .i64 m, .int .i64 n, .int .i64 h, .int .i64 mi, .int .i64 0] 55)))
        refine (HM.out _).mono ?_
        rintro x w3 ⟨rfl, rfl⟩
        go_wp2_with fail
        refine (HH.out _).mono ?_
        rintro x w3 ⟨rfl, rfl⟩
        go_wp2_with fail
        refine (HD.out _ HL2.out).mono ?_
        rintro x w3 ⟨rfl, hb⟩
        have HB3 := Lib.hid (HB2.out.trans (hb.mono HB2.out.size))
        clear hb
        go_wp2_with fail
        go_ret
        exact ⟨rfl, HB3.out⟩
  · have hs' : (s == 0) = false := by simpa using hs
    rw [decide_eq_false hs, Bool.false_and]
    clear HM HH HD
    go_enter Tryz.func20, Tryz.ntmps20
    go_wp2_with fail
    have HL0 := Lib.hid (HL.out.on hb0)
    generalize w.alloc _ = w0 at *
    refine (HT.out _ HL0.out.days).mono ?_
    rintro x w1 ⟨rfl, hb⟩
    have HB1 := Lib.hid (hb0.trans (hb.mono hb0.size)); have HL1 := Lib.hid (HL0.out.on hb); have HC1 := Lib.hid (hc0.on hb)
    have hlt := HC1.out.lt
    clear hb hb0 hc0 HL0 HT
    obtain ⟨c0, c1, c2, c3, c4⟩ := HC1.out.five
    go_wp2_with fail
    have HB2 := Lib.hid (HB1.out.alloc HB1.out.size (.cells #[.int .i64 y, .int .i64 m, .int .i64 n, .int .i64 h, .int .i64 mi, .int .i64 s] 55)); have HL2 := Lib.hid (HL1.out.on ((Below.refl _ w1).alloc (Nat.le_refl _) (.cells #[.int .i64 y, .int .i64 m, .int .i64 n, .int .i64 h, .int .i64 mi, .int .i64 s] 55)))
    go_ret
    exact ⟨rfl, HB2.out⟩
theorem cat_no (L : List (BitVec 64)) (t : Int) (w : World) (_hL : LaidC w) (h5 : L.length = 5) (hc : ¬ D.TimeZ t) :
    Calls Tryz.prog 20 #[cronV L, .int .i64 t] w fun x w' => x = .returned (.bool false) ∧ Below w.heap.size w w' := by
  have HT := Lib.hid (fun W => D.tat_no t W hc)
  unfold D.civV at HT
  clear hc _hL
  obtain ⟨a, b, c, d, e, rfl⟩ := list_five h5
  rw [cronV_five] at *
  unfold fiveV at *
  have hb0 : Below w.heap.size w (w.alloc (.cells #[.int .u64 (U a), .int .u64 (U b), .int .u64 (U c), .int .u64 (U d), .int .u64 (U e)] 27)) := (Below.refl _ w).alloc (Nat.le_refl _) _
  go_enter Tryz.func20, Tryz.ntmps20
  go_wp2_with fail
  refine (HT.out _).mono ?_
  rintro x w1 ⟨rfl, hb⟩
  have HB1 := Lib.hid (hb0.trans (hb.mono hb0.size))
  clear hb hb0 HT
  go_wp2_with fail
  go_ret
  exact ⟨rfl, HB1.out.alloc HB1.out.size _⟩
end Go.Proofs.YtmjjdccpnepjjaaGreatDoor
