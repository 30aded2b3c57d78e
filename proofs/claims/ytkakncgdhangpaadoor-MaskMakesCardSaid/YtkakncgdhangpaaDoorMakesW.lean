/- MaskMakes walked whole. -/
import Derived.Test.YtkakncgdhangpaaDoorMakes
namespace Go.Proofs.YtkakncgdhangpaaDoor
open Go.RowKit

set_option maxRecDepth 100000 in
set_option maxHeartbeats 4000000 in
theorem makes_main (A B : Option Addr) (n c m d : Nat) (w : World) (hT : Tab w) (hg : 0 < w.heap.size) (hn : n ≤ maxLen) (hm : m ≤ maxLen) (ha : RowsIn w w.heap.size A n) (hz : SpansIn w w.heap.size B m) :
    Calls Tryd.prog 3 #[.slice A n c, .slice B m d] w fun e w' => e = .returned (.bool true) ∧ Below w.heap.size w w' := by
  unfold maxLen at hn hm
  have HA := Lib.hid ha
  have HZ := Lib.hid hz
  go_enter Tryd.func3, Tryd.ntmps3
  go_wp2_with fail
  refine (wakes_any w hT hg).mono ?_; rintro e w1 ⟨rfl, hb1⟩
  clear hT hg ha hz
  go_wp2
  go_loopw [22] (fun i wr => ∃ k : Nat, k ≤ n ∧ k ≤ 10 ∧ i = .int .i64 k ∧ Below w.heap.size w wr) (fun i _ => n - (intOf i).toNat)
  case atStart => exact ⟨0, by omega, by omega, rfl, hb1⟩
  case round =>
    obtain ⟨k, hk, hk10, rfl, hbw⟩ := hrel
    by_cases hlt : k < n
    · have hdk : decide ((k : Int) < (n : Int)) = true := by simp; omega
      obtain ⟨b1, o1, v, rfl, hl1, c1, R, L, C, zs, rfl, hLC, hC, hRn, hr⟩ := (HA.out.below hbw) k hlt
      unfold maxLen at hC
      by_cases h10 : k = 10
      · subst h10
        have hyes : (((10 : Nat) : Int) == 10) = true := rfl
        have hdk2 : decide ((10 : Int) < (n : Int)) = true := by simp; omega
        rw [show ((10 : Nat) : Int) = 10 from rfl] at *
        go_wp2
        go_loopw [72] (fun i wr2 => ∃ j : Nat, j ≤ m ∧ j ≤ 20 ∧ i = .int .i64 j ∧ Below w.heap.size w wr2) (fun i _ => m - (intOf i).toNat)
        case atStart => exact ⟨0, by omega, by omega, rfl, hbw⟩
        case round =>
          obtain ⟨j, hj, hj20, rfl, hB2⟩ := hrel
          by_cases hltj : j < m
          · have hdj : decide ((j : Int) < (m : Int)) = true := by simp; omega
            obtain ⟨b2, o2, f, t, s, rfl, hl2, c1, c2, c3, hs⟩ := (HZ.out.below hB2) j hltj
            by_cases h20 : j = 20
            · subst h20
              go_wp2
              go_ret
              exact ⟨rfl, hB2.alloc hB2.size _⟩
            · have hnj : ((j : Int) == 20) = false := by simp; omega
              have hB3 : Below w.heap.size w (wr.alloc (.cells #[.int .i64 f, .int .i64 t, .int .i64 s] 36)) := hB2.alloc hB2.size _
              go_wp2_with fail
              refine (span_any f t s _).mono ?_; rintro e w3 ⟨rfl, rfl⟩
              have HR := Lib.hid (rspan_any f t s (wr.alloc (.cells #[.int .i64 f, .int .i64 t, .int .i64 s] 36)) hs)
              generalize spanM f t s = O at HR ⊢
              rcases O with _ | M
              · dsimp only [maskErr]
                dsimp only [maskOk] at HR
                go_wp2_with fail
                refine HR.out.mono ?_; rintro e w4 ⟨rfl, hb4⟩
                have hB4 := gr_trans hB3 hb4
                clear HR
                go_wp2
                go_roundw
                case rel => exact ⟨j + 1, by omega, by omega, by go_num, hB4⟩
                case measure => simp [intOf]; omega
              · dsimp only [maskErr]
                dsimp only [maskOk] at HR
                go_wp2_with fail
                refine HR.out.mono ?_; rintro e w4 ⟨rfl, hb4⟩
                have hB4 := gr_trans hB3 hb4
                clear HR
                go_wp2
                go_roundw
                case rel => exact ⟨j + 1, by omega, by omega, by go_num, hB4⟩
                case measure => simp [intOf]; omega
          · go_wp2
            go_ret
            exact ⟨rfl, hB2⟩
      · have hne : ((k : Int) == 10) = false := by simp; omega
        have hsz := hbw.size
        rcases Nat.lt_or_ge 100 L with h100 | h100
        · skip
          obtain ⟨ys, hys, hr'⟩ := hr.cut (m := 100) (by omega)
          have hR0 : R = none → 100 = 0 ∧ C = 0 := fun e => by have := hRn e; omega
          go_wp2_with fail
          refine (clone_ints R 100 C ys wr (by omega) hR0 (hr'.mono hsz)).mono ?_; rintro e w2 ⟨v, rfl, hv, hb2⟩
          obtain ⟨V, g, rfl, hV⟩ := own_izs hv
          have hB2 := gr_trans hbw hb2
          have hr2 := hr'.below (hb2.mono hsz)
          have HO := Lib.hid (of_any V 100 g ys w2 hys (by unfold maxLen; omega) hV)
          have HR := Lib.hid (rof_any R 100 C ys w2 hys (by unfold maxLen; omega) hr2.arr)
          have HE := Lib.hid (equal_ints V R 100 g C _ w2 (by unfold maxLen; omega) hV hr2.arr)
          clear hv hb2 c1 hr hr' hV hr2 hys
          generalize ofs ys 0#64 = O at HO HR
          rcases O with _ | M
          · dsimp only [maskErr] at HO
            dsimp only [maskOk] at HR
            go_wp2_with fail
            refine HO.out.mono ?_; rintro e w3 ⟨rfl, rfl⟩
            go_wp2_with fail
            refine HR.out.mono ?_; rintro e w3 ⟨rfl, rfl⟩
            clear HO HR
            go_wp2_with fail
            refine HE.out.mono ?_; rintro e w4 ⟨rfl, q, hw4⟩
            have hB4 : Below w.heap.size w w4 := by rw [hw4]; exact below_drew hB2 q
            clear hw4 hB2 HE
            go_wp2
            go_roundw
            case rel => exact ⟨k + 1, by omega, by omega, by go_num, hB4⟩
            case measure => simp [intOf]; omega
          · dsimp only [maskErr] at HO
            dsimp only [maskOk] at HR
            go_wp2_with fail
            refine HO.out.mono ?_; rintro e w3 ⟨rfl, rfl⟩
            go_wp2_with fail
            refine HR.out.mono ?_; rintro e w3 ⟨rfl, rfl⟩
            clear HO HR
            go_wp2_with fail
            refine HE.out.mono ?_; rintro e w4 ⟨rfl, q, hw4⟩
            have hB4 : Below w.heap.size w w4 := by rw [hw4]; exact below_drew hB2 q
            clear hw4 hB2 HE
            go_wp2
            go_roundw
            case rel => exact ⟨k + 1, by omega, by omega, by go_num, hB4⟩
            case measure => simp [intOf]; omega

        · skip
          obtain ⟨ys, hys, hr'⟩ := hr.cut (m := L) (by omega)
          have hR0 : R = none → L = 0 ∧ C = 0 := fun e => by have := hRn e; omega
          go_wp2_with fail
          refine (clone_ints R L C ys wr (by omega) hR0 (hr'.mono hsz)).mono ?_; rintro e w2 ⟨v, rfl, hv, hb2⟩
          obtain ⟨V, g, rfl, hV⟩ := own_izs hv
          have hB2 := gr_trans hbw hb2
          have hr2 := hr'.below (hb2.mono hsz)
          have HO := Lib.hid (of_any V L g ys w2 hys (by unfold maxLen; omega) hV)
          have HR := Lib.hid (rof_any R L C ys w2 hys (by unfold maxLen; omega) hr2.arr)
          have HE := Lib.hid (equal_ints V R L g C _ w2 (by unfold maxLen; omega) hV hr2.arr)
          clear hv hb2 c1 hr hr' hV hr2 hys
          generalize ofs ys 0#64 = O at HO HR
          rcases O with _ | M
          · dsimp only [maskErr] at HO
            dsimp only [maskOk] at HR
            go_wp2_with fail
            refine HO.out.mono ?_; rintro e w3 ⟨rfl, rfl⟩
            go_wp2_with fail
            refine HR.out.mono ?_; rintro e w3 ⟨rfl, rfl⟩
            clear HO HR
            go_wp2_with fail
            refine HE.out.mono ?_; rintro e w4 ⟨rfl, q, hw4⟩
            have hB4 : Below w.heap.size w w4 := by rw [hw4]; exact below_drew hB2 q
            clear hw4 hB2 HE
            go_wp2
            go_roundw
            case rel => exact ⟨k + 1, by omega, by omega, by go_num, hB4⟩
            case measure => simp [intOf]; omega
          · dsimp only [maskErr] at HO
            dsimp only [maskOk] at HR
            go_wp2_with fail
            refine HO.out.mono ?_; rintro e w3 ⟨rfl, rfl⟩
            go_wp2_with fail
            refine HR.out.mono ?_; rintro e w3 ⟨rfl, rfl⟩
            clear HO HR
            go_wp2_with fail
            refine HE.out.mono ?_; rintro e w4 ⟨rfl, q, hw4⟩
            have hB4 : Below w.heap.size w w4 := by rw [hw4]; exact below_drew hB2 q
            clear hw4 hB2 HE
            go_wp2
            go_roundw
            case rel => exact ⟨k + 1, by omega, by omega, by go_num, hB4⟩
            case measure => simp [intOf]; omega

    · skip
      go_wp2
      go_loopw [72] (fun i wr2 => ∃ j : Nat, j ≤ m ∧ j ≤ 20 ∧ i = .int .i64 j ∧ Below w.heap.size w wr2) (fun i _ => m - (intOf i).toNat)
      case atStart => exact ⟨0, by omega, by omega, rfl, hbw⟩
      case round =>
        obtain ⟨j, hj, hj20, rfl, hB2⟩ := hrel
        by_cases hltj : j < m
        · have hdj : decide ((j : Int) < (m : Int)) = true := by simp; omega
          obtain ⟨b2, o2, f, t, s, rfl, hl2, c1, c2, c3, hs⟩ := (HZ.out.below hB2) j hltj
          by_cases h20 : j = 20
          · subst h20
            go_wp2
            go_ret
            exact ⟨rfl, hB2.alloc hB2.size _⟩
          · have hnj : ((j : Int) == 20) = false := by simp; omega
            have hB3 : Below w.heap.size w (wr.alloc (.cells #[.int .i64 f, .int .i64 t, .int .i64 s] 36)) := hB2.alloc hB2.size _
            go_wp2_with fail
            refine (span_any f t s _).mono ?_; rintro e w3 ⟨rfl, rfl⟩
            have HR := Lib.hid (rspan_any f t s (wr.alloc (.cells #[.int .i64 f, .int .i64 t, .int .i64 s] 36)) hs)
            generalize spanM f t s = O at HR ⊢
            rcases O with _ | M
            · dsimp only [maskErr]
              dsimp only [maskOk] at HR
              go_wp2_with fail
              refine HR.out.mono ?_; rintro e w4 ⟨rfl, hb4⟩
              have hB4 := gr_trans hB3 hb4
              clear HR
              go_wp2
              go_roundw
              case rel => exact ⟨j + 1, by omega, by omega, by go_num, hB4⟩
              case measure => simp [intOf]; omega
            · dsimp only [maskErr]
              dsimp only [maskOk] at HR
              go_wp2_with fail
              refine HR.out.mono ?_; rintro e w4 ⟨rfl, hb4⟩
              have hB4 := gr_trans hB3 hb4
              clear HR
              go_wp2
              go_roundw
              case rel => exact ⟨j + 1, by omega, by omega, by go_num, hB4⟩
              case measure => simp [intOf]; omega
        · go_wp2
          go_ret
          exact ⟨rfl, hB2⟩
end Go.Proofs.YtkakncgdhangpaaDoor
