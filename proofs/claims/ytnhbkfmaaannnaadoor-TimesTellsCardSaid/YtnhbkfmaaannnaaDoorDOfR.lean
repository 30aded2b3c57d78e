/- Of and At of the document. -/
import Derived.Test.YtnhbkfmaaannnaaDoorDAt
namespace Go.Proofs.YtnhbkfmaaannnaaDoor
open Go.RowKit

theorem yearR_any (y : Int) (w : World) :
    Calls Tryd.prog 51 #[.int .i64 y] w fun e w' => e = .returned (.int .i64 (ylZ y)) ∧ w = w' := by
  by_cases hl : leapZ y = true
  · have he : ylZ y = 366 := by unfold ylZ; rw [if_pos hl]
    rw [he]
    have HY := Lib.hid hl
    clear hl he
    go_enter Tryd.func51, Tryd.ntmps51
    go_wp2_with (go_at_call 55; refine (leapR_any _ _).mono ?_; rintro e w' ⟨rfl, rfl⟩; rw [HY.out])
    go_ret
    exact ⟨rfl, rfl⟩
  · have he : ylZ y = 365 := by unfold ylZ; rw [if_neg hl]
    have hl' : leapZ y = false := by simpa using hl
    rw [he]
    have HY := Lib.hid hl'
    clear hl hl' he
    go_enter Tryd.func51, Tryd.ntmps51
    go_wp2_with (go_at_call 55; refine (leapR_any _ _).mono ?_; rintro e w' ⟨rfl, rfl⟩; rw [HY.out])
    go_ret
    exact ⟨rfl, rfl⟩
theorem dyZ_succ (k : Nat) : dyZ (k + 1) = dyZ k + ylZ (1970 + k) := rfl
theorem dyZ_bd {k : Nat} (h : k ≤ 8030) : 0 ≤ dyZ k ∧ dyZ k ≤ 2932897 := by
  have a := dyZ_le (show 0 ≤ k by omega)
  have b := dyZ_le h
  rw [dyZ_last] at b
  exact ⟨a, b⟩
set_option maxRecDepth 100000 in
theorem ofR_ok (y m d : Int) (w : World) (h : RightZ y m d) :
    Calls Tryd.prog 36 #[dateV y m d] w fun e w' => e = .returned (.int .i64 (numZ y m d)) ∧ Below w.heap.size w w' := by
  obtain ⟨m1, m2⟩ := h.month
  have hnum : numZ y m d = dyZ (y - 1970).toNat + dmZ y (m - 1).toNat + (d - 1) := rfl
  obtain ⟨y1, y2, d1, d2⟩ := h
  have d3 : d ≤ 31 := by have := (mlZ_top y m).2; omega
  have hM : ∀ k, k ≤ 12 → 0 ≤ dmZ y k ∧ dmZ y k ≤ 366 := fun k hk => dmZ_in y hk
  have hMS := dmZ_succ y
  have hLN := fun k => mlZ_top y k
  have hB : Below w.heap.size w (w.alloc (dateO y m d)) := (Below.refl _ w).alloc (Nat.le_refl _) _
  unfold dateV at *
  unfold dateO at hB
  have HN := Lib.hid hnum; have HD := Lib.hid d2; have HB := Lib.hid hB
  have HM := Lib.hid hM; have HMS := Lib.hid hMS; have HLN := Lib.hid hLN
  clear hnum d2 hM hMS hLN hB
  generalize numZ y m d = nm at *
  go_enter Tryd.func36, Tryd.ntmps36
  go_wp2_with fail
  go_loop [3, 4] (fun n i => ∃ k : Nat, (k : Int) ≤ y - 1970 ∧ i = .int .i64 (1970 + (k : Int)) ∧ n = .int .i64 (d - 1 + dyZ k)) (fun _ i => (y - intOf i).toNat)
  case atStart => exact ⟨0, by omega, rfl, by simp [dyZ]⟩
  case round =>
    obtain ⟨k, hk, rfl, rfl⟩ := hrel
    obtain ⟨s0, s1⟩ := dyZ_bd (k := k) (by omega)
    by_cases hlt : 1970 + (k : Int) < y
    · have hs := dyZ_succ k
      have hyl := ylZ_pos (1970 + (k : Int))
      have hs1 := dyZ_bd (k := k + 1) (by omega)
      have HS := Lib.hid hs
      clear hs
      generalize hgd : dyZ (k + 1) = D' at *
      have HGD := Lib.hid hgd
      clear hgd
      generalize dyZ k = D at *
      go_wp2_with fail
      refine (yearR_any _ _).mono ?_
      rintro e w' ⟨rfl, rfl⟩
      obtain ⟨t0, t1⟩ := hyl
      generalize ylZ (1970 + (k : Int)) = L at *
      go_wp2_with fail
      go_round
      case rel => exact ⟨k + 1, by omega, by go_num, by rw [HGD.out, HS.out]; go_num⟩
      case measure => simp [intOf]; omega
    · have hlt' : decide (1970 + (k : Int) < y) = false := by simpa using hlt
      have hky : (y - 1970).toNat = k := by omega
      have hnm := HN.out
      rw [hky] at hnm
      have HNM := Lib.hid hnm
      clear hnm HN hky
      generalize dyZ k = N at *
      go_wp2_with fail
      go_loop [3, 5] (fun n i => ∃ k : Nat, (k : Int) ≤ m - 1 ∧ i = .int .i64 ((k : Int) + 1) ∧ n = .int .i64 (d - 1 + N + dmZ y k)) (fun _ i => (m - intOf i).toNat)
      case atStart => exact ⟨0, by omega, rfl, by simp [dmZ]⟩
      case round =>
        obtain ⟨j, hj, rfl, rfl⟩ := hrel
        obtain ⟨u0, u1⟩ := HM.out j (by omega)
        by_cases hlt2 : (j : Int) + 1 < m
        · have hs := HMS.out j
          obtain ⟨l0, l1⟩ := HLN.out ((j : Int) + 1)
          have hs1 := (HM.out (j + 1) (by omega))
          have HS := Lib.hid hs
          clear hs
          generalize hgd : dmZ y (j + 1) = D' at *
          have HGD := Lib.hid hgd
          clear hgd
          generalize dmZ y j = D at *
          go_wp2_with fail
          refine (longR_any y _ _).mono ?_
          rintro e w' ⟨rfl, rfl⟩
          generalize mlZ y ((j : Int) + 1) = L at *
          go_wp2_with fail
          go_round
          case rel => exact ⟨j + 1, by omega, by go_num, by rw [HGD.out, HS.out]; go_num⟩
          case measure => simp [intOf]; omega
        · have hlt2' : decide ((j : Int) + 1 < m) = false := by simpa using hlt2
          have hnm := HNM.out
          rw [show (m - 1).toNat = j by omega] at hnm
          have HNM2 := Lib.hid hnm
          clear hnm HNM
          generalize dmZ y j = D at *
          go_wp2_with fail
          go_ret
          exact ⟨ret_int (by rw [HNM2.out]; omega), HB.out⟩
end Go.Proofs.YtnhbkfmaaannnaaDoor
