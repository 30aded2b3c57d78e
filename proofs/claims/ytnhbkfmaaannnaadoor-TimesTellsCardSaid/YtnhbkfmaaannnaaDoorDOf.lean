/- Of: the number of a date. -/
import Derived.Test.YtnhbkfmaaannnaaDoorDCut
namespace Go.Proofs.YtnhbkfmaaannnaaDoor
open Go.RowKit

theorem years_of {y : Int} (h0 : 1970 ≤ y) (h1 : y ≤ 9999) : whE false (y - 1601) 4 = dyZ (y - 1970).toNat + 134774 := by
  rw [years_cut (y - 1601) (by omega) (by omega), dyZ_form]
  omega
theorem dmZ_in (y : Int) {k : Nat} (hk : k ≤ 12) : 0 ≤ dmZ y k ∧ dmZ y k ≤ 366 := by
  have h := dmZ_le (y := y) hk
  rw [dmZ_year] at h
  have := ylZ_pos y
  exact ⟨dmZ_nonneg y k, by omega⟩
theorem dyZ_in {y : Int} (_ : 1970 ≤ y) (h1 : y ≤ 9999) : 0 ≤ dyZ (y - 1970).toNat ∧ dyZ (y - 1970).toNat ≤ 2932897 := by
  have a := dyZ_le (show 0 ≤ (y - 1970).toNat by omega)
  have b := dyZ_le (show (y - 1970).toNat ≤ 8030 by omega)
  rw [dyZ_last] at b
  exact ⟨a, b⟩
theorem date_cells (w : World) (y m d : Int) {w2 : World} (hb : Below (w.alloc (dateO y m d)).heap.size (w.alloc (dateO y m d)) w2) :
    w2.cell? ⟨w.heap.size, 0, none⟩ = some (.int .i64 y) ∧ w2.cell? ⟨w.heap.size, 1, none⟩ = some (.int .i64 m) ∧ w2.cell? ⟨w.heap.size, 2, none⟩ = some (.int .i64 d) ∧ Below w.heap.size w w2 := by
  have q : w.heap.size < (w.alloc (dateO y m d)).heap.size := by simp
  refine ⟨(hb.cell (p := ⟨_, 0, none⟩) q).trans (by unfold dateO; simp), (hb.cell (p := ⟨_, 1, none⟩) q).trans (by unfold dateO; simp), (hb.cell (p := ⟨_, 2, none⟩) q).trans (by unfold dateO; simp), ?_⟩
  exact ((Below.refl _ w).alloc (Nat.le_refl _) _).trans (hb.mono (by simp))
theorem of_no (y m d : Int) (w : World) (hL : Laid w) (h : ¬ RightZ y m d) :
    Calls Tryd.prog 29 #[dateV y m d] w fun e w' => e = .returned (.tuple #[.int .i64 0, .int .i64 140]) ∧ Below w.heap.size w w' := by
  have hc := check_no y m d _ (hL.alloc (dateO y m d)) h
  unfold dateV at *
  unfold dateO at hc
  clear h
  go_enter Tryd.func29, Tryd.ntmps29
  go_wp2_with fail
  refine hc.mono ?_
  rintro e w2 ⟨rfl, hb⟩
  have hB := (date_cells w y m d hb).2.2.2
  clear hb hc
  go_wp2_with fail
  go_ret2
  exact ⟨rfl, hB⟩
set_option maxRecDepth 100000 in
theorem of_ok (y m d : Int) (w : World) (hL : Laid w) (h : RightZ y m d) :
    Calls Tryd.prog 29 #[dateV y m d] w fun e w' => e = .returned (.tuple #[.int .i64 (numZ y m d), .int .i64 0]) ∧ Below w.heap.size w w' := by
  have hc := check_ok y m d _ (hL.alloc (dateO y m d)) h
  obtain ⟨m1, m2⟩ := h.month
  have hnum : numZ y m d = dyZ (y - 1970).toNat + dmZ y (m - 1).toNat + (d - 1) := rfl
  obtain ⟨y1, y2, d1, d2⟩ := h
  have d3 : d ≤ 31 := by have := (mlZ_top y m).2; omega
  have hyo := years_of y1 y2
  obtain ⟨n1, n2⟩ := dyZ_in y1 y2
  have hM : ∀ k, k ≤ 12 → 0 ≤ dmZ y k ∧ dmZ y k ≤ 366 := fun k hk => dmZ_in y hk
  have hMS := dmZ_succ y
  have hLN := fun k => mlZ_top y k
  unfold dateV at *
  unfold dateO at hc
  generalize numZ y m d = nm at *
  generalize dyZ (y - 1970).toNat = N at *
  have HN := Lib.hid hnum; have HY := Lib.hid hyo; have HD := Lib.hid d2
  have HM := Lib.hid hM; have HMS := Lib.hid hMS; have HLN := Lib.hid hLN
  clear hnum hyo d2 hM hMS hLN
  have HL := Lib.hid hL
  clear hL
  go_enter Tryd.func29, Tryd.ntmps29
  go_wp2_with fail
  refine hc.mono ?_
  rintro e w2 ⟨rfl, hb⟩
  obtain ⟨c0, c1, c2, hB⟩ := date_cells w y m d hb
  have HB := Lib.hid hB
  have HQ := Lib.hid hb.size
  clear hb hc hB
  go_wp2_with fail
  refine (cut_of (y - 1601) w2 (HL.out.on HB.out) (by omega) (by omega)).mono ?_
  rintro e w3 ⟨rfl, hb⟩
  rw [HY.out]
  have q0 : w.heap.size < w2.heap.size := Nat.lt_of_lt_of_le (by simp) HQ.out
  have c0' : w3.cell? ⟨w.heap.size, 0, none⟩ = some (.int .i64 y) := (hb.cell (p := ⟨_, 0, none⟩) q0).trans c0
  have c1' : w3.cell? ⟨w.heap.size, 1, none⟩ = some (.int .i64 m) := (hb.cell (p := ⟨_, 1, none⟩) q0).trans c1
  have c2' : w3.cell? ⟨w.heap.size, 2, none⟩ = some (.int .i64 d) := (hb.cell (p := ⟨_, 2, none⟩) q0).trans c2
  have HL3 := Lib.hid ((HL.out.on HB.out).on hb)
  have HB3 := Lib.hid (HB.out.trans (hb.mono HB.out.size))
  clear c0 c1 c2 hb HB q0 HL HQ
  generalize lfE false (y - 1601) 4 = left
  go_wp2_with fail
  go_loop [5, 7] (fun n i => ∃ k : Nat, (k : Int) ≤ m - 1 ∧ i = .int .i64 ((k : Int) + 1) ∧ n = .int .i64 (N + 134774 + dmZ y k)) (fun _ i => (m - intOf i).toNat)
  case atStart => exact ⟨0, by omega, rfl, by simp [dmZ]⟩
  case round =>
    obtain ⟨k, hk, rfl, rfl⟩ := hrel
    obtain ⟨s0, s1⟩ := HM.out k (by omega)
    by_cases hlt : (k : Int) + 1 < m
    · have hs := HMS.out k
      obtain ⟨l0, l1⟩ := HLN.out ((k : Int) + 1)
      have hs1 := (HM.out (k + 1) (by omega))
      have HS := Lib.hid hs
      clear hs
      generalize hgd : dmZ y (k + 1) = D' at *
      have HGD := Lib.hid hgd
      clear hgd
      generalize dmZ y k = D at *
      go_wp2_with fail
      refine (long_any y _ w3 HL3.out).mono ?_
      rintro e w' ⟨rfl, rfl⟩
      have hs1' : 0 ≤ D + mlZ y (k + 1) := by omega
      generalize mlZ y ((k : Int) + 1) = L at *
      go_wp2_with fail
      go_round
      case rel => exact ⟨k + 1, by omega, by go_num, by rw [HGD.out, HS.out]; go_num⟩
      case measure => simp [intOf]; omega
    · have hlt' : decide ((k : Int) + 1 < m) = false := by simpa using hlt
      have hkm : m = (k : Int) + 1 := by omega
      have hnm := HN.out
      rw [show (m - 1).toNat = k by omega] at hnm
      have HNM := Lib.hid hnm
      have HKM := Lib.hid hkm
      clear hnm hkm HN
      generalize dmZ y k = D at *
      go_wp2_with fail
      go_ret2
      refine ⟨?_, HB3.out⟩
      rw [HNM.out]
      have e : N + 134774 + D - 134774 + d - 1 = N + D + (d - 1) := by omega
      rw [e]
      rfl
end Go.Proofs.YtnhbkfmaaannnaaDoor
