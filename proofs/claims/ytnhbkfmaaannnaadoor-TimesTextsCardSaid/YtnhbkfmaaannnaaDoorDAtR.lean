/- At of the document. -/
import Derived.Test.YtnhbkfmaaannnaaDoorDOfR
namespace Go.Proofs.YtnhbkfmaaannnaaDoor
open Go.RowKit

theorem atR_math (n : Int) (k j : Nat) (hk : k ≤ 8029) (hj : j ≤ 11) (h0 : 0 ≤ n - dyZ k - dmZ (1970 + k) j) (h1 : n - dyZ k - dmZ (1970 + k) j < mlZ (1970 + k) ((j : Int) + 1)) :
    RightZ (1970 + (k : Int)) ((j : Int) + 1) (n - dyZ k - dmZ (1970 + k) j + 1) ∧ numZ (1970 + (k : Int)) ((j : Int) + 1) (n - dyZ k - dmZ (1970 + k) j + 1) = n := by
  refine ⟨⟨by omega, by omega, by omega, by omega⟩, ?_⟩
  unfold numZ
  rw [show (1970 + (k : Int) - 1970).toNat = k by omega, show ((j : Int) + 1 - 1).toNat = j by omega]
  omega
set_option maxRecDepth 100000 in
theorem atR_ok (n : Int) (w : World) (h0 : 0 ≤ n) (h1 : n ≤ 2932896) :
    Calls Tryd.prog 33 #[.int .i64 n] w fun e w' => ∃ y m d : Int, e = .returned (dateV y m d) ∧ RightZ y m d ∧ numZ y m d = n ∧ Below w.heap.size w w' := by
  have b0 : Box ((w.alloc (dateO 0 0 0)).alloc (dateO 1970 1 0)) w.heap.size 27 #[.int .i64 0, .int .i64 0, .int .i64 0] := (Box.new _ _ _).alloc _
  have b1 : Box ((w.alloc (dateO 0 0 0)).alloc (dateO 1970 1 0)) (w.heap.size + 1) 27 #[.int .i64 1970, .int .i64 1, .int .i64 0] := by
    have := Box.new (w.alloc (dateO 0 0 0)) 27 #[.int .i64 1970, .int .i64 1, .int .i64 0]
    have e : (w.alloc (dateO 0 0 0)).heap.size = w.heap.size + 1 := by simp
    rw [e] at this
    exact this
  have hw1 : Below w.heap.size w ((w.alloc (dateO 0 0 0)).alloc (dateO 1970 1 0)) := ((Below.refl _ w).alloc (Nat.le_refl _) _).alloc (by simp) _
  unfold dateV
  unfold dateO at b0 b1 hw1
  go_enter Tryd.func33, Tryd.ntmps33
  go_wp2_with fail
  go_loopw [0] (fun nn wr => ∃ k : Nat, k ≤ 8029 ∧ nn = .int .i64 (n - dyZ k) ∧ 0 ≤ n - dyZ k ∧ Below w.heap.size w wr ∧ Box wr w.heap.size 27 #[.int .i64 0, .int .i64 0, .int .i64 0] ∧ Box wr (w.heap.size + 1) 27 #[.int .i64 (1970 + (k : Int)), .int .i64 1, .int .i64 0]) (fun nn _ => (intOf nn).toNat)
  case atStart => exact ⟨0, by omega, by simp [dyZ], by simp [dyZ]; omega, hw1, b0, b1⟩
  case round =>
    obtain ⟨k, hk, rfl, hn, hB, hb0, hb1⟩ := hrel
    clear b0 b1 hw1
    have hs := dyZ_succ k
    have hyl := ylZ_pos (1970 + (k : Int))
    have hbd := dyZ_bd (k := k) (by omega)
    obtain ⟨c0, c1, c2, g0, g1, g2⟩ := hb1.three
    have HS := Lib.hid hs; have HB := Lib.hid hB; have H0 := Lib.hid hb0; have H1 := Lib.hid hb1
    have hlast := dyZ_last
    by_cases hge : ylZ (1970 + (k : Int)) ≤ n - dyZ k
    · have hk2 : k + 1 ≤ 8029 := by
        by_cases h29 : k = 8029
        · subst h29
          have h3 : dyZ (8029 + 1) = 2932897 := hlast
          omega
        · omega
      clear hs hB hb0 hb1 hlast
      go_wp2_with fail
      refine (yearR_any _ _).mono ?_
      rintro e w' ⟨rfl, rfl⟩
      obtain ⟨t0, t1⟩ := hyl
      generalize hL : ylZ (1970 + (k : Int)) = L at *
      have HYL := Lib.hid hL
      clear hL
      generalize hD : dyZ k = D at *
      have HD := Lib.hid hD
      clear hD
      have hge' : decide (L ≤ n - D) = true := by simpa using hge
      go_wp2_with fail
      refine (yearR_any _ _).mono ?_
      rintro e w' ⟨rfl, rfl⟩
      rw [HYL.out]
      go_wp2_with fail
      refine ⟨⟨k + 1, hk2, by rw [HS.out, Int.sub_sub], by rw [HS.out]; omega, HB.out.setCell (Nat.le_succ _) _, H0.out.far (by omega) _, ?_⟩, by have := HD.out; simp [intOf]; omega⟩
      rw [show (1970 + ((k + 1 : Nat) : Int)) = 1970 + (k : Int) + 1 by omega]
      exact H1.out.set 0 _
    · have hge' : decide (ylZ (1970 + (k : Int)) ≤ n - dyZ k) = false := by simpa using hge
      have hyr : n - dyZ k < ylZ (1970 + (k : Int)) := by omega
      clear hs hB hb0 hb1 hlast hge
      have hl1 := dmZ_year (1970 + (k : Int))
      rw [← hl1] at hyr
      have HY := Lib.hid hyr
      have HMS := Lib.hid (dmZ_succ (1970 + (k : Int)))
      have HMI := Lib.hid (fun j hj => @dmZ_in (1970 + (k : Int)) j hj)
      have HML := Lib.hid (fun m h1 h2 => @mlZ_in (1970 + (k : Int)) m h1 h2)
      have HAM := Lib.hid (atR_math n k)
      clear hyr hl1
      go_wp2_with fail
      refine (yearR_any _ _).mono ?_
      rintro e w' ⟨rfl, rfl⟩
      obtain ⟨t0, t1⟩ := hyl
      generalize hL : ylZ (1970 + (k : Int)) = L at *
      clear hL
      generalize hD : dyZ k = D at *
      have HD := Lib.hid hD
      clear hD
      go_wp2_with fail
      go_loopw [0] (fun nn wr => ∃ j : Nat, j ≤ 11 ∧ nn = .int .i64 (n - D - dmZ (1970 + (k : Int)) j) ∧ 0 ≤ n - D - dmZ (1970 + (k : Int)) j ∧ Below w.heap.size w wr ∧ Box wr w.heap.size 27 #[.int .i64 0, .int .i64 0, .int .i64 0] ∧ Box wr (w.heap.size + 1) 27 #[.int .i64 (1970 + (k : Int)), .int .i64 ((j : Int) + 1), .int .i64 0]) (fun nn _ => (intOf nn).toNat)
      case atStart => exact ⟨0, by omega, by simp [dmZ], by simp [dmZ]; omega, HB.out, H0.out, H1.out⟩
      case round =>
        clear c0 c1 c2 g0 g1 g2 HB H0 H1
        rename_i wr0
        obtain ⟨j, hj, rfl, hnj, hB, hb0, hb1⟩ := hrel
        have hs := HMS.out j
        obtain ⟨ml0, ml1⟩ := HML.out ((j : Int) + 1) (by omega) (by omega)
        obtain ⟨mi0, mi1⟩ := HMI.out j (by omega)
        obtain ⟨c0, c1, c2, g0, g1, g2⟩ := hb1.three
        obtain ⟨z0, z1, z2, f0, f1, f2⟩ := hb0.three
        have HS := Lib.hid hs; have HB := Lib.hid hB; have H0 := Lib.hid hb0; have H1 := Lib.hid hb1
        have HQ := HAM.out j hk hj
        clear hs hB hb0 hb1
        by_cases hge2 : mlZ (1970 + (k : Int)) ((j : Int) + 1) ≤ n - D - dmZ (1970 + (k : Int)) j
        · have hj2 : j + 1 ≤ 11 := by
            by_cases h11 : j = 11
            · subst h11
              have h3 := HY.out
              have h4 := HS.out
              rw [show (11 : Nat) + 1 = 12 by rfl] at h4
              omega
            · omega
          clear HQ
          go_wp2_with fail
          refine (longR_any _ _ _).mono ?_
          rintro e w' ⟨rfl, rfl⟩
          generalize hL : mlZ (1970 + (k : Int)) ((j : Int) + 1) = L2 at *
          have HL := Lib.hid hL
          clear hL
          generalize hM : dmZ (1970 + (k : Int)) j = M at *
          have HM := Lib.hid hM
          clear hM
          have hge' : decide (L2 ≤ n - D - M) = true := by simpa using hge2
          go_wp2_with fail
          refine (longR_any _ _ _).mono ?_
          rintro e w' ⟨rfl, rfl⟩
          rw [HL.out]
          go_wp2_with fail
          refine ⟨⟨j + 1, hj2, by rw [HS.out, ← Int.sub_sub], by rw [HS.out]; omega, HB.out.setCell (Nat.le_succ _) _, H0.out.far (by omega) _, ?_⟩, by have := HM.out; simp [intOf]; omega⟩
          rw [show (((j + 1 : Nat) : Int) + 1) = (j : Int) + 1 + 1 by omega]
          exact H1.out.set 1 _
        · have hge' : decide (mlZ (1970 + (k : Int)) ((j : Int) + 1) ≤ n - D - dmZ (1970 + (k : Int)) j) = false := by simpa using hge2
          have hq := HQ hnj (by omega)
          have HQ2 := Lib.hid hq
          clear HQ hq hge2
          go_wp2_with fail
          refine (longR_any _ _ _).mono ?_
          rintro e w' ⟨rfl, rfl⟩
          generalize mlZ (1970 + (k : Int)) ((j : Int) + 1) = L2 at *
          generalize dmZ (1970 + (k : Int)) j = M at *
          go_wp2_with fail
          refine bodyPost_ret (v := .agg #[.int .i64 (1970 + (k : Int)), .int .i64 ((j : Int) + 1), .int .i64 (n - D - M + 1)]) (by simp [results, Tryd.results33, go_sem, z0, z1, z2]) rfl ⟨_, _, _, rfl, HQ2.out.1, HQ2.out.2, ?_⟩
          exact (((HB.out.setCell (Nat.le_succ _) _).setCell (Nat.le_refl _) _).setCell (Nat.le_refl _) _).setCell (Nat.le_refl _) _
end Go.Proofs.YtnhbkfmaaannnaaDoor
