/- JobSays: the jobs that wishes say: walked. -/
import Derived.Test.YtbaobjbckabnhaaGreatDoorKUWakes
import Derived.Test.YtbaobjbckabnhaaGreatDoorKUCut
import Derived.Test.YtbaobjbckabnhaaGreatDoorKUROf
namespace Go.Proofs.YtbaobjbckabnhaaGreatDoor
open Go.RowKit

/-- What a job of whatever numbers stands as. -/
theorem of_five {ev : List (BitVec 64) → Bool} (x : WishZ) (hx : x.Fit) : (ofZ ev x).1.L.length = 5 := by
  cases h : ofZ ev x with
  | mk J E =>
    by_cases he : E = 0
    · subst he
      exact (of_ok hx h).1.2.2
    · rw [of_bad h he]; rfl
set_option maxRecDepth 100000 in
set_option maxHeartbeats 4000000 in
theorem jsays_walk (A : Option Addr) (n ca : Nat) (w : World) (hL : LaidC w) (hn : n ≤ maxLen) (hd : WishesAt w w.heap.size A n) :
    Calls Tryz.prog 3 #[.slice A n ca] w fun e w' => e = .returned (.bool true) ∧ Below w.heap.size w w' := by
  unfold maxLen at hn
  obtain ⟨ev, hev⟩ := ev_is
  have HWK := Lib.hid (fun W hW => jwakes_any ev hev W hW)
  have HCUT := Lib.hid (fun x W hs => jcut_any x W hs)
  have HOF := Lib.hid (fun x W hW h1 h2 => jof_any ev hev x W hW h1 h2)
  have HRO := Lib.hid (fun x W h1 => rof10_any ev hev x W h1)
  have H5 := Lib.hid (fun x hx => @of_five ev x hx)
  have HL := Lib.hid hL; have HD := Lib.hid hd
  clear hL hd hev
  go_enter Tryz.func3, Tryz.ntmps3
  go_wp2_with fail
  refine (HWK.out w HL.out).mono ?_
  rintro x w1 ⟨rfl, hb⟩
  have HB1 := Lib.hid hb
  clear hb
  go_wp2_with fail
  go_loopw [3, 4, 5, 6, 7, 8, 13] (fun _ _ _ _ _ _ i wr => ∃ k : Nat, k ≤ n ∧ i = .int .i64 (k : Int) ∧ Below w.heap.size w wr) (fun _ _ _ _ _ _ i _ => n - (intOf i).toNat)
  case atStart => exact ⟨0, Nat.zero_le _, rfl, HB1.out⟩
  case round =>
    clear HB1
    obtain ⟨k, hk, rfl, hb⟩ := hrel
    have HB := Lib.hid hb
    clear hb
    by_cases hlt : k < n
    · obtain ⟨b, off, z, rfl, hlb, hzf, hzs, c0, c1, c2, c3, c4, c5⟩ := (HD.out.on HB.out) k hlt
      obtain ⟨xn, xs, xt, xov, xca, xre⟩ := z
      unfold strV at c1
      simp only at c0 c1 c2 c3 c4 c5
      by_cases h6 : k = 6
      · subst h6
        rw [show ((6 : Nat) : Int) = 6 by rfl]
        simp only [show (6 : Nat) * 6 = 36 by rfl] at c0 c1 c2 c3 c4 c5
        go_wp2_with fail
        go_ret
        exact ⟨rfl, HB.out.alloc HB.out.size _⟩
      · have h6' : ((k : Int) == 6) = false := by simp; omega
        obtain ⟨w2, hw2, hb2, hx2, _⟩ := wish_new wr xn xs xt xov xca xre
        have HB2 := Lib.hid (HB.out.trans (hb2.mono HB.out.size)); have HX2 := Lib.hid hx2
        have hlo := HB.out.size
        have HC := Lib.hid (fun W => HCUT.out ⟨xn, xs, xt, xov, xca, xre⟩ W hzs)
        have hcf : WishZ.Fit (WishZ.cut ⟨xn, xs, xt, xov, xca, xre⟩) := ⟨hzf.1, hzf.2⟩
        have hcl : (WishZ.cut ⟨xn, xs, xt, xov, xca, xre⟩).s.length ≤ maxLen := by have := cutW_len ⟨xn, xs, xt, xov, xca, xre⟩; unfold maxLen; omega
        have HO := Lib.hid (fun W hW => HOF.out _ W hW hcf hcl)
        have HR := Lib.hid (fun W => HRO.out _ W hcf)
        have h5 := H5.out _ hcf
        unfold WishZ.cut at HC HO HR h5
        simp only at HC HO HR h5
        generalize xs.take 260 = ux at *
        generalize ofZ ev ⟨xn, ux, xt, xov, xca, xre⟩ = r at *
        obtain ⟨J, E⟩ := r
        simp only at HO HR h5
        obtain ⟨jn, jo, jL, jt, jov, jca, jre⟩ := J
        simp only at h5
        obtain ⟨q0, q1, q2, q3, q4, rfl⟩ := list_five h5
        rw [wishV_six] at HC HO HR
        rw [wishV_six] at HC
        rw [jobV_five] at HO HR
        obtain ⟨r0, r1, r2, r3, r4, r5⟩ := HX2.out.cells
        rw [hw2] at r0 r1 r2 r3 r4 r5
        clear hb2 hx2 hcf hcl h5 hzf hzs
        go_wp2_with fail
        rw [← hw2]
        clear hw2 r0 r1 r2 r3 r4 r5 c0 c1 c2 c3 c4 c5
        refine (HC.out _).mono ?_
        rintro x w3 ⟨rfl, hb⟩
        have HB3 := Lib.hid (HB2.out.trans (hb.mono HB2.out.size)); have HX3 := Lib.hid (HX2.out.on hb)
        clear hb HB2 HX2 HC
        obtain ⟨r0, r1, r2, r3, r4, r5⟩ := HX3.out.cells
        have g0 := HX3.out.frozen 0; have g1 := HX3.out.frozen 1; have g2 := HX3.out.frozen 2; have g3 := HX3.out.frozen 3; have g4 := HX3.out.frozen 4; have g5 := HX3.out.frozen 5
        go_wp2_with fail
        obtain ⟨w4, hw4, hx4, hb4⟩ := set6_run HX3.out HB3.out hlo xn ux xt xov xca xre
        unfold set6V at hw4
        rw [← hw4]
        have HB4 := Lib.hid hb4; have HX4 := Lib.hid hx4
        clear hw4 hb4 hx4 r0 r1 r2 r3 r4 r5 g0 g1 g2 g3 g4 g5 HB3 HX3
        refine (HO.out _ (HL.out.on HB4.out)).mono ?_
        rintro x w5 ⟨rfl, hb⟩
        obtain ⟨w6, hw6, hb6, hj6, _⟩ := job_new w5 jn jo q0 q1 q2 q3 q4 jt jov jca jre
        have HB6 := Lib.hid ((HB4.out.trans (hb.mono HB4.out.size)).trans (hb6.mono (Nat.le_trans HB4.out.size hb.size))); have HX6 := Lib.hid ((HX4.out.on hb).on hb6); have HJ6 := Lib.hid hj6
        clear hb hb6 hj6 HB4 HX4 HO
        obtain ⟨r0, r1, r2, r3, r4, r5⟩ := HX6.out.cells
        rw [hw6] at r0 r1 r2 r3 r4 r5
        go_wp2_with fail
        rw [← hw6]
        clear hw6 r0 r1 r2 r3 r4 r5
        refine (HR.out _).mono ?_
        rintro x w7 ⟨rfl, hb⟩
        obtain ⟨w8, hw8, hb8, hj8, _⟩ := job_new w7 jn jo q0 q1 q2 q3 q4 jt jov jca jre
        have HB8 := Lib.hid ((HB6.out.trans (hb.mono HB6.out.size)).trans (hb8.mono (Nat.le_trans HB6.out.size hb.size)))
        obtain ⟨c0, c1, c2, c3, c4, c5, c6, c7, c8, c9, c10⟩ := ((HJ6.out.on hb).on hb8).cells
        obtain ⟨d0, d1, d2, d3, d4, d5, d6, d7, d8, d9, d10⟩ := hj8.cells
        rw [hw8] at c0 c1 c2 c3 c4 c5 c6 c7 c8 c9 c10 d0 d1 d2 d3 d4 d5 d6 d7 d8 d9 d10
        clear hb hb8 hj8 HB6 HX6 HJ6 HR
        go_wp2_with fail
        rw [← hw8]
        go_roundw
        case rel => exact ⟨k + 1, by omega, by go_num, HB8.out⟩
        case measure => simp [intOf]; omega
    · go_wp2_with fail
      go_ret
      exact ⟨rfl, HB.out⟩
end Go.Proofs.YtbaobjbckabnhaaGreatDoor
