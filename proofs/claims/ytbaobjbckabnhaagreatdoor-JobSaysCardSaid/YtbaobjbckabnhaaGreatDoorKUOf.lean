/- Of: walked, of the program. -/
import Derived.Test.YtbaobjbckabnhaaGreatDoorKUCheck
import Derived.Test.YtbaobjbckabnhaaGreatDoorKUMem
namespace Go.Proofs.YtbaobjbckabnhaaGreatDoor
open Go.RowKit

/-- Read of texts, of whatever length. -/
theorem jread_any (s : List UInt8) (w : World) (hL : LaidC w) (hs : s.length ≤ maxLen) :
    Calls Tryz.prog 28 #[strV s] w fun x w' => (∃ p : Int, x = .returned (.tuple #[cronV ((readE s).1.getD nilF), .int .i64 p, .int .i64 (readE s).2])) ∧ Below w.heap.size w w' := by
  by_cases h : 256 < s.length
  · have e : readE s = (none, 3) := by unfold readE; rw [if_pos h]
    rw [e]
    have hz : (⟨s.toArray⟩ : ByteArray).size = s.length := by show s.toArray.size = _; simp
    refine (cread_long ⟨s.toArray⟩ w (by rw [hz]; exact hs) (by rw [hz]; exact h)).mono ?_
    rintro x w' ⟨rfl, hb⟩
    exact ⟨⟨0, rfl⟩, hb⟩
  · refine (cread_short s w hL (by omega)).mono ?_
    rintro x w' ⟨rfl, hb⟩
    refine ⟨?_, hb⟩
    cases hr : readC s with
    | mk o p =>
      cases o with
      | none =>
        have e : readE s = (none, 170) := by unfold readE; rw [if_neg h, hr]
        rw [e, creadV_none hr]
        exact ⟨p, rfl⟩
      | some l =>
        have e : readE s = (some l, 0) := by unfold readE; rw [if_neg h, hr]
        rw [e, creadV_some hr]
        exact ⟨0, rfl⟩
/-- A wish that comes in, a job for the answer, and one that is made. -/
theorem of_new (w : World) (n : Int) (s : List UInt8) (o : Bool) (t ov ca re : Int) : ∃ W : World, W = ((w.alloc (.cells #[.int .u32 n, .string ⟨s.toArray⟩, .int .i64 t, .int .i64 ov, .int .i64 ca, .int .i64 re] 26)).alloc (.cells #[.int .u32 0, .bool false, .int .u64 0, .int .u64 0, .int .u64 0, .int .u64 0, .int .u64 0, .int .i64 0, .int .i64 0, .int .i64 0, .int .i64 0] 33)).alloc (.cells #[.int .u32 n, .bool o, .int .u64 0, .int .u64 0, .int .u64 0, .int .u64 0, .int .u64 0, .int .i64 t, .int .i64 ov, .int .i64 ca, .int .i64 re] 33) ∧ Below w.heap.size w W ∧ WishAt W w.heap.size ⟨n, s, t, ov, ca, re⟩ ∧ JobAt W (w.heap.size + 1) zeroJ ∧ JobAt W (w.heap.size + 1 + 1) ⟨n, o, nilF, t, ov, ca, re⟩ ∧ W.heap.size = w.heap.size + 3 := by
  refine ⟨_, rfl, (((Below.refl _ w).alloc (Nat.le_refl _) _).alloc (by simp) _).alloc (by simp; omega) _, ((WishAt.new w n s t ov ca re).alloc _).alloc _, ?_, ?_, by simp⟩
  · have := (JobAt.new (w.alloc (.cells #[.int .u32 n, .string ⟨s.toArray⟩, .int .i64 t, .int .i64 ov, .int .i64 ca, .int .i64 re] 26)) 0 false 0#64 0#64 0#64 0#64 0#64 0 0 0 0)
    rw [World.size_alloc, U_zero] at this
    exact this.alloc _
  · have := (JobAt.new ((w.alloc (.cells #[.int .u32 n, .string ⟨s.toArray⟩, .int .i64 t, .int .i64 ov, .int .i64 ca, .int .i64 re] 26)).alloc (.cells #[.int .u32 0, .bool false, .int .u64 0, .int .u64 0, .int .u64 0, .int .u64 0, .int .u64 0, .int .i64 0, .int .i64 0, .int .i64 0, .int .i64 0] 33)) n o 0#64 0#64 0#64 0#64 0#64 t ov ca re)
    rw [World.size_alloc, World.size_alloc, U_zero] at this
    exact this
theorem set11_run {W : World} {g B : Nat} {w : World} {j : JobZ} (hj : JobAt W g j) (hb : Below B w W) (hg : B ≤ g) (n : Int) (o : Bool) (a b c d e : BitVec 64) (t ov ca re : Int) :
    ∃ W' : World, W' = set11V W g (.int .u32 n) (.bool o) (.int .u64 (U a)) (.int .u64 (U b)) (.int .u64 (U c)) (.int .u64 (U d)) (.int .u64 (U e)) (.int .i64 t) (.int .i64 ov) (.int .i64 ca) (.int .i64 re) ∧ JobAt W' g ⟨n, o, [a, b, c, d, e], t, ov, ca, re⟩ ∧ Below B w W' :=
  ⟨_, rfl, hj.set11 n o a b c d e t ov ca re, below_11 hb hg _ _ _ _ _ _ _ _ _ _ _⟩
set_option maxRecDepth 100000 in
set_option maxHeartbeats 2000000 in
theorem jof_empty (ev : List (BitVec 64) → Bool) (hev : EvIs ev) (n : Int) (t ov ca re : Int) (w : World) (hL : LaidC w) (hx : WishZ.Fit ⟨n, [], t, ov, ca, re⟩) :
    Calls Tryz.prog 10 #[wishV ⟨n, [], t, ov, ca, re⟩] w fun y w' => y = .returned (.tuple #[jobV (ofZ ev ⟨n, [], t, ov, ca, re⟩).1, .int .i64 (ofZ ev ⟨n, [], t, ov, ca, re⟩).2]) ∧ Below w.heap.size w w' := by
  have hj : JobZ.Fit ⟨n, true, [0#64, 0#64, 0#64, 0#64, 0#64], t, ov, ca, re⟩ := ⟨hx.1, hx.2, rfl⟩
  have HLIM := Lib.hid (fun W => limits_any _ W hj)
  have HHOLD := Lib.hid (fun A c W h => hold_any A c (limsZ n true t ov ca re) 5 W rfl (by omega) h)
  have HCK := Lib.hid (fun W hW => jcheck_any ev hev _ W hW hj)
  obtain ⟨W0, hW0, hb0, hw0, hr0, hj0, hs0⟩ := of_new w n [] true t ov ca re
  have HB0 := Lib.hid hb0; have HR0 := Lib.hid hr0; have HJ0 := Lib.hid hj0; have HL0 := Lib.hid hL; have HW0 := Lib.hid hw0
  rw [jobV_five] at HLIM HCK
  rw [wishV_six]
  unfold JobZ.lims at HLIM
  simp only at HLIM
  rw [U_zero] at HLIM HCK
  have HU : Hid (U 0#64 = 0) := Lib.hid U_zero
  cases hz : holdB (limsZ n true t ov ca re) with
  | false =>
    have h0 : ofZ ev ⟨n, [], t, ov, ca, re⟩ = (zeroJ, 200) := by unfold ofZ; rw [if_pos]; exact hz
    rw [h0]
    rw [hz] at HHOLD
    clear hev hj hx h0 hz hb0 hw0 hr0 hj0 hL
    go_enter Tryz.func10, Tryz.ntmps10
    go_wp2_with fail
    rw [← hW0]
    clear hW0
    refine (HLIM.out _).mono ?_
    rintro x w1 ⟨A, cp, rfl, hla, hb⟩
    have HB1 := Lib.hid (HB0.out.trans (hb.mono HB0.out.size)); have HR1 := Lib.hid (HR0.out.on hb); have HJ1 := Lib.hid (HJ0.out.on hb); have HW1 := Lib.hid (HW0.out.on hb)
    have HLA := Lib.hid hla
    clear hla hb HB0 HR0 HJ0 HW0
    go_wp2_with fail
    refine (HHOLD.out A cp _ HLA.out).mono ?_
    rintro x w2 ⟨rfl, hb⟩
    have HB2 := Lib.hid (HB1.out.trans (hb.mono HB1.out.size)); have HR2 := Lib.hid (HR1.out.on hb); have HJ2 := Lib.hid (HJ1.out.on hb); have HW2 := Lib.hid (HW1.out.on hb)
    clear hb HB1 HR1 HLA HJ1 HW1
    obtain ⟨c0, c1, c2, c3, c4, c5, c6, c7, c8, c9, c10⟩ := HR2.out.cells
    have f0 := HR2.out.frozen 0; have f1 := HR2.out.frozen 1; have f2 := HR2.out.frozen 2; have f3 := HR2.out.frozen 3; have f4 := HR2.out.frozen 4; have f5 := HR2.out.frozen 5; have f6 := HR2.out.frozen 6; have f7 := HR2.out.frozen 7; have f8 := HR2.out.frozen 8; have f9 := HR2.out.frozen 9; have f10 := HR2.out.frozen 10
    go_wp2_with fail
    obtain ⟨Wf, hWf, hjf, hbf⟩ := set11_run HR2.out HB2.out (Nat.le_succ _) 0 false 0#64 0#64 0#64 0#64 0#64 0 0 0 0
    unfold set11V at hWf
    rw [U_zero] at hWf
    rw [← hWf]
    clear hWf c0 c1 c2 c3 c4 c5 c6 c7 c8 c9 c10 f0 f1 f2 f3 f4 f5 f6 f7 f8 f9 f10
    obtain ⟨c0, c1, c2, c3, c4, c5, c6, c7, c8, c9, c10⟩ := hjf.cells
    exact bodyPost_ret (v := .tuple #[jobV zeroJ, .int .i64 200]) (by unfold zeroJ nilF; rw [jobV_five]; simp [results, Tryz.results10, go_sem, c0, c1, c2, c3, c4, c5, c6, c7, c8, c9, c10]) rfl ⟨rfl, hbf⟩
  | true =>
    have h0 : ofZ ev ⟨n, [], t, ov, ca, re⟩ = (⟨n, true, [0#64, 0#64, 0#64, 0#64, 0#64], t, ov, ca, re⟩, 0) := by
      unfold ofZ
      rw [if_neg (by show ¬ holdB (limsZ n true t ov ca re) = false; rw [hz]; simp), if_pos rfl]; rfl
    rw [h0]
    rw [hz] at HHOLD
    have hce : JobZ.err ev ⟨n, true, [0#64, 0#64, 0#64, 0#64, 0#64], t, ov, ca, re⟩ = 0 := err_once hz rfl rfl
    rw [hce] at HCK
    clear hev hj hx h0 hz hb0 hw0 hr0 hj0 hL hce
    go_enter Tryz.func10, Tryz.ntmps10
    go_wp2_with fail
    rw [← hW0]
    clear hW0
    refine (HLIM.out _).mono ?_
    rintro x w1 ⟨A, cp, rfl, hla, hb⟩
    have HB1 := Lib.hid (HB0.out.trans (hb.mono HB0.out.size)); have HR1 := Lib.hid (HR0.out.on hb); have HJ1 := Lib.hid (HJ0.out.on hb); have HW1 := Lib.hid (HW0.out.on hb)
    have HLA := Lib.hid hla
    clear hla hb HB0 HR0 HJ0 HW0
    go_wp2_with fail
    refine (HHOLD.out A cp _ HLA.out).mono ?_
    rintro x w2 ⟨rfl, hb⟩
    have HB2 := Lib.hid (HB1.out.trans (hb.mono HB1.out.size)); have HR2 := Lib.hid (HR1.out.on hb); have HJ2 := Lib.hid (HJ1.out.on hb); have HW2 := Lib.hid (HW1.out.on hb)
    clear hb HB1 HR1 HLA HJ1 HW1
    obtain ⟨c0, c1, c2, c3, c4, c5, c6, c7, c8, c9, c10⟩ := HJ2.out.cells
    simp only [HU.out] at c2 c3 c4 c5 c6
    go_wp2_with fail
    refine (HCK.out _ (HL0.out.on HB2.out)).mono ?_
    rintro x w3 ⟨rfl, hb⟩
    have HB3 := Lib.hid (HB2.out.trans (hb.mono HB2.out.size)); have HR3 := Lib.hid (HR2.out.on hb); have HJ3 := Lib.hid (HJ2.out.on hb)
    clear hb HB2 HR2 HJ2 HW2 HCK c0 c1 c2 c3 c4 c5 c6 c7 c8 c9 c10
    obtain ⟨d0, d1, d2, d3, d4, d5, d6, d7, d8, d9, d10⟩ := HJ3.out.cells
    simp only [HU.out] at d2 d3 d4 d5 d6
    obtain ⟨c0, c1, c2, c3, c4, c5, c6, c7, c8, c9, c10⟩ := HR3.out.cells
    have f0 := HR3.out.frozen 0; have f1 := HR3.out.frozen 1; have f2 := HR3.out.frozen 2; have f3 := HR3.out.frozen 3; have f4 := HR3.out.frozen 4; have f5 := HR3.out.frozen 5; have f6 := HR3.out.frozen 6; have f7 := HR3.out.frozen 7; have f8 := HR3.out.frozen 8; have f9 := HR3.out.frozen 9; have f10 := HR3.out.frozen 10
    go_wp2_with fail
    obtain ⟨Wf, hWf, hjf, hbf⟩ := set11_run HR3.out HB3.out (Nat.le_succ _) n true 0#64 0#64 0#64 0#64 0#64 t ov ca re
    unfold set11V at hWf
    rw [U_zero] at hWf
    rw [← hWf]
    clear hWf c0 c1 c2 c3 c4 c5 c6 c7 c8 c9 c10 f0 f1 f2 f3 f4 f5 f6 f7 f8 f9 f10
    obtain ⟨c0, c1, c2, c3, c4, c5, c6, c7, c8, c9, c10⟩ := hjf.cells
    exact bodyPost_ret (v := .tuple #[jobV ⟨n, true, [0#64, 0#64, 0#64, 0#64, 0#64], t, ov, ca, re⟩, .int .i64 0]) (by rw [jobV_five]; simp [results, Tryz.results10, go_sem, c0, c1, c2, c3, c4, c5, c6, c7, c8, c9, c10]) rfl ⟨rfl, hbf⟩
set_option maxRecDepth 100000 in
set_option maxHeartbeats 4000000 in
theorem jof_text (ev : List (BitVec 64) → Bool) (hev : EvIs ev) (n : Int) (b0 : UInt8) (r0 : List UInt8) (t ov ca re : Int) (w : World) (hL : LaidC w) (hx : WishZ.Fit ⟨n, b0 :: r0, t, ov, ca, re⟩) (hs : (b0 :: r0).length ≤ maxLen) :
    Calls Tryz.prog 10 #[wishV ⟨n, b0 :: r0, t, ov, ca, re⟩] w fun y w' => y = .returned (.tuple #[jobV (ofZ ev ⟨n, b0 :: r0, t, ov, ca, re⟩).1, .int .i64 (ofZ ev ⟨n, b0 :: r0, t, ov, ca, re⟩).2]) ∧ Below w.heap.size w w' := by
  have hj : JobZ.Fit ⟨n, false, [0#64, 0#64, 0#64, 0#64, 0#64], t, ov, ca, re⟩ := ⟨hx.1, hx.2, rfl⟩
  have HLIM := Lib.hid (fun W => limits_any _ W hj)
  have HHOLD := Lib.hid (fun A c W h => hold_any A c (limsZ n false t ov ca re) 5 W rfl (by omega) h)
  have HRD := Lib.hid (fun W hW => jread_any (b0 :: r0) W hW hs)
  have HCK := Lib.hid (fun a b c d e W hW => jcheck_any ev hev ⟨n, false, [a, b, c, d, e], t, ov, ca, re⟩ W hW ⟨hx.1, hx.2, rfl⟩)
  obtain ⟨W0, hW0, hbw, hw0, hr0, hj0, hs0⟩ := of_new w n (b0 :: r0) false t ov ca re
  have HB0 := Lib.hid hbw; have HR0 := Lib.hid hr0; have HJ0 := Lib.hid hj0; have HL0 := Lib.hid hL; have HW0 := Lib.hid hw0
  have hof : ofZ ev ⟨n, b0 :: r0, t, ov, ca, re⟩ = if holdB (limsZ n false t ov ca re) = false then (zeroJ, 200) else match readE (b0 :: r0) with
    | (none, e) => (zeroJ, e)
    | (some l, _) => if ev l = false then (zeroJ, 201) else (⟨n, false, l, t, ov, ca, re⟩, 0) := rfl
  obtain ⟨J, E, hJE⟩ : ∃ J E, ofZ ev ⟨n, b0 :: r0, t, ov, ca, re⟩ = (J, E) := ⟨_, _, rfl⟩
  rw [hJE] at hof ⊢
  clear hJE
  have HO1 : Hid (holdB (limsZ n false t ov ca re) = false → J = zeroJ ∧ E = 200) := Lib.hid (fun h => by
    rw [if_pos h] at hof; cases hof; exact ⟨rfl, rfl⟩)
  have HO2 : Hid (holdB (limsZ n false t ov ca re) = true → ∀ e, readE (b0 :: r0) = (none, e) → J = zeroJ ∧ E = e) := Lib.hid (fun h e h2 => by
    rw [if_neg (by rw [h]; simp), h2] at hof; cases hof; exact ⟨rfl, rfl⟩)
  have HO3 : Hid (holdB (limsZ n false t ov ca re) = true → ∀ l e, readE (b0 :: r0) = (some l, e) → ev l = false → J = zeroJ ∧ E = 201) := Lib.hid (fun h l e h2 h3 => by
    rw [if_neg (by rw [h]; simp), h2] at hof; simp only [h3, if_true] at hof; cases hof; exact ⟨rfl, rfl⟩)
  have HO4 : Hid (holdB (limsZ n false t ov ca re) = true → ∀ l e, readE (b0 :: r0) = (some l, e) → ev l = true → J = ⟨n, false, l, t, ov, ca, re⟩ ∧ E = 0) := Lib.hid (fun h l e h2 h3 => by
    rw [if_neg (by rw [h]; simp), h2] at hof; simp only [h3, Bool.true_eq_false, if_false] at hof; cases hof; exact ⟨rfl, rfl⟩)
  clear hof
  have HRS : Hid (∀ l e, readE (b0 :: r0) = (some l, e) → e = 0 ∧ l.length = 5 ∧ crB l = true) := Lib.hid (fun l e h => by
    obtain ⟨p, q, r, _⟩ := readE_some h
    exact ⟨p, q, r⟩)
  have HRN : Hid (∀ e, readE (b0 :: r0) = (none, e) → e ≠ 0) := Lib.hid (fun e h => by
    rcases readE_none h with ⟨_, rfl⟩ | ⟨_, rfl, _⟩ <;> omega)
  rw [jobV_five] at HLIM
  rw [wishV_six]
  unfold JobZ.lims at HLIM
  simp only at HLIM
  rw [U_zero] at HLIM
  unfold strV at HRD
  have HU : Hid (U 0#64 = 0) := Lib.hid U_zero
  generalize hs1 : b0 :: r0 = s at *
  have hne : s ≠ [] := by rw [← hs1]; simp
  have hie : s.isEmpty = false := by rw [← hs1]; rfl
  have hsb : ((⟨s.toArray⟩ : ByteArray) == ⟨#[]⟩) = false := by rw [← hs1]; rfl
  cases hz : holdB (limsZ n false t ov ca re) with
  | false =>
    rw [hz] at HHOLD
    have HE := Lib.hid (HO1.out hz)
    clear hev hj hx hz hbw hw0 hr0 hj0 hL hs1 HO1 HO2 HO3 HO4
    go_enter Tryz.func10, Tryz.ntmps10
    go_wp2_with fail
    rw [← hW0]
    clear hW0
    refine (HLIM.out _).mono ?_
    rintro x w1 ⟨A, cp, rfl, hla, hb⟩
    have HB1 := Lib.hid (HB0.out.trans (hb.mono HB0.out.size)); have HR1 := Lib.hid (HR0.out.on hb); have HJ1 := Lib.hid (HJ0.out.on hb); have HW1 := Lib.hid (HW0.out.on hb)
    have HLA := Lib.hid hla
    clear hla hb HB0 HR0 HJ0 HW0
    go_wp2_with fail
    refine (HHOLD.out A cp _ HLA.out).mono ?_
    rintro x w2 ⟨rfl, hb⟩
    have HB2 := Lib.hid (HB1.out.trans (hb.mono HB1.out.size)); have HR2 := Lib.hid (HR1.out.on hb); have HJ2 := Lib.hid (HJ1.out.on hb); have HW2 := Lib.hid (HW1.out.on hb)
    clear hb HB1 HR1 HLA HJ1 HW1
    obtain ⟨c0, c1, c2, c3, c4, c5, c6, c7, c8, c9, c10⟩ := HR2.out.cells
    have f0 := HR2.out.frozen 0; have f1 := HR2.out.frozen 1; have f2 := HR2.out.frozen 2; have f3 := HR2.out.frozen 3; have f4 := HR2.out.frozen 4; have f5 := HR2.out.frozen 5; have f6 := HR2.out.frozen 6; have f7 := HR2.out.frozen 7; have f8 := HR2.out.frozen 8; have f9 := HR2.out.frozen 9; have f10 := HR2.out.frozen 10
    go_wp2_with fail
    obtain ⟨Wf, hWf, hjf, hbf⟩ := set11_run HR2.out HB2.out (Nat.le_succ _) 0 false 0#64 0#64 0#64 0#64 0#64 0 0 0 0
    unfold set11V at hWf
    rw [U_zero] at hWf
    rw [← hWf]
    clear hWf c0 c1 c2 c3 c4 c5 c6 c7 c8 c9 c10 f0 f1 f2 f3 f4 f5 f6 f7 f8 f9 f10
    obtain ⟨c0, c1, c2, c3, c4, c5, c6, c7, c8, c9, c10⟩ := hjf.cells
    exact bodyPost_ret (v := .tuple #[jobV zeroJ, .int .i64 200]) (by unfold zeroJ nilF; rw [jobV_five]; simp [results, Tryz.results10, go_sem, c0, c1, c2, c3, c4, c5, c6, c7, c8, c9, c10]) rfl ⟨by rw [HE.out.1, HE.out.2], hbf⟩
  | true =>
    rw [hz] at HHOLD
    have HHZ := Lib.hid hz
    replace HO2 := Lib.hid (HO2.out hz); replace HO3 := Lib.hid (HO3.out hz); replace HO4 := Lib.hid (HO4.out hz)
    clear hj hx hz hbw hw0 hr0 hj0 hL hs1 hev HO1
    go_enter Tryz.func10, Tryz.ntmps10
    go_wp2_with fail
    rw [← hW0]
    clear hW0
    refine (HLIM.out _).mono ?_
    rintro x w1 ⟨A, cp, rfl, hla, hb⟩
    have HB1 := Lib.hid (HB0.out.trans (hb.mono HB0.out.size)); have HR1 := Lib.hid (HR0.out.on hb); have HJ1 := Lib.hid (HJ0.out.on hb); have HW1 := Lib.hid (HW0.out.on hb)
    have HLA := Lib.hid hla
    clear hla hb HB0 HR0 HJ0 HW0
    go_wp2_with fail
    refine (HHOLD.out A cp _ HLA.out).mono ?_
    rintro x w2 ⟨rfl, hb⟩
    have HB2 := Lib.hid (HB1.out.trans (hb.mono HB1.out.size)); have HR2 := Lib.hid (HR1.out.on hb); have HJ2 := Lib.hid (HJ1.out.on hb); have HW2 := Lib.hid (HW1.out.on hb)
    clear hb HB1 HR1 HLA HJ1 HW1
    obtain ⟨c0, c1, c2, c3, c4, c5, c6, c7, c8, c9, c10⟩ := HJ2.out.cells
    simp only [HU.out] at c2 c3 c4 c5 c6
    obtain ⟨e0, e1, e2, e3, e4, e5⟩ := HW2.out.cells
    go_wp2_with fail
    refine (HRD.out _ (HL0.out.on HB2.out)).mono ?_
    rintro x w3 ⟨⟨p, rfl⟩, hb⟩
    have HB3 := Lib.hid (HB2.out.trans (hb.mono HB2.out.size)); have HR3 := Lib.hid (HR2.out.on hb); have HJ3 := Lib.hid (HJ2.out.on hb)
    clear hb HB2 HR2 HJ2 HW2 HRD c0 c1 c2 c3 c4 c5 c6 c7 c8 c9 c10 e0 e1 e2 e3 e4 e5
    cases hre : readE s with
    | mk q ez =>
      cases q with
      | none =>
        have hez := HRN.out ez hre
        have hez2 : (ez != 0) = true := by simpa using hez
        have HE := Lib.hid (HO2.out ez hre)
        have hc0 : cronV ((none : Option (List (BitVec 64))).getD nilF) = .agg #[.int .u64 0, .int .u64 0, .int .u64 0, .int .u64 0, .int .u64 0] := by
          show Value.agg #[.int .u64 (U 0#64), .int .u64 (U 0#64), .int .u64 (U 0#64), .int .u64 (U 0#64), .int .u64 (U 0#64)] = _
          rw [HU.out]
        simp only [hc0]
        have HB4 := Lib.hid (HB3.out.alloc HB3.out.size (.cells #[.int .u64 0, .int .u64 0, .int .u64 0, .int .u64 0, .int .u64 0] 31))
        have HR4 := Lib.hid (HR3.out.alloc (.cells #[.int .u64 0, .int .u64 0, .int .u64 0, .int .u64 0, .int .u64 0] 31))
        clear hre HRS HRN hc0 HR3 HB3 HJ3 HCK HO2 HO3 HO4
        obtain ⟨c0, c1, c2, c3, c4, c5, c6, c7, c8, c9, c10⟩ := HR4.out.cells
        have f0 := HR4.out.frozen 0; have f1 := HR4.out.frozen 1; have f2 := HR4.out.frozen 2; have f3 := HR4.out.frozen 3; have f4 := HR4.out.frozen 4; have f5 := HR4.out.frozen 5; have f6 := HR4.out.frozen 6; have f7 := HR4.out.frozen 7; have f8 := HR4.out.frozen 8; have f9 := HR4.out.frozen 9; have f10 := HR4.out.frozen 10
        go_wp2_with fail
        obtain ⟨Wf, hWf, hjf, hbf⟩ := set11_run HR4.out HB4.out (Nat.le_succ _) 0 false 0#64 0#64 0#64 0#64 0#64 0 0 0 0
        unfold set11V at hWf
        rw [U_zero] at hWf
        rw [← hWf]
        clear hWf c0 c1 c2 c3 c4 c5 c6 c7 c8 c9 c10 f0 f1 f2 f3 f4 f5 f6 f7 f8 f9 f10
        obtain ⟨c0, c1, c2, c3, c4, c5, c6, c7, c8, c9, c10⟩ := hjf.cells
        exact bodyPost_ret (v := .tuple #[jobV zeroJ, .int .i64 ez]) (by unfold zeroJ nilF; rw [jobV_five]; simp [results, Tryz.results10, go_sem, c0, c1, c2, c3, c4, c5, c6, c7, c8, c9, c10]) rfl ⟨by rw [HE.out.1, HE.out.2], hbf⟩
      | some l =>
        obtain ⟨rfl, hl5, hlc⟩ := HRS.out l ez hre
        have HE1 := Lib.hid (HO3.out l 0 hre); have HE2 := Lib.hid (HO4.out l 0 hre)
        clear HRS HRN hre HO2 HO3 HO4
        obtain ⟨p0, p1, p2, p3, p4, rfl⟩ := list_five hl5
        have hc0 : cronV ((some [p0, p1, p2, p3, p4] : Option (List (BitVec 64))).getD nilF) = .agg #[.int .u64 (U p0), .int .u64 (U p1), .int .u64 (U p2), .int .u64 (U p3), .int .u64 (U p4)] := rfl
        simp only [hc0]
        have hn1 := (@err_never ev ⟨n, false, [p0, p1, p2, p3, p4], t, ov, ca, re⟩) HHZ.out rfl hlc
        have hn2 := (@err_ever ev ⟨n, false, [p0, p1, p2, p3, p4], t, ov, ca, re⟩) HHZ.out rfl hlc
        have HN1 := Lib.hid hn1; have HN2 := Lib.hid hn2
        have HC := Lib.hid (HCK.out p0 p1 p2 p3 p4)
        rw [jobV_five] at HC
        clear hn1 hn2 hl5 hlc hc0 HCK
        obtain ⟨w4, hw4, hb4, hc4⟩ : ∃ W : World, W = w3.alloc (.cells #[.int .u64 (U p0), .int .u64 (U p1), .int .u64 (U p2), .int .u64 (U p3), .int .u64 (U p4)] 31) ∧ Below w3.heap.size w3 W ∧ CronAt W w3.heap.size [p0, p1, p2, p3, p4] := ⟨_, rfl, (Below.refl _ w3).alloc (Nat.le_refl _) _, CronAt.new w3 p0 p1 p2 p3 p4⟩
        have HB4 := Lib.hid (HB3.out.trans (hb4.mono HB3.out.size)); have HR4 := Lib.hid (HR3.out.on hb4); have HJ4 := Lib.hid (HJ3.out.on hb4)
        obtain ⟨x0, x1, x2, x3, x4⟩ := hc4.five
        obtain ⟨c0, c1, c2, c3, c4, c5, c6, c7, c8, c9, c10⟩ := HJ4.out.cells
        have f0 := HJ4.out.frozen 0; have f1 := HJ4.out.frozen 1; have f2 := HJ4.out.frozen 2; have f3 := HJ4.out.frozen 3; have f4 := HJ4.out.frozen 4; have f5 := HJ4.out.frozen 5; have f6 := HJ4.out.frozen 6; have f7 := HJ4.out.frozen 7; have f8 := HJ4.out.frozen 8; have f9 := HJ4.out.frozen 9; have f10 := HJ4.out.frozen 10
        clear hb4 hc4 HR3 HB3 HJ3
        rw [hw4] at c0 c1 c2 c3 c4 c5 c6 c7 c8 c9 c10 f0 f1 f2 f3 f4 f5 f6 f7 f8 f9 f10 x0 x1 x2 x3 x4
        go_wp2_with fail
        rw [← hw4]
        have hbx := below_C (g := w.heap.size + 1 + 1) HB4.out (by omega) (.int .u64 (U p0)) (.int .u64 (U p1)) (.int .u64 (U p2)) (.int .u64 (U p3)) (.int .u64 (U p4))
        have hjx : JobAt (setCV w4 (w.heap.size + 1 + 1) (.int .u64 (U p0)) (.int .u64 (U p1)) (.int .u64 (U p2)) (.int .u64 (U p3)) (.int .u64 (U p4))) (w.heap.size + 1 + 1) ⟨n, false, [p0, p1, p2, p3, p4], t, ov, ca, re⟩ := JobAt.setC (a := 0#64) (b := 0#64) (c := 0#64) (d := 0#64) (e := 0#64) HJ4.out p0 p1 p2 p3 p4
        have hrx : JobAt (setCV w4 (w.heap.size + 1 + 1) (.int .u64 (U p0)) (.int .u64 (U p1)) (.int .u64 (U p2)) (.int .u64 (U p3)) (.int .u64 (U p4))) (w.heap.size + 1) zeroJ := ⟨rfl, far_C HR4.out.2 (by omega) _ _ _ _ _⟩
        obtain ⟨w5, hw5⟩ : ∃ W, W = setCV w4 (w.heap.size + 1 + 1) (.int .u64 (U p0)) (.int .u64 (U p1)) (.int .u64 (U p2)) (.int .u64 (U p3)) (.int .u64 (U p4)) := ⟨_, rfl⟩
        rw [← hw5] at hbx hjx hrx
        have HB5 := Lib.hid hbx; have HJ5 := Lib.hid hjx; have HR5 := Lib.hid hrx
        unfold setCV at hw5
        rw [← hw5]
        clear hw5 hw4 hbx hjx hrx x0 x1 x2 x3 x4 c0 c1 c2 c3 c4 c5 c6 c7 c8 c9 c10 f0 f1 f2 f3 f4 f5 f6 f7 f8 f9 f10 HB4 HJ4 HR4
        refine (HC.out _ (HL0.out.on HB5.out)).mono ?_
        rintro x w6 ⟨rfl, hb⟩
        have HB6 := Lib.hid (HB5.out.trans (hb.mono HB5.out.size)); have HR6 := Lib.hid (HR5.out.on hb); have HJ6 := Lib.hid (HJ5.out.on hb)
        clear hb HB5 HR5 HJ5 HC
        cases hev : ev [p0, p1, p2, p3, p4] with
        | false =>
          have HE := Lib.hid (HE1.out hev)
          have hz1 := HN1.out hev
          rw [hz1]
          clear hev hz1 HE1 HE2 HN1 HN2
          obtain ⟨c0, c1, c2, c3, c4, c5, c6, c7, c8, c9, c10⟩ := HR6.out.cells
          have f0 := HR6.out.frozen 0; have f1 := HR6.out.frozen 1; have f2 := HR6.out.frozen 2; have f3 := HR6.out.frozen 3; have f4 := HR6.out.frozen 4; have f5 := HR6.out.frozen 5; have f6 := HR6.out.frozen 6; have f7 := HR6.out.frozen 7; have f8 := HR6.out.frozen 8; have f9 := HR6.out.frozen 9; have f10 := HR6.out.frozen 10
          go_wp2_with fail
          obtain ⟨Wf, hWf, hjf, hbf⟩ := set11_run HR6.out HB6.out (Nat.le_succ _) 0 false 0#64 0#64 0#64 0#64 0#64 0 0 0 0
          unfold set11V at hWf
          rw [U_zero] at hWf
          rw [← hWf]
          clear hWf c0 c1 c2 c3 c4 c5 c6 c7 c8 c9 c10 f0 f1 f2 f3 f4 f5 f6 f7 f8 f9 f10
          obtain ⟨c0, c1, c2, c3, c4, c5, c6, c7, c8, c9, c10⟩ := hjf.cells
          exact bodyPost_ret (v := .tuple #[jobV zeroJ, .int .i64 201]) (by unfold zeroJ nilF; rw [jobV_five]; simp [results, Tryz.results10, go_sem, c0, c1, c2, c3, c4, c5, c6, c7, c8, c9, c10]) rfl ⟨by rw [HE.out.1, HE.out.2], hbf⟩
        | true =>
          have HE := Lib.hid (HE2.out hev)
          have hz1 := HN2.out hev
          rw [hz1]
          clear hev hz1 HE1 HE2 HN1 HN2
          obtain ⟨d0, d1, d2, d3, d4, d5, d6, d7, d8, d9, d10⟩ := HJ6.out.cells
          obtain ⟨c0, c1, c2, c3, c4, c5, c6, c7, c8, c9, c10⟩ := HR6.out.cells
          have f0 := HR6.out.frozen 0; have f1 := HR6.out.frozen 1; have f2 := HR6.out.frozen 2; have f3 := HR6.out.frozen 3; have f4 := HR6.out.frozen 4; have f5 := HR6.out.frozen 5; have f6 := HR6.out.frozen 6; have f7 := HR6.out.frozen 7; have f8 := HR6.out.frozen 8; have f9 := HR6.out.frozen 9; have f10 := HR6.out.frozen 10
          go_wp2_with fail
          obtain ⟨Wf, hWf, hjf, hbf⟩ := set11_run HR6.out HB6.out (Nat.le_succ _) n false p0 p1 p2 p3 p4 t ov ca re
          unfold set11V at hWf

          rw [← hWf]
          clear hWf c0 c1 c2 c3 c4 c5 c6 c7 c8 c9 c10 f0 f1 f2 f3 f4 f5 f6 f7 f8 f9 f10
          obtain ⟨c0, c1, c2, c3, c4, c5, c6, c7, c8, c9, c10⟩ := hjf.cells
          exact bodyPost_ret (v := .tuple #[jobV ⟨n, false, [p0, p1, p2, p3, p4], t, ov, ca, re⟩, .int .i64 0]) (by rw [jobV_five]; simp [results, Tryz.results10, go_sem, c0, c1, c2, c3, c4, c5, c6, c7, c8, c9, c10]) rfl ⟨by rw [HE.out.1, HE.out.2], hbf⟩
end Go.Proofs.YtbaobjbckabnhaaGreatDoor
