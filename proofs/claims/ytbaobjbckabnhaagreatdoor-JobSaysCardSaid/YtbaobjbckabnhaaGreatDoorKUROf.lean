/- The document's Of: walked. -/
import Derived.Test.YtbaobjbckabnhaaGreatDoorKURef
import Derived.Test.YtbaobjbckabnhaaGreatDoorKUWish
namespace Go.Proofs.YtbaobjbckabnhaaGreatDoor
open Go.RowKit

theorem str_ne {s : List UInt8} (h : s ≠ []) : ((⟨s.toArray⟩ : ByteArray) == ⟨#[]⟩) = false := by
  cases s with
  | nil => exact absurd rfl h
  | cons b r => rfl
theorem rof_new (w : World) (n : Int) (s : List UInt8) (t ov ca re : Int) : ∃ W : World, W = ((w.alloc (.cells #[.int .u32 n, .string ⟨s.toArray⟩, .int .i64 t, .int .i64 ov, .int .i64 ca, .int .i64 re] 26)).alloc (.cells #[.int .u32 0, .bool false, .int .u64 0, .int .u64 0, .int .u64 0, .int .u64 0, .int .u64 0, .int .i64 0, .int .i64 0, .int .i64 0, .int .i64 0] 33)).alloc (.cells #[.int .u32 n, .bool false, .int .u64 0, .int .u64 0, .int .u64 0, .int .u64 0, .int .u64 0, .int .i64 0, .int .i64 ov, .int .i64 ca, .int .i64 re] 33) ∧ Below w.heap.size w W ∧ WishAt W w.heap.size ⟨n, s, t, ov, ca, re⟩ ∧ JobAt W (w.heap.size + 1) zeroJ ∧ JobAt W (w.heap.size + 1 + 1) ⟨n, false, nilF, 0, ov, ca, re⟩ ∧ W.heap.size = w.heap.size + 3 := by
  refine ⟨_, rfl, (((Below.refl _ w).alloc (Nat.le_refl _) _).alloc (by simp) _).alloc (by simp; omega) _, ((WishAt.new w n s t ov ca re).alloc _).alloc _, ?_, ?_, by simp⟩
  · have := (JobAt.new (w.alloc (.cells #[.int .u32 n, .string ⟨s.toArray⟩, .int .i64 t, .int .i64 ov, .int .i64 ca, .int .i64 re] 26)) 0 false 0#64 0#64 0#64 0#64 0#64 0 0 0 0)
    rw [World.size_alloc, U_zero] at this
    exact this.alloc _
  · have := (JobAt.new ((w.alloc (.cells #[.int .u32 n, .string ⟨s.toArray⟩, .int .i64 t, .int .i64 ov, .int .i64 ca, .int .i64 re] 26)).alloc (.cells #[.int .u32 0, .bool false, .int .u64 0, .int .u64 0, .int .u64 0, .int .u64 0, .int .u64 0, .int .i64 0, .int .i64 0, .int .i64 0, .int .i64 0] 33)) n false 0#64 0#64 0#64 0#64 0#64 0 ov ca re)
    rw [World.size_alloc, World.size_alloc, U_zero] at this
    exact this
theorem JobAt.setTwo {w : World} {g : Nat} {n : Int} {o : Bool} {a b c d e : BitVec 64} {t ov ca re : Int} (h : JobAt w g ⟨n, o, [a, b, c, d, e], t, ov, ca, re⟩) (o' : Bool) (t' : Int) :
    JobAt ((w.setCell ⟨g, 1, none⟩ (.bool o')).setCell ⟨g, 7, none⟩ (.int .i64 t')).drew g ⟨n, o', [a, b, c, d, e], t', ov, ca, re⟩ := by
  have hb : D.Box w g 33 #[.int .u32 n, .bool o, .int .u64 (U a), .int .u64 (U b), .int .u64 (U c), .int .u64 (U d), .int .u64 (U e), .int .i64 t, .int .i64 ov, .int .i64 ca, .int .i64 re] := h.2
  have h0 : D.Box (w.setCell ⟨g, 1, none⟩ (.bool o')) g 33 #[.int .u32 n, .bool o', .int .u64 (U a), .int .u64 (U b), .int .u64 (U c), .int .u64 (U d), .int .u64 (U e), .int .i64 t, .int .i64 ov, .int .i64 ca, .int .i64 re] := hb.set 1 _
  have h1 : D.Box ((w.setCell ⟨g, 1, none⟩ (.bool o')).setCell ⟨g, 7, none⟩ (.int .i64 t')) g 33 #[.int .u32 n, .bool o', .int .u64 (U a), .int .u64 (U b), .int .u64 (U c), .int .u64 (U d), .int .u64 (U e), .int .i64 t', .int .i64 ov, .int .i64 ca, .int .i64 re] := h0.set 7 _
  exact ⟨rfl, h1⟩
set_option maxRecDepth 100000 in
set_option maxHeartbeats 4000000 in
theorem rof_empty (ev : List (BitVec 64) → Bool) (n : Int) (t ov ca re : Int) (w : World) (hx : WishZ.Fit ⟨n, [], t, ov, ca, re⟩) :
    Calls Tryz.prog 11 #[wishV ⟨n, [], t, ov, ca, re⟩] w fun y w' => y = .returned (.tuple #[jobV (ofZ ev ⟨n, [], t, ov, ca, re⟩).1, .int .i64 (ofZ ev ⟨n, [], t, ov, ca, re⟩).2]) ∧ Below w.heap.size w w' := by
  have HPL := Lib.hid (fun W => rplain_any n ov ca re W)
  have HTI := Lib.hid (fun W => rtime10_any t W)
  obtain ⟨J, E, hJE⟩ : ∃ J E, ofZ ev ⟨n, [], t, ov, ca, re⟩ = (J, E) := ⟨_, _, rfl⟩
  rw [hJE]
  have HO1 : Hid (¬ (PlainP n ov ca re ∧ TimeP t) → J = zeroJ ∧ E = 200) := Lib.hid (fun h => by
    have hz : holdB (WishZ.lims ⟨n, [], t, ov, ca, re⟩) = false := hold_no (o := true) hx.1 hx.2 (by simpa using h)
    unfold ofZ at hJE; rw [if_pos hz] at hJE; cases hJE; exact ⟨rfl, rfl⟩)
  have HO2 : Hid (PlainP n ov ca re ∧ TimeP t → J = ⟨n, true, [0#64, 0#64, 0#64, 0#64, 0#64], t, ov, ca, re⟩ ∧ E = 0) := Lib.hid (fun h => by
    have hz : holdB (WishZ.lims ⟨n, [], t, ov, ca, re⟩) = true := (hold_plain (o := true) hx.1 hx.2).2 (by simpa using h)
    unfold ofZ at hJE; rw [if_neg (by rw [hz]; simp), if_pos rfl] at hJE; cases hJE; exact ⟨rfl, rfl⟩)
  obtain ⟨W0, hW0, hb0, hw0, hr0, hj0, hs0⟩ := rof_new w n [] t ov ca re
  have HB0 := Lib.hid hb0; have HR0 := Lib.hid hr0; have HJ0 := Lib.hid hj0; have HW0 := Lib.hid hw0
  have HU : Hid (U 0#64 = 0) := Lib.hid U_zero
  obtain ⟨e0, e1, e2, e3, e4, e5⟩ := hw0.cells
  rw [wishV_six]
  clear hJE hb0 hw0 hr0 hj0 hx
  go_enter Tryz.func11, Tryz.ntmps11
  go_wp2_with fail
  rw [← hW0]
  clear hW0
  refine (HPL.out _).mono ?_
  rintro x w1 ⟨⟨pz, rfl, hpz⟩, rfl⟩
  cases pz with
  | false =>
    have HE := Lib.hid (HO1.out (fun h => by have := hpz.2 h.1; cases this))
    clear hpz HO1 HO2
    obtain ⟨c0, c1, c2, c3, c4, c5, c6, c7, c8, c9, c10⟩ := HR0.out.cells
    have f0 := HR0.out.frozen 0; have f1 := HR0.out.frozen 1; have f2 := HR0.out.frozen 2; have f3 := HR0.out.frozen 3; have f4 := HR0.out.frozen 4; have f5 := HR0.out.frozen 5; have f6 := HR0.out.frozen 6; have f7 := HR0.out.frozen 7; have f8 := HR0.out.frozen 8; have f9 := HR0.out.frozen 9; have f10 := HR0.out.frozen 10
    go_wp2_with fail
    obtain ⟨Wf, hWf, hjf, hbf⟩ := set11_run HR0.out HB0.out (Nat.le_succ _) 0 false 0#64 0#64 0#64 0#64 0#64 0 0 0 0
    unfold set11V at hWf
    rw [U_zero] at hWf
    rw [← hWf]
    clear hWf c0 c1 c2 c3 c4 c5 c6 c7 c8 c9 c10 f0 f1 f2 f3 f4 f5 f6 f7 f8 f9 f10
    obtain ⟨c0, c1, c2, c3, c4, c5, c6, c7, c8, c9, c10⟩ := hjf.cells
    exact bodyPost_ret (v := .tuple #[jobV zeroJ, .int .i64 200]) (by unfold zeroJ nilF; rw [jobV_five]; simp [results, Tryz.results11, go_sem, c0, c1, c2, c3, c4, c5, c6, c7, c8, c9, c10]) rfl ⟨by rw [HE.out.1, HE.out.2], hbf⟩
  | true =>
    have hpl := hpz.1 rfl
    clear hpz
    go_wp2_with fail
    refine (HTI.out _).mono ?_
    rintro x w2 ⟨⟨tz, rfl, htz⟩, rfl⟩
    cases tz with
    | false =>
      have HE := Lib.hid (HO1.out (fun h => by have := htz.2 h.2; cases this))
      clear htz HO1 HO2 hpl
      obtain ⟨c0, c1, c2, c3, c4, c5, c6, c7, c8, c9, c10⟩ := HR0.out.cells
      have f0 := HR0.out.frozen 0; have f1 := HR0.out.frozen 1; have f2 := HR0.out.frozen 2; have f3 := HR0.out.frozen 3; have f4 := HR0.out.frozen 4; have f5 := HR0.out.frozen 5; have f6 := HR0.out.frozen 6; have f7 := HR0.out.frozen 7; have f8 := HR0.out.frozen 8; have f9 := HR0.out.frozen 9; have f10 := HR0.out.frozen 10
      go_wp2_with fail
      obtain ⟨Wf, hWf, hjf, hbf⟩ := set11_run HR0.out HB0.out (Nat.le_succ _) 0 false 0#64 0#64 0#64 0#64 0#64 0 0 0 0
      unfold set11V at hWf
      rw [U_zero] at hWf
      rw [← hWf]
      clear hWf c0 c1 c2 c3 c4 c5 c6 c7 c8 c9 c10 f0 f1 f2 f3 f4 f5 f6 f7 f8 f9 f10
      obtain ⟨c0, c1, c2, c3, c4, c5, c6, c7, c8, c9, c10⟩ := hjf.cells
      exact bodyPost_ret (v := .tuple #[jobV zeroJ, .int .i64 200]) (by unfold zeroJ nilF; rw [jobV_five]; simp [results, Tryz.results11, go_sem, c0, c1, c2, c3, c4, c5, c6, c7, c8, c9, c10]) rfl ⟨by rw [HE.out.1, HE.out.2], hbf⟩
    | true =>
      have HE := Lib.hid (HO2.out ⟨hpl, htz.1 rfl⟩)
      clear htz HO1 HO2 hpl
      obtain ⟨c0, c1, c2, c3, c4, c5, c6, c7, c8, c9, c10⟩ := HJ0.out.cells
      have f0 := HJ0.out.frozen 0; have f1 := HJ0.out.frozen 1; have f2 := HJ0.out.frozen 2; have f3 := HJ0.out.frozen 3; have f4 := HJ0.out.frozen 4; have f5 := HJ0.out.frozen 5; have f6 := HJ0.out.frozen 6; have f7 := HJ0.out.frozen 7; have f8 := HJ0.out.frozen 8; have f9 := HJ0.out.frozen 9; have f10 := HJ0.out.frozen 10
      go_wp2_with fail
      go_region
      have hbx : Below w.heap.size w ((w2.setCell ⟨w.heap.size + 1 + 1, 1, none⟩ (.bool true)).setCell ⟨w.heap.size + 1 + 1, 7, none⟩ (.int .i64 t)).drew := ((HB0.out.setCell (p := ⟨w.heap.size + 1 + 1, 1, none⟩) (Nat.le_add_right_of_le (Nat.le_succ _)) _).setCell (p := ⟨w.heap.size + 1 + 1, 7, none⟩) (Nat.le_add_right_of_le (Nat.le_succ _)) _).drew
      have hjx := JobAt.setTwo (a := 0#64) (b := 0#64) (c := 0#64) (d := 0#64) (e := 0#64) HJ0.out true t
      have hrx : JobAt ((w2.setCell ⟨w.heap.size + 1 + 1, 1, none⟩ (.bool true)).setCell ⟨w.heap.size + 1 + 1, 7, none⟩ (.int .i64 t)).drew (w.heap.size + 1) zeroJ := ⟨rfl, (HR0.out.2.far (by omega) _).far (by omega) _⟩
      have HB5 := Lib.hid hbx; have HJ5 := Lib.hid hjx; have HR5 := Lib.hid hrx
      clear hbx hjx hrx e0 e1 e2 e3 e4 e5 c0 c1 c2 c3 c4 c5 c6 c7 c8 c9 c10 f0 f1 f2 f3 f4 f5 f6 f7 f8 f9 f10
      generalize ((w2.setCell ⟨w.heap.size + 1 + 1, 1, none⟩ (.bool true)).setCell ⟨w.heap.size + 1 + 1, 7, none⟩ (.int .i64 t)).drew = w5 at *
      obtain ⟨d0, d1, d2, d3, d4, d5, d6, d7, d8, d9, d10⟩ := HJ5.out.cells
      simp only [HU.out] at d2 d3 d4 d5 d6
      obtain ⟨c0, c1, c2, c3, c4, c5, c6, c7, c8, c9, c10⟩ := HR5.out.cells
      have f0 := HR5.out.frozen 0; have f1 := HR5.out.frozen 1; have f2 := HR5.out.frozen 2; have f3 := HR5.out.frozen 3; have f4 := HR5.out.frozen 4; have f5 := HR5.out.frozen 5; have f6 := HR5.out.frozen 6; have f7 := HR5.out.frozen 7; have f8 := HR5.out.frozen 8; have f9 := HR5.out.frozen 9; have f10 := HR5.out.frozen 10
      go_wp2_with fail
      obtain ⟨Wf, hWf, hjf, hbf⟩ := set11_run HR5.out HB5.out (Nat.le_succ _) n true 0#64 0#64 0#64 0#64 0#64 t ov ca re
      unfold set11V at hWf
      rw [U_zero] at hWf
      rw [← hWf]
      clear hWf c0 c1 c2 c3 c4 c5 c6 c7 c8 c9 c10 f0 f1 f2 f3 f4 f5 f6 f7 f8 f9 f10
      obtain ⟨c0, c1, c2, c3, c4, c5, c6, c7, c8, c9, c10⟩ := hjf.cells
      exact bodyPost_ret (v := .tuple #[jobV ⟨n, true, [0#64, 0#64, 0#64, 0#64, 0#64], t, ov, ca, re⟩, .int .i64 0]) (by rw [jobV_five]; simp [results, Tryz.results11, go_sem, c0, c1, c2, c3, c4, c5, c6, c7, c8, c9, c10]) rfl ⟨by rw [HE.out.1, HE.out.2], hbf⟩
set_option maxRecDepth 100000 in
set_option maxHeartbeats 8000000 in
theorem rof_text (ev : List (BitVec 64) → Bool) (hev : EvIs ev) (n : Int) (b0 : UInt8) (r0 : List UInt8) (t ov ca re : Int) (w : World) (hx : WishZ.Fit ⟨n, b0 :: r0, t, ov, ca, re⟩) :
    Calls Tryz.prog 11 #[wishV ⟨n, b0 :: r0, t, ov, ca, re⟩] w fun y w' => y = .returned (.tuple #[jobV (ofZ ev ⟨n, b0 :: r0, t, ov, ca, re⟩).1, .int .i64 (ofZ ev ⟨n, b0 :: r0, t, ov, ca, re⟩).2]) ∧ Below w.heap.size w w' := by
  have HPL := Lib.hid (fun W => rplain_any n ov ca re W)
  have HRD := Lib.hid (fun W h => rread7_any (b0 :: r0) W h)
  have HCK := Lib.hid (fun a b c d e W => rcheck_any ev hev ⟨n, false, [a, b, c, d, e], 0, ov, ca, re⟩ W ⟨hx.1, hx.2, rfl⟩)
  obtain ⟨J, E, hJE⟩ : ∃ J E, ofZ ev ⟨n, b0 :: r0, t, ov, ca, re⟩ = (J, E) := ⟨_, _, rfl⟩
  rw [hJE]
  have hof : ofZ ev ⟨n, b0 :: r0, t, ov, ca, re⟩ = if holdB (limsZ n false t ov ca re) = false then (zeroJ, 200) else match readE (b0 :: r0) with
    | (none, e) => (zeroJ, e)
    | (some l, _) => if ev l = false then (zeroJ, 201) else (⟨n, false, l, t, ov, ca, re⟩, 0) := rfl
  rw [hJE] at hof
  have HO1 : Hid (¬ (PlainP n ov ca re ∧ t = 0) → J = zeroJ ∧ E = 200) := Lib.hid (fun h => by
    have hz := hold_no (o := false) (t := t) hx.1 hx.2 (by simpa using h)
    rw [if_pos hz] at hof; cases hof; exact ⟨rfl, rfl⟩)
  have HHZ : Hid (PlainP n ov ca re ∧ t = 0 → holdB (limsZ n false t ov ca re) = true) := Lib.hid (fun h => (hold_plain (o := false) hx.1 hx.2).2 (by simpa using h))
  have HO2 : Hid (PlainP n ov ca re ∧ t = 0 → ∀ e, readE (b0 :: r0) = (none, e) → J = zeroJ ∧ E = e) := Lib.hid (fun h e h2 => by
    rw [if_neg (by rw [HHZ.out h]; simp), h2] at hof; cases hof; exact ⟨rfl, rfl⟩)
  have HO3 : Hid (PlainP n ov ca re ∧ t = 0 → ∀ l e, readE (b0 :: r0) = (some l, e) → ev l = false → J = zeroJ ∧ E = 201) := Lib.hid (fun h l e h2 h3 => by
    rw [if_neg (by rw [HHZ.out h]; simp), h2] at hof; simp only [h3, if_true] at hof; cases hof; exact ⟨rfl, rfl⟩)
  have HO4 : Hid (PlainP n ov ca re ∧ t = 0 → ∀ l e, readE (b0 :: r0) = (some l, e) → ev l = true → J = ⟨n, false, l, t, ov, ca, re⟩ ∧ E = 0) := Lib.hid (fun h l e h2 h3 => by
    rw [if_neg (by rw [HHZ.out h]; simp), h2] at hof; simp only [h3, Bool.true_eq_false, if_false] at hof; cases hof; exact ⟨rfl, rfl⟩)
  have HRE1 : Hid (256 < (b0 :: r0).length → readE (b0 :: r0) = (none, 3)) := Lib.hid (fun h => by unfold readE; rw [if_pos h])
  have HRE2 : Hid (¬ 256 < (b0 :: r0).length → ∀ p, readC (b0 :: r0) = (none, p) → readE (b0 :: r0) = (none, 170)) := Lib.hid (fun h p h2 => by unfold readE; rw [if_neg h, h2])
  have HRE3 : Hid (¬ 256 < (b0 :: r0).length → ∀ l p, readC (b0 :: r0) = (some l, p) → readE (b0 :: r0) = (some l, 0) ∧ l.length = 5 ∧ crB l = true) := Lib.hid (fun h l p h2 => by
    obtain ⟨h3, _, h4⟩ := read_cr h2
    exact ⟨by unfold readE; rw [if_neg h, h2], h3, h4⟩)
  obtain ⟨W0, hW0, hbw, hw0, hr0, hj0, hs0⟩ := rof_new w n (b0 :: r0) t ov ca re
  have HB0 := Lib.hid hbw; have HR0 := Lib.hid hr0; have HJ0 := Lib.hid hj0; have HW0 := Lib.hid hw0
  have HU : Hid (U 0#64 = 0) := Lib.hid U_zero
  obtain ⟨e0, e1, e2, e3, e4, e5⟩ := hw0.cells
  rw [wishV_six]
  clear hJE hbw hw0 hr0 hj0 hx hof hev
  unfold strV at HRD
  generalize hs1 : b0 :: r0 = s at *
  have hne : s ≠ [] := by rw [← hs1]; simp
  have hie : s.isEmpty = false := by rw [← hs1]; rfl
  have hsb : ((⟨s.toArray⟩ : ByteArray) == ⟨#[]⟩) = false := str_ne hne
  have hzx : (⟨s.toArray⟩ : ByteArray).size = s.length := by show s.toArray.size = _; simp
  clear hs1
  go_enter Tryz.func11, Tryz.ntmps11
  go_wp2_with fail
  rw [← hW0]
  clear hW0
  refine (HPL.out _).mono ?_
  rintro x w1 ⟨⟨pz, rfl, hpz⟩, rfl⟩
  cases pz with
  | false =>
    have HE := Lib.hid (HO1.out (fun h => by have := hpz.2 h.1; cases this))
    clear hpz HO1 HO2 HO3 HO4 HRE1 HRE2 HRE3
    obtain ⟨c0, c1, c2, c3, c4, c5, c6, c7, c8, c9, c10⟩ := HR0.out.cells
    have f0 := HR0.out.frozen 0; have f1 := HR0.out.frozen 1; have f2 := HR0.out.frozen 2; have f3 := HR0.out.frozen 3; have f4 := HR0.out.frozen 4; have f5 := HR0.out.frozen 5; have f6 := HR0.out.frozen 6; have f7 := HR0.out.frozen 7; have f8 := HR0.out.frozen 8; have f9 := HR0.out.frozen 9; have f10 := HR0.out.frozen 10
    go_wp2_with fail
    obtain ⟨Wf, hWf, hjf, hbf⟩ := set11_run HR0.out HB0.out (Nat.le_succ _) 0 false 0#64 0#64 0#64 0#64 0#64 0 0 0 0
    unfold set11V at hWf
    rw [U_zero] at hWf
    rw [← hWf]
    clear hWf c0 c1 c2 c3 c4 c5 c6 c7 c8 c9 c10 f0 f1 f2 f3 f4 f5 f6 f7 f8 f9 f10
    obtain ⟨c0, c1, c2, c3, c4, c5, c6, c7, c8, c9, c10⟩ := hjf.cells
    exact bodyPost_ret (v := .tuple #[jobV zeroJ, .int .i64 200]) (by unfold zeroJ nilF; rw [jobV_five]; simp [results, Tryz.results11, go_sem, c0, c1, c2, c3, c4, c5, c6, c7, c8, c9, c10]) rfl ⟨by rw [HE.out.1, HE.out.2], hbf⟩
  | true =>
    have hpl := hpz.1 rfl
    clear hpz
    by_cases ht : t = 0
    · subst ht
      have hpt : PlainP n ov ca re ∧ (0 : Int) = 0 := ⟨hpl, rfl⟩
      have HHZ' := Lib.hid (HHZ.out hpt)
      replace HO2 := Lib.hid (HO2.out hpt); replace HO3 := Lib.hid (HO3.out hpt); replace HO4 := Lib.hid (HO4.out hpt)
      clear HO1 hpl hpt HHZ
      by_cases hlen : 256 < s.length
      · have HE := Lib.hid (HO2.out 3 (HRE1.out hlen))
        have hl1 : (256 : Int) < (s.length : Int) := by omega
        clear HO2 HO3 HO4 HRE1 HRE2 HRE3
        obtain ⟨c0, c1, c2, c3, c4, c5, c6, c7, c8, c9, c10⟩ := HR0.out.cells
        have f0 := HR0.out.frozen 0; have f1 := HR0.out.frozen 1; have f2 := HR0.out.frozen 2; have f3 := HR0.out.frozen 3; have f4 := HR0.out.frozen 4; have f5 := HR0.out.frozen 5; have f6 := HR0.out.frozen 6; have f7 := HR0.out.frozen 7; have f8 := HR0.out.frozen 8; have f9 := HR0.out.frozen 9; have f10 := HR0.out.frozen 10
        go_wp2_with fail
        obtain ⟨Wf, hWf, hjf, hbf⟩ := set11_run HR0.out HB0.out (Nat.le_succ _) 0 false 0#64 0#64 0#64 0#64 0#64 0 0 0 0
        unfold set11V at hWf
        rw [U_zero] at hWf
        rw [← hWf]
        clear hWf c0 c1 c2 c3 c4 c5 c6 c7 c8 c9 c10 f0 f1 f2 f3 f4 f5 f6 f7 f8 f9 f10
        obtain ⟨c0, c1, c2, c3, c4, c5, c6, c7, c8, c9, c10⟩ := hjf.cells
        exact bodyPost_ret (v := .tuple #[jobV zeroJ, .int .i64 3]) (by unfold zeroJ nilF; rw [jobV_five]; simp [results, Tryz.results11, go_sem, c0, c1, c2, c3, c4, c5, c6, c7, c8, c9, c10]) rfl ⟨by rw [HE.out.1, HE.out.2], hbf⟩
      · have hl1 : ¬ (256 : Int) < (s.length : Int) := by omega
        have HR' := Lib.hid (fun W => HRD.out W (by omega))
        replace HRE2 := Lib.hid (HRE2.out hlen); replace HRE3 := Lib.hid (HRE3.out hlen)
        clear HRE1 HRD
        go_wp2_with fail
        refine (HR'.out _).mono ?_
        rintro x w2 ⟨rfl, hb⟩
        have HB2 := Lib.hid (HB0.out.trans (hb.mono HB0.out.size)); have HR2 := Lib.hid (HR0.out.on hb); have HJ2 := Lib.hid (HJ0.out.on hb)
        clear hb HB0 HR0 HJ0 HW0 HR' e0 e1 e2 e3 e4 e5
        cases hre : readC s with
        | mk q p =>
          cases q with
          | none =>
            have HE := Lib.hid (HO2.out 170 (HRE2.out p hre))
            rw [rreadC_none hre]
            have hc0 : cronV nilF = .agg #[.int .u64 0, .int .u64 0, .int .u64 0, .int .u64 0, .int .u64 0] := by
              show Value.agg #[.int .u64 (U 0#64), .int .u64 (U 0#64), .int .u64 (U 0#64), .int .u64 (U 0#64), .int .u64 (U 0#64)] = _
              rw [HU.out]
            rw [hc0]
            have HB4 := Lib.hid (HB2.out.alloc HB2.out.size (.cells #[.int .u64 0, .int .u64 0, .int .u64 0, .int .u64 0, .int .u64 0] 31))
            have HR4 := Lib.hid (HR2.out.alloc (.cells #[.int .u64 0, .int .u64 0, .int .u64 0, .int .u64 0, .int .u64 0] 31))
            clear hre HRE2 HRE3 hc0 HR2 HB2 HJ2 HCK HO2 HO3 HO4
            obtain ⟨c0, c1, c2, c3, c4, c5, c6, c7, c8, c9, c10⟩ := HR4.out.cells
            have f0 := HR4.out.frozen 0; have f1 := HR4.out.frozen 1; have f2 := HR4.out.frozen 2; have f3 := HR4.out.frozen 3; have f4 := HR4.out.frozen 4; have f5 := HR4.out.frozen 5; have f6 := HR4.out.frozen 6; have f7 := HR4.out.frozen 7; have f8 := HR4.out.frozen 8; have f9 := HR4.out.frozen 9; have f10 := HR4.out.frozen 10
            go_wp2_with fail
            obtain ⟨Wf, hWf, hjf, hbf⟩ := set11_run HR4.out HB4.out (Nat.le_succ _) 0 false 0#64 0#64 0#64 0#64 0#64 0 0 0 0
            unfold set11V at hWf
            rw [U_zero] at hWf
            rw [← hWf]
            clear hWf c0 c1 c2 c3 c4 c5 c6 c7 c8 c9 c10 f0 f1 f2 f3 f4 f5 f6 f7 f8 f9 f10
            obtain ⟨c0, c1, c2, c3, c4, c5, c6, c7, c8, c9, c10⟩ := hjf.cells
            exact bodyPost_ret (v := .tuple #[jobV zeroJ, .int .i64 170]) (by unfold zeroJ nilF; rw [jobV_five]; simp [results, Tryz.results11, go_sem, c0, c1, c2, c3, c4, c5, c6, c7, c8, c9, c10]) rfl ⟨by rw [HE.out.1, HE.out.2], hbf⟩
          | some l =>
            obtain ⟨hrl, hl5, hlc⟩ := HRE3.out l p hre
            rw [rreadC_some hre]
            have HE1 := Lib.hid (HO3.out l 0 hrl); have HE2 := Lib.hid (HO4.out l 0 hrl)
            clear HRE2 HRE3 hre HO2 HO3 HO4 hrl
            obtain ⟨p0, p1, p2, p3, p4, rfl⟩ := list_five hl5
            rw [cronV_five]
            unfold fiveV
            have hn1 := (@err_never ev ⟨n, false, [p0, p1, p2, p3, p4], 0, ov, ca, re⟩) HHZ'.out rfl hlc
            have hn2 := (@err_ever ev ⟨n, false, [p0, p1, p2, p3, p4], 0, ov, ca, re⟩) HHZ'.out rfl hlc
            have HN1 := Lib.hid hn1; have HN2 := Lib.hid hn2
            have HC := Lib.hid (HCK.out p0 p1 p2 p3 p4)
            rw [jobV_five] at HC
            clear hn1 hn2 hl5 hlc HCK
            obtain ⟨w4, hw4, hb4, hc4⟩ : ∃ W : World, W = w2.alloc (.cells #[.int .u64 (U p0), .int .u64 (U p1), .int .u64 (U p2), .int .u64 (U p3), .int .u64 (U p4)] 31) ∧ Below w2.heap.size w2 W ∧ CronAt W w2.heap.size [p0, p1, p2, p3, p4] := ⟨_, rfl, (Below.refl _ w2).alloc (Nat.le_refl _) _, CronAt.new w2 p0 p1 p2 p3 p4⟩
            have HB4 := Lib.hid (HB2.out.trans (hb4.mono HB2.out.size)); have HR4 := Lib.hid (HR2.out.on hb4); have HJ4 := Lib.hid (HJ2.out.on hb4)
            obtain ⟨x0, x1, x2, x3, x4⟩ := hc4.five
            obtain ⟨c0, c1, c2, c3, c4, c5, c6, c7, c8, c9, c10⟩ := HJ4.out.cells
            have f0 := HJ4.out.frozen 0; have f1 := HJ4.out.frozen 1; have f2 := HJ4.out.frozen 2; have f3 := HJ4.out.frozen 3; have f4 := HJ4.out.frozen 4; have f5 := HJ4.out.frozen 5; have f6 := HJ4.out.frozen 6; have f7 := HJ4.out.frozen 7; have f8 := HJ4.out.frozen 8; have f9 := HJ4.out.frozen 9; have f10 := HJ4.out.frozen 10
            clear hb4 hc4 HR2 HB2 HJ2
            rw [hw4] at c0 c1 c2 c3 c4 c5 c6 c7 c8 c9 c10 f0 f1 f2 f3 f4 f5 f6 f7 f8 f9 f10 x0 x1 x2 x3 x4
            go_wp2_with fail
            rw [← hw4]
            have hbx := below_C (g := w.heap.size + 1 + 1) HB4.out (by omega) (.int .u64 (U p0)) (.int .u64 (U p1)) (.int .u64 (U p2)) (.int .u64 (U p3)) (.int .u64 (U p4))
            have hjx : JobAt (setCV w4 (w.heap.size + 1 + 1) (.int .u64 (U p0)) (.int .u64 (U p1)) (.int .u64 (U p2)) (.int .u64 (U p3)) (.int .u64 (U p4))) (w.heap.size + 1 + 1) ⟨n, false, [p0, p1, p2, p3, p4], 0, ov, ca, re⟩ := JobAt.setC (a := 0#64) (b := 0#64) (c := 0#64) (d := 0#64) (e := 0#64) HJ4.out p0 p1 p2 p3 p4
            have hrx : JobAt (setCV w4 (w.heap.size + 1 + 1) (.int .u64 (U p0)) (.int .u64 (U p1)) (.int .u64 (U p2)) (.int .u64 (U p3)) (.int .u64 (U p4))) (w.heap.size + 1) zeroJ := ⟨rfl, far_C HR4.out.2 (by omega) _ _ _ _ _⟩
            obtain ⟨w5, hw5⟩ : ∃ W, W = setCV w4 (w.heap.size + 1 + 1) (.int .u64 (U p0)) (.int .u64 (U p1)) (.int .u64 (U p2)) (.int .u64 (U p3)) (.int .u64 (U p4)) := ⟨_, rfl⟩
            rw [← hw5] at hbx hjx hrx
            have HB5 := Lib.hid hbx; have HJ5 := Lib.hid hjx; have HR5 := Lib.hid hrx
            unfold setCV at hw5
            rw [← hw5]
            clear hw5 hw4 hbx hjx hrx x0 x1 x2 x3 x4 c0 c1 c2 c3 c4 c5 c6 c7 c8 c9 c10 f0 f1 f2 f3 f4 f5 f6 f7 f8 f9 f10 HB4 HJ4 HR4
            refine (HC.out _).mono ?_
            rintro x w6 ⟨rfl, hb⟩
            have HB6 := Lib.hid (HB5.out.trans (hb.mono HB5.out.size)); have HR6 := Lib.hid (HR5.out.on hb); have HJ6 := Lib.hid (HJ5.out.on hb)
            clear hb HB5 HR5 HJ5 HC
            cases hev : ev [p0, p1, p2, p3, p4] with
            | false =>
              have HE := Lib.hid (HE1.out hev)
              have hz1 := HN1.out hev
              rw [hz1]
              clear hev hz1 HE1 HE2 HN1 HN2
              obtain ⟨c0, c1, c2, c3, c4, c5, c6, c7, c8, c9, c10⟩ := HR6.out.cells
              have f0 := HR6.out.frozen 0; have f1 := HR6.out.frozen 1; have f2 := HR6.out.frozen 2; have f3 := HR6.out.frozen 3; have f4 := HR6.out.frozen 4; have f5 := HR6.out.frozen 5; have f6 := HR6.out.frozen 6; have f7 := HR6.out.frozen 7; have f8 := HR6.out.frozen 8; have f9 := HR6.out.frozen 9; have f10 := HR6.out.frozen 10
              go_wp2_with fail
              obtain ⟨Wf, hWf, hjf, hbf⟩ := set11_run HR6.out HB6.out (Nat.le_succ _) 0 false 0#64 0#64 0#64 0#64 0#64 0 0 0 0
              unfold set11V at hWf
              rw [U_zero] at hWf
              rw [← hWf]
              clear hWf c0 c1 c2 c3 c4 c5 c6 c7 c8 c9 c10 f0 f1 f2 f3 f4 f5 f6 f7 f8 f9 f10
              obtain ⟨c0, c1, c2, c3, c4, c5, c6, c7, c8, c9, c10⟩ := hjf.cells
              exact bodyPost_ret (v := .tuple #[jobV zeroJ, .int .i64 201]) (by unfold zeroJ nilF; rw [jobV_five]; simp [results, Tryz.results11, go_sem, c0, c1, c2, c3, c4, c5, c6, c7, c8, c9, c10]) rfl ⟨by rw [HE.out.1, HE.out.2], hbf⟩
            | true =>
              have HE := Lib.hid (HE2.out hev)
              have hz1 := HN2.out hev
              rw [hz1]
              clear hev hz1 HE1 HE2 HN1 HN2
              obtain ⟨d0, d1, d2, d3, d4, d5, d6, d7, d8, d9, d10⟩ := HJ6.out.cells
              obtain ⟨c0, c1, c2, c3, c4, c5, c6, c7, c8, c9, c10⟩ := HR6.out.cells
              have f0 := HR6.out.frozen 0; have f1 := HR6.out.frozen 1; have f2 := HR6.out.frozen 2; have f3 := HR6.out.frozen 3; have f4 := HR6.out.frozen 4; have f5 := HR6.out.frozen 5; have f6 := HR6.out.frozen 6; have f7 := HR6.out.frozen 7; have f8 := HR6.out.frozen 8; have f9 := HR6.out.frozen 9; have f10 := HR6.out.frozen 10
              go_wp2_with fail
              obtain ⟨Wf, hWf, hjf, hbf⟩ := set11_run HR6.out HB6.out (Nat.le_succ _) n false p0 p1 p2 p3 p4 0 ov ca re
              unfold set11V at hWf

              rw [← hWf]
              clear hWf c0 c1 c2 c3 c4 c5 c6 c7 c8 c9 c10 f0 f1 f2 f3 f4 f5 f6 f7 f8 f9 f10
              obtain ⟨c0, c1, c2, c3, c4, c5, c6, c7, c8, c9, c10⟩ := hjf.cells
              exact bodyPost_ret (v := .tuple #[jobV ⟨n, false, [p0, p1, p2, p3, p4], 0, ov, ca, re⟩, .int .i64 0]) (by rw [jobV_five]; simp [results, Tryz.results11, go_sem, c0, c1, c2, c3, c4, c5, c6, c7, c8, c9, c10]) rfl ⟨by rw [HE.out.1, HE.out.2], hbf⟩
    · have g0 : (t != 0) = true := by simpa using ht
      have HE := Lib.hid (HO1.out (fun h => ht h.2))
      clear HO1 HO2 HO3 HO4 HRE1 HRE2 HRE3 hpl
      obtain ⟨c0, c1, c2, c3, c4, c5, c6, c7, c8, c9, c10⟩ := HR0.out.cells
      have f0 := HR0.out.frozen 0; have f1 := HR0.out.frozen 1; have f2 := HR0.out.frozen 2; have f3 := HR0.out.frozen 3; have f4 := HR0.out.frozen 4; have f5 := HR0.out.frozen 5; have f6 := HR0.out.frozen 6; have f7 := HR0.out.frozen 7; have f8 := HR0.out.frozen 8; have f9 := HR0.out.frozen 9; have f10 := HR0.out.frozen 10
      go_wp2_with fail
      obtain ⟨Wf, hWf, hjf, hbf⟩ := set11_run HR0.out HB0.out (Nat.le_succ _) 0 false 0#64 0#64 0#64 0#64 0#64 0 0 0 0
      unfold set11V at hWf
      rw [U_zero] at hWf
      rw [← hWf]
      clear hWf c0 c1 c2 c3 c4 c5 c6 c7 c8 c9 c10 f0 f1 f2 f3 f4 f5 f6 f7 f8 f9 f10
      obtain ⟨c0, c1, c2, c3, c4, c5, c6, c7, c8, c9, c10⟩ := hjf.cells
      exact bodyPost_ret (v := .tuple #[jobV zeroJ, .int .i64 200]) (by unfold zeroJ nilF; rw [jobV_five]; simp [results, Tryz.results11, go_sem, c0, c1, c2, c3, c4, c5, c6, c7, c8, c9, c10]) rfl ⟨by rw [HE.out.1, HE.out.2], hbf⟩
theorem rof10_any (ev : List (BitVec 64) → Bool) (hev : EvIs ev) (x : WishZ) (w : World) (hx : x.Fit) :
    Calls Tryz.prog 11 #[wishV x] w fun y w' => y = .returned (.tuple #[jobV (ofZ ev x).1, .int .i64 (ofZ ev x).2]) ∧ Below w.heap.size w w' := by
  obtain ⟨n, s, t, ov, ca, re⟩ := x
  cases s with
  | nil => exact rof_empty ev n t ov ca re w hx
  | cons b r => exact rof_text ev hev n b r t ov ca re w hx
end Go.Proofs.YtbaobjbckabnhaaGreatDoor
