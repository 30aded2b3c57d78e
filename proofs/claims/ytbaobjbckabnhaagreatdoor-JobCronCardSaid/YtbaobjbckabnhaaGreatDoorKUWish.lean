/- Of of whatever text; Wish: walked, of the program. -/
import Derived.Test.YtbaobjbckabnhaaGreatDoorK6
import Derived.Test.YtbaobjbckabnhaaGreatDoorKUOf
namespace Go.Proofs.YtbaobjbckabnhaaGreatDoor
open Go.RowKit

theorem jof_any (ev : List (BitVec 64) → Bool) (hev : EvIs ev) (x : WishZ) (w : World) (hL : LaidC w) (hx : x.Fit) (hs : x.s.length ≤ maxLen) :
    Calls Tryz.prog 10 #[wishV x] w fun y w' => y = .returned (.tuple #[jobV (ofZ ev x).1, .int .i64 (ofZ ev x).2]) ∧ Below w.heap.size w w' := by
  obtain ⟨n, s, t, ov, ca, re⟩ := x
  cases s with
  | nil => exact jof_empty ev hev n t ov ca re w hL hx
  | cons b r => exact jof_text ev hev n b r t ov ca re w hL hx hs
def zeroW : WishZ := ⟨0, [], 0, 0, 0, 0⟩
/-- The wish that says a job, if it may be. -/
def JobZ.wishE (ev : List (BitVec 64) → Bool) (j : JobZ) : WishZ := if j.err ev = 0 then j.wish else zeroW
theorem set6_run {W : World} {g B : Nat} {w : World} {x : WishZ} (hj : WishAt W g x) (hb : Below B w W) (hg : B ≤ g) (n : Int) (s : List UInt8) (t ov ca re : Int) :
    ∃ W' : World, W' = set6V W g (.int .u32 n) (.string ⟨s.toArray⟩) (.int .i64 t) (.int .i64 ov) (.int .i64 ca) (.int .i64 re) ∧ WishAt W' g ⟨n, s, t, ov, ca, re⟩ ∧ Below B w W' :=
  ⟨_, rfl, hj.set6 n s t ov ca re, below_6 hb hg _ _ _ _ _ _⟩
theorem wish_two (w : World) (n : Int) (o : Bool) (a b c d e : BitVec 64) (t ov ca re : Int) : ∃ W : World, W = (w.alloc (.cells #[.int .u32 n, .bool o, .int .u64 (U a), .int .u64 (U b), .int .u64 (U c), .int .u64 (U d), .int .u64 (U e), .int .i64 t, .int .i64 ov, .int .i64 ca, .int .i64 re] 33)).alloc (.cells #[.int .u32 0, .string ⟨#[]⟩, .int .i64 0, .int .i64 0, .int .i64 0, .int .i64 0] 26) ∧ Below w.heap.size w W ∧ JobAt W w.heap.size ⟨n, o, [a, b, c, d, e], t, ov, ca, re⟩ ∧ WishAt W (w.heap.size + 1) zeroW ∧ W.heap.size = w.heap.size + 2 := by
  refine ⟨_, rfl, ((Below.refl _ w).alloc (Nat.le_refl _) _).alloc (by simp) _, (JobAt.new w n o a b c d e t ov ca re).alloc _, ?_, by simp⟩
  have := WishAt.new (w.alloc (.cells #[.int .u32 n, .bool o, .int .u64 (U a), .int .u64 (U b), .int .u64 (U c), .int .u64 (U d), .int .u64 (U e), .int .i64 t, .int .i64 ov, .int .i64 ca, .int .i64 re] 33)) 0 [] 0 0 0 0
  rw [World.size_alloc] at this
  exact this
set_option maxRecDepth 100000 in
set_option maxHeartbeats 4000000 in
theorem jwish_any (ev : List (BitVec 64) → Bool) (hev : EvIs ev) (j : JobZ) (w : World) (hL : LaidC w) (hj : j.Fit) :
    Calls Tryz.prog 21 #[jobV j] w fun y w' => y = .returned (.tuple #[wishV (j.wishE ev), .int .i64 (j.err ev)]) ∧ Below w.heap.size w w' := by
  have HCK := Lib.hid (fun W hW => jcheck_any ev hev j W hW hj)
  have HOK := Lib.hid (fun h => (@err_ok ev j h).2)
  have HTX := Lib.hid (fun W hW (h : crB j.L = true) => by have := ctext_any j.L W hW hj.2.2; rw [ctextV_yes h] at this; exact this)
  have HW0 : Hid (j.err ev = 0 → j.wishE ev = j.wish) := Lib.hid (fun h => by unfold JobZ.wishE; rw [if_pos h])
  have HW1 : Hid (j.err ev ≠ 0 → j.wishE ev = zeroW) := Lib.hid (fun h => by unfold JobZ.wishE; rw [if_neg h])
  unfold JobZ.wish at HW0
  clear hev
  generalize j.wishE ev = we at *
  generalize j.err ev = z at *
  obtain ⟨n, o, L, t, ov, ca, re⟩ := j
  obtain ⟨n0, n1, hl5⟩ := hj
  simp only at hl5
  obtain ⟨a, b, c, d, e, rfl⟩ := list_five hl5
  obtain ⟨W0, hW0, hb0, hj0, hx0, hs0⟩ := wish_two w n o a b c d e t ov ca re
  have HB0 := Lib.hid hb0; have HJ0 := Lib.hid hj0; have HR0 := Lib.hid hx0; have HL := Lib.hid hL
  simp only at HOK HTX HW0
  rw [jobV_five] at *
  rw [cronV_five] at *
  unfold fiveV at *
  clear hL hb0 hj0 hx0 hl5 n0 n1
  have HCC : Hid (∀ W, JobAt W w.heap.size ⟨n, o, [a, b, c, d, e], t, ov, ca, re⟩ → JobAt W w.heap.size ⟨n, o, [a, b, c, d, e], t, ov, ca, re⟩) := Lib.hid (fun W h => h)
  obtain ⟨c0, c1, c2, c3, c4, c5, c6, c7, c8, c9, c10⟩ := HJ0.out.cells
  go_enter Tryz.func21, Tryz.ntmps21
  go_wp2_with fail
  rw [← hW0]
  clear hW0
  refine (HCK.out _ (HL.out.on HB0.out)).mono ?_
  rintro x w2 ⟨rfl, hb⟩
  have HB2 := Lib.hid (HB0.out.trans (hb.mono HB0.out.size)); have HJ2 := Lib.hid (HJ0.out.on hb); have HR2 := Lib.hid (HR0.out.on hb)
  clear hb HB0 HJ0 HR0 HCK c0 c1 c2 c3 c4 c5 c6 c7 c8 c9 c10
  by_cases hz : z = 0
  · subst hz
    have HE := Lib.hid (HW0.out rfl)
    have hok := HOK.out rfl
    clear HW0 HW1 HOK
    obtain ⟨w3, hw3, hb3, hx3, hs3⟩ := wish_new w2 n [] t ov ca re
    have HB3 := Lib.hid (HB2.out.trans (hb3.mono HB2.out.size)); have HJ3 := Lib.hid (HJ2.out.on hb3); have HR3 := Lib.hid (HR2.out.on hb3); have HN3 := Lib.hid hx3
    clear hb3 hx3
    obtain ⟨d0, d1, d2, d3, d4, d5, d6, d7, d8, d9, d10⟩ := HJ2.out.cells
    obtain ⟨c0, c1, c2, c3, c4, c5, c6, c7, c8, c9, c10⟩ := HJ3.out.cells
    cases o with
    | true =>
      simp only [if_true] at HE
      rw [hw3] at *
      clear hok HTX
      obtain ⟨r0, r1, r2, r3, r4, r5⟩ := HR3.out.cells
      have g0 := HR3.out.frozen 0; have g1 := HR3.out.frozen 1; have g2 := HR3.out.frozen 2; have g3 := HR3.out.frozen 3; have g4 := HR3.out.frozen 4; have g5 := HR3.out.frozen 5
      go_wp2_with fail
      obtain ⟨Wf, hWf, hjf, hbf⟩ := set6_run HR3.out HB3.out (Nat.le_succ _) n [] t ov ca re
      unfold set6V at hWf
      rw [← hWf]
      clear hWf r0 r1 r2 r3 r4 r5 g0 g1 g2 g3 g4 g5
      obtain ⟨r0, r1, r2, r3, r4, r5⟩ := hjf.cells
      exact bodyPost_ret (v := .tuple #[wishV ⟨n, [], t, ov, ca, re⟩, .int .i64 0]) (by rw [wishV_six]; simp [results, Tryz.results21, go_sem, r0, r1, r2, r3, r4, r5]) rfl ⟨by rw [HE.out], hbf⟩
    | false =>
      have hlc : crB [a, b, c, d, e] = true := by rcases hok with ⟨h, _⟩ | ⟨_, h, _⟩; cases h; exact h
      simp only [Bool.false_eq_true, if_false] at HE
      generalize ctextL [a, b, c, d, e] = tx at *
      have HT := Lib.hid (fun W hW => HTX.out W hW hlc)
      clear hok hlc HTX
      obtain ⟨r0, r1, r2, r3, r4, r5⟩ := HN3.out.cells
      have g1 := HN3.out.frozen 1
      have hs3' : w2.heap.size < w3.heap.size := by omega
      have hlo := HB2.out.size
      rw [hw3] at c0 c1 c2 c3 c4 c5 c6 c7 c8 c9 c10 r0 r1 r2 r3 r4 r5 g1
      go_wp2_with fail
      rw [← hw3]
      clear c0 c1 c2 c3 c4 c5 c6 c7 c8 c9 c10 r0 r1 r2 r3 r4 r5 g1 d0 d1 d2 d3 d4 d5 d6 d7 d8 d9 d10
      refine (HT.out _ (HL.out.on HB3.out)).mono ?_
      rintro x w4 ⟨rfl, hb⟩
      have HB4 := Lib.hid (HB3.out.trans (hb.mono HB3.out.size)); have HR4 := Lib.hid (HR3.out.on hb); have HN4 := Lib.hid (HN3.out.on hb)
      clear hb HB3 HR3 HN3 HJ3 HT hw3
      obtain ⟨q0, q1, q2, q3, q4, q5⟩ := HN4.out.cells
      have p1 := HN4.out.frozen 1
      have hne : w.heap.size + 1 ≠ w2.heap.size := Nat.ne_of_lt HR2.out.lt
      have hx5 : WishAt (w4.setCell ⟨w2.heap.size, 1, none⟩ (.string ⟨tx.toArray⟩)) w2.heap.size ⟨n, tx, t, ov, ca, re⟩ := by
        have h : D.Box w4 w2.heap.size 26 #[.int .u32 n, .string ⟨[].toArray⟩, .int .i64 t, .int .i64 ov, .int .i64 ca, .int .i64 re] := HN4.out
        exact h.set 1 _
      have hr5 : WishAt (w4.setCell ⟨w2.heap.size, 1, none⟩ (.string ⟨tx.toArray⟩)) (w.heap.size + 1) zeroW := D.Box.far HR4.out hne _
      have hb5 := HB4.out.setCell (p := ⟨w2.heap.size, 1, none⟩) hlo (.string ⟨tx.toArray⟩)
      have HR5 := Lib.hid hr5; have HB5 := Lib.hid hb5
      obtain ⟨y0, y1, y2, y3, y4, y5⟩ := hx5.cells
      clear hx5 hr5 hb5
      obtain ⟨r0, r1, r2, r3, r4, r5⟩ := HR5.out.cells
      have g0 := HR5.out.frozen 0; have g1 := HR5.out.frozen 1; have g2 := HR5.out.frozen 2; have g3 := HR5.out.frozen 3; have g4 := HR5.out.frozen 4; have g5 := HR5.out.frozen 5
      go_wp2_with fail
      obtain ⟨Wf, hWf, hjf, hbf⟩ := set6_run HR5.out HB5.out (Nat.le_succ _) n tx t ov ca re
      unfold set6V at hWf
      rw [← hWf]
      clear hWf r0 r1 r2 r3 r4 r5 g0 g1 g2 g3 g4 g5
      obtain ⟨r0, r1, r2, r3, r4, r5⟩ := hjf.cells
      exact bodyPost_ret (v := .tuple #[wishV ⟨n, tx, t, ov, ca, re⟩, .int .i64 0]) (by rw [wishV_six]; simp [results, Tryz.results21, go_sem, r0, r1, r2, r3, r4, r5]) rfl ⟨by rw [HE.out], hbf⟩

  · have hz1 : (z != 0) = true := by simpa using hz
    have HE := Lib.hid (HW1.out hz)
    unfold zeroW at HE
    obtain ⟨r0, r1, r2, r3, r4, r5⟩ := HR2.out.cells
    have g0 := HR2.out.frozen 0; have g1 := HR2.out.frozen 1; have g2 := HR2.out.frozen 2; have g3 := HR2.out.frozen 3; have g4 := HR2.out.frozen 4; have g5 := HR2.out.frozen 5
    go_wp2_with fail
    obtain ⟨Wf, hWf, hjf, hbf⟩ := set6_run HR2.out HB2.out (Nat.le_succ _) 0 [] 0 0 0 0
    unfold set6V at hWf
    rw [← hWf]
    clear hWf r0 r1 r2 r3 r4 r5 g0 g1 g2 g3 g4 g5
    obtain ⟨r0, r1, r2, r3, r4, r5⟩ := hjf.cells
    exact bodyPost_ret (v := .tuple #[wishV ⟨0, [], 0, 0, 0, 0⟩, .int .i64 z]) (by rw [wishV_six]; simp [results, Tryz.results21, go_sem, r0, r1, r2, r3, r4, r5]) rfl ⟨by rw [HE.out], hbf⟩
end Go.Proofs.YtbaobjbckabnhaaGreatDoor
