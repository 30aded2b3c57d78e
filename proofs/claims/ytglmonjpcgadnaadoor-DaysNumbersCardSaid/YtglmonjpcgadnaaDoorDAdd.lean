/- Add: the date so many days on. -/
import Derived.Test.YtglmonjpcgadnaaDoorDAt
namespace Go.Proofs.YtglmonjpcgadnaaDoor
open Go.RowKit

/-- Behind a call: the result's block is as it was. -/
theorem res_box (w : World) (y m d : Int) {w2 : World} (hb : Below ((w.alloc (dateO y m d)).alloc (dateO 0 0 0)).heap.size ((w.alloc (dateO y m d)).alloc (dateO 0 0 0)) w2) :
    Box w2 (w.heap.size + 1) 26 #[.int .i64 0, .int .i64 0, .int .i64 0] ∧ Below w.heap.size w w2 ∧ w.heap.size + 1 < w2.heap.size := by
  have h1 : Box ((w.alloc (dateO y m d)).alloc (dateO 0 0 0)) (w.heap.size + 1) 26 #[.int .i64 0, .int .i64 0, .int .i64 0] := by
    have := Box.new (w.alloc (dateO y m d)) 26 #[.int .i64 0, .int .i64 0, .int .i64 0]
    have e : (w.alloc (dateO y m d)).heap.size = w.heap.size + 1 := by simp
    rw [e] at this
    exact this
  have h2 := h1.belowAll hb
  exact ⟨h2, (((Below.refl _ w).alloc (Nat.le_refl _) _).alloc (by simp) _).trans (hb.mono (by simp; omega)), h2.lt⟩
theorem add_wrap {N n : Int} (h0 : 0 ≤ N) (h1 : N ≤ 2932896) (n0 : -9223372036854775808 ≤ n) (n1 : n ≤ 9223372036854775807) (h : N + n < 0 ∨ 2932896 < N + n) : wrap64 (N + n) < 0 ∨ 2932896 < wrap64 (N + n) := by
  unfold wrap64; omega
theorem add_no (y m d n : Int) (w : World) (hL : Laid w) (h : ¬ RightZ y m d) :
    Calls Tryd.prog 25 #[dateV y m d, .int .i64 n] w fun e w' => e = .returned (.tuple #[dateV 0 0 0, .int .i64 140]) ∧ Below w.heap.size w w' := by
  have hc := of_no y m d _ ((hL.alloc (dateO y m d)).alloc (dateO 0 0 0)) h
  have hr := fun w2 => @res_box w y m d w2
  unfold dateV at *
  unfold dateO at hc hr
  have HC := Lib.hid hc
  have HR := Lib.hid hr
  clear h hc hr
  go_enter Tryd.func25, Tryd.ntmps25
  go_wp2_with fail
  refine HC.out.mono ?_
  rintro e w2 ⟨rfl, hb⟩
  obtain ⟨hx, hB, hs⟩ := HR.out _ hb
  obtain ⟨z0, z1, z2, f0, f1, f2⟩ := hx.three
  have HB := Lib.hid hB
  clear hb hx HC HR hB hL
  go_wp2_with fail
  refine bodyPost_ret (v := .tuple #[.agg #[.int .i64 0, .int .i64 0, .int .i64 0], .int .i64 140]) (by simp [results, Tryd.results25, go_sem, z0, z1, z2]) rfl ⟨rfl, ?_⟩
  exact ((HB.out.setCell (Nat.le_succ _) _).setCell (Nat.le_succ _) _).setCell (Nat.le_succ _) _
set_option maxRecDepth 100000 in
theorem add_out (y m d n : Int) (w : World) (hL : Laid w) (h : RightZ y m d) (n0 : -9223372036854775808 ≤ n) (n1 : n ≤ 9223372036854775807) (ho : numZ y m d + n < 0 ∨ 2932896 < numZ y m d + n) :
    Calls Tryd.prog 25 #[dateV y m d, .int .i64 n] w fun e w' => e = .returned (.tuple #[dateV 0 0 0, .int .i64 2]) ∧ Below w.heap.size w w' := by
  obtain ⟨q0, q1⟩ := num_range h
  have hw := add_wrap q0 q1 n0 n1 ho
  have ha := fun w => at_no (wrap64 (numZ y m d + n)) w hw
  have hc := of_ok y m d _ ((hL.alloc (dateO y m d)).alloc (dateO 0 0 0)) h
  have hr := fun w2 => @res_box w y m d w2
  unfold dateV at *
  unfold dateO at hc hr
  have HC := Lib.hid hc
  have HR := Lib.hid hr
  have HA := Lib.hid ha
  clear h hc hr ha n0 n1 ho hw q0 q1
  generalize numZ y m d = N at *
  go_enter Tryd.func25, Tryd.ntmps25
  go_wp2_with fail
  refine HC.out.mono ?_
  rintro e w2 ⟨rfl, hb⟩
  obtain ⟨hx, hB, hs⟩ := HR.out _ hb
  have HX := Lib.hid hx
  have HB := Lib.hid hB
  have HS := Lib.hid hs
  clear hb hx HC HR hB hL hs
  go_wp2_with fail
  refine (HA.out _).mono ?_
  rintro e w3 ⟨rfl, hb⟩
  have hx := HX.out.belowAll hb
  have hB := HB.out.trans (hb.mono HB.out.size)
  obtain ⟨z0, z1, z2, f0, f1, f2⟩ := hx.three
  have HB3 := Lib.hid hB
  clear hb hx hB HX HB HA
  go_wp2_with fail
  refine bodyPost_ret (v := .tuple #[.agg #[.int .i64 0, .int .i64 0, .int .i64 0], .int .i64 2]) (by simp [results, Tryd.results25, go_sem, z0, z1, z2]) rfl ⟨rfl, ?_⟩
  exact ((HB3.out.setCell (Nat.le_succ _) _).setCell (Nat.le_succ _) _).setCell (Nat.le_succ _) _
set_option maxRecDepth 100000 in
theorem add_ok (y m d n : Int) (w : World) (hL : Laid w) (h : RightZ y m d) (h0 : 0 ≤ numZ y m d + n) (h1 : numZ y m d + n ≤ 2932896) :
    Calls Tryd.prog 25 #[dateV y m d, .int .i64 n] w fun e w' => ∃ y' m' d' : Int, e = .returned (.tuple #[dateV y' m' d', .int .i64 0]) ∧ RightZ y' m' d' ∧ numZ y' m' d' = numZ y m d + n ∧ Below w.heap.size w w' := by
  obtain ⟨q0, q1⟩ := num_range h
  have ha := fun w hL => at_ok (numZ y m d + n) w hL h0 h1
  have hc := of_ok y m d _ ((hL.alloc (dateO y m d)).alloc (dateO 0 0 0)) h
  have hr := fun w2 => @res_box w y m d w2
  unfold dateV at *
  unfold dateO at hc hr
  have HC := Lib.hid hc
  have HR := Lib.hid hr
  have HA := Lib.hid ha
  clear h hc hr ha
  generalize numZ y m d = N at *
  go_enter Tryd.func25, Tryd.ntmps25
  go_wp2_with fail
  refine HC.out.mono ?_
  rintro e w2 ⟨rfl, hb⟩
  obtain ⟨hx, hB, hs⟩ := HR.out _ hb
  have HX := Lib.hid hx
  have HL := Lib.hid (hL.on hB)
  have HB := Lib.hid hB
  clear hb hx HC HR hB hL hs
  go_wp2_with fail
  refine (HA.out _ HL.out).mono ?_
  rintro e w3 ⟨y', m', d', rfl, hR, hN, hb⟩
  have hx := HX.out.belowAll hb
  have hB := HB.out.trans (hb.mono HB.out.size)
  obtain ⟨z0, z1, z2, f0, f1, f2⟩ := hx.three
  have HB3 := Lib.hid hB
  have HRR := Lib.hid hR
  have HN := Lib.hid hN
  clear hb hx hB HX HB HA hR hN
  go_wp2_with fail
  refine bodyPost_ret (v := .tuple #[.agg #[.int .i64 y', .int .i64 m', .int .i64 d'], .int .i64 0]) (by simp [results, Tryd.results25, go_sem, z0, z1, z2]) rfl ⟨y', m', d', rfl, HRR.out, HN.out, ?_⟩
  exact ((HB3.out.setCell (Nat.le_succ _) _).setCell (Nat.le_succ _) _).setCell (Nat.le_succ _) _
end Go.Proofs.YtglmonjpcgadnaaDoor
