/- What is offered of a row: walked. -/
import Derived.Test.YthghcffibljclaaDoorRXOffers
namespace Go.Proofs.YthghcffibljclaaDoor
open Go.RowKit

theorem jobT_range {ev : List (BitVec 64) → Bool} {j : JobZ} {t : Int} (h : j.err ev = 0) (ht : j.T t) : 0 ≤ t ∧ t ≤ 253402300799 := by
  obtain ⟨h1, _⟩ := err_ok h
  have h2 := (hold_iff.1 h1).1
  unfold JobZ.T at ht
  split at ht
  · rename_i ho
    rw [if_pos ho] at h2
    unfold maxT at h2
    omega
  · exact TC_times _ t ht
/-- The closures that tell what is offered: one each Catch. -/
def clo (gr gn gl : Nat) : Value := .agg #[.func (.func 46) #[] #[.pointer (some ⟨gl, 0, none⟩), .pointer (some ⟨gn, 0, none⟩)], .func (.func 47) #[] #[.pointer (some ⟨gl, 0, none⟩), .pointer (some ⟨gr, 0, none⟩)], .func (.func 48) #[] #[.pointer (some ⟨gr, 0, none⟩), .pointer (some ⟨gn, 0, none⟩)]]
theorem und_three : ∃ d, Tryd.prog.underlying 87 = some d ∧ d.isRow = true := und_of (by kernel_rfl)
theorem size_three : (Tryd.prog.info? 87).map (·.size) = some 3 := by kernel_rfl
structure CloAt (r : RowZ) (v : Value) (now : Int) (gr gn gl : Nat) (w : World) : Prop where
  row : RowAt w gr r v
  now : w.cell? ⟨gn, 0, none⟩ = some (.int .i64 now)
  last : w.cell? ⟨gl, 0, none⟩ = some (.func (.func 45) #[] #[.pointer (some ⟨gr, 0, none⟩), .pointer (some ⟨gn, 0, none⟩)])
set_option maxRecDepth 100000 in
set_option maxHeartbeats 4000000 in
theorem offers_any (r : RowZ) (v : Value) (now : Int) (w : World) (hf : r.Fit) :
    Calls Tryd.prog 31 #[rowV r v, .int .i64 now] w fun e w' => (∃ gr gn gl, e = .returned (clo gr gn gl) ∧ CloAt r v now gr gn gl w') ∧ Below w.heap.size w w' := by
  have HRV : Hid (rowV r v = .agg (rowC r v).toArray) := Lib.hid rfl
  rw [HRV.out]
  obtain ⟨W0, hW0⟩ : ∃ W : World, W = ((w.alloc (.cells (rowC r v).toArray 33)).alloc (.cells #[.int .i64 now] 2)).alloc (.cells #[.nilFunc, .nilFunc, .nilFunc] 87) := ⟨_, rfl⟩
  have hr0 : RowAt W0 w.heap.size r v := by rw [hW0]; exact ⟨hf, ((D.Box.new w _ _).alloc _).alloc _⟩
  have hn0 : D.Box W0 (w.heap.size + 1) 2 #[.int .i64 now] := by
    have := D.Box.new (w.alloc (.cells (rowC r v).toArray 33)) 2 #[.int .i64 now]
    rw [World.size_alloc] at this
    rw [hW0]
    exact this.alloc _
  have hz0 : D.Box W0 (w.heap.size + 2) 87 #[.nilFunc, .nilFunc, .nilFunc] := by
    have := D.Box.new ((w.alloc (.cells (rowC r v).toArray 33)).alloc (.cells #[.int .i64 now] 2)) 87 #[.nilFunc, .nilFunc, .nilFunc]
    rw [World.size_alloc, World.size_alloc] at this
    rw [hW0]
    exact this
  have hs0 : W0.heap.size = w.heap.size + 3 := by rw [hW0]; simp
  have hb0 : Below w.heap.size w W0 := by rw [hW0]; exact ((new_below w _).alloc (by simp) _).alloc (by simp; omega) _
  have HR0 := Lib.hid hr0; have HN0 := Lib.hid hn0; have HZ0 := Lib.hid hz0; have HS0 := Lib.hid hs0; have HB0 := Lib.hid hb0
  clear hr0 hn0 hz0 hs0 hb0
  generalize hcs : rowC r v = CS at *
  go_enter Tryd.func31, Tryd.ntmps31
  go_upto_region 1 with fail
  rw [← hW0]
  clear hW0
  go_upto_region 2 with fail
  have HX1 := Lib.hid (D.Box.new W0 103 #[.func (.func 45) #[] #[.pointer (some ⟨w.heap.size, 0, none⟩), .pointer (some ⟨w.heap.size + 1, 0, none⟩)]])
  have HBA := Lib.hid (new_below W0 (.cells #[.func (.func 45) #[] #[.pointer (some ⟨w.heap.size, 0, none⟩), .pointer (some ⟨w.heap.size + 1, 0, none⟩)]] 103))
  generalize W0.alloc (.cells #[.func (.func 45) #[] #[.pointer (some ⟨w.heap.size, 0, none⟩), .pointer (some ⟨w.heap.size + 1, 0, none⟩)]] 103) = W1 at *
  have hz1 := D.Box.belowAll HZ0.out HBA.out
  have z0 := D.Box.cell hz1 0; have z1 := D.Box.cell hz1 1; have z2 := D.Box.cell hz1 2
  simp only [List.getElem?_toArray, List.getElem?_cons_zero, List.getElem?_cons_succ] at z0 z1 z2
  have f0 := hz1.frozen 0; have f1 := hz1.frozen 1; have f2 := hz1.frozen 2
  have hz4 := ((hz1.set 0 (.func (.func 46) #[] #[.pointer (some ⟨W0.heap.size, 0, none⟩), .pointer (some ⟨w.heap.size + 1, 0, none⟩)])).set 1 (.func (.func 47) #[] #[.pointer (some ⟨W0.heap.size, 0, none⟩), .pointer (some ⟨w.heap.size, 0, none⟩)])).set 2 (.func (.func 48) #[] #[.pointer (some ⟨w.heap.size, 0, none⟩), .pointer (some ⟨w.heap.size + 1, 0, none⟩)])
  have hb4 := ((((HB0.out.trans (HBA.out.mono HB0.out.size)).setCell (p := ⟨w.heap.size + 2, 0, none⟩) (by show w.heap.size ≤ w.heap.size + 2; omega) (.func (.func 46) #[] #[.pointer (some ⟨W0.heap.size, 0, none⟩), .pointer (some ⟨w.heap.size + 1, 0, none⟩)])).setCell (p := ⟨w.heap.size + 2, 1, none⟩) (by show w.heap.size ≤ w.heap.size + 2; omega) (.func (.func 47) #[] #[.pointer (some ⟨W0.heap.size, 0, none⟩), .pointer (some ⟨w.heap.size, 0, none⟩)]))).setCell (p := ⟨w.heap.size + 2, 2, none⟩) (by show w.heap.size ≤ w.heap.size + 2; omega) (.func (.func 48) #[] #[.pointer (some ⟨w.heap.size, 0, none⟩), .pointer (some ⟨w.heap.size + 1, 0, none⟩)])
  have hr1 := HR0.out.on HBA.out
  have hn1 := D.Box.belowAll HN0.out HBA.out
  have HC4 : Hid (∀ a b c, CloAt r v now w.heap.size (w.heap.size + 1) W0.heap.size (((W1.setCell ⟨w.heap.size + 2, 0, none⟩ a).setCell ⟨w.heap.size + 2, 1, none⟩ b).setCell ⟨w.heap.size + 2, 2, none⟩ c)) := Lib.hid (fun a b c => by
    have k1 : w.heap.size ≠ w.heap.size + 2 := by omega
    have k2 : w.heap.size + 1 ≠ w.heap.size + 2 := by omega
    have k3 : W0.heap.size ≠ w.heap.size + 2 := by have := HS0.out; omega
    refine ⟨⟨hr1.1, ((hr1.2.far k1 a).far k1 b).far k1 c⟩, D.Box.cell (((hn1.far k2 a).far k2 b).far k2 c) 0, D.Box.cell (((HX1.out.far k3 a).far k3 b).far k3 c) 0⟩)
  have HL4 := Lib.hid (loadVar_of (cs := [.func (.func 46) #[] #[.pointer (some ⟨W0.heap.size, 0, none⟩), .pointer (some ⟨w.heap.size + 1, 0, none⟩)], .func (.func 47) #[] #[.pointer (some ⟨W0.heap.size, 0, none⟩), .pointer (some ⟨w.heap.size, 0, none⟩)], .func (.func 48) #[] #[.pointer (some ⟨w.heap.size, 0, none⟩), .pointer (some ⟨w.heap.size + 1, 0, none⟩)]]) hz4 3 und_three size_three rfl)
  have HB4 := Lib.hid hb4
  clear hz1 hz4 hb4 hr1 hn1 HR0 HN0 HZ0 HB0 HX1 HBA
  go_wp2_with fail
  exact bodyPost_ret (v := clo w.heap.size (w.heap.size + 1) W0.heap.size) (results_cell Tryd.results31 (by rfl) HL4.out) rfl ⟨⟨_, _, _, rfl, HC4.out _ _ _⟩, HB4.out⟩
/-- What Occur tells of any row, at any time. -/
def OccAll (ev : List (BitVec 64) → Bool) (r : RowZ) (now : Int) (l : List Int) (nx : Int) : Prop := (r.Right ev ∧ D.timeB now = true ∧ Occ r now l nx) ∨ (¬ (r.Right ev ∧ D.timeB now = true) ∧ l = [] ∧ nx = -1)
def OccIs (ev : List (BitVec 64) → Bool) (r : RowZ) (now : Int) (B : Nat) (e : Ending) (w : World) : Prop := ∃ y l nx, e = .returned (.tuple #[y, .int .i64 nx]) ∧ OwnT w B y l ∧ OccAll ev r now l nx
theorem right_range {ev : List (BitVec 64) → Bool} {r : RowZ} (h : r.Right ev) (hn : r.nx ≠ -1) : r.j.T r.nx ∧ 0 ≤ r.nx ∧ r.nx ≤ 253402300799 := by
  have h3 := (front_next h hn).2.2
  exact ⟨h3, jobT_range h.job h3⟩
end Go.Proofs.YthghcffibljclaaDoor
