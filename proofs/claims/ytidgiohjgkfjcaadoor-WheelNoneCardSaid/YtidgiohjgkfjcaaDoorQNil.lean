/- What nothing tells: the calls at nil, walked. -/
import Derived.Test.YtidgiohjgkfjcaaDoorQWakes
namespace Go.Proofs.YtidgiohjgkfjcaaDoor
open Go.RowKit

attribute [local go_sem] Oper.semAt_some

theorem filled_nil (n b : Nat) : SeqSt Fence.wide n Tryd.prog 56 #[.pointer (some ⟨b, 0, none⟩)] wenc (fun (_ : Unit) W => QBox W b 24 #[.pointer none]) (fun _ => True) (fun _ _ => False) (fun _ _ _ => True) (fun _ => True) := by
  intro l J Jx s0 W _ hR hJ hY h0
  have HJ0 := Lib.hid h0
  have e0 : W.cell? ⟨b, 0, none⟩ = some (.pointer none) := (hR _ _ h0).cell 0
  clear hR h0 hJ hY
  refine callsIn_of_wp Tryd.func56 rfl trivial ?_ rfl
  simp only [Tryd.ntmps56, List.size_toArray, List.length_cons, List.length_nil, Nat.reduceAdd, Nat.reduceSub, Array.replicate_succ, Array.replicate_zero, List.push_toArray, List.append_toArray, List.nil_append, List.cons_append]
  gi_wp2_with fail
  refine bodyPost_ret (results_none rfl _ _ _) rfl ?_
  exact ⟨⟨_, rfl⟩, .inl ⟨s0, trivial, HJ0.out⟩⟩
set_option maxRecDepth 100000 in
set_option maxHeartbeats 1000000 in
theorem len_nil (w : World) : Calls Tryd.prog 24 #[.pointer none] w fun e w' => e = .returned (.int .i64 0) ∧ Below w.heap.size w w' := by
  refine (callsIn_wide (n := 3)).1 ?_
  have HFI := Lib.hid (fun W => filled_any (.pointer none) W ⟨_, rfl⟩)
  refine callsIn_of_wp_marks Tryd.func24 rfl trivial ?_ rfl
  simp only [Tryd.ntmps24, List.size_toArray, List.length_cons, List.length_nil, Nat.reduceAdd, Nat.reduceSub, Array.replicate_succ, Array.replicate_zero, List.push_toArray, List.append_toArray, List.nil_append, List.cons_append]
  gi_wp2_with fail
  refine ⟨trivial, (callsIn_wide.2 (HFI.out _)).mono ?_⟩
  rintro e w1 ⟨rfl, rfl⟩
  gi_wp2_with fail
  obtain ⟨W, hWe⟩ : ∃ W, W = (w.alloc (.cells #[.int .i64 0] 3)).alloc (.cells #[.pointer none] 24) := ⟨_, rfl⟩
  have hB : Below w.heap.size w W := by rw [hWe]; exact ((Below.refl _ _).alloc (Nat.le_refl _) _).alloc (by simp) _
  have bN : QBox W w.heap.size 3 #[.int .i64 0] := by rw [hWe]; exact (QBox.new _ _ _).alloc _
  have bP : QBox W (w.heap.size + 1) 24 #[.pointer none] := by
    rw [hWe]
    have := QBox.new (w.alloc (.cells #[.int .i64 0] 3)) 24 #[.pointer none]
    rwa [World.size_alloc] at this
  have hsz : W.heap.size = w.heap.size + 2 := by rw [hWe]; simp
  rw [← hWe]
  clear hWe
  refine wpIn_rangeSt (σ := Unit) (α := WX) rfl (by omega) (gf := 56) (lb := #[.pointer (some ⟨w.heap.size + 1, 0, none⟩)]) rfl trivial (enters_of Tryd.func56 (by kernel_rfl) rfl)
    (filled_nil 2 (w.heap.size + 1)) (fun _ => rfl)
    (fun _ W' => QBox W' w.heap.size 3 #[.int .i64 0] ∧ QBox W' (w.heap.size + 1) 24 #[.pointer none] ∧ Below w.heap.size w W')
    (fun _ _ => False) () trivial (fun s W' h => h.2.1)
    (fun s => ((bears_box _ _ _ _).and ((bears_box _ _ _ _).and (bears_below (Nat.le_refl _) (by omega)))))
    (fun c => bears_const _ _) ⟨bN, bP, hB⟩ ?round ?done ?stop
  case round => intro _ _ _ _ _ _ _ h; exact h.elim
  case done =>
    rintro B s W' hB2 _ ⟨hn, hp, hb⟩ hD
    have e0 : W'.cell? ⟨w.heap.size, 0, none⟩ = some (.int .i64 0) := hn.cell 0
    have HB2 := Lib.hid hb; have HD := Lib.hid hD
    clear hn hp hb hD
    gi_wp2_with fail
    refine ⟨by simp, .inl ⟨_, _, rfl, run_takeDeferred HD.out, ?_⟩⟩
    refine ⟨.int .i64 0, by simp [results, Tryd.f24, go_sem], rfl, HB2.out.trans (belowK_b (w := w) (Nat.le_refl _) _ B _ _ (by omega) HD.out rfl rfl)⟩
  case stop => rintro B c W' _ h; exact h.elim
set_option maxRecDepth 100000 in
set_option maxHeartbeats 1000000 in
theorem all_nil (w : World) : Calls Tryd.prog 23 #[.pointer none] w fun e w' => e = .returned (.slice none 0 0) ∧ Below w.heap.size w w' := by
  refine (callsIn_wide (n := 3)).1 ?_
  have HFI := Lib.hid (fun W => filled_any (.pointer none) W ⟨_, rfl⟩)
  refine callsIn_of_wp_marks Tryd.func23 rfl trivial ?_ rfl
  simp only [Tryd.ntmps23, List.size_toArray, List.length_cons, List.length_nil, Nat.reduceAdd, Nat.reduceSub, Array.replicate_succ, Array.replicate_zero, List.push_toArray, List.append_toArray, List.nil_append, List.cons_append]
  gi_wp2_with fail
  refine ⟨trivial, (callsIn_wide.2 (HFI.out _)).mono ?_⟩
  rintro e w1 ⟨rfl, rfl⟩
  gi_wp2_with fail
  obtain ⟨W, hWe⟩ : ∃ W, W = (w.alloc (.cells #[.slice none 0 0] 29)).alloc (.cells #[.pointer none] 24) := ⟨_, rfl⟩
  have hB : Below w.heap.size w W := by rw [hWe]; exact ((Below.refl _ _).alloc (Nat.le_refl _) _).alloc (by simp) _
  have bN : QBox W w.heap.size 29 #[.slice none 0 0] := by rw [hWe]; exact (QBox.new _ _ _).alloc _
  have bP : QBox W (w.heap.size + 1) 24 #[.pointer none] := by
    rw [hWe]
    have := QBox.new (w.alloc (.cells #[.slice none 0 0] 29)) 24 #[.pointer none]
    rwa [World.size_alloc] at this
  have hsz : W.heap.size = w.heap.size + 2 := by rw [hWe]; simp
  rw [← hWe]
  clear hWe
  refine wpIn_rangeSt (σ := Unit) (α := WX) rfl (by omega) (gf := 56) (lb := #[.pointer (some ⟨w.heap.size + 1, 0, none⟩)]) rfl trivial (enters_of Tryd.func56 (by kernel_rfl) rfl)
    (filled_nil 2 (w.heap.size + 1)) (fun _ => rfl)
    (fun _ W' => QBox W' w.heap.size 29 #[.slice none 0 0] ∧ QBox W' (w.heap.size + 1) 24 #[.pointer none] ∧ Below w.heap.size w W')
    (fun _ _ => False) () trivial (fun s W' h => h.2.1)
    (fun s => ((bears_box _ _ _ _).and ((bears_box _ _ _ _).and (bears_below (Nat.le_refl _) (by omega)))))
    (fun c => bears_const _ _) ⟨bN, bP, hB⟩ ?round ?done ?stop
  case round => intro _ _ _ _ _ _ _ h; exact h.elim
  case done =>
    rintro B s W' hB2 _ ⟨hn, hp, hb⟩ hD
    have e0 : W'.cell? ⟨w.heap.size, 0, none⟩ = some (.slice none 0 0) := hn.cell 0
    have HB2 := Lib.hid hb; have HD := Lib.hid hD
    clear hn hp hb hD
    gi_wp2_with fail
    refine ⟨by simp, .inl ⟨_, _, rfl, run_takeDeferred HD.out, ?_⟩⟩
    refine ⟨.slice none 0 0, by simp [results, Tryd.f23, go_sem], rfl, HB2.out.trans (belowK_b (w := w) (Nat.le_refl _) _ B _ _ (by omega) HD.out rfl rfl)⟩
  case stop => rintro B c W' _ h; exact h.elim
/-- The boxes that find lays, of nil. -/
structure FindN (H : Nat) (num : Int) (W : World) : Prop where
  b0 : QBox W H 32 #[.int .u64 num]
  b1 : QBox W (H + 1) 80 #[.int .i64 0, .int .i64 0]
  b2 : QBox W (H + 1 + 1) 3 #[.int .i64 0]
  b3 : QBox W (H + 1 + 1 + 1) 4 #[.bool false]
  b4 : QBox W (H + 1 + 1 + 1 + 1) 24 #[.pointer none]
theorem FindN.turned {w w' : World} {H : Nat} {num : Int} (h : FindN H num w) {row : Option Nat} (hg : w.grownBy w' row) (hr : ∀ r, row = some r → ∃ o : Obj, w.heap[r]? = some o ∧ o.isCells = false) : FindN H num w' :=
  ⟨h.b0.turned hg hr, h.b1.turned hg hr, h.b2.turned hg hr, h.b3.turned hg hr, h.b4.turned hg hr⟩
theorem FindN.new (w : World) (num : Int) : FindN w.heap.size num (((((w.alloc (.cells #[.int .u64 num] 32)).alloc (.cells #[.int .i64 0, .int .i64 0] 80)).alloc (.cells #[.int .i64 0] 3)).alloc (.cells #[.bool false] 4)).alloc (.cells #[.pointer none] 24)) := by
  have h0 := QBox.new w 32 #[.int .u64 num]
  have h1 := QBox.new (w.alloc (.cells #[.int .u64 num] 32)) 80 #[.int .i64 0, .int .i64 0]
  have h2 := QBox.new ((w.alloc (.cells #[.int .u64 num] 32)).alloc (.cells #[.int .i64 0, .int .i64 0] 80)) 3 #[.int .i64 0]
  have h3 := QBox.new (((w.alloc (.cells #[.int .u64 num] 32)).alloc (.cells #[.int .i64 0, .int .i64 0] 80)).alloc (.cells #[.int .i64 0] 3)) 4 #[.bool false]
  have h4 := QBox.new ((((w.alloc (.cells #[.int .u64 num] 32)).alloc (.cells #[.int .i64 0, .int .i64 0] 80)).alloc (.cells #[.int .i64 0] 3)).alloc (.cells #[.bool false] 4)) 24 #[.pointer none]
  simp only [World.size_alloc] at h1 h2 h3 h4
  exact ⟨(((h0.alloc _).alloc _).alloc _).alloc _, ((h1.alloc _).alloc _).alloc _, (h2.alloc _).alloc _, h3.alloc _, h4⟩
set_option maxRecDepth 100000 in
set_option maxHeartbeats 1000000 in
theorem find_nil (num : Int) (w : World) : Calls Tryd.prog 35 #[.pointer none, .int .u64 num] w fun e w' => e = .returned (.tuple #[.agg #[.int .i64 0, .int .i64 0], .int .i64 0, .bool false]) ∧ Below w.heap.size w w' := by
  refine (callsIn_wide (n := 3)).1 ?_
  have HFI := Lib.hid (fun W => filled_any (.pointer none) W ⟨_, rfl⟩)
  refine callsIn_of_wp_marks Tryd.func35 rfl trivial ?_ rfl
  simp only [Tryd.ntmps35, List.size_toArray, List.length_cons, List.length_nil, Nat.reduceAdd, Nat.reduceSub, Array.replicate_succ, Array.replicate_zero, List.push_toArray, List.append_toArray, List.nil_append, List.cons_append]
  gi_wp2_with fail
  refine ⟨trivial, (callsIn_wide.2 (HFI.out _)).mono ?_⟩
  rintro e w1 ⟨rfl, rfl⟩
  gi_wp2_with fail
  obtain ⟨W, hWe⟩ : ∃ W, W = ((((w.alloc (.cells #[.int .u64 num] 32)).alloc (.cells #[.int .i64 0, .int .i64 0] 80)).alloc (.cells #[.int .i64 0] 3)).alloc (.cells #[.bool false] 4)).alloc (.cells #[.pointer none] 24) := ⟨_, rfl⟩
  have hB : Below w.heap.size w W := by rw [hWe]; exact (((((Below.refl _ _).alloc (Nat.le_refl _) _).alloc (by simp) _).alloc (by simp; omega) _).alloc (by simp; omega) _).alloc (by simp; omega) _
  have hFB : FindN w.heap.size num W := by rw [hWe]; exact FindN.new w num
  have hsz : W.heap.size = w.heap.size + 5 := by rw [hWe]; simp
  rw [← hWe]
  clear hWe
  refine wpIn_rangeSt (σ := Unit) (α := WX) rfl (by omega) (gf := 56) (lb := #[.pointer (some ⟨w.heap.size + 1 + 1 + 1 + 1, 0, none⟩)]) rfl trivial (enters_of Tryd.func56 (by kernel_rfl) rfl)
    (filled_nil 2 (w.heap.size + 1 + 1 + 1 + 1)) (fun _ => rfl)
    (fun _ W' => FindN w.heap.size num W' ∧ Below w.heap.size w W')
    (fun _ _ => False) () trivial (fun s W' h => h.1.b4)
    (fun s => (Bears.and (fun A B row h hg hr => h.turned hg (fun r e => (hr r e).2)) (bears_below (Nat.le_refl _) (by omega))))
    (fun c => bears_const _ _) ⟨hFB, hB⟩ ?round ?done ?stop
  case round => intro _ _ _ _ _ _ _ h; exact h.elim
  case done =>
    rintro B s W' hB2 _ ⟨hf, hb⟩ hD
    have HF3 := Lib.hid hf; have HB3 := Lib.hid hb; have HD := Lib.hid hD
    obtain ⟨d0, d1, f0, f1⟩ := hf.b1.two
    obtain ⟨d2, f2⟩ := box_three hf.b2
    obtain ⟨d3, f3⟩ := box_three hf.b3
    clear hf hb hD
    gi_wp2_with fail
    have hf4 : QBox _ (w.heap.size + 1) 80 #[.int .i64 0, .int .i64 0] := ((HF3.out.b1.set2 (.int .i64 0) (.int .i64 0)).far (p := w.heap.size + 1 + 1) (i := 0) (by omega) (.int .i64 0)).far (p := w.heap.size + 1 + 1 + 1) (i := 0) (by omega) (.bool false)
    have hf5 : QBox _ (w.heap.size + 1 + 1) 3 #[.int .i64 0] := (((HF3.out.b2.far (p := w.heap.size + 1) (i := 0) (by omega) (.int .i64 0)).far (p := w.heap.size + 1) (i := 1) (by omega) (.int .i64 0)).set 0 (.int .i64 0)).far (p := w.heap.size + 1 + 1 + 1) (i := 0) (by omega) (.bool false)
    have hf6 : QBox _ (w.heap.size + 1 + 1 + 1) 4 #[.bool false] := (((HF3.out.b3.far (p := w.heap.size + 1) (i := 0) (by omega) (.int .i64 0)).far (p := w.heap.size + 1) (i := 1) (by omega) (.int .i64 0)).far (p := w.heap.size + 1 + 1) (i := 0) (by omega) (.int .i64 0)).set 0 (.bool false)
    have hb4 := below_set4 HB3.out (Nat.le_refl _) (.int .i64 0) (.int .i64 0) (.int .i64 0) (.bool false)
    have hd4 := ((((KeepsOthers.setCell W' ⟨w.heap.size + 1, 0, none⟩ (.int .i64 0)).trans (KeepsOthers.setCell _ ⟨w.heap.size + 1, 1, none⟩ (.int .i64 0))).trans (KeepsOthers.setCell _ ⟨w.heap.size + 1 + 1, 0, none⟩ (.int .i64 0))).trans (KeepsOthers.setCell _ ⟨w.heap.size + 1 + 1 + 1, 0, none⟩ (.bool false))).same B _ HD.out rfl
    clear d0 d1 d2 d3 f0 f1 f2 f3
    generalize ((((W'.setCell ⟨w.heap.size + 1, 0, none⟩ (.int .i64 0)).setCell ⟨w.heap.size + 1, 1, none⟩ (.int .i64 0)).setCell ⟨w.heap.size + 1 + 1, 0, none⟩ (.int .i64 0)).setCell ⟨w.heap.size + 1 + 1 + 1, 0, none⟩ (.bool false)) = W4 at *
    refine ⟨by simp, .inl ⟨_, _, rfl, run_takeDeferred hd4, ?_⟩⟩
    obtain ⟨d0, d1, _, _⟩ := (hf4.put ⟨_, hd4, rfl⟩ (.deferred none)).two
    obtain ⟨d2, _⟩ := box_three (hf5.put ⟨_, hd4, rfl⟩ (.deferred none))
    obtain ⟨d3, _⟩ := box_three (hf6.put ⟨_, hd4, rfl⟩ (.deferred none))
    refine ⟨.tuple #[.agg #[.int .i64 0, .int .i64 0], .int .i64 0, .bool false], by simp [results, Tryd.f35, go_sem, d0, d1, d2, d3], rfl, hb4.trans (belowK_b (w := w) (Nat.le_refl _) W4 B _ _ (by omega) hd4 rfl rfl)⟩
  case stop => rintro B c W' _ h; exact h.elim
end Go.Proofs.YtidgiohjgkfjcaaDoor
