/- Read: walked, of the program. -/
import Derived.Test.YtmjjdccpnepjjaaGreatDoorK1
import Derived.Test.YtmjjdccpnepjjaaGreatDoorKGFill
import Derived.Test.YtmjjdccpnepjjaaGreatDoorKGSplit
namespace Go.Proofs.YtmjjdccpnepjjaaGreatDoor
open Go.RowKit Go.Shelf

attribute [local go_sem] Oper.semAt_some

theorem box_kept {W W' : World} {g : Nat} {t : TypeId} {cs : Array Value} {row : Option Nat} (h : D.Box W g t cs) (hg : W.grownBy W' row) (hr : ∀ r, row = some r → ∃ o : Obj, W.heap[r]? = some o ∧ o.isCells = false) : D.Box W' g t cs :=
  (hg.block g (D.Box.lt h) (fun e => by
    obtain ⟨o, ho, hc⟩ := hr g e.symm
    have h' : W.heap[g]? = some (.cells cs t (0, 0)) := h
    rw [h'] at ho; cases ho; cases hc)).trans h
theorem CronAt.kept {W W' : World} {g : Nat} {L : List (BitVec 64)} {row : Option Nat} (h : CronAt W g L) (hg : W.grownBy W' row) (hr : ∀ r, row = some r → ∃ o : Obj, W.heap[r]? = some o ∧ o.isCells = false) : CronAt W' g L := ⟨h.1, box_kept h.2 hg hr⟩
theorem Sole.others {W W' : World} {g : Nat} {t : TypeId} {cs : Array Value} (h : Sole g W.heap.size W W') (hb : D.Box W g t cs) : KeepsOthers W W' :=
  ⟨h.size, fun k o hk ho => (h.block k (Array.getElem?_eq_some_iff.1 hk).1 (by
    rintro rfl
    have h' : W.heap[k]? = some (.cells cs t (0, 0)) := hb
    rw [h'] at hk; cases hk; cases ho)).trans hk⟩
theorem Sole.keep {W W' : World} {g a b : Nat} (h : Sole g W.heap.size W W') (ha : a ≤ g) (hs : a ≤ W.heap.size) (hb : g < b) : KeepC a b W W' :=
  ⟨h.below ha hs, fun k o hk ho _ => (h.block k (Array.getElem?_eq_some_iff.1 ho).1 (by omega)).trans ho⟩
theorem keepC_set {W : World} {a b p : Nat} (ha : a ≤ p) (hb : p < b) (u : Value) : KeepC a b W (W.setCell ⟨p, 0, none⟩ u) :=
  ⟨(Below.refl a W).setCell ha u, fun k o hk ho _ => (Below.heap_setCell W ⟨p, 0, none⟩ u k (by show k ≠ p; omega)).trans ho⟩
abbrev set5V (W : World) (g : Nat) (a b c d e : Value) : World := ((((W.setCell ⟨g, 0, none⟩ a).setCell ⟨g, 1, none⟩ b).setCell ⟨g, 2, none⟩ c).setCell ⟨g, 3, none⟩ d).setCell ⟨g, 4, none⟩ e
theorem keeps5 (W : World) (g : Nat) (a b c d e : Value) : KeepsOthers W (set5V W g a b c d e) :=
  (((((KeepsOthers.setCell _ _ _).trans (KeepsOthers.setCell _ _ _)).trans (KeepsOthers.setCell _ _ _)).trans (KeepsOthers.setCell _ _ _)).trans (KeepsOthers.setCell _ _ _))
theorem set5_zero {W : World} {g : Nat} (h : CronAt W g nilF) : CronAt (set5V W g (.int .u64 0) (.int .u64 0) (.int .u64 0) (.int .u64 0) (.int .u64 0)) g nilF := by
  have := h.set5 0#64 0#64 0#64 0#64 0#64
  rw [U_zero] at this
  exact this
theorem CronAt.drew {W : World} {g : Nat} {L : List (BitVec 64)} (h : CronAt W g L) : CronAt W.drew g L := h
theorem drew_heap {W : World} {D : Nat} {v : Option Obj} (h : W.heap[D]? = v) : W.drew.heap[D]? = v := h
theorem def_set5 {W : World} {D g : Nat} {a b c d e : Value} (h : W.heap[D]? = some (.deferred (some []))) : (set5V W g a b c d e).heap[D]? = some (.deferred (some [])) := (keeps5 W g a b c d e).same D _ h rfl
def creadV (s : List UInt8) : Value := match readC s with
  | (some l, _) => .tuple #[cronV l, .int .i64 0, .int .i64 0]
  | (none, p) => .tuple #[cronV nilF, .int .i64 (p : Nat), .int .i64 170]
theorem creadV_some {s : List UInt8} {l : List (BitVec 64)} {p : Nat} (h : readC s = (some l, p)) : creadV s = .tuple #[cronV l, .int .i64 0, .int .i64 0] := by unfold creadV; rw [h]
theorem creadV_none {s : List UInt8} {p : Nat} (h : readC s = (none, p)) : creadV s = .tuple #[cronV nilF, .int .i64 (p : Nat), .int .i64 170] := by unfold creadV; rw [h]
set_option maxRecDepth 100000 in
set_option maxHeartbeats 4000000 in
theorem cread_in (n : Nat) (hn : 3 ≤ n) (s : List UInt8) (w : World) (hL : LaidC w) (hs : s.length ≤ 256) :
    CallsIn Fence.wide n Tryz.prog 10 #[strV s] w fun e W' => e = .returned (creadV s) ∧ Below w.heap.size w W' := by
  have h1 : 1 ≤ n := by omega
  have HL := Lib.hid hL
  clear hL
  have hrun := Lib.hid (runC_read s)
  unfold strV
  have hsz : (⟨s.toArray⟩ : ByteArray).size = s.length := by show s.toArray.size = _; simp
  refine callsIn_of_wp_marks Tryz.func10 rfl trivial ?_ rfl
  simp only [Tryz.ntmps10, List.size_toArray, List.length_cons, List.length_nil, Nat.reduceAdd, Nat.reduceSub, Array.replicate_succ, Array.replicate_zero, List.push_toArray, List.append_toArray, List.nil_append, List.cons_append]
  gi_wp2_with fail
  refine scopeIn ?_
  gi_wp2_with fail
  refine labelIn ?_
  gi_wp2_with fail
  have hF : ∃ W0 : World, W0 = ((((w.alloc (.cells #[.int .u64 0, .int .u64 0, .int .u64 0, .int .u64 0, .int .u64 0] 27)).alloc (.cells #[.int .u64 0, .int .u64 0, .int .u64 0, .int .u64 0, .int .u64 0] 27)).alloc (.cells #[.int .i64 0] 3)).alloc (.cells #[.int .i64 (s.length : Int)] 3)) ∧ W0.heap.size = w.heap.size + 1 + 1 + 1 + 1 ∧ Below w.heap.size w W0 ∧ CronAt W0 w.heap.size nilF ∧ CronAt W0 (w.heap.size + 1) nilF ∧ D.Box W0 (w.heap.size + 1 + 1) 3 #[.int .i64 0] ∧ D.Box W0 (w.heap.size + 1 + 1 + 1) 3 #[.int .i64 (s.length : Int)] := by
    refine ⟨_, rfl, by simp, ((((Below.refl _ w).alloc (Nat.le_refl _) _).alloc (by simp) _).alloc (by simp; omega) _).alloc (by simp; omega) _, (((CronAt.zero w).alloc _).alloc _).alloc _, ?_, ?_, ?_⟩
    · have := ((CronAt.zero (w.alloc (.cells #[.int .u64 0, .int .u64 0, .int .u64 0, .int .u64 0, .int .u64 0] 27))).alloc (.cells #[.int .i64 0] 3)).alloc (.cells #[.int .i64 (s.length : Int)] 3)
      rwa [World.size_alloc] at this
    · have := (D.Box.new ((w.alloc (.cells #[.int .u64 0, .int .u64 0, .int .u64 0, .int .u64 0, .int .u64 0] 27)).alloc (.cells #[.int .u64 0, .int .u64 0, .int .u64 0, .int .u64 0, .int .u64 0] 27)) 3 #[.int .i64 0]).alloc (.cells #[.int .i64 (s.length : Int)] 3)
      rwa [World.size_alloc, World.size_alloc] at this
    · have := D.Box.new (((w.alloc (.cells #[.int .u64 0, .int .u64 0, .int .u64 0, .int .u64 0, .int .u64 0] 27)).alloc (.cells #[.int .u64 0, .int .u64 0, .int .u64 0, .int .u64 0, .int .u64 0] 27)).alloc (.cells #[.int .i64 0] 3)) 3 #[.int .i64 (s.length : Int)]
      rwa [World.size_alloc, World.size_alloc, World.size_alloc] at this
  obtain ⟨W0, hW0, hsz0, hB0, hC0, hC1, hF, hN⟩ := hF
  rw [← hW0]
  clear hW0
  have hwi := words_in7 (n - 1) s W0
  unfold strV at hwi
  refine ⟨trivial, hwi.mono ?_⟩
  rintro e w1 ⟨rfl, rfl⟩
  have hbx : (W0.alloc (.cells #[strV s] 9)).cell? ⟨W0.heap.size, 0, none⟩ = some (strV s) := by simp
  have hF : ∃ W1 : World, W1 = W0.alloc (.cells #[.string ⟨s.toArray⟩] 9) ∧ W1.heap.size = W0.heap.size + 1 ∧ Below w.heap.size w W1 ∧ CronAt W1 w.heap.size nilF ∧ CronAt W1 (w.heap.size + 1) nilF ∧ D.Box W1 (w.heap.size + 1 + 1) 3 #[.int .i64 0] ∧ D.Box W1 (w.heap.size + 1 + 1 + 1) 3 #[.int .i64 (s.length : Int)] ∧ W1.cell? ⟨W0.heap.size, 0, none⟩ = some (strV s) :=
    ⟨_, rfl, by simp, hB0.alloc (by omega) _, hC0.alloc _, hC1.alloc _, hF.alloc _, hN.alloc _, hbx⟩
  obtain ⟨W1, hW1, hsz1, hB1, hC0', hC1', hF', hN', hbx'⟩ := hF
  rw [← hW1]
  clear hW1 hbx hC0 hC1 hF hN hB0 hwi
  gi_wp2_with fail
  have HN := Lib.hid hrun.out
  have h4 : w.heap.size + 1 + 1 + 1 + 1 < W1.heap.size := by omega
  rw [hsz0] at hbx'
  refine wpIn_rangeFunc_ownF rfl h1 (gf := 64) (lb := #[.pointer (some ⟨w.heap.size + 1 + 1 + 1 + 1, 0, none⟩)]) rfl trivial (enters_of Tryz.func64 (by kernel_rfl) rfl)
    (words_stops (n - 1) (by omega) (w.heap.size + 1 + 1 + 1 + 1) w.heap.size s hs W1 h4 hbx' (HL.out.on hB1).fld) keepC_t (keepC_b (by omega)) (Below.refl _ _) (fun _ => rfl)
    (fun (pre : List WordT) W => (∃ (L : List (BitVec 64)) (f : Nat), f ≤ 5 ∧ CronAt W w.heap.size nilF ∧ CronAt W (w.heap.size + 1) L ∧ D.Box W (w.heap.size + 1 + 1) 3 #[.int .i64 (f : Int)] ∧ D.Box W (w.heap.size + 1 + 1 + 1) 3 #[.int .i64 (s.length : Int)] ∧ ∀ rest, runC s.length (pre.map (fun y : WordT => y.1) ++ rest) nilF 0 = runC s.length rest L f) ∧ Below w.heap.size w W)
    (fun c (pre : List WordT) W => (c = .exit 0 ∧ ∃ p : Nat, CronAt W w.heap.size nilF ∧ D.Box W (w.heap.size + 1 + 1) 3 #[.int .i64 0] ∧ D.Box W (w.heap.size + 1 + 1 + 1) 3 #[.int .i64 (p : Int)] ∧ ∀ rest, runC s.length (pre.map (fun y : WordT => y.1) ++ rest) nilF 0 = (none, p)) ∧ Below w.heap.size w W)
    (OwnFrom.and (Own.from (fun s A B row hs hg hr => by
      obtain ⟨L, f, h1, h2, h3, h4, h5, h6⟩ := hs
      exact ⟨L, f, h1, h2.kept hg hr, h3.kept hg hr, box_kept h4 hg hr, box_kept h5 hg hr, h6⟩) _) (ownFrom_below (Nat.le_refl _) (by omega)))
    (fun c => OwnFrom.and (Own.from (fun s A B row hs hg hr => by
      obtain ⟨hc, p, h2, h4, h5, h6⟩ := hs
      exact ⟨hc, p, h2.kept hg hr, box_kept h4 hg hr, box_kept h5 hg hr, h6⟩) _) (ownFrom_below (Nat.le_refl _) (by omega)))
    ⟨⟨nilF, 0, by omega, hC0', hC1', hF', hN', fun rest => rfl⟩, hB1⟩
    (fun x => { tmps := #[.string ⟨s.toArray⟩, undef, .pointer (some ⟨w.heap.size, 0, none⟩), .int .i64 0, .int .i64 0, .pointer (some ⟨w.heap.size + 1, 0, none⟩), .pointer (some ⟨w.heap.size + 1 + 1, 0, none⟩), .pointer (some ⟨w.heap.size + 1 + 1 + 1, 0, none⟩), .int .i64 ((x.1.1 : Nat) : Int), .string ⟨x.1.2.toArray⟩, undef, undef, .string ⟨s.toArray⟩, .int .i64 (s.length : Int), .bool (decide (256 < (s.length : Int))), undef, .string ⟨s.toArray⟩, .int .i64 (s.length : Int), .string ⟨s.toArray⟩, .func (.func 64) #[] #[.pointer (some ⟨w.heap.size + 1 + 1 + 1 + 1, 0, none⟩)], .int .i64 ((x.1.1 : Nat) : Int), .string ⟨x.1.2.toArray⟩, undef, undef, undef, undef, undef, undef, undef, undef, undef, undef, undef, undef, undef, undef, undef, undef, undef, undef, undef, undef], defers := [] }) ?assign ?body ?done ?stop
  case assign =>
    intro l x W K hK
    gi_wp2
    exact hK
  case body =>
    rintro l pre ⟨⟨xa, xt⟩, hx⟩ W ⟨⟨L, f, hf, hc0, hc1, hbf, hbw, hru⟩, hB⟩ _
    clear hC0' hC1' hF' hN' hbx'
    simp only at hx
    have HF := Lib.hid (fill_any (w.heap.size + 1) f xt L W (HL.out.on hB) hf (by omega) hc1)
    have hpl := fillC_place (l := L) (w := xt) hf
    have hct := fillC_count (l := L) (w := xt) hf
    have HRU := Lib.hid (runC_on (x := (xa, xt)) hru)
    unfold fillV strV at HF
    obtain ⟨e1, f1⟩ := hbf.one
    generalize fillC L f xt = r at *
    obtain ⟨L', c, p⟩ := r
    simp only at HF hpl hct HRU
    gi_wp2_with fail
    refine ⟨trivial, (fun _ => by omega), (CallsIn.inRound l (callsIn_wide.2 HF.out)).mono ?_⟩
    rintro e W2 ⟨rfl, hC, hS⟩
    have hKO := Lib.hid (hS.others hc1.2)
    have hKC : Hid (KeepC w.heap.size W1.heap.size W W2) := Lib.hid (hS.keep (by omega) hB.size (by omega))
    have hZ0 := Lib.hid (hc0.block hS (by omega))
    have hbf2 : Hid (D.Box W2 (w.heap.size + 1 + 1) 3 #[.int .i64 (f : Int)]) := Lib.hid ((hS.block _ hbf.lt (by omega)).trans hbf)
    have hbw2 : Hid (D.Box W2 (w.heap.size + 1 + 1 + 1) 3 #[.int .i64 (s.length : Int)]) := Lib.hid ((hS.block _ hbw.lt (by omega)).trans hbw)
    have hB2 := Lib.hid (hB.trans (hS.below (by omega) hB.size))
    have HC2 := Lib.hid hC
    clear hC hS hc0 hc1 hbf hbw e1 f1 HF hru
    obtain ⟨e1, f1⟩ := hbf2.out.one
    obtain ⟨e2, f2⟩ := hbw2.out.one
    by_cases hcz : c = 0
    · subst hcz
      have hr2 := Lib.hid ((if_pos rfl : (if (0 : Nat) = 0 then _ else _) = _).mp HRU.out)
      clear HRU
      gi_wp2_with fail
      refine ⟨hKO.out.trans ((KeepsOthers.setCell _ _ _).trans (KeepsOthers.setCell _ _ _)), ⟨rfl, xa + p, (hZ0.out.far (by omega) _).far (by omega) _, (hbf2.out.set 0 _).far (by omega) _, ?_, fun rest => ?_⟩, (hB2.out.setCell (p := ⟨w.heap.size + 1 + 1, 0, none⟩) (Nat.le_add_right_of_le (Nat.le_succ _)) _).setCell (p := ⟨w.heap.size + 1 + 1 + 1, 0, none⟩) (Nat.le_add_right_of_le (Nat.le_add_right_of_le (Nat.le_succ _))) _⟩
      · rw [Int.natCast_add]
        exact (hbw2.out.far (by omega) _).set 0 _
      · rw [List.map_append]
        exact hr2.out rest
    · have hr2 := Lib.hid ((if_neg hcz).mp HRU.out)
      have hcz' : ((c : Int) == 0) = false := by simpa using hcz
      clear HRU
      gi_wp2_with fail
      refine ⟨hKO.out.trans (KeepsOthers.setCell _ _ _), keepC_t hKC.out (keepC_set (by omega) (by omega) _), ⟨L', f + c, hct, hZ0.out.far (by omega) _, HC2.out.far (by omega) _, ?_, hbw2.out.far (by omega) _, fun rest => ?_⟩, hB2.out.setCell (p := ⟨w.heap.size + 1 + 1, 0, none⟩) (Nat.le_add_right_of_le (Nat.le_succ _)) _⟩
      · rw [Int.natCast_add]
        exact hbf2.out.set 0 _
      · rw [List.map_append]
        exact hr2.out rest
  case done =>
    rintro D ys W hD hys ⟨⟨L, f, hf, hc0, hc1, hbf, hbw, hru⟩, hB⟩ hK
    clear hC0' hC1' hF' hN' hbx'
    have hr0 := hru []
    rw [hys, List.append_nil] at hr0
    have hr1 := HN.out.symm.trans hr0
    obtain ⟨z0, z1, z2, z3, z4⟩ := hc0.five
    have f0 := hc0.frozen 0; have f1 := hc0.frozen 1; have f2 := hc0.frozen 2; have f3 := hc0.frozen 3; have f4 := hc0.frozen 4
    obtain ⟨e1, g1⟩ := hbf.one
    obtain ⟨e2, g2⟩ := hbw.one
    have HB := Lib.hid hB
    by_cases hf5 : f < 5
    · have hv := Lib.hid (creadV_none (hr1.trans (by rw [runC, if_pos hf5])))
      have hf5' : decide ((f : Int) < 5) = true := by simp; omega
      clear hru hr0 hr1 hB
      gi_wp2_with fail
      refine wpIn_wide.2 ?_
      go_region
      gi_wp2_with fail
      rw [Exit.noGoto_ret]
      have hK' : (set5V W w.heap.size (.int .u64 0) (.int .u64 0) (.int .u64 0) (.int .u64 0) (.int .u64 0)).drew.heap[D]? = some (.deferred (some [])) := drew_heap (def_set5 hK)
      have hX : CronAt (set5V W w.heap.size (.int .u64 0) (.int .u64 0) (.int .u64 0) (.int .u64 0) (.int .u64 0)).drew w.heap.size nilF := (set5_zero hc0).drew
      obtain ⟨y0, y1, y2, y3, y4⟩ := (hX.kept (grownBy_putObj' _ D (.deferred none)) (fun r e => by cases e; exact ⟨_, hK', rfl⟩)).five
      refine ⟨by simp, .inl ⟨_, _, rfl, run_takeDeferred hK', ?_⟩⟩
      refine ⟨.tuple #[.agg #[.int .u64 (U 0#64), .int .u64 (U 0#64), .int .u64 (U 0#64), .int .u64 (U 0#64), .int .u64 (U 0#64)], .int .i64 (s.length : Int), .int .i64 170], ?_, by rw [hv.out]; rfl, (below_five HB.out (Nat.le_refl _) _ _ _ _ _).drew.trans (belowK_b (w := w) (Nat.le_refl _) _ D _ _ (by have := hB1.size; omega) hK' rfl rfl)⟩
      simp [results, Tryz.f10, go_sem, y0, y1, y2, y3, y4]
    · have hf5' : decide ((f : Int) < 5) = false := by simp; omega
      have hr2 := hr1.trans (by rw [runC, if_neg hf5] : _ = (some L, 0))
      obtain ⟨a, b, c, d, e, rfl⟩ := list_five hc1.1
      have hv := Lib.hid (creadV_some hr2)
      obtain ⟨c0, c1, c2, c3, c4⟩ := hc1.five
      clear hru hr0 hr1 hB hr2
      gi_wp2_with fail
      rw [Exit.noGoto_ret]
      have hK' : (set5V W w.heap.size (.int .u64 (U a)) (.int .u64 (U b)) (.int .u64 (U c)) (.int .u64 (U d)) (.int .u64 (U e))).heap[D]? = some (.deferred (some [])) := def_set5 hK
      have hX : CronAt (set5V W w.heap.size (.int .u64 (U a)) (.int .u64 (U b)) (.int .u64 (U c)) (.int .u64 (U d)) (.int .u64 (U e))) w.heap.size [a, b, c, d, e] := hc0.set5 a b c d e
      obtain ⟨y0, y1, y2, y3, y4⟩ := (hX.kept (grownBy_putObj' _ D (.deferred none)) (fun r e => by cases e; exact ⟨_, hK', rfl⟩)).five
      refine ⟨by simp, .inl ⟨_, _, rfl, run_takeDeferred hK', ?_⟩⟩
      refine ⟨.tuple #[.agg #[.int .u64 (U a), .int .u64 (U b), .int .u64 (U c), .int .u64 (U d), .int .u64 (U e)], .int .i64 0, .int .i64 0], ?_, by rw [hv.out]; rfl, (below_five HB.out (Nat.le_refl _) _ _ _ _ _).trans (belowK_b (w := w) (Nat.le_refl _) _ D _ _ (by have := hB1.size; omega) hK' rfl rfl)⟩
      simp [results, Tryz.f10, go_sem, y0, y1, y2, y3, y4]
  case stop =>
    rintro D c pre W hD hpre ⟨⟨rfl, p, hc0, hbf, hbw, hru⟩, hB⟩ hK
    clear hC0' hC1' hF' hN' hbx'
    obtain ⟨t, ht⟩ := hpre
    have hr0 := hru t
    rw [ht] at hr0
    have hv := Lib.hid (creadV_none (HN.out.symm.trans hr0))
    obtain ⟨z0, z1, z2, z3, z4⟩ := hc0.five
    have f0 := hc0.frozen 0; have f1 := hc0.frozen 1; have f2 := hc0.frozen 2; have f3 := hc0.frozen 3; have f4 := hc0.frozen 4
    obtain ⟨e1, g1⟩ := hbf.one
    obtain ⟨e2, g2⟩ := hbw.one
    have HB := Lib.hid hB
    clear hru hr0 hB
    gi_wp2_with fail
    refine wpIn_wide.2 ?_
    go_region
    gi_wp2_with fail
    rw [Exit.noGoto_ret]
    have hK' : (set5V W w.heap.size (.int .u64 0) (.int .u64 0) (.int .u64 0) (.int .u64 0) (.int .u64 0)).drew.heap[D]? = some (.deferred (some [])) := drew_heap (def_set5 hK)
    have hX : CronAt (set5V W w.heap.size (.int .u64 0) (.int .u64 0) (.int .u64 0) (.int .u64 0) (.int .u64 0)).drew w.heap.size nilF := (set5_zero hc0).drew
    obtain ⟨y0, y1, y2, y3, y4⟩ := (hX.kept (grownBy_putObj' _ D (.deferred none)) (fun r e => by cases e; exact ⟨_, hK', rfl⟩)).five
    refine ⟨by simp, .inl ⟨_, _, rfl, run_takeDeferred hK', ?_⟩⟩
    refine ⟨.tuple #[.agg #[.int .u64 (U 0#64), .int .u64 (U 0#64), .int .u64 (U 0#64), .int .u64 (U 0#64), .int .u64 (U 0#64)], .int .i64 (p : Int), .int .i64 170], ?_, by rw [hv.out]; rfl, (below_five HB.out (Nat.le_refl _) _ _ _ _ _).drew.trans (belowK_b (w := w) (Nat.le_refl _) _ D _ _ (by have := hB1.size; omega) hK' rfl rfl)⟩
    simp [results, Tryz.f10, go_sem, y0, y1, y2, y3, y4]
theorem cread_short (s : List UInt8) (w : World) (hL : LaidC w) (hs : s.length ≤ 256) :
    Calls Tryz.prog 10 #[strV s] w fun e W' => e = .returned (creadV s) ∧ Below w.heap.size w W' :=
  callsIn_wide.1 (cread_in 3 (by omega) s w hL hs)
set_option maxRecDepth 100000 in
theorem cread_long (s : ByteArray) (w : World) (hs : s.size ≤ maxLen) (hl : 256 < s.size) :
    Calls Tryz.prog 10 #[.string s] w fun e W' => e = .returned (.tuple #[cronV nilF, .int .i64 0, .int .i64 3]) ∧ Below w.heap.size w W' := by
  unfold maxLen at hs
  have hd : decide (256 < (s.size : Int)) = true := by simp; omega
  have hd2 : (256 : Int) < (s.size : Int) := by omega
  have hd3 : 256 < s.size := hl
  go_enter Tryz.func10, Tryz.ntmps10
  go_wp2_with fail
  go_step3
  go_wp2_with fail
  rw [Exit.noGoto_ret]
  refine bodyPost_ret (v := .tuple #[.agg #[.int .u64 0, .int .u64 0, .int .u64 0, .int .u64 0, .int .u64 0], .int .i64 0, .int .i64 3]) (by simp [results, Tryz.results10, go_sem]) rfl ⟨rfl, (Below.refl _ _).alloc (Nat.le_refl _) _⟩
end Go.Proofs.YtmjjdccpnepjjaaGreatDoor
