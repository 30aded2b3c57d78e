/- Last, Round. -/
import Derived.Test.YtkakncgdhangpaaDoorFirst
import Derived.Test.YtkakncgdhangpaaDoorRuns
import Derived.Deep.QuietTactic
import Derived.BigQuiet
import Derived.WalkMore
namespace Go.Proofs.YtkakncgdhangpaaDoor
open Go.RowKit Go.Shelf

attribute [local go_sem] Oper.semAt_some

theorem scopeIn {n : Nat} {P : Program} {c : Code} {Q : Exit → Act → World → Prop} {a : Act} {w : World} (h : c.wpIn Fence.wide n P (Exit.noGoto Q) a w) : (Code.scope c).wpIn Fence.wide n P Q a w :=
  wpIn_wide.2 (wp_scope_straight (wpIn_wide.1 h))
theorem labelIn {n l : Nat} {P : Program} {Q : Exit → Act → World → Prop} {a : Act} {w : World} (h : Q .normal a w) : (Code.label l).wpIn Fence.wide n P Q a w :=
  wpIn_wide.2 (wp_label h)
/-- The greatest one up to b. -/
def great (x : BitVec 64) (b : Int) : Option Nat := ((elems x).takeWhile (fun k : Nat => decide ((k : Int) ≤ b))).getLast?
theorem great_all {x : BitVec 64} {b : Int} (h : ∀ y ∈ elems x, (y : Int) ≤ b) : great x b = (elems x).getLast? := by
  unfold great
  have : ∀ l : List Nat, (∀ y ∈ l, (y : Int) ≤ b) → l.takeWhile (fun k : Nat => decide ((k : Int) ≤ b)) = l := by
    intro l
    induction l with
    | nil => intro _; rfl
    | cons a l ih =>
      intro hl
      rw [List.takeWhile_cons, decide_eq_true (hl a (by simp)), ih (fun y hy => hl y (by simp [hy]))]
      rfl
  rw [this _ h]
theorem great_stop {x : BitVec 64} {b : Int} {pre : List Nat} {k : Nat} (hp : (pre ++ [k]) <+: elems x) (h : ∀ y ∈ pre, (y : Int) ≤ b) (hk : b < (k : Int)) : great x b = pre.getLast? := by
  obtain ⟨t, ht⟩ := hp
  unfold great
  rw [← ht, List.append_assoc, List.takeWhile_append_of_pos (fun y hy => by simpa using h y hy)]
  simp only [List.cons_append, List.nil_append, List.takeWhile_cons]
  rw [decide_eq_false (by omega)]
  simp
def lastV (pre : List Nat) : Value := .int .i64 ((pre.getLast?.getD 0 : Nat) : Int)
def foundV (pre : List Nat) : Value := .bool pre.getLast?.isSome
theorem lastV_snoc (pre : List Nat) (k : Nat) : lastV (pre ++ [k]) = .int .i64 (k : Int) := by simp [lastV]
theorem foundV_snoc (pre : List Nat) (k : Nat) : foundV (pre ++ [k]) = .bool true := by simp [foundV]

set_option maxRecDepth 100000 in
set_option maxHeartbeats 2000000 in
theorem lastw_in (n : Nat) (hn : 3 ≤ n) (x : BitVec 64) (b : Int) (w : World) (hT : Tab w) (hg : 0 < w.heap.size) :
    CallsIn Fence.wide n Tryd.prog 24 #[.int .u64 (U x), .int .i64 b] w fun e W' => e = .returned (some2 (great x b)) ∧ Below w.heap.size w W' := by
  have h1 : 1 ≤ n := by omega
  refine callsIn_of_wp_marks Tryd.func24 rfl trivial ?_ rfl
  simp only [Tryd.ntmps24, List.size_toArray, List.length_cons, List.length_nil, Nat.reduceAdd, Nat.reduceSub, Array.replicate_succ, Array.replicate_zero, List.push_toArray, List.append_toArray, List.nil_append, List.cons_append]
  gi_wp2_with (refine ⟨trivial, ?_⟩; gi_at_call 43; refine (numbers_in (n - 1) _ _).mono ?_; rintro e w' ⟨rfl, rfl⟩)
  refine scopeIn ?_
  gi_wp2
  refine labelIn ?_
  gi_wp2_with (refine ⟨trivial, ?_⟩; gi_at_call 43; refine (numbers_in (n - 1) _ _).mono ?_; rintro e w' ⟨rfl, rfl⟩)
  have c0 := OneCell.new w (.int .i64 b) 3
  have c1 := OneCell.new (w.alloc (.cells #[.int .i64 b] 3)) (.int .i64 0) 3
  have c2 := OneCell.new ((w.alloc (.cells #[.int .i64 b] 3)).alloc (.cells #[.int .i64 0] 3)) (.bool false) 4
  have c3 := OneCell.new (((w.alloc (.cells #[.int .i64 b] 3)).alloc (.cells #[.int .i64 0] 3)).alloc (.cells #[.bool false] 4)) (.int .u64 (U x)) 28
  simp only [World.size_alloc] at c1 c2 c3
  have d0 := ((c0.alloc (.cells #[.int .i64 0] 3)).alloc (.cells #[.bool false] 4)).alloc (.cells #[.int .u64 (U x)] 28)
  have d1 := (c1.alloc (.cells #[.bool false] 4)).alloc (.cells #[.int .u64 (U x)] 28)
  have d2 := c2.alloc (.cells #[.int .u64 (U x)] 28)
  have hB0 : Below w.heap.size w ((((w.alloc (.cells #[.int .i64 b] 3)).alloc (.cells #[.int .i64 0] 3)).alloc (.cells #[.bool false] 4)).alloc (.cells #[.int .u64 (U x)] 28)) := ((((Below.refl _ w).alloc (Nat.le_refl _) _).alloc (by simp) _).alloc (by simp; omega) _).alloc (by simp; omega) _
  have hT0 := hT.below hg hB0
  clear c0 c1 c2
  refine wpIn_rangeFunc_ownF rfl h1 (gf := 49) (lb := #[.pointer (some ⟨w.heap.size + 1 + 1 + 1, 0, none⟩)]) rfl trivial (enters_of Tryd.func49 (by kernel_rfl) rfl)
    (numbers_stops (n - 1) (by omega) (w.heap.size + 1 + 1 + 1) w.heap.size x _ hg (by simp; omega) (by simp) c3.1 hT0) belowK_t (belowK_b (by simp; omega)) (Below.refl _ _) (fun _ => rfl)
    (fun (pre : List Nat) W => ((∀ y ∈ pre, (y : Int) ≤ b) ∧ OneCell W w.heap.size (.int .i64 b) ∧ OneCell W (w.heap.size + 1) (lastV pre) ∧ OneCell W (w.heap.size + 1 + 1) (foundV pre)) ∧ Below w.heap.size w W)
    (fun c (pre : List Nat) W => (c = .exit 0 ∧ ∃ (pre' : List Nat) (k : Nat), pre = pre' ++ [k] ∧ (∀ y ∈ pre', (y : Int) ≤ b) ∧ b < (k : Int) ∧ OneCell W (w.heap.size + 1) (lastV pre') ∧ OneCell W (w.heap.size + 1 + 1) (foundV pre')) ∧ Below w.heap.size w W)
    (OwnFrom.and (Own.from (fun s A B row hs hg hr => ⟨hs.1, hs.2.1.kept hg hr, hs.2.2.1.kept hg hr, hs.2.2.2.kept hg hr⟩) _) (ownFrom_below (Nat.le_refl _) (by simp; omega)))
    (fun c => OwnFrom.and (Own.from (fun s A B row hs hg hr => by obtain ⟨hc, pre', k, h1, h2, h3, h4, h5⟩ := hs; exact ⟨hc, pre', k, h1, h2, h3, h4.kept hg hr, h5.kept hg hr⟩) _) (ownFrom_below (Nat.le_refl _) (by simp; omega)))
    ⟨⟨by simp, d0, d1, d2⟩, hB0⟩
    (fun k => { tmps := #[.int .u64 (U x), .int .i64 b, undef, .pointer (some ⟨w.heap.size, 0, none⟩), .int .i64 0, .bool false, .pointer (some ⟨w.heap.size + 1, 0, none⟩), .pointer (some ⟨w.heap.size + 1 + 1, 0, none⟩), .int .i64 ((k : Nat) : Int), .int .u64 (U x), .func (.func 49) #[] #[.pointer (some ⟨w.heap.size + 1 + 1 + 1, 0, none⟩)], .int .i64 ((k : Nat) : Int), undef, undef, undef, undef, undef, undef, undef], defers := [] }) ?assign ?body ?done ?stop
  case assign =>
    intro l k W K hK
    gi_wp2
    exact hK
  case body =>
    rintro l pre k W ⟨⟨hp, ⟨e0, f0⟩, o1, o2⟩, hB⟩ _
    have e1 := o1.1
    have f1 := o1.2
    have e2 := o2.1
    have f2 := o2.2
    have s1 := lastV_snoc pre k
    have s2 := foundV_snoc pre k
    have S1 := Lib.hid s1
    have S2 := Lib.hid s2
    clear s1 s2
    gi_wp2
    · have hx : b < (k : Int) := by assumption
      exact ⟨KeepsOthers.refl _, ⟨rfl, pre, k, rfl, hp, hx, ⟨e1, f1⟩, ⟨e2, f2⟩⟩, hB⟩
    · have hx : (k : Int) ≤ b := by assumption
      exact ⟨(KeepsOthers.setCell _ _ _).trans (KeepsOthers.setCell _ _ _), ((Below.refl _ _).setCell (p := ⟨w.heap.size + 1, 0, none⟩) (by simp) _).setCell (p := ⟨w.heap.size + 1 + 1, 0, none⟩) (by simp; omega) _,
        ⟨fun y hy => (List.mem_append.1 hy).elim (hp y) (fun e => by simp at e; subst e; exact hx), (OneCell.set_other ⟨e0, f0⟩ _ (by omega)).set_other _ (by omega), by rw [S1.out]; exact (OneCell.set ⟨e1, f1⟩ _).set_other _ (by omega), by rw [S2.out]; exact (OneCell.set_other ⟨e2, f2⟩ _ (by omega)).set _⟩,
        (hB.setCell (p := ⟨w.heap.size + 1, 0, none⟩) (by simp) _).setCell (p := ⟨w.heap.size + 1 + 1, 0, none⟩) (by simp; omega) _⟩
  case done =>
    rintro D ys W hD rfl ⟨⟨hne, _, ⟨e1, f1⟩, ⟨e2, f2⟩⟩, hB⟩ hK
    have hl := Lib.hid (great_all hne); clear hne
    gi_wp2
    refine wpIn_wide.2 ?_
    go_quiet (fail)
    gi_wp2
    have hK' : (W.drewN nq).heap[D]? = some (.deferred (some [])) := hK
    refine ⟨by simp, .inl ⟨_, _, rfl, run_takeDeferred hK', ?_⟩⟩
    have hBd : Below w.heap.size w (W.drewN nq) := ⟨hB.os, hB.tape, hB.output, hB.size, hB.block⟩
    refine ⟨_, results_tmp2 rfl _ _ _, by rw [hl.out]; rfl, hBd.trans (belowK_b (w := w) (Nat.le_refl _) _ D _ _ (by simp at hD; omega) hK' rfl rfl)⟩
  case stop =>
    rintro D c pre W hD hpre ⟨⟨rfl, pre', k, rfl, hp, hb, ⟨e1, f1⟩, ⟨e2, f2⟩⟩, hB⟩ hK
    have hl := Lib.hid (great_stop hpre hp hb); clear hp
    gi_wp2
    refine wpIn_wide.2 ?_
    go_quiet (fail)
    gi_wp2
    have hK' : (W.drewN nq).heap[D]? = some (.deferred (some [])) := hK
    refine ⟨by simp, .inl ⟨_, _, rfl, run_takeDeferred hK', ?_⟩⟩
    have hBd : Below w.heap.size w (W.drewN nq) := ⟨hB.os, hB.tape, hB.output, hB.size, hB.block⟩
    refine ⟨_, results_tmp2 rfl _ _ _, by rw [hl.out]; rfl, hBd.trans (belowK_b (w := w) (Nat.le_refl _) _ D _ _ (by simp at hD; omega) hK' rfl rfl)⟩
theorem last_any (x : BitVec 64) (b : Int) (w : World) (hT : Tab w) (hg : 0 < w.heap.size) :
    Calls Tryd.prog 24 #[.int .u64 (U x), .int .i64 b] w fun e W' => e = .returned (some2 (great x b)) ∧ Below w.heap.size w W' :=
  callsIn_wide.1 (lastw_in 3 (by omega) x b w hT hg)

/-! Round -/
/-- The least one from b on; else the least one. -/
def around (x : BitVec 64) (b : Int) : Option Nat := match least x b with
  | some k => some k
  | none => least x 0
theorem round_any (x : BitVec 64) (b : Int) (w : World) (hT : Tab w) (hg : 0 < w.heap.size) :
    Calls Tryd.prog 25 #[.int .u64 (U x), .int .i64 b] w fun e W' => e = .returned (some2 (around x b)) ∧ Below w.heap.size w W' := by
  unfold around
  have H1 := Lib.hid (first_any x b w hT hg)
  cases h : least x b with
  | some k =>
    rw [h, some2] at H1
    simp only [Option.getD, Option.isSome] at H1
    clear h
    go_enter Tryd.func25, Tryd.ntmps25
    go_wp2_with (go_at_call 23; refine H1.out.mono ?_; rintro e w1 ⟨rfl, hb1⟩)
    go_ret2
    exact ⟨rfl, hb1⟩
  | none =>
    rw [h, some2] at H1
    simp only [Option.getD, Option.isSome] at H1
    clear h
    go_enter Tryd.func25, Tryd.ntmps25
    go_wp2_with fail
    refine H1.out.mono ?_; rintro e w1 ⟨rfl, hb1⟩
    have hT1 := hT.below hg hb1
    have hg1 : 0 < w1.heap.size := Nat.lt_of_lt_of_le hg hb1.size
    go_wp2_with fail
    refine (first_any x 0 w1 hT1 hg1).mono ?_; rintro e w2 ⟨rfl, hb2⟩
    simp only [some2]
    go_wp2
    go_ret2
    exact ⟨rfl, hb1.trans (hb2.mono hb1.size)⟩
end Go.Proofs.YtkakncgdhangpaaDoor
