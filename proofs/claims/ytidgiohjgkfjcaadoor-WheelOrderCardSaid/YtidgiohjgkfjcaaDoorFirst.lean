/- First, Last, Round. -/
import Derived.Test.YtidgiohjgkfjcaaDoorWords
namespace Go.Proofs.YtidgiohjgkfjcaaDoor
open Go.RowKit Go.Shelf

attribute [local go_sem] Oper.semAt_some

/-- A number, and true; or 0, and false. -/
def some2 (o : Option Nat) : Value := .tuple #[.int .i64 ((o.getD 0 : Nat) : Int), .bool o.isSome]
/-- The least one from from on. -/
def least (x : BitVec 64) (b : Int) : Option Nat := (elems x).find? (fun k => decide (b ≤ (k : Int)))
theorem find_prefix {p : Nat → Bool} : ∀ {l pre : List Nat} {k : Nat}, (pre ++ [k]) <+: l → (∀ j ∈ pre, p j = false) → p k = true → l.find? p = some k
  | l, [], k, ⟨t, h⟩, _, hk => by subst h; simp [hk]
  | l, a :: pre, k, ⟨t, h⟩, hp, hk => by
    subst h
    have := find_prefix (l := pre ++ [k] ++ t) ⟨t, rfl⟩ (fun j hj => hp j (by simp [hj])) hk
    have ha := hp a (by simp)
    simp only [List.cons_append, List.find?_cons, ha]
    exact this


set_option maxRecDepth 100000 in
set_option maxHeartbeats 2000000 in
theorem first_in (n : Nat) (hn : 3 ≤ n) (x : BitVec 64) (b : Int) (w : World) (hT : Tab w) (hg : 0 < w.heap.size) :
    CallsIn Fence.wide n Tryd.prog 57 #[.int .u64 (U x), .int .i64 b] w fun e W' => e = .returned (some2 (least x b)) ∧ Below w.heap.size w W' := by
  have h1 : 1 ≤ n := by omega
  refine callsIn_of_wp_marks Tryd.func57 rfl trivial ?_ rfl
  simp only [Tryd.ntmps57, List.size_toArray, List.length_cons, List.length_nil, Nat.reduceAdd, Nat.reduceSub, Array.replicate_succ, Array.replicate_zero, List.push_toArray, List.append_toArray, List.nil_append, List.cons_append]
  gi_wp2_with (refine ⟨trivial, ?_⟩; gi_at_call 61; refine (numbers_in (n - 1) _ _).mono ?_; rintro e w' ⟨rfl, rfl⟩)
  have c0 := OneCell.new w (.int .i64 b) 3
  have c1 := OneCell.new (w.alloc (.cells #[.int .i64 b] 3)) (.int .i64 0) 3
  have c2 := OneCell.new ((w.alloc (.cells #[.int .i64 b] 3)).alloc (.cells #[.int .i64 0] 3)) (.bool false) 4
  have c3 := OneCell.new (((w.alloc (.cells #[.int .i64 b] 3)).alloc (.cells #[.int .i64 0] 3)).alloc (.cells #[.bool false] 4)) (.int .u64 (U x)) 107
  simp only [World.size_alloc] at c1 c2 c3
  have d0 := ((c0.alloc (.cells #[.int .i64 0] 3)).alloc (.cells #[.bool false] 4)).alloc (.cells #[.int .u64 (U x)] 107)
  have d1 := (c1.alloc (.cells #[.bool false] 4)).alloc (.cells #[.int .u64 (U x)] 107)
  have d2 := c2.alloc (.cells #[.int .u64 (U x)] 107)
  have hB0 : Below w.heap.size w ((((w.alloc (.cells #[.int .i64 b] 3)).alloc (.cells #[.int .i64 0] 3)).alloc (.cells #[.bool false] 4)).alloc (.cells #[.int .u64 (U x)] 107)) := ((((Below.refl _ w).alloc (Nat.le_refl _) _).alloc (by simp) _).alloc (by simp; omega) _).alloc (by simp; omega) _
  have hT0 := hT.below hg hB0
  clear c0 c1 c2
  refine wpIn_rangeFunc_ownF rfl h1 (gf := 65) (lb := #[.pointer (some ⟨w.heap.size + 1 + 1 + 1, 0, none⟩)]) rfl trivial (enters_of Tryd.func65 (by kernel_rfl) rfl)
    (numbers_stops (n - 1) (by omega) (w.heap.size + 1 + 1 + 1) w.heap.size x _ hg (by simp; omega) (by simp) c3.1 hT0) belowK_t (belowK_b (by simp; omega)) (Below.refl _ _) (fun _ => rfl)
    (fun (pre : List Nat) W => ((∀ y ∈ pre, (y : Int) < b) ∧ OneCell W w.heap.size (.int .i64 b) ∧ OneCell W (w.heap.size + 1) (.int .i64 0) ∧ OneCell W (w.heap.size + 1 + 1) (.bool false)) ∧ Below w.heap.size w W)
    (fun c (pre : List Nat) W => (c = .ret ∧ ∃ (pre' : List Nat) (k : Nat), pre = pre' ++ [k] ∧ (∀ y ∈ pre', (y : Int) < b) ∧ b ≤ (k : Int) ∧ OneCell W (w.heap.size + 1) (.int .i64 k) ∧ OneCell W (w.heap.size + 1 + 1) (.bool true)) ∧ Below w.heap.size w W)
    (OwnFrom.and (Own.from (fun s A B row hs hg hr => ⟨hs.1, hs.2.1.kept hg hr, hs.2.2.1.kept hg hr, hs.2.2.2.kept hg hr⟩) _) (ownFrom_below (Nat.le_refl _) (by simp; omega)))
    (fun c => OwnFrom.and (Own.from (fun s A B row hs hg hr => by obtain ⟨hc, pre', k, h1, h2, h3, h4, h5⟩ := hs; exact ⟨hc, pre', k, h1, h2, h3, h4.kept hg hr, h5.kept hg hr⟩) _) (ownFrom_below (Nat.le_refl _) (by simp; omega)))
    ⟨⟨by simp, d0, d1, d2⟩, hB0⟩
    (fun k => { tmps := #[.int .u64 (U x), .int .i64 b, undef, .pointer (some ⟨w.heap.size, 0, none⟩), .pointer (some ⟨w.heap.size + 1, 0, none⟩), .pointer (some ⟨w.heap.size + 1 + 1, 0, none⟩), .int .i64 ((k : Nat) : Int), .int .u64 (U x), .func (.func 65) #[] #[.pointer (some ⟨w.heap.size + 1 + 1 + 1, 0, none⟩)], .int .i64 ((k : Nat) : Int), undef, undef, undef, undef], defers := [] }) ?assign ?body ?done ?stop
  case assign =>
    intro l x W K hK
    gi_wp2
    exact hK
  case body =>
    rintro l pre k W ⟨⟨hp, ⟨e0, f0⟩, ⟨e1, f1⟩, ⟨e2, f2⟩⟩, hB⟩ _
    gi_wp2
    · have hx : b ≤ (k : Int) := by assumption
      exact ⟨(KeepsOthers.setCell _ _ _).trans (KeepsOthers.setCell _ _ _), ⟨rfl, pre, k, rfl, hp, hx, (OneCell.set ⟨e1, f1⟩ _).set_other _ (by omega), (OneCell.set_other ⟨e2, f2⟩ _ (by omega)).set _⟩, (hB.setCell (p := ⟨w.heap.size + 1, 0, none⟩) (by simp) _).setCell (p := ⟨w.heap.size + 1 + 1, 0, none⟩) (by simp; omega) _⟩
    · have hx : (k : Int) < b := by assumption
      exact ⟨KeepsOthers.refl _, Below.refl _ _, ⟨fun y hy => (List.mem_append.1 hy).elim (hp y) (fun e => by simp at e; subst e; exact hx), ⟨e0, f0⟩, ⟨e1, f1⟩, ⟨e2, f2⟩⟩, hB⟩
  case done =>
    rintro D ys W hD rfl ⟨⟨hne, _, ⟨e1, f1⟩, ⟨e2, f2⟩⟩, hB⟩ hK
    have Hn := Lib.hid hne; clear hne
    gi_wp2
    have hK' := ((KeepsOthers.setCell W ⟨w.heap.size + 1, 0, none⟩ (.int .i64 0)).trans (KeepsOthers.setCell _ ⟨w.heap.size + 1 + 1, 0, none⟩ (.bool false))).same D _ hK rfl
    refine ⟨by simp, .inl ⟨_, _, rfl, run_takeDeferred hK', ?_⟩⟩
    have g1 := ((OneCell.set ⟨e1, f1⟩ (.int .i64 0)).set_other (.bool false) (c := w.heap.size + 1 + 1) (by omega)).kept (grownBy_putObj' _ D (.deferred none)) (fun r e => by cases e; exact ⟨_, hK', rfl⟩)
    have g2 := ((OneCell.set_other ⟨e2, f2⟩ (.int .i64 0) (c := w.heap.size + 1) (by omega)).set (.bool false)).kept (grownBy_putObj' _ D (.deferred none)) (fun r e => by cases e; exact ⟨_, hK', rfl⟩)
    have hl : least x b = none := List.find?_eq_none.2 fun y hy => by have := Hn.out y hy; simp; omega
    refine ⟨some2 none, ?_, by rw [hl], ((hB.setCell (p := ⟨w.heap.size + 1, 0, none⟩) (by simp) _).setCell (p := ⟨w.heap.size + 1 + 1, 0, none⟩) (by simp; omega) _).trans (belowK_b (w := w) (Nat.le_refl _) _ D _ _ (by simp at hD; omega) hK' rfl rfl)⟩
    simp [results, Tryd.f57, go_sem, g1.1, g2.1, some2]
  case stop =>
    rintro D c pre W hD hpre ⟨⟨rfl, pre', k, rfl, hp, hb, h1, h2⟩, hB⟩ hK
    have hl : least x b = some k := find_prefix hpre (fun j hj => by have := hp j hj; simp; omega) (by simpa using hb)
    clear hp
    gi_wp2
    refine ⟨by simp, .inl ⟨_, _, rfl, run_takeDeferred hK, ?_⟩⟩
    have g1 := h1.kept (grownBy_putObj' _ D (.deferred none)) (fun r e => by cases e; exact ⟨_, hK, rfl⟩)
    have g2 := h2.kept (grownBy_putObj' _ D (.deferred none)) (fun r e => by cases e; exact ⟨_, hK, rfl⟩)
    refine ⟨some2 (some k), ?_, by rw [hl], hB.trans (belowK_b (w := w) (Nat.le_refl _) W D _ _ (by simp at hD; omega) hK rfl rfl)⟩
    simp [results, Tryd.f57, go_sem, g1.1, g2.1, some2]
theorem first_any (x : BitVec 64) (b : Int) (w : World) (hT : Tab w) (hg : 0 < w.heap.size) :
    Calls Tryd.prog 57 #[.int .u64 (U x), .int .i64 b] w fun e W' => e = .returned (some2 (least x b)) ∧ Below w.heap.size w W' :=
  callsIn_wide.1 (first_in 3 (by omega) x b w hT hg)
end Go.Proofs.YtidgiohjgkfjcaaDoor
