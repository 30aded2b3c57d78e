/- Runs. -/
import Derived.Test.YtkakncgdhangpaaDoorAll
import Derived.Test.YtkakncgdhangpaaDoorFirst
namespace Go.Proofs.YtkakncgdhangpaaDoor
open Go.RowKit Go.Shelf

attribute [local go_sem] Oper.semAt_some

theorem cells_two (w : World) (a b : Value) (t : TypeId) : ∀ j u, [a, b][j]? = some u → (w.alloc (.cells #[a, b] t)).cell? ((⟨w.heap.size, 0, none⟩ : Addr).add j) = some u := by
  intro j u hj
  match j, hj with
  | 0, hj => simp at hj; subst hj; simp [Addr.add]
  | 1, hj => simp at hj; subst hj; simp [Addr.add]
theorem boxed_below {W W' : World} {B : Nat} {t : TypeId} {v : Value} (h : Boxed W B t v) (hb : Below W.heap.size W W') : Boxed W' B t v := (hb.block B h.lt).trans h
theorem Boxed.below_ {W W' : World} {B n : Nat} {t : TypeId} {v : Value} (h : Boxed W B t v) (hb : Below n W W') (hl : B < n) : Boxed W' B t v := (hb.block B hl).trans h
theorem own_below {W W' : World} {base : Nat} {e : TypeId} {size n : Nat} {v : Value} {xs : List Value} (h : W.ownsRow base e size v n xs) (hb : Below W.heap.size W W') : W'.ownsRow base e size v n xs := by
  refine ⟨h.1, ?_⟩
  rcases h.2 with h2 | ⟨g, cap, cur, hv, hg, hh, r⟩
  · exact .inl h2
  · exact .inr ⟨g, cap, cur, hv, hg, (hb.block g (Array.getElem?_eq_some_iff.1 hh).1).trans hh, r⟩
theorem own_mono {W : World} {base base' : Nat} {e : TypeId} {size n : Nat} {v : Value} {xs : List Value} (h : W.ownsRow base e size v n xs) (hb : base' ≤ base) : W.ownsRow base' e size v n xs := by
  refine ⟨h.1, ?_⟩
  rcases h.2 with h2 | ⟨g, cap, cur, hv, hg, r⟩
  · exact .inl h2
  · exact .inr ⟨g, cap, cur, hv, Nat.le_trans hb hg, r⟩
theorem keeps_below {W W' : World} (hb : Below W.heap.size W W') : KeepsOthers W W' := ⟨hb.size, fun k _ ho _ => (hb.block k (Array.getElem?_eq_some_iff.1 ho).1).trans ho⟩

/-- Where runs begin, and where they end. -/
def begins (x : BitVec 64) : BitVec 64 := x &&& ~~~(x <<< 1)
def ends (x : BitVec 64) : BitVec 64 := x &&& ~~~(x >>> 1)
/-- The run that begins at k. -/
def runOf (ex : BitVec 64) (k : Nat) : Nat × Nat := (k, (least ex k).getD 0)
def renc (r : Nat × Nat) : List Value := [.int .i64 (r.1 : Int), .int .i64 (r.2 : Int)]
/-- The runs, rising. -/
def runsOf (x : BitVec 64) : List (Nat × Nat) := (elems (begins x)).map (runOf (ends x))
theorem info_run : (Tryd.prog.info? 46).map (fun i => (i.zero, i.size, i.bytes)) = some (some (.agg #[.int .i64 0, .int .i64 0]), 2, 16) := by kernel_rfl

set_option maxRecDepth 100000 in
set_option maxHeartbeats 2000000 in
theorem runs_in (n : Nat) (hn : 5 ≤ n) (x : BitVec 64) (w : World) (hT : Tab w) (hg : 0 < w.heap.size) :
    CallsIn Fence.wide n Tryd.prog 21 #[.int .u64 (U x)] w fun e W' => ∃ v, e = .returned v ∧ W'.ownsRow w.heap.size 46 2 v (runsOf x).length ((runsOf x).flatMap renc) ∧ Below w.heap.size w W' := by
  have h1 : 1 ≤ n := by omega
  have hp := pop_le (begins x)
  have es := Lib.hid (U_shl x)
  have er := Lib.hid (U_shr x)
  obtain ⟨i0, hi, hz0, hz1, hz2⟩ := info_parts info_run
  refine callsIn_of_wp_marks Tryd.func21 rfl trivial ?_ rfl
  simp only [Tryd.ntmps21, List.size_toArray, List.length_cons, List.length_nil, Nat.reduceAdd, Nat.reduceSub, Array.replicate_succ, Array.replicate_zero, List.push_toArray, List.append_toArray, List.nil_append, List.cons_append]
  gi_wp2_with fail
  rw [es.out]
  refine ⟨trivial, (callsIn_wide.2 (less_any x (x <<< 1) w)).mono ?_⟩; rintro e w1 ⟨rfl, hb1⟩
  rw [show x &&& ~~~(x <<< 1) = begins x from rfl]
  gi_wp2_with fail
  rw [er.out]
  refine ⟨trivial, (callsIn_wide.2 (less_any x (x >>> 1) w1)).mono ?_⟩; rintro e w2 ⟨rfl, hb2⟩
  rw [show x &&& ~~~(x >>> 1) = ends x from rfl]
  have hle2 : w.heap.size ≤ w2.heap.size := Nat.le_trans hb1.size hb2.size
  generalize hbeg : begins x = bx at *
  generalize hend : ends x = ex at *
  have Hbeg := Lib.hid hbeg; clear hbeg
  have Hend := Lib.hid hend; clear hend
  gi_wp2_with (first
    | (refine ⟨trivial, ?_⟩; gi_at_call 18; refine (callsIn_wide.2 (count_any bx _)).mono ?_; rintro e w' ⟨rfl, rfl⟩)
    | (gi_at_make; refine wpListIn_make_own _ rfl _ _ 44 rfl _ 46 i0 (.agg #[.int .i64 0, .int .i64 0]) 2 Tryd.underlying44 hi hz0 hz1 _ _ _ (pop bx) rfl rfl rfl (by rw [hz2]; omega) (by unfold maxLen; omega) (Nat.le_refl _) ?_; intro w3 hown hgrow)
    | (refine ⟨trivial, ?_⟩; gi_at_call 43; refine (numbers_in (n - 1) _ _).mono ?_; rintro e w' ⟨rfl, rfl⟩))
  have bE := Boxed.new w2 28 (.int .u64 (U ex))
  have hbA : Below w.heap.size w (w2.alloc (.cells #[.int .u64 (U ex)] 28)) := (hb1.trans (hb2.mono hb1.size)).alloc hle2 _
  have hsz : w2.heap.size + 1 = (w2.alloc (.cells #[.int .u64 (U ex)] 28)).heap.size := by simp
  generalize w2.alloc (.cells #[.int .u64 (U ex)] 28) = wA at *
  rw [hsz]
  have hlt2 : w2.heap.size < wA.heap.size := by omega
  have Hsz := Lib.hid hsz; clear hsz
  have hB1 : Below wA.heap.size wA w3 := (Below.refl wA.heap.size wA).grown hgrow (Nat.le_refl _) (fun j e => by cases e)
  have hle := hB1.size
  have hleA := hbA.size
  have hown' := hown
  have bO := Boxed.new w3 44 (.slice (some ⟨wA.heap.size, 0, none⟩) 0 (pop bx))
  have bN := Boxed.new (w3.alloc (.cells #[.slice (some ⟨wA.heap.size, 0, none⟩) 0 (pop bx)] 44)) 28 (.int .u64 (U bx))
  rw [World.size_alloc] at bN
  have hB0 : Below wA.heap.size wA ((w3.alloc (.cells #[.slice (some ⟨wA.heap.size, 0, none⟩) 0 (pop bx)] 44)).alloc (.cells #[.int .u64 (U bx)] 28)) := (hB1.alloc hle _).alloc (by simp; omega) _
  have hgA : 0 < wA.heap.size := by omega
  have hTA := hT.below hg hbA
  have hT0 := hTA.below hgA hB0
  have hlen : (elems bx).length ≤ 64 := by rw [pop_eq]; exact hp
  refine wpIn_rangeFunc_ownG rfl h1 (gf := 49) (lb := #[.pointer (some ⟨w3.heap.size + 1, 0, none⟩)]) rfl trivial (enters_of Tryd.func49 (by kernel_rfl) rfl)
    (numbers_stops (n - 1) (by omega) (w3.heap.size + 1) wA.heap.size bx _ hgA (by simp; omega) (by simp) bN.cell hT0) belowK_t (belowK_b (by simp; omega)) (Below.refl _ _) (fun _ => rfl)
    (fun (pre : List Nat) W => (∃ v, Boxed W w3.heap.size 44 v ∧ W.ownsRow wA.heap.size 46 2 v pre.length ((pre.map (runOf ex)).flatMap renc) ∧ True) ∧ Below wA.heap.size wA W)
    (fun _ _ _ => False)
    (OwnFrom.and (Own.from (holdsRow_own wA.heap.size w3.heap.size 44 46 2 (fun (pre : List Nat) => pre.length) (fun pre => (pre.map (runOf ex)).flatMap renc) (fun _ _ => True)) _) (ownFrom_below (Nat.le_refl _) (by simp; omega)))
    (fun _ _ _ _ _ hs _ _ => hs)
    ⟨⟨_, bO.alloc _, (hown.alloc _).alloc _, trivial⟩, hB0⟩
    (fun k => { tmps := #[.int .u64 (U x), undef, .slice none 0 0, .int .u64 (U bx), .pointer (some ⟨w2.heap.size, 0, none⟩), .pointer (some ⟨w3.heap.size, 0, none⟩), .int .i64 ((k : Nat) : Int), undef, undef, .int .u64 (U x), .int .u64 (U x), .int .u64 (U (x <<< 1)), .int .u64 (U bx), .int .u64 (U x), .int .u64 (U x), .int .u64 (U (x >>> 1)), .int .u64 (U ex), .int .u64 (U bx), .int .i64 (pop bx : Nat), .slice (some ⟨wA.heap.size, 0, none⟩) 0 (pop bx), .int .u64 (U bx), .func (.func 49) #[] #[.pointer (some ⟨w3.heap.size + 1, 0, none⟩)], .int .i64 ((k : Nat) : Int), undef, undef, undef, undef, undef, undef, undef, undef, undef, undef, undef, undef, undef], defers := [] }) ?assign ?body ?done ?stop
  case assign =>
    intro l k W K hK
    gi_wp2
    exact hK
  case body =>
    rintro l pre k W ⟨⟨v, hv, hrow, _⟩, hB⟩ hlt
    have hE := (Boxed.below_ bE hB hlt2).cell
    have hTW := hTA.below hgA hB
    have hsW := hB.size
    gi_wp2_with fail
    refine ⟨trivial, (fun _ => by omega), (CallsIn.inRound l (callsIn_wide.2 (first_any ex k W hTW (by omega)))).mono ?_⟩; rintro e W2 ⟨rfl, hb⟩
    have hv' := boxed_below hv hb
    have hrow' := own_below hrow hb
    have hBW := hB.trans (hb.mono hsW)
    have hKO := keeps_below hb
    have hleW := hb.size
    have hc := hv'.cell
    simp only [some2]
    generalize hr : (least ex k).getD 0 = r at *
    generalize (least ex k).isSome = ok at *
    have Hr := Lib.hid hr
    clear hr hv hrow hown hown'
    gi_wp2_with (gi_at_builtin; refine wpListIn_append_own _ rfl _ _ 44 rfl wA.heap.size 46 i0 (.agg #[.int .i64 0, .int .i64 0]) 2 16 Tryd.underlying44 hi hz0 hz1 hz2 rfl (by decide) _ _ _ rfl (hrow'.alloc _) ⟨W2.heap.size, 0, none⟩ 1 1 [.int .i64 (k : Int), .int .i64 (r : Int)] rfl rfl (cells_two _ _ _ _) (by simp [Value.oneCell']) (by unfold maxLen; omega) (by omega) (by simp; omega) ?_; intro v' w4 hown4 hgrow4 _; obtain ⟨g', cap', rfl⟩ := ownsRow_succ hown4; obtain ⟨hv1, hv2, hr2, hk2, hb2⟩ := hv'.appended (by decide) hrow' (by omega) (by omega) hown4 hgrow4; have hc1 := hv1.cell; have hf1 := hv1.frozen)
    exact ⟨(hKO.trans hk2).from _, (hb.mono hsW).trans hb2, ⟨_, hv2, by simpa [renc, runOf, Hr.out] using hr2, trivial⟩, hBW.trans hb2⟩
  case done =>
    rintro D ys W hD rfl ⟨⟨v, hv, hrow, _⟩, hB⟩ hK
    have hc := hv.cell
    gi_wp2
    refine ⟨by simp, .inl ⟨_, _, rfl, run_takeDeferred hK, ?_⟩⟩
    have hfin : Below w.heap.size w W := hbA.trans (hB.mono hleA)
    refine ⟨_, results_tmp rfl _ _ _, v, rfl, ?_, hfin.trans (belowK_b (w := w) (Nat.le_refl _) W D _ _ (by simp at hD; omega) hK rfl rfl)⟩
    have hq := ownsRow_putObj hrow (.deferred none) hK rfl
    unfold runsOf
    rw [Hbeg.out, Hend.out, List.length_map]
    exact own_mono hq hleA
  case stop =>
    rintro D c pre W _ _ h _
    exact h.elim
theorem runs_any (x : BitVec 64) (w : World) (hT : Tab w) (hg : 0 < w.heap.size) :
    Calls Tryd.prog 21 #[.int .u64 (U x)] w fun e W' => ∃ v, e = .returned v ∧ W'.ownsRow w.heap.size 46 2 v (runsOf x).length ((runsOf x).flatMap renc) ∧ Below w.heap.size w W' :=
  callsIn_wide.1 (runs_in 5 (by omega) x w hT hg)
end Go.Proofs.YtkakncgdhangpaaDoor
