/- A row that goes on: what is launched, and told: walked. -/
import Derived.Test.YthghcffibljclaaDoorRXMem
namespace Go.Proofs.YthghcffibljclaaDoor
open Go.RowKit

/-- All that lies below, but for this block and that of a slice, is as it was. -/
structure Kept (g : Nat) (v v' : Value) (w w' : World) : Prop where
  size : w.heap.size ≤ w'.heap.size
  block : ∀ b, b < w.heap.size → b ≠ g → v.ownBlock ≠ some b → w'.heap[b]? = w.heap[b]? ∧ v'.ownBlock ≠ some b
theorem Kept.refl (g : Nat) (v : Value) (w : World) : Kept g v v w w := ⟨Nat.le_refl _, fun _ _ _ h => ⟨rfl, h⟩⟩
theorem Kept.trans {g : Nat} {v1 v2 v3 : Value} {w1 w2 w3 : World} (h : Kept g v1 v2 w1 w2) (h' : Kept g v2 v3 w2 w3) : Kept g v1 v3 w1 w3 :=
  ⟨Nat.le_trans h.size h'.size, fun b hb hg hv => by
    obtain ⟨e1, e2⟩ := h.block b hb hg hv
    obtain ⟨e3, e4⟩ := h'.block b (Nat.lt_of_lt_of_le hb h.size) hg e2
    exact ⟨e3.trans e1, e4⟩⟩
theorem Kept.below {g : Nat} (v : Value) {w w' : World} (h : Below w.heap.size w w') : Kept g v v w w' := ⟨h.size, fun b hb _ hv => ⟨h.block b hb, hv⟩⟩
theorem Kept.row (g : Nat) (v : Value) (w : World) (cs : Array Value) : Kept g v v w (w.setRow g cs) := ⟨by simp, fun b _ hg hv => ⟨setRow_other w g b cs hg, hv⟩⟩
theorem Kept.cell (g i : Nat) (v : Value) (w : World) (u : Value) : Kept g v v w (w.setCell ⟨g, i, none⟩ u) := ⟨by simp, fun b _ hg hv => ⟨Below.heap_setCell w ⟨g, i, none⟩ u b hg, hv⟩⟩
theorem own_other {w w' : World} {base : Nat} {v : Value} {q : List Int} (ho : OwnT w base v q) (h : ∀ b, base ≤ b → b < w.heap.size → w'.heap[b]? = w.heap[b]?) : OwnT w' base v q := by
  refine ⟨ho.1, ?_⟩
  rcases ho.2 with h2 | ⟨b, cap, cur, hv, hb, hh, r⟩
  · exact .inl h2
  · exact .inr ⟨b, cap, cur, hv, hb, (h b hb (Array.getElem?_eq_some_iff.1 hh).1).trans hh, r⟩
/-- But for this block all is as it was. -/
structure Spares (g : Nat) (w w' : World) : Prop where
  size : w.heap.size ≤ w'.heap.size
  block : ∀ b, b < w.heap.size → b ≠ g → w'.heap[b]? = w.heap[b]?
theorem Spares.trans {g : Nat} {w1 w2 w3 : World} (h : Spares g w1 w2) (h' : Spares g w2 w3) : Spares g w1 w3 := ⟨Nat.le_trans h.size h'.size, fun b hb hg => (h'.block b (Nat.lt_of_lt_of_le hb h.size) hg).trans (h.block b hb hg)⟩
theorem Spares.below {g : Nat} {w w' : World} (h : Below w.heap.size w w') : Spares g w w' := ⟨h.size, fun b hb _ => h.block b hb⟩
theorem Spares.row (g : Nat) {w w' : World} (cs : Array Value) (h : w' = w.setRow g cs) : Spares g w w' := by subst h; exact ⟨by simp, fun b _ hg => setRow_other w g b cs hg⟩
theorem Spares.cell (g i : Nat) (w : World) (u : Value) : Spares g w (w.setCell ⟨g, i, none⟩ u) := ⟨by simp, fun b _ hg => Below.heap_setCell w ⟨g, i, none⟩ u b hg⟩
theorem Spares.kept {g : Nat} {w w' : World} (v : Value) (h : Spares g w w') : Kept g v v w w' := ⟨h.size, fun b hb hg hv => ⟨h.block b hb hg, hv⟩⟩
theorem Spares.own {g base : Nat} {v : Value} {w w' : World} {q : List Int} (h : Spares g w w') (ho : OwnT w base v q) (hg : g < base) : OwnT w' base v q := own_other ho fun b hb hl => h.block b hl (by omega)
theorem box_going {W : World} {g : Nat} {t : TypeId} {x0 x1 x2 : Value} (h : D.Box W g t #[x0, x1, x2]) : W.cell? ⟨g, 0, none⟩ = some x0 ∧ W.cell? ⟨g, 1, none⟩ = some x1 ∧ W.cell? ⟨g, 2, none⟩ = some x2 := ⟨D.Box.cell h 0, D.Box.cell h 1, D.Box.cell h 2⟩
def setT4 (W : World) (g : Nat) (a : LaZ) : World := ((((W.setCell ⟨g, 17, none⟩ (.int .u64 a.num)).setCell ⟨g, 18, none⟩ (.int .u32 a.name)).setCell ⟨g, 19, none⟩ (.int .i64 a.due)).setCell ⟨g, 20, none⟩ (.int .i64 a.tr)).drew
def setTV (W : World) (g : Nat) (a : LaZ) : World := (((((W.setCell ⟨g, 17, none⟩ (.int .u64 a.num)).setCell ⟨g, 18, none⟩ (.int .u32 a.name)).setCell ⟨g, 19, none⟩ (.int .i64 a.due)).setCell ⟨g, 20, none⟩ (.int .i64 a.tr)).drew).setCell ⟨g, 21, none⟩ (.int .i64 1)
theorem setTV_spares (W : World) (g : Nat) (a : LaZ) : Spares g W (setTV W g a) :=
  (((((Spares.cell g 17 W _).trans (Spares.cell g 18 _ _)).trans (Spares.cell g 19 _ _)).trans (Spares.cell g 20 _ _)).trans (Spares.below (Below.refl _ _).drew)).trans (Spares.cell g 21 _ _)
theorem setTV_below (W : World) (g : Nat) (a : LaZ) : Below g W (setTV W g a) :=
  (((((Below.refl g W).setCell (p := ⟨g, 17, none⟩) (Nat.le_refl _) _).setCell (p := ⟨g, 18, none⟩) (Nat.le_refl _) _).setCell (p := ⟨g, 19, none⟩) (Nat.le_refl _) _).setCell (p := ⟨g, 20, none⟩) (Nat.le_refl _) _).drew.setCell (p := ⟨g, 21, none⟩) (Nat.le_refl _) _
theorem CourseAt.told4 {w : World} {g : Nat} {r : RowZ} {v : Value} (h : CourseAt w g r v []) (la : LaZ) : (setT4 w g la).frozen? ⟨g, 21, none⟩ = false ∧ CourseAt (setTV w g la) g r v [la] := by
  obtain ⟨hf, hx⟩ := h
  obtain ⟨n, ob, a, b, c, d, e, t, ov, ca, re, pa, nx, num, due, tr, q, x0, x1, x2, x3, rfl, ht, hc⟩ := course_letters hf v []
  rw [hc] at hx
  have h4 := D.Box.belowAll ((((hx.set 17 (.int .u64 la.num)).set 18 (.int .u32 la.name)).set 19 (.int .i64 la.due)).set 20 (.int .i64 la.tr)) (Below.refl _ _).drew
  exact ⟨h4.frozen 21, hf, h4.set 21 (.int .i64 1)⟩
def LaS (g l : Nat) (n num due tr : Int) (W : World) : Prop := W.cell? ⟨g, 0, none⟩ = some (.int .u32 n) ∧ W.cell? ⟨g, 21, none⟩ = some (.int .i64 0) ∧ W.cell? ⟨l, 0, none⟩ = some (.int .u64 num) ∧ W.cell? ⟨l, 1, none⟩ = some (.int .i64 due) ∧ W.cell? ⟨l, 2, none⟩ = some (.int .i64 tr)
theorem LaS.drew {g l : Nat} {n num due tr : Int} {W : World} (h : LaS g l n num due tr W) : LaS g l n num due tr W.drew := by
  unfold LaS at h ⊢
  simpa using h
theorem LaS.store {g l : Nat} {n num due tr : Int} {W : World} (h : LaS g l n num due tr W) (hne : l ≠ g) (a b c d : Value) : LaS g l n num due tr ((((W.setCell ⟨g, 17, none⟩ a).setCell ⟨g, 18, none⟩ b).setCell ⟨g, 19, none⟩ c).setCell ⟨g, 20, none⟩ d).drew := by
  obtain ⟨h0, h1, h2, h3, h4⟩ := h
  have e : ∀ (V : World) (i k : Nat) (u x : Value), i ≠ k → V.cell? ⟨g, k, none⟩ = some x → (V.setCell ⟨g, i, none⟩ u).cell? ⟨g, k, none⟩ = some x := fun V i k u x hik hx => by
    rw [World.cell?_setCell_other _ _ _ _ (by first | (simp; done) | (simp; omega))]; exact hx
  have f : ∀ (V : World) (i k : Nat) (u x : Value), V.cell? ⟨l, k, none⟩ = some x → (V.setCell ⟨g, i, none⟩ u).cell? ⟨l, k, none⟩ = some x := fun V i k u x hx => by
    rw [World.cell?_setCell_other _ _ _ _ (by first | (simp; done) | (simp; omega))]; exact hx
  exact ⟨by simpa using e _ _ _ _ _ (by omega) (e _ _ _ _ _ (by omega) (e _ _ _ _ _ (by omega) (e _ _ _ _ _ (by omega) h0))), by simpa using e _ _ _ _ _ (by omega) (e _ _ _ _ _ (by omega) (e _ _ _ _ _ (by omega) (e _ _ _ _ _ (by omega) h1))), by simpa using f _ _ _ _ _ (f _ _ _ _ _ (f _ _ _ _ _ (f _ _ _ _ _ h2))), by simpa using f _ _ _ _ _ (f _ _ _ _ _ (f _ _ _ _ _ (f _ _ _ _ _ h3))), by simpa using f _ _ _ _ _ (f _ _ _ _ _ (f _ _ _ _ _ (f _ _ _ _ _ h4)))⟩
set_option maxRecDepth 100000 in
set_option maxHeartbeats 8000000 in
theorem launch_any (g : Nat) (r : RowZ) (v : Value) (num due tr : Int) (w : World) (hc : CourseAt w g r v []) (h0 : 0 ≤ num) :
    Calls Tryd.prog 39 #[.pointer (some ⟨g, 0, none⟩), goV num due tr] w fun e w' => (∃ y, e = .returned y) ∧ CourseAt w' g (runR r num due tr) v [⟨num, r.j.n, due, tr⟩] ∧ Spares g w w' ∧ Below g w w' := by
  obtain ⟨W0, hW0⟩ : ∃ W : World, W = w.alloc (.cells #[.int .u64 num, .int .i64 due, .int .i64 tr] 30) := ⟨_, rfl⟩
  have hx0 : D.Box W0 w.heap.size 30 #[.int .u64 num, .int .i64 due, .int .i64 tr] := by rw [hW0]; exact D.Box.new _ _ _
  have hb0 : Below w.heap.size w W0 := by rw [hW0]; exact new_below w _
  have hlt := hc.lt
  have hc0 := hc.on hb0
  obtain ⟨W1, hs1, hc1, cs1, hw1⟩ := hc0.setRun num due tr h0
  obtain ⟨f21, hc2⟩ := hc1.told4 ⟨num, r.j.n, due, tr⟩
  have c1 := hc1.cells
  have k0 : W1.cell? ⟨g, 0, none⟩ = some (.int .u32 r.j.n) := c1.n
  have k21 : W1.cell? ⟨g, 21, none⟩ = some (.int .i64 0) := c1.count
  have hx1 : D.Box W1 w.heap.size 30 #[.int .u64 num, .int .i64 due, .int .i64 tr] := by rw [hw1]; exact hx0.farRow (by omega) _
  obtain ⟨p0, p1, p2⟩ := box_going hx1
  have HL0 : Hid (LoadIs W0 30 w.heap.size 0 (goV num due tr)) := Lib.hid (load_of (cs := [.int .u64 num, .int .i64 due, .int .i64 tr]) hx0 0 3 [.int .u64 num, .int .i64 due, .int .i64 tr] (fun j u hj => by rw [Nat.zero_add]; exact hj) und_going size_going rfl)
  have HK : Hid (Spares g w (setTV W1 g ⟨num, r.j.n, due, tr⟩) ∧ Below g w (setTV W1 g ⟨num, r.j.n, due, tr⟩)) := Lib.hid (by
    refine ⟨((Spares.below hb0).trans (Spares.row g cs1 hw1)).trans (setTV_spares W1 g _), ?_⟩
    have h1 : Below g w W0 := (hb0.mono (by omega))
    have h2 : Below g w W1 := by rw [hw1]; exact below_setRow h1 (Nat.le_refl _) cs1
    exact h2.trans (setTV_below W1 g _))
  have e17 := hc1.told0; have g17 := hc1.frozen 17; have g18 := hc1.frozen 18; have g19 := hc1.frozen 19; have g20 := hc1.frozen 20
  obtain ⟨e17, e18, e19, e20⟩ := e17
  have HS1 := Lib.hid hs1; have HC2 := Lib.hid hc2
  clear hc hc1 hc2 c1 hs1 hw1 hc0 hx0 hx1 hb0
  unfold goV at HS1 HL0 ⊢
  go_enter Tryd.func39, Tryd.ntmps39
  go_upto_region 1 with fail
  rw [← hW0]
  clear hW0
  go_upto_region 2 with (first | refine list_load rfl _ rfl rfl HL0.out ?_ | refine list_store rfl _ _ rfl rfl rfl HS1.out ?_)
  clear HL0 HS1
  have w1 : IntKind.i64.wrap ((0 : Int) + 1) = 1 := by decide
  have hS : LaS g w.heap.size r.j.n num due tr W1 := ⟨k0, k21, p0, p1, p2⟩
  have hlg : w.heap.size ≠ g := by omega
  go_region_held3 (fun w' => w'.cell? ⟨g, 0, none⟩ = some (.int .u32 r.j.n) ∧ w'.cell? ⟨g, 21, none⟩ = some (.int .i64 0) ∧ w'.cell? ⟨w.heap.size, 0, none⟩ = some (.int .u64 num) ∧ w'.cell? ⟨w.heap.size, 1, none⟩ = some (.int .i64 due) ∧ w'.cell? ⟨w.heap.size, 2, none⟩ = some (.int .i64 tr)) (first | exact hS | exact hS.drew | exact hS.store hlg _ _ _ _ | exact hS.drew.store hlg _ _ _ _) (fail)
  obtain ⟨W2, hW2⟩ : ∃ W2 : World, W2 = setT4 W1 g ⟨num, r.j.n, due, tr⟩ := ⟨_, rfl⟩
  have d21 : W2.cell? ⟨g, 21, none⟩ = some (.int .i64 0) := by rw [hW2]; exact (hS.store hlg _ _ _ _).2.1
  have HC3 : Hid (CourseAt (W2.setCell ⟨g, 21, none⟩ (.int .i64 1)) g (runR r num due tr) v [⟨num, r.j.n, due, tr⟩]) := Lib.hid (by rw [hW2]; exact HC2.out)
  have HK3 : Hid (Spares g w (W2.setCell ⟨g, 21, none⟩ (.int .i64 1)) ∧ Below g w (W2.setCell ⟨g, 21, none⟩ (.int .i64 1))) := Lib.hid (by rw [hW2]; exact HK.out)
  rw [← hW2] at f21
  have hW3 : ((((W1.setCell ⟨g, 17, none⟩ (.int .u64 num)).setCell ⟨g, 18, none⟩ (.int .u32 r.j.n)).setCell ⟨g, 19, none⟩ (.int .i64 due)).setCell ⟨g, 20, none⟩ (.int .i64 tr)).drew = W2 := hW2.symm
  rw [hW3]
  clear hW3 hW2 hS k0 k21 p0 p1 p2 e17 e18 e19 e20 g17 g18 g19 g20 HC2 HK
  go_wp2_with fail
  exact bodyPost_end (v := .tuple #[]) (by simp [results, Tryd.results39, go_sem]) rfl ⟨⟨_, rfl⟩, HC3.out, HK3.out⟩
end Go.Proofs.YthghcffibljclaaDoor
