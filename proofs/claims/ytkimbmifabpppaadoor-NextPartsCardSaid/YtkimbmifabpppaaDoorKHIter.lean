/- The times of a day, told one by one: timesOf, walked, of the program. -/
import Derived.Test.YtkimbmifabpppaaDoorK1
import Derived.Test.YtkimbmifabpppaaDoorKHDay
namespace Go.Proofs.YtkimbmifabpppaaDoor
open Go.RowKit

/-- A slice of ints that reads l. -/
def ArrT (w : World) (A : Option Addr) (n : Nat) (l : List Int) : Prop := l.length = n ∧ ∀ (i : Nat) (x : Int), l[i]? = some x → ∃ b off, A = some ⟨b, off, none⟩ ∧ b < w.heap.size ∧ w.cell? ⟨b, off + i, none⟩ = some (.int .i64 x)
theorem ArrT.on {w w' : World} {A : Option Addr} {n : Nat} {l : List Int} (h : ArrT w A n l) (hb : Below w.heap.size w w') : ArrT w' A n l :=
  ⟨h.1, fun i x hx => by
    obtain ⟨b, off, rfl, hlt, hc⟩ := h.2 i x hx
    exact ⟨b, off, rfl, Nat.lt_of_lt_of_le hlt hb.size, (hb.cell (p := ⟨b, off + i, none⟩) hlt).trans hc⟩⟩
theorem all_ints (x : BitVec 64) (w : World) (hL : LaidC w) :
    Calls Tryd.prog 76 #[.int .u64 (U x)] w fun e W' => ∃ v, e = .returned v ∧ W'.ownsRow w.heap.size 3 1 v (ints x).length ((ints x).map int1) ∧ Below w.heap.size w W' := by
  refine (all_any x w hL.fld.tab (by have := hL.fld.lt; show 3 < w.heap.size; omega)).mono ?_
  rintro e w' ⟨v, rfl, hv, hb⟩
  refine ⟨v, rfl, ?_, hb⟩
  have e1 : (ints x).map int1 = (elems x).map ienc := by unfold ints; rw [List.map_map]; rfl
  have e2 : (ints x).length = (elems x).length := by unfold ints; rw [List.length_map]
  rw [e1, e2]
  exact hv
theorem bx1 {Z w' : World} {t : TypeId} {cs : Array Value} (hb : Below (Z.alloc (.cells cs t)).heap.size (Z.alloc (.cells cs t)) w') : D.Box w' Z.heap.size t cs := D.Box.belowAll (D.Box.new _ _ _) hb
theorem bx1d {Z w' : World} {t : TypeId} {cs : Array Value} (hb : Below (Z.alloc (.cells cs t)).drew.heap.size (Z.alloc (.cells cs t)).drew w') : D.Box w' Z.heap.size t cs := D.Box.belowAll (w := (Z.alloc (.cells cs t)).drew) (show D.Box (Z.alloc (.cells cs t)).drew _ _ _ from D.Box.new Z t cs) hb
theorem bx2 {Z w' : World} {t t' : TypeId} {cs cs' : Array Value} (hb : Below ((Z.alloc (.cells cs t)).alloc (.cells cs' t')).heap.size ((Z.alloc (.cells cs t)).alloc (.cells cs' t')) w') : D.Box w' Z.heap.size t cs ∧ D.Box w' (Z.heap.size + 1) t' cs' := by
  refine ⟨D.Box.belowAll ((D.Box.new _ _ _).alloc _) hb, ?_⟩
  have := bx1 hb
  rwa [World.size_alloc] at this
theorem bx2d {Z w' : World} {t t' : TypeId} {cs cs' : Array Value} (hb : Below ((Z.alloc (.cells cs t)).alloc (.cells cs' t')).drew.heap.size ((Z.alloc (.cells cs t)).alloc (.cells cs' t')).drew w') : D.Box w' Z.heap.size t cs ∧ D.Box w' (Z.heap.size + 1) t' cs' := bx2 (Z := Z) (cs := cs) (t := t) (cs' := cs') (t' := t') ⟨hb.os, hb.tape, hb.output, hb.size, hb.block⟩
theorem bxo {Z w' : World} {g : Nat} {o : Obj} {t : TypeId} {cs : Array Value} (h : D.Box Z g t cs) (hb : Below (Z.alloc o).heap.size (Z.alloc o) w') : D.Box w' g t cs := D.Box.belowAll (h.alloc o) hb
theorem own_low {W : World} {B B' n size : Nat} {e : TypeId} {v : Value} {xs : List Value} (h : W.ownsRow B' e size v n xs) (hB : B ≤ B') : W.ownsRow B e size v n xs := by
  refine ⟨h.1, ?_⟩
  rcases h.2 with hn | ⟨g, c, cur, h1, h2, h3⟩
  · exact .inl hn
  · exact .inr ⟨g, c, cur, h1, Nat.le_trans hB h2, h3⟩
theorem apart_of {a b : Option Nat} {N : Nat} (h1 : ∀ k, a = some k → k < N) (h2 : ∀ k, b = some k → N ≤ k) : a = none ∨ a ≠ b := by
  cases a with
  | none => exact .inl rfl
  | some k =>
    right
    intro e
    have := h1 k rfl
    have := h2 k e.symm
    omega
/-- Two own rows of ints. -/
structure RowsI (B : Nat) (W0 W : World) (vh vm : Value) (hs ms : List Int) : Prop where
  h : W.ownsRow B 3 1 vh hs.length (hs.map int1)
  m : W.ownsRow B 3 1 vm ms.length (ms.map int1)
  b : Below B W0 W
  ap : vh.ownBlock = none ∨ vh.ownBlock ≠ vm.ownBlock
theorem RowsI.alloc {B : Nat} {W0 W : World} {vh vm : Value} {hs ms : List Int} (h : RowsI B W0 W vh vm hs ms) (hB : B ≤ W0.heap.size) (o : Obj) : RowsI B W0 (W.alloc o) vh vm hs ms :=
  ⟨h.h.alloc o, h.m.alloc o, h.b.alloc (Nat.le_trans hB h.b.size) o, h.ap⟩
theorem own_box {W : World} {B n H : Nat} {v : Value} {xs cs : List Value} (h : W.ownsRow B 3 1 v n xs) (hX : D.Box W H 33 cs.toArray) : v.ownBlock = none ∨ v.ownBlock ≠ some H := by
  rcases h.2 with ⟨rfl, _⟩ | ⟨g, c, cur, rfl, _, hg, _⟩
  · exact .inl rfl
  · right
    intro he
    simp only [Value.ownBlock, Option.some.injEq] at he
    subst he
    unfold D.Box at hX
    rw [hg] at hX
    cases hX
theorem grown_set (W : World) (H : Nat) (u : Value) : W.grownBy (W.setCell ⟨H, 0, none⟩ u) (some H) :=
  ⟨rfl, rfl, rfl, by simp, fun k _ hne => Below.heap_setCell W ⟨H, 0, none⟩ u k (fun e => hne (by rw [e]))⟩
theorem RowsI.set {B H : Nat} {W0 W : World} {vh vm x : Value} {hs ms : List Int} (h : RowsI B W0 W vh vm hs ms) (hX : D.Box W H 33 #[x]) (hH : B ≤ H) (u : Value) : RowsI B W0 (W.setCell ⟨H, 0, none⟩ u) vh vm hs ms :=
  ⟨h.h.kept (grown_set W H u) (own_box (cs := [x]) h.h hX), h.m.kept (grown_set W H u) (own_box (cs := [x]) h.m hX), h.b.setCell (p := ⟨H, 0, none⟩) hH u, h.ap⟩
/-- What timesOf has laid. -/
structure Twin (B : Nat) (W0 W : World) (vh vm : Value) (hs ms : List Int) (H M : Nat) : Prop where
  r : RowsI B W0 W vh vm hs ms
  xh : D.Box W H 33 #[vh]
  xm : D.Box W M 33 #[vm]
  lh : B ≤ H
  lm : B ≤ M
theorem box_far {W : World} {H M : Nat} {t : TypeId} {cs : Array Value} (h : D.Box W H t cs) (hn : H ≠ M) (u : Value) : D.Box (W.setCell ⟨M, 0, none⟩ u) H t cs := (Below.heap_setCell W ⟨M, 0, none⟩ u H hn).trans h
theorem box_one {W : World} {H : Nat} {t : TypeId} {x : Value} (h : D.Box W H t #[x]) (u : Value) : D.Box (W.setCell ⟨H, 0, none⟩ u) H t #[u] := D.Box.set h 0 u
theorem twin_aa {B : Nat} {W0 W : World} {vh vm : Value} {hs ms : List Int} (h : RowsI B W0 W vh vm hs ms) (hB : B ≤ W0.heap.size) : Twin B W0 ((W.alloc (.cells #[vh] 33)).alloc (.cells #[vm] 33)) vh vm hs ms W.heap.size (W.heap.size + 1) :=
  have hs := Nat.le_trans hB h.b.size
  ⟨(h.alloc hB _).alloc hB _, (D.Box.new _ _ _).alloc _, by have := D.Box.new (W.alloc (.cells #[vh] 33)) 33 #[vm]; rwa [World.size_alloc] at this, hs, by omega⟩
theorem twin_aa' {B : Nat} {W0 W : World} {vh vm : Value} {hs ms : List Int} (h : RowsI B W0 W vh vm hs ms) (hB : B ≤ W0.heap.size) : Twin B W0 ((W.alloc (.cells #[vm] 33)).alloc (.cells #[vh] 33)) vh vm hs ms (W.heap.size + 1) W.heap.size :=
  have hs := Nat.le_trans hB h.b.size
  ⟨(h.alloc hB _).alloc hB _, by have := D.Box.new (W.alloc (.cells #[vm] 33)) 33 #[vh]; rwa [World.size_alloc] at this, (D.Box.new _ _ _).alloc _, by omega, hs⟩
theorem twin_sa {B P : Nat} {W0 W : World} {vh vm x : Value} {hs ms : List Int} (h : RowsI B W0 W vh vm hs ms) (hB : B ≤ W0.heap.size) (hX : D.Box W P 33 #[x]) (hP : B ≤ P) : Twin B W0 ((W.setCell ⟨P, 0, none⟩ vh).alloc (.cells #[vm] 33)) vh vm hs ms P W.heap.size :=
  ⟨(h.set hX hP vh).alloc hB _, (box_one hX vh).alloc _, by have := D.Box.new (W.setCell ⟨P, 0, none⟩ vh) 33 #[vm]; simpa using this, hP, Nat.le_trans hB h.b.size⟩
theorem twin_sa' {B P : Nat} {W0 W : World} {vh vm x : Value} {hs ms : List Int} (h : RowsI B W0 W vh vm hs ms) (hB : B ≤ W0.heap.size) (hX : D.Box W P 33 #[x]) (hP : B ≤ P) : Twin B W0 ((W.setCell ⟨P, 0, none⟩ vm).alloc (.cells #[vh] 33)) vh vm hs ms W.heap.size P :=
  ⟨(h.set hX hP vm).alloc hB _, by have := D.Box.new (W.setCell ⟨P, 0, none⟩ vm) 33 #[vh]; simpa using this, (box_one hX vm).alloc _, Nat.le_trans hB h.b.size, hP⟩
theorem twin_ss {B P Q : Nat} {W0 W : World} {vh vm x y : Value} {hs ms : List Int} (h : RowsI B W0 W vh vm hs ms) (hX : D.Box W P 33 #[x]) (hY : D.Box W Q 33 #[y]) (hn : P ≠ Q) (hP : B ≤ P) (hQ : B ≤ Q) : Twin B W0 ((W.setCell ⟨P, 0, none⟩ vh).setCell ⟨Q, 0, none⟩ vm) vh vm hs ms P Q :=
  ⟨(h.set hX hP vh).set (box_far hY hn.symm vh) hQ vm, box_far (box_one hX vh) hn vm, box_one (box_far hY hn.symm vh) vm, hP, hQ⟩
theorem box_grown {W W' : World} {B n H : Nat} {v : Value} {xs cs : List Value} (h : W.ownsRow B 3 1 v n xs) (hX : D.Box W H 33 cs.toArray) (hg : W.grownBy W' v.ownBlock) : D.Box W' H 33 cs.toArray := by
  refine (hg.block H (D.Box.lt hX) ?_).trans hX
  rcases own_box h hX with h1 | h1
  · rw [h1]; simp
  · exact fun e => h1 e.symm
theorem Twin.rev1 {B : Nat} {W0 W W' : World} {vh vm : Value} {hs ms : List Int} {H M : Nat} (h : Twin B W0 W vh vm hs ms H M) (hB : B ≤ W0.heap.size) (hr : W'.ownsRow B 3 1 vh hs.length (hs.reverse.map int1)) (hg : W.grownBy W' vh.ownBlock) : Twin B W0 W' vh vm hs.reverse ms H M :=
  ⟨⟨by rw [List.length_reverse]; exact hr, h.r.m.kept hg (by
      rcases h.r.ap with e | e
      · rw [e]
        cases vm.ownBlock with
        | none => exact .inl rfl
        | some k => exact .inr (fun q => by cases q)
      · exact .inr (fun q => e q.symm)), h.r.b.grown hg (Nat.le_trans hB h.r.b.size) (fun j e => (h.r.h.lt j e).1), h.r.ap⟩,
   box_grown (cs := [vh]) h.r.h h.xh hg, box_grown (cs := [vm]) h.r.h h.xm hg, h.lh, h.lm⟩
theorem Twin.rev2 {B : Nat} {W0 W W' : World} {vh vm : Value} {hs ms : List Int} {H M : Nat} (h : Twin B W0 W vh vm hs ms H M) (hB : B ≤ W0.heap.size) (hr : W'.ownsRow B 3 1 vm ms.length (ms.reverse.map int1)) (hg : W.grownBy W' vm.ownBlock) : Twin B W0 W' vh vm hs ms.reverse H M :=
  ⟨⟨h.r.h.kept hg h.r.ap, by rw [List.length_reverse]; exact hr, h.r.b.grown hg (Nat.le_trans hB h.r.b.size) (fun j e => (h.r.m.lt j e).1), h.r.ap⟩,
   box_grown (cs := [vh]) h.r.m h.xh hg, box_grown (cs := [vm]) h.r.m h.xm hg, h.lh, h.lm⟩
set_option maxRecDepth 100000 in
set_option maxHeartbeats 2000000 in
theorem timesOf_any (a b c d e : BitVec 64) (y m n way : Int) (w : World) (hL : LaidC w) :
    Calls Tryd.prog 47 #[cronV [a, b, c, d, e], .agg #[.int .i64 y, .int .i64 m, .int .i64 n], .int .i64 way] w fun x w' => ∃ (H M : Nat) (vh vm : Value), x = .returned (.func (.func 78) #[] #[.pointer (some ⟨w.heap.size + 1, 0, none⟩), .pointer (some ⟨H, 0, none⟩), .pointer (some ⟨M, 0, none⟩)]) ∧ Twin (w.heap.size + 2) w' w' vh vm (wayL way (ints b)) (wayL way (ints a)) H M ∧ D.Box w' (w.heap.size + 1) 56 #[.int .i64 y, .int .i64 m, .int .i64 n] ∧ Below w.heap.size w w' := by
  obtain ⟨WB, hWB, hb0, hc0, hd0⟩ := five_cells w a b c d e y m n
  have hsz : WB.heap.size = w.heap.size + 2 := by rw [hWB]; simp
  have HL := Lib.hid (hL.on hb0)
  have HB0 := Lib.hid hb0; have HD0 := Lib.hid hd0; have HC0 := Lib.hid hc0
  rw [cronV_five]
  unfold fiveV
  have HH := Lib.hid (fun W hW => all_ints b W hW)
  have HM := Lib.hid (fun W hW => all_ints a W hW)
  have hia := ints_64 a
  have hib := ints_64 b
  generalize ints a = la at *
  generalize ints b = lb at *
  go_enter Tryd.func47, Tryd.ntmps47
  go_wp2_with fail
  rw [← hWB]
  go_cut [7, 8] from 9 to 14 (fun s7 s8 wx => ∃ (H M : Nat) (A4 A5 : Option Addr) (n4 n5 : Nat), s7 = .pointer (some ⟨H, 0, none⟩) ∧ s8 = .pointer (some ⟨M, 0, none⟩) ∧ Twin WB.heap.size WB wx (.slice A4 lb.length n4) (.slice A5 la.length n5) lb la H M)
  case first =>
    clear hWB
    obtain ⟨c0, c1, c2, c3, c4⟩ := hc0.five
    have hBE := Below.refl WB.heap.size WB
    have hwB := hc0.lt
    have hwN := Nat.ne_of_lt hwB
    have HALL := Lib.hid (fun (W : World) (hW : Below WB.heap.size WB W) => (⟨by
      obtain ⟨c0, c1, _, _, _⟩ := (HC0.out.on hW).five
      exact ⟨c0, c1⟩⟩ : PLift (W.cell? ⟨w.heap.size, 0, none⟩ = some (.int .u64 (U a)) ∧ W.cell? ⟨w.heap.size, 1, none⟩ = some (.int .u64 (U b)))).down)
    clear hL hb0 hd0 hc0 hsz hia hib
    go_region_held3 (fun W => W.cell? ⟨w.heap.size, 0, none⟩ = some (.int .u64 (U a)) ∧ W.cell? ⟨w.heap.size, 1, none⟩ = some (.int .u64 (U b))) ((refine HALL.out _ ?_; repeat (first | exact hBE | refine Below.drew ?_ | refine Below.setCell ?_ (by first | (have := hBE.size; have := hBD.size; first | omega | (simp; done) | (simp; omega)) | (have := hBE.size; first | omega | (simp; done) | (simp; omega))) _ | refine Below.alloc ?_ (by first | (have := hBE.size; have := hBD.size; first | omega | (simp; done) | (simp; omega)) | (have := hBE.size; first | omega | (simp; done) | (simp; omega))) _))) (first
      | (go_at_call 76; (with_reducible refine (HH.out _ (HL.out.on (by repeat (first | exact hBE | refine Below.drew ?_ | refine Below.alloc ?_ (by have := hBE.size; first | omega | (simp; done) | (simp; omega)) _)))).mono ?_); rintro x w4 ⟨v, rfl, hv, hb⟩; obtain ⟨A4, n4, rfl⟩ := own_slice0 hv; have hBD : Below WB.heap.size WB w4 := Below.trans (by repeat (first | exact hBE | refine Below.drew ?_ | refine Below.alloc ?_ (by have := hBE.size; first | omega | (simp; done) | (simp; omega)) _)) (hb.mono (by first | exact Nat.le_refl _ | (simp; done) | (simp; omega))); replace hBE := hBD; have hS4 := hb.size; obtain ⟨e0, e1⟩ := HALL.out _ hBE; have k4 := Nat.lt_of_lt_of_le hwB hBE.size; have j4 := Nat.ne_of_lt k4; first | (have hX0 := bx2 hb; obtain ⟨hX1, hX2⟩ := hX0; obtain ⟨p1, p2⟩ := hX1.one; have l1 := hX1.lt; have m1 := Nat.ne_of_lt hX1.lt; obtain ⟨p3, p4⟩ := hX2.one; have l2 := hX2.lt; have m2 := Nat.ne_of_lt hX2.lt) | (have hX0 := bx2d hb; obtain ⟨hX1, hX2⟩ := hX0; obtain ⟨p1, p2⟩ := hX1.one; have l1 := hX1.lt; have m1 := Nat.ne_of_lt hX1.lt; obtain ⟨p3, p4⟩ := hX2.one; have l2 := hX2.lt; have m2 := Nat.ne_of_lt hX2.lt) | (have hX1 := bx1 hb; obtain ⟨p1, p2⟩ := hX1.one; have l1 := hX1.lt; have m1 := Nat.ne_of_lt hX1.lt) | (have hX1 := bx1d hb; obtain ⟨p1, p2⟩ := hX1.one; have l1 := hX1.lt; have m1 := Nat.ne_of_lt hX1.lt) | skip)
      | (go_at_call 76; (with_reducible refine (HM.out _ (HL.out.on (by repeat (first | exact hBE | refine Below.drew ?_ | refine Below.alloc ?_ (by have := hBE.size; first | omega | (simp; done) | (simp; omega)) _)))).mono ?_); rintro x w5 ⟨v', rfl, hv', hb'⟩; obtain ⟨A5, n5, rfl⟩ := own_slice0 hv'; have hBD' : Below WB.heap.size WB w5 := Below.trans (by repeat (first | exact hBE | refine Below.drew ?_ | refine Below.alloc ?_ (by have := hBE.size; first | omega | (simp; done) | (simp; omega)) _)) (hb'.mono (by have := hBE.size; first | exact this | (simp; done) | (simp; omega))); have hS5 := hb'.size; replace hBE := hBD'; obtain ⟨f0, f1⟩ := HALL.out _ hBE; have k5 := Nat.lt_of_lt_of_le hwB hBE.size; have j5 := Nat.ne_of_lt k5; first | (have hX3 := D.Box.belowAll hX1 hb'; have hX4 := D.Box.belowAll hX2 hb'; obtain ⟨q1, q2⟩ := hX3.one; have l3 := hX3.lt; have m3 := Nat.ne_of_lt hX3.lt; obtain ⟨q3, q4⟩ := hX4.one; have l4 := hX4.lt; have m4 := Nat.ne_of_lt hX4.lt) | (have hX3 := bxo hX1 hb'; have hX4 := bx1 hb'; obtain ⟨q1, q2⟩ := hX3.one; have l3 := hX3.lt; have m3 := Nat.ne_of_lt hX3.lt; obtain ⟨q3, q4⟩ := hX4.one; have l4 := hX4.lt; have m4 := Nat.ne_of_lt hX4.lt) | (have hX3 := D.Box.belowAll hX1 hb'; obtain ⟨q1, q2⟩ := hX3.one; have l3 := hX3.lt; have m3 := Nat.ne_of_lt hX3.lt) | (have hX0 := bx2 hb'; obtain ⟨hX3, hX4⟩ := hX0; obtain ⟨q1, q2⟩ := hX3.one; have l3 := hX3.lt; have m3 := Nat.ne_of_lt hX3.lt; obtain ⟨q3, q4⟩ := hX4.one; have l4 := hX4.lt; have m4 := Nat.ne_of_lt hX4.lt) | (have hX3 := bx1 hb'; obtain ⟨q1, q2⟩ := hX3.one; have l3 := hX3.lt; have m3 := Nat.ne_of_lt hX3.lt) | skip))
    all_goals
      go_wp2_with fail
      go_meet
      have hlo := hBD.size
      have hlo' := hBE.size
      have hv5 := own_below (by first | exact hv | exact hv.alloc _ | exact (hv.alloc _).alloc _) hb'
      have hR : RowsI WB.heap.size WB w5 (.slice A4 lb.length n4) (.slice A5 la.length n5) lb la := ⟨own_low hv5 (by first | exact Nat.le_refl _ | omega | (simp; done) | (simp; omega)), own_low hv' (by first | exact hlo | omega | (simp; done) | (simp; omega)), hBE, apart_of (N := w4.heap.size) (fun k hk => (hv.lt k hk).2) (fun k hk => Nat.le_trans (by first | exact Nat.le_refl _ | (simp; done) | (simp; omega)) (hv'.lt k hk).1)⟩
      refine ⟨_, _, A4, A5, n4, n5, rfl, rfl, ?_⟩
      first
        | exact twin_aa hR (Nat.le_refl _)
        | exact twin_aa' hR (Nat.le_refl _)
        | exact twin_sa hR (Nat.le_refl _) hX3 (by omega)
        | exact twin_sa' hR (Nat.le_refl _) hX3 (by omega)
        | exact twin_ss hR hX3 hX4 (by omega) (by omega) (by omega)
        | exact twin_ss hR hX4 hX3 (by omega) (by omega) (by omega)
  case rest =>
    obtain ⟨H, M, A4, A5, n4, n5, rfl, rfl, hT⟩ := hcut
    have HT := Lib.hid (show Twin (w.heap.size + 2) WB wc (.slice A4 lb.length n4) (.slice A5 la.length n5) lb la H M from hsz ▸ hT)
    have hBW : Hid (∀ W : World, Below WB.heap.size WB W → D.Box W (w.heap.size + 1) 56 #[.int .i64 y, .int .i64 m, .int .i64 n] ∧ Below w.heap.size w W) := Lib.hid (fun W hW => ⟨D.Box.belowAll HD0.out hW, HB0.out.trans (hW.mono HB0.out.size)⟩)
    clear hWB hL hb0 hc0 hd0 HH HM hT HL
    by_cases hw : way = -1
    · subst hw
      obtain ⟨c0, f0⟩ := HT.out.xh.one
      go_wp2_with fail
      refine (reverse_any (w.heap.size + 2) lb.length (.slice A4 lb.length n4) lb wc rfl (by unfold maxLen; omega) HT.out.r.h).mono ?_
      rintro e w6 ⟨rfl, hr, hg⟩
      have HT1 := Lib.hid (HT.out.rev1 (Nat.le_of_eq hsz.symm) hr hg)
      clear hr hg HT c0 f0
      obtain ⟨c0, f0⟩ := HT1.out.xm.one
      go_wp2_with fail
      refine (reverse_any (w.heap.size + 2) la.length (.slice A5 la.length n5) la w6 rfl (by unfold maxLen; omega) HT1.out.r.m).mono ?_
      rintro e w7 ⟨rfl, hr, hg⟩
      have HT2 := Lib.hid (HT1.out.rev2 (Nat.le_of_eq hsz.symm) hr hg)
      clear hr hg HT1 c0 f0
      go_wp2_with fail
      go_ret
      have e1 : wayL (-1) lb = lb.reverse := if_pos rfl
      have e2 : wayL (-1) la = la.reverse := if_pos rfl
      obtain ⟨h1, h2⟩ := hBW.out w7 (by rw [hsz]; exact HT2.out.r.b)
      rw [e1, e2]
      exact ⟨H, M, _, _, rfl, ⟨⟨HT2.out.r.h, HT2.out.r.m, Below.refl _ _, HT2.out.r.ap⟩, HT2.out.xh, HT2.out.xm, HT2.out.lh, HT2.out.lm⟩, h1, h2⟩
    · have hd : (way == -1) = false := by simpa using hw
      go_wp2_with fail
      go_ret
      have e1 : wayL way lb = lb := if_neg hw
      have e2 : wayL way la = la := if_neg hw
      obtain ⟨h1, h2⟩ := hBW.out wc (by rw [hsz]; exact HT.out.r.b)
      rw [e1, e2]
      exact ⟨H, M, _, _, rfl, ⟨⟨HT.out.r.h, HT.out.r.m, Below.refl _ _, HT.out.r.ap⟩, HT.out.xh, HT.out.xm, HT.out.lh, HT.out.lm⟩, h1, h2⟩
end Go.Proofs.YtkimbmifabpppaaDoor
