/- WheelSteps: walked. -/
import Derived.Test.YtidgiohjgkfjcaaDoorQFull
import Derived.Test.YtidgiohjgkfjcaaDoorQMade
import Derived.Test.YtidgiohjgkfjcaaDoorQOpen
import Derived.Test.YtidgiohjgkfjcaaDoorQSlices
import Derived.BigFrame
namespace Go.Proofs.YtidgiohjgkfjcaaDoor
open Go.RowKit

theorem DuesR.onlyB {w w' : World} {p B n c : Nat} {A : Option Addr} {l : List (Int × Int)} (h : DuesR w B A n c l) (hB : B ≤ w.heap.size) (ho : Only p w w') (hp : OffP p A) : DuesR w' B A n c l :=
  ⟨h.len, h.cap, h.top, fun k r hk => by
    obtain ⟨b, o, e, hl, h0, h1⟩ := h.at_ k r hk
    have hb := ho.block b (by omega) (hp b o none e)
    refine ⟨b, o, e, hl, ?_, ?_⟩
    · rw [← h0]; unfold World.cell?; dsimp only; rw [hb]
    · rw [← h1]; unfold World.cell?; dsimp only; rw [hb]⟩
/-- An append to a row of one's own, in an operation whose guard says yes. -/
theorem list_own9g {w : World} {ops : Array Oper} {rest : List Oper} {o : Oper} {a : Act} {Q : Exit → Act → World → Prop} {base B n m c : Nat} {v : Value} {A2 : Option Addr} {l1 l2 : List (Int × Int)} (hgd : Region.wanted o (yielded ops a.tmps) = true) (s x : Operand)
    (ho : o.op = .call { callee := .builtin .append, args := #[s, x], argTypes := #[29, 29] }) (hs : a.eval s = v) (hx : a.eval x = .slice A2 m c)
    (h1 : OwnD w base v l1) (h2 : DuesR w B A2 m c l2) (hb : base ≤ w.heap.size) (hn : l1.length + m ≤ n) (hle : n ≤ 100000) (hA : A2 = none → c = 0)
    (h : ∀ v' w', OwnD w' base v' (l1 ++ l2) → w.grownBy w' v.ownBlock → (v'.ownBlock = v.ownBlock ∨ v'.ownBlock = some w.heap.size) → wpList Tryd.prog ops Q rest (a.put o.dst v') w') : wpList Tryd.prog ops Q (o :: rest) a w := by
  obtain ⟨v', w', hr, ho2, hg, ha⟩ := run_append_dues (n := n) o.type h1 h2 hb hn hle hA
  exact BigFrame.wpList_want hgd fun K hK => wp_append9 s x ho hs hx hr (hK _ _ (h v' w' ho2 hg ha))
/-- Rows that do not lie where v's own row lies. -/
@[reducible] def RowsNot (v : Value) : Rows := ⟨fun b => v.ownBlock ≠ some b⟩
section
variable [Rows]
theorem wh_turn (p : Nat) (t u : Int) (l : List (Int × Int)) (w : World) (h : Wh w w.heap.size p t l) (htu : t ≤ u) (hu : u ≤ topQ) (hT : Tab w) (hg : 0 < w.heap.size) (hgp : 0 ≠ p) (hX : ∀ b, w.heap.size ≤ b → Rows.ok b) :
    Calls Tryd.prog 16 #[.pointer (some ⟨p, 0, none⟩), .int .i64 u] w fun e w' => (∃ v, e = .returned (.tuple #[v, .int .i64 0]) ∧ OwnD w' w.heap.size v (dueQ u l)) ∧ Wh w' w'.heap.size p u (leftQ u l) ∧ Only p w w' := by
  have h0 := h.right.time.1
  obtain ⟨t, rfl⟩ := Int.eq_ofNat_of_zero_le h0
  obtain ⟨u, rfl⟩ := Int.eq_ofNat_of_zero_le (show 0 ≤ u by omega)
  exact turn_yes p t u l w h (by omega) (by unfold topQ at hu; omega) hT hg hgp hX
theorem Wh.box {w : World} {B p : Nat} {t : Int} {l : List (Int × Int)} (h : Wh w B p t l) : ∃ cs, QBox w p 78 cs := by
  obtain ⟨V, hV, _⟩ := h.at_
  obtain ⟨cs, hcs, _⟩ := hV.ty
  exact ⟨cs, hcs⟩
end
/-- A wheel whose rows do not lie in v's row: v's row grows beside it. -/
theorem Wh.grown {w w' : World} {p B0 : Nat} {t : Int} {l lt : List (Int × Int)} {v v' : Value} (h : @Wh (RowsNot v) w w.heap.size p t l) (hv : OwnD w B0 v lt) (hp : p < B0) (hg : w.grownBy w' v.ownBlock) (ha : v'.ownBlock = v.ownBlock ∨ v'.ownBlock = some w.heap.size) :
    @Wh (RowsNot v') w' w'.heap.size p t l := by
  obtain ⟨V, hV, hok⟩ := @Wh.at_ (RowsNot v) _ _ _ _ _ h
  have hrow : ∀ k, v.ownBlock = some k → B0 ≤ k := fun k e => (World.ownsRow.lt hv k e).1
  have hbp : w'.heap[p]? = w.heap[p]? := hg.block p hV.lt (fun e => by have := hrow p e.symm; omega)
  have hc : ∀ i, w'.cell? ⟨p, i, none⟩ = w.cell? ⟨p, i, none⟩ := fun i => by unfold World.cell?; dsimp only; rw [hbp]
  obtain ⟨cs, hcs, h326⟩ := hV.ty
  refine @Wh.mk (RowsNot v') _ _ _ _ _ (@Wh.right (RowsNot v) _ _ _ _ _ h) ⟨V, ⟨⟨cs, hbp.trans hcs, h326⟩, Nat.lt_of_lt_of_le hV.low hg.size, (hc 0).trans hV.now, fun n hn => ?_, fun n s hn hs => (hc _).trans (hV.slot n s hn hs), fun j hj => ?_⟩, ?_⟩ (@Wh.pos (RowsNot v) _ _ _ _ _ h)
  · obtain ⟨m, hm, hb⟩ := hV.mask n hn
    exact ⟨m, (hc _).trans hm, hb⟩
  · have hd := hV.due j hj
    have hkeep : ∀ b o, stQ t l j ≠ [] → (V j).1 = some ⟨b, o, none⟩ → b < w.heap.size → w'.heap[b]? = w.heap[b]? := fun b o hn e hl => hg.block b hl (fun e2 => hok j b o none hn e e2.symm)
    refine ⟨⟨hd.row.len, hd.row.cap, hd.row.top, fun k r hk => ?_⟩, fun b o hn hA => ?_, hd.shape⟩
    · obtain ⟨b, o, e, hl, h0, h1⟩ := hd.row.at_ k r hk
      have hw := hkeep b o (fun e => by rw [e] at hk; simp at hk) e hl
      refine ⟨b, o, e, Nat.lt_of_lt_of_le hl hg.size, ?_, ?_⟩
      · rw [← h0]; unfold World.cell?; dsimp only; rw [hw]
      · rw [← h1]; unfold World.cell?; dsimp only; rw [hw]
    · obtain ⟨cs2, f2, h2⟩ := hd.ty b o hn hA
      have hl := (Array.getElem?_eq_some_iff.1 h2).1
      exact ⟨cs2, f2, (hkeep b o (fun e => by rw [e] at hn; simp at hn) hA hl).trans h2⟩
  · intro j b o s hn e
    rcases ha with ha | ha
    · show v'.ownBlock ≠ some b
      rw [ha]; exact hok j b o s hn e
    · show v'.ownBlock ≠ some b
      rw [ha]
      intro e2
      have e2 := Option.some.inj e2
      by_cases hj : j < 320
      · obtain ⟨y, hy⟩ : ∃ y, (stQ t l j)[0]? = some y := by
          cases hs : stQ t l j with
          | nil => exact absurd hs hn
          | cons y ys => exact ⟨y, rfl⟩
        obtain ⟨b', o', e', hl, _⟩ := (hV.due j hj).row.at_ 0 y hy
        rw [e] at e'
        cases e'
        omega
      · obtain ⟨y, hy⟩ := List.exists_mem_of_ne_nil _ hn
        have := (stQ_mem.1 hy).2
        have := plQ_le t y.1
        omega
/-- What stands while it is turned in steps. -/
structure StepS (w wr : World) (B0 pa pb : Nat) (t s : Int) (L : List (Int × Int)) (v : Value) (A9 : Option Addr) (c9 : Nat) : Prop where
  a : Wh wr B0 pa t L
  b : @Wh (RowsNot v) wr wr.heap.size pb s (leftQ s L)
  told : OwnD wr B0 v (dueQ s L)
  all : DuesR wr B0 A9 L.length c9 L
  low : Below w.heap.size w wr
  size : B0 ≤ wr.heap.size
  ts : t ≤ s
theorem StepS.on {w wr w' : World} {B0 pa pb : Nat} {t s : Int} {L : List (Int × Int)} {v : Value} {A9 : Option Addr} {c9 : Nat} (h : StepS w wr B0 pa pb t s L v A9 c9) (hb : Below wr.heap.size wr w') : StepS w w' B0 pa pb t s L v A9 c9 :=
  ⟨h.a.below (hb.mono h.size), @Wh.on (RowsNot v) _ _ _ _ _ h.b hb, h.told.below hb, h.all.below (hb.mono h.size), h.low.trans (hb.mono h.low.size), Nat.le_trans h.size hb.size, h.ts⟩
/-- What is fixed of the two wheels, and of all the dues. -/
structure Fixd (w : World) (B0 pa pb : Nat) (A9 : Option Addr) : Prop where
  la : pa < B0
  lb : pb < B0
  ne : pa ≠ pb
  wa : w.heap.size ≤ pa
  wb : w.heap.size ≤ pb
  oa : OffP pa A9
  ob : OffP pb A9
/-- The other wheel turned: the steps' facts between the turn and the append. -/
structure MidS (w wr : World) (B0 pa pb : Nat) (t s u : Int) (L : List (Int × Int)) (v : Value) (A9 : Option Addr) (c9 : Nat) (A5 : Option Addr) (c5 : Nat) : Prop where
  a : Wh wr B0 pa t L
  b : @Wh (RowsNot v) wr wr.heap.size pb u (leftQ u L)
  told : OwnD wr B0 v (dueQ s L)
  all : DuesR wr B0 A9 L.length c9 L
  low : Below w.heap.size w wr
  size : B0 ≤ wr.heap.size
  ts : t ≤ s ∧ s ≤ u
  due : DuesT wr wr.heap.size A5 (dueQ u (leftQ s L)).length c5 (dueQ u (leftQ s L))
theorem MidS.on {w wr w' : World} {B0 pa pb : Nat} {t s u : Int} {L : List (Int × Int)} {v : Value} {A9 : Option Addr} {c9 : Nat} {A5 : Option Addr} {c5 : Nat} (h : MidS w wr B0 pa pb t s u L v A9 c9 A5 c5) (hb : Below wr.heap.size wr w') : MidS w w' B0 pa pb t s u L v A9 c9 A5 c5 :=
  ⟨h.a.below (hb.mono h.size), @Wh.on (RowsNot v) _ _ _ _ _ h.b hb, h.told.below hb, h.all.below (hb.mono h.size), h.low.trans (hb.mono h.low.size), Nat.le_trans h.size hb.size, h.ts, (h.due.below hb).mono hb.size⟩
theorem MidS.grown {w wr w' : World} {B0 pa pb : Nat} {t s u : Int} {L : List (Int × Int)} {v v' : Value} {A9 : Option Addr} {c9 : Nat} {A5 : Option Addr} {c5 : Nat} (h : MidS w wr B0 pa pb t s u L v A9 c9 A5 c5) (hf : Fixd w B0 pa pb A9) (hs : SortQ L)
    (ho : OwnD w' B0 v' (dueQ s L ++ dueQ u (leftQ s L))) (hg : wr.grownBy w' v.ownBlock) (ha : v'.ownBlock = v.ownBlock ∨ v'.ownBlock = some wr.heap.size) : StepS w w' B0 pa pb t u L v' A9 c9 := by
  have hb : Below B0 wr w' := (Below.refl B0 wr).grown hg h.size (fun k e => (World.ownsRow.lt h.told k e).1)
  refine ⟨h.a.below hb, Wh.grown h.b h.told hf.lb hg ha, ?_, h.all.below hb, h.low.trans (hb.mono (by have := hf.la; have := hf.wa; omega)), Nat.le_trans h.size hg.size, Int.le_trans h.ts.1 h.ts.2⟩
  rw [← due_due h.ts.2 L hs]; exact ho
theorem Wh.re {R1 R2 : Rows} {w : World} {B p : Nat} {t : Int} {l : List (Int × Int)} (h : @Wh R1 w B p t l) (hR : ∀ b, R2.ok b) : @Wh R2 w B p t l := by
  obtain ⟨V, hV, _⟩ := @Wh.at_ R1 _ _ _ _ _ h
  exact @Wh.mk R2 _ _ _ _ _ (@Wh.right R1 _ _ _ _ _ h) ⟨V, hV, fun j b o s _ _ => hR b⟩ (@Wh.pos R1 _ _ _ _ _ h)
theorem StepS.turned {w wr w5 : World} {B0 pa pb : Nat} {t s u : Int} {L : List (Int × Int)} {v v5 : Value} {A9 : Option Addr} {c9 : Nat} (h : StepS w wr B0 pa pb t s L v A9 c9) (hf : Fixd w B0 pa pb A9) (hsu : s ≤ u)
    (hb5 : @Wh (RowsNot v) w5 w5.heap.size pb u (leftQ u (leftQ s L))) (ho5 : OwnD w5 wr.heap.size v5 (dueQ u (leftQ s L))) (o5 : Only pb wr w5) : ∃ A5 c5, v5 = .slice A5 (dueQ u (leftQ s L)).length c5 ∧ MidS w w5 B0 pa pb t s u L v A9 c9 A5 c5 := by
  obtain ⟨A5, c5, rfl, hd⟩ := ho5.rowT
  obtain ⟨cs, hq⟩ := @Wh.box (RowsNot v) _ _ _ _ _ h.b
  rw [left_left hsu L] at hb5
  exact ⟨A5, c5, rfl, h.a.far o5 hf.ne h.size hq (by decide), hb5, h.told.onlyP o5 hf.lb, h.all.onlyB h.size o5 hf.ob, o5.drop h.low hf.wb, Nat.le_trans h.size o5.size, ⟨h.ts, hsu⟩, hd⟩
/-- At the end: the first wheel is turned at once. -/
structure EndS (w wr : World) (B0 pa pb : Nat) (s : Int) (L : List (Int × Int)) (v : Value) (A9 : Option Addr) (c9 : Nat) (A7 : Option Addr) (c7 : Nat) : Prop where
  a : Wh wr wr.heap.size pa s (leftQ s L)
  b : @Wh (RowsNot v) wr wr.heap.size pb s (leftQ s L)
  told : OwnD wr B0 v (dueQ s L)
  all : DuesR wr B0 A9 L.length c9 L
  low : Below w.heap.size w wr
  size : B0 ≤ wr.heap.size
  once : DuesR wr wr.heap.size A7 (dueQ s L).length c7 (dueQ s L)
theorem EndS.on {w wr w' : World} {B0 pa pb : Nat} {s : Int} {L : List (Int × Int)} {v : Value} {A9 : Option Addr} {c9 : Nat} {A7 : Option Addr} {c7 : Nat} (h : EndS w wr B0 pa pb s L v A9 c9 A7 c7) (hb : Below wr.heap.size wr w') : EndS w w' B0 pa pb s L v A9 c9 A7 c7 :=
  ⟨h.a.on hb, @Wh.on (RowsNot v) _ _ _ _ _ h.b hb, h.told.below hb, h.all.below (hb.mono h.size), h.low.trans (hb.mono h.low.size), Nat.le_trans h.size hb.size, (h.once.below hb).mono hb.size⟩
theorem StepS.once {w wr w7 : World} {B0 pa pb : Nat} {t s : Int} {L : List (Int × Int)} {v v7 : Value} {A9 : Option Addr} {c9 : Nat} (h : StepS w wr B0 pa pb t s L v A9 c9) (hf : Fixd w B0 pa pb A9)
    (ha7 : Wh w7 w7.heap.size pa s (leftQ s L)) (ho7 : OwnD w7 wr.heap.size v7 (dueQ s L)) (o7 : Only pa wr w7) : ∃ A7 c7, v7 = .slice A7 (dueQ s L).length c7 ∧ EndS w w7 B0 pa pb s L v A9 c9 A7 c7 := by
  obtain ⟨A7, c7, rfl, hd⟩ := ho7.row
  obtain ⟨cs, hq⟩ := h.a.box
  exact ⟨A7, c7, rfl, ha7, @Wh.mono (RowsNot v) _ _ _ _ _ _ (@Wh.far (RowsNot v) _ _ _ _ _ _ _ _ _ h.b o7 (Ne.symm hf.ne) (Nat.le_refl _) hq (by decide)) o7.size, h.told.onlyP o7 hf.la, h.all.onlyB h.size o7 hf.oa, o7.drop h.low hf.wa, Nat.le_trans h.size o7.size, hd⟩
theorem EndS.grown {w wr w' : World} {B0 pa pb : Nat} {s : Int} {L : List (Int × Int)} {v v' : Value} {A9 : Option Addr} {c9 : Nat} {A7 : Option Addr} {c7 : Nat} (h : EndS w wr B0 pa pb s L v A9 c9 A7 c7) (hf : Fixd w B0 pa pb A9) (hs : SortQ L)
    (ho : OwnD w' B0 v' (dueQ s L ++ leftQ s L)) (hg : wr.grownBy w' v.ownBlock) : ∃ A c, v' = .slice A L.length c ∧ DuesR w' w'.heap.size A L.length c L ∧ DuesR w' B0 A9 L.length c9 L ∧ Below w.heap.size w w' := by
  have hb : Below B0 wr w' := (Below.refl B0 wr).grown hg h.size (fun k e => (World.ownsRow.lt h.told k e).1)
  rw [due_left s hs] at ho
  obtain ⟨A, c, rfl, hd⟩ := ho.row
  exact ⟨A, c, rfl, hd, h.all.below hb, h.low.trans (hb.mono (by have := hf.la; have := hf.wa; omega))⟩
set_option maxRecDepth 100000 in
set_option maxHeartbeats 4000000 in
theorem steps_law (t : Int) (A1 : Option Addr) (n1 c1 : Nat) (l1 : List (Int × Int)) (A2 : Option Addr) (n2 c2 : Nat) (l2 : List Int) (w : World) (hr1 : DuesR w w.heap.size A1 n1 c1 l1) (hl1 : ∀ d ∈ l1, 0 ≤ d.2) (hr2 : TimesR w w.heap.size A2 n2 c2 l2)
    (hT : Tab w) (hg : 0 < w.heap.size) :
    Calls Tryd.prog 6 #[.int .i64 t, .slice A1 n1 c1, .slice A2 n2 c2] w fun e w' => e = .returned (.bool true) ∧ Below w.heap.size w w' := by
  have hcap := hr2.cap
  have htop := hr2.top
  unfold maxLen at htop
  have HR1 := Lib.hid hr1; have HL1 := Lib.hid hl1; have HR2 := Lib.hid hr2; have HN2 := Lib.hid hr2.len
  have HTG := Lib.hid (fun (W : World) (hb : Below w.heap.size w W) => (⟨⟨hT.below hg hb, Nat.lt_of_lt_of_le hg hb.size⟩⟩ : PLift (Tab W ∧ 0 < W.heap.size)).down)
  clear hr1 hl1 hr2
  go_enter Tryd.func6, Tryd.ntmps6
  go_wp2_with fail
  refine (wakes_any9 w hT hg).mono ?_
  rintro e w1 ⟨rfl, hb1⟩
  have HB1 := Lib.hid hb1
  clear hb1
  go_wp2_with fail
  obtain ⟨x1, x2⟩ := HTG.out _ HB1.out
  refine (made_any t A1 n1 c1 l1 w1 ((HR1.out.below HB1.out).mono HB1.out.size) HL1.out x1 x2 (fun _ _ => trivial)).mono ?_
  clear x1 x2
  rintro e w2 (⟨hnt, rfl, hb2⟩ | ⟨ht, pa, rfl, m2⟩)
  · have HB2 := Lib.hid (HB1.out.trans (hb2.mono HB1.out.size))
    have HNT := Lib.hid hnt
    clear hb2 hnt
    go_wp2_with fail
    obtain ⟨x1, x2⟩ := HTG.out _ HB2.out
    refine (made_any t A1 n1 c1 l1 w2 ((HR1.out.below HB2.out).mono HB2.out.size) HL1.out x1 x2 (fun _ _ => trivial)).mono ?_
    clear x1 x2
    rintro e w3 (⟨_, rfl, hb3⟩ | ⟨ht, _⟩)
    · have HB3 := Lib.hid (HB2.out.trans (hb3.mono HB2.out.size))
      clear hb3
      by_cases h0 : t < 0
      · have d0 : decide (t < 0) = true := decide_eq_true h0
        clear h0
        go_wp2_with fail
        go_ret
        exact ⟨rfl, HB3.out⟩
      · have d0 : decide (t < 0) = false := decide_eq_false h0
        have d1 : decide (253402300799 < t) = true := decide_eq_true (by have := HNT.out; unfold timeQ topQ at this; omega)
        clear h0
        go_wp2_with fail
        go_ret
        exact ⟨rfl, HB3.out⟩
    · exact absurd ht HNT.out
  · have HTQ := Lib.hid ht
    have HB2 := Lib.hid (HB1.out.trans (m2.b.mono HB1.out.size))
    have M2 := Lib.hid m2
    clear ht m2
    go_wp2_with fail
    obtain ⟨x1, x2⟩ := HTG.out _ HB2.out
    refine (made_any t A1 n1 c1 l1 w2 ((HR1.out.below HB2.out).mono HB2.out.size) HL1.out x1 x2 (fun _ _ => trivial)).mono ?_
    clear x1 x2
    rintro e w3 (⟨hnt, _⟩ | ⟨_, pb, rfl, m3⟩)
    · exact absurd HTQ.out hnt
    · obtain ⟨L, hL⟩ : ∃ L, putsQ t [] (l1.take 80) = L := ⟨_, rfl⟩
      rw [hL] at M2 m3
      clear hL
      have HB3 := Lib.hid (HB2.out.trans (m3.b.mono HB2.out.size))
      have MA := Lib.hid (M2.out.wh.on m3.b); have MB := Lib.hid m3.wh
      have HPA := Lib.hid (show w.heap.size ≤ pa ∧ pa < pb ∧ pb < w3.heap.size from ⟨Nat.le_trans HB1.out.size M2.out.low, Nat.lt_of_lt_of_le M2.out.wh.lt m3.low, m3.wh.lt⟩)
      clear m3 M2
      go_wp2_with fail
      obtain ⟨x1, x2⟩ := HTG.out _ HB3.out
      refine (all_wh pa t L w3 MA.out x1 x2).mono ?_
      clear x1 x2
      rintro e w4 ⟨v9, rfl, ho9, hb4⟩
      have HOF := Lib.hid (show ∀ p A n c, p < w3.heap.size → v9 = .slice A n c → OffP p A from fun p A n c hp e b o s e2 => by subst e; have := ho9.from_ e2; omega)
      obtain ⟨A9, c9, rfl, hr9⟩ := ho9.row
      have HFX := Lib.hid (show Fixd w w4.heap.size pa pb A9 from by
        obtain ⟨y1, y2, y3⟩ := HPA.out
        have := hb4.size
        exact ⟨by omega, by omega, by omega, y1, by omega, HOF.out pa _ _ _ (by omega) rfl, HOF.out pb _ _ _ y3 rfl⟩)
      have HSO := Lib.hid MA.out.right.sort
      have HL64 := Lib.hid MA.out.right.len
      have HAH := Lib.hid MA.out.right.in_
      have HST := Lib.hid (show StepS w w4 w4.heap.size pa pb t t L (.slice none 0 0) A9 c9 from
        ⟨MA.out.on hb4, by rw [leftQ_all (fun d hd => (HAH.out d hd).1)]; exact (MB.out.on hb4).re (fun b => by show (Value.slice none 0 0).ownBlock ≠ some b; intro e; cases e), by rw [dueQ_none (fun d hd => (HAH.out d hd).1)]; exact OwnD.nil _ _, hr9, HB3.out.trans (hb4.mono HB3.out.size), Nat.le_refl _, Int.le_refl _⟩)
      have HGA := Lib.hid (show 0 ≠ pa by have := HPA.out.1; omega)
      have HGB := Lib.hid (show 0 ≠ pb by have := HPA.out.1; have := HPA.out.2.1; omega)
      clear ho9 hr9 hb4 HOF MA MB
      generalize w4.heap.size = B0 at *
      go_wp2_with fail
      go_loopw [10, 46] (fun tv i wr => ∃ (k : Nat) (s : Int) (v : Value), k ≤ n2 ∧ i = .int .i64 k ∧ v = tv ∧ StepS w wr B0 pa pb t s L v A9 c9) (fun _ i _ => n2 - (intOf i).toNat)
      case atStart => exact ⟨0, t, _, by omega, rfl, rfl, HST.out⟩
      case round =>
        clear HST
        obtain ⟨k, s, v, hk, rfl, rfl, hst⟩ := hrel
        have HST := Lib.hid hst
        clear hst
        by_cases hlt : k < n2
        · obtain ⟨x, hx⟩ : ∃ x, l2[k]? = some x := ⟨_, List.getElem?_eq_getElem (by rw [HN2.out]; exact hlt)⟩
          obtain ⟨bb, oo, hA, hll, y0⟩ := (HR2.out.below HST.out.low).at_ k _ hx
          subst hA
          have hi0 : (0 : Int) ≤ k := by omega
          have hi1 : (k : Int) < (n2 : Int) := by omega
          clear hx
          by_cases h30 : k = 30
          · have hd30 : ((k : Int) == 30) = true := by simp; omega
            clear h30
            go_wp2_with fail
            refine (@now_wh (RowsNot v) pb s _ _ HST.out.b).mono ?_
            rintro e w6 ⟨rfl, rfl⟩
            go_wp2_with fail
            obtain ⟨x1, x2⟩ := HTG.out _ HST.out.low
            refine (wh_turn pa t s L _ (HST.out.a.mono HST.out.size) HST.out.ts (@Wh.right (RowsNot v) _ _ _ _ _ HST.out.b).time.2 x1 x2 HGA.out (fun _ _ => trivial)).mono ?_
            rintro e w7 ⟨⟨v7, rfl, ho7⟩, hw7, o7⟩
            obtain ⟨A7, c7, rfl, hE⟩ := HST.out.once HFX.out hw7 ho7 o7
            obtain ⟨At, ct, hvt, hdt⟩ := hE.told.row
            subst hvt
            have HE7 := Lib.hid hE; have HDT := Lib.hid hdt
            clear x1 x2 hE hw7 ho7 o7 hdt
            go_wp2_with fail
            refine (equal_dues A7 At (dueQ s L).length c7 ct _ _ (dueQ s L) _ HE7.out.once HDT.out).mono ?_
            rintro e w8 ⟨rfl, q8, rfl⟩
            have HE8 := Lib.hid (HE7.out.on (w' := w7.drewN q8) ⟨rfl, rfl, rfl, Nat.le_refl _, fun _ _ => rfl⟩)
            clear HE7 HDT
            generalize w7.drewN q8 = W8 at *
            go_wp2_with fail
            obtain ⟨x1, x2⟩ := HTG.out _ HE8.out.low
            refine (all_wh pa s _ _ HE8.out.a x1 x2).mono ?_
            rintro e w9 ⟨va, rfl, hoa, hb9⟩
            obtain ⟨Aa, ca, rfl, hda⟩ := hoa.row
            have HE9 := Lib.hid (HE8.out.on hb9); have HDA := Lib.hid hda
            clear HE8 hoa hda hb9 x1 x2
            go_wp2_with fail
            obtain ⟨x1, x2⟩ := HTG.out _ HE9.out.low
            refine (@all_wh (RowsNot _) pb s _ _ HE9.out.b x1 x2).mono ?_
            rintro e wa ⟨vb, rfl, hob, hba⟩
            obtain ⟨Ab, cb, rfl, hdb⟩ := hob.row
            have HEa := Lib.hid (HE9.out.on hba); have HDA2 := Lib.hid ((HDA.out.below hba).mono hba.size); have HDB := Lib.hid hdb
            clear HE9 hob hdb hba x1 x2 HDA
            go_wp2_with fail
            refine (equal_dues Aa Ab (leftQ s L).length ca cb _ _ (leftQ s L) _ HDA2.out HDB.out).mono ?_
            rintro e wb ⟨rfl, qb, rfl⟩
            have HEb := Lib.hid (HEa.out.on (w' := wa.drewN qb) ⟨rfl, rfl, rfl, Nat.le_refl _, fun _ _ => rfl⟩)
            clear HEa HDA2 HDB
            generalize wa.drewN qb = Wb at *
            go_wp2_with fail
            obtain ⟨x1, x2⟩ := HTG.out _ HEb.out.low
            refine (@all_wh (RowsNot _) pb s _ _ HEb.out.b x1 x2).mono ?_
            rintro e wc ⟨vc, rfl, hoc, hbc⟩
            obtain ⟨Ac, cc, rfl, hdc⟩ := hoc.rowT
            have HEc := Lib.hid (HEb.out.on hbc); have HDC := Lib.hid hdc
            have HSH := Lib.hid (show Ac = none → cc = 0 from fun e => by
              rcases hdc.shape with ⟨_, h⟩ | ⟨b', o', h⟩
              · exact h
              · rw [h] at e; cases e)
            have HLL := Lib.hid (show (dueQ s L).length + (leftQ s L).length ≤ 200 by
              have h1 : (dueQ s L).length ≤ L.length := List.length_filter_le _ _
              have h2 : (leftQ s L).length ≤ L.length := List.length_filter_le _ _
              have := HL64.out
              omega)
            clear HEb hoc hdc hbc x1 x2
            go_wp2_with (at_builtin; refine list_own9g (n := 200) rfl _ _ rfl rfl rfl HEc.out.told HDC.out.row HEc.out.size HLL.out (by decide) HSH.out ?_; intro vd wd hod hgd had; obtain ⟨Ad, cd, rfl, hdd, hal, hlow⟩ := HEc.out.grown HFX.out HSO.out hod hgd)
            refine (equal_dues Ad A9 L.length cd c9 _ _ L _ hdd hal).mono ?_
            rintro e wf ⟨rfl, qf, rfl⟩
            have HLOW := Lib.hid (show Below w.heap.size w (wd.drewN qf) from ⟨hlow.os, hlow.tape, hlow.output, hlow.size, hlow.block⟩)
            clear hod hgd had hdd hal hlow
            go_wp2_with fail
            go_ret
            exact ⟨rfl, HLOW.out⟩
          · have hd30 : ((k : Int) == 30) = false := by simp; omega
            clear h30
            go_wp2_with fail
            refine (@now_wh (RowsNot v) pb s _ _ HST.out.b).mono ?_
            rintro e w5 ⟨rfl, rfl⟩
            have htm := (@Wh.right (RowsNot v) _ _ _ _ _ HST.out.b).time
            unfold timeQ topQ at htm
            obtain ⟨y, hy⟩ : ∃ y, (IntKind.u64.wrap x).tmod 1073741824 = y := ⟨_, rfl⟩
            have hyb : 0 ≤ y ∧ y < 1073741824 := by
              rw [← hy, Int.tmod_eq_emod_of_nonneg (by rw [IntKind.wrap_u64]; omega)]; omega
            obtain ⟨u, hu⟩ : ∃ u, s + y = u := ⟨_, rfl⟩
            have hwy : IntKind.i64.wrap y = y := by rw [IntKind.wrap_i64]; omega
            have hwu : IntKind.i64.wrap (s + y) = u := by rw [IntKind.wrap_i64]; omega
            have HSU := Lib.hid (show s ≤ u by omega)
            by_cases hgt : 253402300799 < u
            · have hd : decide (253402300799 < u) = true := decide_eq_true hgt
              clear hgt hu
              go_wp2_with fail
              go_roundw
              case rel => exact ⟨k + 1, s, _, by omega, by go_num, rfl, HST.out⟩
              case measure => simp [intOf]; omega
            · have hd : decide (253402300799 < u) = false := decide_eq_false hgt
              have HUT := Lib.hid (show u ≤ topQ by unfold topQ; omega)
              clear hgt hu
              go_wp2_with fail
              obtain ⟨x1, x2⟩ := HTG.out _ HST.out.low
              refine (@wh_turn (RowsNot v) pb s u _ _ HST.out.b HSU.out HUT.out x1 x2 HGB.out (fun b hb e => by have := (World.ownsRow.lt HST.out.told b e).2; omega)).mono ?_
              rintro e w5 ⟨⟨v5, rfl, ho5⟩, hw5, o5⟩
              obtain ⟨A5, c5, rfl, hmi⟩ := HST.out.turned HFX.out HSU.out hw5 ho5 o5
              have HMI := Lib.hid hmi
              have hc5 := hmi.due.row.cap
              have ht5 := hmi.due.row.top
              unfold maxLen at ht5
              have HSH := Lib.hid (show A5 = none → c5 = 0 from fun e => by
                rcases hmi.due.shape with ⟨_, h⟩ | ⟨b', o', h⟩
                · exact h
                · rw [h] at e; cases e)
              have HLL := Lib.hid (show (dueQ s L).length + (dueQ u (leftQ s L)).length ≤ 200 by
                have h1 : (dueQ s L).length ≤ L.length := List.length_filter_le _ _
                have h2 : (leftQ s L).length ≤ L.length := List.length_filter_le _ _
                have h3 : (dueQ u (leftQ s L)).length ≤ (leftQ s L).length := List.length_filter_le _ _
                have := HL64.out
                omega)
              clear x1 x2 ho5 hw5 o5 hmi y0
              go_wp2_with fail
              refine (@now_wh (RowsNot v) pb u _ _ HMI.out.b).mono ?_
              rintro e w6 ⟨rfl, rfl⟩
              go_wp2_with fail
              go_loopw [78] (fun i3 wi => ∃ k3 : Nat, k3 ≤ (dueQ u (leftQ s L)).length ∧ i3 = .int .i64 k3 ∧ Below w6.heap.size w6 wi) (fun i3 _ => (dueQ u (leftQ s L)).length - (intOf i3).toNat)
              case atStart => exact ⟨0, by omega, rfl, Below.refl _ _⟩
              case round =>
                obtain ⟨k3, hk3, rfl, hbi⟩ := hrel
                by_cases hlt3 : k3 < (dueQ u (leftQ s L)).length
                · obtain ⟨d, hd⟩ : ∃ d, (dueQ u (leftQ s L))[k3]? = some d := ⟨_, List.getElem?_eq_getElem hlt3⟩
                  have hdu : d.1 ≤ u := by simpa using (List.mem_filter.1 (List.mem_of_getElem? hd)).2
                  obtain ⟨d0, d1⟩ := d
                  obtain ⟨b5, o5, hA5, hl5, z0, z1⟩ := (HMI.out.due.row.below hbi).at_ k3 _ hd
                  subst hA5
                  dsimp only at z0 z1 hdu
                  have hdd : decide (u < d0) = false := decide_eq_false (by omega)
                  have hj0 : (0 : Int) ≤ k3 := by omega
                  have hj1 : (k3 : Int) < ((dueQ u (leftQ s L)).length : Int) := by omega
                  have HBI := Lib.hid (hbi.alloc hbi.size (.cells #[.int .i64 d0, .int .u64 d1] 39))
                  clear hd hdu hbi
                  go_wp2_with fail
                  go_roundw
                  case rel => exact ⟨k3 + 1, by omega, by go_num, HBI.out⟩
                  case measure => simp [intOf]; omega
                · have HBI := Lib.hid hbi
                  clear hbi
                  go_wp2_with fail
                  obtain ⟨f0, f1, bf, hf, hbf, hft, hff⟩ := firstV_case (leftQ u L)
                  have HF := Lib.hid hf
                  have HFT := Lib.hid (show bf = true → u < f0 from fun e => by
                    have := List.mem_of_getElem? (hft e)
                    simpa using (List.mem_filter.1 this).2)
                  clear hf hbf hft hff
                  obtain ⟨x1, x2⟩ := HTG.out _ (HMI.out.on HBI.out).low
                  refine (@first_wh (RowsNot v) pb u _ _ (HMI.out.on HBI.out).b x1 x2).mono ?_
                  rintro e w7 ⟨rfl, hb7⟩
                  rw [HF.out]
                  replace hb7 := HBI.out.trans (hb7.mono HBI.out.size)
                  clear x1 x2 HF
                  rcases bf with _ | _
                  · clear HFT
                    have HB8 := Lib.hid (HMI.out.on (hb7.alloc hb7.size (.cells #[.int .i64 f0, .int .u64 f1] 39)))
                    obtain ⟨z0, z1, _, _⟩ := (QBox.new w7 39 #[.int .i64 f0, .int .u64 f1]).two
                    clear hb7
                    go_wp2_with (at_builtin; refine list_own9 (n := 200) rfl _ _ rfl rfl rfl HB8.out.told HB8.out.due.row HB8.out.size HLL.out (by decide) HSH.out ?_; intro vd wd hod hgd had; have hss := HB8.out.grown HFX.out HSO.out hod hgd had)
                    go_roundw
                    case rel => exact ⟨k + 1, u, _, by omega, by go_num, rfl, hss⟩
                    case measure => simp [intOf]; omega
                  · have hdf : decide (f0 ≤ u) = false := decide_eq_false (by have := HFT.out rfl; omega)
                    clear HFT
                    have HB8 := Lib.hid (HMI.out.on (hb7.alloc hb7.size (.cells #[.int .i64 f0, .int .u64 f1] 39)))
                    obtain ⟨z0, z1, _, _⟩ := (QBox.new w7 39 #[.int .i64 f0, .int .u64 f1]).two
                    clear hb7
                    go_wp2_with (at_builtin; refine list_own9 (n := 200) rfl _ _ rfl rfl rfl HB8.out.told HB8.out.due.row HB8.out.size HLL.out (by decide) HSH.out ?_; intro vd wd hod hgd had; have hss := HB8.out.grown HFX.out HSO.out hod hgd had)
                    go_roundw
                    case rel => exact ⟨k + 1, u, _, by omega, by go_num, rfl, hss⟩
                    case measure => simp [intOf]; omega
        · have hke : k = n2 := by omega
          go_wp2_with fail
          refine (@now_wh (RowsNot v) pb s _ _ HST.out.b).mono ?_
          rintro e w6 ⟨rfl, rfl⟩
          go_wp2_with fail
          obtain ⟨x1, x2⟩ := HTG.out _ HST.out.low
          refine (wh_turn pa t s L _ (HST.out.a.mono HST.out.size) HST.out.ts (@Wh.right (RowsNot v) _ _ _ _ _ HST.out.b).time.2 x1 x2 HGA.out (fun _ _ => trivial)).mono ?_
          rintro e w7 ⟨⟨v7, rfl, ho7⟩, hw7, o7⟩
          obtain ⟨A7, c7, rfl, hE⟩ := HST.out.once HFX.out hw7 ho7 o7
          obtain ⟨At, ct, hvt, hdt⟩ := hE.told.row
          subst hvt
          have HE7 := Lib.hid hE; have HDT := Lib.hid hdt
          clear x1 x2 hE hw7 ho7 o7 hdt
          go_wp2_with fail
          refine (equal_dues A7 At (dueQ s L).length c7 ct _ _ (dueQ s L) _ HE7.out.once HDT.out).mono ?_
          rintro e w8 ⟨rfl, q8, rfl⟩
          have HE8 := Lib.hid (HE7.out.on (w' := w7.drewN q8) ⟨rfl, rfl, rfl, Nat.le_refl _, fun _ _ => rfl⟩)
          clear HE7 HDT
          generalize w7.drewN q8 = W8 at *
          go_wp2_with fail
          obtain ⟨x1, x2⟩ := HTG.out _ HE8.out.low
          refine (all_wh pa s _ _ HE8.out.a x1 x2).mono ?_
          rintro e w9 ⟨va, rfl, hoa, hb9⟩
          obtain ⟨Aa, ca, rfl, hda⟩ := hoa.row
          have HE9 := Lib.hid (HE8.out.on hb9); have HDA := Lib.hid hda
          clear HE8 hoa hda hb9 x1 x2
          go_wp2_with fail
          obtain ⟨x1, x2⟩ := HTG.out _ HE9.out.low
          refine (@all_wh (RowsNot _) pb s _ _ HE9.out.b x1 x2).mono ?_
          rintro e wa ⟨vb, rfl, hob, hba⟩
          obtain ⟨Ab, cb, rfl, hdb⟩ := hob.row
          have HEa := Lib.hid (HE9.out.on hba); have HDA2 := Lib.hid ((HDA.out.below hba).mono hba.size); have HDB := Lib.hid hdb
          clear HE9 hob hdb hba x1 x2 HDA
          go_wp2_with fail
          refine (equal_dues Aa Ab (leftQ s L).length ca cb _ _ (leftQ s L) _ HDA2.out HDB.out).mono ?_
          rintro e wb ⟨rfl, qb, rfl⟩
          have HEb := Lib.hid (HEa.out.on (w' := wa.drewN qb) ⟨rfl, rfl, rfl, Nat.le_refl _, fun _ _ => rfl⟩)
          clear HEa HDA2 HDB
          generalize wa.drewN qb = Wb at *
          go_wp2_with fail
          obtain ⟨x1, x2⟩ := HTG.out _ HEb.out.low
          refine (@all_wh (RowsNot _) pb s _ _ HEb.out.b x1 x2).mono ?_
          rintro e wc ⟨vc, rfl, hoc, hbc⟩
          obtain ⟨Ac, cc, rfl, hdc⟩ := hoc.rowT
          have HEc := Lib.hid (HEb.out.on hbc); have HDC := Lib.hid hdc
          have HSH := Lib.hid (show Ac = none → cc = 0 from fun e => by
            rcases hdc.shape with ⟨_, h⟩ | ⟨b', o', h⟩
            · exact h
            · rw [h] at e; cases e)
          have HLL := Lib.hid (show (dueQ s L).length + (leftQ s L).length ≤ 200 by
            have h1 : (dueQ s L).length ≤ L.length := List.length_filter_le _ _
            have h2 : (leftQ s L).length ≤ L.length := List.length_filter_le _ _
            have := HL64.out
            omega)
          clear HEb hoc hdc hbc x1 x2
          go_wp2_with (at_builtin; refine list_own9g (n := 200) rfl _ _ rfl rfl rfl HEc.out.told HDC.out.row HEc.out.size HLL.out (by decide) HSH.out ?_; intro vd wd hod hgd had; obtain ⟨Ad, cd, rfl, hdd, hal, hlow⟩ := HEc.out.grown HFX.out HSO.out hod hgd)
          refine (equal_dues Ad A9 L.length cd c9 _ _ L _ hdd hal).mono ?_
          rintro e wf ⟨rfl, qf, rfl⟩
          have HLOW := Lib.hid (show Below w.heap.size w (wd.drewN qf) from ⟨hlow.os, hlow.tape, hlow.output, hlow.size, hlow.block⟩)
          clear hod hgd had hdd hal hlow
          go_wp2_with fail
          go_ret
          exact ⟨rfl, HLOW.out⟩
end Go.Proofs.YtidgiohjgkfjcaaDoor
