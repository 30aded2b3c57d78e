/- Rows of one's own through slices.Clone, Reverse, DeleteFunc; a wheel beside a row that is written in place. -/
import Derived.Test.YtidgiohjgkfjcaaDoorQOrdM
import Derived.Test.YtidgiohjgkfjcaaDoorQMade
import Derived.Test.YtidgiohjgkfjcaaDoorQFull
namespace Go.Proofs.YtidgiohjgkfjcaaDoor
open Go.RowKit

theorem grownBy_refl (w : World) (r : Option Nat) : w.grownBy w r := ⟨rfl, rfl, rfl, Nat.le_refl _, fun _ _ _ => rfl⟩
theorem Only.grownBy {g : Nat} {w w' : World} (h : Only g w w') : w.grownBy w' (some g) := ⟨h.os, h.tape, h.output, h.size, fun k hk hn => h.block k hk (fun e => hn (by rw [e]))⟩
theorem grownBy_below {w w' : World} (h : Below w.heap.size w w') (r : Option Nat) : w.grownBy w' r := ⟨h.os, h.tape, h.output, h.size, fun k hk _ => h.block k hk⟩
theorem clone_own (base : Nat) (v : Value) (l : List (Int × Int)) (w : World) (h : OwnD w base v l) (hne : l = [] → v = .slice none 0 0) (hl : l.length ≤ 100) :
    Calls Tryd.prog 29 #[v] w fun e w' => ∃ v', e = .returned v' ∧ OwnD w' w.heap.size v' l ∧ Below w.heap.size w w' := by
  rcases h.at_row with ⟨rfl, rfl⟩ | ⟨g, cap, rfl, hg, hr⟩
  · refine (clone_nil w).mono ?_
    rintro e w' ⟨rfl, rfl⟩
    exact ⟨_, rfl, OwnD.nil _ _, Below.refl _ _⟩
  · have hpos : 0 < l.length := by
      rcases l with _ | ⟨d, l⟩
      · have := hne rfl; cases this
      · simp
    refine (clone_any g l.length cap l w hr hpos hl).mono ?_
    rintro e w' ⟨g', cap', rfl, hge, hr', hb⟩
    exact ⟨_, rfl, hr'.own hge, hb⟩
theorem reverse_own (base : Nat) (v : Value) (l : List (Int × Int)) (w : World) (h : OwnD w base v l) (hl : l.length ≤ 100) :
    Calls Tryd.prog 30 #[v] w fun e w' => (∃ u, e = .returned u) ∧ OwnD w' base v l.reverse ∧ w.grownBy w' v.ownBlock := by
  rcases h.at_row with ⟨rfl, rfl⟩ | ⟨g, cap, rfl, hg, hr⟩
  · refine (reverse_nil w).mono ?_
    rintro e w' ⟨hv, rfl⟩
    exact ⟨hv, OwnD.nil _ _, grownBy_refl _ _⟩
  · refine (reverse_any g l.length cap l w hr hl).mono ?_
    rintro e w' ⟨hv, hr', ho⟩
    exact ⟨hv, hr'.own hg, ho.grownBy⟩
set_option maxRecDepth 100000 in
set_option maxHeartbeats 1000000 in
theorem delete_nil (gx : Nat) (num : Int) (w : World) (hx : QBox w gx 32 #[.int .u64 num]) :
    Calls Tryd.prog 31 #[.slice none 0 0, .func (.func 32) #[] #[.pointer (some ⟨gx, 0, none⟩)]] w fun e w' => e = .returned (.slice none 0 0) ∧ Below w.heap.size w w' := by
  go_enter Tryd.func31, Tryd.ntmps31
  go_wp2_with fail
  refine (index_ord2 none 0 0 gx num [] w (.none_ _ _) hx.lt (hx.cell 0)).mono ?_
  rintro e w1 ⟨⟨rfl, _⟩ | ⟨j, hj, _⟩, hb1⟩
  · have HB1 := Lib.hid hb1
    clear hb1
    go_wp2_with fail
    go_ret
    exact ⟨rfl, HB1.out⟩
  · exact absurd hj (by omega)
theorem delete_own (base gx : Nat) (v : Value) (num : Int) (l : List (Int × Int)) (w : World) (h : OwnD w base v l) (hp : l.Pairwise (fun a b => a.2 ≠ b.2)) (hl : l.length ≤ 100) (hx : QBox w gx 32 #[.int .u64 num]) (hgx : gx < base) :
    Calls Tryd.prog 31 #[v, .func (.func 32) #[] #[.pointer (some ⟨gx, 0, none⟩)]] w fun e w' => (∃ A c, e = .returned (.slice A (cutQ num l).length c) ∧ DuesR w' w'.heap.size A (cutQ num l).length c (cutQ num l)) ∧ w.grownBy w' v.ownBlock := by
  rcases h.at_row with ⟨rfl, rfl⟩ | ⟨g, cap, rfl, hg, hr⟩
  · refine (delete_nil gx num w hx).mono ?_
    rintro e w' ⟨rfl, hb⟩
    exact ⟨⟨none, 0, rfl, .none_ _ _⟩, grownBy_below hb _⟩
  · refine (delete_any g l.length cap gx num l w hr hp hl hx (by omega)).mono ?_
    rintro e w' ⟨rfl, hd, ho⟩
    exact ⟨⟨_, _, rfl, hd⟩, ho.grownBy⟩
theorem OwnD.offP {w w' : World} {base p : Nat} {v : Value} {l : List (Int × Int)} (h : OwnD w base v l) (ho : Only p w w') (hp : v.ownBlock ≠ some p) : OwnD w' base v l := by
  refine ⟨h.1, ?_⟩
  rcases h.2 with h2 | ⟨g, cap, cur, hv, hg, hh, r⟩
  · exact .inl h2
  · exact .inr ⟨g, cap, cur, hv, hg, (ho.block g (Array.getElem?_eq_some_iff.1 hh).1 (fun e => hp (by rw [hv, ← e]; rfl))).trans hh, r⟩
/-- Rows that do not lie in v's block. -/
@[reducible] def RowsOff (v : Value) : Rows := ⟨fun b => v.ownBlock ≠ some b⟩
/-- A wheel whose rows do not lie in v's block: that block may be written. -/
theorem Wh.beside {w w' : World} {p : Nat} {t : Int} {l : List (Int × Int)} {v : Value} (h : @Wh (RowsOff v) w w.heap.size p t l) (hp : v.ownBlock ≠ some p) (hg : w.grownBy w' v.ownBlock) : @Wh (RowsOff v) w' w'.heap.size p t l := by
  obtain ⟨V, hV, hok⟩ := @Wh.at_ (RowsOff v) _ _ _ _ _ h
  have hbp : w'.heap[p]? = w.heap[p]? := hg.block p hV.lt (fun e => hp e.symm)
  have hc : ∀ i, w'.cell? ⟨p, i, none⟩ = w.cell? ⟨p, i, none⟩ := fun i => by unfold World.cell?; dsimp only; rw [hbp]
  obtain ⟨cs, hcs, h326⟩ := hV.ty
  refine @Wh.mk (RowsOff v) _ _ _ _ _ (@Wh.right (RowsOff v) _ _ _ _ _ h) ⟨V, ⟨⟨cs, hbp.trans hcs, h326⟩, Nat.lt_of_lt_of_le hV.low hg.size, (hc 0).trans hV.now, fun n hn => ?_, fun n s hn hs => (hc _).trans (hV.slot n s hn hs), fun j hj => ?_⟩, hok⟩ (@Wh.pos (RowsOff v) _ _ _ _ _ h)
  · obtain ⟨m, hm, hb⟩ := hV.mask n hn
    exact ⟨m, (hc _).trans hm, hb⟩
  · have hd := hV.due j hj
    have hkeep : ∀ b o, stQ t l j ≠ [] → (V j).1 = some ⟨b, o, none⟩ → b < w.heap.size → w'.heap[b]? = w.heap[b]? := fun b o hn e hl => hg.block b hl (fun e2 => hok j b o none hn e e2.symm)
    refine ⟨⟨hd.row.len, hd.row.cap, hd.row.top, fun k r hk => ?_⟩, fun b o hn hA => ?_, hd.shape⟩
    · obtain ⟨b, o, e, hl, h0, h1⟩ := hd.row.at_ k r hk
      have hw := hkeep b o (fun e => by rw [e] at hk; simp at hk) e hl
      refine ⟨b, o, e, Nat.lt_of_lt_of_le hl hg.size, ?_, ?_⟩
      · rw [← h0]; unfold World.cell?; dsimp only; rw [hw]
      · rw [← h1]; unfold World.cell?; dsimp only; rw [hw]
    · obtain ⟨cs2, f2, h2⟩ := hd.ty b o hn hA
      have hl := (Array.getElem?_eq_some_iff.1 h2).1
      exact ⟨cs2, f2, (hkeep b o (fun e => by rw [e] at hn; simp at hn) hA hl).trans h2⟩
theorem hasQ_cut (num : Int) (l : List (Int × Int)) : hasQ num (cutQ num l) = false := by
  rw [← Bool.not_eq_true, hasQ_iff]
  rintro ⟨d, hd, e⟩
  have := (List.mem_filter.1 hd).2
  simp at this
  exact this e
theorem cut_less (num : Int) (l : List (Int × Int)) : decide (((cutQ num l).length : Int) < (l.length : Int)) = hasQ num l := by
  cases h : hasQ num l with
  | false => rw [cutQ_none9 h]; simp
  | true =>
    obtain ⟨d, hd, e⟩ := hasQ_iff.1 h
    have : (cutQ num l).length < l.length := by
      unfold cutQ
      exact List.length_filter_lt_length_iff_exists.2 ⟨d, hd, by simpa using e⟩
    simp; omega
theorem Wh.box9 [Rows] {w : World} {B p : Nat} {t : Int} {l : List (Int × Int)} (h : Wh w B p t l) : ∃ cs, QBox w p 78 cs := by
  obtain ⟨V, hV, _⟩ := h.at_
  obtain ⟨cs, hcs, _⟩ := hV.ty
  exact ⟨cs, hcs⟩
end Go.Proofs.YtidgiohjgkfjcaaDoor
