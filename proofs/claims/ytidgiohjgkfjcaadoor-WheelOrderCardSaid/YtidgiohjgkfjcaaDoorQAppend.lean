/- append of dues: to a part that is full (a new block), to a row of one's own, of none. -/
import Derived.Test.YtidgiohjgkfjcaaDoorQHeap
import Derived.Deep.AppendLies
import Derived.Deep.RegionLaw
namespace Go.Proofs.YtidgiohjgkfjcaaDoor
open Go.RowKit

theorem add_none9 (b o j : Nat) : (⟨b, o, none⟩ : Addr).add j = ⟨b, o + j, none⟩ := by unfold Addr.add; split <;> simp_all
theorem dues_cells {w : World} {B n c b o : Nat} {l : List (Int × Int)} (h : DuesR w B (some ⟨b, o, none⟩) n c l) : ∀ j u, (l.flatMap denc)[j]? = some u → w.cell? ((⟨b, o, none⟩ : Addr).add j) = some u := by
  intro j u hj
  have hlt := (List.getElem?_eq_some_iff.1 hj).1
  rw [dflat_len] at hlt
  have hq : j / 2 < l.length := by omega
  obtain ⟨f0, f1⟩ := dflat_at l (j / 2) l[j / 2] (List.getElem?_eq_getElem hq)
  obtain ⟨b', o', hA, _, h0, h1⟩ := h.at_ (j / 2) l[j / 2] (List.getElem?_eq_getElem hq)
  cases hA
  rw [add_none9]
  by_cases hm : j % 2 = 0
  · have e : j = j / 2 * 2 := by omega
    rw [← e, hj] at f0
    rw [f0, ← h0, ← e]
  · have e : j = j / 2 * 2 + 1 := by omega
    rw [← e, hj] at f1
    rw [f1, ← h1, Nat.add_assoc, ← e]
theorem dues_one {l : List (Int × Int)} : ∀ u ∈ l.flatMap denc, u.oneCell' = true := by
  intro u hu
  obtain ⟨d, _, hd⟩ := List.mem_flatMap.1 hu
  simp [denc] at hd
  rcases hd with rfl | rfl <;> rfl
/-- To a part that is full something is appended: a new block. -/
theorem run_append_cut {w : World} {B1 B2 k m c : Nat} {A A2 : Option Addr} {l1 l2 : List (Int × Int)} (ty : TypeId) (h1 : DuesR w B1 A k k l1) (h2 : DuesR w B2 A2 m c l2) (hm : 0 < m) (hle : k + m ≤ 1000) :
    ∃ g cap w', (Builtin.append_ #[29, 29] ty #[.slice A k k, .slice A2 m c]).run Tryd.prog w = .ok (.slice (some ⟨g, 0, none⟩) (k + m) cap) w' ∧ OwnD w' w.heap.size (.slice (some ⟨g, 0, none⟩) (k + m) cap) (l1 ++ l2) ∧ Below w.heap.size w w' := by
  obtain ⟨i, hi, hz0, hz1, hz2⟩ := qinfo_parts info_due
  have hl2 : l2.length = m := h2.len
  have hl1 : l1.length = k := h1.len
  obtain ⟨b2, o2, rfl, _⟩ := h2.at_ 0 l2[0] (List.getElem?_eq_getElem (by omega))
  have hge := grownCap_ge w (k + m) k 39
  have hcm := grownCap_le_maxLen w (k + m) k 39 (by unfold maxLen; omega)
  have own : OwnD (w.drew.alloc (.cells ((l1.flatMap denc).toArray ++ (l2.flatMap denc).toArray ++ Builtin.zeroCells (Value.agg #[.int .i64 0, .int .u64 0]).cells (grownCap w (k + m) k 39 - (k + m))) 39)) w.heap.size (.slice (some ⟨w.heap.size, 0, none⟩) (k + m) (grownCap w (k + m) k 39)) (l1 ++ l2) := by
    unfold OwnD
    refine ⟨by rw [dflat_len], .inr ⟨w.heap.size, _, _, by rw [List.length_append, hl1, hl2], Nat.le_refl _, heap_alloc_new w.drew _, by rw [List.length_append]; omega, hcm, ?_, ?_⟩⟩
    · simp only [Array.size_append, List.size_toArray, size_zeroCells, dflat_len]
      have : (Value.agg #[.int .i64 0, .int .u64 0]).cells.size = 2 := rfl
      rw [this]; omega
    · simp only [Array.toList_append, List.flatMap_append]
      rw [List.append_assoc, ← List.append_assoc]
      rw [show (l1 ++ l2).length * 2 = (l1.flatMap denc ++ l2.flatMap denc).length by rw [List.length_append, List.length_append, dflat_len, dflat_len]; omega]
      exact List.take_left
  have hb : ∀ o, Below w.heap.size w (w.drew.alloc o) := fun o => (Below.refl _ w).drew.alloc (Nat.le_refl _) o
  cases A with
  | none =>
    have hk : k = 0 := by
      apply Nat.eq_zero_of_not_pos
      intro hk
      obtain ⟨_, _, hA, _⟩ := h1.at_ 0 l1[0] (List.getElem?_eq_getElem (by omega))
      cases hA
    subst hk
    have : l1 = [] := List.length_eq_zero_iff.1 hl1
    subst this
    have hr := run_append_nil (P := Tryd.prog) w 29 ty 39 i _ Tryd.underlying29 hi hz0 ⟨b2, o2, none⟩ m c (l2.flatMap denc) (by rw [dflat_len, hz1, hl2]) (dues_cells h2) hm (by omega) (by rw [hz2]; omega)
    simp only [Nat.zero_add, List.nil_append, List.flatMap_nil, Array.empty_append] at own ⊢
    exact ⟨_, _, _, hr, own, hb _⟩
  | some ad =>
    have ho : ∀ j u, (l1.flatMap denc)[j]? = some u → w.cell? (ad.add j) = some u := by
      intro j u hj
      have hlt := (List.getElem?_eq_some_iff.1 hj).1
      rw [dflat_len] at hlt
      obtain ⟨b, o, hA, _⟩ := h1.at_ 0 l1[0] (List.getElem?_eq_getElem (by omega))
      cases hA
      exact dues_cells h1 j u hj
    have hr := run_append_grow (P := Tryd.prog) w 29 ty 39 i _ Tryd.underlying29 hi hz0 ad k k (l1.flatMap denc) (by rw [dflat_len, hz1, hl1]) ho ⟨b2, o2, none⟩ m c (l2.flatMap denc) (by rw [dflat_len, hz1, hl2]) (dues_cells h2) (by omega) (by omega) (growslice_fits (by omega) (by rw [hz2]; omega))
    exact ⟨_, _, _, hr, own, hb _⟩
/-- Nothing is appended. -/
theorem run_append_zero {w : World} {k k' c : Nat} {A A2 : Option Addr} (ty : TypeId) (hk : k ≤ k') (hA : A = none → k' = 0) :
    (Builtin.append_ #[29, 29] ty #[.slice A k k', .slice A2 0 c]).run Tryd.prog w = .ok (.slice A k k') w := by
  obtain ⟨i, hi, hz0, hz1, hz2⟩ := qinfo_parts info_due
  cases A with
  | none =>
    have := hA rfl
    subst this
    obtain rfl : k = 0 := by omega
    cases A2 <;> simp [Builtin.append_, run_underlying Tryd.underlying29, sizeOf, typeInfo, hi, Builtin.lenOf, Builtin.firstCells, loadCells, loadCellsFrom]
  | some ad =>
    cases A2 <;> simp [Builtin.append_, run_underlying Tryd.underlying29, sizeOf, typeInfo, hi, Builtin.lenOf, Builtin.firstCells, loadCells, loadCellsFrom, hk, storeCells]
/-- To a row of one's own. -/
theorem run_append_dues {w : World} {base B n m c : Nat} {v : Value} {A2 : Option Addr} {l1 l2 : List (Int × Int)} (ty : TypeId) (h1 : OwnD w base v l1) (h2 : DuesR w B A2 m c l2) (hb : base ≤ w.heap.size) (hn : l1.length + m ≤ n) (hle : n ≤ 100000) (hA : A2 = none → c = 0) :
    ∃ v' w', (Builtin.append_ #[29, 29] ty #[v, .slice A2 m c]).run Tryd.prog w = .ok v' w' ∧ OwnD w' base v' (l1 ++ l2) ∧ w.grownBy w' v.ownBlock ∧ (v'.ownBlock = v.ownBlock ∨ v'.ownBlock = some w.heap.size) := by
  obtain ⟨i, hi, hz0, hz1, hz2⟩ := qinfo_parts info_due
  have hl2 : l2.length = m := h2.len
  cases A2 with
  | none =>
    have := hA rfl
    subst this
    have hc := h2.cap
    obtain rfl : m = 0 := by omega
    have : l2 = [] := List.length_eq_zero_iff.1 hl2
    subst this
    refine ⟨v, w, run_append_owned_none (P := Tryd.prog) (w := w) base 29 ty 39 i 2 Tryd.underlying29 hi v l1.length (l1.flatMap denc) h1, by simpa using h1, World.grownBy.refl _ _, .inl rfl⟩
  | some ad =>
    have hc : ∀ j u, (l2.flatMap denc)[j]? = some u → w.cell? (ad.add j) = some u := by
      intro j u hj
      have hlt := (List.getElem?_eq_some_iff.1 hj).1
      rw [dflat_len] at hlt
      obtain ⟨b, o, hA, _⟩ := h2.at_ 0 l2[0] (List.getElem?_eq_getElem (by omega))
      cases hA
      exact dues_cells h2 j u hj
    obtain ⟨v', w', hr, ho, hg, _, ha⟩ := run_append_own_at (P := Tryd.prog) w base 29 ty 39 i _ 2 16 Tryd.underlying29 hi hz0 hz1 hz2 rfl (by decide) v l1.length (l1.flatMap denc) h1 ad m c (l2.flatMap denc) (by rw [dflat_len, hl2]) hc dues_one (by unfold maxLen; omega) (by omega) hb
    refine ⟨v', w', hr, ?_, hg, ha⟩
    unfold OwnD
    rw [List.length_append, hl2, List.flatMap_append]
    exact ho
/-- As a step of a region. -/
theorem wp_append9 {w w' : World} {o : Oper} {a : Act} {K : Act → World → Prop} {Q : Exit → Act → World → Prop} (s x : Operand) {v v' y : Value}
    (ho : o.op = .call { callee := .builtin .append, args := #[s, x], argTypes := #[29, 29] }) (hs : a.eval s = v) (hx : a.eval x = y)
    (hr : (Builtin.append_ #[29, 29] o.type #[v, y]).run Tryd.prog w = .ok v' w') (h : K (a.put o.dst v') w') : Oper.wp Tryd.prog o a w K Q := by
  unfold Oper.wp execOp
  simp only [ho, resolve, invoke, builtin, Sem.run_bind, Sem.run_pure, Result.andThen_ok, List.map_toArray, List.map_cons, List.map_nil, hs, hx, hr]
  exact h
theorem step_append9 {w w' : World} {ops : Array Oper} {o : Oper} {a : Act} {K : Act → World → Prop} {Q : Exit → Act → World → Prop} {E : Prop} (hgd : o.guard = none) (s x : Operand) {v v' y : Value}
    (ho : o.op = .call { callee := .builtin .append, args := #[s, x], argTypes := #[29, 29] }) (hs : a.eval s = v) (hx : a.eval x = y)
    (hr : (Builtin.append_ #[29, 29] o.type #[v, y]).run Tryd.prog w = .ok v' w') (h : K (a.put o.dst v') w') : if Region.wanted o (yielded ops a.tmps) = true then Oper.wp Tryd.prog o a w K Q else E := by
  rw [if_pos (by simp [Region.wanted, hgd])]
  exact wp_append9 s x ho hs hx hr h
theorem list_append9 {w w' : World} {ops : Array Oper} {rest : List Oper} {o : Oper} {a : Act} {Q : Exit → Act → World → Prop} (hgd : o.guard = none) (s x : Operand) {v v' y : Value}
    (ho : o.op = .call { callee := .builtin .append, args := #[s, x], argTypes := #[29, 29] }) (hs : a.eval s = v) (hx : a.eval x = y)
    (hr : (Builtin.append_ #[29, 29] o.type #[v, y]).run Tryd.prog w = .ok v' w') (h : wpList Tryd.prog ops Q rest (a.put o.dst v') w') : wpList Tryd.prog ops Q (o :: rest) a w :=
  wpList_plain hgd fun _ hK => wp_append9 s x ho hs hx hr (hK _ _ h)
/-- To a part that is full, told by what it comes to. -/
theorem step_cut9 {w : World} {ops : Array Oper} {o : Oper} {a : Act} {K : Act → World → Prop} {Q : Exit → Act → World → Prop} {E : Prop} {B1 B2 k m c : Nat} {A A2 : Option Addr} {l1 l2 : List (Int × Int)} (hgd : o.guard = none) (s x : Operand)
    (ho : o.op = .call { callee := .builtin .append, args := #[s, x], argTypes := #[29, 29] }) (hs : a.eval s = .slice A k k) (hx : a.eval x = .slice A2 m c)
    (h1 : DuesR w B1 A k k l1) (h2 : DuesR w B2 A2 m c l2) (hm : 0 < m) (hle : k + m ≤ 1000)
    (h : ∀ g cap w', OwnD w' w.heap.size (.slice (some ⟨g, 0, none⟩) (k + m) cap) (l1 ++ l2) → Below w.heap.size w w' → K (a.put o.dst (.slice (some ⟨g, 0, none⟩) (k + m) cap)) w') : if Region.wanted o (yielded ops a.tmps) = true then Oper.wp Tryd.prog o a w K Q else E := by
  obtain ⟨g, cap, w', hr, ho2, hb⟩ := run_append_cut (w := w) o.type h1 h2 hm hle
  exact step_append9 hgd s x ho hs hx hr (h g cap w' ho2 hb)
theorem step_own9 {w : World} {ops : Array Oper} {o : Oper} {a : Act} {K : Act → World → Prop} {Q : Exit → Act → World → Prop} {E : Prop} {base B n m c : Nat} {v : Value} {A2 : Option Addr} {l1 l2 : List (Int × Int)} (hgd : o.guard = none) (s x : Operand)
    (ho : o.op = .call { callee := .builtin .append, args := #[s, x], argTypes := #[29, 29] }) (hs : a.eval s = v) (hx : a.eval x = .slice A2 m c)
    (h1 : OwnD w base v l1) (h2 : DuesR w B A2 m c l2) (hb : base ≤ w.heap.size) (hn : l1.length + m ≤ n) (hle : n ≤ 100000) (hA : A2 = none → c = 0)
    (h : ∀ v' w', OwnD w' base v' (l1 ++ l2) → w.grownBy w' v.ownBlock → (v'.ownBlock = v.ownBlock ∨ v'.ownBlock = some w.heap.size) → K (a.put o.dst v') w') : if Region.wanted o (yielded ops a.tmps) = true then Oper.wp Tryd.prog o a w K Q else E := by
  obtain ⟨v', w', hr, ho2, hg, ha⟩ := run_append_dues (w := w) o.type h1 h2 hb hn hle hA
  exact step_append9 hgd s x ho hs hx hr (h v' w' ho2 hg ha)
theorem list_own9 {w : World} {ops : Array Oper} {rest : List Oper} {o : Oper} {a : Act} {Q : Exit → Act → World → Prop} {base B n m c : Nat} {v : Value} {A2 : Option Addr} {l1 l2 : List (Int × Int)} (hgd : o.guard = none) (s x : Operand)
    (ho : o.op = .call { callee := .builtin .append, args := #[s, x], argTypes := #[29, 29] }) (hs : a.eval s = v) (hx : a.eval x = .slice A2 m c)
    (h1 : OwnD w base v l1) (h2 : DuesR w B A2 m c l2) (hb : base ≤ w.heap.size) (hn : l1.length + m ≤ n) (hle : n ≤ 100000) (hA : A2 = none → c = 0)
    (h : ∀ v' w', OwnD w' base v' (l1 ++ l2) → w.grownBy w' v.ownBlock → (v'.ownBlock = v.ownBlock ∨ v'.ownBlock = some w.heap.size) → wpList Tryd.prog ops Q rest (a.put o.dst v') w') : wpList Tryd.prog ops Q (o :: rest) a w := by
  obtain ⟨v', w', hr, ho2, hg, ha⟩ := run_append_dues (w := w) o.type h1 h2 hb hn hle hA
  exact list_append9 hgd s x ho hs hx hr (h v' w' ho2 hg ha)
theorem step_zero9 {w : World} {ops : Array Oper} {o : Oper} {a : Act} {K : Act → World → Prop} {Q : Exit → Act → World → Prop} {E : Prop} {k k' c : Nat} {A A2 : Option Addr} (hgd : o.guard = none) (s x : Operand)
    (ho : o.op = .call { callee := .builtin .append, args := #[s, x], argTypes := #[29, 29] }) (hs : a.eval s = .slice A k k') (hx : a.eval x = .slice A2 0 c) (hk : k ≤ k') (hA : A = none → k' = 0)
    (h : K (a.put o.dst (.slice A k k')) w) : if Region.wanted o (yielded ops a.tmps) = true then Oper.wp Tryd.prog o a w K Q else E :=
  step_append9 hgd s x ho hs hx (run_append_zero (w := w) o.type hk hA) h
/-- One due in a block of its own. -/
theorem dues_box {w : World} {g : Nat} {a b : Int} (h : QBox w g 39 #[.int .i64 a, .int .u64 b]) : DuesR w w.heap.size (some ⟨g, 0, none⟩) 1 1 [(a, b)] := by
  refine ⟨rfl, by omega, by decide, fun k r hk => ?_⟩
  match k, hk with
  | 0, hk =>
    simp at hk
    subst hk
    exact ⟨g, 0, rfl, h.lt, h.cell 0, h.cell 1⟩
/-- A row of one's own, grown, is new or it was one's own. -/
theorem below_own9 {w0 w w' : World} {base : Nat} {v : Value} {l : List (Int × Int)} (hb : Below base w0 w) (hown : OwnD w base v l) (hg : w.grownBy w' v.ownBlock) (hB : base ≤ w.heap.size) : Below base w0 w' :=
  hb.grown hg hB (fun k hk => (World.ownsRow.lt hown k hk).1)
end Go.Proofs.YtidgiohjgkfjcaaDoor
