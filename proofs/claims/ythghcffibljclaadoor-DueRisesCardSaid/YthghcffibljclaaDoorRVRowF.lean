/- What a row's block tells: whole loads, and its cells one by one. -/
import Derived.Test.YthghcffibljclaaDoorRVSmall
import Derived.Deep.MidRow
namespace Go.Proofs.YthghcffibljclaaDoor
open Go.RowKit

abbrev rowNC (r : RowZ) (v : Value) (now : Int) : List Value := rowC r v ++ [Value.int .i64 now]
theorem rowNC_len {r : RowZ} (h : r.Fit) (v : Value) (now : Int) : (rowNC r v now).length = 18 := by rw [List.length_append, rowC_len h]; rfl
theorem range_of {W : World} {b : Nat} {t : TypeId} {cs : List Value} (h : D.Box W b t cs.toArray) (o : Nat) (xs : List Value) (hx : ∀ j u, xs[j]? = some u → cs[o + j]? = some u) : W.rangeAt b o xs := fun j u hj => by
  rw [D.Box.cell h (o + j), List.getElem?_toArray]
  exact hx j u hj
theorem size_row : (Tryd.prog.info? 33).map (·.size) = some 17 := by kernel_rfl
theorem size_rown : (Tryd.prog.info? 64).map (·.size) = some 18 := by kernel_rfl
theorem size_job : (Tryd.prog.info? 28).map (·.size) = some 11 := by kernel_rfl
theorem size_going : (Tryd.prog.info? 30).map (·.size) = some 3 := by kernel_rfl
theorem und_of {t : TypeId} (h : (Tryd.prog.underlying t).map (fun d => d.isRow) = some true) : ∃ d, Tryd.prog.underlying t = some d ∧ d.isRow = true := by
  cases hq : Tryd.prog.underlying t with
  | none => rw [hq] at h; cases h
  | some d => rw [hq] at h; exact ⟨d, rfl, by simpa using h⟩
theorem und_row : ∃ d, Tryd.prog.underlying 33 = some d ∧ d.isRow = true := und_of (by kernel_rfl)
theorem und_rown : ∃ d, Tryd.prog.underlying 64 = some d ∧ d.isRow = true := und_of (by kernel_rfl)
theorem und_job : ∃ d, Tryd.prog.underlying 28 = some d ∧ d.isRow = true := und_of (by kernel_rfl)
theorem und_going : ∃ d, Tryd.prog.underlying 30 = some d ∧ d.isRow = true := und_of (by kernel_rfl)
abbrev LoadIs (W : World) (t : TypeId) (g o : Nat) (v : Value) : Prop := (Instr.loadAt t (.pointer (some ⟨g, o, none⟩))).run Tryd.prog W = .ok v W
/-- A load whose outcome is known, at a plain region's list. -/
theorem list_load {w : World} {ops : Array Oper} {rest : List Oper} {o : Oper} {a : Act} {Q : Exit → Act → World → Prop} {t : TypeId} {g k : Nat} {v : Value} (hgd : o.guard = none) (x : Operand) (ho : o.op = .load t x) (hx : a.eval x = .pointer (some ⟨g, k, none⟩)) (hl : LoadIs w t g k v)
    (h : wpList Tryd.prog ops Q rest (a.put o.dst v) w) : wpList Tryd.prog ops Q (o :: rest) a w :=
  wpList_plain hgd fun K hK => by
    unfold Oper.wp execOp
    simp only [ho, hx, Sem.run_bind, Sem.run_pure]
    rw [hl]
    exact hK _ _ h
theorem list_loadw {w : World} {ops : Array Oper} {rest : List Oper} {o : Oper} {a : Act} {Q : Exit → Act → World → Prop} {t : TypeId} {g k : Nat} {v : Value} (hw : Region.wanted o (yielded ops a.tmps) = true) (x : Operand) (ho : o.op = .load t x) (hx : a.eval x = .pointer (some ⟨g, k, none⟩)) (hl : LoadIs w t g k v)
    (h : wpList Tryd.prog ops Q rest (a.put o.dst v) w) : wpList Tryd.prog ops Q (o :: rest) a w :=
  wpList_step fun K hK => by
    rw [if_pos hw]
    unfold Oper.wp execOp
    simp only [ho, hx, Sem.run_bind, Sem.run_pure]
    rw [hl]
    exact hK _ _ h
abbrev StoreIs (W : World) (t : TypeId) (g o : Nat) (v : Value) (W' : World) : Prop := (Instr.storeAt t (.pointer (some ⟨g, o, none⟩)) v).run Tryd.prog W = .ok () W'
theorem list_store {w w' : World} {ops : Array Oper} {rest : List Oper} {o : Oper} {a : Act} {Q : Exit → Act → World → Prop} {t : TypeId} {g k : Nat} {v : Value} (hgd : o.guard = none) (x y : Operand) (ho : o.op = .store t x y) (hx : a.eval x = .pointer (some ⟨g, k, none⟩)) (hy : a.eval y = v) (hl : StoreIs w t g k v w')
    (h : wpList Tryd.prog ops Q rest (a.put o.dst undef) w') : wpList Tryd.prog ops Q (o :: rest) a w :=
  wpList_plain hgd fun K hK => by
    unfold Oper.wp execOp
    simp only [ho, hx, hy, Sem.run_bind, Sem.run_pure]
    rw [hl]
    exact hK _ _ h
theorem jobC_len {j : JobZ} (h : j.Fit) : (jobC j).length = 11 := by have := h.2.2; simp [jobC, this]
theorem load_of {W : World} {b : Nat} {t ty : TypeId} {cs : List Value} (h : D.Box W b t cs.toArray) (o n : Nat) (xs : List Value) (hx : ∀ j u, xs[j]? = some u → cs[o + j]? = some u) (hu : ∃ d, Tryd.prog.underlying ty = some d ∧ d.isRow = true) (hs : (Tryd.prog.info? ty).map (·.size) = some n) (hn : xs.length = n) : LoadIs W ty b o (.agg xs.toArray) := by
  obtain ⟨d, hd, hr⟩ := hu
  exact run_loadAt_mid W b o ty xs d (range_of h o xs hx) hd hr (by rw [hs, hn])
theorem loadVar_of {W : World} {b : Nat} {t ty : TypeId} {cs : List Value} (h : D.Box W b t cs.toArray) (n : Nat) (hu : ∃ d, Tryd.prog.underlying ty = some d ∧ d.isRow = true) (hs : (Tryd.prog.info? ty).map (·.size) = some n) (hn : cs.length = n) : (loadVar ty ⟨b, 0, none⟩).run Tryd.prog W = .ok (.agg cs.toArray) W := by
  obtain ⟨d, hd, hr⟩ := hu
  exact run_loadVar_mid W b 0 ty cs d (range_of h 0 cs (fun j u hj => by rw [Nat.zero_add]; exact hj)) hd hr (by rw [hs, hn])
/-- The results of a function whose one result stands in a block. -/
theorem results_cell {f : Func} {tmps : Array Value} {W : World} {g k : Nat} {t : TypeId} {v : Value} (hr : f.results = #[.cell k t]) (he : tmps[k]?.getD undef = .pointer (some ⟨g, 0, none⟩)) (hl : (loadVar t ⟨g, 0, none⟩).run Tryd.prog W = .ok v W) : (results f tmps).run Tryd.prog W = .ok v W := by
  unfold results
  rw [hr]
  simp [he, asAddr, hl]
theorem results_cell2 {f : Func} {tmps : Array Value} {W : World} {g k m : Nat} {t : TypeId} {v u : Value} (hr : f.results = #[.cell k t, .tmp m]) (he : tmps[k]?.getD undef = .pointer (some ⟨g, 0, none⟩)) (hm : tmps[m]?.getD undef = u) (hl : (loadVar t ⟨g, 0, none⟩).run Tryd.prog W = .ok v W) : (results f tmps).run Tryd.prog W = .ok (.tuple #[v, u]) W := by
  unfold results
  rw [hr]
  simp [he, hm, asAddr, hl]
/-- The cells that are asked for by name. -/
structure CellsF (W : World) (g o : Nat) (r : RowZ) (v : Value) : Prop where
  n : W.cell? ⟨g, o, none⟩ = some (.int .u32 r.j.n)
  ov : W.cell? ⟨g, o + 8, none⟩ = some (.int .i64 r.j.ov)
  re : W.cell? ⟨g, o + 10, none⟩ = some (.int .i64 r.j.re)
  pa : W.cell? ⟨g, o + 11, none⟩ = some (.bool r.pa)
  nx : W.cell? ⟨g, o + 12, none⟩ = some (.int .i64 r.nx)
  num : W.cell? ⟨g, o + 13, none⟩ = some (.int .u64 r.num)
  due : W.cell? ⟨g, o + 14, none⟩ = some (.int .i64 r.due)
  tr : W.cell? ⟨g, o + 15, none⟩ = some (.int .i64 r.tr)
  q : W.cell? ⟨g, o + 16, none⟩ = some v
theorem cellsF_of {W : World} {g o : Nat} {r : RowZ} {v : Value} (hf : r.Fit) (h : W.rangeAt g o (rowC r v)) : CellsF W g o r v := by
  obtain ⟨⟨n, ob, L, t, ov, ca, re⟩, pa, nx, num, due, tr, q⟩ := r
  obtain ⟨⟨_, _, hl5⟩, _⟩ := hf
  obtain ⟨a, b, c, d, e, rfl⟩ := list_five hl5
  exact ⟨h 0 _ rfl, h 8 _ rfl, h 10 _ rfl, h 11 _ rfl, h 12 _ rfl, h 13 _ rfl, h 14 _ rfl, h 15 _ rfl, h 16 _ rfl⟩
theorem rown_range {W : World} {g : Nat} {r : RowZ} {v : Value} {now : Int} (h : D.Box W g 64 (rowNC r v now).toArray) : W.rangeAt g 0 (rowC r v) := range_of h 0 _ fun j u hj => by
  have hlt := (List.getElem?_eq_some_iff.1 hj).1
  rw [Nat.zero_add, List.getElem?_append_left hlt]
  exact hj
theorem rown_now {W : World} {g : Nat} {r : RowZ} {v : Value} {now : Int} (hf : r.Fit) (h : D.Box W g 64 (rowNC r v now).toArray) : W.cell? ⟨g, 17, none⟩ = some (.int .i64 now) := by
  rw [D.Box.cell h 17, List.getElem?_toArray, List.getElem?_append_right (by rw [rowC_len hf]; omega), rowC_len hf]
  rfl
theorem rown_load {W : World} {g : Nat} {r : RowZ} {v : Value} {now : Int} (hf : r.Fit) (h : D.Box W g 64 (rowNC r v now).toArray) : LoadIs W 64 g 0 (rowNV r v now) :=
  load_of h 0 18 _ (fun j u hj => by rw [Nat.zero_add]; exact hj) und_rown size_rown (rowNC_len hf v now)
theorem rown_row {W : World} {g : Nat} {r : RowZ} {v : Value} {now : Int} (hf : r.Fit) (h : D.Box W g 64 (rowNC r v now).toArray) : LoadIs W 33 g 0 (rowV r v) :=
  load_of h 0 17 _ (fun j u hj => by
    have hlt := (List.getElem?_eq_some_iff.1 hj).1
    rw [Nat.zero_add, List.getElem?_append_left hlt]
    exact hj) und_row size_row (rowC_len hf v)
theorem rown_job {W : World} {g : Nat} {r : RowZ} {v : Value} {now : Int} (hf : r.Fit) (h : D.Box W g 64 (rowNC r v now).toArray) : LoadIs W 28 g 0 (jobV r.j) :=
  load_of h 0 11 _ (fun j u hj => by
    have hlt := (List.getElem?_eq_some_iff.1 hj).1
    rw [Nat.zero_add, List.getElem?_append_left (by rw [rowC_len hf]; rw [jobC_len hf.1] at hlt; omega)]
    show (jobC r.j ++ _)[j]? = some u
    rw [List.getElem?_append_left hlt]
    exact hj) und_job size_job (jobC_len hf.1)
theorem row_range {W : World} {g : Nat} {r : RowZ} {v : Value} (h : D.Box W g 33 (rowC r v).toArray) : W.rangeAt g 0 (rowC r v) := range_of h 0 _ fun j u hj => by rw [Nat.zero_add]; exact hj
theorem row_load {W : World} {g : Nat} {r : RowZ} {v : Value} (hf : r.Fit) (h : D.Box W g 33 (rowC r v).toArray) : LoadIs W 33 g 0 (rowV r v) :=
  load_of h 0 17 _ (fun j u hj => by rw [Nat.zero_add]; exact hj) und_row size_row (rowC_len hf v)
theorem row_job {W : World} {g : Nat} {r : RowZ} {v : Value} (hf : r.Fit) (h : D.Box W g 33 (rowC r v).toArray) : LoadIs W 28 g 0 (jobV r.j) :=
  load_of h 0 11 _ (fun j u hj => by
    have hlt := (List.getElem?_eq_some_iff.1 hj).1
    rw [Nat.zero_add]
    show (jobC r.j ++ _)[j]? = some u
    rw [List.getElem?_append_left hlt]
    exact hj) und_job size_job (jobC_len hf.1)
/-- A row in the middle of a table is loaded whole. -/
theorem tab_load {w : World} {bl of n c : Nat} {ms : List RowM} (h : TabR w (some ⟨bl, of, none⟩) n c ms) {k : Nat} {m : RowM} (hk : ms[k]? = some m) : LoadIs w 33 bl (of + k * 17) (rowV m.1 m.2) := by
  have hf := h.fit m (List.mem_of_getElem? hk)
  obtain ⟨d, hd, hr⟩ := und_row
  refine run_loadAt_mid w bl (of + k * 17) 33 (rowC m.1 m.2) d (fun j u hj => ?_) hd hr (by rw [size_row, rowC_len hf])
  have hlt := (List.getElem?_eq_some_iff.1 hj).1
  rw [rowC_len hf] at hlt
  obtain ⟨b', o', e, _, hc⟩ := h.rd (k * 17 + j) u (by rw [mflat_at h.fit k m hk j hlt]; exact hj)
  cases e
  rw [Nat.add_assoc]
  exact hc
end Go.Proofs.YthghcffibljclaaDoor
