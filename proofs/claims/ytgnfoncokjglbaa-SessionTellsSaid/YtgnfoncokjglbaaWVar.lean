/- Whole loads and stores of a row of sessions. -/
import Derived.Test.YtgnfoncokjglbaaWHold
import Derived.Deep.MidRow
namespace Go.Proofs.Ytgnfoncokjglbaa
open Go.RowKit

theorem size_ses : (Try.prog.info? 42).map (·.size) = some 4 := by kernel_rfl
theorem range_of {W : World} {b : Nat} {t : TypeId} {cs : List Value} (h : SBox W b t cs.toArray) (o : Nat) (xs : List Value) (hx : ∀ j u, xs[j]? = some u → cs[o + j]? = some u) : W.rangeAt b o xs := fun j u hj => by
  rw [SBox.cell h (o + j), List.getElem?_toArray]
  exact hx j u hj
theorem und_of {t : TypeId} (h : (Try.prog.underlying t).map (fun d => d.isRow) = some true) : ∃ d, Try.prog.underlying t = some d ∧ d.isRow = true := by
  cases hq : Try.prog.underlying t with
  | none => rw [hq] at h; cases h
  | some d => rw [hq] at h; exact ⟨d, rfl, by simpa using h⟩
/-- A structure, not an abbreviation: an arm that does not fit then fails at once (unfolding the program took seconds each time). -/
structure LoadIs (W : World) (t : TypeId) (g o : Nat) (v : Value) : Prop where
  run : (Instr.loadAt t (.pointer (some ⟨g, o, none⟩))).run Try.prog W = .ok v W
/-- A load whose outcome is known, at a plain region's list. -/
theorem list_load {w : World} {ops : Array Oper} {rest : List Oper} {o : Oper} {a : Act} {Q : Exit → Act → World → Prop} {t : TypeId} {g k : Nat} {v : Value} (hgd : o.guard = none) (x : Operand) (ho : o.op = .load t x) (hx : a.eval x = .pointer (some ⟨g, k, none⟩)) (hl : LoadIs w t g k v)
    (h : wpList Try.prog ops Q rest (a.put o.dst v) w) : wpList Try.prog ops Q (o :: rest) a w :=
  wpList_plain hgd fun K hK => by
    unfold Oper.wp execOp
    simp only [ho, hx, Sem.run_bind, Sem.run_pure]
    rw [hl.run]
    exact hK _ _ h
theorem list_loadw {w : World} {ops : Array Oper} {rest : List Oper} {o : Oper} {a : Act} {Q : Exit → Act → World → Prop} {t : TypeId} {g k : Nat} {v : Value} (hw : Region.wanted o (yielded ops a.tmps) = true) (x : Operand) (ho : o.op = .load t x) (hx : a.eval x = .pointer (some ⟨g, k, none⟩)) (hl : LoadIs w t g k v)
    (h : wpList Try.prog ops Q rest (a.put o.dst v) w) : wpList Try.prog ops Q (o :: rest) a w :=
  wpList_step fun K hK => by
    rw [if_pos hw]
    unfold Oper.wp execOp
    simp only [ho, hx, Sem.run_bind, Sem.run_pure]
    rw [hl.run]
    exact hK _ _ h
structure StoreIs (W : World) (t : TypeId) (g o : Nat) (v : Value) (W' : World) : Prop where
  run : (Instr.storeAt t (.pointer (some ⟨g, o, none⟩)) v).run Try.prog W = .ok () W'
theorem list_store {w w' : World} {ops : Array Oper} {rest : List Oper} {o : Oper} {a : Act} {Q : Exit → Act → World → Prop} {t : TypeId} {g k : Nat} {v : Value} (hgd : o.guard = none) (x y : Operand) (ho : o.op = .store t x y) (hx : a.eval x = .pointer (some ⟨g, k, none⟩)) (hy : a.eval y = v) (hl : StoreIs w t g k v w')
    (h : wpList Try.prog ops Q rest (a.put o.dst undef) w') : wpList Try.prog ops Q (o :: rest) a w :=
  wpList_plain hgd fun K hK => by
    unfold Oper.wp execOp
    simp only [ho, hx, hy, Sem.run_bind, Sem.run_pure]
    rw [hl.run]
    exact hK _ _ h
theorem load_of {W : World} {b : Nat} {t ty : TypeId} {cs : List Value} (h : SBox W b t cs.toArray) (o n : Nat) (xs : List Value) (hx : ∀ j u, xs[j]? = some u → cs[o + j]? = some u) (hu : ∃ d, Try.prog.underlying ty = some d ∧ d.isRow = true) (hs : (Try.prog.info? ty).map (·.size) = some n) (hn : xs.length = n) : LoadIs W ty b o (.agg xs.toArray) := by
  obtain ⟨d, hd, hr⟩ := hu
  exact ⟨run_loadAt_mid W b o ty xs d (range_of h o xs hx) hd hr (by rw [hs, hn])⟩
theorem loadVar_of {W : World} {b : Nat} {t ty : TypeId} {cs : List Value} (h : SBox W b t cs.toArray) (n : Nat) (hu : ∃ d, Try.prog.underlying ty = some d ∧ d.isRow = true) (hs : (Try.prog.info? ty).map (·.size) = some n) (hn : cs.length = n) : (loadVar ty ⟨b, 0, none⟩).run Try.prog W = .ok (.agg cs.toArray) W := by
  obtain ⟨d, hd, hr⟩ := hu
  exact run_loadVar_mid W b 0 ty cs d (range_of h 0 cs (fun j u hj => by rw [Nat.zero_add]; exact hj)) hd hr (by rw [hs, hn])
/-- The results of a function whose one result stands in a block. -/
theorem results_cell {f : Func} {tmps : Array Value} {W : World} {g k : Nat} {t : TypeId} {v : Value} (hr : f.results = #[.cell k t]) (he : tmps[k]?.getD undef = .pointer (some ⟨g, 0, none⟩)) (hl : (loadVar t ⟨g, 0, none⟩).run Try.prog W = .ok v W) : (results f tmps).run Try.prog W = .ok v W := by
  unfold results
  rw [hr]
  simp [he, asAddr, hl]
theorem results_cell2 {f : Func} {tmps : Array Value} {W : World} {g k m : Nat} {t : TypeId} {v u : Value} (hr : f.results = #[.cell k t, .tmp m]) (he : tmps[k]?.getD undef = .pointer (some ⟨g, 0, none⟩)) (hm : tmps[m]?.getD undef = u) (hl : (loadVar t ⟨g, 0, none⟩).run Try.prog W = .ok v W) : (results f tmps).run Try.prog W = .ok (.tuple #[v, u]) W := by
  unfold results
  rw [hr]
  simp [he, hm, asAddr, hl]
/-- Values stored over a part of a block. -/
theorem store_at {W : World} {g o : Nat} {t ty : TypeId} {cs : Array Value} {vs : List Value} (h : SBox W g t cs) (hfit : o + vs.length ≤ cs.size) (hs : (Try.prog.info? ty).map (·.size) = some vs.length) (h1 : ∀ v ∈ vs, v.oneCell' = true) :
    StoreIs W ty g o (.agg vs.toArray) (W.setRow g (cs.toList.take o ++ vs ++ cs.toList.drop (o + vs.length)).toArray) := by
  have := run_storeCells_at Try.prog g o t vs 0 cs W h (by simpa using hfit) h1
  simp only [Nat.add_zero] at this
  cases hq : Try.prog.info? ty with
  | none => simp [hq] at hs
  | some i =>
    have hi : vs.toArray.size = i.size := by simp [hq] at hs; simp [hs]
    refine ⟨?_⟩
    simp [Instr.storeAt, Instr.sureAddr, storeVar, sizeOf, typeInfo, hq, Value.cells, hi, this]
theorem store_all {W : World} {g : Nat} {t ty : TypeId} {cs : Array Value} {vs : List Value} (h : SBox W g t cs) (hfit : vs.length = cs.size) (hs : (Try.prog.info? ty).map (·.size) = some vs.length) (h1 : ∀ v ∈ vs, v.oneCell' = true) :
    StoreIs W ty g 0 (.agg vs.toArray) (W.setRow g vs.toArray) := by
  have := store_at (o := 0) h (by omega) hs h1
  rw [List.take_zero, List.nil_append, Nat.zero_add, List.drop_of_length_le (by rw [Array.length_toList]; omega), List.append_nil] at this
  exact this
/-- A store whose outcome is known; the frame stays as it is (else the walk spells 'a.put none undef' out: 40 s). -/
theorem list_store0 {w w' : World} {ops : Array Oper} {rest : List Oper} {o : Oper} {a : Act} {Q : Exit → Act → World → Prop} {t : TypeId} {g k : Nat} {v : Value} (hgd : o.guard = none) (hd : o.dst = none) (x y : Operand) (ho : o.op = .store t x y) (hx : a.eval x = .pointer (some ⟨g, k, none⟩)) (hy : a.eval y = v) (hl : StoreIs w t g k v w')
    (h : wpList Try.prog ops Q rest a w') : wpList Try.prog ops Q (o :: rest) a w :=
  list_store hgd x y ho hx hy hl (by rw [hd]; exact h)
theorem und_ses : ∃ d, Try.prog.underlying 42 = some d ∧ d.isRow = true := und_of (by kernel_rfl)
theorem SBox.setRow {w : World} {g : Nat} {t : TypeId} {cs : Array Value} (h : SBox w g t cs) (vs : Array Value) : SBox (w.setRow g vs) g t vs := setRow_heap w g _ _ _ _ h
theorem below_setRow {B : Nat} {w W : World} {g : Nat} (h : Below B w W) (hg : B ≤ g) (vs : Array Value) : Below B w (W.setRow g vs) := h.trans ⟨rfl, rfl, rfl, by simp [World.setRow], fun k hk => setRow_other W g k vs (by omega)⟩
/-- A row that is loaded out of a slice. -/
theorem ses_load {w : World} {bl of n c : Nat} {ms : List SesM} (h : SR w (some ⟨bl, of, none⟩) n c ms) {k : Nat} {x : SesZ} {v : Value} (hk : ms[k]? = some (x, v)) : LoadIs w 42 bl (of + k * 4) (sesV x v) := by
  obtain ⟨d, hd, hr⟩ := und_ses
  refine ⟨run_loadAt_mid w bl (of + k * 4) 42 (sesC (x, v)) d (fun j u hj => ?_) hd hr size_ses⟩
  have hlt : j < 4 := (List.getElem?_eq_some_iff.1 hj).1
  obtain ⟨b', o', e, _, hc⟩ := h.rd (k * 4 + j) u (by rw [sflat_at k _ hk j hlt]; exact hj)
  cases e
  rw [Nat.add_assoc]
  exact hc
theorem box_load {W : World} {g : Nat} {x : SesZ} {v : Value} (h : SBox W g 42 (sesC (x, v)).toArray) : LoadIs W 42 g 0 (sesV x v) :=
  load_of h 0 4 _ (fun j u hj => by rw [Nat.zero_add]; exact hj) und_ses size_ses rfl
theorem ses_one {x : SesZ} {v : Value} (hv : v.oneCell' = true) : ∀ u ∈ sesC (x, v), u.oneCell' = true := by
  intro u hu
  simp only [sesC, List.mem_cons, List.not_mem_nil, or_false] at hu
  rcases hu with rfl | rfl | rfl | rfl <;> first | exact hv | rfl
/-- A row in a variable of its own. -/
def SesAt (W : World) (g : Nat) (x : SesZ) (v : Value) : Prop := SBox W g 42 #[.int .i64 x.cl, .int .u64 x.seq, .int .i64 x.rep.err, v]
theorem SesAt.box {W : World} {g : Nat} {x : SesZ} {v : Value} (h : SesAt W g x v) : SBox W g 42 #[.int .i64 x.cl, .int .u64 x.seq, .int .i64 x.rep.err, v] := h
theorem SesAt.on {w w' : World} {g : Nat} {x : SesZ} {v : Value} (h : SesAt w g x v) (hb : Below w.heap.size w w') : SesAt w' g x v := SBox.on h hb
theorem SesAt.below {B : Nat} {w w' : World} {g : Nat} {x : SesZ} {v : Value} (h : SesAt w g x v) (hb : Below B w w') (hg : g < B) : SesAt w' g x v := SBox.below h hb hg
theorem SesAt.load {W : World} {g : Nat} {x : SesZ} {v : Value} (h : SesAt W g x v) : LoadIs W 42 g 0 (sesV x v) := box_load h
theorem SesAt.loadVar {W : World} {g : Nat} {x : SesZ} {v : Value} (h : SesAt W g x v) : (loadVar 42 ⟨g, 0, none⟩).run Try.prog W = .ok (sesV x v) W :=
  loadVar_of (cs := sesC (x, v)) h 4 und_ses size_ses rfl
theorem SesAt.store {W : World} {g : Nat} {x y : SesZ} {v u : Value} (h : SesAt W g x v) (hu : u.oneCell' = true) : ∃ W', StoreIs W 42 g 0 (sesV y u) W' ∧ SesAt W' g y u ∧ (∀ B, B ≤ g → Below B W W') ∧ (∀ k, k ≠ g → W'.heap[k]? = W.heap[k]?) ∧ W'.heap.size = W.heap.size :=
  ⟨_, store_all (vs := sesC (y, u)) h rfl (by rw [size_ses]; rfl) (ses_one hu), SBox.setRow h _, fun B hB => below_setRow (Below.refl _ _) hB _, fun k hk => setRow_other W g k _ hk, by simp [World.setRow]⟩
theorem ses_var (w : World) (x : SesZ) (v : Value) (hv : v.oneCell' = true) : ∃ W, StoreIs (w.alloc (.cells #[.int .i64 0, .int .u64 0, .int .i64 0, .slice none 0 0] 42)) 42 w.heap.size 0 (sesV x v) W ∧ SesAt W w.heap.size x v ∧ Below w.heap.size w W ∧ W.heap.size = w.heap.size + 1 := by
  have hz : SBox (w.alloc (.cells #[.int .i64 0, .int .u64 0, .int .i64 0, .slice none 0 0] 42)) w.heap.size 42 #[.int .i64 0, .int .u64 0, .int .i64 0, .slice none 0 0] := SBox.new w _ _
  exact ⟨_, store_all (vs := sesC (x, v)) hz rfl (by rw [size_ses]; rfl) (ses_one hv), SBox.setRow hz _, below_setRow (new_below w _) (Nat.le_refl _) _, by simp [World.setRow]⟩
end Go.Proofs.Ytgnfoncokjglbaa
