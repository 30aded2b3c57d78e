/- The map of what was done: its keys are arrays of two numbers. An asking in a variable of its own. -/
import Derived.Test.YtgnfoncokjglbaaWOrderW
import Derived.Test.YtgnfoncokjglbaaWLift
import Derived.Maps.Keyed
import Derived.WideKeyPair
import Derived.DeepKeys5
namespace Go.Proofs.Ytgnfoncokjglbaa
open Go.RowKit Go.ChangeMaps

theorem arrK : WideMaps.ArrKey Try.prog 55 32 2 := ⟨Try.underlying55, by kernel_rfl, by kernel_rfl, by kernel_rfl⟩
theorem keyU : Go.Maps.Keyed Try.prog 55 := Go.Maps.Keyed.of_law (deep_law_gate laidOut (of_decide_eq_true (by kernel_rfl)) (of_decide_eq_true (by kernel_rfl)) (by kernel_rfl) (by kernel_rfl))
def kvU (c q : Int) : Value := .agg #[.int .u64 c, .int .u64 q]
def In64 (x : Int) : Prop := 0 ≤ x ∧ x ≤ 18446744073709551615
theorem wf_u64 {x : Int} (h : In64 x) : (Lit.int .u64 x).wf = true := by
  unfold In64 at h
  simp [Lit.wf, IntKind.min, IntKind.max, IntKind.bits, IntKind.signed]; omega
theorem info_boolw : (Try.prog.info? 4).map (fun i => (i.zero, i.size, i.bytes)) = some (some (.bool false), 1, 1) := by kernel_rfl
theorem zero_boolw (w : World) : (zeroValue 4).run Try.prog w = .ok (.bool false) w := by
  obtain ⟨i, hi, hz, _, _⟩ := sinfo_parts info_boolw
  simp [zeroValue, typeInfo, hi, hz, Result.andThen]
theorem types_some : ∃ m, Try.prog.types.size = m + 1 := ⟨Try.prog.types.size - 1, by kernel_rfl⟩
theorem keyof_u {c q : Int} (hc : In64 c) (hq : In64 q) : ∃ l, keyOf Try.prog 55 (kvU c q) = some l := ⟨_, WideMaps.keyOf_pair arrK Try.underlying32 types_some (wf_u64 hc) (wf_u64 hq)⟩
/-- Block b is a map, whose keys are such. -/
def MapIs (w : World) (b : Nat) (P : Int → Int → Prop) : Prop := ∃ (es : Array MapEntry) (cnt : Nat), w.heap[b]? = some (.map es cnt) ∧ ∀ e ∈ es.toList, ∃ c q, e.key = kvU c q ∧ In64 c ∧ In64 q ∧ P c q
theorem MapIs.lt {w : World} {b : Nat} {P : Int → Int → Prop} (h : MapIs w b P) : b < w.heap.size := by
  obtain ⟨es, cnt, h, _⟩ := h
  exact (Array.getElem?_eq_some_iff.1 h).1
theorem MapIs.on {w w' : World} {b : Nat} {P : Int → Int → Prop} (h : MapIs w b P) (hb : Below w.heap.size w w') : MapIs w' b P := by
  have hl := h.lt
  obtain ⟨es, cnt, h, hp⟩ := h
  exact ⟨es, cnt, (hb.block b hl).trans h, hp⟩
theorem MapIs.far {w : World} {b g i : Nat} {P : Int → Int → Prop} (h : MapIs w b P) (hg : b ≠ g) (u : Value) : MapIs (w.setCell ⟨g, i, none⟩ u) b P := by
  obtain ⟨es, cnt, h, hp⟩ := h
  exact ⟨es, cnt, (Below.heap_setCell w ⟨g, i, none⟩ u b hg).trans h, hp⟩
theorem MapIs.box {w : World} {b g : Nat} {P : Int → Int → Prop} {t : TypeId} {cs : Array Value} (h : MapIs w b P) (hx : SBox w g t cs) : b ≠ g := fun e => by
  obtain ⟨es, cnt, h, _⟩ := h
  unfold SBox at hx
  rw [e, hx] at h
  cases h
theorem MapIs.weak {w : World} {b : Nat} {P Q : Int → Int → Prop} (h : MapIs w b P) (hp : ∀ c q, P c q → Q c q) : MapIs w b Q := by
  obtain ⟨es, cnt, h, hh⟩ := h
  exact ⟨es, cnt, h, fun e he => by obtain ⟨c, q, a, b1, b2, d⟩ := hh e he; exact ⟨c, q, a, b1, b2, hp c q d⟩⟩
theorem MapIs.made (w : World) (P : Int → Int → Prop) : MapIs (w.alloc (.map #[] 0)) w.heap.size P := ⟨#[], 0, heap_alloc_new w _, fun e he => by cases he⟩
theorem kvU_inj {c q c' q' : Int} (h : kvU c q = kvU c' q') : c = c' ∧ q = q' := by
  unfold kvU at h
  injection h with h
  injection h with h
  injection h with h1 h
  injection h with h2 h
  injection h1 with _ h1
  injection h2 with _ h2
  exact ⟨h1, h2⟩
theorem look_none {w : World} {b : Nat} {P : Int → Int → Prop} {c q : Int} (h : MapIs w b P) (hc : In64 c) (hq : In64 q) (hno : ¬ P c q) :
    (Instr.lookup 54 (.map (some b)) (kvU c q) false).run Try.prog w = .ok (.bool false) w := by
  obtain ⟨es, cnt, h, hp⟩ := h
  obtain ⟨l, hl⟩ := keyof_u hc hq
  have hk := keyU.check w es.isEmpty hl
  have hz := zero_boolw w
  rcases keyU.find w hl es.toList (fun e he => by obtain ⟨c', q', e1, a, b', _⟩ := hp e he; rw [e1]; exact keyof_u a b') with ⟨h1, _⟩ | ⟨j, e, h1, h2, h3⟩
  · simp [Instr.lookup, run_underlying Try.underlying54, MapKept.run_getObj_map h, hk, h1, hz, Result.andThen]
  · exfalso
    obtain ⟨c', q', e1, _, _, hpp⟩ := hp e (List.mem_of_getElem? h2)
    rw [h3] at e1
    obtain ⟨rfl, rfl⟩ := kvU_inj e1
    exact hno hpp
theorem put_new {w : World} {b : Nat} {P : Int → Int → Prop} {c q : Int} (h : MapIs w b P) (hc : In64 c) (hq : In64 q) (hno : ¬ P c q) :
    ∃ w', (Instr.mapUpdate 54 (.map (some b)) (kvU c q) (.bool true)).run Try.prog w = .ok () w' ∧ MapIs w' b (fun c' q' => P c' q' ∨ (c' = c ∧ q' = q)) ∧ (∀ k, k ≠ b → w'.heap[k]? = w.heap[k]?) ∧ w'.heap.size = w.heap.size ∧ (∀ B, B ≤ b → Below B w w') := by
  obtain ⟨es, cnt, h, hp⟩ := h
  obtain ⟨l, hl⟩ := keyof_u hc hq
  have hk := keyU.check w false hl
  rcases keyU.find w hl es.toList (fun e he => by obtain ⟨c', q', e1, a, b', _⟩ := hp e he; rw [e1]; exact keyof_u a b') with ⟨h1, _⟩ | ⟨j, e, h1, h2, h3⟩
  · have hset := MapKept.heap_set (o' := .map (es.push { key := kvU c q, val := .bool true, born := cnt }) (cnt + 1)) h
    refine ⟨setBlock w b (.map (es.push { key := kvU c q, val := .bool true, born := cnt }) (cnt + 1)), ?_, ⟨_, _, hset.1, fun e he => ?_⟩, hset.2, by simp [setBlock], fun B hB => ⟨rfl, rfl, rfl, by simp [setBlock], fun k hk => hset.2 k (by omega)⟩⟩
    · simp [Instr.mapUpdate, run_underlying Try.underlying54, MapKept.run_getObj_map h, hk, h1, MapKept.run_setObj_map _ h, Result.andThen, setBlock]
    · rw [Array.toList_push] at he
      rcases List.mem_append.1 he with he | he
      · obtain ⟨c', q', a, b1, b2, d⟩ := hp e he
        exact ⟨c', q', a, b1, b2, .inl d⟩
      · rw [List.mem_singleton] at he
        subst he
        exact ⟨c, q, rfl, hc, hq, .inr ⟨rfl, rfl⟩⟩
  · exfalso
    obtain ⟨c', q', e1, _, _, hpp⟩ := hp e (List.mem_of_getElem? h2)
    rw [h3] at e1
    obtain ⟨rfl, rfl⟩ := kvU_inj e1
    exact hno hpp
theorem list_look {w : World} {ops : Array Oper} {rest : List Oper} {o : Oper} {a : Act} {Q : Exit → Act → World → Prop} {t : TypeId} {b : Nat} {key v : Value} (hgd : o.guard = none) (m x : Operand) (ho : o.op = .lookup t m x false) (hm : a.eval m = .map (some b)) (hx : a.eval x = key)
    (hl : (Instr.lookup t (.map (some b)) key false).run Try.prog w = .ok v w) (h : wpList Try.prog ops Q rest (a.put o.dst v) w) : wpList Try.prog ops Q (o :: rest) a w :=
  wpList_plain hgd fun K hK => by
    unfold Oper.wp
    simp [execOp, ho, hm, hx, hl, Result.andThen]
    exact hK _ _ h
theorem list_mput {w w' : World} {ops : Array Oper} {rest : List Oper} {o : Oper} {a : Act} {Q : Exit → Act → World → Prop} {t : TypeId} {b : Nat} {key v : Value} (hgd : o.guard = none) (hd : o.dst = none) (m x y : Operand) (ho : o.op = .mapUpdate t m x y) (hm : a.eval m = .map (some b)) (hx : a.eval x = key) (hy : a.eval y = v)
    (hl : (Instr.mapUpdate t (.map (some b)) key v).run Try.prog w = .ok () w') (h : wpList Try.prog ops Q rest a w') : wpList Try.prog ops Q (o :: rest) a w :=
  wpList_plain hgd fun K hK => by
    unfold Oper.wp
    simp [execOp, ho, hm, hx, hy, hl, Result.andThen]
    exact hK _ _ (by rw [hd]; exact h)
/-! an asking in a variable -/
theorem size_ask : (Try.prog.info? 37).map (·.size) = some 4 := by kernel_rfl
theorem und_ask : ∃ d, Try.prog.underlying 37 = some d ∧ d.isRow = true := und_of (by kernel_rfl)
def AskAt (W : World) (g : Nat) (x : SesZ) (v : Value) : Prop := SBox W g 37 #[.int .i64 x.cl, .int .u64 x.seq, .int .i64 x.rep.err, v]
theorem AskAt.box {W : World} {g : Nat} {x : SesZ} {v : Value} (h : AskAt W g x v) : SBox W g 37 #[.int .i64 x.cl, .int .u64 x.seq, .int .i64 x.rep.err, v] := h
theorem ask_load {w : World} {bl of n c : Nat} {ms : List SesM} (h : SR w (some ⟨bl, of, none⟩) n c ms) {k : Nat} {x : SesZ} {v : Value} (hk : ms[k]? = some (x, v)) : LoadIs w 37 bl (of + k * 4) (sesV x v) := by
  obtain ⟨d, hd, hr⟩ := und_ask
  refine ⟨run_loadAt_mid w bl (of + k * 4) 37 (sesC (x, v)) d (fun j u hj => ?_) hd hr size_ask⟩
  have hlt : j < 4 := (List.getElem?_eq_some_iff.1 hj).1
  obtain ⟨b', o', e, _, hc⟩ := h.rd (k * 4 + j) u (by rw [sflat_at k _ hk j hlt]; exact hj)
  cases e
  rw [Nat.add_assoc]
  exact hc
theorem ask_var (w : World) (x : SesZ) (v : Value) (hv : v.oneCell' = true) : ∃ W, StoreIs (w.alloc (.cells #[.int .i64 0, .int .u64 0, .int .i64 0, .slice none 0 0] 37)) 37 w.heap.size 0 (sesV x v) W ∧ AskAt W w.heap.size x v ∧ Below w.heap.size w W ∧ W.heap.size = w.heap.size + 1 := by
  have hz : SBox (w.alloc (.cells #[.int .i64 0, .int .u64 0, .int .i64 0, .slice none 0 0] 37)) w.heap.size 37 #[.int .i64 0, .int .u64 0, .int .i64 0, .slice none 0 0] := SBox.new w _ _
  exact ⟨_, store_all (vs := sesC (x, v)) hz rfl (by rw [size_ask]; rfl) (ses_one hv), SBox.setRow hz _, below_setRow (new_below w _) (Nat.le_refl _) _, by simp [World.setRow]⟩
theorem OwnN.on {w w' : World} {base : Nat} {v : Value} {l : List Int} (h : OwnN w base v l) (hb : Below w.heap.size w w') : OwnN w' base v l := owns_on h hb
theorem OwnN.mono {w : World} {base base' : Nat} {v : Value} {l : List Int} (h : OwnN w base v l) (hb : base' ≤ base) : OwnN w base' v l := owns_mono h hb
/-- Rows of one's own stay where a block of another kind is written. -/
theorem owns_block {w w' : World} {base b : Nat} {t : TypeId} {s n : Nat} {v : Value} {xs : List Value} (h : w.ownsRow base t s v n xs) (hb : ∀ g cur, w.heap[g]? = some (.cells cur t (0, 0)) → g ≠ b) (hk : ∀ k, k ≠ b → w'.heap[k]? = w.heap[k]?) : w'.ownsRow base t s v n xs := by
  refine ⟨h.1, ?_⟩
  rcases h.2 with h2 | ⟨g, cap, cur, hv, hg, hh, r⟩
  · exact .inl h2
  · exact .inr ⟨g, cap, cur, hv, hg, (hk g (hb g cur hh)).trans hh, r⟩
theorem OwnN.setBox {w : World} {base b : Nat} {v u : Value} {l : List Int} {cs : Array Value} {t : TypeId} (h : OwnN w base v l) (hx : SBox w b t cs) (h2 : t ≠ 64) (i : Nat) : OwnN (w.setCell ⟨b, i, none⟩ u) base v l :=
  owns_block h (fun g cur hh e => by
    subst e
    unfold SBox at hx
    rw [hx] at hh
    injection hh with hh
    injection hh with _ hh
    exact h2 hh) (fun k hk => Below.heap_setCell w ⟨b, i, none⟩ u k hk)
theorem OwnN.set4Box {w : World} {base b : Nat} {v : Value} {l : List Int} {x0 x1 x2 x3 : Value} {t : TypeId} (h : OwnN w base v l) (hx : SBox w b t #[x0, x1, x2, x3]) (h2 : t ≠ 64) (y0 y1 y2 y3 : Value) : OwnN ((((w.setCell ⟨b, 0, none⟩ y0).setCell ⟨b, 1, none⟩ y1).setCell ⟨b, 2, none⟩ y2).setCell ⟨b, 3, none⟩ y3) base v l :=
  (((h.setBox hx h2 0).setBox (hx.set 0 _) h2 1).setBox ((hx.set 0 _).set 1 _) h2 2).setBox (((hx.set 0 _).set 1 _).set 2 _) h2 3
theorem SBox.far4 {w : World} {g p : Nat} {t : TypeId} {cs : Array Value} (h : SBox w g t cs) (hp : g ≠ p) (y0 y1 y2 y3 : Value) : SBox ((((w.setCell ⟨p, 0, none⟩ y0).setCell ⟨p, 1, none⟩ y1).setCell ⟨p, 2, none⟩ y2).setCell ⟨p, 3, none⟩ y3) g t cs := (((h.far hp _).far hp _).far hp _).far hp _
theorem OwnS.block {w w' : World} {base b : Nat} {v : Value} {ms : List SesM} (h : OwnS w base v ms) (hb : ∀ g cur (t : TypeId), t = 42 ∨ t = 64 → w.heap[g]? = some (.cells cur t (0, 0)) → g ≠ b) (hk : ∀ k, k ≠ b → w'.heap[k]? = w.heap[k]?) : OwnS w' base v ms :=
  ⟨owns_block h.row (fun g cur hh => hb g cur _ (.inl rfl) hh) hk, fun m hm => ⟨(h.ok m hm).1, owns_block (h.ok m hm).2 (fun g cur hh => hb g cur _ (.inr rfl) hh) hk⟩⟩
theorem OwnS.setBox {w : World} {base b : Nat} {v u : Value} {ms : List SesM} {cs : Array Value} {t : TypeId} (h : OwnS w base v ms) (hx : SBox w b t cs) (h1 : t ≠ 42) (h2 : t ≠ 64) (i : Nat) : OwnS (w.setCell ⟨b, i, none⟩ u) base v ms :=
  h.block (fun g cur t' ht hh e => by
    subst e
    unfold SBox at hx
    rw [hx] at hh
    injection hh with hh
    injection hh with _ hh
    rcases ht with rfl | rfl
    · exact h1 hh
    · exact h2 hh) (fun k hk => Below.heap_setCell w ⟨b, i, none⟩ u k hk)
theorem OwnS.map {w w' : World} {base b : Nat} {v : Value} {ms : List SesM} {P : Int → Int → Prop} (h : OwnS w base v ms) (hm : MapIs w b P) (hk : ∀ k, k ≠ b → w'.heap[k]? = w.heap[k]?) : OwnS w' base v ms :=
  h.block (fun g cur t ht hh e => by
    obtain ⟨es, cnt, hm, _⟩ := hm
    subst e
    rw [hm] at hh
    cases hh) hk
end Go.Proofs.Ytgnfoncokjglbaa
