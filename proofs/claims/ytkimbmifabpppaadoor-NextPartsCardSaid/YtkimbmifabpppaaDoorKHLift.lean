/- From a walk to the row: what every law of this seat shares. -/
import Derived.Test.YtkimbmifabpppaaDoorK3
import Derived.Test.YtkimbmifabpppaaDoorK5
import Derived.Test.YtkimbmifabpppaaDoorRows
import Derived.Test.YtkimbmifabpppaaDoorTie
import Derived.Test.YtkimbmifabpppaaDoorCards
import Derived.ProofKit
import Derived.LaidMore
import Derived.OpenShut
import Derived.Stop.Joined
import Derived.SevenTiedAt
import Derived.Lay
import Derived.HandedShaped
import Derived.Shelf.Vars
namespace Go.Proofs.YtkimbmifabpppaaDoor
open Go.ChangeShapes Go.WideShapes Go.ChangeAt Go.WideMaps Go.WideElems Go.RowKit

theorem own : ownKnob Tryd.prog.godebug = none := by kernel_rfl
theorem laidOut : laidOutB Tryd.prog = true := by kernel_rfl
theorem gTab : Tryd.prog.globalNamed "math/bits.deBruijn64tab" = some 3 := by kernel_rfl
theorem tTab : (Tryd.prog.globals[3]?).map (·.type) = some 140 := by kernel_rfl
theorem cU8 : Tryd.prog.cellsOf 5 = 1 := by kernel_rfl
theorem gEnds : Tryd.prog.globalNamed "curfew/field.ends" = some 0 := by kernel_rfl
theorem tEnds : (Tryd.prog.globals[0]?).map (·.type) = some 123 := by kernel_rfl
theorem cRun : Tryd.prog.cellsOf 108 = 2 := by kernel_rfl
theorem cInt : Tryd.prog.cellsOf 3 = 1 := by kernel_rfl
theorem lt_of_var {W : World} {n : String} {g : Nat} {cs : Array Value} (hg : Tryd.prog.globalNamed n = some g) (hv : W.var? Tryd.prog n = some cs) : g < W.heap.size := by
  unfold World.var? at hv
  rw [hg] at hv
  simp only [Option.bind_some] at hv
  rcases Nat.lt_or_ge g W.heap.size with hl | hl
  · exact hl
  · rw [Array.getElem?_eq_none (by simpa using hl)] at hv; cases hv
theorem tab_data : (Rows.laid_math_bits_deBruijn64tab : DataW Unit) = .agg (Lib.deBruijn64tab.map fun n : Nat => .lit (.int .u8 (n : Int))) := by rfl
theorem tab_len : Lib.deBruijn64tab.length = 64 := by decide
theorem ends_data : (Rows.laid_curfew_field_ends : DataW Unit) = .agg ((List.range 5).map fun k => .agg [.lit (.int .i64 (loK k : Nat)), .lit (.int .i64 (hiK k : Nat))]) := by rfl
theorem at_drop {cs : List Value} {j k : Nat} {v : Value} (h : (cs.drop j).take (k + 1) = v :: [] ∨ ∃ r, (cs.drop j).take (k + 1) = v :: r) : cs[j]? = some v := by
  obtain ⟨r, hr⟩ : ∃ r, (cs.drop j).take (k + 1) = v :: r := h.elim (fun e => ⟨[], e⟩) id
  have := congrArg (fun l => l[0]?) hr
  simpa using this
theorem lt_of_cell {w : World} {b o : Nat} {v : Value} (h : w.cell? ⟨b, o, none⟩ = some v) : b < w.heap.size := by
  rcases Nat.lt_or_ge b w.heap.size with hl | hl
  · exact hl
  · unfold World.cell? at h; rw [Array.getElem?_eq_none (by simpa using hl)] at h; simp at h
theorem tab_cells {W : World} {fuel : Nat} {cs : List Value} {q : List MemPlace} (h : DataW.trod (fun _ => ()) Tryd.prog W 0 (fun _ => true) false fuel 140 cs = some (.agg (Lib.deBruijn64tab.map fun n : Nat => .lit (.int .u8 (n : Int))), q)) (j : Nat) (hj : j < 64) : cs[j]? = some (.int .u8 ((Lib.deBruijn64tab.getD j 0 : Nat) : Int)) := by
  obtain ⟨xs, m1, rfl, hx1, hlen, hn3, hel⟩ := DataW.trod_array Tryd.underlying140 h
  simp only [Prod.mk.injEq, DataW.agg.injEq] at hx1
  have hx := hx1.1
  have h0 := hel j hj
  rw [cU8, Nat.mul_one] at h0
  have hjx : j < xs.length := by omega
  rw [List.getElem?_eq_getElem hjx] at h0
  obtain ⟨k, e1, e2, _⟩ := DataW.trod_int Tryd.underlying5 h0
  have hq : (Lib.deBruijn64tab.map fun n : Nat => (DataW.lit (.int .u8 (n : Int)) : DataW Unit))[j]? = some (.lit (.int .u8 k)) := by
    rw [hx, List.getElem?_map, List.getElem?_eq_getElem hjx, e2]; rfl
  rw [List.getElem?_map, List.getElem?_eq_getElem (by rw [tab_len]; exact hj)] at hq
  simp only [Option.map_some, Option.some.injEq, DataW.lit.injEq, Lit.int.injEq, true_and] at hq
  rw [at_drop (k := 0) (Or.inl e1), ← hq, List.getD_eq_getElem?_getD, List.getElem?_eq_getElem (by rw [tab_len]; exact hj)]; rfl
theorem ends_cells {W : World} {fuel : Nat} {cs : List Value} {q : List MemPlace} (h : DataW.trod (fun _ => ()) Tryd.prog W 0 (fun _ => true) false fuel 123 cs = some (.agg ((List.range 5).map fun k => .agg [.lit (.int .i64 (loK k : Nat)), .lit (.int .i64 (hiK k : Nat))]), q)) (j : Nat) (hj : j < 5) :
    cs[j * 2]? = some (.int .i64 (loK j : Nat)) ∧ cs[j * 2 + 1]? = some (.int .i64 (hiK j : Nat)) := by
  obtain ⟨xs, m1, rfl, hx1, hlen, hn3, hel⟩ := DataW.trod_array Tryd.underlying123 h
  simp only [Prod.mk.injEq, DataW.agg.injEq] at hx1
  have hx := hx1.1
  have h0 := hel j hj
  rw [cRun] at h0
  have hjx : j < xs.length := by omega
  rw [List.getElem?_eq_getElem hjx] at h0
  obtain ⟨ys, m2, rfl, hy1, hylen, hy3, hyel⟩ := DataW.trod_struct Tryd.underlying108 h0
  have hq : ((List.range 5).map fun k => (DataW.agg [.lit (.int .i64 (loK k : Nat)), .lit (.int .i64 (hiK k : Nat))] : DataW Unit))[j]? = some (.agg (ys.map (·.1))) := by
    rw [hx, List.getElem?_map, List.getElem?_eq_getElem hjx, hy1]; rfl
  rw [List.getElem?_map, List.getElem?_range hj] at hq
  simp only [Option.map_some, Option.some.injEq, DataW.agg.injEq] at hq
  have hlen2 : ys.length = 2 := by have := congrArg List.length hq; simpa using this.symm
  have hf : ∀ i, i < 2 → ∀ f : Field, f.type = 3 → f.offset = i → DataW.trod (fun _ => ()) Tryd.prog W 0 (fun _ => true) false m2 f.type ((((cs.drop (j * 2)).take 2).drop f.offset).take (Tryd.prog.cellsOf f.type)) = ys[i]? → ∃ z, cs[j * 2 + i]? = some (.int .i64 z) ∧ (ys.map (·.1))[i]? = some (.lit (.int .i64 z)) := by
    intro i hi f ht ho h
    rw [ht, ho, cInt] at h
    have hiy : i < ys.length := by omega
    rw [List.getElem?_eq_getElem hiy] at h
    obtain ⟨z, e1, e2, _⟩ := DataW.trod_int Tryd.underlying3 h
    refine ⟨z, ?_, by rw [List.getElem?_map, List.getElem?_eq_getElem hiy, e2]; rfl⟩
    have h1 := at_drop (k := 0) (Or.inl e1)
    rw [List.getElem?_take, if_pos hi, List.getElem?_drop] at h1
    rw [← h1]
  obtain ⟨z0, p0, q0⟩ := hf 0 (by omega) _ rfl rfl (hyel 0 _ rfl)
  obtain ⟨z1, p1, q1⟩ := hf 1 (by omega) _ rfl rfl (hyel 1 _ rfl)
  rw [← hq] at q0 q1
  simp only [List.getElem?_cons_zero, List.getElem?_cons_succ, Option.some.injEq, DataW.lit.injEq, Lit.int.injEq, true_and] at q0 q1
  exact ⟨by rw [q0]; exact p0, by rw [q1]; exact p1⟩
theorem spot_none {w : World} {b off : Nat} {spot : Option Nat} {v : Value} (h : w.cell? (((⟨b, off, spot⟩ : Addr).add 0).add 0) = some v) : spot = none := by
  simpa [Addr.add] using World.cell?_spot h
theorem below_all {H : Type} {enc : TypeId × Value → H} {P : Program} (hl : laidOutB P = true) {W W' : World} (hb : Below W.heap.size W W') :
    ∀ (ts : List TypeId) (vs : List Value) (ds : List (DataW H)) (ps : List MemPlace), (∀ t ∈ ts, P.readableRec t = true ∧ t < P.types.size) → (∀ x ∈ ps, x.block < W.heap.size) →
      DataW.TrodAll enc P W 0 (fun _ => true) true ts vs ds ps → DataW.TrodAll enc P W' 0 (fun b => decide (b < W.heap.size)) true ts vs ds ps
  | [], [], [], _, _, _, h => h
  | [], _ :: _, _, _, _, _, h => by simp [DataW.TrodAll] at h
  | [], [], _ :: _, _, _, _, h => by simp [DataW.TrodAll] at h
  | t :: ts, vs, ds, ps, ht, hp, h => by
    obtain ⟨v, vs', d, ds', p, q, rfl, rfl, rfl, h1, h2⟩ := trodAll_cons h
    have k1 := hb.trod hl (ht t (by simp)).1 (ht t (by simp)).2 h1 (fun x hx => hp x (by simp [hx]))
    have k2 := below_all hl hb ts vs' ds' q (fun t h => ht t (by simp [h])) (fun x hx => hp x (by simp [hx])) h2
    exact trodAll_cons_mk k1 k2
theorem law_post {H : Type} {enc : TypeId × Value → H} {P : Program} {f : Func} {s : ChangeSpec} {apart : Bool} {W W' : World} {args : Array Value} {ds : List (DataW H)} {before : List MemPlace} {tb : TypeId}
    (hl : laidOutB P = true) (hs : s.fn H ds = { results := [.lit (.bool true)], args := ds }) (hv : s.vars = []) (hr : f.resultTypes = #[tb]) (hb1 : P.underlying tb = some .bool)
    (hall : (f.params.toList.all fun t => P.readableRec t && decide (t < P.types.size)) = true) (hW : DataW.Whole enc P f.params.toList s.vars apart W args.toList ds [] before) (hb : Below W.heap.size W W') :
    s.post enc P f apart true false false W args (.bool true) W' := by
  have ht : ∀ t ∈ f.params.toList, P.readableRec t = true ∧ t < P.types.size := fun t h => by simpa using List.all_eq_true.1 hall t h
  have hlt := hW.lt
  have hW0 := hW
  obtain ⟨p, q, hA, hV, rfl, _, _⟩ := hW0
  rw [hv] at hV
  obtain ⟨_, rfl⟩ := trodVars_none hV
  refine ⟨ds, [], p ++ [], [], p, [], hW, ?_, ?_, ?_, hb.frame _, fun h => by cases h⟩
  · rw [List.append_nil, hs, hr]
    exact trodAll_mk1 (shut_bool hb1 _)
  · rw [List.append_nil, hs]
    exact below_all hl hb _ _ _ _ ht (fun x hx => hlt x (by simp [hx])) hA
  · rw [List.append_nil, hs, hv]
    exact rfl

/-- The wrap that hands over what the row lists, and the world's shape. -/
theorem returns_and_shaped {H : Type} {enc : TypeId × Value → H} {a : Assume} {C : Checked} {os : Os} {f : FuncId} {fn : Func} {s : ChangeSpec} {conds : List PathCond} {apart fresh handsOn again : Bool} {X : World → Array Value → Prop}
    (hX : ∀ (w w' : World) (args : Array Value), w.heap = w'.heap → X w args → X w' args)
    (own : ownKnob C.prog.godebug = none) (started : os.Started) (noInit : C.prog.inits.idxOf? f = none) (hfn : C.prog.funcs[f]? = some fn)
    (witness : ∃ (w : World) (tape : Tape) (i : Input), w.os = os ∧ (w.forCall tape i).Shaped C.prog ∧ i.vars = [] ∧ Input.okWide C.prog (w.forCall tape i) .any w.heap.size f i ∧
      ((s.pre enc C.prog fn conds apart (w.forCall tape i).memory i.args ∧ X (w.forCall tape i).memory i.args) ∧ sizedMet enc C.prog fn (OpenSpec.ofChange s) apart (w.forCall tape i).memory i.args) ∧ a.holds C.prog (lone (Frame.enter C.prog f i.args .normal) [] (w.forCall tape i)))
    (contract : ∀ (W : World) (base : Nat) (args : Array Value) (ds gs : List (DataW H)) (before : List MemPlace),
      (∀ (j : Nat) t v, fn.params[j]? = some t → args[j]? = some v → Value.okWide C.prog W .any base t v) →
      DataW.Whole enc C.prog fn.params.toList s.vars apart W args.toList ds gs before →
      X W args → W.ShapedOpen C.prog →
      Calls C.prog f args W fun e W' => ∃ v, e = .returned v ∧ s.post enc C.prog fn apart fresh handsOn again W args v W') :
    ReturnsInHanded a C os f .any (fun w args => (s.pre enc C.prog fn conds apart w args ∧ X w args) ∧ sizedMet enc C.prog fn (OpenSpec.ofChange s) apart w args) (s.post enc C.prog fn apart fresh handsOn again) := by
  refine returnsInHanded_of_calls own started noInit witness ?_
  intro w tape i _ hsh _ hok hpre _
  obtain ⟨_, _, _, fn', hfn', _, _, _, _, hval⟩ := hok
  have e : fn' = fn := Option.some.inj (hfn'.symm.trans hfn)
  subst e
  obtain ⟨⟨⟨ds, gs, before, hw, _⟩, hx⟩, _⟩ := hpre
  have hw' := DataW.Whole.of_heap (w' := w.forCall tape i) (by rfl) hw
  refine (contract (w.forCall tape i) w.heap.size i.args ds gs before hval hw' (hX _ _ _ (by rfl) hx) hsh).mono fun e W' ⟨v, he, hp⟩ => ?_
  subst he
  exact ChangeSpec.post_blind hp
namespace D
theorem gLen : Tryd.prog.globalNamed "curfew/days.lengths" = some 2 := by kernel_rfl
theorem tLen : (Tryd.prog.globals[2]?).map (·.type) = some 113 := by kernel_rfl
theorem gEra : Tryd.prog.globalNamed "curfew/days.eras" = some 1 := by kernel_rfl
theorem tEra : (Tryd.prog.globals[1]?).map (·.type) = some 136 := by kernel_rfl
theorem cEra : Tryd.prog.cellsOf 117 = 3 := by kernel_rfl
def lenN : List Int := [31, 28, 31, 30, 31, 30, 31, 31, 30, 31, 30, 31]
def eraN : List (Int × Int × Int) := [(400, 146097, 20), (100, 36524, 3), (4, 1461, 24), (1, 365, 3)]
theorem len_data : (Rows.laid_curfew_days_lengths : DataW Unit) = .agg (lenN.map fun n => .lit (.int .i64 n)) := by rfl
theorem era_data : (Rows.laid_curfew_days_eras : DataW Unit) = .agg (eraN.map fun n => .agg [.lit (.int .i64 n.1), .lit (.int .i64 n.2.1), .lit (.int .i64 n.2.2)]) := by rfl
theorem len_cells {W : World} {fuel : Nat} {cs : List Value} {q : List MemPlace} (h : DataW.trod (fun _ => ()) Tryd.prog W 0 (fun _ => true) false fuel 113 cs = some (.agg (lenN.map fun n => .lit (.int .i64 n)), q)) (j : Nat) (hj : j < 12) : cs[j]? = some (.int .i64 (lenC j)) := by
  obtain ⟨xs, m1, rfl, hx1, hlen, hn3, hel⟩ := DataW.trod_array Tryd.underlying113 h
  simp only [Prod.mk.injEq, DataW.agg.injEq] at hx1
  have hx := hx1.1
  have h0 := hel j hj
  rw [cInt, Nat.mul_one] at h0
  have hjx : j < xs.length := by omega
  rw [List.getElem?_eq_getElem hjx] at h0
  obtain ⟨k, e1, e2, _⟩ := DataW.trod_int Tryd.underlying3 h0
  have hq : (lenN.map fun n => (DataW.lit (.int .i64 n) : DataW Unit))[j]? = some (.lit (.int .i64 k)) := by
    rw [hx, List.getElem?_map, List.getElem?_eq_getElem hjx, e2]; rfl
  rw [List.getElem?_map] at hq
  have hl : lenN[j]? = some (lenC j) := by
    unfold lenC lenN
    rw [List.getD_eq_getElem?_getD, List.getElem?_eq_getElem (by simpa using hj)]; rfl
  rw [hl] at hq
  simp only [Option.map_some, Option.some.injEq, DataW.lit.injEq, Lit.int.injEq, true_and] at hq
  rw [← hq] at e1
  exact at_drop (k := 0) (Or.inl e1)
set_option maxRecDepth 100000 in
theorem era_cells {W : World} {fuel : Nat} {cs : List Value} {q : List MemPlace} (h : DataW.trod (fun _ => ()) Tryd.prog W 0 (fun _ => true) false fuel 136 cs = some (.agg (eraN.map fun n => .agg [.lit (.int .i64 n.1), .lit (.int .i64 n.2.1), .lit (.int .i64 n.2.2)]), q)) (j : Nat) (hj : j < 4) : cs[3 * j]? = some (.int .i64 (eraC (3 * j))) ∧ cs[3 * j + 1]? = some (.int .i64 (eraC (3 * j + 1))) ∧ cs[3 * j + 2]? = some (.int .i64 (eraC (3 * j + 2))) := by
  obtain ⟨xs, m1, rfl, hx1, hlen, hn3, hel⟩ := DataW.trod_array Tryd.underlying136 h
  simp only [Prod.mk.injEq, DataW.agg.injEq] at hx1
  have hx := hx1.1
  have h0 := hel j hj
  rw [cEra] at h0
  have hjx : j < xs.length := by omega
  rw [List.getElem?_eq_getElem hjx] at h0
  obtain ⟨ys, m2, rfl, hy1, hylen, hy3, hyel⟩ := DataW.trod_struct Tryd.underlying117 h0
  have hq : (eraN.map fun n => (DataW.agg [.lit (.int .i64 n.1), .lit (.int .i64 n.2.1), .lit (.int .i64 n.2.2)] : DataW Unit))[j]? = some (.agg (ys.map (·.1))) := by
    rw [hx, List.getElem?_map, List.getElem?_eq_getElem hjx, hy1]; rfl
  have hl : (eraN.map fun n => (DataW.agg [.lit (.int .i64 n.1), .lit (.int .i64 n.2.1), .lit (.int .i64 n.2.2)] : DataW Unit))[j]? = some (.agg [.lit (.int .i64 (eraC (3 * j))), .lit (.int .i64 (eraC (3 * j + 1))), .lit (.int .i64 (eraC (3 * j + 2)))]) := by
    rcases four_k hj with rfl | rfl | rfl | rfl <;> rfl
  rw [hl] at hq
  simp only [Option.some.injEq, DataW.agg.injEq] at hq
  have hlen3 : ys.length = 3 := by have := congrArg List.length hq; simpa using this.symm
  have hf : ∀ i, i < 3 → ∀ f : Field, f.type = 3 → f.offset = i → DataW.trod (fun _ => ()) Tryd.prog W 0 (fun _ => true) false m2 f.type ((((cs.drop (j * 3)).take 3).drop f.offset).take (Tryd.prog.cellsOf f.type)) = ys[i]? → ∃ z, cs[3 * j + i]? = some (.int .i64 z) ∧ (ys.map (·.1))[i]? = some (.lit (.int .i64 z)) := by
    intro i hi f ht ho h
    rw [ht, ho, cInt] at h
    have hiy : i < ys.length := by omega
    rw [List.getElem?_eq_getElem hiy] at h
    obtain ⟨z, e1, e2, _⟩ := DataW.trod_int Tryd.underlying3 h
    refine ⟨z, ?_, by rw [List.getElem?_map, List.getElem?_eq_getElem hiy, e2]; rfl⟩
    have h1 := at_drop (k := 0) (Or.inl e1)
    rw [List.getElem?_take, if_pos hi, List.getElem?_drop] at h1
    rw [← h1]
    congr 1
    omega
  obtain ⟨z0, p0, q0⟩ := hf 0 (by omega) _ rfl rfl (hyel 0 _ rfl)
  obtain ⟨z1, p1, q1⟩ := hf 1 (by omega) _ rfl rfl (hyel 1 _ rfl)
  obtain ⟨z2, p2, q2⟩ := hf 2 (by omega) _ rfl rfl (hyel 2 _ rfl)
  rw [← hq] at q0 q1 q2
  simp only [List.getElem?_cons_zero, List.getElem?_cons_succ, Option.some.injEq, DataW.lit.injEq, Lit.int.injEq, true_and] at q0 q1 q2
  exact ⟨by rw [q0]; exact p0, by rw [q1]; exact p1, by rw [q2]; exact p2⟩
end D

def laidH8 : List (String × DataW Unit) := [("curfew/days.lengths", Rows.laid_curfew_days_lengths), ("curfew/days.eras", Rows.laid_curfew_days_eras), ("math/bits.deBruijn64tab", Rows.laid_math_bits_deBruijn64tab), ("curfew/field.ends", Rows.laid_curfew_field_ends)]
/-- What the condition gives the walks. -/
theorem laid8_of {W : World} (h : laidMetH Tryd.prog laidH8 W) : LaidC W := by
  rw [MakeChecks.laidMetH_plain _ _ _ (by kernel_rfl)] at h
  obtain ⟨ps, ⟨ga, ta, csa, fa, pa, qa, hga, hta, hva, hda, ⟨gb, tb, csb, fb, pb, qb, hgb, htb, hvb, hdb, ⟨g2, t2, cs2, f2, p2, q2, hg2, ht2, hv2, hd2, ⟨g5, t5, cs5, f5, p5, q5, hg5, ht5, hv5, hd5, _, _⟩, _⟩, _⟩, _⟩, _, _⟩ := h
  obtain rfl := Option.some.inj (D.gLen.symm.trans hga)
  obtain rfl := Option.some.inj (D.tLen.symm.trans hta)
  obtain rfl := Option.some.inj (D.gEra.symm.trans hgb)
  obtain rfl := Option.some.inj (D.tEra.symm.trans htb)
  obtain rfl := Option.some.inj (gTab.symm.trans hg2)
  obtain rfl := Option.some.inj (tTab.symm.trans ht2)
  obtain rfl := Option.some.inj (gEnds.symm.trans hg5)
  obtain rfl := Option.some.inj (tEnds.symm.trans ht5)
  rw [D.len_data] at hda
  rw [D.era_data] at hdb
  rw [tab_data] at hd2
  rw [ends_data] at hd5
  have hla := lt_of_var hga hva; have hlb := lt_of_var hgb hvb; have hl2 := lt_of_var hg2 hv2; have hl5 := lt_of_var hg5 hv5
  refine ⟨⟨fun j hj => ?_, fun k hk => ?_, fun k hk => ?_, by omega⟩, ⟨fun j hj => ?_, fun j hj => ?_, by omega⟩⟩
  · rw [tab_len] at hj
    rw [World.var?_cell hg2 hv2 j, ← Array.getElem?_toList]
    exact tab_cells hd2 j hj
  · rw [World.var?_cell hg5 hv5 (k * 2), ← Array.getElem?_toList]
    exact (ends_cells hd5 k hk).1
  · rw [World.var?_cell hg5 hv5 (k * 2 + 1), ← Array.getElem?_toList]
    exact (ends_cells hd5 k hk).2
  · rw [World.var?_cell hga hva j, ← Array.getElem?_toList]
    exact D.len_cells hda j hj
  · rw [World.var?_cell hgb hvb j, ← Array.getElem?_toList]
    have hc := D.era_cells hdb (j / 3) (by omega)
    rcases (show j % 3 = 0 ∨ j % 3 = 1 ∨ j % 3 = 2 by omega) with h | h | h
    · have := hc.1; rwa [show 3 * (j / 3) = j by omega] at this
    · have := hc.2.1; rwa [show 3 * (j / 3) + 1 = j by omega] at this
    · have := hc.2.2; rwa [show 3 * (j / 3) + 2 = j by omega] at this
end Go.Proofs.YtkimbmifabpppaaDoor
