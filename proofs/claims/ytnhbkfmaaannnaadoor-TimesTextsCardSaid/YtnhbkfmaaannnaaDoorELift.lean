/- From a walk to the row: what every law of this seat shares. -/
import Derived.Test.YtnhbkfmaaannnaaDoorRows
import Derived.Test.YtnhbkfmaaannnaaDoorTie
import Derived.Test.YtnhbkfmaaannnaaDoorCards
import Derived.Test.YtnhbkfmaaannnaaDoorEWakes
import Derived.ProofKit
import Derived.LaidMore
import Derived.OpenShut
import Derived.Stop.Joined
import Derived.SevenTiedAt
namespace Go.Proofs.YtnhbkfmaaannnaaDoor
open Go.ChangeShapes Go.WideShapes Go.ChangeAt Go.WideMaps Go.WideElems Go.RowKit

theorem own : ownKnob Tryd.prog.godebug = none := by kernel_rfl
theorem laidOut : laidOutB Tryd.prog = true := by kernel_rfl
theorem gLen : Tryd.prog.globalNamed "curfew/days.lengths" = some 1 := by kernel_rfl
theorem tLen : (Tryd.prog.globals[1]?).map (·.type) = some 91 := by kernel_rfl
theorem gEra : Tryd.prog.globalNamed "curfew/days.eras" = some 0 := by kernel_rfl
theorem tEra : (Tryd.prog.globals[0]?).map (·.type) = some 90 := by kernel_rfl
theorem cInt : Tryd.prog.cellsOf 3 = 1 := by kernel_rfl
theorem cEra : Tryd.prog.cellsOf 84 = 3 := by kernel_rfl
/-- What the row lists. -/
def laidL : List (String × DataW Unit) := [("curfew/days.lengths", Rows.laid_curfew_days_lengths), ("curfew/days.eras", Rows.laid_curfew_days_eras)]
theorem door_met (os : Os) (args : Array Value) : laidMetH Tryd.prog laidL ((World.doorLaid Tryd.prog 23 os).forCall (fun _ _ => 0) ⟨#[], args, []⟩).memory :=
  laidMetH_of_parts3 (fuel := 8) (laidMet_of_run' 8 (by kernel_rfl) (by kernel_rfl)) (by kernel_rfl) (by kernel_rfl)
def lenN : List Int := [31, 28, 31, 30, 31, 30, 31, 31, 30, 31, 30, 31]
def eraN : List (Int × Int × Int) := [(400, 146097, 20), (100, 36524, 3), (4, 1461, 24), (1, 365, 3)]
theorem len_data : (Rows.laid_curfew_days_lengths : DataW Unit) = .agg (lenN.map fun n => .lit (.int .i64 n)) := by rfl
theorem era_data : (Rows.laid_curfew_days_eras : DataW Unit) = .agg (eraN.map fun n => .agg [.lit (.int .i64 n.1), .lit (.int .i64 n.2.1), .lit (.int .i64 n.2.2)]) := by rfl
theorem at_drop {cs : List Value} {j k : Nat} {v : Value} (h : (cs.drop j).take (k + 1) = v :: [] ∨ ∃ r, (cs.drop j).take (k + 1) = v :: r) : cs[j]? = some v := by
  obtain ⟨r, hr⟩ : ∃ r, (cs.drop j).take (k + 1) = v :: r := h.elim (fun e => ⟨[], e⟩) id
  have := congrArg (fun l => l[0]?) hr
  simpa using this
theorem len_cells {W : World} {fuel : Nat} {cs : List Value} {q : List MemPlace} (h : DataW.trod (fun _ => ()) Tryd.prog W 0 (fun _ => true) false fuel 91 cs = some (.agg (lenN.map fun n => .lit (.int .i64 n)), q)) (j : Nat) (hj : j < 12) : cs[j]? = some (.int .i64 (lenC j)) := by
  obtain ⟨xs, m1, rfl, hx1, hlen, hn3, hel⟩ := DataW.trod_array Tryd.underlying91 h
  simp only [Prod.mk.injEq, DataW.agg.injEq] at hx1
  have hx := hx1.1
  have h0 := hel j hj
  rw [cInt, Nat.mul_one] at h0
  have hjx : j < xs.length := by omega
  rw [List.getElem?_eq_getElem hjx] at h0
  obtain ⟨k, e1, e2, _⟩ := DataW.trod_int Tryd.underlying3 h0
  have hq : (lenN.map fun n => (DataW.lit (.int .i64 n) : DataW Unit))[j]? = some (.lit (.int .i64 k)) := by
    rw [hx, List.getElem?_map, List.getElem?_eq_getElem hjx, e2]; rfl
  rw [List.getElem?_map] at hq
  have hl : lenN[j]? = some (lenC j) := by
    unfold lenC lenN
    rw [List.getD_eq_getElem?_getD, List.getElem?_eq_getElem (by simpa using hj)]; rfl
  rw [hl] at hq
  simp only [Option.map_some, Option.some.injEq, DataW.lit.injEq, Lit.int.injEq, true_and] at hq
  rw [← hq] at e1
  exact at_drop (k := 0) (Or.inl e1)
theorem era_cells {W : World} {fuel : Nat} {cs : List Value} {q : List MemPlace} (h : DataW.trod (fun _ => ()) Tryd.prog W 0 (fun _ => true) false fuel 90 cs = some (.agg (eraN.map fun n => .agg [.lit (.int .i64 n.1), .lit (.int .i64 n.2.1), .lit (.int .i64 n.2.2)]), q)) (j : Nat) (hj : j < 4) : cs[3 * j]? = some (.int .i64 (eraC (3 * j))) ∧ cs[3 * j + 1]? = some (.int .i64 (eraC (3 * j + 1))) ∧ cs[3 * j + 2]? = some (.int .i64 (eraC (3 * j + 2))) := by
  obtain ⟨xs, m1, rfl, hx1, hlen, hn3, hel⟩ := DataW.trod_array Tryd.underlying90 h
  simp only [Prod.mk.injEq, DataW.agg.injEq] at hx1
  have hx := hx1.1
  have h0 := hel j hj
  rw [cEra] at h0
  have hjx : j < xs.length := by omega
  rw [List.getElem?_eq_getElem hjx] at h0
  obtain ⟨ys, m2, rfl, hy1, hylen, hy3, hyel⟩ := DataW.trod_struct Tryd.underlying84 h0
  have hq : (eraN.map fun n => (DataW.agg [.lit (.int .i64 n.1), .lit (.int .i64 n.2.1), .lit (.int .i64 n.2.2)] : DataW Unit))[j]? = some (.agg (ys.map (·.1))) := by
    rw [hx, List.getElem?_map, List.getElem?_eq_getElem hjx, hy1]; rfl
  have hl : (eraN.map fun n => (DataW.agg [.lit (.int .i64 n.1), .lit (.int .i64 n.2.1), .lit (.int .i64 n.2.2)] : DataW Unit))[j]? = some (.agg [.lit (.int .i64 (eraC (3 * j))), .lit (.int .i64 (eraC (3 * j + 1))), .lit (.int .i64 (eraC (3 * j + 2)))]) := by
    rcases four_k hj with rfl | rfl | rfl | rfl <;> rfl
  rw [hl] at hq
  simp only [Option.some.injEq, DataW.agg.injEq] at hq
  have hlen3 : ys.length = 3 := by have := congrArg List.length hq; simpa using this.symm
  have hf : ∀ i, i < 3 → ∀ f : Field, f.type = 3 → f.offset = i → DataW.trod (fun _ => ()) Tryd.prog W 0 (fun _ => true) false m2 f.type ((((cs.drop (j * 3)).take 3).drop f.offset).take (Tryd.prog.cellsOf f.type)) = ys[i]? → ∃ z, cs[3 * j + i]? = some (.int .i64 z) ∧ (ys.map (·.1))[i]? = some (.lit (.int .i64 z)) := by
    intro i hi f ht ho h
    rw [ht, ho, cInt] at h
    have hiy : i < ys.length := by omega
    rw [List.getElem?_eq_getElem hiy] at h
    obtain ⟨z, e1, e2, _⟩ := DataW.trod_int Tryd.underlying3 h
    refine ⟨z, ?_, by rw [List.getElem?_map, List.getElem?_eq_getElem hiy, e2]; rfl⟩
    have h1 := at_drop (k := 0) (Or.inl e1)
    rw [List.getElem?_take, if_pos hi, List.getElem?_drop] at h1
    rw [← h1]
    congr 1
    omega
  obtain ⟨z0, p0, q0⟩ := hf 0 (by omega) _ rfl rfl (hyel 0 _ rfl)
  obtain ⟨z1, p1, q1⟩ := hf 1 (by omega) _ rfl rfl (hyel 1 _ rfl)
  obtain ⟨z2, p2, q2⟩ := hf 2 (by omega) _ rfl rfl (hyel 2 _ rfl)
  rw [← hq] at q0 q1 q2
  simp only [List.getElem?_cons_zero, List.getElem?_cons_succ, Option.some.injEq, DataW.lit.injEq, Lit.int.injEq, true_and] at q0 q1 q2
  exact ⟨by rw [q0]; exact p0, by rw [q1]; exact p1, by rw [q2]; exact p2⟩
/-- What the condition gives the walks: the lengths, and the eras, stand in their variables. -/
theorem laid_of {W : World} (h : laidMetH Tryd.prog laidL W) : Laid W := by
  rw [MakeChecks.laidMetH_plain _ _ _ (by kernel_rfl)] at h
  obtain ⟨ps, hp, _, _⟩ := h
  obtain ⟨g0, t0, cs0, f0, p0, q0, hg0, ht0, hv0, hd0, hrest, _⟩ := hp
  obtain rfl := Option.some.inj (gLen.symm.trans hg0)
  obtain rfl := Option.some.inj (tLen.symm.trans ht0)
  obtain ⟨g1, t1, cs1, f1, p1, q1, hg1, ht1, hv1, hd1, _, _⟩ := hrest
  obtain rfl := Option.some.inj (gEra.symm.trans hg1)
  obtain rfl := Option.some.inj (tEra.symm.trans ht1)
  rw [len_data] at hd0
  rw [era_data] at hd1
  have hl : ∀ j, j < 12 → W.cell? ⟨1, j, none⟩ = some (.int .i64 (lenC j)) := fun j hj => by
    rw [World.var?_cell hg0 hv0 j, ← Array.getElem?_toList]
    exact len_cells hd0 j hj
  have he : ∀ j, j < 12 → W.cell? ⟨0, j, none⟩ = some (.int .i64 (eraC j)) := fun j hj => by
    rw [World.var?_cell hg1 hv1 j, ← Array.getElem?_toList]
    obtain ⟨a, b, c⟩ := era_cells hd1 (j / 3) (by omega)
    have h3 : j = 3 * (j / 3) ∨ j = 3 * (j / 3) + 1 ∨ j = 3 * (j / 3) + 2 := by omega
    rcases h3 with e | e | e
    · rw [e]; exact a
    · rw [e]; exact b
    · rw [e]; exact c
  refine ⟨hl, he, ?_⟩
  have hin : ∀ g : Nat, (∃ v, W.cell? ⟨g, 0, none⟩ = some v) → g < W.heap.size := fun g ⟨v, h0⟩ => by
    rcases Nat.lt_or_ge g W.heap.size with hl | hl
    · exact hl
    · unfold World.cell? at h0; rw [Array.getElem?_eq_none (by simpa using hl)] at h0; simp at h0
  have i0 := hin 0 ⟨_, he 0 (by decide)⟩
  have i1 := hin 1 ⟨_, hl 0 (by decide)⟩
  omega

/-! behind the walk: nothing that lay has turned -/
theorem below_all {H : Type} {enc : TypeId × Value → H} {P : Program} (hl : laidOutB P = true) {W W' : World} (hb : Below W.heap.size W W') :
    ∀ (ts : List TypeId) (vs : List Value) (ds : List (DataW H)) (ps : List MemPlace), (∀ t ∈ ts, P.readableRec t = true ∧ t < P.types.size) → (∀ x ∈ ps, x.block < W.heap.size) →
      DataW.TrodAll enc P W 0 (fun _ => true) true ts vs ds ps → DataW.TrodAll enc P W' 0 (fun b => decide (b < W.heap.size)) true ts vs ds ps
  | [], [], [], _, _, _, h => h
  | [], _ :: _, _, _, _, _, h => by simp [DataW.TrodAll] at h
  | [], [], _ :: _, _, _, _, h => by simp [DataW.TrodAll] at h
  | t :: ts, vs, ds, ps, ht, hp, h => by
    obtain ⟨v, vs', d, ds', p, q, rfl, rfl, rfl, h1, h2⟩ := trodAll_cons h
    have k1 := hb.trod hl (ht t (by simp)).1 (ht t (by simp)).2 h1 (fun x hx => hp x (by simp [hx]))
    have k2 := below_all hl hb ts vs' ds' q (fun t h => ht t (by simp [h])) (fun x hx => hp x (by simp [hx])) h2
    exact trodAll_cons_mk k1 k2
theorem law_post {H : Type} {enc : TypeId × Value → H} {P : Program} {f : Func} {s : ChangeSpec} {apart : Bool} {W W' : World} {args : Array Value} {ds : List (DataW H)} {before : List MemPlace} {tb : TypeId}
    (hl : laidOutB P = true) (hs : s.fn H ds = { results := [.lit (.bool true)], args := ds }) (hv : s.vars = []) (hr : f.resultTypes = #[tb]) (hb1 : P.underlying tb = some .bool)
    (hall : (f.params.toList.all fun t => P.readableRec t && decide (t < P.types.size)) = true) (hW : DataW.Whole enc P f.params.toList s.vars apart W args.toList ds [] before) (hb : Below W.heap.size W W') :
    s.post enc P f apart true false false W args (.bool true) W' := by
  have ht : ∀ t ∈ f.params.toList, P.readableRec t = true ∧ t < P.types.size := fun t h => by simpa using List.all_eq_true.1 hall t h
  have hlt := hW.lt
  have hW0 := hW
  obtain ⟨p, q, hA, hV, rfl, _, _⟩ := hW0
  rw [hv] at hV
  obtain ⟨_, rfl⟩ := trodVars_none hV
  refine ⟨ds, [], p ++ [], [], p, [], hW, ?_, ?_, ?_, hb.frame _, fun h => by cases h⟩
  · rw [List.append_nil, hs, hr]
    exact trodAll_mk1 (shut_bool hb1 _)
  · rw [List.append_nil, hs]
    exact below_all hl hb _ _ _ _ ht (fun x hx => hlt x (by simp [hx])) hA
  · rw [List.append_nil, hs, hv]
    exact rfl
end Go.Proofs.YtnhbkfmaaannnaaDoor
