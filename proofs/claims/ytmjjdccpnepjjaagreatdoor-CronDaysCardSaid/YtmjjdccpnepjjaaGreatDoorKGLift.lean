/- From a walk to the row: what every law of this seat shares. -/
import Derived.Test.YtmjjdccpnepjjaaGreatDoorK3
import Derived.Test.YtmjjdccpnepjjaaGreatDoorK5
import Derived.Test.YtmjjdccpnepjjaaGreatDoorKGMacW
namespace Go.Proofs.YtmjjdccpnepjjaaGreatDoor
open Go.ChangeShapes Go.WideShapes Go.ChangeAt Go.WideMaps Go.WideElems Go.RowKit

namespace D
theorem gLen : Tryz.prog.globalNamed "curfew/days.lengths" = some 4 := by kernel_rfl
theorem tLen : (Tryz.prog.globals[4]?).map (·.type) = some 164 := by kernel_rfl
theorem gEra : Tryz.prog.globalNamed "curfew/days.eras" = some 3 := by kernel_rfl
theorem tEra : (Tryz.prog.globals[3]?).map (·.type) = some 163 := by kernel_rfl
theorem cEra : Tryz.prog.cellsOf 145 = 3 := by kernel_rfl
def lenN : List Int := [31, 28, 31, 30, 31, 30, 31, 31, 30, 31, 30, 31]
def eraN : List (Int × Int × Int) := [(400, 146097, 20), (100, 36524, 3), (4, 1461, 24), (1, 365, 3)]
theorem len_data : (Rows.laid_curfew_days_lengths : DataW Unit) = .agg (lenN.map fun n => .lit (.int .i64 n)) := by rfl
theorem era_data : (Rows.laid_curfew_days_eras : DataW Unit) = .agg (eraN.map fun n => .agg [.lit (.int .i64 n.1), .lit (.int .i64 n.2.1), .lit (.int .i64 n.2.2)]) := by rfl
theorem len_cells {W : World} {fuel : Nat} {cs : List Value} {q : List MemPlace} (h : DataW.trod (fun _ => ()) Tryz.prog W 0 (fun _ => true) false fuel 164 cs = some (.agg (lenN.map fun n => .lit (.int .i64 n)), q)) (j : Nat) (hj : j < 12) : cs[j]? = some (.int .i64 (lenC j)) := by
  obtain ⟨xs, m1, rfl, hx1, hlen, hn3, hel⟩ := DataW.trod_array Tryz.underlying164 h
  simp only [Prod.mk.injEq, DataW.agg.injEq] at hx1
  have hx := hx1.1
  have h0 := hel j hj
  rw [cInt, Nat.mul_one] at h0
  have hjx : j < xs.length := by omega
  rw [List.getElem?_eq_getElem hjx] at h0
  obtain ⟨k, e1, e2, _⟩ := DataW.trod_int Tryz.underlying3 h0
  have hq : (lenN.map fun n => (DataW.lit (.int .i64 n) : DataW Unit))[j]? = some (.lit (.int .i64 k)) := by
    rw [hx, List.getElem?_map, List.getElem?_eq_getElem hjx, e2]; rfl
  rw [List.getElem?_map] at hq
  have hl : lenN[j]? = some (lenC j) := by
    unfold lenC lenN
    rw [List.getD_eq_getElem?_getD, List.getElem?_eq_getElem (by simpa using hj)]; rfl
  rw [hl] at hq
  simp only [Option.map_some, Option.some.injEq, DataW.lit.injEq, Lit.int.injEq, true_and] at hq
  rw [← hq] at e1
  exact at_drop (k := 0) (Or.inl e1)
set_option maxRecDepth 100000 in
theorem era_cells {W : World} {fuel : Nat} {cs : List Value} {q : List MemPlace} (h : DataW.trod (fun _ => ()) Tryz.prog W 0 (fun _ => true) false fuel 163 cs = some (.agg (eraN.map fun n => .agg [.lit (.int .i64 n.1), .lit (.int .i64 n.2.1), .lit (.int .i64 n.2.2)]), q)) (j : Nat) (hj : j < 4) : cs[3 * j]? = some (.int .i64 (eraC (3 * j))) ∧ cs[3 * j + 1]? = some (.int .i64 (eraC (3 * j + 1))) ∧ cs[3 * j + 2]? = some (.int .i64 (eraC (3 * j + 2))) := by
  obtain ⟨xs, m1, rfl, hx1, hlen, hn3, hel⟩ := DataW.trod_array Tryz.underlying163 h
  simp only [Prod.mk.injEq, DataW.agg.injEq] at hx1
  have hx := hx1.1
  have h0 := hel j hj
  rw [cEra] at h0
  have hjx : j < xs.length := by omega
  rw [List.getElem?_eq_getElem hjx] at h0
  obtain ⟨ys, m2, rfl, hy1, hylen, hy3, hyel⟩ := DataW.trod_struct Tryz.underlying145 h0
  have hq : (eraN.map fun n => (DataW.agg [.lit (.int .i64 n.1), .lit (.int .i64 n.2.1), .lit (.int .i64 n.2.2)] : DataW Unit))[j]? = some (.agg (ys.map (·.1))) := by
    rw [hx, List.getElem?_map, List.getElem?_eq_getElem hjx, hy1]; rfl
  have hl : (eraN.map fun n => (DataW.agg [.lit (.int .i64 n.1), .lit (.int .i64 n.2.1), .lit (.int .i64 n.2.2)] : DataW Unit))[j]? = some (.agg [.lit (.int .i64 (eraC (3 * j))), .lit (.int .i64 (eraC (3 * j + 1))), .lit (.int .i64 (eraC (3 * j + 2)))]) := by
    rcases four_k hj with rfl | rfl | rfl | rfl <;> rfl
  rw [hl] at hq
  simp only [Option.some.injEq, DataW.agg.injEq] at hq
  have hlen3 : ys.length = 3 := by have := congrArg List.length hq; simpa using this.symm
  have hf : ∀ i, i < 3 → ∀ f : Field, f.type = 3 → f.offset = i → DataW.trod (fun _ => ()) Tryz.prog W 0 (fun _ => true) false m2 f.type ((((cs.drop (j * 3)).take 3).drop f.offset).take (Tryz.prog.cellsOf f.type)) = ys[i]? → ∃ z, cs[3 * j + i]? = some (.int .i64 z) ∧ (ys.map (·.1))[i]? = some (.lit (.int .i64 z)) := by
    intro i hi f ht ho h
    rw [ht, ho, cInt] at h
    have hiy : i < ys.length := by omega
    rw [List.getElem?_eq_getElem hiy] at h
    obtain ⟨z, e1, e2, _⟩ := DataW.trod_int Tryz.underlying3 h
    refine ⟨z, ?_, by rw [List.getElem?_map, List.getElem?_eq_getElem hiy, e2]; rfl⟩
    have h1 := at_drop (k := 0) (Or.inl e1)
    rw [List.getElem?_take, if_pos hi, List.getElem?_drop] at h1
    rw [← h1]
    congr 1
    omega
  obtain ⟨z0, p0, q0⟩ := hf 0 (by omega) _ rfl rfl (hyel 0 _ rfl)
  obtain ⟨z1, p1, q1⟩ := hf 1 (by omega) _ rfl rfl (hyel 1 _ rfl)
  obtain ⟨z2, p2, q2⟩ := hf 2 (by omega) _ rfl rfl (hyel 2 _ rfl)
  rw [← hq] at q0 q1 q2
  simp only [List.getElem?_cons_zero, List.getElem?_cons_succ, Option.some.injEq, DataW.lit.injEq, Lit.int.injEq, true_and] at q0 q1 q2
  exact ⟨by rw [q0]; exact p0, by rw [q1]; exact p1, by rw [q2]; exact p2⟩
end D
/-! the macros -/
theorem gMac : Tryz.prog.globalNamed "curfew/cron.macros" = some 0 := by kernel_rfl
theorem tMac : (Tryz.prog.globals[0]?).map (·.type) = some 81 := by kernel_rfl
theorem cMac : Tryz.prog.cellsOf 80 = 6 := by kernel_rfl
theorem cFive : Tryz.prog.cellsOf 78 = 5 := by kernel_rfl
theorem mac_data : (Rows.laid_curfew_cron_macros : DataW Unit) = .agg ((List.range 7).map fun j => .agg [.lit (.string (macN j)), .agg ((List.range 5).map fun q => .lit (.string (macT j q)))]) := by rfl
set_option maxRecDepth 100000 in
theorem mac_cells {W : World} {fuel : Nat} {cs : List Value} {q : List MemPlace} (h : DataW.trod (fun _ => ()) Tryz.prog W 0 (fun _ => true) false fuel 81 cs = some (.agg ((List.range 7).map fun j => .agg [.lit (.string (macN j)), .agg ((List.range 5).map fun q => .lit (.string (macT j q)))]), q)) (j : Nat) (hj : j < 7) :
    cs[j * 6]? = some (strV (macN j)) ∧ ∀ r, r < 5 → cs[j * 6 + 1 + r]? = some (strV (macT j r)) := by
  obtain ⟨xs, m1, rfl, hx1, hlen, hn3, hel⟩ := DataW.trod_array Tryz.underlying81 h
  simp only [Prod.mk.injEq, DataW.agg.injEq] at hx1
  have hx := hx1.1
  have h0 := hel j hj
  rw [cMac] at h0
  have hjx : j < xs.length := by omega
  rw [List.getElem?_eq_getElem hjx] at h0
  obtain ⟨ys, m2, rfl, hy1, hylen, hy3, hyel⟩ := DataW.trod_struct Tryz.underlying80 h0
  have hq : ((List.range 7).map fun j => (DataW.agg [.lit (.string (macN j)), .agg ((List.range 5).map fun q => .lit (.string (macT j q)))] : DataW Unit))[j]? = some (.agg (ys.map (·.1))) := by
    rw [hx, List.getElem?_map, List.getElem?_eq_getElem hjx, hy1]; rfl
  rw [List.getElem?_map, List.getElem?_range hj] at hq
  simp only [Option.map_some, Option.some.injEq, DataW.agg.injEq] at hq
  have hlen2 : ys.length = 2 := by have := congrArg List.length hq; simpa using this.symm
  have e0 : DataW.trod (fun _ => ()) Tryz.prog W 0 (fun _ => true) false m2 9 ((((cs.drop (j * 6)).take 6).drop 0).take (Tryz.prog.cellsOf 9)) = ys[0]? := hyel 0 _ rfl
  have e1 : DataW.trod (fun _ => ()) Tryz.prog W 0 (fun _ => true) false m2 78 ((((cs.drop (j * 6)).take 6).drop 1).take (Tryz.prog.cellsOf 78)) = ys[1]? := hyel 1 _ rfl
  rw [List.getElem?_eq_getElem (by omega)] at e0 e1
  have q0 : ys[0].1 = .lit (.string (macN j)) := by
    have := congrArg (fun l => l[0]?) hq
    simp only [List.getElem?_cons_zero, List.getElem?_map] at this
    rw [List.getElem?_eq_getElem (by omega)] at this
    exact (Option.some.inj this).symm
  have q1 : ys[1].1 = .agg ((List.range 5).map fun q => .lit (.string (macT j q))) := by
    have := congrArg (fun l => l[1]?) hq
    simp only [List.getElem?_cons_succ, List.getElem?_cons_zero, List.getElem?_map] at this
    rw [List.getElem?_eq_getElem (by omega)] at this
    exact (Option.some.inj this).symm
  refine ⟨?_, ?_⟩
  · rw [cStr] at e0
    obtain ⟨s, e3, e4, _⟩ := DataW.trod_string Tryz.underlying9 e0
    have hs : s.data.toList = macN j := by
      have e5 := q0.symm.trans (congrArg Prod.fst e4)
      simpa using e5.symm
    have h1 := at_drop (k := 0) (Or.inl e3)
    rw [List.getElem?_take, if_pos (by omega), List.getElem?_drop] at h1
    rw [← hs, ← strV_data]
    simpa using h1
  · intro r hr
    rw [cFive] at e1
    obtain ⟨zs, m3, rfl, hz1, hzlen, hz3, hzel⟩ := DataW.trod_array Tryz.underlying78 e1
    have hz : ((List.range 5).map fun q => (DataW.lit (.string (macT j q)) : DataW Unit)) = zs.map (·.1) := by
      have := q1.symm.trans (congrArg Prod.fst hz1)
      simpa using this
    have e2 := hzel r hr
    rw [cStr, Nat.mul_one] at e2
    have hrz : r < zs.length := by omega
    rw [List.getElem?_eq_getElem hrz] at e2
    obtain ⟨s, e3, e4, _⟩ := DataW.trod_string Tryz.underlying9 e2
    have hs : s.data.toList = macT j r := by
      have := congrArg (fun l => l[r]?) hz
      simp only [List.getElem?_map, List.getElem?_range hr, Option.map_some] at this
      rw [List.getElem?_eq_getElem hrz] at this
      simp only [Option.map_some, Option.some.injEq] at this
      have e5 := this.trans (congrArg Prod.fst e4)
      simpa using e5.symm
    have h1 := at_drop (k := 0) (Or.inl e3)
    rw [List.getElem?_take, if_pos (by omega), List.getElem?_drop, List.getElem?_take, if_pos (by omega), List.getElem?_drop] at h1
    have he : j * 6 + 1 + r = j * 6 + (1 + r) := by omega
    rw [← hs, ← strV_data, he]
    exact h1
def laidG : List (String × DataW Unit) := [("curfew/days.lengths", Rows.laid_curfew_days_lengths), ("curfew/days.eras", Rows.laid_curfew_days_eras), ("math/bits.deBruijn32tab", Rows.laid_math_bits_deBruijn32tab), ("math/bits.deBruijn64tab", Rows.laid_math_bits_deBruijn64tab), ("internal/strconv.uint64pow10", Rows.laid_internal_strconv_uint64pow10), ("unicode/utf8.acceptRanges", Rows.laid_unicode_utf8_acceptRanges), ("curfew/field.ends", Rows.laid_curfew_field_ends), ("curfew/field.names", Rows.laid_curfew_field_names), ("curfew/cron.macros", Rows.laid_curfew_cron_macros), ("unicode/utf8.first", Rows.laid_unicode_utf8_first)]
theorem macS_at (i : Nat) : macV[i]? = (macS[i]?).map strV := by unfold macV; rw [List.getElem?_map]
theorem len42 : macS.length = 42 := rfl
/-- What the condition gives the walks. -/
theorem laidC_of {W : World} (h : laidMetH Tryz.prog laidG W) (hsh : W.ShapedOpen Tryz.prog) : LaidC W := by
  rw [MakeChecks.laidMetH_plain _ _ _ (by kernel_rfl)] at h
  obtain ⟨ps, ⟨ga, ta, csa, fa, pa, qa, hga, hta, hva, hda, ⟨gb, tb, csb, fb, pb, qb, hgb, htb, hvb, hdb, ⟨g1, t1, cs1, f1, p1, q1, hg1, ht1, hv1, hd1, ⟨g2, t2, cs2, f2, p2, q2, hg2, ht2, hv2, hd2, ⟨g3, t3, cs3, f3, p3, q3, hg3, ht3, hv3, hd3, ⟨g4, t4, cs4, f4, p4, q4, hg4, ht4, hv4, hd4, ⟨g5, t5, cs5, f5, p5, q5, hg5, ht5, hv5, hd5, ⟨g6, t6, cs6, f6, p6, q6, hg6, ht6, hv6, hd6, ⟨g7, t7, cs7, f7, p7, q7, hg7, ht7, hv7, hd7, _, _⟩, _⟩, _⟩, _⟩, _⟩, _⟩, _⟩, _⟩, _⟩, _, _⟩ := h
  obtain rfl := Option.some.inj (D.gLen.symm.trans hga)
  obtain rfl := Option.some.inj (D.tLen.symm.trans hta)
  obtain rfl := Option.some.inj (D.gEra.symm.trans hgb)
  obtain rfl := Option.some.inj (D.tEra.symm.trans htb)
  obtain rfl := Option.some.inj (gTab.symm.trans hg2)
  obtain rfl := Option.some.inj (tTab.symm.trans ht2)
  obtain rfl := Option.some.inj (gEnds.symm.trans hg5)
  obtain rfl := Option.some.inj (tEnds.symm.trans ht5)
  obtain rfl := Option.some.inj (gNames.symm.trans hg6)
  obtain rfl := Option.some.inj (tNames.symm.trans ht6)
  obtain rfl := Option.some.inj (gMac.symm.trans hg7)
  obtain rfl := Option.some.inj (tMac.symm.trans ht7)
  rw [D.len_data] at hda
  rw [D.era_data] at hdb
  rw [tab_data] at hd2
  rw [ends_data] at hd5
  rw [names_data] at hd6
  rw [mac_data] at hd7
  have hlt : ∀ g : Nat, g ∈ [4, 3, 1, 5, 9, 0] → g < W.heap.size := by
    intro g hg
    simp only [List.mem_cons, List.mem_nil_iff, or_false] at hg
    rcases hg with rfl | rfl | rfl | rfl | rfl | rfl
    · exact lt_of_var hga hva
    · exact lt_of_var hgb hvb
    · exact lt_of_var hg5 hv5
    · exact lt_of_var hg6 hv6
    · exact lt_of_var hg2 hv2
    · exact lt_of_var hg7 hv7
  have hmax : ∃ m : Int, W.cell? ⟨2, 0, none⟩ = some (.int .i64 m) :=
    cell_of_shapedOpen_int (P := Tryz.prog) (g := 2) (t := 3) (zero := #[.int .i64 0]) hsh (of_decide_eq_true (by kernel_rfl)) (by kernel_rfl) rfl (by kernel_rfl) (by kernel_rfl) Tryz.underlying3
  have hmlt : 2 < W.heap.size := by obtain ⟨m, hm⟩ := hmax; exact lt_of_cell hm
  refine ⟨⟨fun j hj => ?_, fun k hk => ?_, fun k hk => ?_, fun k hk => ?_, hmax, ?_⟩, ⟨fun j hj => ?_, fun j hj => ?_, ?_⟩, fun i v hi => ?_, hlt _ (by simp)⟩
  · rw [tab_len] at hj
    rw [World.var?_cell hg2 hv2 j, ← Array.getElem?_toList]
    exact tab_cells hd2 j hj
  · rw [World.var?_cell hg5 hv5 (k * 2), ← Array.getElem?_toList]
    exact (ends_cells hd5 k hk).1
  · rw [World.var?_cell hg5 hv5 (k * 2 + 1), ← Array.getElem?_toList]
    exact (ends_cells hd5 k hk).2
  · obtain ⟨A, n, c, hc, ha⟩ := names_cells hd6 k hk
    exact ⟨A, n, c, by rw [World.var?_cell hg6 hv6 k, ← Array.getElem?_toList]; exact hc, ha⟩
  · have h1 := hlt 1 (by simp); have h2 := hlt 5 (by simp); have h3 := hlt 9 (by simp)
    omega
  · rw [World.var?_cell hga hva j, ← Array.getElem?_toList]
    exact D.len_cells hda j hj
  · rw [World.var?_cell hgb hvb j, ← Array.getElem?_toList]
    have hc := D.era_cells hdb (j / 3) (by omega)
    rcases (show j % 3 = 0 ∨ j % 3 = 1 ∨ j % 3 = 2 by omega) with h | h | h
    · have := hc.1; rwa [show 3 * (j / 3) = j by omega] at this
    · have := hc.2.1; rwa [show 3 * (j / 3) + 1 = j by omega] at this
    · have := hc.2.2; rwa [show 3 * (j / 3) + 2 = j by omega] at this
  · have h1 := hlt 4 (by simp); have h2 := hlt 3 (by simp)
    omega
  · rw [Nat.zero_add, World.var?_cell hg7 hv7 i, ← Array.getElem?_toList]
    rw [macS_at] at hi
    have hi42 : i < 42 := by
      rcases Nat.lt_or_ge i 42 with h | h
      · exact h
      · rw [List.getElem?_eq_none (by rw [len42]; exact h)] at hi; cases hi
    obtain ⟨m1, m2⟩ := mac_cells hd7 (i / 6) (by omega)
    rw [List.getElem?_eq_getElem (by rw [len42]; exact hi42)] at hi
    have hv : v = strV (macS.getD i []) := by
      rw [List.getD_eq_getElem?_getD, List.getElem?_eq_getElem (by rw [len42]; exact hi42)]
      exact (Option.some.inj hi).symm
    rw [hv]
    by_cases hr : i % 6 = 0
    · rw [show i / 6 * 6 = i by omega] at m1
      unfold macN at m1
      rwa [show 6 * (i / 6) = i by omega] at m1
    · have := m2 (i % 6 - 1) (by omega)
      rw [show i / 6 * 6 + 1 + (i % 6 - 1) = i by omega] at this
      unfold macT at this
      rwa [show 6 * (i / 6) + 1 + (i % 6 - 1) = i by omega] at this
end Go.Proofs.YtmjjdccpnepjjaaGreatDoor
