/- From a walk to the row, where eight variables are listed. -/
import Derived.Test.YtbaobjbckabnhaaGreatDoorK6
namespace Go.Proofs.YtbaobjbckabnhaaGreatDoor
open Go.ChangeShapes Go.WideShapes Go.ChangeAt Go.WideMaps Go.WideElems Go.RowKit

def laidJ : List (String × DataW Unit) := [("curfew/days.lengths", Rows.laid_curfew_days_lengths), ("curfew/days.eras", Rows.laid_curfew_days_eras), ("math/bits.deBruijn64tab", Rows.laid_math_bits_deBruijn64tab), ("unicode/utf8.acceptRanges", Rows.laid_unicode_utf8_acceptRanges), ("curfew/field.ends", Rows.laid_curfew_field_ends), ("curfew/field.names", Rows.laid_curfew_field_names), ("curfew/cron.macros", Rows.laid_curfew_cron_macros), ("unicode/utf8.first", Rows.laid_unicode_utf8_first)]
/-- What the condition gives the walks. -/
theorem laidJ_of {W : World} (h : laidMetH Tryz.prog laidJ W) (hsh : W.ShapedOpen Tryz.prog) : LaidC W := by
  rw [MakeChecks.laidMetH_plain _ _ _ (by kernel_rfl)] at h
  obtain ⟨ps, ⟨ga, ta, csa, fa, pa, qa, hga, hta, hva, hda, ⟨gb, tb, csb, fb, pb, qb, hgb, htb, hvb, hdb, ⟨g2, t2, cs2, f2, p2, q2, hg2, ht2, hv2, hd2, ⟨g4, t4, cs4, f4, p4, q4, hg4, ht4, hv4, hd4, ⟨g5, t5, cs5, f5, p5, q5, hg5, ht5, hv5, hd5, ⟨g6, t6, cs6, f6, p6, q6, hg6, ht6, hv6, hd6, ⟨g7, t7, cs7, f7, p7, q7, hg7, ht7, hv7, hd7, _, _⟩, _⟩, _⟩, _⟩, _⟩, _⟩, _⟩, _, _⟩ := h
  obtain rfl := Option.some.inj (D.gLen.symm.trans hga)
  obtain rfl := Option.some.inj (D.tLen.symm.trans hta)
  obtain rfl := Option.some.inj (D.gEra.symm.trans hgb)
  obtain rfl := Option.some.inj (D.tEra.symm.trans htb)
  obtain rfl := Option.some.inj (gTab.symm.trans hg2)
  obtain rfl := Option.some.inj (tTab.symm.trans ht2)
  obtain rfl := Option.some.inj (gEnds.symm.trans hg5)
  obtain rfl := Option.some.inj (tEnds.symm.trans ht5)
  obtain rfl := Option.some.inj (gNames.symm.trans hg6)
  obtain rfl := Option.some.inj (tNames.symm.trans ht6)
  obtain rfl := Option.some.inj (gMac.symm.trans hg7)
  obtain rfl := Option.some.inj (tMac.symm.trans ht7)
  rw [D.len_data] at hda
  rw [D.era_data] at hdb
  rw [tab_data] at hd2
  rw [ends_data] at hd5
  rw [names_data] at hd6
  rw [mac_data] at hd7
  have hlt : ∀ g : Nat, g ∈ [3, 2, 0, 4, 6, 1] → g < W.heap.size := by
    intro g hg
    simp only [List.mem_cons, List.mem_nil_iff, or_false] at hg
    rcases hg with rfl | rfl | rfl | rfl | rfl | rfl
    · exact lt_of_var hga hva
    · exact lt_of_var hgb hvb
    · exact lt_of_var hg5 hv5
    · exact lt_of_var hg6 hv6
    · exact lt_of_var hg2 hv2
    · exact lt_of_var hg7 hv7
  have hmax : ∃ m : Int, W.cell? ⟨5, 0, none⟩ = some (.int .i64 m) :=
    cell_of_shapedOpen_int (P := Tryz.prog) (g := 5) (t := 3) (zero := #[.int .i64 0]) hsh (of_decide_eq_true (by kernel_rfl)) (by kernel_rfl) rfl (by kernel_rfl) (by kernel_rfl) Tryz.underlying3
  have hmlt : 5 < W.heap.size := by obtain ⟨m, hm⟩ := hmax; exact lt_of_cell hm
  refine ⟨⟨fun j hj => ?_, fun k hk => ?_, fun k hk => ?_, fun k hk => ?_, hmax, ?_⟩, ⟨fun j hj => ?_, fun j hj => ?_, ?_⟩, fun i v hi => ?_, hlt _ (by simp)⟩
  · rw [tab_len] at hj
    rw [World.var?_cell hg2 hv2 j, ← Array.getElem?_toList]
    exact tab_cells hd2 j hj
  · rw [World.var?_cell hg5 hv5 (k * 2), ← Array.getElem?_toList]
    exact (ends_cells hd5 k hk).1
  · rw [World.var?_cell hg5 hv5 (k * 2 + 1), ← Array.getElem?_toList]
    exact (ends_cells hd5 k hk).2
  · obtain ⟨A, n, c, hc, ha⟩ := names_cells hd6 k hk
    exact ⟨A, n, c, by rw [World.var?_cell hg6 hv6 k, ← Array.getElem?_toList]; exact hc, ha⟩
  · have h1 := hlt 0 (by simp); have h2 := hlt 4 (by simp); have h3 := hlt 6 (by simp)
    omega
  · rw [World.var?_cell hga hva j, ← Array.getElem?_toList]
    exact D.len_cells hda j hj
  · rw [World.var?_cell hgb hvb j, ← Array.getElem?_toList]
    have hc := D.era_cells hdb (j / 3) (by omega)
    rcases (show j % 3 = 0 ∨ j % 3 = 1 ∨ j % 3 = 2 by omega) with h | h | h
    · have := hc.1; rwa [show 3 * (j / 3) = j by omega] at this
    · have := hc.2.1; rwa [show 3 * (j / 3) + 1 = j by omega] at this
    · have := hc.2.2; rwa [show 3 * (j / 3) + 2 = j by omega] at this
  · have h1 := hlt 3 (by simp); have h2 := hlt 2 (by simp)
    omega
  · rw [Nat.zero_add, World.var?_cell hg7 hv7 i, ← Array.getElem?_toList]
    rw [macS_at] at hi
    have hi42 : i < 42 := by
      rcases Nat.lt_or_ge i 42 with h | h
      · exact h
      · rw [List.getElem?_eq_none (by rw [len42]; exact h)] at hi; cases hi
    obtain ⟨m1, m2⟩ := mac_cells hd7 (i / 6) (by omega)
    rw [List.getElem?_eq_getElem (by rw [len42]; exact hi42)] at hi
    have hv : v = strV (macS.getD i []) := by
      rw [List.getD_eq_getElem?_getD, List.getElem?_eq_getElem (by rw [len42]; exact hi42)]
      exact (Option.some.inj hi).symm
    rw [hv]
    by_cases hr : i % 6 = 0
    · rw [show i / 6 * 6 = i by omega] at m1
      unfold macN at m1
      rwa [show 6 * (i / 6) = i by omega] at m1
    · have := m2 (i % 6 - 1) (by omega)
      rw [show i / 6 * 6 + 1 + (i % 6 - 1) = i by omega] at this
      unfold macT at this
      rwa [show 6 * (i / 6) + 1 + (i % 6 - 1) = i by omega] at this
end Go.Proofs.YtbaobjbckabnhaaGreatDoor
