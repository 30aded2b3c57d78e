/- The times of a row: walked. -/
import Derived.Test.YthghcffibljclaaDoorRVTimes
namespace Go.Proofs.YthghcffibljclaaDoor
open Go.RowKit

set_option maxRecDepth 100000 in
set_option maxHeartbeats 1000000 in
theorem times_any (r : RowZ) (v : Value) (now : Int) (w : World) (hf : r.Fit) (hq : QR w v r.q) (hl : r.q.length ≤ 100) :
    Calls Tryd.prog 35 #[rowNV r v now] w fun e w' => (∃ y, e = .returned y ∧ OwnT w' w.heap.size y r.line') ∧ Below w.heap.size w w' := by
  have HR := Lib.hid (fun W => rowruns_any r v now W hf)
  have hline : r.line' = (if decide r.runs = true then [r.due] else []) ++ r.q ++ (if r.nx = -1 then [] else [r.nx]) := by unfold RowZ.line'; simp
  generalize decide r.runs = B at *
  generalize r.line' = L' at *
  have HLQ := Lib.hid hl
  obtain ⟨n, o, a, b, c, d, e, t, ov, ca, re, pa, nx, num, due, tr, qv, q, rfl, rfl⟩ := row_letters hf v
  rw [rowNV_all] at HR
  rw [rowNV_all]
  simp only at hline hq HLQ
  have HLI := Lib.hid hline
  obtain ⟨W0, hW0, hb0, hx0, hs0⟩ := rown_new w n o a b c d e t ov ca re pa nx num due tr qv now
  have HB0 := Lib.hid hb0; have HX0 := Lib.hid hx0; have HQ0 := Lib.hid (hq.on hb0); have HS0 := Lib.hid hs0
  have HC : Hid (∀ W, Below W0.heap.size W0 W → W.cell? ⟨w.heap.size, 12, none⟩ = some (.int .i64 nx) ∧ W.cell? ⟨w.heap.size, 14, none⟩ = some (.int .i64 due) ∧ W.cell? ⟨w.heap.size, 16, none⟩ = some qv) := Lib.hid (fun W hb => ⟨D.Box.cell (D.Box.belowAll HX0.out hb) 12, D.Box.cell (D.Box.belowAll HX0.out hb) 14, D.Box.cell (D.Box.belowAll HX0.out hb) 16⟩)
  clear hline hb0 hx0 hf hq hl
  go_enter Tryd.func35, Tryd.ntmps35
  go_wp2_with fail
  rw [← hW0]
  clear hW0 hs0 HX0
  refine (HR.out _).mono ?_
  rintro x w2 ⟨rfl, hb⟩
  have HB2 := Lib.hid hb; have HQ2 := Lib.hid (HQ0.out.on hb)
  obtain ⟨c12, c14, c16⟩ := HC.out w2 hb
  clear hb HR
  have hli := HLI.out
  clear HLI
  cases B with
  | false =>
    rw [if_neg (by simp)] at hli
    by_cases hnx : nx = -1
    · rw [if_pos hnx] at hli
      subst hnx
      have HLJ := Lib.hid hli
      clear hli
      go_wp2_with (at_builtin; refine list_times (l := []) rfl _ _ rfl rfl rfl (OwnT.nil w2 W0.heap.size) HQ2.out HB2.out.size (by simp; have := HLQ.out; omega) W0 HB2.out ?_; intro v3 w3 ho3 hb3; have HB3 := Lib.hid hb3; have HO3 := Lib.hid ho3; clear c12 c14 c16 hb3 ho3; obtain ⟨c12, c14, c16⟩ := HC.out w3 HB3.out)
      go_ret
      refine ⟨⟨_, rfl, ?_⟩, HB0.out.trans (HB3.out.mono (by have := HS0.out; omega))⟩
      rw [HLJ.out]
      simpa using HO3.out.low (show w.heap.size ≤ W0.heap.size by have := HS0.out; omega)
    · rw [if_neg hnx] at hli
      have hd : (nx != -1) = true := by simpa using hnx
      have HLJ := Lib.hid hli
      clear hli hnx
      go_wp2_with (at_builtin; first | (refine list_times (l := []) rfl _ _ rfl rfl rfl (OwnT.nil w2 W0.heap.size) HQ2.out HB2.out.size (by simp; have := HLQ.out; omega) W0 HB2.out ?_; intro v3 w3 ho3 hb3; have HB3 := Lib.hid hb3; have HO3 := Lib.hid ho3; clear c12 c14 c16 hb3 ho3; obtain ⟨c12, c14, c16⟩ := HC.out w3 HB3.out) | (refine list_times (q := [nx]) rfl _ _ rfl rfl rfl (OwnT.below HO3.out (new_below w3 _)) (qr_one w3 nx) (HB3.out.alloc HB3.out.size (.cells #[.int .i64 nx] 2)).size (by simp; have := HLQ.out; omega) W0 (HB3.out.alloc HB3.out.size _) ?_; intro v4 w4 ho4 hb4; have HB4 := Lib.hid hb4; have HO4 := Lib.hid ho4; clear c12 c14 c16 hb4 ho4))
      go_ret
      refine ⟨⟨_, rfl, ?_⟩, HB0.out.trans (HB4.out.mono (by have := HS0.out; omega))⟩
      rw [HLJ.out]
      simpa using HO4.out.low (show w.heap.size ≤ W0.heap.size by have := HS0.out; omega)
  | true =>
    rw [if_pos rfl] at hli
    have hba := HB2.out.alloc HB2.out.size (.cells #[.int .i64 due] 2)
    have HBA := Lib.hid hba
    clear hba
    by_cases hnx : nx = -1
    · rw [if_pos hnx] at hli
      subst hnx
      have HLJ := Lib.hid hli
      clear hli
      go_wp2_with (at_builtin; first | (refine list_times (l := []) (q := [due]) rfl _ _ rfl rfl rfl (OwnT.nil _ W0.heap.size) (qr_one w2 due) HBA.out.size (by simp) W0 HBA.out ?_; intro v9 w9 ho9 hb9; have HB9 := Lib.hid hb9; have HO9 := Lib.hid ho9; clear c12 c14 c16 hb9 ho9; obtain ⟨c12, c14, c16⟩ := HC.out w9 HB9.out) | (refine list_times rfl _ _ rfl rfl rfl HO9.out (HQ0.out.on HB9.out) HB9.out.size (by simp; have := HLQ.out; omega) W0 HB9.out ?_; intro v3 w3 ho3 hb3; have HB3 := Lib.hid hb3; have HO3 := Lib.hid ho3; clear c12 c14 c16 hb3 ho3; obtain ⟨c12, c14, c16⟩ := HC.out w3 HB3.out))
      go_ret
      refine ⟨⟨_, rfl, ?_⟩, HB0.out.trans (HB3.out.mono (by have := HS0.out; omega))⟩
      rw [HLJ.out]
      simpa using HO3.out.low (show w.heap.size ≤ W0.heap.size by have := HS0.out; omega)
    · rw [if_neg hnx] at hli
      have hd : (nx != -1) = true := by simpa using hnx
      have HLJ := Lib.hid hli
      clear hli hnx
      go_wp2_with (at_builtin; first | (refine list_times (l := []) (q := [due]) rfl _ _ rfl rfl rfl (OwnT.nil _ W0.heap.size) (qr_one w2 due) HBA.out.size (by simp) W0 HBA.out ?_; intro v9 w9 ho9 hb9; have HB9 := Lib.hid hb9; have HO9 := Lib.hid ho9; clear c12 c14 c16 hb9 ho9; obtain ⟨c12, c14, c16⟩ := HC.out w9 HB9.out) | (refine list_times rfl _ _ rfl rfl rfl HO9.out (HQ0.out.on HB9.out) HB9.out.size (by simp; have := HLQ.out; omega) W0 HB9.out ?_; intro v3 w3 ho3 hb3; have HB3 := Lib.hid hb3; have HO3 := Lib.hid ho3; clear c12 c14 c16 hb3 ho3; obtain ⟨c12, c14, c16⟩ := HC.out w3 HB3.out) | (refine list_times (q := [nx]) rfl _ _ rfl rfl rfl (OwnT.below HO3.out (new_below w3 _)) (qr_one w3 nx) (HB3.out.alloc HB3.out.size (.cells #[.int .i64 nx] 2)).size (by simp; have := HLQ.out; omega) W0 (HB3.out.alloc HB3.out.size _) ?_; intro v4 w4 ho4 hb4; have HB4 := Lib.hid hb4; have HO4 := Lib.hid ho4; clear c12 c14 c16 hb4 ho4))
      go_ret
      refine ⟨⟨_, rfl, ?_⟩, HB0.out.trans (HB4.out.mono (by have := HS0.out; omega))⟩
      rw [HLJ.out]
      simpa using HO4.out.low (show w.heap.size ≤ W0.heap.size by have := HS0.out; omega)
end Go.Proofs.YthghcffibljclaaDoor
