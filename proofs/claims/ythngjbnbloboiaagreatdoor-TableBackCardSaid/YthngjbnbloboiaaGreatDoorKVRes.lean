/- A row goes on; what is chosen to be done: walked. -/
import Derived.Test.YthngjbnbloboiaaGreatDoorKVNext
import Derived.Laws.EntriesVeiled
namespace Go.Proofs.YthngjbnbloboiaaGreatDoor
open Go.RowKit

/-- What comes of a row that goes on. -/
def ResIs (ev : List (BitVec 64) → Bool) (r : RowZ) (now : Int) (e : Ending) (w : World) : Prop := ∃ nx, (r.pa = true → NextOf ev r now nx) ∧ TabIs [resF nx r] e w
set_option maxRecDepth 100000 in
set_option maxHeartbeats 2000000 in
theorem resumed_any (ev : List (BitVec 64) → Bool) (hev : EvIs ev) (r : RowZ) (v : Value) (now : Int) (w : World) (hL : LaidC w) (hf : r.Fit) (hq : QR w v r.q) (hl : r.q.length ≤ 100) :
    Calls Tryz.prog 44 #[rowNV r v now] w fun e w' => ResIs ev r now e w' ∧ Below w.heap.size w w' := by
  have hx0 := D.Box.new w 75 (rowNC r v now).toArray
  have hb0 := new_below w (.cells (rowNC r v now).toArray 75)
  obtain ⟨W0, hW0⟩ : ∃ W : World, W = w.alloc (.cells (rowNC r v now).toArray 75) := ⟨_, rfl⟩
  rw [← hW0] at hx0 hb0
  have hcf := cellsF_of hf (rown_range hx0)
  have c11 := hcf.pa
  rw [Nat.zero_add] at c11
  have HL1 := Lib.hid (rown_load hf hx0)
  have HNX := Lib.hid (rownext_any ev hev r v now W0 (hL.on hb0) hf (hq.on hb0) hl)
  have HB0 := Lib.hid hb0; have HX0 := Lib.hid hx0; have HF := Lib.hid hf; have HQ := Lib.hid hq
  have HIT := Lib.hid (fun (r' : RowZ) (W : World) (h1 : r'.Fit) (h2 : QR W v r'.q) => itself_any r' v now W h1 h2)
  have HR1 : Hid (r.pa = false → ∀ g w', TabR w' (some ⟨g, 0, none⟩) 1 1 [(r, v)] → ResIs ev r now (.returned (.slice (some ⟨g, 0, none⟩) 1 1)) w') := Lib.hid (fun h g w' ht => ⟨0, (fun h' => by rw [h] at h'; cases h'), (by unfold resF; rw [h]; exact .one rfl ht)⟩)
  have HR2 : Hid (r.pa = true → ∀ nx g w', NextOf ev r now nx → TabR w' (some ⟨g, 0, none⟩) 1 1 [({ r with pa := false, nx := nx }, v)] → ResIs ev r now (.returned (.slice (some ⟨g, 0, none⟩) 1 1)) w') := Lib.hid (fun h nx g w' hn ht => ⟨nx, (fun _ => hn), (by unfold resF; rw [if_pos h]; exact .one rfl ht)⟩)
  have HRV : Hid (rowNV r v now = .agg (rowNC r v now).toArray) := Lib.hid rfl
  generalize ResIs ev r now = RI at *
  have hc12 := hcf.nx
  rw [Nat.zero_add] at hc12
  have HC12 := Lib.hid hc12
  clear hb0 hx0 hcf hf hq hL hev hl hc12
  rw [HRV.out]
  cases hpa : r.pa with
  | false =>
    rw [hpa] at c11
    have HR := Lib.hid (HR1.out hpa)
    have HI := Lib.hid (HIT.out r W0 HF.out (HQ.out.on HB0.out))
    clear hpa HR1 HR2 HNX HIT HRV
    rw [hW0] at c11
    go_enter Tryz.func44, Tryz.ntmps44
    go_upto_region 3 with fail
    rw [← hW0]
    clear hW0 c11
    go_wp2_with (refine list_load rfl _ rfl rfl HL1.out ?_)
    refine HI.out.mono ?_
    rintro e w3 ⟨g, rfl, ht, hb⟩
    have HT := Lib.hid (HR.out g w3 ht); have HB := Lib.hid (HB0.out.trans (hb.mono HB0.out.size))
    clear ht hb
    go_wp2_with fail
    go_ret
    exact ⟨HT.out, HB.out⟩
  | true =>
    rw [hpa] at c11
    have HR := Lib.hid (HR2.out hpa)
    clear hpa HR1 HR2
    rw [hW0] at c11
    go_enter Tryz.func44, Tryz.ntmps44
    go_upto_region 2 with fail
    rw [← hW0] at c11 ⊢
    clear hW0
    go_wp2_with (refine list_load rfl _ rfl rfl HL1.out ?_)
    refine HNX.out.mono ?_
    rintro e w2 ⟨⟨nx, rfl, hn⟩, hb⟩
    have HB2 := Lib.hid (HB0.out.trans (hb.mono HB0.out.size)); have HN := Lib.hid hn
    have hx2 := D.Box.belowAll HX0.out hb
    have d11 : w2.cell? ⟨w.heap.size, 11, none⟩ = some (.bool true) := (hb.cell (p := ⟨w.heap.size, 11, none⟩) (D.Box.lt HX0.out)).trans c11
    have d12 : w2.cell? ⟨w.heap.size, 12, none⟩ = some (.int .i64 r.nx) := (hb.cell (p := ⟨w.heap.size, 12, none⟩) (D.Box.lt HX0.out)).trans HC12.out
    have f11 := hx2.frozen 11; have f12 := hx2.frozen 12
    have hx3 := (hx2.set 11 (.bool false)).set 12 (.int .i64 nx)
    rw [rown_res HF.out] at hx3
    have hb3 := (HB2.out.setCell (p := ⟨w.heap.size, 11, none⟩) (Nat.le_refl _) (.bool false)).setCell (p := ⟨w.heap.size, 12, none⟩) (Nat.le_refl _) (.int .i64 nx)
    have hf3 : RowZ.Fit { r with pa := false, nx := nx } := HF.out
    have HL3 := Lib.hid (rown_load hf3 hx3)
    have HI := Lib.hid (HIT.out { r with pa := false, nx := nx } _ hf3 (HQ.out.on hb3))
    have HB3 := Lib.hid hb3
    clear hn hb hx2 hx3 hb3 hf3 c11 HNX HIT HRV HL1
    go_upto_region 3 with fail
    clear d11 d12 f11 f12
    generalize (w2.setCell ⟨w.heap.size, 11, none⟩ (.bool false)).setCell ⟨w.heap.size, 12, none⟩ (.int .i64 nx) = w3 at *
    go_wp2_with (refine list_load rfl _ rfl rfl HL3.out ?_)
    refine HI.out.mono ?_
    rintro e w4 ⟨g, rfl, ht, hb⟩
    have HT := Lib.hid (HR.out nx g w4 HN.out ht); have HB := Lib.hid (HB3.out.trans (hb.mono HB3.out.size))
    clear ht hb
    go_wp2_with fail
    go_ret
    exact ⟨HT.out, HB.out⟩
set_option maxRecDepth 100000 in
set_option maxHeartbeats 1000000 in
theorem choose_rem (r : RowZ) (v : Value) (now : Int) (w : World) (hf : r.Fit) :
    Calls Tryz.prog 30 #[rowNV r v now] w fun e w' => e = .returned (.func (.func 31) #[rowNV r v now] #[]) ∧ Below w.heap.size w w' := by
  have hx0 := D.Box.new w 75 (rowNC r v now).toArray
  have hb0 := new_below w (.cells (rowNC r v now).toArray 75)
  have HL := Lib.hid (rown_load hf hx0); have HB := Lib.hid hb0
  have HRV : Hid (rowNV r v now = .agg (rowNC r v now).toArray) := Lib.hid rfl
  rw [HRV.out]
  rw [HRV.out] at HL
  clear hx0 hb0 HRV
  go_enter Tryz.func30, Tryz.ntmps30
  go_wp2_with (refine list_load rfl _ rfl rfl HL.out ?_)
  go_ret
  exact ⟨rfl, HB.out⟩
set_option maxRecDepth 100000 in
set_option maxHeartbeats 1000000 in
theorem choose_pau (r : RowZ) (v : Value) (now : Int) (w : World) (hf : r.Fit) :
    Calls Tryz.prog 35 #[rowNV r v now] w fun e w' => e = .returned (.func (.func 36) #[rowNV r v now] #[]) ∧ Below w.heap.size w w' := by
  have hx0 := D.Box.new w 75 (rowNC r v now).toArray
  have hb0 := new_below w (.cells (rowNC r v now).toArray 75)
  have HL := Lib.hid (rown_load hf hx0); have HB := Lib.hid hb0
  have HRV : Hid (rowNV r v now = .agg (rowNC r v now).toArray) := Lib.hid rfl
  rw [HRV.out]
  rw [HRV.out] at HL
  clear hx0 hb0 HRV
  go_enter Tryz.func35, Tryz.ntmps35
  go_wp2_with (refine list_load rfl _ rfl rfl HL.out ?_)
  go_ret
  exact ⟨rfl, HB.out⟩
set_option maxRecDepth 100000 in
set_option maxHeartbeats 1000000 in
theorem choose_res (r : RowZ) (v : Value) (gx : Nat) (now : Int) (w : World) (hf : r.Fit) (hl : gx < w.heap.size) (hc : w.cell? ⟨gx, 0, none⟩ = some (.int .i64 now)) :
    Calls Tryz.prog 43 #[rowNV r v 0, .pointer (some ⟨gx, 0, none⟩)] w fun e w' => e = .returned (.func (.func 44) #[rowNV r v now] #[]) ∧ Below w.heap.size w w' := by
  have hx0 := D.Box.new w 75 (rowNC r v 0).toArray
  have hb0 := new_below w (.cells (rowNC r v 0).toArray 75)
  obtain ⟨W0, hW0⟩ : ∃ W : World, W = w.alloc (.cells (rowNC r v 0).toArray 75) := ⟨_, rfl⟩
  rw [← hW0] at hx0 hb0
  have hx2 := hx0.set 17 (.int .i64 now)
  rw [rown_put hf] at hx2
  have hb2 := hb0.setCell (p := ⟨w.heap.size, 17, none⟩) (Nat.le_refl _) (.int .i64 now)
  have c0 : W0.cell? ⟨gx, 0, none⟩ = some (.int .i64 now) := (hb0.cell (p := ⟨gx, 0, none⟩) hl).trans hc
  have c17 := rown_now hf hx0
  have f17 := hx0.frozen 17
  have HL2 := Lib.hid (rown_load hf hx2); have HB2 := Lib.hid hb2
  have HRV : Hid (rowNV r v 0 = .agg (rowNC r v 0).toArray) := Lib.hid rfl
  rw [HRV.out]
  clear hx0 hb0 hx2 hb2 hc HRV
  go_enter Tryz.func43, Tryz.ntmps43
  go_upto_region 1 with fail
  rw [← hW0]
  clear hW0
  go_upto_region 2 with fail
  clear c0 c17 f17
  generalize W0.setCell ⟨w.heap.size, 17, none⟩ (.int .i64 now) = w2 at *
  go_wp2_with (refine list_load rfl _ rfl rfl HL2.out ?_)
  go_ret
  exact ⟨rfl, HB2.out⟩
end Go.Proofs.YthngjbnbloboiaaGreatDoor
