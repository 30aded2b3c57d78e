/- Does the layer do anything: walked. -/
import Derived.Test.YthghcffibljclaaDoorRXHour
namespace Go.Proofs.YthghcffibljclaaDoor
open Go.RowKit

theorem hour_ok {ev : List (BitVec 64) → Bool} (hev : EvIs ev) {B : Nat} {e : Ending} {w : World} (h : StepIs ev hourR 18000 1 B e w) : ∃ z y, e = .returned (.tuple #[z, y, .int .i64 0]) ∧ RowTold B hour1 [⟨1, 7, 3600, 0⟩] z y w := by
  rcases h with ⟨h, _⟩ | ⟨_, l, nx, z, y, ho, rfl, h⟩
  · exact absurd ⟨hourR_right hev, by decide, by decide⟩ h
  · obtain ⟨rfl, rfl⟩ := hour_occ ho
    rw [hour_step] at h
    exact ⟨z, y, rfl, h⟩
theorem hour1_right {ev : List (BitVec 64) → Bool} (hev : EvIs ev) : hour1.Right ev := by
  have hT : ∀ h : Int, 0 ≤ h ∧ h ≤ 23 → hourQ.T (h * 3600) := fun h hh => by rw [hourQ_T]; exact hourly_in hh
  have hl : hour1.line = [3600, 7200, 10800, 14400, 21600] := rfl
  refine ⟨hourQ_err hev, (fun h => by cases h), Int.le_refl _, Int.le_refl _, by decide, (fun h => by cases h), (fun h => by cases h), by rw [hl]; simp, fun t ht => ?_⟩
  rw [hl] at ht
  simp only [List.mem_cons, List.not_mem_nil, or_false] at ht
  rcases ht with rfl | rfl | rfl | rfl | rfl
  · exact hT 1 (by omega)
  · exact hT 2 (by omega)
  · exact hT 3 (by omega)
  · exact hT 4 (by omega)
  · exact hT 6 (by omega)
theorem hour_ok2 {ev : List (BitVec 64) → Bool} (hev : EvIs ev) {B : Nat} {e : Ending} {w : World} (h : EndIs ev hour1 1 true 2 B e w) : ∃ z y, e = .returned (.tuple #[z, y, .bool false, .int .i64 0]) ∧ RowTold B hour2 [⟨2, 7, 7200, 0⟩] z y w := by
  rcases h with ⟨h, _⟩ | ⟨_, h, _⟩ | ⟨_, _, _, z, y, rfl, h⟩
  · exact absurd ⟨hour1_right hev, by decide, by decide⟩ h
  · rcases h with h | h
    · cases h
    · exact absurd rfl h
  · rw [hour_end] at h
    exact ⟨z, y, rfl, h⟩
theorem las_one {w : World} {y : Value} {la : LaZ} (h : LasR w y [la]) : ∃ b o c, y = .slice (some ⟨b, o, none⟩) 1 c ∧ b < w.heap.size ∧ w.cell? ⟨b, o, none⟩ = some (.int .u64 la.num) ∧ w.cell? ⟨b, o + 1, none⟩ = some (.int .u32 la.name) ∧ w.cell? ⟨b, o + 2, none⟩ = some (.int .i64 la.due) ∧ w.cell? ⟨b, o + 3, none⟩ = some (.int .i64 la.tr) := by
  obtain ⟨A, c, rfl, _, _, _, hr⟩ := h
  obtain ⟨b, o, rfl, hl, h0⟩ := hr 0 (.int .u64 la.num) rfl
  have k : ∀ j u, [.int .u64 la.num, .int .u32 la.name, .int .i64 la.due, .int .i64 la.tr][j]? = some u → w.cell? ⟨b, o + j, none⟩ = some u := fun j u hj => by
    obtain ⟨b', o', e, _, h1⟩ := hr j u hj
    cases e
    exact h1
  exact ⟨b, o, c, rfl, hl, h0, k 1 _ rfl, k 2 _ rfl, k 3 _ rfl⟩
set_option maxRecDepth 100000 in
set_option maxHeartbeats 4000000 in
theorem wakes13_any (ev : List (BitVec 64) → Bool) (hev : EvIs ev) (w : World) (hL : LaidC w) :
    Calls Tryd.prog 6 #[] w fun e w' => e = .returned (.bool true) ∧ Below w.heap.size w w' := by
  have HHR := Lib.hid (fun W => xhourly_any W)
  have HST := Lib.hid (fun W hW => dstep_any ev hev hourR (.slice none 0 0) 18000 1 W hW hourR_fit (.nil W) (by decide) (by decide))
  have HOK := Lib.hid (fun B e w' => hour_ok hev (B := B) (e := e) (w := w'))
  have HEN := Lib.hid (fun v W hW hq => dend_any ev hev hour1 v 1 2 true W hW ⟨hourQ_fit, by decide⟩ hq (by decide) (by decide))
  have HOK2 := Lib.hid (fun B e w' => hour_ok2 hev (B := B) (e := e) (w := w'))
  have HL := Lib.hid hL
  clear hL hev
  go_enter Tryd.func6, Tryd.ntmps6
  go_wp2_with fail
  refine (HHR.out _).mono ?_
  rintro e w1 ⟨rfl, hb⟩
  have HB1 := Lib.hid hb
  clear hb
  go_wp2_with fail
  refine (HST.out _ (HL.out.on HB1.out)).mono ?_
  rintro e w2 ⟨hx, hb⟩
  obtain ⟨z, y, rfl, ⟨v1, rfl, hs1⟩, hla, _⟩ := HOK.out _ _ _ hx
  obtain ⟨b, o, c, rfl, hbl, p0, p1, p2, p3⟩ := las_one hla
  simp only at p0 p1 p2 p3
  obtain ⟨A1, c1, e1, _⟩ := hs1.qr
  subst e1
  have HB2 := Lib.hid (HB1.out.trans (hb.mono HB1.out.size)); have HS1 := Lib.hid hs1
  rw [show rowV hour1 (.slice A1 hour1.q.length c1) = .agg #[.int .u32 7, .bool false, .int .u64 1, .int .u64 16777215, .int .u64 4294967294, .int .u64 8190, .int .u64 127, .int .i64 0, .int .i64 1, .int .i64 2, .int .i64 0, .bool false, .int .i64 21600, .int .u64 1, .int .i64 3600, .int .i64 0, .slice A1 3 c1] from rfl]
  have hnb := new_below w2 (.cells #[.int .u32 7, .bool false, .int .u64 1, .int .u64 16777215, .int .u64 4294967294, .int .u64 8190, .int .u64 127, .int .i64 0, .int .i64 1, .int .i64 2, .int .i64 0, .bool false, .int .i64 21600, .int .u64 1, .int .i64 3600, .int .i64 0, .slice A1 3 c1] 33)
  replace p0 := (hnb.cell (p := ⟨b, o, none⟩) hbl).trans p0
  replace p1 := (hnb.cell (p := ⟨b, o + 1, none⟩) hbl).trans p1
  replace p2 := (hnb.cell (p := ⟨b, o + 2, none⟩) hbl).trans p2
  replace p3 := (hnb.cell (p := ⟨b, o + 3, none⟩) hbl).trans p3
  have HX3 := Lib.hid (D.Box.new w2 33 #[.int .u32 7, .bool false, .int .u64 1, .int .u64 16777215, .int .u64 4294967294, .int .u64 8190, .int .u64 127, .int .i64 0, .int .i64 1, .int .i64 2, .int .i64 0, .bool false, .int .i64 21600, .int .u64 1, .int .i64 3600, .int .i64 0, .slice A1 3 c1])
  have HB3 := Lib.hid (HB2.out.alloc HB2.out.size (.cells #[.int .u32 7, .bool false, .int .u64 1, .int .u64 16777215, .int .u64 4294967294, .int .u64 8190, .int .u64 127, .int .i64 0, .int .i64 1, .int .i64 2, .int .i64 0, .bool false, .int .i64 21600, .int .u64 1, .int .i64 3600, .int .i64 0, .slice A1 3 c1] 33))
  have HQ3 := Lib.hid (hs1.qr.on (new_below w2 (.cells #[.int .u32 7, .bool false, .int .u64 1, .int .u64 16777215, .int .u64 4294967294, .int .u64 8190, .int .u64 127, .int .i64 0, .int .i64 1, .int .i64 2, .int .i64 0, .bool false, .int .i64 21600, .int .u64 1, .int .i64 3600, .int .i64 0, .slice A1 3 c1] 33)))
  have HEN1 := Lib.hid (HEN.out (.slice A1 3 c1) _ (HL.out.on HB3.out) HQ3.out)
  rw [show rowV hour1 (.slice A1 3 c1) = .agg #[.int .u32 7, .bool false, .int .u64 1, .int .u64 16777215, .int .u64 4294967294, .int .u64 8190, .int .u64 127, .int .i64 0, .int .i64 1, .int .i64 2, .int .i64 0, .bool false, .int .i64 21600, .int .u64 1, .int .i64 3600, .int .i64 0, .slice A1 3 c1] from rfl] at HEN1
  clear hx hb hla hs1 HST HOK HHR hbl HEN HQ3 HS1 hnb
  go_wp2_with fail
  refine HEN1.out.mono ?_
  rintro e w5 ⟨hx, hb⟩
  obtain ⟨z, y, rfl, ⟨v2, rfl, hs2⟩, hla, hfr⟩ := HOK2.out _ _ _ hx
  obtain ⟨b', o', c', rfl, hbl, p0, p1, p2, p3⟩ := las_one hla
  simp only at p0 p1 p2 p3
  obtain ⟨A2, c2, e2, _⟩ := hs2.qr
  subst e2
  have hfr := hfr b' rfl
  rw [World.size_alloc] at hfr
  obtain ⟨W6, hst, _, hW6⟩ := row_put (r := hour2) (v := .slice A2 2 c2) (D.Box.belowAll HX3.out hb) rfl ⟨hourQ_fit, by decide⟩ rfl
  have hx6 : D.Box W6 w2.heap.size 33 #[.int .u32 7, .bool false, .int .u64 1, .int .u64 16777215, .int .u64 4294967294, .int .u64 8190, .int .u64 127, .int .i64 0, .int .i64 1, .int .i64 2, .int .i64 0, .bool false, .int .i64 21600, .int .u64 2, .int .i64 7200, .int .i64 0, .slice A2 2 c2] := by rw [hW6]; exact (D.Box.belowAll HX3.out hb).setRow _
  have hrv2 : rowV hour2 (.slice A2 hour2.q.length c2) = .agg #[.int .u32 7, .bool false, .int .u64 1, .int .u64 16777215, .int .u64 4294967294, .int .u64 8190, .int .u64 127, .int .i64 0, .int .i64 1, .int .i64 2, .int .i64 0, .bool false, .int .i64 21600, .int .u64 2, .int .i64 7200, .int .i64 0, .slice A2 2 c2] := rfl
  rw [hrv2]
  rw [show rowV hour2 (.slice A2 2 c2) = .agg #[.int .u32 7, .bool false, .int .u64 1, .int .u64 16777215, .int .u64 4294967294, .int .u64 8190, .int .u64 127, .int .i64 0, .int .i64 1, .int .i64 2, .int .i64 0, .bool false, .int .i64 21600, .int .u64 2, .int .i64 7200, .int .i64 0, .slice A2 2 c2] from rfl] at hst
  have k2 : W6.cell? ⟨b', o' + 2, none⟩ = some (.int .i64 7200) := by rw [hW6, World.cell?_of_block (a := ⟨b', o' + 2, none⟩) (setRow_other w5 w2.heap.size b' _ (by omega))]; exact p2
  have k13 := D.Box.cell hx6 13; have k16 := D.Box.cell hx6 16
  simp only [List.getElem?_toArray, List.getElem?_cons_zero, List.getElem?_cons_succ] at k13 k16
  have HS := Lib.hid hst
  have HBF : Hid (Below w.heap.size w W6) := Lib.hid (by rw [hW6]; exact below_setRow (HB3.out.trans (hb.mono HB3.out.size)) HB2.out.size _)
  clear hx hb hs2 hla hfr hbl p0 p1 p2 p3 hst hW6 hx6 hrv2 HEN1 HOK2 HX3 HB3
  go_wp2_with (refine list_store rfl _ _ rfl rfl rfl HS.out ?_)
  go_ret
  exact ⟨by first | rfl | simp, HBF.out⟩
end Go.Proofs.YthghcffibljclaaDoor
