/- Whether sessions are the same: walked, of the document. -/
import Derived.Test.YtgnfoncokjglbaaWRSame0
import Derived.Deep.DeepCutAuto
namespace Go.Proofs.Ytgnfoncokjglbaa
open Go.RowKit

set_option maxRecDepth 100000 in
set_option maxHeartbeats 4000000 in
theorem rsame_any (A1 A2 : Option Addr) (n1 n2 c1 c2 : Nat) (ms1 ms2 : List SesM) (w : World) (h1 : SR w A1 n1 c1 ms1) (h2 : SR w A2 n2 c2 ms2) :
    Calls Try.prog 12 #[.agg #[.slice A1 n1 c1], .agg #[.slice A2 n2 c2]] w fun e w' => e = .returned (.bool (decide (ms1.map (·.1) = ms2.map (·.1)))) ∧ Below w.heap.size w w' := by
  have hn1 : n1 ≤ 9223372036854775807 := by have := h1.cap; have := h1.top; unfold maxLen at this; omega
  have hn2 : n2 ≤ 9223372036854775807 := by have := h2.cap; have := h2.top; unfold maxLen at this; omega
  have hb0 : Below w.heap.size w ((w.alloc (.cells #[.slice A1 n1 c1] 24)).alloc (.cells #[.slice A2 n2 c2] 24)) := (new_below w _).alloc (by simp) _
  have hx2 : SBox ((w.alloc (.cells #[.slice A1 n1 c1] 24)).alloc (.cells #[.slice A2 n2 c2] 24)) (w.heap.size + 1) 24 #[.slice A2 n2 c2] := by
    have := SBox.new (w.alloc (.cells #[.slice A1 n1 c1] 24)) 24 #[.slice A2 n2 c2]
    rwa [World.size_alloc] at this
  have HB0 := Lib.hid hb0; have HX0 := Lib.hid hx2
  have HL1 := Lib.hid h1.len; have HL2 := Lib.hid h2.len
  have HA := Lib.hid h1; have HB := Lib.hid h2
  generalize hl1 : ms1.map (·.1) = l1 at *
  generalize hl2 : ms2.map (·.1) = l2 at *
  have HX := Lib.hid hl1; have HY := Lib.hid hl2
  have HXL : Hid (l1.length = n1) := Lib.hid (by rw [← hl1, List.length_map, h1.len])
  have HYL : Hid (l2.length = n2) := Lib.hid (by rw [← hl2, List.length_map, h2.len])
  have HE : Hid (decide (l1 = l2) = true ↔ l1 = l2) := Lib.hid (by simp)
  generalize decide (l1 = l2) = EE at *
  clear h1 h2 hl1 hl2 hb0 hx2
  obtain ⟨W0, hW0⟩ : ∃ W0 : World, W0 = (w.alloc (.cells #[.slice A1 n1 c1] 24)).alloc (.cells #[.slice A2 n2 c2] 24) := ⟨_, rfl⟩
  rw [← hW0] at HB0 HX0
  have HSL := Lib.hid HX0.out.lt
  go_enter Try.func12, Try.ntmps12
  by_cases hnm : n1 = n2
  · subst hnm
    go_wp2_with fail
    rw [← hW0]
    clear hW0
    go_loopw [18] (fun i wr => ∃ k : Nat, k ≤ n1 ∧ i = .int .i64 (k : Int) ∧ Below W0.heap.size W0 wr ∧ Hid (l1.take k = l2.take k)) (fun i _ => n1 - (intOf i).toNat)
    case atStart => exact ⟨0, Nat.zero_le _, rfl, Below.refl _ _, Lib.hid (by simp)⟩
    case round =>
      obtain ⟨k, hk, rfl, hb, HT⟩ := hrel
      have HBW := Lib.hid hb
      have HBB := Lib.hid (HB0.out.trans (hb.mono HB0.out.size))
      have hx0 := HX0.out.on hb
      clear hb
      by_cases hlt : k < n1
      · obtain ⟨m1, hm1⟩ : ∃ m, ms1[k]? = some m := ⟨_, List.getElem?_eq_getElem (by have := HL1.out; omega)⟩
        obtain ⟨m2, hm2⟩ : ∃ m, ms2[k]? = some m := ⟨_, List.getElem?_eq_getElem (by have := HL2.out; omega)⟩
        obtain ⟨⟨xc, xq, xe, xn⟩, xv⟩ := m1
        obtain ⟨⟨yc, yq, ye, yn⟩, yv⟩ := m2
        have ht1 := HA.out.on HBB.out
        have hok1 := ht1.ok _ (List.mem_of_getElem? hm1)
        obtain ⟨b1, o1, rfl, hj1⟩ := ht1.at_ hm1
        clear hj1
        have HLD1 := Lib.hid (ses_load ht1 hm1)
        obtain ⟨W1, hs1, hx1, hb1, hz1⟩ := ses_var wr ⟨xc, xq, xe, xn⟩ xv hok1.2.one
        have hb1' := HBB.out.trans (hb1.mono HBB.out.size)
        have ht2 := HB.out.on hb1'
        have hok2 := ht2.ok _ (List.mem_of_getElem? hm2)
        obtain ⟨b2, o2, rfl, hj2⟩ := ht2.at_ hm2
        clear hj2
        have HLD2 := Lib.hid (ses_load ht2 hm2)
        obtain ⟨W2, hs2, hx2, hb2, hz2⟩ := ses_var W1 ⟨yc, yq, ye, yn⟩ yv hok2.2.one
        have HS1 := Lib.hid hs1; have HS2 := Lib.hid hs2
        have e0 := (hx0.on hb1).one
        obtain ⟨a0, a1, a2, a3⟩ := (hx1.on hb2).box.four
        obtain ⟨d0, d1, d2, d3⟩ := hx2.box.four
        simp only at a0 a1 a2 a3 d0 d1 d2 d3
        have HB2 := Lib.hid (hb1'.trans (hb2.mono hb1'.size))
        have HBW2 := Lib.hid ((HBW.out.trans (hb1.mono HBW.out.size)).trans (hb2.mono (HBW.out.trans (hb1.mono HBW.out.size)).size))
        have HSM := Lib.hid (rsamer_any xe ye xv yv xn yn W2 ((hok1.2.on hb1).on hb2) (hok2.2.on hb2))
        have HX1 : Hid (l1[k]? = some ⟨xc, xq, xe, xn⟩) := Lib.hid (by rw [← HX.out, List.getElem?_map, hm1]; rfl)
        have HX2 : Hid (l2[k]? = some ⟨yc, yq, ye, yn⟩) := Lib.hid (by rw [← HY.out, List.getElem?_map, hm2]; rfl)
        have HQ : Hid (decide ((RepZ.mk xe xn) = ⟨ye, yn⟩) = true ↔ (RepZ.mk xe xn) = ⟨ye, yn⟩) := Lib.hid (by simp)
        generalize decide ((RepZ.mk xe xn) = ⟨ye, yn⟩) = QQ at *
        have HNO : Hid (¬ (xc = yc ∧ xq = yq ∧ QQ = true) → EE = false) := Lib.hid (fun hh => by
          cases hEE : EE with
          | false => rfl
          | true =>
            exfalso
            have h2 := HE.out.1 hEE
            have h3 := HX1.out
            rw [h2, HX2.out] at h3
            injection h3 with h3
            injection h3 with q1 q2 q3
            exact hh ⟨q1.symm, q2.symm, HQ.out.2 q3.symm⟩)
        have HZ1 := Lib.hid hz1
        have g1 : (0 : Int) ≤ (k : Int) := by omega
        have g2 : (k : Int) < (n1 : Int) := by omega
        unfold sesV at *
        simp only at HLD1 HLD2 HS1 HS2
        clear hm1 hm2 ht1 hok1 hs1 hx1 hb1 hz1 hb1' ht2 hok2 hs2 hx2 hb2 hz2 hx0
        by_cases hc : xc = yc
        · have hd : (xc != yc) = false := by simp [hc]
          by_cases hs : xq = yq
          · have hd2 : (xq != yq) = false := by simp [hs]
            have HC := Lib.hid hc; have HS := Lib.hid hs
            clear hc hs
            go_wp2_with (first | refine list_load rfl _ rfl rfl HLD1.out ?_ | refine list_load rfl _ rfl rfl HLD2.out ?_ | refine list_store0 rfl rfl _ _ rfl rfl rfl HS1.out ?_ | refine list_store0 rfl rfl _ _ rfl rfl rfl HS2.out ?_)
            refine HSM.out.mono ?_
            rintro e w3 ⟨rfl, hb⟩
            have HB3 := Lib.hid (HB2.out.trans (hb.mono HB2.out.size))
            have HBW3 := Lib.hid (HBW2.out.trans (hb.mono HBW2.out.size))
            clear hb e0 a0 a1 a2 a3 d0 d1 d2 d3
            cases QQ with
            | true =>
              go_wp2_with fail
              go_roundw
              case rel => exact ⟨k + 1, by omega, by go_num, HBW3.out, Lib.hid (list_take_eq HT.out HX1.out HX2.out (by rw [HC.out, HS.out, HQ.out.1 (by first | trivial | rfl)]))⟩
              case measure => simp [intOf]; omega
            | false =>
              have HZ := Lib.hid (HNO.out (fun h => by cases h.2.2))
              go_wp2_with fail
              go_ret
              exact ⟨by rw [HZ.out]; try rfl, HB3.out⟩
          · have hd2 : (xq != yq) = true := by simp [hs]
            have HZ := Lib.hid (HNO.out (fun h => hs h.2.1))
            clear hc hs
            go_wp2_with (first | refine list_load rfl _ rfl rfl HLD1.out ?_ | refine list_load rfl _ rfl rfl HLD2.out ?_ | refine list_store0 rfl rfl _ _ rfl rfl rfl HS1.out ?_ | refine list_store0 rfl rfl _ _ rfl rfl rfl HS2.out ?_)
            go_ret
            exact ⟨by rw [HZ.out]; try rfl, HB2.out⟩
        · have hd : (xc != yc) = true := by simp [hc]
          have HZ := Lib.hid (HNO.out (fun h => hc h.1))
          clear hc
          go_wp2_with (first | refine list_load rfl _ rfl rfl HLD1.out ?_ | refine list_load rfl _ rfl rfl HLD2.out ?_ | refine list_store0 rfl rfl _ _ rfl rfl rfl HS1.out ?_ | refine list_store0 rfl rfl _ _ rfl rfl rfl HS2.out ?_)
          go_ret
          exact ⟨by rw [HZ.out]; try rfl, HB2.out⟩
      · have HZ : Hid (EE = true) := Lib.hid (HE.out.2 (by
          have := HT.out
          rwa [List.take_of_length_le (by have := HXL.out; omega), List.take_of_length_le (by have := HYL.out; omega)] at this))
        go_wp2_with fail
        go_ret
        exact ⟨by rw [HZ.out]; try rfl, HBB.out⟩
  · have hd : ((n1 : Int) != (n2 : Int)) = true := by simp; omega
    have hd2 : (n1 != n2) = true := by simp; omega
    have HZ : Hid (EE = false) := Lib.hid (by
      cases hEE : EE with
      | false => rfl
      | true =>
        have h2 := HE.out.1 hEE
        have h3 := HXL.out
        rw [h2, HYL.out] at h3
        exact absurd h3.symm hnm)
    clear hnm
    go_wp2_with fail
    rw [← hW0]
    go_ret
    exact ⟨by rw [HZ.out]; try rfl, HB0.out⟩
end Go.Proofs.Ytgnfoncokjglbaa
