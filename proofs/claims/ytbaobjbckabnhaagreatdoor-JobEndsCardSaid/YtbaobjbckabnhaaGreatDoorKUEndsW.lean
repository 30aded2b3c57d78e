/- JobEnds: First is the first of the times, Latest the last one; idle is who has none: walked. -/
import Derived.Test.YtbaobjbckabnhaaGreatDoorKUWakes
namespace Go.Proofs.YtbaobjbckabnhaaGreatDoor
open Go.RowKit

theorem arr_at {W : World} {A : Option Addr} {n : Nat} {l : List Int} {x : Int} (h : ArrT W A n l) (h0 : l[0]? = some x) : ∃ b off, A = some ⟨b, off, none⟩ ∧ W.cell? ⟨b, off, none⟩ = some (.int .i64 x) ∧ ∀ i y, l[i]? = some y → W.cell? ⟨b, off + i, none⟩ = some (.int .i64 y) := by
  obtain ⟨b, off, rfl, _, hc⟩ := h.2 0 x h0
  refine ⟨b, off, rfl, hc, fun i y hy => ?_⟩
  obtain ⟨b', off', e, _, hc'⟩ := h.2 i y hy
  injection e with e
  injection e with e1 e2
  subst e1; subst e2
  exact hc'
theorem idle_bad {ev : List (BitVec 64) → Bool} {j : JobZ} {s0 s1 : Int} {z : Bool} (h : IdleIs ev j s0 s1 z) (he : j.err ev ≠ 0) : z = false := by
  rcases h with ⟨_, h⟩ | ⟨h, _⟩
  · exact h
  · exact absurd h he
theorem idle_ok {ev : List (BitVec 64) → Bool} {j : JobZ} {s0 s1 : Int} {z : Bool} {n : Nat} {l : List Int} (h : IdleIs ev j s0 s1 z) (he : j.err ev = 0) (hc : Chain j.T s0 s1 (n + 1) l) : z = decide (l = []) := by
  rcases h with ⟨h, _⟩ | ⟨_, l', hc', rfl⟩
  · exact absurd he h
  · rw [Bool.eq_iff_iff, decide_eq_true_iff, decide_eq_true_iff, chain_some hc hc']
    exact List.length_eq_zero_iff
theorem rises_at {l : List Int} (h : l.Pairwise (· < ·)) {k : Nat} {x y : Int} (hx : l[k]? = some x) (hy : l[k + 1]? = some y) : x < y := by
  obtain ⟨a1, a2⟩ := List.getElem?_eq_some_iff.1 hx
  obtain ⟨b1, b2⟩ := List.getElem?_eq_some_iff.1 hy
  have := List.pairwise_iff_getElem.1 h k (k + 1) a1 b1 (by omega)
  omega
set_option maxRecDepth 100000 in
set_option maxHeartbeats 8000000 in
theorem jends_walk (j : JobZ) (s0 s1 : Int) (w : World) (hL : LaidC w) (hj : j.Fit) :
    Calls Tryz.prog 6 #[jobV j, spanV s0 s1] w fun x w' => x = .returned (.bool true) ∧ Below w.heap.size w w' := by
  obtain ⟨ev, hev⟩ := ev_is
  have HWK := Lib.hid (fun W hW => jwakes_any ev hev W hW)
  have HTI := Lib.hid (fun W hW => jtimes_any ev hev j s0 s1 5 W hW hj)
  have HFI := Lib.hid (fun W hW => jfirst_any ev hev j s0 W hW hj)
  have HLA := Lib.hid (fun W hW => jlatest_any ev hev j s1 W hW hj)
  have HID := Lib.hid (fun W hW => jidle_any ev hev j s0 s1 W hW hj)
  have HBF := Lib.hid (fun h => first_bad (ev := ev) (j := j) h s0)
  have HBL := Lib.hid (fun h => latest_bad (ev := ev) (j := j) h s1)
  have HOK := Lib.hid (TT_ok (ev := ev) (j := j))
  have HT1 := Lib.hid (T_once (j := j))
  have HI1 := Lib.hid (fun z h he => @idle_bad ev j s0 s1 z h he)
  have HI2 := Lib.hid (fun z l h he hc => @idle_ok ev j s0 s1 z 4 l h he hc)
  clear hev
  unfold TimesIs at HTI
  generalize IdleIs ev j s0 s1 = II at *
  generalize j.TT ev = TT at *
  generalize j.err ev = z at *
  generalize j.T = TJ at *
  obtain ⟨n, o, L, at_, ov, ca, re⟩ := j
  obtain ⟨n0, n1, hl5⟩ := hj
  simp only at hl5
  obtain ⟨a, b, c, d, e, rfl⟩ := list_five hl5
  obtain ⟨W0, hW0, hb0, hj0, hx0, hs0⟩ := job_span w n o a b c d e at_ ov ca re s0 s1
  have HB0 := Lib.hid hb0; have HJ := Lib.hid hj0; have HSP := Lib.hid hx0; have HL := Lib.hid (hL.on hb0)
  have HX0 := Lib.hid (Below.refl W0.heap.size W0)
  simp only at HT1
  rw [jobV_five] at *
  unfold spanV at *
  clear hL hb0 hj0 hl5 n0 n1 hx0
  go_enter Tryz.func6, Tryz.ntmps6
  go_wp2_with fail
  rw [← hW0]
  clear hW0
  refine (HWK.out _ HL.out).mono ?_
  rintro x w1 ⟨rfl, hb⟩
  have HX1 := Lib.hid (HX0.out.trans (hb.mono HX0.out.size))
  clear hb HX0 HWK
  obtain ⟨c0, c1, c2, c3, c4, c5, c6, c7, c8, c9, c10⟩ := (HJ.out.on HX1.out).cells
  obtain ⟨e0, e1⟩ := two_box (D.Box.belowAll HSP.out HX1.out)
  go_wp2_with fail
  refine (HTI.out _ (HL.out.on HX1.out)).mono ?_
  rintro x w2 ⟨hx, hb⟩
  have HX2 := Lib.hid (HX1.out.trans (hb.mono HX1.out.size))
  have hlo := HX1.out.size
  clear hb HX1 HTI c0 c1 c2 c3 c4 c5 c6 c7 c8 c9 c10 e0 e1
  obtain ⟨c0, c1, c2, c3, c4, c5, c6, c7, c8, c9, c10⟩ := (HJ.out.on HX2.out).cells
  obtain ⟨e0, e1⟩ := two_box (D.Box.belowAll HSP.out HX2.out)
  rcases hx with ⟨hz, rfl⟩ | ⟨hz, hm, rfl⟩ | ⟨hz, _, _, v, l, rfl, hrow, hch⟩
  · have hz1 : (z != 0) = true := by simpa using hz
    go_wp2_with fail
    refine (HFI.out _ (HL.out.on HX2.out)).mono ?_
    rintro x w3 ⟨⟨y, ok, rfl, hy⟩, hb⟩
    obtain ⟨ey, eo⟩ := firstT_one (HBF.out hz) hy
    subst ey; subst eo
    have HX3 := Lib.hid (HX2.out.trans (hb.mono HX2.out.size))
    clear hb hy c0 c1 c2 c3 c4 c5 c6 c7 c8 c9 c10 e0 e1
    obtain ⟨c0, c1, c2, c3, c4, c5, c6, c7, c8, c9, c10⟩ := (HJ.out.on HX3.out).cells
    obtain ⟨e0, e1⟩ := two_box (D.Box.belowAll HSP.out HX3.out)
    go_wp2_with fail
    refine (HLA.out _ (HL.out.on HX3.out)).mono ?_
    rintro x w4 ⟨⟨y, ok, rfl, hy⟩, hb⟩
    obtain ⟨ey, eo⟩ := lastT_one (HBL.out hz) hy
    subst ey; subst eo
    have HX4 := Lib.hid (HX3.out.trans (hb.mono HX3.out.size))
    clear hb hy c0 c1 c2 c3 c4 c5 c6 c7 c8 c9 c10 e0 e1
    obtain ⟨c0, c1, c2, c3, c4, c5, c6, c7, c8, c9, c10⟩ := (HJ.out.on HX4.out).cells
    obtain ⟨e0, e1⟩ := two_box (D.Box.belowAll HSP.out HX4.out)
    go_wp2_with fail
    refine (HID.out _ (HL.out.on HX4.out)).mono ?_
    rintro x w5 ⟨z', rfl, hz', hb⟩
    have HX5 := Lib.hid (HX4.out.trans (hb.mono HX4.out.size))
    obtain rfl := HI1.out z' hz' hz
    clear hb hz' c0 c1 c2 c3 c4 c5 c6 c7 c8 c9 c10 e0 e1
    obtain ⟨c0, c1, c2, c3, c4, c5, c6, c7, c8, c9, c10⟩ := (HJ.out.on HX5.out).cells
    obtain ⟨e0, e1⟩ := two_box (D.Box.belowAll HSP.out HX5.out)
    go_wp2_with fail
    go_ret
    exact ⟨rfl, HB0.out.trans (HX5.out.mono HB0.out.size)⟩
  · omega
  · subst hz
    have hTT := HOK.out rfl
    have HR2 := Lib.hid (own_low hrow hlo); have HCH := Lib.hid hch
    obtain ⟨A, cp, rfl⟩ := own_slice0 hrow
    clear hrow hch HBF HBL HI1
    go_wp2_with fail
    refine (HFI.out _ (HL.out.on HX2.out)).mono ?_
    rintro x w3 ⟨⟨y, ok, rfl, hy⟩, hb⟩
    rw [hTT] at hy
    have HX3 := Lib.hid (HX2.out.trans (hb.mono HX2.out.size)); have HY := Lib.hid hy; have HR3 := Lib.hid (own_below HR2.out hb)
    clear hb hy c0 c1 c2 c3 c4 c5 c6 c7 c8 c9 c10 e0 e1 HR2
    obtain ⟨c0, c1, c2, c3, c4, c5, c6, c7, c8, c9, c10⟩ := (HJ.out.on HX3.out).cells
    obtain ⟨e0, e1⟩ := two_box (D.Box.belowAll HSP.out HX3.out)
    go_wp2_with fail
    refine (HLA.out _ (HL.out.on HX3.out)).mono ?_
    rintro x w4 ⟨⟨y2, ok2, rfl, hy2⟩, hb⟩
    rw [hTT] at hy2
    have HX4 := Lib.hid (HX3.out.trans (hb.mono HX3.out.size)); have HY2 := Lib.hid hy2; have HR4 := Lib.hid (own_below HR3.out hb)
    clear hb hy2 c0 c1 c2 c3 c4 c5 c6 c7 c8 c9 c10 e0 e1 HR3 hTT HOK HFI HLA HX2 HX3
    obtain ⟨c0, c1, c2, c3, c4, c5, c6, c7, c8, c9, c10⟩ := (HJ.out.on HX4.out).cells
    obtain ⟨e0, e1⟩ := two_box (D.Box.belowAll HSP.out HX4.out)
    have hF := chain_first (n := 4) HCH.out HY.out
    have hLt := chain_latest (n := 4) HCH.out HY2.out
    cases l with
    | nil =>
      have hF' : ¬ (ok = true ∧ y ≤ s1) := by rcases hF with ⟨_, h⟩ | ⟨_, _, h⟩; exact h; cases h
      have hL' : ¬ (ok2 = true ∧ s0 < y2) := by rcases hLt with ⟨_, h⟩ | ⟨h, _⟩; exact h; exact absurd rfl h
      clear hF hLt
      cases ok with
      | false =>
        cases ok2 with
        | false =>
          go_wp2_with fail
          refine (HID.out _ (HL.out.on HX4.out)).mono ?_
          rintro x w5 ⟨z', rfl, hz', hb⟩
          have HX5 := Lib.hid (HX4.out.trans (hb.mono HX4.out.size))
          obtain rfl := HI2.out z' [] hz' (by simp) HCH.out
          clear hb hz' c0 c1 c2 c3 c4 c5 c6 c7 c8 c9 c10 e0 e1
          obtain ⟨c0, c1, c2, c3, c4, c5, c6, c7, c8, c9, c10⟩ := (HJ.out.on HX5.out).cells
          obtain ⟨e0, e1⟩ := two_box (D.Box.belowAll HSP.out HX5.out)
          go_wp2_with fail
          go_ret
          exact ⟨rfl, HB0.out.trans (HX5.out.mono HB0.out.size)⟩
        | true =>
          have hd2 : decide (s0 < y2) = false := decide_eq_false (fun h => hL' ⟨rfl, h⟩)
          have hd2' : ¬ s0 < y2 := fun h => hL' ⟨rfl, h⟩
          clear hL' hF'
          go_wp2_with fail
          refine (HID.out _ (HL.out.on HX4.out)).mono ?_
          rintro x w5 ⟨z', rfl, hz', hb⟩
          have HX5 := Lib.hid (HX4.out.trans (hb.mono HX4.out.size))
          obtain rfl := HI2.out z' [] hz' (by simp) HCH.out
          clear hb hz' c0 c1 c2 c3 c4 c5 c6 c7 c8 c9 c10 e0 e1
          obtain ⟨c0, c1, c2, c3, c4, c5, c6, c7, c8, c9, c10⟩ := (HJ.out.on HX5.out).cells
          obtain ⟨e0, e1⟩ := two_box (D.Box.belowAll HSP.out HX5.out)
          go_wp2_with fail
          go_ret
          exact ⟨rfl, HB0.out.trans (HX5.out.mono HB0.out.size)⟩
      | true =>
        have hd1 : decide (y ≤ s1) = false := decide_eq_false (fun h => hF' ⟨rfl, h⟩)
        have hd1' : ¬ y ≤ s1 := fun h => hF' ⟨rfl, h⟩
        cases ok2 with
        | false =>
          clear hL' hF'
          go_wp2_with fail
          refine (HID.out _ (HL.out.on HX4.out)).mono ?_
          rintro x w5 ⟨z', rfl, hz', hb⟩
          have HX5 := Lib.hid (HX4.out.trans (hb.mono HX4.out.size))
          obtain rfl := HI2.out z' [] hz' (by simp) HCH.out
          clear hb hz' c0 c1 c2 c3 c4 c5 c6 c7 c8 c9 c10 e0 e1
          obtain ⟨c0, c1, c2, c3, c4, c5, c6, c7, c8, c9, c10⟩ := (HJ.out.on HX5.out).cells
          obtain ⟨e0, e1⟩ := two_box (D.Box.belowAll HSP.out HX5.out)
          go_wp2_with fail
          go_ret
          exact ⟨rfl, HB0.out.trans (HX5.out.mono HB0.out.size)⟩
        | true =>
          have hd2 : decide (s0 < y2) = false := decide_eq_false (fun h => hL' ⟨rfl, h⟩)
          have hd2' : ¬ s0 < y2 := fun h => hL' ⟨rfl, h⟩
          clear hL' hF'
          go_wp2_with fail
          refine (HID.out _ (HL.out.on HX4.out)).mono ?_
          rintro x w5 ⟨z', rfl, hz', hb⟩
          have HX5 := Lib.hid (HX4.out.trans (hb.mono HX4.out.size))
          obtain rfl := HI2.out z' [] hz' (by simp) HCH.out
          clear hb hz' c0 c1 c2 c3 c4 c5 c6 c7 c8 c9 c10 e0 e1
          obtain ⟨c0, c1, c2, c3, c4, c5, c6, c7, c8, c9, c10⟩ := (HJ.out.on HX5.out).cells
          obtain ⟨e0, e1⟩ := two_box (D.Box.belowAll HSP.out HX5.out)
          go_wp2_with fail
          go_ret
          exact ⟨rfl, HB0.out.trans (HX5.out.mono HB0.out.size)⟩
    | cons x0 r =>
      obtain ⟨hok, hle, h0⟩ : ok = true ∧ y ≤ s1 ∧ (x0 :: r)[0]? = some y := by
        rcases hF with ⟨h, _⟩ | h
        · cases h
        · exact h
      obtain ⟨hok2, hlt2, hall, hsh⟩ : ok2 = true ∧ s0 < y2 ∧ (∀ x ∈ (x0 :: r), x ≤ y2) ∧ ((x0 :: r).length < 5 → y2 ∈ (x0 :: r)) := by
        rcases hLt with ⟨h, _⟩ | ⟨_, h⟩
        · cases h
        · exact h
      subst hok; subst hok2
      have hmem := chain_mem _ _ _ _ HCH.out
      have hris := chain_rises _ _ _ _ HCH.out
      have hlen5 := chain_len _ _ _ _ HCH.out
      have honce : o = true → (x0 :: r).length ≤ 1 := fun ho => chain_alone _ _ _ _ (by have := HCH.out; rw [HT1.out ho] at this; exact this)
      have hidl : ∀ z', II z' → z' = false := fun z' hz' => by
        have := HI2.out z' _ hz' (by simp) HCH.out
        rw [this]; simp
      have hlast : ∃ u, (x0 :: r)[r.length]? = some u ∧ u ≤ y2 ∧ (r.length + 1 < 5 → u = y2) := by
        refine ⟨(x0 :: r)[r.length]'(by simp), List.getElem?_eq_getElem (by simp), hall _ (List.getElem_mem _), fun h => ?_⟩
        have h1 := last_greatest hris (hsh (by simpa using h)) hall
        have h2 : (x0 :: r).length - 1 = r.length := by simp
        rw [h2, List.getElem?_eq_getElem (by simp)] at h1
        injection h1
      obtain ⟨u, hu, hu1, hu2⟩ := hlast
      have HIDL := Lib.hid hidl; have HMEM := Lib.hid hmem; have HRIS := Lib.hid hris
      have HH0 := Lib.hid h0; have HHU := Lib.hid hu
      have hl1 : (x0 :: r).length = r.length + 1 := rfl
      generalize hm : r.length = m at *
      rw [hl1] at hlen5 honce HR4
      have HLL : Hid ((x0 :: r).length = m + 1) := Lib.hid hl1
      rw [hl1]
      clear hidl hmem hris h0 hu hall hsh hF hLt HI2 HCH HT1 HY HY2 hl1
      generalize x0 :: r = l at *
      clear hm
      have hd1 : decide (y ≤ s1) = true := decide_eq_true hle
      have hd2 : decide (s0 < y2) = true := decide_eq_true hlt2
      go_wp2_with fail
      refine (HID.out _ (HL.out.on HX4.out)).mono ?_
      rintro x w5 ⟨z', rfl, hz', hb⟩
      have HX5 := Lib.hid (HX4.out.trans (hb.mono HX4.out.size))
      obtain rfl := HIDL.out z' hz'
      have HR5 := Lib.hid (own_below HR4.out hb)
      clear hb hz' c0 c1 c2 c3 c4 c5 c6 c7 c8 c9 c10 e0 e1
      obtain ⟨c0, c1, c2, c3, c4, c5, c6, c7, c8, c9, c10⟩ := (HJ.out.on HX5.out).cells
      obtain ⟨e0, e1⟩ := two_box (D.Box.belowAll HSP.out HX5.out)
      obtain ⟨bb, off, rfl, hc0, hca⟩ := arr_at (own_arr HR5.out) HH0.out
      have hcm := hca m u HHU.out
      have HCA := Lib.hid hca
      have hdu : decide (y2 < u) = false := decide_eq_false (by omega)
      have hnu : ¬ y2 < u := by omega
      have hm5 : m < 5 := by have : (5 : Int).toNat = 5 := rfl; omega
      clear hca hlen5 HH0 HHU HR4 HR5 HIDL HID c0 c1 c2 c3 c4 c5 c6 c7 c8 c9 c10
      obtain ⟨c0, c1, c2, c3, c4, c5, c6, c7, c8, c9, c10⟩ := (HJ.out.on HX5.out).cells
      by_cases h5 : m + 1 < 5
      · have hue := hu2 h5
        subst hue
        have hdl : decide ((m : Int) + 1 < 5) = true := decide_eq_true (by omega)
        have hdl' : (m : Int) + 1 < 5 := by omega
        clear hu2
        cases o with
        | true =>
          have hg1 : ¬ 1 < (m : Int) + 1 := by have := honce rfl; omega
          have hg2 : decide (1 < (m : Int) + 1) = false := decide_eq_false hg1
          have hg3 : ¬ 0 < m := by have := honce rfl; omega
          have hg4 : ¬ (0 : Int) < (m : Int) := by omega
          clear honce
          go_wp2_with fail
          go_loop [123] (fun i => ∃ k : Nat, k ≤ m + 1 ∧ i = .int .i64 (k : Int)) (fun i => m + 1 - (intOf i).toNat)
          case atStart => exact ⟨0, by omega, rfl⟩
          case round =>
            clear hc0 hcm
            obtain ⟨k, hk, rfl⟩ := hrel
            by_cases hlt : k < m + 1
            · obtain ⟨v, hv⟩ : ∃ v, l[k]? = some v := ⟨_, List.getElem?_eq_getElem (by rw [HLL.out]; exact hlt)⟩
              obtain ⟨_, hv1, hv2⟩ := HMEM.out v (List.mem_of_getElem? hv)
              have ck := HCA.out k v hv
              have hlt' : (k : Int) < (m : Int) + 1 := by omega
              have hd3 : decide (v ≤ s0) = false := decide_eq_false (by omega)
              have hd4 : decide (s1 < v) = false := decide_eq_false (by omega)
              have hn3 : ¬ v ≤ s0 := by omega
              have hn4 : ¬ s1 < v := by omega
              cases k with
              | zero =>
                clear hv hv1 hv2
                rw [Nat.add_zero] at ck
                go_wp2_with fail
                go_round
                case rel => exact ⟨1, by omega, by go_num⟩
                case measure => simp [intOf]
              | succ q => omega
            · go_wp2_with fail
              go_ret
              exact ⟨rfl, HB0.out.trans (HX5.out.mono HB0.out.size)⟩
        | false =>
          clear honce
          go_wp2_with fail
          go_loop [123] (fun i => ∃ k : Nat, k ≤ m + 1 ∧ i = .int .i64 (k : Int)) (fun i => m + 1 - (intOf i).toNat)
          case atStart => exact ⟨0, by omega, rfl⟩
          case round =>
            clear hc0 hcm
            obtain ⟨k, hk, rfl⟩ := hrel
            by_cases hlt : k < m + 1
            · obtain ⟨v, hv⟩ : ∃ v, l[k]? = some v := ⟨_, List.getElem?_eq_getElem (by rw [HLL.out]; exact hlt)⟩
              obtain ⟨_, hv1, hv2⟩ := HMEM.out v (List.mem_of_getElem? hv)
              have ck := HCA.out k v hv
              have hlt' : (k : Int) < (m : Int) + 1 := by omega
              have hd3 : decide (v ≤ s0) = false := decide_eq_false (by omega)
              have hd4 : decide (s1 < v) = false := decide_eq_false (by omega)
              have hn3 : ¬ v ≤ s0 := by omega
              have hn4 : ¬ s1 < v := by omega
              cases k with
              | zero =>
                clear hv hv1 hv2
                rw [Nat.add_zero] at ck
                go_wp2_with fail
                go_round
                case rel => exact ⟨1, by omega, by go_num⟩
                case measure => simp [intOf]
              | succ q =>
                obtain ⟨v0, hv0⟩ : ∃ v0, l[q]? = some v0 := ⟨_, List.getElem?_eq_getElem (by rw [HLL.out]; omega)⟩
                have cq := HCA.out q v0 hv0
                have hri := rises_at HRIS.out hv0 hv
                have hd5 : decide (v ≤ v0) = false := decide_eq_false (by omega)
                have hn5 : ¬ v ≤ v0 := by omega
                clear hv hv0 hv1 hv2
                go_wp2_with fail
                go_round
                case rel => exact ⟨q + 1 + 1, by omega, by go_num⟩
                case measure => simp [intOf]; omega
            · go_wp2_with fail
              go_ret
              exact ⟨rfl, HB0.out.trans (HX5.out.mono HB0.out.size)⟩
      · have hdl : decide ((m : Int) + 1 < 5) = false := decide_eq_false (by omega)
        have hdl' : ¬ (m : Int) + 1 < 5 := by omega
        clear hu2
        cases o with
        | true => have := honce rfl; omega
        | false =>
          clear honce
          go_wp2_with fail
          go_loop [123] (fun i => ∃ k : Nat, k ≤ m + 1 ∧ i = .int .i64 (k : Int)) (fun i => m + 1 - (intOf i).toNat)
          case atStart => exact ⟨0, by omega, rfl⟩
          case round =>
            clear hc0 hcm
            obtain ⟨k, hk, rfl⟩ := hrel
            by_cases hlt : k < m + 1
            · obtain ⟨v, hv⟩ : ∃ v, l[k]? = some v := ⟨_, List.getElem?_eq_getElem (by rw [HLL.out]; exact hlt)⟩
              obtain ⟨_, hv1, hv2⟩ := HMEM.out v (List.mem_of_getElem? hv)
              have ck := HCA.out k v hv
              have hlt' : (k : Int) < (m : Int) + 1 := by omega
              have hd3 : decide (v ≤ s0) = false := decide_eq_false (by omega)
              have hd4 : decide (s1 < v) = false := decide_eq_false (by omega)
              have hn3 : ¬ v ≤ s0 := by omega
              have hn4 : ¬ s1 < v := by omega
              cases k with
              | zero =>
                clear hv hv1 hv2
                rw [Nat.add_zero] at ck
                go_wp2_with fail
                go_round
                case rel => exact ⟨1, by omega, by go_num⟩
                case measure => simp [intOf]
              | succ q =>
                obtain ⟨v0, hv0⟩ : ∃ v0, l[q]? = some v0 := ⟨_, List.getElem?_eq_getElem (by rw [HLL.out]; omega)⟩
                have cq := HCA.out q v0 hv0
                have hri := rises_at HRIS.out hv0 hv
                have hd5 : decide (v ≤ v0) = false := decide_eq_false (by omega)
                have hn5 : ¬ v ≤ v0 := by omega
                clear hv hv0 hv1 hv2
                go_wp2_with fail
                go_round
                case rel => exact ⟨q + 1 + 1, by omega, by go_num⟩
                case measure => simp [intOf]; omega
            · go_wp2_with fail
              go_ret
              exact ⟨rfl, HB0.out.trans (HX5.out.mono HB0.out.size)⟩
end Go.Proofs.YtbaobjbckabnhaaGreatDoor
