/- DueAll: with CatchAll and OverlapQueue, and an answer behind each launch, nothing is lost: walked. -/
import Derived.Test.YthghcffibljclaaDoorMXWakes
import Derived.Test.YthghcffibljclaaDoorMXGot
namespace Go.Proofs.YthghcffibljclaaDoor
open Go.RowKit

theorem jobC_all {j : JobZ} (hj : j.Fit) : ((jobC j).toArray.setIfInBounds 9 (.int .i64 2)).setIfInBounds 8 (.int .i64 1) = (jobC (allJ j)).toArray := by
  obtain ⟨n, o, L, t, ov, ca, re⟩ := j
  obtain ⟨_, _, hl5⟩ := hj
  obtain ⟨a, b, c, d, e, rfl⟩ := list_five hl5
  rfl
theorem jobC_cells {j : JobZ} (hj : j.Fit) : (jobC j)[8]? = some (.int .i64 j.ov) ∧ (jobC j)[9]? = some (.int .i64 j.ca) ∧ (jobC j)[1]? = some (.bool j.o) := by
  obtain ⟨n, o, L, t, ov, ca, re⟩ := j
  obtain ⟨_, _, hl5⟩ := hj
  obtain ⟨a, b, c, d, e, rfl⟩ := list_five hl5
  exact ⟨rfl, rfl, rfl⟩
theorem allJ_fit {j : JobZ} (h : j.Fit) : (allJ j).Fit := h
theorem built_new11 (x0 x1 x2 x3 x4 x5 x6 x7 x8 x9 x10 y : Value) (hy : ∃ z, y = .int .i64 z) : Tryd.prog.built 33 [(0, .agg #[x0, x1, x2, x3, x4, x5, x6, x7, x8, x9, x10]), (2, y)] = some #[x0, x1, x2, x3, x4, x5, x6, x7, x8, x9, x10, .bool false, y, .int .u64 0, .int .i64 0, .int .i64 0, .slice none 0 0] := by
  obtain ⟨z, rfl⟩ := hy
  kernel_rfl
theorem built_new {j : JobZ} (hj : j.Fit) (nx : Int) : Tryd.prog.built 33 [(0, jobV j), (2, .int .i64 nx)] = some (rowC (newR j nx) (.slice none 0 0)).toArray := by
  obtain ⟨n, o, L, t, ov, ca, re⟩ := j
  obtain ⟨_, _, hl5⟩ := hj
  obtain ⟨a, b, c, d, e, rfl⟩ := list_five hl5
  exact built_new11 _ _ _ _ _ _ _ _ _ _ _ _ ⟨_, rfl⟩
theorem list_build2 {w : World} {ops : Array Oper} {rest : List Oper} {o : Oper} {a : Act} {Q : Exit → Act → World → Prop} {t : TypeId} {v u : Value} {m k : Nat} {cells : Array Value} (hgd : o.guard = none) (x y : Operand) (ho : o.op = .build t #[(m, x), (k, y)]) (hx : a.eval x = v) (hy : a.eval y = u) (hb : Tryd.prog.built t [(m, v), (k, u)] = some cells)
    (h : wpList Tryd.prog ops Q rest (a.put o.dst (.agg cells)) w) : wpList Tryd.prog ops Q (o :: rest) a w :=
  wpList_buildTo hgd t _ ho o.dst rfl cells (by simp only [List.map_toArray, List.map_cons, List.map_nil, hx, hy]; exact hb) h
theorem pick8 (x : Int) : ∃ i : Nat, wrap64 ((IntKind.u64.wrap x).tmod 8) = (i : Int) ∧ i < 8 := by
  have hu : 0 ≤ IntKind.u64.wrap x := by rw [IntKind.wrap_u64]; omega
  generalize IntKind.u64.wrap x = y at *
  have e : y.tmod 8 = y % 8 := Int.tmod_eq_emod_of_nonneg hu
  have h3 := Int.emod_nonneg y (show (8 : Int) ≠ 0 by omega)
  have h4 := Int.emod_lt_of_pos y (show (0 : Int) < 8 by omega)
  rw [e]
  refine ⟨(y % 8).toNat, ?_, by omega⟩
  unfold wrap64
  omega
theorem job_load {W : World} {g : Nat} {j : JobZ} (hf : j.Fit) (h : D.Box W g 28 (jobC j).toArray) : LoadIs W 28 g 0 (jobV j) :=
  load_of h 0 11 _ (fun j u hj => by rw [Nat.zero_add]; exact hj) und_job size_job (jobC_len hf)
set_option maxRecDepth 100000 in
set_option maxHeartbeats 4000000 in
theorem dall_walk (j0 : JobZ) (frm many : Int) (w : World) (hL : LaidC w) (hj0 : j0.Fit) (hf0 : -9223372036854775808 ≤ frm ∧ frm ≤ 9223372036854775807) :
    Calls Tryd.prog 4 #[jobV j0, .int .i64 frm, .int .i64 many] w fun e w' => e = .returned (.bool true) ∧ Below w.heap.size w w' := by
  obtain ⟨ev, hev⟩ := ev_is
  have HJV : Hid (jobV j0 = .agg (jobC j0).toArray) := Lib.hid rfl
  have hx0 := D.Box.new w 28 (jobC j0).toArray
  have hb0 := new_below w (.cells (jobC j0).toArray 28)
  obtain ⟨W0, hW0⟩ : ∃ W : World, W = w.alloc (.cells (jobC j0).toArray 28) := ⟨_, rfl⟩
  rw [← hW0] at hx0 hb0
  have HB0 := Lib.hid hb0; have HX0 := Lib.hid hx0; have HJ0 := Lib.hid hj0
  have HWK := Lib.hid (fun W hW => wakes13_any ev hev W hW)
  have HRV : Hid (∀ nx v, rowV (newR (allJ j0) nx) v = .agg (rowC (newR (allJ j0) nx) v).toArray) := Lib.hid (fun _ _ => rfl)
  have HRV2 : Hid (∀ num t nx v, rowV (ranR (allJ j0) num t nx) v = .agg (rowC (ranR (allJ j0) num t nx) v).toArray) := Lib.hid (fun _ _ _ _ => rfl)
  have HFI := Lib.hid (fun s W hW => jfirst_any ev hev (allJ j0) s W hW (allJ_fit hj0))
  have HCJ := Lib.hid (fun W hW => jcheck_any ev hev (allJ j0) W hW (allJ_fit hj0))
  have HTI := Lib.hid (fun s0 s1 m W hW => jtimes_any ev hev (allJ j0) s0 s1 m W hW (allJ_fit hj0))
  have HCK := Lib.hid (fun nx v W hW hq => checkrow_any ev hev (newR (allJ j0) nx) v W hW ⟨allJ_fit hj0, Int.le_refl _⟩ hq)
  have HST := Lib.hid (fun nx v now num W hW hq hl hn => dstep_any ev hev (newR (allJ j0) nx) v now num W hW ⟨allJ_fit hj0, Int.le_refl _⟩ hq hl hn)
  have HEN := Lib.hid (fun num t nx v fresh W hW h0 hq hl hn => dend_any ev hev (ranR (allJ j0) num t nx) v num fresh true W hW ⟨allJ_fit hj0, h0⟩ hq hl hn)
  unfold TimeIs at HFI
  have HL := Lib.hid (hL.on hb0); have HL0 := Lib.hid hL
  rw [HJV.out]
  clear hL hj0 hev hx0 hb0
  go_enter Tryd.func4, Tryd.ntmps4
  go_upto_region 1 with fail
  rw [← hW0]
  clear hW0
  go_wp2_with fail
  refine (HWK.out _ HL.out).mono ?_
  rintro e w1 ⟨rfl, hb⟩
  have HB1 := Lib.hid hb
  have hx1 := D.Box.belowAll HX0.out hb
  obtain ⟨j8, j9, _⟩ := jobC_cells HJ0.out
  have c8 : w1.cell? ⟨w.heap.size, 8, none⟩ = some (.int .i64 j0.ov) := by rw [D.Box.cell hx1 8, List.getElem?_toArray]; exact j8
  have c9 : w1.cell? ⟨w.heap.size, 9, none⟩ = some (.int .i64 j0.ca) := by rw [D.Box.cell hx1 9, List.getElem?_toArray]; exact j9
  have f8 := hx1.frozen 8; have f9 := hx1.frozen 9
  have hx2 := (hx1.set 9 (.int .i64 2)).set 8 (.int .i64 1)
  rw [jobC_all HJ0.out] at hx2
  have HX2 := Lib.hid hx2
  clear hb HWK hx1 j8 j9 hx2 HX0
  have HLJ2 := Lib.hid (job_load (allJ_fit HJ0.out) HX2.out)
  have hb2 := ((Below.refl W0.heap.size w1).mono (Nat.le_refl _))
  have HB2 : Hid (Below w.heap.size w ((w1.setCell ⟨w.heap.size, 9, none⟩ (.int .i64 2)).setCell ⟨w.heap.size, 8, none⟩ (.int .i64 1))) := Lib.hid (((HB0.out.trans (HB1.out.mono HB0.out.size)).setCell (p := ⟨w.heap.size, 9, none⟩) (Nat.le_refl _) _).setCell (p := ⟨w.heap.size, 8, none⟩) (Nat.le_refl _) _)
  have HL2 : Hid (LaidC ((w1.setCell ⟨w.heap.size, 9, none⟩ (.int .i64 2)).setCell ⟨w.heap.size, 8, none⟩ (.int .i64 1))) := Lib.hid (HL0.out.on HB2.out)
  clear hb2
  go_wp2_with (refine list_load rfl _ rfl rfl HLJ2.out ?_)
  generalize (w1.setCell ⟨w.heap.size, 9, none⟩ (.int .i64 2)).setCell ⟨w.heap.size, 8, none⟩ (.int .i64 1) = w2 at *
  generalize hjz : allJ j0 = j at *
  have HJ : Hid (j.Fit ∧ j.ca = 2) := Lib.hid (by rw [← hjz]; exact ⟨allJ_fit HJ0.out, rfl⟩)
  clear c8 c9 f8 f9 HLJ2 HB1 HB0 hjz HJ0 HJV HL
  refine (HFI.out frm w2 HL2.out).mono ?_
  rintro e w3 ⟨⟨first, ok, rfl, hfi⟩, hb⟩
  have HB3 := Lib.hid (HB2.out.trans (hb.mono HB2.out.size)); have HX3 := Lib.hid (D.Box.belowAll HX2.out hb); have HL3 := Lib.hid (HL2.out.on hb); have HFT := Lib.hid hfi
  have HLJ3 := Lib.hid (job_load HJ.out.1 HX3.out)
  clear hb hfi HFI HX2 HB2 HL2
  go_wp2_with (refine list_load rfl _ rfl rfl HLJ3.out ?_)
  refine (HCJ.out w3 HL3.out).mono ?_
  rintro e w4 ⟨rfl, hb⟩
  have HB4 := Lib.hid (HB3.out.trans (hb.mono HB3.out.size)); have HX4 := Lib.hid (D.Box.belowAll HX3.out hb); have HL4 := Lib.hid (HL3.out.on hb)
  clear hb HCJ HX3 HB3 HL3 HLJ3
  by_cases he : j.err ev = 0
  case neg =>
    have q0 : (j.err ev != 0) = true := by simpa using he
    generalize j.err ev = z at *
    clear he
    go_wp2_with fail
    go_ret
    exact ⟨by first | rfl | simp, HB4.out⟩
  rw [he]
  by_cases h0 : frm < 0
  · have q1 : decide (frm < 0) = true := decide_eq_true h0
    clear h0
    go_wp2_with fail
    go_ret
    exact ⟨by first | rfl | simp, HB4.out⟩
  have q1 : decide (frm < 0) = false := decide_eq_false h0
  cases ok with
  | false =>
    go_wp2_with fail
    go_ret
    exact ⟨by first | rfl | simp, HB4.out⟩
  | true =>
  have HE := Lib.hid he; have HH0 := Lib.hid h0
  have HLJ4 := Lib.hid (job_load HJ.out.1 HX4.out)
  have HBU := Lib.hid (built_new HJ.out.1 first)
  obtain ⟨W5, hs5, hx5, hb5⟩ := row_var3 w4 (newR j first) (.slice none 0 0) ⟨HJ.out.1, Int.le_refl _⟩ rfl
  have HS5 := Lib.hid hs5
  clear he h0 hs5
  have HLR5 := Lib.hid (row_load ⟨HJ.out.1, Int.le_refl _⟩ hx5)
  have HX5 := Lib.hid hx5; have HB5 := Lib.hid (HB4.out.trans (hb5.mono HB4.out.size)); have HL5 := Lib.hid (HL4.out.on hb5); have HXJ5 := Lib.hid (D.Box.belowAll HX4.out hb5)
  have HNR : Hid ((newR j first).Right ev) := Lib.hid (by
    rw [TT_ok HE.out] at HFT
    exact newR_right HE.out (by have := HH0.out; omega) HFT.out)
  have hgw := D.Box.lt HX4.out
  clear hx5 hb5 HX4 HB4 HL4
  go_wp2_with (first | refine list_load rfl _ rfl rfl HLJ4.out ?_ | refine list_build2 rfl _ _ rfl rfl rfl HBU.out ?_ | refine list_store rfl _ _ rfl rfl rfl HS5.out ?_ | refine list_load rfl _ rfl rfl HLR5.out ?_)
  refine (HCK.out first (.slice none 0 0) W5 HL5.out (.nil _)).mono ?_
  rintro e w6 ⟨⟨hp, rfl⟩ | ⟨hp, rfl⟩, hb⟩
  case inr => exact absurd HNR.out hp
  have HB6 := Lib.hid (HB5.out.trans (hb.mono HB5.out.size)); have HL6 := Lib.hid (HL5.out.on hb); have HX6 := Lib.hid (D.Box.belowAll HX5.out hb)
  have HLJ6 := Lib.hid (job_load HJ.out.1 (D.Box.belowAll HXJ5.out hb))
  obtain ⟨n0, hn0, hn8⟩ := pick8 many
  have hw1 : IntKind.i64.wrap ((n0 : Int) + 1) = ((n0 + 1 : Nat) : Int) := by rw [IntKind.wrap_i64]; omega
  have HN8 := Lib.hid hn8
  have HXJ6 := Lib.hid (D.Box.belowAll HXJ5.out hb)
  have HGW := Lib.hid hgw
  have HG6 := Lib.hid (D.Box.lt HX6.out)
  clear hp hb HCK HX5 HB5 HL5 HXJ5 HLR5 HLJ4 HS5 HBU hn8 hgw
  generalize w4.heap.size = g at *
  have HT6 := Lib.hid (HTI.out frm 253402300799 ((n0 : Int) + 1) w6 HL6.out)
  rw [show spanV frm 253402300799 = .agg #[.int .i64 frm, .int .i64 253402300799] from rfl] at HT6
  have HTO : Hid (∀ e w', TimesIs ev j frm 253402300799 ((n0 : Int) + 1) w6.heap.size e w' → ∃ y l, e = Ending.returned (.tuple #[y, .int .i64 0]) ∧ OwnT w' w6.heap.size y l ∧ Chain j.T frm 253402300799 (n0 + 1) l) := Lib.hid (fun e w' h => by
    rcases h with ⟨h, _⟩ | ⟨_, h, _⟩ | ⟨_, _, _, y, l, rfl, h1, h2⟩
    · exact absurd HE.out h
    · have := HN8.out; omega
    · exact ⟨y, l, rfl, h1, by rw [show ((n0 : Int) + 1).toNat = n0 + 1 by omega] at h2; exact h2⟩)
  generalize TimesIs ev j frm 253402300799 ((n0 : Int) + 1) w6.heap.size = TI at *
  clear HTI
  go_upto_region 9 with (first | refine list_load rfl _ rfl rfl HLJ6.out ?_)
  refine HT6.out.mono ?_
  rintro e w7 ⟨hx, hb⟩
  obtain ⟨y, l, rfl, hoy, hch⟩ := HTO.out e w7 hx
  obtain ⟨Ay, cy, rfl⟩ := own_slice0 hoy
  have HB7 := Lib.hid (HB6.out.trans (hb.mono HB6.out.size)); have HL7 := Lib.hid (HL6.out.on hb); have HX7 := Lib.hid (D.Box.belowAll HX6.out hb); have HXJ7 := Lib.hid (D.Box.belowAll HXJ6.out hb); have HS67 := Lib.hid hb.size
  have HOY := Lib.hid hoy; have HCH := Lib.hid hch
  clear hx hb hoy hch HT6 HTO HB6 HL6 HX6 HLJ6 hn0 hw1 HXJ6
  have HLEN : Hid (l.length ≤ 8) := Lib.hid (by have := chain_len _ _ _ _ HCH.out; have := HN8.out; omega)
  have HST0 : Hid (∀ t, l[0]? = some t → first = t) := Lib.hid (by
    have h := HFT.out
    rw [TT_ok HE.out] at h
    exact all_start HCH.out h)
  go_wp2_with fail
  obtain ⟨nn, hnn⟩ : ∃ nn, l.length = nn := ⟨_, rfl⟩
  rw [hnn]
  have HNN := Lib.hid hnn
  have hn8 : nn ≤ 8 := by rw [← hnn]; exact HLEN.out
  clear hnn
  obtain ⟨i0, hi, hz0, hz1, hz2⟩ := info_parts info_i64
  go_loopw [64, 13] (fun i s13 wr => ∃ (k : Nat) (nx : Int) (v vt : Value), k ≤ nn ∧ i = .int .i64 (k : Int) ∧ vt = s13 ∧ Hid (AllMem w w7 g j nx v vt (l.take k) wr) ∧ Hid ((newR j nx).Right ev) ∧ Hid (∀ t, l[k]? = some t → nx = t)) (fun i _ _ => nn - (intOf i).toNat)
  case atStart => exact ⟨0, first, .slice none 0 0, .slice none 0 0, Nat.zero_le _, rfl, rfl, Lib.hid ⟨HX7.out, .nil _, OwnT.nil _ _, Spares.below (Below.refl _ _), HB7.out⟩, HNR, HST0⟩
  case round =>
    clear HX7 HNR HST0 HFT
    obtain ⟨k, nx, v, vt, hk, rfl, hvt0, HM, HR, HNX⟩ := hrel
    subst hvt0
    by_cases hlt : k < nn
    · obtain ⟨t, ht⟩ : ∃ t, l[k]? = some t := ⟨_, List.getElem?_eq_getElem (by have := HNN.out; omega)⟩
      have hnxt := HNX.out t ht
      subst hnxt
      have HT := Lib.hid (all_time HCH.out HH0.out ht)
      have HNEX := Lib.hid (fun nx' h => all_next HCH.out ht (nx := nx') h)
      have HTK : Hid (l.take (k + 1) = l.take k ++ [nx]) := Lib.hid (by rw [List.take_add_one, ht, Option.toList_some])
      have htb : D.timeB nx = true := by have := HT.out.2; exact decide_eq_true (by unfold D.TimeZ; omega)
      have hoy : OwnT wr w6.heap.size (.slice Ay l.length cy) l := HM.out.spares.own2 HOY.out (fun e => by have := (World.ownsRow.lt HOY.out _ e).1; have := HG6.out; omega)
      obtain ⟨A', c', e', _, _, _, h4⟩ := hoy.qr
      cases e'
      obtain ⟨b, o, rfl, hbl, ck⟩ := qr_at h4 ht
      have HK1 : Hid (∀ W, Below wr.heap.size wr W → W.rangeAt g 0 (rowC (newR j nx) v) ∧ W.cell? ⟨b, o + k, none⟩ = some (.int .i64 nx)) := Lib.hid (fun W hb => ⟨row_range (D.Box.belowAll HM.out.box hb), (hb.cell (p := ⟨b, o + k, none⟩) hbl).trans ck⟩)
      have HSTK : Hid (∀ W, Below wr.heap.size wr W → Calls Tryd.prog 9 #[rowV (newR j nx) v, .int .i64 nx, .int .u64 (2 * (k : Int) + 1)] W fun e w' => (∃ nx2 z y, e = .returned (.tuple #[z, y, .int .i64 0]) ∧ NextZ j.T nx nx2 ∧ (ranR j (2 * (k : Int) + 1) nx nx2).Right ev ∧ RowTold W.heap.size (ranR j (2 * (k : Int) + 1) nx nx2) [⟨2 * (k : Int) + 1, j.n, nx, 0⟩] z y w') ∧ Below W.heap.size W w') := Lib.hid (fun W hb => (HST.out nx v nx (2 * (k : Int) + 1) W ((HL0.out.on HM.out.below).on hb) (qr_nil HM.out.qr) (by simp [newR]) (by omega)).mono (fun e w' h => ⟨all_stepIs h.1 HR.out HJ.out.2 HT.out.2.1 HT.out.1 htb (by omega), h.2⟩))
      have HFR : Hid (∀ nx2, (ranR j (2 * (k : Int) + 1) nx nx2).Fit) := Lib.hid (fun nx2 => ⟨HJ.out.1, by show (0 : Int) ≤ 2 * (k : Int) + 1; omega⟩)
      have hk8 : (k : Int) ≤ 8 := by omega
      have hm1 : IntKind.i64.wrap (2 * (k : Int)) = 2 * (k : Int) := by rw [IntKind.wrap_i64]; omega
      have hm2 : IntKind.i64.wrap (2 * (k : Int) + 1) = 2 * (k : Int) + 1 := by rw [IntKind.wrap_i64]; omega
      have hm3 : IntKind.u64.wrap (2 * (k : Int) + 1) = 2 * (k : Int) + 1 := by rw [IntKind.wrap_u64]; omega
      have g1 : (0 : Int) ≤ (k : Int) := by omega
      have g2 : (k : Int) < (nn : Int) := by omega
      rw [HRV.out nx v] at HSTK
      obtain ⟨dr, hdr1, hdr2⟩ := und_row
      have hdr3 : (Tryd.prog.info? 33).map (·.size) = some (rowC (newR j nx) v).length := by rw [size_row, rowC_len ⟨HJ.out.1, Int.le_refl _⟩]
      have HK := HK1
      clear hoy h4 hbl ck ht htb HK1
      generalize hCR : rowC (newR j nx) v = CR at HK HSTK hdr3
      go_upto_region 18 with fail
      go_cut [15, 16, 17] from 67 to 80 (fun s15 s16 s17 wx => ∃ (g2 : Nat) (y : Value) (nx2 : Int), s15 = .pointer (some ⟨g2, 0, none⟩) ∧ s16 = y ∧ s17 = .int .i64 0 ∧ wr.heap.size ≤ g2 ∧ Got wr.heap.size (ranR j (2 * (k : Int) + 1) nx nx2) [⟨2 * (k : Int) + 1, j.n, nx, 0⟩] g2 y wx ∧ Below wr.heap.size wr wx ∧ NextZ j.T nx nx2 ∧ (ranR j (2 * (k : Int) + 1) nx nx2).Right ev)
      case first =>
        have hBE := Below.refl wr.heap.size wr
        refine wp_region_held_drew (S := (fun w' => w'.rangeAt g 0 CR ∧ w'.cell? ⟨b, o + k, none⟩ = some (.int .i64 nx))) (by kernel_rfl) (HK.out _ hBE.drew) (fun hHeld => ?_)
        replace hBE := hBE.drew
        obtain ⟨w0r, hw0r⟩ : ∃ w0r : World, w0r = wr.drew := ⟨_, rfl⟩
        rw [← hw0r] at hBE hHeld ⊢
        clear hw0r
        refine wpAnyH_take (i := 1) (oi := { dst := some 69, op := Op.move (Operand.tmp 11), type := 31, pos := "outright.go:88", after := #[], guard := none }) (v := ?zv0) rfl (by kernel_rfl) (by kernel_rfl) (by kernel_rfl) (fun _ _ _ h => h) (Or.inl ⟨by rfl, ?zh0⟩) (by assumption) ?zr0
        case zh0 => (intro w hSw; (try dsimp only at hSw); go_simp; (try with_reducible rfl))
        try simp only [Act.put, List.setIfInBounds_toArray, List.set_cons_zero, List.set_cons_succ]
        refine wpAnyH_take (i := 2) (oi := { dst := some 70, op := Op.move (Operand.tmp 14), type := 3, pos := "outright.go:88", after := #[], guard := none }) (v := ?zv1) rfl (by kernel_rfl) (by kernel_rfl) (by kernel_rfl) (fun _ _ _ h => h) (Or.inl ⟨by rfl, ?zh1⟩) (by assumption) ?zr1
        case zh1 => (intro w hSw; (try dsimp only at hSw); go_simp; (try with_reducible rfl))
        try simp only [Act.put, List.setIfInBounds_toArray, List.set_cons_zero, List.set_cons_succ]
        refine wpAnyH_take (i := 3) (oi := { dst := some 71, op := Op.indexAddr 31 (Operand.tmp 69) (Operand.tmp 70), type := 0, pos := "outright.go:88", after := #[{ on := 1, ground := Ground.data }, { on := 2, ground := Ground.data }], guard := none }) (v := ?zv2) rfl (by kernel_rfl) (by kernel_rfl) (by kernel_rfl) (fun _ _ _ h => h) (Or.inl ⟨by rfl, ?zh2⟩) (by assumption) ?zr2
        case zh2 => (intro w hSw; (try dsimp only at hSw); go_simp; (try with_reducible rfl))
        try simp only [Act.put, List.setIfInBounds_toArray, List.set_cons_zero, List.set_cons_succ]
        refine wpAnyH_take (i := 4) (oi := { dst := some 72, op := Op.load 2 (Operand.tmp 71), type := 2, pos := "outright.go:88", after := #[{ on := 3, ground := Ground.data }], guard := none }) (v := ?zv3) rfl (by kernel_rfl) (by kernel_rfl) (by kernel_rfl) (fun _ _ _ h => h) (Or.inl ⟨by rfl, ?zh3⟩) (by assumption) ?zr3
        case zh3 => (intro w hSw; (try dsimp only at hSw); go_simp; (try with_reducible rfl))
        try simp only [Act.put, List.setIfInBounds_toArray, List.set_cons_zero, List.set_cons_succ]
        refine wpAnyH_take (i := 5) (oi := { dst := some 73, op := Op.move (Operand.tmp 14), type := 3, pos := "outright.go:88", after := #[], guard := none }) (v := ?zv4) rfl (by kernel_rfl) (by kernel_rfl) (by kernel_rfl) (fun _ _ _ h => h) (Or.inl ⟨by rfl, ?zh4⟩) (by assumption) ?zr4
        case zh4 => (intro w hSw; (try dsimp only at hSw); go_simp; (try with_reducible rfl))
        try simp only [Act.put, List.setIfInBounds_toArray, List.set_cons_zero, List.set_cons_succ]
        refine wpAnyH_take (i := 6) (oi := { dst := some 74, op := Op.binOp BinOp.mul 3 (Operand.const (Value.int IntKind.i64 2)) (Operand.tmp 73) 3, type := 3, pos := "outright.go:88", after := #[{ on := 5, ground := Ground.data }], guard := none }) (v := ?zv5) rfl (by kernel_rfl) (by kernel_rfl) (by kernel_rfl) (fun _ _ _ h => h) (Or.inl ⟨by rfl, ?zh5⟩) (by assumption) ?zr5
        case zh5 => (intro w hSw; (try dsimp only at hSw); go_simp; (try with_reducible rfl))
        try simp only [Act.put, List.setIfInBounds_toArray, List.set_cons_zero, List.set_cons_succ]
        refine wpAnyH_take (i := 7) (oi := { dst := some 75, op := Op.binOp BinOp.add 3 (Operand.tmp 74) (Operand.const (Value.int IntKind.i64 1)) 3, type := 3, pos := "outright.go:88", after := #[{ on := 6, ground := Ground.data }], guard := none }) (v := ?zv6) rfl (by kernel_rfl) (by kernel_rfl) (by kernel_rfl) (fun _ _ _ h => h) (Or.inl ⟨by rfl, ?zh6⟩) (by assumption) ?zr6
        case zh6 => (intro w hSw; (try dsimp only at hSw); go_simp; (try with_reducible rfl))
        try simp only [Act.put, List.setIfInBounds_toArray, List.set_cons_zero, List.set_cons_succ]
        refine wpAnyH_take (i := 8) (oi := { dst := some 76, op := Op.convert 3 23 (Operand.tmp 75), type := 23, pos := "outright.go:88", after := #[{ on := 7, ground := Ground.data }], guard := none }) (v := ?zv7) rfl (by kernel_rfl) (by kernel_rfl) (by kernel_rfl) (fun _ _ _ h => h) (Or.inl ⟨by rfl, ?zh7⟩) (by assumption) ?zr7
        case zh7 => (intro w hSw; (try dsimp only at hSw); go_simp; (try with_reducible rfl))
        try simp only [Act.put, List.setIfInBounds_toArray, List.set_cons_zero, List.set_cons_succ]
        refine wpAnyH_take (i := 0) (oi := { dst := some 68, op := Op.load 33 (Operand.tmp 9), type := 33, pos := "outright.go:88", after := #[], guard := none }) (v := .agg CR.toArray) rfl (by kernel_rfl) (by kernel_rfl) (by kernel_rfl) (fun _ _ _ h => h) (yieldsIf_load_mid (by rfl) _ _ rfl _ _ rfl CR dr (fun _ hw => hw.1) hdr1 hdr2 hdr3) (by assumption) ?_
        try simp only [Act.put, List.setIfInBounds_toArray, List.set_cons_zero, List.set_cons_succ]
        refine wpAnyH_ready (rs := [9, 14]) (by kernel_rfl) (by simp) (AllReadyH.cons (o := { dst := some 77, op := Op.call { callee := Callee.value (Operand.func 9), args := #[Operand.tmp 68, Operand.tmp 72, Operand.tmp 76], argTypes := #[33, 2, 23] }, type := 40, pos := "outright.go:88", after := #[{ on := 0, ground := Ground.data }, { on := 4, ground := Ground.data }, { on := 8, ground := Ground.data }], guard := none }) rfl (fun K hK => ?_) (AllReadyH.cons (o := { dst := some 15, op := Op.alloc 33, type := 0, pos := "outright.go:88", after := #[], guard := none }) rfl (fun K hK => ?_) (AllReadyH.nil)))
        · go_simp
          refine (HSTK.out _ hBE).mono ?_
          rintro e w8 ⟨⟨nx2, z, y, rfl, hnx, hrr, hrt⟩, hbc⟩
          have hbs := hBE.size
          replace hBE := hBE.trans (hbc.mono hBE.size)
          refine hK.out _ _ (HK.out _ hBE) (fun hHeld2 => ?_)
          clear hK K hHeld
          have hHeld := hHeld2
          clear hHeld2
          try simp only [Act.put, List.setIfInBounds_toArray, List.set_cons_zero, List.set_cons_succ]
          refine wpAnyH_take (i := 10) (oi := { dst := some 67, op := Op.move (Operand.tmp 77), type := 40, pos := "outright.go:88", after := #[{ on := 9, ground := Ground.data }], guard := none }) (v := ?zv8) rfl (by kernel_rfl) (by kernel_rfl) (by kernel_rfl) (fun _ _ _ h => h) (Or.inl ⟨by rfl, ?zh8⟩) (by assumption) ?zr8
          case zh8 => (intro w hSw; (try dsimp only at hSw); go_simp; (try with_reducible rfl))
          try simp only [Act.put, List.setIfInBounds_toArray, List.set_cons_zero, List.set_cons_succ]
          refine wpAnyH_take (i := 11) (oi := { dst := some 78, op := Op.extract (Operand.tmp 67) 0, type := 33, pos := "outright.go:88", after := #[{ on := 10, ground := Ground.data }], guard := none }) (v := ?zv9) rfl (by kernel_rfl) (by kernel_rfl) (by kernel_rfl) (fun _ _ _ h => h) (Or.inl ⟨by rfl, ?zh9⟩) (by assumption) ?zr9
          case zh9 => (intro w hSw; (try dsimp only at hSw); go_simp; (try with_reducible rfl))
          try simp only [Act.put, List.setIfInBounds_toArray, List.set_cons_zero, List.set_cons_succ]
          refine wpAnyH_take (i := 12) (oi := { dst := some 79, op := Op.extract (Operand.tmp 67) 1, type := 39, pos := "outright.go:88", after := #[{ on := 10, ground := Ground.data }, { on := 15, ground := Ground.gcOnly Departure.lateStores }], guard := none }) (v := ?zv10) rfl (by kernel_rfl) (by kernel_rfl) (by kernel_rfl) (fun _ _ _ h => h) (Or.inl ⟨by rfl, ?zh10⟩) (by assumption) ?zr10
          case zh10 => (intro w hSw; (try dsimp only at hSw); go_simp; (try with_reducible rfl))
          try simp only [Act.put, List.setIfInBounds_toArray, List.set_cons_zero, List.set_cons_succ]
          refine wpAnyH_take (i := 13) (oi := { dst := some 80, op := Op.extract (Operand.tmp 67) 2, type := 37, pos := "outright.go:88", after := #[{ on := 10, ground := Ground.data }, { on := 16, ground := Ground.gcOnly Departure.lateStores }], guard := none }) (v := ?zv11) rfl (by kernel_rfl) (by kernel_rfl) (by kernel_rfl) (fun _ _ _ h => h) (Or.inl ⟨by rfl, ?zh11⟩) (by assumption) ?zr11
          case zh11 => (intro w hSw; (try dsimp only at hSw); go_simp; (try with_reducible rfl))
          try simp only [Act.put, List.setIfInBounds_toArray, List.set_cons_zero, List.set_cons_succ]
          refine wpAnyH_ready (rs := [14]) (by kernel_rfl) (by simp) (AllReadyH.cons (o := { dst := some 15, op := Op.alloc 33, type := 0, pos := "outright.go:88", after := #[], guard := none }) rfl (fun K hK => ?_) (AllReadyH.nil))
          go_simp
          clear hbc
          obtain ⟨W9, hs9, hg9, hb9⟩ := got_after (w0 := wr) (cs := #[.int .u32 0, .bool false, .int .u64 0, .int .u64 0, .int .u64 0, .int .u64 0, .int .u64 0, .int .i64 0, .int .i64 0, .int .i64 0, .int .i64 0, .bool false, .int .i64 0, .int .u64 0, .int .i64 0, .int .i64 0, .slice none 0 0]) rfl (HFR.out _) hrt hbs hBE
          have hgl := hBE.size
          have hBEa := hBE.alloc hBE.size (.cells #[.int .u32 0, .bool false, .int .u64 0, .int .u64 0, .int .u64 0, .int .u64 0, .int .u64 0, .int .i64 0, .int .i64 0, .int .i64 0, .int .i64 0, .bool false, .int .i64 0, .int .u64 0, .int .i64 0, .int .i64 0, .slice none 0 0] 33)
          obtain ⟨wa, hwa⟩ : ∃ wa : World, wa = w8.alloc (.cells #[.int .u32 0, .bool false, .int .u64 0, .int .u64 0, .int .u64 0, .int .u64 0, .int .u64 0, .int .i64 0, .int .i64 0, .int .i64 0, .int .i64 0, .bool false, .int .i64 0, .int .u64 0, .int .i64 0, .int .i64 0, .slice none 0 0] 33) := ⟨_, rfl⟩
          rw [← hwa] at hs9 hBEa ⊢
          clear hwa
          generalize w8.heap.size = g2 at *
          refine hK.out _ _ (HK.out _ hBEa) (fun hHeld2 => ?_)
          clear hK K hHeld
          have hHeld := hHeld2
          clear hHeld2
          try simp only [Act.put, List.setIfInBounds_toArray, List.set_cons_zero, List.set_cons_succ]
          refine wpAnyH_ready (rs := [15]) (by kernel_rfl) (by simp) (AllReadyH.cons (o := { dst := none, op := Op.store 33 (Operand.tmp 15) (Operand.tmp 78), type := 0, pos := "outright.go:88", after := #[{ on := 14, ground := Ground.data }, { on := 11, ground := Ground.data }, { on := 9, ground := Ground.chain }, { on := 0, ground := Ground.phase }, { on := 1, ground := Ground.phase }, { on := 2, ground := Ground.phase }, { on := 3, ground := Ground.phase }, { on := 4, ground := Ground.phase }, { on := 5, ground := Ground.phase }, { on := 6, ground := Ground.phase }, { on := 7, ground := Ground.phase }, { on := 8, ground := Ground.phase }, { on := 9, ground := Ground.phase }, { on := 10, ground := Ground.phase }, { on := 11, ground := Ground.phase }, { on := 12, ground := Ground.textOnly Departure.lateStores }, { on := 13, ground := Ground.textOnly Departure.lateStores }, { on := 14, ground := Ground.phase }], guard := none }) rfl (fun K hK => ?_) (AllReadyH.nil))
          refine wp_store_is _ _ rfl rfl rfl hs9 ?_
          refine hK.out _ _ (HK.out _ hb9) (fun hHeld2 => ?_)
          clear hK K hHeld
          have hHeld := hHeld2
          clear hHeld2
          try simp only [Act.put]
          refine wpAnyH_take (i := 16) (oi := { dst := some 16, op := Op.assign (Operand.tmp 79), type := 39, pos := "outright.go:88", after := #[{ on := 12, ground := Ground.data }, { on := 15, ground := Ground.chain }, { on := 0, ground := Ground.phase }, { on := 1, ground := Ground.phase }, { on := 2, ground := Ground.phase }, { on := 3, ground := Ground.phase }, { on := 4, ground := Ground.phase }, { on := 5, ground := Ground.phase }, { on := 6, ground := Ground.phase }, { on := 7, ground := Ground.phase }, { on := 8, ground := Ground.phase }, { on := 9, ground := Ground.phase }, { on := 10, ground := Ground.phase }, { on := 11, ground := Ground.phase }, { on := 12, ground := Ground.phase }, { on := 13, ground := Ground.textOnly Departure.lateStores }, { on := 14, ground := Ground.phase }, { on := 15, ground := Ground.phase }], guard := none }) (v := ?zv12) rfl (by kernel_rfl) (by kernel_rfl) (by kernel_rfl) (fun _ _ _ h => h) (Or.inl ⟨by rfl, ?zh12⟩) (by assumption) ?zr12
          case zh12 => (intro w hSw; (try dsimp only at hSw); go_simp; (try with_reducible rfl))
          try simp only [Act.put, List.setIfInBounds_toArray, List.set_cons_zero, List.set_cons_succ]
          refine wpAnyH_take (i := 17) (oi := { dst := some 17, op := Op.assign (Operand.tmp 80), type := 37, pos := "outright.go:88", after := #[{ on := 13, ground := Ground.data }, { on := 16, ground := Ground.chain }, { on := 0, ground := Ground.phase }, { on := 1, ground := Ground.phase }, { on := 2, ground := Ground.phase }, { on := 3, ground := Ground.phase }, { on := 4, ground := Ground.phase }, { on := 5, ground := Ground.phase }, { on := 6, ground := Ground.phase }, { on := 7, ground := Ground.phase }, { on := 8, ground := Ground.phase }, { on := 9, ground := Ground.phase }, { on := 10, ground := Ground.phase }, { on := 11, ground := Ground.phase }, { on := 12, ground := Ground.phase }, { on := 13, ground := Ground.phase }, { on := 14, ground := Ground.phase }, { on := 15, ground := Ground.phase }, { on := 16, ground := Ground.phase }], guard := none }) (v := ?zv13) rfl (by kernel_rfl) (by kernel_rfl) (by kernel_rfl) (fun _ _ _ h => h) (Or.inl ⟨by rfl, ?zh13⟩) (by assumption) ?zr13
          case zh13 => (intro w hSw; (try dsimp only at hSw); go_simp; (try with_reducible rfl))
          try simp only [Act.put, List.setIfInBounds_toArray, List.set_cons_zero, List.set_cons_succ]
          refine wpAnyH_done (by kernel_rfl) ?_ _
          clear hHeld
          go_wp2_with fail
          go_meet
          exact ⟨g2, y, nx2, rfl, rfl, rfl, hgl, hg9, hb9, hnx, hrr⟩
        · go_simp
          have hx9 := D.Box.new w0r 33 #[.int .u32 0, .bool false, .int .u64 0, .int .u64 0, .int .u64 0, .int .u64 0, .int .u64 0, .int .i64 0, .int .i64 0, .int .i64 0, .int .i64 0, .bool false, .int .i64 0, .int .u64 0, .int .i64 0, .int .i64 0, .slice none 0 0]
          have hgl := hBE.size
          replace hBE := hBE.alloc hBE.size (.cells #[.int .u32 0, .bool false, .int .u64 0, .int .u64 0, .int .u64 0, .int .u64 0, .int .u64 0, .int .i64 0, .int .i64 0, .int .i64 0, .int .i64 0, .bool false, .int .i64 0, .int .u64 0, .int .i64 0, .int .i64 0, .slice none 0 0] 33)
          obtain ⟨wa, hwa⟩ : ∃ wa : World, wa = w0r.alloc (.cells #[.int .u32 0, .bool false, .int .u64 0, .int .u64 0, .int .u64 0, .int .u64 0, .int .u64 0, .int .i64 0, .int .i64 0, .int .i64 0, .int .i64 0, .bool false, .int .i64 0, .int .u64 0, .int .i64 0, .int .i64 0, .slice none 0 0] 33) := ⟨_, rfl⟩
          rw [← hwa] at hx9 hBE ⊢
          clear hwa
          generalize w0r.heap.size = g2 at *
          have hlt := D.Box.lt hx9
          refine hK.out _ _ (HK.out _ hBE) (fun hHeld2 => ?_)
          clear hK K hHeld
          have hHeld := hHeld2
          clear hHeld2
          try simp only [Act.put, List.setIfInBounds_toArray, List.set_cons_zero, List.set_cons_succ]
          refine wpAnyH_ready (rs := [9]) (by kernel_rfl) (by simp) (AllReadyH.cons (o := { dst := some 77, op := Op.call { callee := Callee.value (Operand.func 9), args := #[Operand.tmp 68, Operand.tmp 72, Operand.tmp 76], argTypes := #[33, 2, 23] }, type := 40, pos := "outright.go:88", after := #[{ on := 0, ground := Ground.data }, { on := 4, ground := Ground.data }, { on := 8, ground := Ground.data }], guard := none }) rfl (fun K hK => ?_) (AllReadyH.nil))
          go_simp
          refine (HSTK.out _ hBE).mono ?_
          rintro e w8 ⟨⟨nx2, z, y, rfl, hnx, hrr, hrt⟩, hbc⟩
          have hbs := hBE.size
          replace hBE := hBE.trans (hbc.mono hBE.size)
          replace hx9 := D.Box.belowAll hx9 hbc
          clear hbc
          refine hK.out _ _ (HK.out _ hBE) (fun hHeld2 => ?_)
          clear hK K hHeld
          have hHeld := hHeld2
          clear hHeld2
          try simp only [Act.put, List.setIfInBounds_toArray, List.set_cons_zero, List.set_cons_succ]
          refine wpAnyH_take (i := 10) (oi := { dst := some 67, op := Op.move (Operand.tmp 77), type := 40, pos := "outright.go:88", after := #[{ on := 9, ground := Ground.data }], guard := none }) (v := ?zv14) rfl (by kernel_rfl) (by kernel_rfl) (by kernel_rfl) (fun _ _ _ h => h) (Or.inl ⟨by rfl, ?zh14⟩) (by assumption) ?zr14
          case zh14 => (intro w hSw; (try dsimp only at hSw); go_simp; (try with_reducible rfl))
          try simp only [Act.put, List.setIfInBounds_toArray, List.set_cons_zero, List.set_cons_succ]
          refine wpAnyH_take (i := 11) (oi := { dst := some 78, op := Op.extract (Operand.tmp 67) 0, type := 33, pos := "outright.go:88", after := #[{ on := 10, ground := Ground.data }], guard := none }) (v := ?zv15) rfl (by kernel_rfl) (by kernel_rfl) (by kernel_rfl) (fun _ _ _ h => h) (Or.inl ⟨by rfl, ?zh15⟩) (by assumption) ?zr15
          case zh15 => (intro w hSw; (try dsimp only at hSw); go_simp; (try with_reducible rfl))
          try simp only [Act.put, List.setIfInBounds_toArray, List.set_cons_zero, List.set_cons_succ]
          refine wpAnyH_take (i := 12) (oi := { dst := some 79, op := Op.extract (Operand.tmp 67) 1, type := 39, pos := "outright.go:88", after := #[{ on := 10, ground := Ground.data }, { on := 15, ground := Ground.gcOnly Departure.lateStores }], guard := none }) (v := ?zv16) rfl (by kernel_rfl) (by kernel_rfl) (by kernel_rfl) (fun _ _ _ h => h) (Or.inl ⟨by rfl, ?zh16⟩) (by assumption) ?zr16
          case zh16 => (intro w hSw; (try dsimp only at hSw); go_simp; (try with_reducible rfl))
          try simp only [Act.put, List.setIfInBounds_toArray, List.set_cons_zero, List.set_cons_succ]
          refine wpAnyH_take (i := 13) (oi := { dst := some 80, op := Op.extract (Operand.tmp 67) 2, type := 37, pos := "outright.go:88", after := #[{ on := 10, ground := Ground.data }, { on := 16, ground := Ground.gcOnly Departure.lateStores }], guard := none }) (v := ?zv17) rfl (by kernel_rfl) (by kernel_rfl) (by kernel_rfl) (fun _ _ _ h => h) (Or.inl ⟨by rfl, ?zh17⟩) (by assumption) ?zr17
          case zh17 => (intro w hSw; (try dsimp only at hSw); go_simp; (try with_reducible rfl))
          try simp only [Act.put, List.setIfInBounds_toArray, List.set_cons_zero, List.set_cons_succ]
          refine wpAnyH_ready (rs := [15]) (by kernel_rfl) (by simp) (AllReadyH.cons (o := { dst := none, op := Op.store 33 (Operand.tmp 15) (Operand.tmp 78), type := 0, pos := "outright.go:88", after := #[{ on := 14, ground := Ground.data }, { on := 11, ground := Ground.data }, { on := 9, ground := Ground.chain }, { on := 0, ground := Ground.phase }, { on := 1, ground := Ground.phase }, { on := 2, ground := Ground.phase }, { on := 3, ground := Ground.phase }, { on := 4, ground := Ground.phase }, { on := 5, ground := Ground.phase }, { on := 6, ground := Ground.phase }, { on := 7, ground := Ground.phase }, { on := 8, ground := Ground.phase }, { on := 9, ground := Ground.phase }, { on := 10, ground := Ground.phase }, { on := 11, ground := Ground.phase }, { on := 12, ground := Ground.textOnly Departure.lateStores }, { on := 13, ground := Ground.textOnly Departure.lateStores }, { on := 14, ground := Ground.phase }], guard := none }) rfl (fun K hK => ?_) (AllReadyH.nil))
          obtain ⟨W9, hs9, hg9, hb9⟩ := got_before (w0 := wr) hx9 rfl (HFR.out _) hrt hlt hBE hgl
          refine wp_store_is _ _ rfl rfl rfl hs9 ?_
          refine hK.out _ _ (HK.out _ hb9) (fun hHeld2 => ?_)
          clear hK K hHeld
          have hHeld := hHeld2
          clear hHeld2
          try simp only [Act.put]
          refine wpAnyH_take (i := 16) (oi := { dst := some 16, op := Op.assign (Operand.tmp 79), type := 39, pos := "outright.go:88", after := #[{ on := 12, ground := Ground.data }, { on := 15, ground := Ground.chain }, { on := 0, ground := Ground.phase }, { on := 1, ground := Ground.phase }, { on := 2, ground := Ground.phase }, { on := 3, ground := Ground.phase }, { on := 4, ground := Ground.phase }, { on := 5, ground := Ground.phase }, { on := 6, ground := Ground.phase }, { on := 7, ground := Ground.phase }, { on := 8, ground := Ground.phase }, { on := 9, ground := Ground.phase }, { on := 10, ground := Ground.phase }, { on := 11, ground := Ground.phase }, { on := 12, ground := Ground.phase }, { on := 13, ground := Ground.textOnly Departure.lateStores }, { on := 14, ground := Ground.phase }, { on := 15, ground := Ground.phase }], guard := none }) (v := ?zv18) rfl (by kernel_rfl) (by kernel_rfl) (by kernel_rfl) (fun _ _ _ h => h) (Or.inl ⟨by rfl, ?zh18⟩) (by assumption) ?zr18
          case zh18 => (intro w hSw; (try dsimp only at hSw); go_simp; (try with_reducible rfl))
          try simp only [Act.put, List.setIfInBounds_toArray, List.set_cons_zero, List.set_cons_succ]
          refine wpAnyH_take (i := 17) (oi := { dst := some 17, op := Op.assign (Operand.tmp 80), type := 37, pos := "outright.go:88", after := #[{ on := 13, ground := Ground.data }, { on := 16, ground := Ground.chain }, { on := 0, ground := Ground.phase }, { on := 1, ground := Ground.phase }, { on := 2, ground := Ground.phase }, { on := 3, ground := Ground.phase }, { on := 4, ground := Ground.phase }, { on := 5, ground := Ground.phase }, { on := 6, ground := Ground.phase }, { on := 7, ground := Ground.phase }, { on := 8, ground := Ground.phase }, { on := 9, ground := Ground.phase }, { on := 10, ground := Ground.phase }, { on := 11, ground := Ground.phase }, { on := 12, ground := Ground.phase }, { on := 13, ground := Ground.phase }, { on := 14, ground := Ground.phase }, { on := 15, ground := Ground.phase }, { on := 16, ground := Ground.phase }], guard := none }) (v := ?zv19) rfl (by kernel_rfl) (by kernel_rfl) (by kernel_rfl) (fun _ _ _ h => h) (Or.inl ⟨by rfl, ?zh19⟩) (by assumption) ?zr19
          case zh19 => (intro w hSw; (try dsimp only at hSw); go_simp; (try with_reducible rfl))
          try simp only [Act.put, List.setIfInBounds_toArray, List.set_cons_zero, List.set_cons_succ]
          refine wpAnyH_done (by kernel_rfl) ?_ _
          clear hHeld
          go_wp2_with fail
          go_meet
          exact ⟨g2, y, nx2, rfl, rfl, rfl, hgl, hg9, hb9, hnx, hrr⟩
      case rest =>
        obtain ⟨g2, y, nx2, rfl, rfl, rfl, hgl, hgot, hb, hnx, hrr⟩ := hcut
        obtain ⟨v2, hx2, hs2, hv2, hla⟩ := hgot
        obtain ⟨b2, o2, c2, rfl, hc2, hb2, _, _, cdue, _⟩ := las_uno hla
        have HM2 := Lib.hid (HM.out.on hb)
        have hrow : wc.ownsRow w7.heap.size 2 1 vt (l.take k).length ((l.take k).map int1) := HM2.out.told
        have HX2 := Lib.hid hx2; have HS2 := Lib.hid hs2; have HNX2 := Lib.hid hnx; have HRR := Lib.hid hrr; have HGL := Lib.hid hgl
        have hlk : (l.take k).length ≤ 8 := by rw [List.length_take]; omega
        have hle : w7.heap.size ≤ wc.heap.size := HM2.out.spares.size
        have hvt : ∀ b, vt.ownBlock = some b → b < wr.heap.size := fun b e => (World.ownsRow.lt HM.out.told b e).2
        have HVT := Lib.hid hvt
        clear hx2 hs2 hnx hrr hla hb HK HSTK HM hgl hvt
        have hc2' : (1 : Int) ≤ (c2 : Int) := by omega
        have hl2 : g2 < wc.heap.size := D.Box.lt HX2.out
        go_upto_region 22 with (at_builtin; refine wpList_append_own _ rfl _ _ 31 rfl w7.heap.size 2 i0 (.int .i64 0) 1 8 Tryd.underlying31 hi hz0 hz1 hz2 rfl (by decide) _ _ _ rfl (hrow.alloc _) ⟨wc.heap.size, 0, none⟩ 1 1 [.int .i64 nx] rfl rfl (cell_one_new _ _ _) (by simp [Value.oneCell']) (by unfold maxLen; omega) (by omega) (by simp; omega) ?_; intro v' w5 hown5 hgrow5 _)
        have HM5 : Hid (AllMem w w7 g j nx v v' (l.take (k + 1)) w5) := Lib.hid (by
          rw [HTK.out]
          exact (HM2.out.on (new_below wc (.cells #[.int .i64 nx] 2))).app hgrow5 hown5 HB7.out.size (by have := HG6.out; have := HS67.out; omega))
        have hx5 : D.Box w5 g2 33 (rowC (ranR j (2 * (k : Int) + 1) nx nx2) v2).toArray := by
          have h := HX2.out
          have h1 := D.Box.belowAll h (new_below wc (.cells #[.int .i64 nx] 2))
          unfold D.Box at *
          rw [hgrow5.block g2 (by rw [World.size_alloc]; omega) (fun e => by have := HVT.out g2 e.symm; have := HGL.out; omega)]
          exact h1
        have HLG := Lib.hid (row_load (HFR.out nx2) hx5)
        have HENK := Lib.hid ((HEN.out (2 * (k : Int) + 1) nx nx2 v2 (2 * (k : Int) + 2) w5 (HL0.out.on HM5.out.below) (by show (0 : Int) ≤ 2 * (k : Int) + 1; omega) (qr_nil HS2.out.qr) (by simp [ranR]) (by omega)).mono (fun e w' h => (⟨all_endIs h.1 HRR.out HT.out.1 HNX2.out (by omega) (by omega) (by omega), h.2⟩ : (∃ z y, e = Ending.returned (.tuple #[z, y, .bool j.o, .int .i64 0]) ∧ (newR j nx2).Right ev ∧ RowTold w5.heap.size (newR j nx2) [] z y w') ∧ Below w5.heap.size w5 w')))
        have HFN : Hid ((newR j nx2).Fit) := Lib.hid ⟨HJ.out.1, Int.le_refl _⟩
        have hw1 : wrap64 (2 * (k : Int)) = 2 * (k : Int) := by unfold wrap64; omega
        have hw2 : wrap64 (2 * (k : Int) + 1) = 2 * (k : Int) + 1 := by unfold wrap64; omega
        have hw3 : wrap64 (2 * (k : Int) + 2) = 2 * (k : Int) + 2 := by unfold wrap64; omega
        have hm4 : IntKind.u64.wrap (2 * (k : Int) + 2) = 2 * (k : Int) + 2 := by rw [IntKind.wrap_u64]; omega
        clear hown5 hgrow5 hx5 hrow HVT HGL HX2 HS2 HM2 HRR cdue hb2 hl2 hle hlk
        go_wp2_with (first | refine list_load rfl _ rfl rfl HLG.out ?_)
        refine HENK.out.mono ?_
        rintro e w8 ⟨⟨z, y3, rfl, hr3, hrt3⟩, hb⟩
        obtain ⟨A3, c3, rfl⟩ := las_nil hrt3.2.1
        obtain ⟨W9, hs9, hg9, hb9⟩ := got_after (w0 := w5) (cs := #[.int .u32 0, .bool false, .int .u64 0, .int .u64 0, .int .u64 0, .int .u64 0, .int .u64 0, .int .i64 0, .int .i64 0, .int .i64 0, .int .i64 0, .bool false, .int .i64 0, .int .u64 0, .int .i64 0, .int .i64 0, .slice none 0 0]) rfl HFN.out hrt3 (Nat.le_refl _) hb
        have HS9 := Lib.hid hs9; have HR3 := Lib.hid hr3
        have HM9 := Lib.hid (HM5.out.on hb9)
        obtain ⟨v9, W10, hl10, hs10, hm10⟩ := HM9.out.put hg9 HJ.out.1 (by have := HGW.out; omega) (by have := HG6.out; have := HS67.out; omega)
        have HL10 := Lib.hid hl10; have HS10 := Lib.hid hs10; have HM10 := Lib.hid hm10
        have cj : W9.cell? ⟨w.heap.size, 1, none⟩ = some (.bool j.o) := by
          have hx : D.Box W9 w.heap.size 28 (jobC j).toArray := by
            have h := HXJ7.out
            unfold D.Box at *
            rw [HM9.out.spares.block _ (by have := HGW.out; have := HG6.out; have := HS67.out; omega) (by have := HGW.out; omega)]
            exact h
          rw [D.Box.cell hx 1, List.getElem?_toArray]
          exact (jobC_cells HJ.out.1).2.2
        have qo : (j.o != j.o) = false := by simp
        clear hr3 hrt3 hb hs9 hg9 hb9 hl10 hs10 hm10 HENK HLG HM5 HM9
        go_wp2_with (first | refine list_store rfl _ _ rfl rfl rfl HS9.out ?_ | refine list_load rfl _ rfl rfl HL10.out ?_ | refine list_store rfl _ _ rfl rfl rfl HS10.out ?_)
        go_roundw
        case rel => exact ⟨k + 1, nx2, v9, v', by omega, by go_num, rfl, HM10, HR3, Lib.hid (HNEX.out nx2 HNX2.out)⟩
        case measure => simp [intOf]; omega
    · have hkn : k = nn := by omega
      subst hkn
      have hfull : l.take k = l := List.take_of_length_le (by have := HNN.out; omega)
      have htold := HM.out.told
      rw [hfull] at htold
      obtain ⟨At, ct, rfl⟩ := own_slice0 htold
      have hoy : OwnT wr w6.heap.size (.slice Ay l.length cy) l := HM.out.spares.own2 HOY.out (fun e => by have := (World.ownsRow.lt HOY.out _ e).1; have := HG6.out; omega)
      have HEQ := Lib.hid (equal_i64 At Ay l.length ct cy l wr (by have := HLEN.out; unfold maxLen; omega) (own_arr htold) (own_arr hoy))
      rw [HNN.out] at HEQ ⊢
      have HBF := Lib.hid HM.out.below
      clear hfull htold hoy HM HR HNX
      go_wp2_with fail
      refine HEQ.out.mono ?_
      rintro e w8 ⟨rfl, q, rfl⟩
      have HBG := Lib.hid (bdrewN HBF.out q)
      go_wp2_with fail
      go_ret
      exact ⟨by first | rfl | simp, HBG.out⟩
end Go.Proofs.YthghcffibljclaaDoor
