/- What sessions can be gone through, in memory of their own: walked. -/
import Derived.Test.YtgnfoncokjglbaaWFew
namespace Go.Proofs.Ytgnfoncokjglbaa
open Go.RowKit

theorem OwnS.setLow {w : World} {base : Nat} {v : Value} {ms : List SesM} (h : OwnS w base v ms) {g i : Nat} (hg : g < base) (u : Value) : OwnS (w.setCell ⟨g, i, none⟩ u) base v ms :=
  ⟨ownsRow_setCell_below h.row hg u, fun m hm => ⟨(h.ok m hm).1, ownsRow_setCell_below (h.ok m hm).2 hg u⟩⟩
theorem OwnS.slice {w : World} {base : Nat} {v : Value} {ms : List SesM} (h : OwnS w base v ms) : ∃ A n c, v = .slice A n c := by
  obtain ⟨A, c, e, _⟩ := h.sr
  exact ⟨_, _, _, e⟩
theorem few_fit {x : SesZ} (h : x.Fit) : SesZ.Fit ⟨x.cl, x.seq, ⟨x.rep.err, x.rep.names.take 14⟩⟩ := ⟨h.1, h.2.1, h.2.2.1, fun y hy => h.2.2.2 y (List.mem_of_mem_take hy)⟩
/-- Rows of one's own that are these. -/
def FewIs (w : World) (l : List SesZ) (x : Ending) (w' : World) : Prop := (∃ A c ms, x = .returned (.agg #[.slice A ms.length c]) ∧ OwnS w' w.heap.size (.slice A ms.length c) ms ∧ ms.map (·.1) = l) ∧ Below w.heap.size w w'
theorem few_take {ms : List SesM} {l : List SesZ} (h : ms.map (·.1) = l) (k : Nat) : (ms.take k).map (·.1) = l.take k := by rw [← h, List.map_take]
set_option maxRecDepth 100000 in
set_option maxHeartbeats 4000000 in
theorem few_any (A : Option Addr) (n c : Nat) (ms : List SesM) (w : World) (h : SR w A n c ms) :
    Calls Try.prog 8 #[.agg #[.slice A n c]] w (FewIs w (fewL (ms.map (·.1)))) := by
  have hb0 : Below w.heap.size w (((w.alloc (.cells #[.slice A n c] 24)).alloc (.cells #[.slice none 0 0] 24)).alloc (.cells #[.slice none 0 0] 24)) := ((new_below w _).alloc (by simp) _).alloc (by simp; omega) _
  obtain ⟨V0, hV0⟩ : ∃ V0 : World, V0 = (w.alloc (.cells #[.slice A n c] 24)).alloc (.cells #[.slice none 0 0] 24) := ⟨_, rfl⟩
  have hx0 : SBox (V0.alloc (.cells #[.slice none 0 0] 24)) w.heap.size 24 #[.slice A n c] := by rw [hV0]; exact ((SBox.new w _ _).alloc _).alloc _
  have hx1 : SBox (V0.alloc (.cells #[.slice none 0 0] 24)) (w.heap.size + 1) 24 #[.slice none 0 0] := by
    have := SBox.new (w.alloc (.cells #[.slice A n c] 24)) 24 #[.slice none 0 0]
    rw [World.size_alloc, ← hV0] at this
    exact this.alloc _
  have hx2 : SBox (V0.alloc (.cells #[.slice none 0 0] 24)) (w.heap.size + 1 + 1) 24 #[.slice none 0 0] := by
    have := SBox.new V0 24 #[.slice none 0 0]
    rwa [show V0.heap.size = w.heap.size + 2 by rw [hV0]; simp] at this
  rw [← hV0] at hb0
  have hsz : (V0.alloc (.cells #[.slice none 0 0] 24)).heap.size = w.heap.size + 3 := by rw [hV0]; simp
  obtain ⟨W0, hW0⟩ : ∃ W0 : World, W0 = V0.alloc (.cells #[.slice none 0 0] 24) := ⟨_, rfl⟩
  rw [← hW0] at hb0 hx0 hx1 hx2 hsz
  rw [hV0] at hW0
  have HB0 := Lib.hid hb0; have HX1 := Lib.hid hx1; have HX2 := Lib.hid hx2; have HSZ := Lib.hid hsz
  have a0 := hx0.one
  have HT := Lib.hid h; have HN := Lib.hid h.len
  have hcap := h.cap
  have htop := h.top
  unfold maxLen at htop
  clear hb0 hx0 hx1 hx2 hsz h hV0
  by_cases h5 : n ≤ 5
  · by_cases h4 : (n : Int) < 5
    · have h4' : ¬ (5 : Int) ≤ (n : Int) := by omega
      have HLL : Hid (fewL (ms.map (·.1)) = ((ms.take n).map (·.1)).map fewS) := Lib.hid (by unfold fewL; rw [← List.map_take, List.take_of_length_le (by have := HN.out; omega), List.take_of_length_le (by have := HN.out; omega)])
      have HCM : Hid (n ≤ n) := Lib.hid (Nat.le_refl _)
      go_enter Try.func8, Try.ntmps8
      go_wp2_with fail
      rw [← hW0]
      clear hW0 a0
      go_loopw [14] (fun i wr => ∃ (k : Nat) (v : Value) (ms' : List SesM), k ≤ n ∧ i = .int .i64 (k : Int) ∧ SBox wr (w.heap.size + 1 + 1) 24 #[v] ∧ SBox wr (w.heap.size + 1) 24 #[.slice none 0 0] ∧ OwnS wr (w.heap.size + 3) v ms' ∧ Hid (ms'.map (·.1) = ((ms.take k).map (·.1)).map fewS) ∧ Below w.heap.size w wr ∧ w.heap.size + 3 ≤ wr.heap.size) (fun i _ => n - (intOf i).toNat)
      case atStart => exact ⟨0, .slice none 0 0, [], by omega, rfl, HX2.out, HX1.out, .nil _ _, Lib.hid rfl, HB0.out, by have := HSZ.out; omega⟩
      case round =>
        obtain ⟨k, v, ms', hk, rfl, hx2, hx1, hown, HMS, hb, hz⟩ := hrel
        have HX2' := Lib.hid hx2; have HX1' := Lib.hid hx1; have HO := Lib.hid hown; have HB := Lib.hid hb; have HZ := Lib.hid hz
        have hc2 := hx2.one
        have HML : Hid (ms'.length = k) := Lib.hid (by
          have := congrArg List.length HMS.out
          rw [List.length_map, List.length_map, List.length_map, List.length_take] at this
          have := HN.out; have := HCM.out; omega)
        clear hx2 hx1 hown hb hz
        by_cases hlt : k < n
        · obtain ⟨m, hm⟩ : ∃ m, ms[k]? = some m := ⟨_, List.getElem?_eq_getElem (by have := HN.out; have := HCM.out; omega)⟩
          obtain ⟨⟨xc, xq, xe, xn⟩, xv⟩ := m
          have ht := HT.out.on HB.out
          have hok := ht.ok _ (List.mem_of_getElem? hm)
          obtain ⟨b1, o1, rfl, hj1⟩ := ht.at_ hm
          have HLD := Lib.hid (ses_load ht hm)
          obtain ⟨W1, hs1, hy1, hb1, hz1⟩ := ses_var wr ⟨xc, xq, xe, xn⟩ xv hok.2.one
          have HS1 := Lib.hid hs1; have HY1 := Lib.hid hy1; have HB1 := Lib.hid hb1; have HZ1 := Lib.hid hz1
          have HRP := Lib.hid (reply_any xe xv xn W1 (hok.2.on hb1))
          have HFT : Hid (SesZ.Fit ⟨xc, xq, xe, xn.take 14⟩) := Lib.hid (few_fit hok.1)
          have HTK : Hid (((ms.take (k + 1)).map (·.1)).map fewS = ((ms.take k).map (·.1)).map fewS ++ [⟨xc, xq, xe, xn.take 14⟩]) := Lib.hid (by rw [List.take_add_one, hm]; simp [fewS, fewR])
          generalize xn.take 14 = xt at *
          have i0 : (0 : Int) ≤ (k : Int) := by omega
          have i1 : (k : Int) < (n : Int) := by omega
          obtain ⟨c0, c1, c2, c3⟩ := hy1.box.four
          simp only at c0 c1 c2 c3
          unfold sesV at *
          simp only at HLD HS1
          clear hm ht hok hj1 hs1 hy1 hb1 hz1 hc2
          go_upto_region 6 with (first | refine list_load rfl _ rfl rfl HLD.out ?_ | refine list_store0 rfl rfl _ _ rfl rfl rfl HS1.out ?_ | (go_at_call 13; refine HRP.out.mono ?_; rintro y w2 ⟨u, rfl, hu, hb2⟩; obtain ⟨Au, cu, rfl, _⟩ := hu.nr; have HU := Lib.hid hu; have HB2 := Lib.hid hb2; have hy2 := HY1.out.on hb2; have HY2 := Lib.hid hy2; have hf2 := hy2.box.frozen 2; have hf3 := hy2.box.frozen 3; clear c0 c1 c2 c3; obtain ⟨c0, c1, c2, c3⟩ := hy2.box.four; simp only at c0 c1 c2 c3; clear hu hb2 hy2))
          have hzw : wr.heap.size < w2.heap.size := by have := HB2.out.size; have := HZ1.out; omega
          have hb3 : Below wr.heap.size wr ((w2.setCell ⟨wr.heap.size, 2, none⟩ (.int .i64 xe)).setCell ⟨wr.heap.size, 3, none⟩ (.slice Au xt.length cu)) := ((HB1.out.trans (HB2.out.mono (by have := HZ1.out; omega))).setCell (by show wr.heap.size ≤ wr.heap.size; omega) _).setCell (by show wr.heap.size ≤ wr.heap.size; omega) _
          have hy3 : SesAt ((w2.setCell ⟨wr.heap.size, 2, none⟩ (.int .i64 xe)).setCell ⟨wr.heap.size, 3, none⟩ (.slice Au xt.length cu)) wr.heap.size ⟨xc, xq, xe, xt⟩ (.slice Au xt.length cu) := (SBox.set HY2.out.box 2 _).set 3 _
          have hu3 : OwnN ((w2.setCell ⟨wr.heap.size, 2, none⟩ (.int .i64 xe)).setCell ⟨wr.heap.size, 3, none⟩ (.slice Au xt.length cu)) (w.heap.size + 3) (.slice Au xt.length cu) xt := owns_mono (ownsRow_setCell_below (ownsRow_setCell_below HU.out (by show wr.heap.size < _; have := HZ1.out; omega) _) (by show wr.heap.size < _; have := HZ1.out; omega) _) (by have := HZ1.out; have := HZ.out; omega)
          obtain ⟨W3, hW3⟩ : ∃ W3 : World, W3 = (w2.setCell ⟨wr.heap.size, 2, none⟩ (.int .i64 xe)).setCell ⟨wr.heap.size, 3, none⟩ (.slice Au xt.length cu) := ⟨_, rfl⟩
          rw [← hW3] at hb3 hy3 hu3 ⊢
          clear hW3 c0 c1 c2 c3 hf2 hf3
          have HB3 := Lib.hid hb3; have HU3 := Lib.hid hu3
          have hx32 := HX2'.out.on hb3
          have HX32 := Lib.hid hx32; have HX31 := Lib.hid (HX1'.out.on hb3); have HO3 := Lib.hid (HO.out.on hb3)
          have HZ3 := Lib.hid (Nat.le_trans HZ.out hb3.size)
          obtain ⟨c0, c1, c2, c3⟩ := hy3.box.four
          have c4 := hx32.one
          simp only at c0 c1 c2 c3
          have HN4 := Lib.hid (SBox.new W3 42 #[.int .i64 xc, .int .u64 xq, .int .i64 xe, .slice Au xt.length cu])
          have HNB := Lib.hid (new_below W3 (.cells #[.int .i64 xc, .int .u64 xq, .int .i64 xe, .slice Au xt.length cu] 42))
          clear hb3 hy3 hu3 hx32 hzw
          go_wp2_with (at_builtin; refine list_ses rfl _ _ rfl rfl rfl (HO3.out.on HNB.out) HN4.out HFT.out (owns_on HU3.out HNB.out) (by have := HZ3.out; simp; omega) (by have := HML.out; omega) _ (Below.refl _ _) ?_; intro v5 w5 ho5 hb5 _; obtain ⟨A5, n5, c5, rfl⟩ := ho5.slice; have HO5 := Lib.hid ho5; have HB5 := Lib.hid hb5; have hx52 := (HX32.out.on HNB.out).below hb5 (by omega); have HX52 := Lib.hid hx52; have HX51 := Lib.hid ((HX31.out.on HNB.out).below hb5 (by omega)); have hf5 := hx52.frozen 0; have hc5 := hx52.one; clear ho5 hb5 hx52 c0 c1 c2 c3 c4)
          go_roundw
          case rel => exact ⟨k + 1, _, _, by omega, by go_num, HX52.out.set 0 _, HX51.out.far (by omega) _, HO5.out.setLow (by omega) _, Lib.hid (by rw [List.map_append, HMS.out, HTK.out]; rfl), (((HB.out.trans (HB3.out.mono HB.out.size)).trans ((HNB.out.mono (by have := HZ3.out; omega)).trans (HB5.out.mono (by omega)))).setCell (by show w.heap.size ≤ w.heap.size + 1 + 1; omega) _), by have h1 := HB5.out.size; have h2 := HNB.out.size; have h3 := HZ3.out; simp [World.setCell] at h1 h2 ⊢; omega⟩
          case measure => simp [intOf]; omega
        · obtain rfl : k = n := by omega
          have hf1 := HX1'.out.frozen 0
          have hc1 := HX1'.out.one
          obtain ⟨A5, c5, rfl, _⟩ := HO.out.sr
          have hx9 : SBox (wr.setCell ⟨w.heap.size + 1, 0, none⟩ (.slice A5 ms'.length c5)) (w.heap.size + 1) 24 #[.slice A5 ms'.length c5] := HX1'.out.set 0 _
          have hc9 := hx9.one
          have HO9 := Lib.hid (HO.out.setLow (show w.heap.size + 1 < w.heap.size + 3 by omega) (i := 0) (.slice A5 ms'.length c5))
          have HB9 := Lib.hid (HB.out.setCell (p := ⟨w.heap.size + 1, 0, none⟩) (by show w.heap.size ≤ w.heap.size + 1; omega) (.slice A5 ms'.length c5))
          generalize hlen : ms'.length = len at *
          have HLEN := Lib.hid hlen
          clear hx9 hlen
          go_wp2_with fail
          exact bodyPost_ret (v := .agg #[.slice A5 len c5]) (by simp [results, Try.results8, go_sem, hc9]) rfl ⟨⟨A5, c5, ms', by rw [HLEN.out], by rw [HLEN.out]; exact HO9.out.mono (by omega), by rw [HLL.out, HMS.out]⟩, HB9.out⟩
    · obtain rfl : n = 5 := by omega
      have HLL : Hid (fewL (ms.map (·.1)) = ((ms.take 5).map (·.1)).map fewS) := Lib.hid (by unfold fewL; rw [List.map_take, List.map_take, List.map_take])
      have HCM : Hid (5 ≤ 5) := Lib.hid (Nat.le_refl _)
      have i5 : (5 : Int) ≤ (c : Int) := by omega
      clear h4 h5
      go_enter Try.func8, Try.ntmps8
      go_wp2_with fail
      rw [← hW0]
      clear hW0 a0
      go_loopw [14] (fun i wr => ∃ (k : Nat) (v : Value) (ms' : List SesM), k ≤ 5 ∧ i = .int .i64 (k : Int) ∧ SBox wr (w.heap.size + 1 + 1) 24 #[v] ∧ SBox wr (w.heap.size + 1) 24 #[.slice none 0 0] ∧ OwnS wr (w.heap.size + 3) v ms' ∧ Hid (ms'.map (·.1) = ((ms.take k).map (·.1)).map fewS) ∧ Below w.heap.size w wr ∧ w.heap.size + 3 ≤ wr.heap.size) (fun i _ => 5 - (intOf i).toNat)
      case atStart => exact ⟨0, .slice none 0 0, [], by omega, rfl, HX2.out, HX1.out, .nil _ _, Lib.hid rfl, HB0.out, by have := HSZ.out; omega⟩
      case round =>
        obtain ⟨k, v, ms', hk, rfl, hx2, hx1, hown, HMS, hb, hz⟩ := hrel
        have HX2' := Lib.hid hx2; have HX1' := Lib.hid hx1; have HO := Lib.hid hown; have HB := Lib.hid hb; have HZ := Lib.hid hz
        have hc2 := hx2.one
        have HML : Hid (ms'.length = k) := Lib.hid (by
          have := congrArg List.length HMS.out
          rw [List.length_map, List.length_map, List.length_map, List.length_take] at this
          have := HN.out; have := HCM.out; omega)
        clear hx2 hx1 hown hb hz
        by_cases hlt : k < 5
        · obtain ⟨m, hm⟩ : ∃ m, ms[k]? = some m := ⟨_, List.getElem?_eq_getElem (by have := HN.out; have := HCM.out; omega)⟩
          obtain ⟨⟨xc, xq, xe, xn⟩, xv⟩ := m
          have ht := HT.out.on HB.out
          have hok := ht.ok _ (List.mem_of_getElem? hm)
          obtain ⟨b1, o1, rfl, hj1⟩ := ht.at_ hm
          have HLD := Lib.hid (ses_load ht hm)
          obtain ⟨W1, hs1, hy1, hb1, hz1⟩ := ses_var wr ⟨xc, xq, xe, xn⟩ xv hok.2.one
          have HS1 := Lib.hid hs1; have HY1 := Lib.hid hy1; have HB1 := Lib.hid hb1; have HZ1 := Lib.hid hz1
          have HRP := Lib.hid (reply_any xe xv xn W1 (hok.2.on hb1))
          have HFT : Hid (SesZ.Fit ⟨xc, xq, xe, xn.take 14⟩) := Lib.hid (few_fit hok.1)
          have HTK : Hid (((ms.take (k + 1)).map (·.1)).map fewS = ((ms.take k).map (·.1)).map fewS ++ [⟨xc, xq, xe, xn.take 14⟩]) := Lib.hid (by rw [List.take_add_one, hm]; simp [fewS, fewR])
          generalize xn.take 14 = xt at *
          have i0 : (0 : Int) ≤ (k : Int) := by omega
          have i1 : (k : Int) < (5 : Int) := by omega
          obtain ⟨c0, c1, c2, c3⟩ := hy1.box.four
          simp only at c0 c1 c2 c3
          unfold sesV at *
          simp only at HLD HS1
          clear hm ht hok hj1 hs1 hy1 hb1 hz1 hc2
          go_upto_region 6 with (first | refine list_load rfl _ rfl rfl HLD.out ?_ | refine list_store0 rfl rfl _ _ rfl rfl rfl HS1.out ?_ | (go_at_call 13; refine HRP.out.mono ?_; rintro y w2 ⟨u, rfl, hu, hb2⟩; obtain ⟨Au, cu, rfl, _⟩ := hu.nr; have HU := Lib.hid hu; have HB2 := Lib.hid hb2; have hy2 := HY1.out.on hb2; have HY2 := Lib.hid hy2; have hf2 := hy2.box.frozen 2; have hf3 := hy2.box.frozen 3; clear c0 c1 c2 c3; obtain ⟨c0, c1, c2, c3⟩ := hy2.box.four; simp only at c0 c1 c2 c3; clear hu hb2 hy2))
          have hzw : wr.heap.size < w2.heap.size := by have := HB2.out.size; have := HZ1.out; omega
          have hb3 : Below wr.heap.size wr ((w2.setCell ⟨wr.heap.size, 2, none⟩ (.int .i64 xe)).setCell ⟨wr.heap.size, 3, none⟩ (.slice Au xt.length cu)) := ((HB1.out.trans (HB2.out.mono (by have := HZ1.out; omega))).setCell (by show wr.heap.size ≤ wr.heap.size; omega) _).setCell (by show wr.heap.size ≤ wr.heap.size; omega) _
          have hy3 : SesAt ((w2.setCell ⟨wr.heap.size, 2, none⟩ (.int .i64 xe)).setCell ⟨wr.heap.size, 3, none⟩ (.slice Au xt.length cu)) wr.heap.size ⟨xc, xq, xe, xt⟩ (.slice Au xt.length cu) := (SBox.set HY2.out.box 2 _).set 3 _
          have hu3 : OwnN ((w2.setCell ⟨wr.heap.size, 2, none⟩ (.int .i64 xe)).setCell ⟨wr.heap.size, 3, none⟩ (.slice Au xt.length cu)) (w.heap.size + 3) (.slice Au xt.length cu) xt := owns_mono (ownsRow_setCell_below (ownsRow_setCell_below HU.out (by show wr.heap.size < _; have := HZ1.out; omega) _) (by show wr.heap.size < _; have := HZ1.out; omega) _) (by have := HZ1.out; have := HZ.out; omega)
          obtain ⟨W3, hW3⟩ : ∃ W3 : World, W3 = (w2.setCell ⟨wr.heap.size, 2, none⟩ (.int .i64 xe)).setCell ⟨wr.heap.size, 3, none⟩ (.slice Au xt.length cu) := ⟨_, rfl⟩
          rw [← hW3] at hb3 hy3 hu3 ⊢
          clear hW3 c0 c1 c2 c3 hf2 hf3
          have HB3 := Lib.hid hb3; have HU3 := Lib.hid hu3
          have hx32 := HX2'.out.on hb3
          have HX32 := Lib.hid hx32; have HX31 := Lib.hid (HX1'.out.on hb3); have HO3 := Lib.hid (HO.out.on hb3)
          have HZ3 := Lib.hid (Nat.le_trans HZ.out hb3.size)
          obtain ⟨c0, c1, c2, c3⟩ := hy3.box.four
          have c4 := hx32.one
          simp only at c0 c1 c2 c3
          have HN4 := Lib.hid (SBox.new W3 42 #[.int .i64 xc, .int .u64 xq, .int .i64 xe, .slice Au xt.length cu])
          have HNB := Lib.hid (new_below W3 (.cells #[.int .i64 xc, .int .u64 xq, .int .i64 xe, .slice Au xt.length cu] 42))
          clear hb3 hy3 hu3 hx32 hzw
          go_wp2_with (at_builtin; refine list_ses rfl _ _ rfl rfl rfl (HO3.out.on HNB.out) HN4.out HFT.out (owns_on HU3.out HNB.out) (by have := HZ3.out; simp; omega) (by have := HML.out; omega) _ (Below.refl _ _) ?_; intro v5 w5 ho5 hb5 _; obtain ⟨A5, n5, c5, rfl⟩ := ho5.slice; have HO5 := Lib.hid ho5; have HB5 := Lib.hid hb5; have hx52 := (HX32.out.on HNB.out).below hb5 (by omega); have HX52 := Lib.hid hx52; have HX51 := Lib.hid ((HX31.out.on HNB.out).below hb5 (by omega)); have hf5 := hx52.frozen 0; have hc5 := hx52.one; clear ho5 hb5 hx52 c0 c1 c2 c3 c4)
          go_roundw
          case rel => exact ⟨k + 1, _, _, by omega, by go_num, HX52.out.set 0 _, HX51.out.far (by omega) _, HO5.out.setLow (by omega) _, Lib.hid (by rw [List.map_append, HMS.out, HTK.out]; rfl), (((HB.out.trans (HB3.out.mono HB.out.size)).trans ((HNB.out.mono (by have := HZ3.out; omega)).trans (HB5.out.mono (by omega)))).setCell (by show w.heap.size ≤ w.heap.size + 1 + 1; omega) _), by have h1 := HB5.out.size; have h2 := HNB.out.size; have h3 := HZ3.out; simp [World.setCell] at h1 h2 ⊢; omega⟩
          case measure => simp [intOf]; omega
        · obtain rfl : k = 5 := by omega
          have hf1 := HX1'.out.frozen 0
          have hc1 := HX1'.out.one
          obtain ⟨A5, c5, rfl, _⟩ := HO.out.sr
          have hx9 : SBox (wr.setCell ⟨w.heap.size + 1, 0, none⟩ (.slice A5 ms'.length c5)) (w.heap.size + 1) 24 #[.slice A5 ms'.length c5] := HX1'.out.set 0 _
          have hc9 := hx9.one
          have HO9 := Lib.hid (HO.out.setLow (show w.heap.size + 1 < w.heap.size + 3 by omega) (i := 0) (.slice A5 ms'.length c5))
          have HB9 := Lib.hid (HB.out.setCell (p := ⟨w.heap.size + 1, 0, none⟩) (by show w.heap.size ≤ w.heap.size + 1; omega) (.slice A5 ms'.length c5))
          generalize hlen : ms'.length = len at *
          have HLEN := Lib.hid hlen
          clear hx9 hlen
          go_wp2_with fail
          exact bodyPost_ret (v := .agg #[.slice A5 len c5]) (by simp [results, Try.results8, go_sem, hc9]) rfl ⟨⟨A5, c5, ms', by rw [HLEN.out], by rw [HLEN.out]; exact HO9.out.mono (by omega), by rw [HLL.out, HMS.out]⟩, HB9.out⟩
  · have h4 : ¬ (n : Int) < 5 := by omega
    have h3 : (5 : Int) ≤ (n : Int) := by omega
    have h2 : (5 : Int) < (n : Int) := by omega
    have h1 : ¬ (n : Int) ≤ 5 := by omega
    have i5 : (5 : Int) ≤ (c : Int) := by omega
    have HLL : Hid (fewL (ms.map (·.1)) = ((ms.take 5).map (·.1)).map fewS) := Lib.hid (by unfold fewL; rw [List.map_take, List.map_take, List.map_take])
    have HCM : Hid (5 ≤ n) := Lib.hid (by omega)
    go_enter Try.func8, Try.ntmps8
    go_wp2_with fail
    rw [← hW0]
    clear hW0 a0
    go_loopw [14] (fun i wr => ∃ (k : Nat) (v : Value) (ms' : List SesM), k ≤ 5 ∧ i = .int .i64 (k : Int) ∧ SBox wr (w.heap.size + 1 + 1) 24 #[v] ∧ SBox wr (w.heap.size + 1) 24 #[.slice none 0 0] ∧ OwnS wr (w.heap.size + 3) v ms' ∧ Hid (ms'.map (·.1) = ((ms.take k).map (·.1)).map fewS) ∧ Below w.heap.size w wr ∧ w.heap.size + 3 ≤ wr.heap.size) (fun i _ => 5 - (intOf i).toNat)
    case atStart => exact ⟨0, .slice none 0 0, [], by omega, rfl, HX2.out, HX1.out, .nil _ _, Lib.hid rfl, HB0.out, by have := HSZ.out; omega⟩
    case round =>
      obtain ⟨k, v, ms', hk, rfl, hx2, hx1, hown, HMS, hb, hz⟩ := hrel
      have HX2' := Lib.hid hx2; have HX1' := Lib.hid hx1; have HO := Lib.hid hown; have HB := Lib.hid hb; have HZ := Lib.hid hz
      have hc2 := hx2.one
      have HML : Hid (ms'.length = k) := Lib.hid (by
        have := congrArg List.length HMS.out
        rw [List.length_map, List.length_map, List.length_map, List.length_take] at this
        have := HN.out; have := HCM.out; omega)
      clear hx2 hx1 hown hb hz
      by_cases hlt : k < 5
      · obtain ⟨m, hm⟩ : ∃ m, ms[k]? = some m := ⟨_, List.getElem?_eq_getElem (by have := HN.out; have := HCM.out; omega)⟩
        obtain ⟨⟨xc, xq, xe, xn⟩, xv⟩ := m
        have ht := HT.out.on HB.out
        have hok := ht.ok _ (List.mem_of_getElem? hm)
        obtain ⟨b1, o1, rfl, hj1⟩ := ht.at_ hm
        have HLD := Lib.hid (ses_load ht hm)
        obtain ⟨W1, hs1, hy1, hb1, hz1⟩ := ses_var wr ⟨xc, xq, xe, xn⟩ xv hok.2.one
        have HS1 := Lib.hid hs1; have HY1 := Lib.hid hy1; have HB1 := Lib.hid hb1; have HZ1 := Lib.hid hz1
        have HRP := Lib.hid (reply_any xe xv xn W1 (hok.2.on hb1))
        have HFT : Hid (SesZ.Fit ⟨xc, xq, xe, xn.take 14⟩) := Lib.hid (few_fit hok.1)
        have HTK : Hid (((ms.take (k + 1)).map (·.1)).map fewS = ((ms.take k).map (·.1)).map fewS ++ [⟨xc, xq, xe, xn.take 14⟩]) := Lib.hid (by rw [List.take_add_one, hm]; simp [fewS, fewR])
        generalize xn.take 14 = xt at *
        have i0 : (0 : Int) ≤ (k : Int) := by omega
        have i1 : (k : Int) < (5 : Int) := by omega
        obtain ⟨c0, c1, c2, c3⟩ := hy1.box.four
        simp only at c0 c1 c2 c3
        unfold sesV at *
        simp only at HLD HS1
        clear hm ht hok hj1 hs1 hy1 hb1 hz1 hc2
        go_upto_region 6 with (first | refine list_load rfl _ rfl rfl HLD.out ?_ | refine list_store0 rfl rfl _ _ rfl rfl rfl HS1.out ?_ | (go_at_call 13; refine HRP.out.mono ?_; rintro y w2 ⟨u, rfl, hu, hb2⟩; obtain ⟨Au, cu, rfl, _⟩ := hu.nr; have HU := Lib.hid hu; have HB2 := Lib.hid hb2; have hy2 := HY1.out.on hb2; have HY2 := Lib.hid hy2; have hf2 := hy2.box.frozen 2; have hf3 := hy2.box.frozen 3; clear c0 c1 c2 c3; obtain ⟨c0, c1, c2, c3⟩ := hy2.box.four; simp only at c0 c1 c2 c3; clear hu hb2 hy2))
        have hzw : wr.heap.size < w2.heap.size := by have := HB2.out.size; have := HZ1.out; omega
        have hb3 : Below wr.heap.size wr ((w2.setCell ⟨wr.heap.size, 2, none⟩ (.int .i64 xe)).setCell ⟨wr.heap.size, 3, none⟩ (.slice Au xt.length cu)) := ((HB1.out.trans (HB2.out.mono (by have := HZ1.out; omega))).setCell (by show wr.heap.size ≤ wr.heap.size; omega) _).setCell (by show wr.heap.size ≤ wr.heap.size; omega) _
        have hy3 : SesAt ((w2.setCell ⟨wr.heap.size, 2, none⟩ (.int .i64 xe)).setCell ⟨wr.heap.size, 3, none⟩ (.slice Au xt.length cu)) wr.heap.size ⟨xc, xq, xe, xt⟩ (.slice Au xt.length cu) := (SBox.set HY2.out.box 2 _).set 3 _
        have hu3 : OwnN ((w2.setCell ⟨wr.heap.size, 2, none⟩ (.int .i64 xe)).setCell ⟨wr.heap.size, 3, none⟩ (.slice Au xt.length cu)) (w.heap.size + 3) (.slice Au xt.length cu) xt := owns_mono (ownsRow_setCell_below (ownsRow_setCell_below HU.out (by show wr.heap.size < _; have := HZ1.out; omega) _) (by show wr.heap.size < _; have := HZ1.out; omega) _) (by have := HZ1.out; have := HZ.out; omega)
        obtain ⟨W3, hW3⟩ : ∃ W3 : World, W3 = (w2.setCell ⟨wr.heap.size, 2, none⟩ (.int .i64 xe)).setCell ⟨wr.heap.size, 3, none⟩ (.slice Au xt.length cu) := ⟨_, rfl⟩
        rw [← hW3] at hb3 hy3 hu3 ⊢
        clear hW3 c0 c1 c2 c3 hf2 hf3
        have HB3 := Lib.hid hb3; have HU3 := Lib.hid hu3
        have hx32 := HX2'.out.on hb3
        have HX32 := Lib.hid hx32; have HX31 := Lib.hid (HX1'.out.on hb3); have HO3 := Lib.hid (HO.out.on hb3)
        have HZ3 := Lib.hid (Nat.le_trans HZ.out hb3.size)
        obtain ⟨c0, c1, c2, c3⟩ := hy3.box.four
        have c4 := hx32.one
        simp only at c0 c1 c2 c3
        have HN4 := Lib.hid (SBox.new W3 42 #[.int .i64 xc, .int .u64 xq, .int .i64 xe, .slice Au xt.length cu])
        have HNB := Lib.hid (new_below W3 (.cells #[.int .i64 xc, .int .u64 xq, .int .i64 xe, .slice Au xt.length cu] 42))
        clear hb3 hy3 hu3 hx32 hzw
        go_wp2_with (at_builtin; refine list_ses rfl _ _ rfl rfl rfl (HO3.out.on HNB.out) HN4.out HFT.out (owns_on HU3.out HNB.out) (by have := HZ3.out; simp; omega) (by have := HML.out; omega) _ (Below.refl _ _) ?_; intro v5 w5 ho5 hb5 _; obtain ⟨A5, n5, c5, rfl⟩ := ho5.slice; have HO5 := Lib.hid ho5; have HB5 := Lib.hid hb5; have hx52 := (HX32.out.on HNB.out).below hb5 (by omega); have HX52 := Lib.hid hx52; have HX51 := Lib.hid ((HX31.out.on HNB.out).below hb5 (by omega)); have hf5 := hx52.frozen 0; have hc5 := hx52.one; clear ho5 hb5 hx52 c0 c1 c2 c3 c4)
        go_roundw
        case rel => exact ⟨k + 1, _, _, by omega, by go_num, HX52.out.set 0 _, HX51.out.far (by omega) _, HO5.out.setLow (by omega) _, Lib.hid (by rw [List.map_append, HMS.out, HTK.out]; rfl), (((HB.out.trans (HB3.out.mono HB.out.size)).trans ((HNB.out.mono (by have := HZ3.out; omega)).trans (HB5.out.mono (by omega)))).setCell (by show w.heap.size ≤ w.heap.size + 1 + 1; omega) _), by have h1 := HB5.out.size; have h2 := HNB.out.size; have h3 := HZ3.out; simp [World.setCell] at h1 h2 ⊢; omega⟩
        case measure => simp [intOf]; omega
      · obtain rfl : k = 5 := by omega
        have hf1 := HX1'.out.frozen 0
        have hc1 := HX1'.out.one
        obtain ⟨A5, c5, rfl, _⟩ := HO.out.sr
        have hx9 : SBox (wr.setCell ⟨w.heap.size + 1, 0, none⟩ (.slice A5 ms'.length c5)) (w.heap.size + 1) 24 #[.slice A5 ms'.length c5] := HX1'.out.set 0 _
        have hc9 := hx9.one
        have HO9 := Lib.hid (HO.out.setLow (show w.heap.size + 1 < w.heap.size + 3 by omega) (i := 0) (.slice A5 ms'.length c5))
        have HB9 := Lib.hid (HB.out.setCell (p := ⟨w.heap.size + 1, 0, none⟩) (by show w.heap.size ≤ w.heap.size + 1; omega) (.slice A5 ms'.length c5))
        generalize hlen : ms'.length = len at *
        have HLEN := Lib.hid hlen
        clear hx9 hlen
        go_wp2_with fail
        exact bodyPost_ret (v := .agg #[.slice A5 len c5]) (by simp [results, Try.results8, go_sem, hc9]) rfl ⟨⟨A5, c5, ms', by rw [HLEN.out], by rw [HLEN.out]; exact HO9.out.mono (by omega), by rw [HLL.out, HMS.out]⟩, HB9.out⟩
end Go.Proofs.Ytgnfoncokjglbaa
