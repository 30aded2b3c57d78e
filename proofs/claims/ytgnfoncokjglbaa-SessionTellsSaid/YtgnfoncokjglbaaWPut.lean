/- The sessions in which a row stands in its client's place: walked. -/
import Derived.Test.YtgnfoncokjglbaaWFew2
import Derived.Test.YtgnfoncokjglbaaWCut2
namespace Go.Proofs.Ytgnfoncokjglbaa
open Go.RowKit

theorem ses_read {w : World} {g : Nat} {x : SesZ} {v : Value} (h : SBox w g 42 #[.int .i64 x.cl, .int .u64 x.seq, .int .i64 x.rep.err, v]) : Reads w (some ⟨g, 0, none⟩) (sesC (x, v)) := fun j y hj => ⟨g, 0, rfl, h.lt, by
  rw [Nat.zero_add, h.cell j]
  rw [show (#[.int .i64 x.cl, .int .u64 x.seq, .int .i64 x.rep.err, v] : Array Value) = (sesC (x, v)).toArray from rfl, List.getElem?_toArray]
  exact hj⟩
theorem Full.on {w w' : World} {base n : Nat} {v : Value} {cs : List Value} (h : Full w base v n cs) (hb : Below w.heap.size w w') : Full w' base v n cs := by
  rcases h with ⟨A, e, h1, h2, h3, h4⟩ | h
  · exact .inl ⟨A, e, h1, h2, h3, h4.on hb⟩
  · exact .inr (owns_on h hb)
theorem put_list (l : List SesZ) (x : SesZ) : l.take (aheadN x.cl l) ++ [x] ++ l.drop (aheadN (x.cl + 1) l) = putS l x := by
  rw [aheadN_take, aheadN_drop]
  unfold putS
  simp
set_option maxRecDepth 100000 in
set_option maxHeartbeats 4000000 in
theorem put_any (A : Option Addr) (n c : Nat) (ms : List SesM) (x : SesZ) (v : Value) (w : World) (h : SR w A n c ms) (hn : n ≤ 100) (hl : ∀ m ∈ ms, m.1.rep.names.length ≤ 100000) (hv : NR w v x.rep.names) (hx : x.Fit) (hxl : x.rep.names.length ≤ 100000) (h1 : 1 ≤ x.cl) (h2 : x.cl ≤ 3) :
    Calls Try.prog 36 #[.agg #[.slice A n c], sesV x v] w (FewIs w (putS (ms.map (·.1)) x)) := by
  have HPL := Lib.hid (put_list (ms.map (·.1)) x)
  obtain ⟨xc, xq, xe, xn⟩ := x
  unfold sesV
  simp only at h1 h2 hv hxl HPL ⊢
  obtain ⟨V0, hV0⟩ : ∃ V0 : World, V0 = (w.alloc (.cells #[.slice A n c] 24)).alloc (.cells #[.int .i64 xc, .int .u64 xq, .int .i64 xe, v] 42) := ⟨_, rfl⟩
  have hb0 : Below w.heap.size w (V0.alloc (.cells #[.slice none 0 0] 24)) := by rw [hV0]; exact ((new_below w _).alloc (by simp) _).alloc (by simp; omega) _
  have hx0 : SBox (V0.alloc (.cells #[.slice none 0 0] 24)) w.heap.size 24 #[.slice A n c] := by rw [hV0]; exact ((SBox.new w _ _).alloc _).alloc _
  have hx1 : SBox (V0.alloc (.cells #[.slice none 0 0] 24)) (w.heap.size + 1) 42 #[.int .i64 xc, .int .u64 xq, .int .i64 xe, v] := by
    have := SBox.new (w.alloc (.cells #[.slice A n c] 24)) 42 #[.int .i64 xc, .int .u64 xq, .int .i64 xe, v]
    rw [World.size_alloc, ← hV0] at this
    exact this.alloc _
  have hx2 : SBox (V0.alloc (.cells #[.slice none 0 0] 24)) (w.heap.size + 1 + 1) 24 #[.slice none 0 0] := by
    have := SBox.new V0 24 #[.slice none 0 0]
    rwa [show V0.heap.size = w.heap.size + 1 + 1 by rw [hV0]; simp] at this
  have hsz : (V0.alloc (.cells #[.slice none 0 0] 24)).heap.size = w.heap.size + 3 := by rw [hV0]; simp
  obtain ⟨W0, hW0⟩ : ∃ W0 : World, W0 = V0.alloc (.cells #[.slice none 0 0] 24) := ⟨_, rfl⟩
  rw [← hW0] at hb0 hx0 hx1 hx2 hsz
  rw [hV0] at hW0
  have HB0 := Lib.hid hb0; have HX1 := Lib.hid hx1; have HX2 := Lib.hid hx2; have HSZ := Lib.hid hsz
  have a0 := hx0.one
  obtain ⟨b0, b1, b2, b3⟩ := hx1.four
  have HCUT := Lib.hid (cut_any A n c xc ms W0 (h.on hb0) h1 (by omega))
  have HV := Lib.hid (hv.on hb0); have HLM := Lib.hid hl; have HFX := Lib.hid hx; have HXL := Lib.hid hxl
  have HLN := Lib.hid h.len; have HN := Lib.hid hn
  have hle := aheadN_mono xc (ms.map (·.1))
  have hle2 := aheadN_le (xc + 1) (ms.map (·.1))
  have hle3 := aheadN_le xc (ms.map (·.1))
  rw [List.length_map, h.len] at hle2 hle3
  generalize hp : aheadN xc (ms.map (·.1)) = p at *
  generalize he : aheadN (xc + 1) (ms.map (·.1)) = e at *
  have HLE := Lib.hid hle; have HLE2 := Lib.hid hle2; have HLE3 := Lib.hid hle3
  clear hb0 hx0 hx1 hx2 hsz h hn hl hv hx hxl hV0 h1 h2 hle hle2 hle3 hp he
  go_enter Try.func36, Try.ntmps36
  go_wp2_with fail
  rw [← hW0]
  clear hW0
  refine HCUT.out.mono ?_
  rintro y w1 ⟨⟨A1, A2, A3, rfl, s1, s2, s3⟩, hb1⟩
  generalize hnb : ms.length - e = nb at *
  have HNB : Hid (nb ≤ 100) := Lib.hid (by have := HN.out; have := HLN.out; omega)
  have hx12 := HX2.out.on hb1
  have hx11 := HX1.out.on hb1
  have HX12 := Lib.hid hx12
  clear a0 b0 b1 b2 b3
  obtain ⟨b0, b1, b2, b3⟩ := hx11.four
  have HB1 := Lib.hid hb1
  have HFULL : Hid (Full w1 w1.heap.size (.slice A1 p p) p ((ms.take p).flatMap sesC)) := Lib.hid (.inl ⟨A1, rfl, s1.top, s1.non, by rw [sflat_len, s1.len], s1.rd⟩)
  have HOK1 := Lib.hid s1.ok; have HOK3 := Lib.hid s3.ok; have HS1L := Lib.hid s1.len; have HS3L := Lib.hid s3.len
  have HS3 := Lib.hid s3
  have HVV := Lib.hid (HV.out.on hb1)
  have HNA := Lib.hid (SBox.new w1 42 #[.int .i64 xc, .int .u64 xq, .int .i64 xe, v])
  have HNW := Lib.hid (new_below w1 (.cells #[.int .i64 xc, .int .u64 xq, .int .i64 xe, v] 42))
  have HZ1 := Lib.hid (show w.heap.size + 3 ≤ w1.heap.size by have := hb1.size; have := HSZ.out; omega)
  clear hb1 hx12 hx11 s1 s2 s3 hnb
  go_upto_region 3 with fail
  go_wp2_with (at_builtin; first
    | (refine list_rows (base := w1.heap.size) (n := p + 1) (news := (ms.drop e).flatMap sesC) rfl _ _ rfl rfl rfl hF5.out HS3.out.non (Nat.le_refl _) (by rw [sflat_len, HS3L.out]) (HS3.out.rd.on HB5.out) (sflat_one HOK3.out) HB5.out.size (by have := HLE3.out; have := HN.out; have := HNB.out; omega) _ HB5.out ?_; intro v6 w6 hF6 hb6; generalize hN7 : p + 1 + nb = N7 at hF6; obtain ⟨A7, c7, rfl, g1, g2, g3, g4, g5⟩ := hF6.reads; have HB6 := Lib.hid hb6; have HR6 : Hid (SR w6 A7 N7 c7 (ms.take p ++ [(⟨xc, xq, xe, xn⟩, v)] ++ ms.drop e)) := Lib.hid ⟨by rw [List.length_append, List.length_append, HS1L.out, HS3L.out]; exact hN7, g1, g2, g3, by rw [List.flatMap_append, List.flatMap_append, List.flatMap_cons, List.flatMap_nil, List.append_nil]; exact g5, fun m hm => by
        rcases List.mem_append.1 hm with hm | hm
        · rcases List.mem_append.1 hm with hm | hm
          · exact (HOK1.out m hm).on hb6
          · rw [List.mem_singleton] at hm
            subst hm
            exact SesOk.on (w := w1) ⟨HFX.out, HVV.out⟩ hb6
        · exact (HOK3.out m hm).on hb6⟩; have HN7 : Hid (N7 ≤ 1000) := Lib.hid (by have := HLE3.out; have := HN.out; have := HNB.out; omega); clear hF6 hb6 g1 g2 g3 g4 g5 b0 b1 b2 b3 hF5 hN7)
    | (refine list_rows (base := w1.heap.size) (n := p) (news := sesC (⟨xc, xq, xe, xn⟩, v)) rfl _ _ rfl rfl rfl (HFULL.out.on HNW.out) (fun e => by cases e) (Nat.le_refl _) rfl (ses_read (x := ⟨xc, xq, xe, xn⟩) HNA.out) (ses_one (x := ⟨xc, xq, xe, xn⟩) HVV.out.one) HNW.out.size (by have := HLE3.out; have := HN.out; omega) w1 HNW.out ?_; intro v5 w5 hf5 hb5; have hF5 := Lib.hid hf5; have HB5 := Lib.hid hb5; clear hf5 hb5))
  have HLL : Hid (((ms.take p ++ [((⟨xc, xq, xe, xn⟩ : SesZ), v)] ++ ms.drop e : List SesM)).map (·.1) = putS (ms.map (·.1)) ⟨xc, xq, xe, xn⟩) := Lib.hid (by
    rw [← HPL.out, List.map_append, List.map_append, List.map_take, List.map_drop]; rfl)
  have HLQ : Hid (∀ m ∈ (ms.take p ++ [((⟨xc, xq, xe, xn⟩ : SesZ), v)] ++ ms.drop e : List SesM), m.1.rep.names.length ≤ 100000) := Lib.hid (fun m hm => by
    rcases List.mem_append.1 hm with hm | hm
    · rcases List.mem_append.1 hm with hm | hm
      · exact HLM.out m (List.mem_of_mem_take hm)
      · rw [List.mem_singleton] at hm
        subst hm
        exact HXL.out
    · exact HLM.out m (List.mem_of_mem_drop hm))
  have HX6 := Lib.hid (HX12.out.on HB6.out)
  have HZ6 := Lib.hid (Nat.le_trans HZ1.out HB6.out.size)
  have HBW := Lib.hid (HB0.out.trans ((HB1.out.mono HB0.out.size).trans (HB6.out.mono (by have := HZ1.out; omega))))
  generalize (ms.take p ++ [((⟨xc, xq, xe, xn⟩ : SesZ), v)] ++ ms.drop e : List SesM) = mc at *
  have HCL := Lib.hid HR6.out.len
  have htop : c7 ≤ maxLen := HR6.out.top
  have hcp : N7 ≤ c7 := HR6.out.cap
  unfold maxLen at htop
  clear HPL HNA HNW HVV HS3 HOK1 HOK3 HFULL HS1L HS3L HCUT HV HX1 HX2
  go_loopw [8, 27] (fun v i wr => ∃ (k : Nat) (ms' : List SesM), k ≤ N7 ∧ i = .int .i64 (k : Int) ∧ OwnS wr w6.heap.size v ms' ∧ Hid (ms'.map (·.1) = (mc.take k).map (·.1)) ∧ Below w6.heap.size w6 wr) (fun _ i _ => N7 - (intOf i).toNat)
  case atStart => exact ⟨0, [], by omega, rfl, .nil _ _, Lib.hid rfl, Below.refl _ _⟩
  case round =>
    obtain ⟨k, ms', hk, rfl, hown, HMS, hb⟩ := hrel
    have HO := Lib.hid hown; have HB := Lib.hid hb
    have HML : Hid (ms'.length = k) := Lib.hid (by
      have := congrArg List.length HMS.out
      rw [List.length_map, List.length_map, List.length_take] at this
      have := HCL.out; omega)
    have HZr := Lib.hid hb.size
    clear hown hb
    by_cases hlt : k < N7
    · obtain ⟨m, hm⟩ : ∃ m, mc[k]? = some m := ⟨_, List.getElem?_eq_getElem (by have := HCL.out; omega)⟩
      obtain ⟨⟨yc, yq, ye, yn⟩, yv⟩ := m
      have ht := HR6.out.on HB.out
      have hok := ht.ok _ (List.mem_of_getElem? hm)
      obtain ⟨b1, o1, rfl, hj1⟩ := ht.at_ hm
      have HLD := Lib.hid (ses_load ht hm)
      obtain ⟨W1, hs1, hy1, hb1, hz1⟩ := ses_var wr ⟨yc, yq, ye, yn⟩ yv hok.2.one
      have HS1 := Lib.hid hs1; have HB1' := Lib.hid hb1; have HZ1' := Lib.hid hz1
      have HLX := Lib.hid hy1.load
      have HAN := Lib.hid (anew_any ⟨yc, yq, ye, yn⟩ yv W1 (hok.2.on hb1) (HLQ.out _ (List.mem_of_getElem? hm)))
      have HFT := Lib.hid hok.1
      have HTK : Hid ((mc.take (k + 1)).map (·.1) = (mc.take k).map (·.1) ++ [⟨yc, yq, ye, yn⟩]) := Lib.hid (by rw [List.take_add_one, hm, List.map_append]; rfl)
      have i0 : (0 : Int) ≤ (k : Int) := by omega
      have i1 : (k : Int) < (N7 : Int) := by omega
      unfold sesV at *
      simp only at HLD HS1 HLX HAN
      clear hm ht hok hj1 hs1 hy1 hb1 hz1
      go_wp2_with (first | refine list_load rfl _ rfl rfl HLD.out ?_ | refine list_store0 rfl rfl _ _ rfl rfl rfl HS1.out ?_ | refine list_load rfl _ rfl rfl HLX.out ?_ | (go_at_call 34; refine HAN.out.mono ?_; rintro y w2 ⟨u, rfl, hu, hb2⟩; have HU := Lib.hid hu; have HB2 := Lib.hid hb2; have HN4 := Lib.hid (SBox.new w2 42 #[.int .i64 yc, .int .u64 yq, .int .i64 ye, u]); have HNB2 := Lib.hid (new_below w2 (.cells #[.int .i64 yc, .int .u64 yq, .int .i64 ye, u] 42)); have HO2 := Lib.hid ((HO.out.on HB1'.out).on hb2); clear hu hb2) | (at_builtin; refine list_ses rfl _ _ rfl rfl rfl (HO2.out.on HNB2.out) HN4.out HFT.out (owns_on (owns_mono HU.out (by have := HZ1'.out; have := HZr.out; omega)) HNB2.out) (by have := HZ1'.out; have := HZr.out; have := HB2.out.size; simp; omega) (by have := HML.out; have := HN7.out; omega) _ (Below.refl _ _) ?_; intro v7 w7 ho7 hb7 _; obtain ⟨A9, n9, c9, rfl⟩ := ho7.slice; have HO7 := Lib.hid ho7; have HB7 := Lib.hid hb7; clear ho7 hb7))
      go_roundw
      case rel => exact ⟨k + 1, _, by omega, by go_num, HO7.out, Lib.hid (by rw [List.map_append, HMS.out, HTK.out]; rfl), (HB.out.trans ((HB1'.out.trans ((HB2.out.trans (HNB2.out.mono HB2.out.size)).mono HB1'.out.size)).mono HZr.out)).trans HB7.out⟩
      case measure => simp [intOf]; omega
    · obtain rfl : k = N7 := by omega
      have hx9 := HX6.out.on HB.out
      have hf1 := hx9.frozen 0
      have hc1 := hx9.one
      obtain ⟨A5, c5, rfl, _⟩ := HO.out.sr
      have hx8 : SBox (wr.setCell ⟨w.heap.size + 1 + 1, 0, none⟩ (.slice A5 ms'.length c5)) (w.heap.size + 1 + 1) 24 #[.slice A5 ms'.length c5] := hx9.set 0 _
      have hc9 := hx8.one
      have HO9 := Lib.hid (HO.out.setLow (show w.heap.size + 1 + 1 < w6.heap.size by have := HZ6.out; omega) (i := 0) (.slice A5 ms'.length c5))
      have HB9 := Lib.hid ((HBW.out.trans (HB.out.mono (by have := HZ6.out; omega))).setCell (p := ⟨w.heap.size + 1 + 1, 0, none⟩) (by show w.heap.size ≤ w.heap.size + 1 + 1; omega) (.slice A5 ms'.length c5))
      have HTK : Hid (mc.take k = mc) := Lib.hid (List.take_of_length_le (by have := HCL.out; omega))
      generalize hlen : ms'.length = len at *
      have HLEN := Lib.hid hlen
      clear hx9 hx8 hlen
      go_wp2_with fail
      exact bodyPost_ret (v := .agg #[.slice A5 len c5]) (by simp [results, Try.results36, go_sem, hc9]) rfl ⟨⟨A5, c5, ms', by rw [HLEN.out], by rw [HLEN.out]; exact HO9.out.mono (by have := HZ6.out; omega), by rw [HMS.out, HTK.out, HLL.out]⟩, HB9.out⟩
end Go.Proofs.Ytgnfoncokjglbaa
