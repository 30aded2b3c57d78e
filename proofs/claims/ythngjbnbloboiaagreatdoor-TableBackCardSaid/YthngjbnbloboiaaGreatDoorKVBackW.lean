/- TableBack: what is added, and removed again; paused, and resumed: walked. -/
import Derived.Test.YthngjbnbloboiaaGreatDoorKVWakes
import Derived.Test.YthngjbnbloboiaaGreatDoorKVDues
import Derived.Test.YthngjbnbloboiaaGreatDoorKVOwnL2
import Derived.Test.YthngjbnbloboiaaGreatDoorKVSame2
namespace Go.Proofs.YthngjbnbloboiaaGreatDoor
open Go.RowKit

theorem first_pos {T : Int → Prop} {now nx : Int} (h0 : 0 ≤ now) (h : FirstT T now nx true) : nx ≠ -1 := by
  rcases h with ⟨_, h⟩ | ⟨h, _⟩
  · have := h.2.1; omega
  · cases h
theorem len_live {ms1 ms2 : List RowM} (h : ms1.map (·.1) = ms2.map (·.1)) : (liveM ms1).length = (liveM ms2).length := by rw [live_is, live_is, h]
/-- All that TableBack asks of what is added: plain. -/
structure Added (ev : List (BitVec 64) → Bool) (l : List RowZ) (j : JobZ) (now nx : Int) : Prop where
  right : RightT ev (insR (newR j nx) l)
  names : ∀ x ∈ l, x.j.n ≠ j.n
  first : FirstT (j.TT ev) now nx true
  pos : nx ≠ -1
theorem added_of {ev : List (BitVec 64) → Bool} {l : List RowZ} {j : JobZ} {now nx : Int} (h : AddYes ev l j now) (hf : FirstT (j.TT ev) now nx true) : Added ev l j now nx :=
  ⟨ins_ok h hf, h.2.2.2.1, hf, first_pos (time_pos h.2.1) hf⟩
section
variable {ev : List (BitVec 64) → Bool} {l : List RowZ} {j : JobZ} {now nx : Int}
theorem Added.mem (_h : Added ev l j now nx) : newR j nx ∈ insR (newR j nx) l := (insR_mem _ _ _).2 (.inl rfl)
theorem Added.one (h : Added ev l j now nx) {r : RowZ} (hr : r ∈ insR (newR j nx) l) (hn : r.j.n = j.n) : r = newR j nx := name_one h.right.names hr h.mem hn
theorem Added.rem (h : Added ev l j now nx) : remR j.n (insR (newR j nx) l) = l := rem_ins (r := newR j nx) h.names
theorem Added.pau (h : Added ev l j now nx) : RightT ev (pauR j.n (insR (newR j nx) l)) := pauR_right h.right
theorem Added.live (h : Added ev l j now nx) : (liveR (pauR j.n (insR (newR j nx) l))).length + 1 = (liveR (insR (newR j nx) l)).length := live_pau (r := newR j nx) h.pos h.names
theorem Added.pmem (_h : Added ev l j now nx) : pauF (newR j nx) ∈ pauR j.n (insR (newR j nx) l) := by
  unfold pauR
  exact List.mem_map.2 ⟨newR j nx, (insR_mem _ _ _).2 (.inl rfl), by rw [if_pos (show (newR j nx).j.n = j.n from rfl)]; rfl⟩
theorem Added.again (h : Added ev l j now nx) {nx' : Int} (hn : ∀ r ∈ pauR j.n (insR (newR j nx) l), r.j.n = j.n → r.pa = true → NextOf ev r now nx') : resR j.n nx' (pauR j.n (insR (newR j nx) l)) = insR (newR j nx) l := by
  obtain rfl := next_new h.first (hn _ h.pmem rfl rfl)
  exact res_pau (r := newR j nx') rfl h.names
theorem Added.same (h : Added ev l j now nx) (nx' : Int) : resR j.n nx' (insR (newR j nx) l) = insR (newR j nx) l := res_same (r := newR j nx) rfl h.names nx'
end
theorem mem_named {ms : List RowM} {r : RowZ} {n : Int} (h : r ∈ ms.map (·.1)) (hn : r.j.n = n) : ∃ m ∈ ms, m.1.j.n = n := by
  obtain ⟨m, hm, rfl⟩ := List.mem_map.1 h
  exact ⟨m, hm, hn⟩
set_option maxRecDepth 100000 in
set_option maxHeartbeats 8000000 in
theorem tback_walk (A : Option Addr) (nn cc : Nat) (ms0 : List RowM) (j : JobZ) (now : Int) (w : World) (hL : LaidC w) (ht : TabR w A nn cc ms0) (hj : j.Fit) :
    Calls Tryz.prog 3 #[.slice A nn cc, jobV j, .int .i64 now] w fun e w' => e = .returned (.bool true) ∧ Below w.heap.size w w' := by
  obtain ⟨ev, hev⟩ := ev_is
  have hb0 := new_below w (.cells (jobC j).toArray 29)
  have hx0 := D.Box.new w 29 (jobC j).toArray
  obtain ⟨W0, hW0⟩ : ∃ W : World, W = w.alloc (.cells (jobC j).toArray 29) := ⟨_, rfl⟩
  rw [← hW0] at hx0 hb0
  have HB0 := Lib.hid hb0; have HL := Lib.hid (hL.on hb0); have HT0 := Lib.hid (ht.on hb0)
  have HE : Hid (∀ W, Below W0.heap.size W0 W → Below w.heap.size w W) := Lib.hid (fun W hb => HB0.out.trans (hb.mono HB0.out.size))
  have HLJ : Hid (∀ W, Below W0.heap.size W0 W → LoadIs W 29 w.heap.size 0 (jobV j)) := Lib.hid (fun W hb => load_of (D.Box.belowAll hx0 hb) 0 11 _ (fun i u hi => by rw [Nat.zero_add]; exact hi) und_job size_job (jobC_len hj))
  have HNC : Hid (∀ W, Below W0.heap.size W0 W → W.cell? ⟨w.heap.size, 0, none⟩ = some (.int .u32 j.n)) := Lib.hid (fun W hb => by rw [D.Box.cell (D.Box.belowAll hx0 hb) 0]; rfl)
  have HWK := Lib.hid (fun W hW => wakes11_any ev hev W hW)
  have HOW := Lib.hid (fun W hW => lown_any A nn cc ms0 W hW)
  have HAD := Lib.hid (fun A n c (ms : List RowM) W hW ht hA => add_any ev hev A n c ms j now W hW ht hA hj)
  have HFD := Lib.hid (fun A n c (ms : List RowM) W hW ht hR hex => tfind_ok ev hev A n c ms j.n W hW ht hR hex)
  have HFJ := Lib.hid (fun W hW => jfirst_any ev hev j now W hW hj)
  unfold TimeIs at HFJ
  have HRM := Lib.hid (fun A n c (ms : List RowM) W hW ht hR hex => remove_ok ev hev A n c ms j.n W hW ht hR hex)
  have HPA := Lib.hid (fun A n c (ms : List RowM) W hW ht hR hex => pause_ok ev hev A n c ms j.n W hW ht hR hex)
  have HRE := Lib.hid (fun A n c (ms : List RowM) W hW ht hR hex hn => resume_ok ev hev A n c ms j.n now W hW ht hR hex hn)
  have HDU := Lib.hid (fun A n c (ms : List RowM) W hW ht => dues_any ev hev A n c ms W hW ht)
  obtain ⟨JV, hJV⟩ : ∃ JV, jobV j = JV := ⟨_, rfl⟩
  rw [hJV] at HLJ HAD HFJ
  have hsh : jobV j = .agg (jobC j).toArray := rfl
  rw [hsh]
  have HJF := Lib.hid hj
  clear hL ht hb0 hx0 hsh hJV hj hev
  go_enter Tryz.func3, Tryz.ntmps3
  go_upto_region 1 with fail
  rw [← hW0]
  clear hW0
  go_wp2_with fail
  refine (HWK.out _ HL.out).mono ?_
  rintro e w1 ⟨rfl, hb⟩
  have HB1 := Lib.hid hb
  clear hb HWK
  go_wp2_with fail
  refine (HOW.out _ (HT0.out.on HB1.out)).mono ?_
  rintro e w2 ⟨⟨A', n, c, ms, rfl, ht, hA, _⟩, hb⟩
  have HB2 := Lib.hid (HB1.out.trans (hb.mono HB1.out.size)); have HT2 := Lib.hid ht; have HLN := Lib.hid ht.len
  have HJ2 := Lib.hid (HLJ.out _ HB2.out)
  have HAD2 := Lib.hid (HAD.out _ _ _ _ _ (HL.out.on HB2.out) ht hA)
  clear hb ht hA HOW HT0 HB1 HAD
  go_wp2_with (refine list_load rfl _ rfl rfl HJ2.out ?_)
  refine HAD2.out.mono ?_
  rintro e w3 ⟨hadd, hb⟩
  have HB3 := Lib.hid (HB2.out.trans (hb.mono HB2.out.size)); have HT3 := Lib.hid (HT2.out.on hb)
  clear hb HAD2 HJ2 HT2 HB2
  rcases hadd with ⟨z, hz, rfl, _⟩ | ⟨hyes, nx, A1, n1, c1, ms1, rfl, ht1, hm1, hf1⟩
  · have hz1 : (z != 0) = true := by simpa using hz
    clear hz
    as_aux_lemma =>
      go_wp2_with fail
      go_ret
      exact ⟨by first | rfl | simp, HE.out _ HB3.out⟩
  have HAA := Lib.hid (added_of hyes hf1); have HTM := Lib.hid hyes.2.1
  have HN3 := Lib.hid ht1; have HM1 := Lib.hid hm1
  have HR1 : Hid (RightT ev (ms1.map (·.1))) := Lib.hid (by rw [hm1]; exact HAA.out.right)
  have HX1 : Hid (∃ m ∈ ms1, m.1.j.n = j.n) := Lib.hid (mem_named (by rw [hm1]; exact HAA.out.mem) rfl)
  have hn1 : n1 ≤ 12 := by have := HR1.out.most; rw [List.length_map, ht1.len] at this; exact this
  have hnc := HNC.out _ HB3.out
  clear hyes ht1 hm1 hf1
  go_wp2_with fail
  refine (HFD.out _ _ _ _ _ (HL.out.on HB3.out) HN3.out HR1.out HX1.out).mono ?_
  rintro e w4 ⟨⟨r, v', rfl, hmr, hnr, hqr⟩, hb⟩
  obtain rfl := HAA.out.one (by rw [← HM1.out]; exact hmr) hnr
  have HB4 := Lib.hid (HB3.out.trans (hb.mono HB3.out.size)); have HT4 := Lib.hid (HT3.out.on hb); have HN4 := Lib.hid (HN3.out.on hb)
  have hrf : (newR j nx).Fit := newR_fit HJF.out nx
  obtain ⟨W5, hs5, hx5, hb5, hz5⟩ := row_var w4 (newR j nx) v' hrf (qr_cell hqr.qr)
  have HS5 := Lib.hid hs5; have HX5 := Lib.hid hx5; have HB5 := Lib.hid (HB4.out.trans (hb5.mono HB4.out.size)); have HT5 := Lib.hid (HT4.out.on hb5); have HN5 := Lib.hid (HN4.out.on hb5)
  have hq0 : v' = .slice none 0 0 ∨ ∃ A c, v' = .slice A 0 c := by
    obtain ⟨A, c, e, _⟩ := hqr
    exact .inr ⟨A, c, e⟩
  have HQ0 := Lib.hid hq0
  have HJ5 := Lib.hid (HLJ.out _ HB5.out)
  have HRF := Lib.hid hrf
  have HCF : Hid (∀ W, Below W5.heap.size W5 W → W.cell? ⟨w4.heap.size, 11, none⟩ = some (.bool false) ∧ W.cell? ⟨w4.heap.size, 12, none⟩ = some (.int .i64 nx) ∧ W.cell? ⟨w4.heap.size, 16, none⟩ = some v' ∧ LoadIs W 36 w4.heap.size 13 (.agg #[.int .u64 0, .int .i64 0, .int .i64 0])) := Lib.hid (fun W hb => by
    have hbx := D.Box.belowAll HX5.out hb
    have hc := cellsF_of HRF.out (row_range hbx)
    have c1 := hc.pa; have c2 := hc.nx; have c3 := hc.q
    rw [Nat.zero_add] at c1 c2 c3
    exact ⟨c1, c2, c3, row_going HRF.out (row_range hbx)⟩)
  clear hb hmr hnr hqr hrf hs5 hx5 hb5 hz5 hq0 hnc HFD HT3 HN3 HB3 HT4 HN4 HB4
  go_wp2_with (first | refine list_store rfl _ _ rfl rfl rfl HS5.out ?_ | refine list_load rfl _ rfl rfl HJ5.out ?_)
  refine (HFJ.out _ (HL.out.on HB5.out)).mono ?_
  rintro e w6 ⟨⟨t, ok, rfl, hf⟩, hb⟩
  obtain ⟨rfl, rfl⟩ := firstT_one HAA.out.first hf
  have HB6 := Lib.hid (HB5.out.trans (hb.mono HB5.out.size)); have HT6 := Lib.hid (HT5.out.on hb); have HN6 := Lib.hid (HN5.out.on hb); have HW6 := Lib.hid hb
  have hnc := HNC.out _ HB6.out
  clear hb hf HFJ HJ5 HT5 HN5
  go_wp2_with fail
  refine (HRM.out _ _ _ _ _ (HL.out.on HB6.out) HN6.out HR1.out HX1.out).mono ?_
  rintro e w7 ⟨⟨A2, n2, c2, ms2, rfl, ht2, hm2⟩, hb⟩
  have hm2 : ms2.map (·.1) = ms.map (·.1) := by rw [hm2, HM1.out]; exact HAA.out.rem
  have HB7 := Lib.hid (HB6.out.trans (hb.mono HB6.out.size)); have HT7 := Lib.hid (HT6.out.on hb); have HN7 := Lib.hid (HN6.out.on hb); have HW7 := Lib.hid (HW6.out.trans (hb.mono HW6.out.size)); have HR7 := Lib.hid ht2
  have hn2 : n2 ≤ 100 := by
    have h1 := congrArg List.length hm2
    rw [List.length_map, List.length_map, ht2.len, HLN.out] at h1
    have h2 := congrArg List.length HM1.out
    rw [List.length_map, insR_len, List.length_map, HN7.out.len, HLN.out] at h2
    omega
  have HSM := Lib.hid (same_ok A2 A' n2 n c2 c ms2 ms w7 ht2 HT7.out hm2 hn2)
  obtain ⟨a11, a12, a16, a13⟩ := HCF.out _ HW7.out
  have HLG := Lib.hid a13
  obtain ⟨Aq, cq, rfl⟩ : ∃ A c, v' = .slice A 0 c := by
    rcases HQ0.out with rfl | h
    · exact ⟨none, 0, rfl⟩
    · exact h
  clear hb hm2 ht2 hn2 a13 hnc HRM HT6 HN6 HB6 HW6
  go_wp2_with (first | refine list_loadw (by rfl) _ rfl rfl HLG.out ?_)
  refine HSM.out.mono ?_
  rintro e w8 ⟨rfl, hb⟩
  have HB8 := Lib.hid (HB7.out.trans (hb.mono HB7.out.size)); have HN8 := Lib.hid (HN7.out.on hb)
  have hnc := HNC.out _ HB8.out
  clear hb a11 a12 a16 HLG HSM HT7 HN7 HB7 HW7 HR7
  go_wp2_with fail
  refine (HPA.out _ _ _ _ _ (HL.out.on HB8.out) HN8.out HR1.out HX1.out).mono ?_
  rintro e w9 ⟨⟨A3, n3, c3, ms3, rfl, ht3, hm3⟩, hb⟩
  have hm3 : ms3.map (·.1) = pauR j.n (insR (newR j t) (ms.map (·.1))) := by rw [hm3, HM1.out]
  have HB9 := Lib.hid (HB8.out.trans (hb.mono HB8.out.size)); have HN9 := Lib.hid (HN8.out.on hb); have HP9 := Lib.hid ht3; have HM3 := Lib.hid hm3
  have HR3 : Hid (RightT ev (ms3.map (·.1))) := Lib.hid (by rw [hm3]; exact HAA.out.pau)
  have HX3 : Hid (∃ m ∈ ms3, m.1.j.n = j.n) := Lib.hid (mem_named (by rw [hm3]; exact HAA.out.pmem) rfl)
  clear hb hm3 ht3 hnc HPA HN8 HB8
  go_wp2_with fail
  refine (HDU.out _ _ _ _ _ (HL.out.on HB9.out) HP9.out).mono ?_
  rintro e w10 ⟨⟨v10, ds10, rfl, ho10, _, hc10⟩, hb⟩
  have hl10 : ds10.length = (liveM ms3).length := by
    rcases hc10 with ⟨_, h⟩ | ⟨h, _⟩
    · exact h.length_eq
    · exact absurd HR3.out h
  obtain ⟨A10, c10, rfl⟩ := ho10.slice
  have HB10 := Lib.hid (HB9.out.trans (hb.mono HB9.out.size)); have HN10 := Lib.hid (HN9.out.on hb); have HP10 := Lib.hid (HP9.out.on hb); have HL10 := Lib.hid hl10
  clear hb ho10 hc10 hl10 HN9 HP9 HB9
  go_wp2_with fail
  refine (HDU.out _ _ _ _ _ (HL.out.on HB10.out) HN10.out).mono ?_
  rintro e w11 ⟨⟨v11, ds11, rfl, ho11, _, hc11⟩, hb⟩
  have hl11 : ds11.length = (liveM ms1).length := by
    rcases hc11 with ⟨_, h⟩ | ⟨h, _⟩
    · exact h.length_eq
    · exact absurd HR1.out h
  have hlen : ds11.length = ds10.length + 1 := by
    rw [hl11, HL10.out, live_is, live_is, List.length_map, List.length_map, HM1.out, HM3.out]
    exact HAA.out.live.symm
  obtain ⟨A11, c11, rfl⟩ := ho11.slice
  rw [hlen]
  have hdl : ds10.length ≤ 12 := by
    rw [HL10.out]
    refine Nat.le_trans (live_len _) ?_
    have := HR3.out.most
    rw [List.length_map] at this
    exact this
  generalize ds10.length = dl at *
  have hw1 : IntKind.i64.wrap (((dl + 1 : Nat) : Int) - 1) = (dl : Int) := by rw [IntKind.wrap_i64]; omega
  have hw2 : IntKind.i64.wrap ((dl : Int) + 1 - 1) = (dl : Int) := by rw [IntKind.wrap_i64]; omega
  have HB11 := Lib.hid (HB10.out.trans (hb.mono HB10.out.size)); have HN11 := Lib.hid (HN10.out.on hb); have HP11 := Lib.hid (HP10.out.on hb)
  have hnc := HNC.out _ HB11.out
  clear hb ho11 hc11 hl11 hlen HN10 HP10 HB10 HDU HL10
  go_wp2_with fail
  refine (HRE.out _ _ _ _ _ (HL.out.on HB11.out) HP11.out HR3.out HX3.out HTM.out).mono ?_
  rintro e w12 ⟨⟨A4, n4, c4, ms4, rfl, ht4, nx4, hnx4, hm4⟩, hb⟩
  have hm4 : ms4.map (·.1) = ms1.map (·.1) := by
    rw [HM3.out] at hnx4 hm4
    rw [hm4, HM1.out]
    exact HAA.out.again hnx4
  have HB12 := Lib.hid (HB11.out.trans (hb.mono HB11.out.size)); have HN12 := Lib.hid (HN11.out.on hb); have HA12 := Lib.hid ht4; have HM4 := Lib.hid hm4
  have hnc2 := HNC.out _ HB12.out
  clear hb ht4 hnx4 hm4 hnc hw1 hw2 HN11 HP11 HB11
  go_wp2_with fail
  refine (HRE.out _ _ _ _ _ (HL.out.on HB12.out) HN12.out HR1.out HX1.out HTM.out).mono ?_
  rintro e w13 ⟨⟨A5, n5, c5, ms5, rfl, ht5, nx5, _, hm5⟩, hb⟩
  have hm5 : ms5.map (·.1) = ms1.map (·.1) := by
    rw [hm5, HM1.out]
    exact HAA.out.same nx5
  have HB13 := Lib.hid (HB12.out.trans (hb.mono HB12.out.size)); have HN13 := Lib.hid (HN12.out.on hb); have HA13 := Lib.hid (HA12.out.on hb); have HS13 := Lib.hid ht5; have HM5 := Lib.hid hm5
  have HLL : Hid (n4 ≤ 100 ∧ n5 ≤ 100) := Lib.hid (by
    have h1 := congrArg List.length HM4.out
    have h2 := congrArg List.length hm5
    rw [List.length_map, List.length_map, HA13.out.len, HN13.out.len] at h1
    rw [List.length_map, List.length_map, ht5.len, HN13.out.len] at h2
    omega)
  have HSA := Lib.hid (same_ok A4 A1 n4 n1 c4 c1 ms4 ms1 w13 HA13.out HN13.out HM4.out HLL.out.1)
  clear hb ht5 hm5 hnc2 HN12 HA12 HB12 HRE
  go_wp2_with fail
  refine HSA.out.mono ?_
  rintro e w14 ⟨rfl, hb⟩
  have HB14 := Lib.hid (HB13.out.trans (hb.mono HB13.out.size))
  have HSB := Lib.hid (same_ok A5 A1 n5 n1 c5 c1 ms5 ms1 w14 (HS13.out.on hb) (HN13.out.on hb) HM5.out HLL.out.2)
  clear hb HSA HA13 HN13 HS13 HB13
  go_wp2_with fail
  refine HSB.out.mono ?_
  rintro e w15 ⟨rfl, hb⟩
  have HB15 := Lib.hid (HB14.out.trans (hb.mono HB14.out.size))
  clear hb HSB
  go_wp2_with fail
  go_ret
  exact ⟨rfl, HE.out _ HB15.out⟩
end Go.Proofs.YthngjbnbloboiaaGreatDoor
