/- DueCatch: what is offered are times of the job, as many as Catch says: walked. -/
import Derived.Test.YthghcffibljclaaDoorMXWakes
import Derived.Test.YthghcffibljclaaDoorMXOwn
import Derived.Test.YthghcffibljclaaDoorMXCatchP
namespace Go.Proofs.YthghcffibljclaaDoor
open Go.RowKit

theorem row_var2 (w : World) (r : RowZ) (v : Value) (hf : r.Fit) (hv : v.oneCell' = true) : ∃ W, StoreIs (w.alloc (.cells #[.int .u32 0, .bool false, .int .u64 0, .int .u64 0, .int .u64 0, .int .u64 0, .int .u64 0, .int .i64 0, .int .i64 0, .int .i64 0, .int .i64 0, .bool false, .int .i64 0, .int .u64 0, .int .i64 0, .int .i64 0, .slice none 0 0] 33)) 33 w.heap.size 0 (rowV r v) W ∧ D.Box W w.heap.size 33 (rowC r v).toArray ∧ Below w.heap.size w W := by
  have hb := D.Box.new w 33 #[.int .u32 0, .bool false, .int .u64 0, .int .u64 0, .int .u64 0, .int .u64 0, .int .u64 0, .int .i64 0, .int .i64 0, .int .i64 0, .int .i64 0, .bool false, .int .i64 0, .int .u64 0, .int .i64 0, .int .i64 0, .slice none 0 0]
  obtain ⟨W, h1, _, h3⟩ := row_put hb rfl hf hv
  exact ⟨W, h1, by rw [h3]; exact hb.setRow _, by rw [h3]; exact below_setRow (new_below w _) (Nat.le_refl _) _⟩
theorem cutZ_fit {r : RowZ} (h : r.Fit) : (cutZ r).Fit := h
set_option maxRecDepth 100000 in
set_option maxHeartbeats 4000000 in
theorem dcatch_walk (r0 : RowZ) (v0 : Value) (now : Int) (w : World) (hL : LaidC w) (hf0 : r0.Fit) (hq0 : QR w v0 r0.q) (hn0 : -9223372036854775808 ≤ now ∧ now ≤ 9223372036854775807) :
    Calls Tryd.prog 5 #[rowV r0 v0, .int .i64 now] w fun e w' => e = .returned (.bool true) ∧ Below w.heap.size w w' := by
  obtain ⟨ev, hev⟩ := ev_is
  have HRV0 : Hid (rowV r0 v0 = .agg (rowC r0 v0).toArray) := Lib.hid rfl
  have hx0 := D.Box.new w 33 (rowC r0 v0).toArray
  have hb0 := new_below w (.cells (rowC r0 v0).toArray 33)
  obtain ⟨W0, hW0⟩ : ∃ W : World, W = w.alloc (.cells (rowC r0 v0).toArray 33) := ⟨_, rfl⟩
  rw [← hW0] at hx0 hb0
  have HB0 := Lib.hid hb0; have HX0 := Lib.hid hx0
  have HLX := Lib.hid (fun W (hb : Below W0.heap.size W0 W) => row_load hf0 (D.Box.belowAll hx0 hb))
  rw [HRV0.out] at HLX
  have HWK := Lib.hid (fun W hW => wakes13_any ev hev W hW)
  have HOW := Lib.hid (fun W hq => xown_any r0 v0 W hf0 hq)
  have HL := Lib.hid (hL.on hb0); have HQ0 := Lib.hid (hq0.on hb0)
  have hf : (cutZ r0).Fit := hf0
  generalize hr : cutZ r0 = r at *
  have HF := Lib.hid hf
  have HOC := Lib.hid (fun v W hW hq => occur_any ev hev r v now W hW hf hq)
  have HCK := Lib.hid (fun v W hW hq => checkrow_any ev hev r v W hW hf hq)
  have HLA := Lib.hid (fun s W hW => jlatest_any ev hev r.j s W hW hf.1)
  have HFI := Lib.hid (fun s W hW => jfirst_any ev hev r.j s W hW hf.1)
  unfold TimeIs at HLA HFI
  rw [HRV0.out]
  rw [HRV0.out] at HOW
  clear hL hq0 hf0 hf hr hev hx0 hb0
  go_enter Tryd.func5, Tryd.ntmps5
  go_upto_region 1 with fail
  rw [← hW0]
  clear hW0
  go_wp2_with fail
  refine (HWK.out _ HL.out).mono ?_
  rintro e w1 ⟨rfl, hb⟩
  have HB1 := Lib.hid hb
  clear hb HWK
  have HLX1 := Lib.hid (HLX.out _ HB1.out)
  clear HLX
  go_wp2_with (refine list_load rfl _ rfl rfl HLX1.out ?_)
  refine (HOW.out _ (HQ0.out.on HB1.out)).mono ?_
  rintro e w2 ⟨⟨v, rfl, ho⟩, hb⟩
  have HB2 := Lib.hid (HB1.out.trans (hb.mono HB1.out.size))
  obtain ⟨W3, hs3, hx3, hb3⟩ := row_var2 w2 r v HF.out (qr_one' ho.qr)
  have HS3 := Lib.hid hs3; have HX3 := Lib.hid hx3; have HB3 := Lib.hid (HB2.out.trans (hb3.mono HB2.out.size)); have HQ3 := Lib.hid (ho.qr.on hb3)
  have HLR3 := Lib.hid (row_load HF.out hx3)
  clear hb ho hs3 hx3 hb3 HOW HB1 HB2 HQ0
  go_wp2_with (first | refine list_store rfl _ _ rfl rfl rfl HS3.out ?_ | refine list_load rfl _ rfl rfl HLR3.out ?_)
  refine (HOC.out v W3 (HL.out.on HB3.out) HQ3.out).mono ?_
  rintro e w4 ⟨⟨y, l, nx, rfl, hoy, hocc⟩, hb⟩
  obtain ⟨Ay, cy, rfl⟩ := own_slice0 hoy
  have HB4 := Lib.hid (HB3.out.trans (hb.mono HB3.out.size)); have HOY := Lib.hid hoy; have HOCC := Lib.hid hocc; have HQ4 := Lib.hid (HQ3.out.on hb)
  have HX4 := Lib.hid (D.Box.belowAll HX3.out hb)
  have HLR4 := Lib.hid (row_load HF.out HX4.out)
  clear hb hoy hocc HOC HS3 HLR3 HX3 HB3 HQ3
  generalize w2.heap.size = g at *
  go_wp2_with (first | refine list_load rfl _ rfl rfl HLR4.out ?_)
  refine (HCK.out v w4 (HL.out.on HB4.out) HQ4.out).mono ?_
  rintro e w5 ⟨hck, hb⟩
  have HB5 := Lib.hid (HB4.out.trans (hb.mono HB4.out.size)); have HBF := Lib.hid (HB0.out.trans ((HB4.out.trans (hb.mono HB4.out.size)).mono HB0.out.size))
  have HOY5 := Lib.hid (own_below HOY.out hb); have HX5 := Lib.hid (D.Box.belowAll HX4.out hb)
  clear hb HCK HOY HX4 HLR4 HQ4 HLX1
  have HBAD : Hid (¬ (r.Right ev ∧ D.timeB now = true) → l = [] ∧ nx = -1) := Lib.hid (fun h => by
    rcases HOCC.out with ⟨h1, h2, _⟩ | ⟨_, h1, h2⟩
    · exact absurd ⟨h1, h2⟩ h
    · exact ⟨h1, h2⟩)
  rcases hck with ⟨hp, rfl⟩ | ⟨hp, rfl⟩
  case inr =>
    obtain ⟨rfl, rfl⟩ := HBAD.out (fun h => hp h.1)
    clear hp HBAD HOCC
    go_wp2_with fail
    go_ret
    exact ⟨by first | rfl | simp, HBF.out⟩
  have HP := Lib.hid hp
  clear hp
  by_cases ht : 0 ≤ now ∧ now ≤ 253402300799
  case neg =>
    obtain ⟨rfl, rfl⟩ := HBAD.out (fun h => ht ((D.timeB_iff now).1 h.2))
    by_cases h0 : now < 0
    · have q1 : decide (now < 0) = true := decide_eq_true h0
      clear HBAD HOCC ht h0
      go_wp2_with fail
      go_ret
      exact ⟨by first | rfl | simp, HBF.out⟩
    · have q1 : decide (now < 0) = false := decide_eq_false h0
      have q2 : decide (253402300799 < now) = true := decide_eq_true (by omega)
      clear HBAD HOCC ht h0
      go_wp2_with fail
      go_ret
      exact ⟨by first | rfl | simp, HBF.out⟩
  have q1 : decide (now < 0) = false := decide_eq_false (by omega)
  have q2 : decide (253402300799 < now) = false := decide_eq_false (by omega)
  have HO := Lib.hid (occAll_ok HP.out ((D.timeB_iff now).2 ht) HOCC.out)
  have hcf := cellsF_of HF.out (row_range HX5.out)
  have c11 := hcf.pa; have c12 := hcf.nx
  rw [Nat.zero_add] at c11 c12
  have HHT := Lib.hid ht
  have HOCC2 := Lib.hid HOCC.out
  clear HBAD HOCC ht hcf
  by_cases hn : r.nx = -1 ∨ now < r.nx
  · obtain ⟨rfl, rfl⟩ : l = [] ∧ nx = r.nx := by
      rcases HO.out with ⟨_, h1, h2⟩ | ⟨h1, h2, _⟩
      · exact ⟨h1, h2⟩
      · omega
    cases hpa : r.pa with
    | true =>
      rw [hpa] at c11
      clear hn hpa HO
      go_wp2_with fail
      go_ret
      exact ⟨by first | rfl | simp, HBF.out⟩
    | false =>
      rw [hpa] at c11
      by_cases h1 : r.nx = -1
      · rw [h1] at c12 ⊢
        clear hn hpa h1 HO
        go_wp2_with fail
        go_ret
        exact ⟨by first | rfl | simp, HBF.out⟩
      · have q3 : (r.nx == -1) = false := by simpa using h1
        have q4 : decide (now < r.nx) = true := decide_eq_true (by omega)
        clear hn hpa h1 HO
        go_wp2_with fail
        go_ret
        exact ⟨by first | rfl | simp, HBF.out⟩
  have hpa : r.pa = false := by
    cases hp : r.pa with
    | false => rfl
    | true => exact absurd (.inl (HP.out.pa hp)) hn
  rw [hpa] at c11
  have q3 : (r.nx == -1) = false := by simp; omega
  have q4 : decide (now < r.nx) = false := decide_eq_false (by omega)
  have HLJ5 := Lib.hid (row_job HF.out HX5.out)
  have HTN := Lib.hid (right_range HP.out (fun e => hn (.inl e)))
  have HLE : Hid (r.nx ≤ now) := Lib.hid (by omega)
  have HOF : Hid (NextZ r.j.T now nx ∧ OfferZ r.j.T r.j.ca r.nx now l) := Lib.hid (by
    rcases HO.out with ⟨h, _⟩ | ⟨_, _, h1, h2⟩
    · exact absurd h hn
    · exact ⟨h1, h2⟩)
  clear hn hpa HO
  rw [TT_ok HP.out.job] at HLA HFI
  go_wp2_with (refine list_load rfl _ rfl rfl HLJ5.out ?_)
  refine (HLA.out now w5 (HL.out.on HB5.out)).mono ?_
  rintro e w6 ⟨⟨la, ok, rfl, hla⟩, hb⟩
  obtain ⟨rfl, k1, k2, k3⟩ := last_some HTN.out.1 HLE.out hla
  have HB6 := Lib.hid (HB5.out.trans (hb.mono HB5.out.size)); have HOY6 := Lib.hid (own_below HOY5.out hb); have HX6 := Lib.hid (D.Box.belowAll HX5.out hb); have HLAT := Lib.hid hla
  have c12 := (cellsF_of HF.out (row_range HX6.out)).nx
  rw [Nat.zero_add] at c12
  have q5 : decide (la < r.nx) = false := decide_eq_false (by omega)
  have HLA6 := Lib.hid k1; have HLB6 := Lib.hid k3
  clear hla hb HLA HOY5 HX5 HB5 HLJ5 c11 k1 k2 k3 HBF
  go_wp2_with fail
  obtain ⟨nn, hnn⟩ : ∃ nn, l.length = nn := ⟨_, rfl⟩
  have hn1000 : nn ≤ 1000 := by rw [← hnn]; exact occAll_len HP.out ((D.timeB_iff now).2 HHT.out) HOCC2.out
  rw [hnn]
  have HNN := Lib.hid hnn
  have HRD : Hid (Reads w6 Ay (l.map int1)) := Lib.hid (by
    obtain ⟨A', c', e', _, _, _, h4⟩ := OwnT.qr (base := W3.heap.size) (l := l) HOY6.out
    cases e'
    exact h4)
  obtain ⟨om1, om2⟩ := offer_mem HOF.out.2 HTN.out.1 HLE.out
  have HM := Lib.hid om1; have HRI := Lib.hid om2
  clear hnn om1 om2 c12
  go_loopw [83] (fun i wr => ∃ k : Nat, k ≤ nn ∧ i = .int .i64 (k : Int) ∧ Below w6.heap.size w6 wr) (fun i _ => nn - (intOf i).toNat)
  case atStart => exact ⟨0, Nat.zero_le _, rfl, Below.refl _ _⟩
  case round =>
    obtain ⟨k, hk, rfl, hb⟩ := hrel
    have HB := Lib.hid hb
    have HX7 := Lib.hid (D.Box.belowAll HX6.out hb)
    have c12 := (cellsF_of HF.out (row_range HX7.out)).nx
    rw [Nat.zero_add] at c12
    have HLJ7 := Lib.hid (row_job HF.out HX7.out)
    have HBW := Lib.hid (HB6.out.trans (hb.mono HB6.out.size))
    clear hb
    by_cases hlt : k < nn
    · obtain ⟨t, ht⟩ : ∃ t, l[k]? = some t := ⟨_, List.getElem?_eq_getElem (by have := HNN.out; omega)⟩
      obtain ⟨b, o, rfl, hbl, ck⟩ := qr_at HRD.out ht
      have ck := (HB.out.cell (p := ⟨b, o + k, none⟩) hbl).trans ck
      obtain ⟨m1, m2, m3⟩ := HM.out t (List.mem_of_getElem? ht)
      obtain ⟨t0, t1⟩ := jobT_range HP.out.job m1
      have hw : IntKind.i64.wrap (t - 1) = t - 1 := by rw [IntKind.wrap_i64]; omega
      have HM1 := Lib.hid m1; have HTK := Lib.hid ht
      have g1 : (0 : Int) ≤ (k : Int) := by omega
      have g2 : (k : Int) < (nn : Int) := by omega
      have q6 : decide (t < r.nx) = false := decide_eq_false (by omega)
      have q7 : decide (now < t) = false := decide_eq_false (by omega)
      clear m1 m2 m3 t0 t1
      go_wp2_with (refine list_load rfl _ rfl rfl HLJ7.out ?_)
      refine (HFI.out (t - 1) wr (HL.out.on HBW.out)).mono ?_
      rintro e w8 ⟨⟨f, ok, rfl, hfi⟩, hb⟩
      obtain ⟨rfl, rfl⟩ := first_self HM1.out hfi
      have HB8 := Lib.hid (HB.out.trans (hb.mono HB.out.size))
      have c12 := (cellsF_of HF.out (row_range (D.Box.belowAll HX7.out hb))).nx
      rw [Nat.zero_add] at c12
      clear hb hfi HLJ7 ck
      cases k with
      | zero =>
        have q8 : decide ((0 : Int) < (0 : Int)) = false := by decide
        clear ht hbl
        go_wp2_with fail
        try (go_quiet (fail); go_wp2_with fail)
        go_roundw
        case rel => exact ⟨1, by omega, by go_num, by first | exact HB8.out | exact bdrewN HB8.out _⟩
        case measure => simp [intOf]; omega
      | succ k =>
        obtain ⟨p, hp⟩ : ∃ p, l[k]? = some p := ⟨_, List.getElem?_eq_getElem (by have := HNN.out; omega)⟩
        obtain ⟨b2, o2, e2, hbl2, cp⟩ := qr_at HRD.out hp
        cases e2
        have cp := (HB8.out.cell (p := ⟨b, o + k, none⟩) hbl2).trans cp
        have hst := List.pairwise_iff_getElem.1 HRI.out k (k + 1) (List.getElem?_eq_some_iff.1 hp).1 (List.getElem?_eq_some_iff.1 ht).1 (by omega)
        rw [(List.getElem?_eq_some_iff.1 hp).2, (List.getElem?_eq_some_iff.1 ht).2] at hst
        have q8 : decide ((0 : Int) < (k : Int) + 1) = true := decide_eq_true (by omega)
        have w1 : IntKind.i64.wrap ((k : Int) + 1 - 1) = (k : Int) := by rw [IntKind.wrap_i64]; omega
        have w2 : IntKind.i64.wrap (k : Int) = (k : Int) := by rw [IntKind.wrap_i64]; omega
        have i0 : (0 : Int) ≤ (k : Int) := by omega
        have i1 : (k : Int) < (nn : Int) := by omega
        have k3 : decide (f ≤ p) = false := decide_eq_false (by omega)
        clear ht hbl hp hbl2 hst
        go_wp2_with fail
        try (go_quiet (fail); go_wp2_with fail)
        go_roundw
        case rel => exact ⟨k + 2, by omega, by go_num, by first | exact HB8.out | exact bdrewN HB8.out _⟩
        case measure => simp [intOf]; omega
    · have hkn : k = nn := by omega
      subst hkn
      go_wp2_with (refine list_load rfl _ rfl rfl HLJ7.out ?_)
      refine (HFI.out now wr (HL.out.on HBW.out)).mono ?_
      rintro e w8 ⟨⟨f, ok, rfl, hfi⟩, hb⟩
      have hnf := nextZ_first HOF.out.1 hfi
      have HX8 := Lib.hid (D.Box.belowAll HX7.out hb)
      have HB8 := Lib.hid (HB0.out.trans ((HBW.out.trans (hb.mono HBW.out.size)).mono HB0.out.size))
      have hca := row_ca HF.out HX8.out
      have c12 := (cellsF_of HF.out (row_range HX8.out)).nx
      rw [Nat.zero_add] at c12
      have HRD8 := Lib.hid (HRD.out.on (HB.out.trans (hb.mono HB.out.size)))
      have hn13 : -9223372036854775808 ≤ now - la ∧ now - la ≤ 9223372036854775807 := by have := HLA6.out; have := HLB6.out; have := HTN.out.2; have := HHT.out; omega
      have w3 : IntKind.i64.wrap (now - la) = now - la := by rw [IntKind.wrap_i64]; omega
      clear hb hfi HFI HLJ7 hn13
      have hcs : (ok = true ∧ nx = f) ∨ (ok = false ∧ nx = -1) := hnf
      clear hnf
      have HOFF := Lib.hid HOF.out.2
      have hca3 := catch_three HP.out
      have hk4 : ∀ j u, l[j]? = some u → ∃ b o, Ay = some ⟨b, o, none⟩ ∧ w8.cell? ⟨b, o + j, none⟩ = some (.int .i64 u) := fun j u hj => by
        obtain ⟨b, o, e, _, hc⟩ := qr_at HRD8.out hj
        exact ⟨b, o, e, hc⟩
      have HK4 := Lib.hid hk4
      clear hk4 HOF
      rcases hca3 with h0 | h0 | h0
      · rw [h0] at hca
        rcases last_asks HOFF.out (by omega) HLAT.out with ⟨h1, hl⟩ | ⟨h1, hl⟩
        · have hk1 : k = 1 := by rw [← HNN.out, hl]; rfl
          subst hk1
          obtain ⟨b, o, rfl, cl⟩ := HK4.out 0 la (by rw [hl]; rfl)
          rw [Nat.add_zero] at cl
          have q8 : decide (now - la ≤ 59) = true := decide_eq_true (by omega)
          clear h1 hl h0 HK4
          rcases hcs with ⟨rfl, rfl⟩ | ⟨rfl, rfl⟩
          all_goals
            go_wp2_with fail
            try (go_quiet (fail); go_wp2_with fail)
            go_ret
            exact ⟨by first | rfl | simp, by first | exact HB8.out | exact bdrewN HB8.out _⟩
        · have hk1 : k = 0 := by rw [← HNN.out, hl]; rfl
          subst hk1
          have q8 : decide ((59 : Int) < now - la) = true := decide_eq_true (by omega)
          clear h1 hl h0 HK4
          rcases hcs with ⟨rfl, rfl⟩ | ⟨rfl, rfl⟩
          all_goals
            go_wp2_with fail
            try (go_quiet (fail); go_wp2_with fail)
            go_ret
            exact ⟨by first | rfl | simp, by first | exact HB8.out | exact bdrewN HB8.out _⟩
      · rw [h0] at hca
        rcases last_asks HOFF.out (by omega) HLAT.out with ⟨h1, hl⟩ | ⟨h1, hl⟩
        · have hk1 : k = 1 := by rw [← HNN.out, hl]; rfl
          subst hk1
          obtain ⟨b, o, rfl, cl⟩ := HK4.out 0 la (by rw [hl]; rfl)
          rw [Nat.add_zero] at cl
          clear h1 hl h0 HK4
          rcases hcs with ⟨rfl, rfl⟩ | ⟨rfl, rfl⟩
          all_goals
            go_wp2_with fail
            try (go_quiet (fail); go_wp2_with fail)
            go_ret
            exact ⟨by first | rfl | simp, by first | exact HB8.out | exact bdrewN HB8.out _⟩
        · exact absurd (.inl h0) h1
      · rw [h0] at hca
        have hch : Chain r.j.T (r.nx - 1) now 4 l := by
          rcases HOFF.out with ⟨_, h⟩ | ⟨h, _⟩
          · exact h
          · exact absurd h0 h
        obtain ⟨a1, a2, a3, a4⟩ := all_asks HTN.out.1 HLE.out hch HLAT.out
        rw [HNN.out] at a1 a2 a4
        obtain ⟨b, o, rfl, cl⟩ := HK4.out 0 r.nx a3
        rw [Nat.add_zero] at cl
        have q8 : decide ((1 : Int) ≤ (k : Int)) = true := decide_eq_true (by omega)
        have q9 : decide ((k : Int) ≤ 4) = true := decide_eq_true (by omega)
        have i0 : (0 : Int) < (k : Int) := by omega
        by_cases hk44 : k = 4
        · subst hk44
          clear a1 a2 a3 a4 hch h0 HK4
          rcases hcs with ⟨rfl, rfl⟩ | ⟨rfl, rfl⟩
          all_goals
            go_wp2_with fail
            try (go_quiet (fail); go_wp2_with fail)
            go_ret
            exact ⟨by first | rfl | simp, by first | exact HB8.out | exact bdrewN HB8.out _⟩
        · rcases a4 with a4 | a4
          · exact absurd a4 hk44
          obtain ⟨m, hm⟩ : ∃ m, k = m + 1 := ⟨k - 1, by omega⟩
          rw [hm, Nat.add_sub_cancel] at a4
          obtain ⟨b2, o2, e2, cm⟩ := HK4.out m la a4
          cases e2
          have q10 : ((k : Int) == 4) = false := by simp; omega
          have w4 : IntKind.i64.wrap ((k : Int) - 1) = (m : Int) := by rw [IntKind.wrap_i64]; omega
          have i1 : (0 : Int) ≤ (m : Int) := by omega
          have i2 : (m : Int) < (k : Int) := by omega
          have n1 : 0 < k := by omega
          clear hm
          clear a1 a2 a3 a4 hch h0 HK4
          rcases hcs with ⟨rfl, rfl⟩ | ⟨rfl, rfl⟩
          all_goals
            go_wp2_with fail
            try (go_quiet (fail); go_wp2_with fail)
            go_ret
            exact ⟨by first | rfl | simp, by first | exact HB8.out | exact bdrewN HB8.out _⟩
end Go.Proofs.YthghcffibljclaaDoor
