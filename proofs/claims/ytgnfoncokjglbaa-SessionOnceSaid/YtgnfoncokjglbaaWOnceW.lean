/- The law SessionOnce: nothing is fresh twice, what was kept is told till the next one, of others nothing changes: walked. -/
import Derived.Test.YtgnfoncokjglbaaWMap
import Derived.Maps.OwnOps
namespace Go.Proofs.Ytgnfoncokjglbaa
open Go.RowKit

/-- What was done is no later than what was asked last. -/
def Past (t : Tri) (c q : Int) : Prop := (1 ≤ c ∧ c ≤ 3) ∧ q ≤ lastQ (t.get c)
theorem past_put {t : Tri} {a q : Int} {r : RepZ} (h1 : 1 ≤ a) (h2 : a ≤ 3) (hq : q = lastQ (t.get a) + 1) (c p : Int) (h : Past t c p ∨ (c = a ∧ p = q)) : Past (t.put a (some (q, r))) c p := by
  rcases h with ⟨⟨c1, c2⟩, h⟩ | ⟨rfl, rfl⟩
  · refine ⟨⟨c1, c2⟩, ?_⟩
    by_cases e : c = a
    · subst e
      rw [Tri.get_put_same]
      show p ≤ q
      omega
    · rw [Tri.get_put_other t a c _ h1 h2 c1 c2 (Ne.symm e)]
      exact h
  · refine ⟨⟨h1, h2⟩, ?_⟩
    rw [Tri.get_put_same]
    exact Int.le_refl _
/-- What keeping comes to, for the law. -/
theorem once_facts {t : Tri} (ht : t.May) {a q : Int} {r : RepZ} (h : keepE t.rows a q r = 0) :
    Asked a q ∧ r.May ∧ q = lastQ (t.get a) + 1 ∧ ∃ t' : Tri, t'.May ∧ keepS t.rows a q r = t'.rows ∧ t' = t.put a (some (q, r)) ∧
      judgeE t'.rows a q = 0 ∧ judgeH t'.rows a q = 2 ∧ ofZ t'.rows a = ⟨a, q, r⟩ ∧ (q < maxQ → judgeE t'.rows a (q + 1) = 0 ∧ judgeH t'.rows a (q + 1) = 1) ∧ ∀ o, o ≠ a → ofZ t'.rows o = ofZ t.rows o := by
  obtain ⟨ha, hr, hq, hs, hm⟩ := keep_rows ht h
  have hok : okS (t.put a (some (q, r))).rows = true := okS_yes.2 (Tri.rows_may hm)
  have hla : (ofD (t.put a (some (q, r))).rows a).seq = q := by rw [ofD_rows _ _ ha.1 ha.2.1, slotS_seq, Tri.get_put_same]; rfl
  refine ⟨ha, hr, hq, _, hm, hs, rfl, ?_, ?_, ?_, fun hlt => ⟨?_, ?_⟩, fun o ho => ?_⟩
  · unfold judgeE; rw [if_pos hok, if_pos ha]
  · unfold judgeH; rw [if_pos ⟨hok, ha⟩, hla]
    unfold askZ
    rw [if_neg (by omega), if_pos rfl]
  · rw [ofZ_rows hm ha.1 ha.2.1, Tri.get_put_same]; rfl
  · unfold judgeE
    have hA : Asked a (q + 1) := ⟨ha.1, ha.2.1, by have := ha.2.2.1; omega, by omega⟩
    rw [if_pos hok, if_pos hA]
  · unfold judgeH
    have hA : Asked a (q + 1) := ⟨ha.1, ha.2.1, by have := ha.2.2.1; omega, by omega⟩
    rw [if_pos ⟨hok, hA⟩, hla]
    unfold askZ
    rw [if_pos rfl]
  · by_cases hh : 1 ≤ o ∧ o ≤ 3
    · rw [ofZ_rows hm hh.1 hh.2, ofZ_rows ht hh.1 hh.2, Tri.get_put_other t a o _ ha.1 ha.2.1 hh.1 hh.2 (Ne.symm ho)]
    · rw [ofZ_out hh, ofZ_out hh]
theorem keep_none {l : List SesZ} {a q : Int} {r : RepZ} (h : keepE l a q r ≠ 0) : keepS l a q r = [] := by unfold keepS; rw [if_neg h]
set_option maxRecDepth 100000 in
set_option maxHeartbeats 16000000 in
theorem once_law (A : Option Addr) (n c : Nat) (ms : List SesM) (A1 : Option Addr) (n1 c1 : Nat) (ms1 : List SesM) (other : Int) (w : World) (h : SR w A n c ms) (h1 : SR w A1 n1 c1 ms1) (ho : -9223372036854775808 ≤ other ∧ other ≤ 9223372036854775807) :
    Calls Try.prog 5 #[.agg #[.slice A n c], .slice A1 n1 c1, .int .i64 other] w fun e w' => e = .returned (.bool true) ∧ Below w.heap.size w w' := by
  have hn1 : n1 ≤ 9223372036854775807 := by have := h1.cap; have := h1.top; unfold maxLen at this; omega
  have hb0 := new_below w (.cells #[.slice A n c] 24)
  have hx0 := SBox.new w 24 #[.slice A n c]
  obtain ⟨W0, hW0⟩ : ∃ W0 : World, W0 = w.alloc (.cells #[.slice A n c] 24) := ⟨_, rfl⟩
  rw [← hW0] at hb0 hx0
  have HB0 := Lib.hid hb0; have HX0 := Lib.hid hx0; have HT := Lib.hid (h.on hb0); have HA := Lib.hid h1; have HNA := Lib.hid h1.len; have HOT := Lib.hid ho
  clear hb0 hx0 h h1 ho
  have hmm := @run_makeMap Try.prog
  go_enter Try.func5, Try.ntmps5
  go_wp2_with fail
  rw [← hW0]
  clear hW0
  refine (wakes_any W0).mono ?_
  rintro y w1 ⟨rfl, hb1⟩
  have HB1 := Lib.hid hb1
  have c0 := (HX0.out.on hb1).one
  have HFW := Lib.hid (few_any A n c ms w1 (HT.out.on hb1))
  clear hb1
  go_wp2_with fail
  refine HFW.out.mono ?_
  rintro y w2 ⟨⟨A2, c2, ms2, rfl, ho2, hl2⟩, hb2⟩
  have HB2 := Lib.hid (HB0.out.trans ((HB1.out.trans (hb2.mono HB1.out.size)).mono HB0.out.size))
  generalize hlen : ms2.length = n2 at *
  have HO2 := Lib.hid (ho2.mono (Nat.zero_le _))
  generalize fewL (ms.map (·.1)) = ls at *
  have HL2 := Lib.hid hl2
  clear hb2 ho2 hl2 hlen c0
  go_upto_region 4 with fail
  have HBW := Lib.hid (HB2.out.alloc HB2.out.size (.cells #[.slice A2 n2 c2] 24))
  have HXS := Lib.hid (SBox.new w2 24 #[.slice A2 n2 c2])
  have HOW := Lib.hid (HO2.out.on (new_below w2 (.cells #[.slice A2 n2 c2] 24)))
  have HGS : Hid (w.heap.size ≤ w2.heap.size) := Lib.hid HB2.out.size
  obtain ⟨W, hW⟩ : ∃ W : World, W = w2.alloc (.cells #[.slice A2 n2 c2] 24) := ⟨_, rfl⟩
  rw [← hW] at HBW HXS HOW ⊢
  clear hW
  generalize w2.heap.size = gs at *
  have s0 := HXS.out.one
  have HSRW : Hid (SR W A2 n2 c2 ms2) := Lib.hid (fewIs_sr HOW.out).1
  have HCK := Lib.hid (check_any A2 n2 c2 ms2 W HSRW.out)
  rw [HL2.out] at HCK
  have HEN : Hid (¬ MayS ls → sesE ls = 220) := Lib.hid sesE_no
  have HEY : Hid (MayS ls → sesE ls = 0) := Lib.hid sesE_yes
  generalize sesE ls = SE at *
  go_wp2_with fail
  refine HCK.out.mono ?_
  rintro y w3 ⟨rfl, hb3⟩
  have HB3 := Lib.hid hb3
  clear hb3 s0
  by_cases hm : MayS ls
  · obtain rfl := HEY.out hm
    obtain ⟨t0, ht0, hls⟩ := tri_of hm
    have HT0 := Lib.hid ht0; have HLS := Lib.hid hls
    clear hm hls ht0 HEY HEN
    have HMP := Lib.hid (MapIs.made w3 (Past t0))
    have HB4 := Lib.hid (new_below w3 (.map #[] 0))
    have HGM : Hid (w.heap.size ≤ w3.heap.size) := Lib.hid (Nat.le_trans HBW.out.size HB3.out.size)
    have HSX3 := Lib.hid ((HXS.out.on HB3.out).on HB4.out)
    have HOX3 := Lib.hid ((HOW.out.on HB3.out).on HB4.out)
    have HBw4 := Lib.hid (HBW.out.trans ((HB3.out.trans (HB4.out.mono HB3.out.size)).mono HBW.out.size))
    go_upto_region 7 with fail
    obtain ⟨W4, hW4⟩ : ∃ W4 : World, W4 = w3.alloc (.map #[] 0) := ⟨_, rfl⟩
    rw [← hW4] at HMP HB4 HSX3 HOX3 HBw4 ⊢
    clear hW4 hmm
    generalize w3.heap.size = gm at *
    go_wp2_with fail
    go_loopw [30] (fun i wr => ∃ (k : Nat) (As : Option Addr) (ns cs : Nat) (mss : List SesM) (t : Tri), k ≤ n1 ∧ i = .int .i64 (k : Int) ∧ SBox wr gs 24 #[.slice As ns cs] ∧ OwnS wr 0 (.slice As ns cs) mss ∧ Hid (mss.map (·.1) = t.rows) ∧ Hid t.May ∧ MapIs wr gm (Past t) ∧ Below w.heap.size w wr) (fun i _ => n1 - (intOf i).toNat)
    case atStart => exact ⟨0, A2, n2, c2, ms2, t0, Nat.zero_le _, rfl, HSX3.out, HOX3.out, Lib.hid (by rw [HL2.out, HLS.out]), HT0, HMP.out, HBw4.out⟩
    case round =>
      obtain ⟨k, As, ns, cs, mss, t, hk, rfl, hxs, hos, HMS, HTM, hmp, hb⟩ := hrel
      have HXs := Lib.hid hxs; have HOs := Lib.hid hos; have HMp := Lib.hid hmp; have HBr := Lib.hid hb
      clear hxs hos hmp hb
      by_cases hlt : k < n1
      · obtain ⟨m, hmk⟩ : ∃ m, ms1[k]? = some m := ⟨_, List.getElem?_eq_getElem (by have := HNA.out; omega)⟩
        obtain ⟨⟨ac, aq, ⟨ae, an⟩⟩, av⟩ := m
        have hta := HA.out.on HBr.out
        have hok := hta.ok _ (List.mem_of_getElem? hmk)
        have HN0 : Hid (NR w av an) := Lib.hid (HA.out.ok _ (List.mem_of_getElem? hmk)).2
        obtain ⟨b1, o1, rfl, hj1⟩ := hta.at_ hmk
        have HLD := Lib.hid (ask_load hta hmk)
        obtain ⟨W1, hs1, hy1, hb1, hz1⟩ := ask_var wr ⟨ac, aq, ae, an⟩ av hok.2.one
        have HS1 := Lib.hid hs1; have HY1 := Lib.hid hy1.box; have HB1' := Lib.hid hb1; have HZ1 := Lib.hid hz1
        have HBw1 := Lib.hid (HBr.out.trans (hb1.mono HBr.out.size))
        have HX1 := Lib.hid (HXs.out.on hb1)
        have HO1 := Lib.hid (HOs.out.on hb1)
        have HM1 := Lib.hid (HMp.out.on hb1)
        have HNV := Lib.hid (hok.2.on hb1)
        have HCB := Lib.hid hok.1.1; have HQB := Lib.hid hok.1.2.1; have HRF := Lib.hid hok.1.2.2
        simp only at HY1 HNV HCB HQB HRF
        have i0 : (0 : Int) ≤ (k : Int) := by omega
        have i1 : (k : Int) < (n1 : Int) := by omega
        unfold sesV at *
        simp only at HLD HS1
        clear hmk hta hok hj1 hs1 hy1 hb1 hz1
        by_cases h20 : k = 20
        · subst h20
          rw [show ((20 : Nat) : Int) = 20 by rfl] at *
          go_wp2_with (first | refine list_load rfl _ rfl rfl HLD.out ?_ | refine list_store0 rfl rfl _ _ rfl rfl rfl HS1.out ?_)
          go_ret
          exact ⟨rfl, HBw1.out⟩
        · have hd20 : ((k : Int) == 20) = false := by simp; omega
          have HRP := Lib.hid (fun W' (hb : Below W1.heap.size W1 W') => reply_any ae av an W' (HNV.out.on hb))
          have HRF' := Lib.hid (fewR_fit HRF.out)
          have HAN : Hid (RepZ.May ⟨ae, an.take 14⟩ → an.take 14 = an) := Lib.hid (fun hr => by have := hr.2.2.1; simp only [List.length_take] at this; exact List.take_of_length_le (by omega))
          generalize an.take 14 = ax at *
          have HKP := Lib.hid (fun W' (u : Value) (hb : Below W1.heap.size W1 W') (hu : NR W' u ax) => keep_any As ns cs ac aq ae u ax mss W' ((fewIs_sr HO1.out).1.on hb) HCB.out hu HRF'.out)
          rw [HMS.out] at HKP
          have HKN : Hid (keepE t.rows ac aq ⟨ae, ax⟩ ≠ 0 → keepS t.rows ac aq ⟨ae, ax⟩ = []) := Lib.hid keep_none
          have HOF : Hid (keepE t.rows ac aq ⟨ae, ax⟩ = 0 → Asked ac aq ∧ (RepZ.mk ae ax).May ∧ aq = lastQ (t.get ac) + 1 ∧ ∃ t' : Tri, t'.May ∧ keepS t.rows ac aq ⟨ae, ax⟩ = t'.rows ∧ t' = t.put ac (some (aq, ⟨ae, ax⟩)) ∧ judgeE t'.rows ac aq = 0 ∧ judgeH t'.rows ac aq = 2 ∧ ofZ t'.rows ac = ⟨ac, aq, ⟨ae, ax⟩⟩ ∧ (aq < maxQ → judgeE t'.rows ac (aq + 1) = 0 ∧ judgeH t'.rows ac (aq + 1) = 1) ∧ ∀ o, o ≠ ac → ofZ t'.rows o = ofZ t.rows o) := Lib.hid (once_facts HTM.out)
          generalize keepE t.rows ac aq ⟨ae, ax⟩ = E at *
          generalize keepS t.rows ac aq ⟨ae, ax⟩ = KS at *
          have HC := Lib.hid (fun (W' : World) (hW : Below W1.heap.size W1 W') => (⟨by
            obtain ⟨a0, a1, a2, a3⟩ := (HY1.out.on hW).four
            exact ⟨(HX1.out.on hW).one, a0, a1, a2, a3⟩⟩ : PLift (W'.cell? ⟨gs, 0, none⟩ = some (.slice As ns cs) ∧ W'.cell? ⟨wr.heap.size, 0, none⟩ = some (.int .i64 ac) ∧ W'.cell? ⟨wr.heap.size, 1, none⟩ = some (.int .u64 aq) ∧ W'.cell? ⟨wr.heap.size, 2, none⟩ = some (.int .i64 ae) ∧ W'.cell? ⟨wr.heap.size, 3, none⟩ = some av)).down)
          go_upto_region 11 with (first | refine list_load rfl _ rfl rfl HLD.out ?_ | refine list_store0 rfl rfl _ _ rfl rfl rfl HS1.out ?_)
          go_cut [11, 12] from 37 to 48 (fun s11 s12 wx => ∃ gn A n c msn, s11 = .pointer (some ⟨gn, 0, none⟩) ∧ s12 = .int .i64 E ∧ SBox wx gn 24 #[.slice A n c] ∧ OwnS wx 0 (.slice A n c) msn ∧ msn.map (·.1) = KS ∧ Below W1.heap.size W1 wx ∧ W1.heap.size ≤ gn)
          case first =>
            have hBE := Below.refl W1.heap.size W1
            have HK := HC
            refine wp_region_held_drew (S := (fun W' => W'.cell? ⟨gs, 0, none⟩ = some (.slice As ns cs) ∧ W'.cell? ⟨wr.heap.size, 0, none⟩ = some (.int .i64 ac) ∧ W'.cell? ⟨wr.heap.size, 1, none⟩ = some (.int .u64 aq) ∧ W'.cell? ⟨wr.heap.size, 2, none⟩ = some (.int .i64 ae) ∧ W'.cell? ⟨wr.heap.size, 3, none⟩ = some av)) (by kernel_rfl) (HK.out _ hBE.drew) (fun hHeld => ?_)
            replace hBE := hBE.drew
            obtain ⟨w0r, hw0r⟩ : ∃ w0r : World, w0r = W1.drew := ⟨_, rfl⟩
            rw [← hw0r] at hBE hHeld ⊢
            clear hw0r
            refine wpAnyH_take (i := 0) (oi := { dst := some 38, op := Op.load 24 (Operand.tmp 7), type := 24, pos := "outright.go:22", after := #[], guard := none }) (v := ?zvb0) rfl (by kernel_rfl) (by kernel_rfl) (by kernel_rfl) (fun _ _ _ h => h) (Or.inl ⟨by rfl, ?zhb0⟩) (by assumption) ?zrb0
            case zhb0 => (intro w hSw; (try dsimp only at hSw); go_simp; (try with_reducible rfl))
            try simp only [Act.put, List.setIfInBounds_toArray, List.set_cons_zero, List.set_cons_succ]
            refine wpAnyH_take (i := 1) (oi := { dst := some 39, op := Op.fieldAddr 37 (Operand.tmp 10) 0, type := 0, pos := "outright.go:22", after := #[], guard := none }) (v := ?zvb1) rfl (by kernel_rfl) (by kernel_rfl) (by kernel_rfl) (fun _ _ _ h => h) (Or.inl ⟨by rfl, ?zhb1⟩) (by assumption) ?zrb1
            case zhb1 => (intro w hSw; (try dsimp only at hSw); go_simp; (try with_reducible rfl))
            try simp only [Act.put, List.setIfInBounds_toArray, List.set_cons_zero, List.set_cons_succ]
            refine wpAnyH_take (i := 2) (oi := { dst := some 40, op := Op.load 3 (Operand.tmp 39), type := 3, pos := "outright.go:22", after := #[{ on := 1, ground := Ground.data }], guard := none }) (v := ?zvb2) rfl (by kernel_rfl) (by kernel_rfl) (by kernel_rfl) (fun _ _ _ h => h) (Or.inl ⟨by rfl, ?zhb2⟩) (by assumption) ?zrb2
            case zhb2 => (intro w hSw; (try dsimp only at hSw); go_simp; (try with_reducible rfl))
            try simp only [Act.put, List.setIfInBounds_toArray, List.set_cons_zero, List.set_cons_succ]
            refine wpAnyH_take (i := 3) (oi := { dst := some 41, op := Op.fieldAddr 37 (Operand.tmp 10) 1, type := 0, pos := "outright.go:22", after := #[], guard := none }) (v := ?zvb3) rfl (by kernel_rfl) (by kernel_rfl) (by kernel_rfl) (fun _ _ _ h => h) (Or.inl ⟨by rfl, ?zhb3⟩) (by assumption) ?zrb3
            case zhb3 => (intro w hSw; (try dsimp only at hSw); go_simp; (try with_reducible rfl))
            try simp only [Act.put, List.setIfInBounds_toArray, List.set_cons_zero, List.set_cons_succ]
            refine wpAnyH_take (i := 4) (oi := { dst := some 42, op := Op.load 32 (Operand.tmp 41), type := 32, pos := "outright.go:22", after := #[{ on := 3, ground := Ground.data }], guard := none }) (v := ?zvb4) rfl (by kernel_rfl) (by kernel_rfl) (by kernel_rfl) (fun _ _ _ h => h) (Or.inl ⟨by rfl, ?zhb4⟩) (by assumption) ?zrb4
            case zhb4 => (intro w hSw; (try dsimp only at hSw); go_simp; (try with_reducible rfl))
            try simp only [Act.put, List.setIfInBounds_toArray, List.set_cons_zero, List.set_cons_succ]
            refine wpAnyH_take (i := 5) (oi := { dst := some 43, op := Op.fieldAddr 37 (Operand.tmp 10) 2, type := 0, pos := "outright.go:22", after := #[], guard := none }) (v := ?zvb5) rfl (by kernel_rfl) (by kernel_rfl) (by kernel_rfl) (fun _ _ _ h => h) (Or.inl ⟨by rfl, ?zhb5⟩) (by assumption) ?zrb5
            case zhb5 => (intro w hSw; (try dsimp only at hSw); go_simp; (try with_reducible rfl))
            try simp only [Act.put, List.setIfInBounds_toArray, List.set_cons_zero, List.set_cons_succ]
            refine wpAnyH_take (i := 6) (oi := { dst := some 44, op := Op.load 35 (Operand.tmp 43), type := 35, pos := "outright.go:22", after := #[{ on := 5, ground := Ground.data }], guard := none }) (v := ?zvb6) rfl (by kernel_rfl) (by kernel_rfl) (by kernel_rfl) (fun _ _ _ h => h) (Or.inl ⟨by rfl, ?zhb6⟩) (by assumption) ?zrb6
            case zhb6 => (intro w hSw; (try dsimp only at hSw); go_simp; (try with_reducible rfl))
            try simp only [Act.put, List.setIfInBounds_toArray, List.set_cons_zero, List.set_cons_succ]
            refine wpAnyH_ready (rs := [7, 12]) (by kernel_rfl) (by simp) (AllReadyH.cons (o := { dst := some 45, op := Op.call { callee := Callee.value (Operand.func 13), args := #[Operand.tmp 44], argTypes := #[35] }, type := 35, pos := "outright.go:22", after := #[{ on := 6, ground := Ground.data }], guard := none }) rfl (fun K hK => ?_) (AllReadyH.cons (o := { dst := some 11, op := Op.alloc 24, type := 0, pos := "outright.go:22", after := #[], guard := none }) rfl (fun K hK => ?_) (AllReadyH.nil)))
            · go_simp
              go_at_call 13; (with_reducible refine (HRP.out _ hBE).mono ?_)
              rintro y wA ⟨uA, rfl, hrp, hstep⟩
              replace hBE := hBE.trans (hstep.mono hBE.size)
              replace hrp := hrp.mono (Nat.zero_le _)
              clear hstep
              refine hK.out _ _ (HK.out _ hBE) (fun hHeld2 => ?_)
              clear hK K hHeld
              have hHeld := hHeld2
              clear hHeld2
              try simp only [Act.put, List.setIfInBounds_toArray, List.set_cons_zero, List.set_cons_succ]
              refine wpAnyH_ready (rs := [8, 12]) (by kernel_rfl) (by simp) (AllReadyH.cons (o := { dst := some 46, op := Op.call { callee := Callee.value (Operand.func 23), args := #[Operand.tmp 38, Operand.tmp 40, Operand.tmp 42, Operand.tmp 45], argTypes := #[24, 3, 32, 35] }, type := 49, pos := "outright.go:22", after := #[{ on := 0, ground := Ground.data }, { on := 2, ground := Ground.data }, { on := 4, ground := Ground.data }, { on := 7, ground := Ground.data }, { on := 7, ground := Ground.chain }], guard := none }) rfl (fun K hK => ?_) (AllReadyH.cons (o := { dst := some 11, op := Op.alloc 24, type := 0, pos := "outright.go:22", after := #[], guard := none }) rfl (fun K hK => ?_) (AllReadyH.nil)))
              · go_simp
                go_at_call 23; (with_reducible refine (HKP.out _ uA hBE (OwnN.nr hrp)).mono ?_)
                rintro y wB ⟨⟨AK, cK, msK, rfl, hkp, hkl⟩, hstep⟩
                replace hBE := hBE.trans (hstep.mono hBE.size)
                replace hrp := hrp.on hstep
                replace hkp := hkp.mono (Nat.zero_le _)
                generalize hlenK : msK.length = nK at *
                clear hstep
                refine hK.out _ _ (HK.out _ hBE) (fun hHeld2 => ?_)
                clear hK K hHeld
                have hHeld := hHeld2
                clear hHeld2
                try simp only [Act.put, List.setIfInBounds_toArray, List.set_cons_zero, List.set_cons_succ]
                refine wpAnyH_take (i := 9) (oi := { dst := some 37, op := Op.move (Operand.tmp 46), type := 49, pos := "outright.go:22", after := #[{ on := 8, ground := Ground.data }], guard := none }) (v := ?zvb7) rfl (by kernel_rfl) (by kernel_rfl) (by kernel_rfl) (fun _ _ _ h => h) (Or.inl ⟨by rfl, ?zhb7⟩) (by assumption) ?zrb7
                case zhb7 => (intro w hSw; (try dsimp only at hSw); go_simp; (try with_reducible rfl))
                try simp only [Act.put, List.setIfInBounds_toArray, List.set_cons_zero, List.set_cons_succ]
                refine wpAnyH_take (i := 10) (oi := { dst := some 47, op := Op.extract (Operand.tmp 37) 0, type := 24, pos := "outright.go:22", after := #[{ on := 9, ground := Ground.data }], guard := none }) (v := ?zvb8) rfl (by kernel_rfl) (by kernel_rfl) (by kernel_rfl) (fun _ _ _ h => h) (Or.inl ⟨by rfl, ?zhb8⟩) (by assumption) ?zrb8
                case zhb8 => (intro w hSw; (try dsimp only at hSw); go_simp; (try with_reducible rfl))
                try simp only [Act.put, List.setIfInBounds_toArray, List.set_cons_zero, List.set_cons_succ]
                refine wpAnyH_take (i := 11) (oi := { dst := some 48, op := Op.extract (Operand.tmp 37) 1, type := 29, pos := "outright.go:22", after := #[{ on := 9, ground := Ground.data }, { on := 13, ground := Ground.gcOnly Departure.lateStores }], guard := none }) (v := ?zvb9) rfl (by kernel_rfl) (by kernel_rfl) (by kernel_rfl) (fun _ _ _ h => h) (Or.inl ⟨by rfl, ?zhb9⟩) (by assumption) ?zrb9
                case zhb9 => (intro w hSw; (try dsimp only at hSw); go_simp; (try with_reducible rfl))
                try simp only [Act.put, List.setIfInBounds_toArray, List.set_cons_zero, List.set_cons_succ]
                refine wpAnyH_ready (rs := [12]) (by kernel_rfl) (by simp) (AllReadyH.cons (o := { dst := some 11, op := Op.alloc 24, type := 0, pos := "outright.go:22", after := #[], guard := none }) rfl (fun K hK => ?_) (AllReadyH.nil))
                go_simp
                have hgl := hBE.size
                have hstep := new_below wB (.cells #[.slice none 0 0] 24)
                have hxn := SBox.new wB 24 #[.slice none 0 0]
                replace hBE := hBE.trans (hstep.mono hBE.size)
                replace hrp := hrp.on hstep
                replace hkp := hkp.on hstep
                obtain ⟨wC, hnew⟩ : ∃ wC : World, wC = wB.alloc (.cells #[.slice none 0 0] 24) := ⟨_, rfl⟩
                rw [← hnew] at hstep hBE hxn hrp hkp ⊢
                clear hnew hstep
                obtain ⟨gn, hgn⟩ : ∃ gn : Nat, gn = wB.heap.size := ⟨_, rfl⟩
                rw [← hgn] at hxn hgl ⊢
                clear hgn
                refine hK.out _ _ (HK.out _ hBE) (fun hHeld2 => ?_)
                clear hK K hHeld
                have hHeld := hHeld2
                clear hHeld2
                try simp only [Act.put, List.setIfInBounds_toArray, List.set_cons_zero, List.set_cons_succ]
                refine wpAnyH_ready (rs := [13]) (by kernel_rfl) (by simp) (AllReadyH.cons (o := { dst := none, op := Op.store 24 (Operand.tmp 11) (Operand.tmp 47), type := 0, pos := "outright.go:22", after := #[{ on := 12, ground := Ground.data }, { on := 10, ground := Ground.data }, { on := 8, ground := Ground.chain }, { on := 0, ground := Ground.phase }, { on := 1, ground := Ground.phase }, { on := 2, ground := Ground.phase }, { on := 3, ground := Ground.phase }, { on := 4, ground := Ground.phase }, { on := 5, ground := Ground.phase }, { on := 6, ground := Ground.phase }, { on := 7, ground := Ground.phase }, { on := 8, ground := Ground.phase }, { on := 9, ground := Ground.phase }, { on := 10, ground := Ground.phase }, { on := 11, ground := Ground.textOnly Departure.lateStores }, { on := 12, ground := Ground.phase }], guard := none }) rfl (fun K hK => ?_) (AllReadyH.nil))
                have hfz := hxn.frozen 0
                have hcz := hxn.one
                go_simp
                have hxn0 := hxn
                clear hfz hcz
                have hbel : Below _ _ (wC.setCell ⟨gn, 0, none⟩ (.slice AK nK cK)) := hBE.setCell hgl _
                replace hkp := hkp.setBox (u := .slice AK nK cK) hxn0 (by decide) (by decide) 0
                replace hxn := hxn.set 0 (.slice AK nK cK)
                obtain ⟨wD, hnew⟩ : ∃ wD : World, wD = (wC.setCell ⟨gn, 0, none⟩ (.slice AK nK cK)) := ⟨_, rfl⟩
                rw [← hnew] at hbel hkp hxn ⊢
                clear hnew
                replace hBE := hbel
                clear hbel
                refine hK.out _ _ (HK.out _ hBE) (fun hHeld2 => ?_)
                clear hK K hHeld
                have hHeld := hHeld2
                clear hHeld2
                try simp only [Act.put, List.setIfInBounds_toArray, List.set_cons_zero, List.set_cons_succ]
                refine wpAnyH_take (i := 14) (oi := { dst := some 12, op := Op.assign (Operand.tmp 48), type := 29, pos := "outright.go:22", after := #[{ on := 11, ground := Ground.data }, { on := 13, ground := Ground.chain }, { on := 0, ground := Ground.phase }, { on := 1, ground := Ground.phase }, { on := 2, ground := Ground.phase }, { on := 3, ground := Ground.phase }, { on := 4, ground := Ground.phase }, { on := 5, ground := Ground.phase }, { on := 6, ground := Ground.phase }, { on := 7, ground := Ground.phase }, { on := 8, ground := Ground.phase }, { on := 9, ground := Ground.phase }, { on := 10, ground := Ground.phase }, { on := 11, ground := Ground.phase }, { on := 12, ground := Ground.phase }, { on := 13, ground := Ground.phase }], guard := none }) (v := ?zvb10) rfl (by kernel_rfl) (by kernel_rfl) (by kernel_rfl) (fun _ _ _ h => h) (Or.inl ⟨by rfl, ?zhb10⟩) (by assumption) ?zrb10
                case zhb10 => (intro w hSw; (try dsimp only at hSw); go_simp; (try with_reducible rfl))
                try simp only [Act.put, List.setIfInBounds_toArray, List.set_cons_zero, List.set_cons_succ]
                refine wpAnyH_done (by kernel_rfl) ?_ _
                go_wp2_with fail
                go_meet
                exact ⟨gn, AK, nK, cK, msK, rfl, rfl, hxn, hkp, hkl, hBE, hgl⟩
              · go_simp
                have hgl := hBE.size
                have hstep := new_below wA (.cells #[.slice none 0 0] 24)
                have hxn := SBox.new wA 24 #[.slice none 0 0]
                replace hBE := hBE.trans (hstep.mono hBE.size)
                replace hrp := hrp.on hstep
                obtain ⟨wC, hnew⟩ : ∃ wC : World, wC = wA.alloc (.cells #[.slice none 0 0] 24) := ⟨_, rfl⟩
                rw [← hnew] at hstep hBE hxn hrp ⊢
                clear hnew hstep
                obtain ⟨gn, hgn⟩ : ∃ gn : Nat, gn = wA.heap.size := ⟨_, rfl⟩
                rw [← hgn] at hxn hgl ⊢
                clear hgn
                refine hK.out _ _ (HK.out _ hBE) (fun hHeld2 => ?_)
                clear hK K hHeld
                have hHeld := hHeld2
                clear hHeld2
                try simp only [Act.put, List.setIfInBounds_toArray, List.set_cons_zero, List.set_cons_succ]
                refine wpAnyH_ready (rs := [8]) (by kernel_rfl) (by simp) (AllReadyH.cons (o := { dst := some 46, op := Op.call { callee := Callee.value (Operand.func 23), args := #[Operand.tmp 38, Operand.tmp 40, Operand.tmp 42, Operand.tmp 45], argTypes := #[24, 3, 32, 35] }, type := 49, pos := "outright.go:22", after := #[{ on := 0, ground := Ground.data }, { on := 2, ground := Ground.data }, { on := 4, ground := Ground.data }, { on := 7, ground := Ground.data }, { on := 7, ground := Ground.chain }], guard := none }) rfl (fun K hK => ?_) (AllReadyH.nil))
                go_simp
                go_at_call 23; (with_reducible refine (HKP.out _ uA hBE (OwnN.nr hrp)).mono ?_)
                rintro y wB ⟨⟨AK, cK, msK, rfl, hkp, hkl⟩, hstep⟩
                replace hBE := hBE.trans (hstep.mono hBE.size)
                replace hrp := hrp.on hstep
                replace hxn := hxn.on hstep
                replace hkp := hkp.mono (Nat.zero_le _)
                generalize hlenK : msK.length = nK at *
                clear hstep
                refine hK.out _ _ (HK.out _ hBE) (fun hHeld2 => ?_)
                clear hK K hHeld
                have hHeld := hHeld2
                clear hHeld2
                try simp only [Act.put, List.setIfInBounds_toArray, List.set_cons_zero, List.set_cons_succ]
                refine wpAnyH_take (i := 9) (oi := { dst := some 37, op := Op.move (Operand.tmp 46), type := 49, pos := "outright.go:22", after := #[{ on := 8, ground := Ground.data }], guard := none }) (v := ?zvb11) rfl (by kernel_rfl) (by kernel_rfl) (by kernel_rfl) (fun _ _ _ h => h) (Or.inl ⟨by rfl, ?zhb11⟩) (by assumption) ?zrb11
                case zhb11 => (intro w hSw; (try dsimp only at hSw); go_simp; (try with_reducible rfl))
                try simp only [Act.put, List.setIfInBounds_toArray, List.set_cons_zero, List.set_cons_succ]
                refine wpAnyH_take (i := 10) (oi := { dst := some 47, op := Op.extract (Operand.tmp 37) 0, type := 24, pos := "outright.go:22", after := #[{ on := 9, ground := Ground.data }], guard := none }) (v := ?zvb12) rfl (by kernel_rfl) (by kernel_rfl) (by kernel_rfl) (fun _ _ _ h => h) (Or.inl ⟨by rfl, ?zhb12⟩) (by assumption) ?zrb12
                case zhb12 => (intro w hSw; (try dsimp only at hSw); go_simp; (try with_reducible rfl))
                try simp only [Act.put, List.setIfInBounds_toArray, List.set_cons_zero, List.set_cons_succ]
                refine wpAnyH_take (i := 11) (oi := { dst := some 48, op := Op.extract (Operand.tmp 37) 1, type := 29, pos := "outright.go:22", after := #[{ on := 9, ground := Ground.data }, { on := 13, ground := Ground.gcOnly Departure.lateStores }], guard := none }) (v := ?zvb13) rfl (by kernel_rfl) (by kernel_rfl) (by kernel_rfl) (fun _ _ _ h => h) (Or.inl ⟨by rfl, ?zhb13⟩) (by assumption) ?zrb13
                case zhb13 => (intro w hSw; (try dsimp only at hSw); go_simp; (try with_reducible rfl))
                try simp only [Act.put, List.setIfInBounds_toArray, List.set_cons_zero, List.set_cons_succ]
                refine wpAnyH_ready (rs := [13]) (by kernel_rfl) (by simp) (AllReadyH.cons (o := { dst := none, op := Op.store 24 (Operand.tmp 11) (Operand.tmp 47), type := 0, pos := "outright.go:22", after := #[{ on := 12, ground := Ground.data }, { on := 10, ground := Ground.data }, { on := 8, ground := Ground.chain }, { on := 0, ground := Ground.phase }, { on := 1, ground := Ground.phase }, { on := 2, ground := Ground.phase }, { on := 3, ground := Ground.phase }, { on := 4, ground := Ground.phase }, { on := 5, ground := Ground.phase }, { on := 6, ground := Ground.phase }, { on := 7, ground := Ground.phase }, { on := 8, ground := Ground.phase }, { on := 9, ground := Ground.phase }, { on := 10, ground := Ground.phase }, { on := 11, ground := Ground.textOnly Departure.lateStores }, { on := 12, ground := Ground.phase }], guard := none }) rfl (fun K hK => ?_) (AllReadyH.nil))
                have hfz := hxn.frozen 0
                have hcz := hxn.one
                go_simp
                have hxn0 := hxn
                clear hfz hcz
                have hbel : Below _ _ (wB.setCell ⟨gn, 0, none⟩ (.slice AK nK cK)) := hBE.setCell hgl _
                replace hxn := hxn.set 0 (.slice AK nK cK)
                replace hkp := hkp.setBox (u := .slice AK nK cK) hxn0 (by decide) (by decide) 0
                obtain ⟨wD, hnew⟩ : ∃ wD : World, wD = (wB.setCell ⟨gn, 0, none⟩ (.slice AK nK cK)) := ⟨_, rfl⟩
                rw [← hnew] at hbel hxn hkp ⊢
                clear hnew
                replace hBE := hbel
                clear hbel
                refine hK.out _ _ (HK.out _ hBE) (fun hHeld2 => ?_)
                clear hK K hHeld
                have hHeld := hHeld2
                clear hHeld2
                try simp only [Act.put, List.setIfInBounds_toArray, List.set_cons_zero, List.set_cons_succ]
                refine wpAnyH_take (i := 14) (oi := { dst := some 12, op := Op.assign (Operand.tmp 48), type := 29, pos := "outright.go:22", after := #[{ on := 11, ground := Ground.data }, { on := 13, ground := Ground.chain }, { on := 0, ground := Ground.phase }, { on := 1, ground := Ground.phase }, { on := 2, ground := Ground.phase }, { on := 3, ground := Ground.phase }, { on := 4, ground := Ground.phase }, { on := 5, ground := Ground.phase }, { on := 6, ground := Ground.phase }, { on := 7, ground := Ground.phase }, { on := 8, ground := Ground.phase }, { on := 9, ground := Ground.phase }, { on := 10, ground := Ground.phase }, { on := 11, ground := Ground.phase }, { on := 12, ground := Ground.phase }, { on := 13, ground := Ground.phase }], guard := none }) (v := ?zvb14) rfl (by kernel_rfl) (by kernel_rfl) (by kernel_rfl) (fun _ _ _ h => h) (Or.inl ⟨by rfl, ?zhb14⟩) (by assumption) ?zrb14
                case zhb14 => (intro w hSw; (try dsimp only at hSw); go_simp; (try with_reducible rfl))
                try simp only [Act.put, List.setIfInBounds_toArray, List.set_cons_zero, List.set_cons_succ]
                refine wpAnyH_done (by kernel_rfl) ?_ _
                go_wp2_with fail
                go_meet
                exact ⟨gn, AK, nK, cK, msK, rfl, rfl, hxn, hkp, hkl, hBE, hgl⟩
            · go_simp
              have hgl := hBE.size
              have hstep := new_below w0r (.cells #[.slice none 0 0] 24)
              have hxn := SBox.new w0r 24 #[.slice none 0 0]
              replace hBE := hBE.trans (hstep.mono hBE.size)
              obtain ⟨wC, hnew⟩ : ∃ wC : World, wC = w0r.alloc (.cells #[.slice none 0 0] 24) := ⟨_, rfl⟩
              rw [← hnew] at hstep hBE hxn  ⊢
              clear hnew hstep
              obtain ⟨gn, hgn⟩ : ∃ gn : Nat, gn = w0r.heap.size := ⟨_, rfl⟩
              rw [← hgn] at hxn hgl ⊢
              clear hgn
              refine hK.out _ _ (HK.out _ hBE) (fun hHeld2 => ?_)
              clear hK K hHeld
              have hHeld := hHeld2
              clear hHeld2
              try simp only [Act.put, List.setIfInBounds_toArray, List.set_cons_zero, List.set_cons_succ]
              refine wpAnyH_ready (rs := [7]) (by kernel_rfl) (by simp) (AllReadyH.cons (o := { dst := some 45, op := Op.call { callee := Callee.value (Operand.func 13), args := #[Operand.tmp 44], argTypes := #[35] }, type := 35, pos := "outright.go:22", after := #[{ on := 6, ground := Ground.data }], guard := none }) rfl (fun K hK => ?_) (AllReadyH.nil))
              go_simp
              go_at_call 13; (with_reducible refine (HRP.out _ hBE).mono ?_)
              rintro y wA ⟨uA, rfl, hrp, hstep⟩
              replace hBE := hBE.trans (hstep.mono hBE.size)
              replace hxn := hxn.on hstep
              replace hrp := hrp.mono (Nat.zero_le _)
              clear hstep
              refine hK.out _ _ (HK.out _ hBE) (fun hHeld2 => ?_)
              clear hK K hHeld
              have hHeld := hHeld2
              clear hHeld2
              try simp only [Act.put, List.setIfInBounds_toArray, List.set_cons_zero, List.set_cons_succ]
              refine wpAnyH_ready (rs := [8]) (by kernel_rfl) (by simp) (AllReadyH.cons (o := { dst := some 46, op := Op.call { callee := Callee.value (Operand.func 23), args := #[Operand.tmp 38, Operand.tmp 40, Operand.tmp 42, Operand.tmp 45], argTypes := #[24, 3, 32, 35] }, type := 49, pos := "outright.go:22", after := #[{ on := 0, ground := Ground.data }, { on := 2, ground := Ground.data }, { on := 4, ground := Ground.data }, { on := 7, ground := Ground.data }, { on := 7, ground := Ground.chain }], guard := none }) rfl (fun K hK => ?_) (AllReadyH.nil))
              go_simp
              go_at_call 23; (with_reducible refine (HKP.out _ uA hBE (OwnN.nr hrp)).mono ?_)
              rintro y wB ⟨⟨AK, cK, msK, rfl, hkp, hkl⟩, hstep⟩
              replace hBE := hBE.trans (hstep.mono hBE.size)
              replace hxn := hxn.on hstep
              replace hrp := hrp.on hstep
              replace hkp := hkp.mono (Nat.zero_le _)
              generalize hlenK : msK.length = nK at *
              clear hstep
              refine hK.out _ _ (HK.out _ hBE) (fun hHeld2 => ?_)
              clear hK K hHeld
              have hHeld := hHeld2
              clear hHeld2
              try simp only [Act.put, List.setIfInBounds_toArray, List.set_cons_zero, List.set_cons_succ]
              refine wpAnyH_take (i := 9) (oi := { dst := some 37, op := Op.move (Operand.tmp 46), type := 49, pos := "outright.go:22", after := #[{ on := 8, ground := Ground.data }], guard := none }) (v := ?zvb15) rfl (by kernel_rfl) (by kernel_rfl) (by kernel_rfl) (fun _ _ _ h => h) (Or.inl ⟨by rfl, ?zhb15⟩) (by assumption) ?zrb15
              case zhb15 => (intro w hSw; (try dsimp only at hSw); go_simp; (try with_reducible rfl))
              try simp only [Act.put, List.setIfInBounds_toArray, List.set_cons_zero, List.set_cons_succ]
              refine wpAnyH_take (i := 10) (oi := { dst := some 47, op := Op.extract (Operand.tmp 37) 0, type := 24, pos := "outright.go:22", after := #[{ on := 9, ground := Ground.data }], guard := none }) (v := ?zvb16) rfl (by kernel_rfl) (by kernel_rfl) (by kernel_rfl) (fun _ _ _ h => h) (Or.inl ⟨by rfl, ?zhb16⟩) (by assumption) ?zrb16
              case zhb16 => (intro w hSw; (try dsimp only at hSw); go_simp; (try with_reducible rfl))
              try simp only [Act.put, List.setIfInBounds_toArray, List.set_cons_zero, List.set_cons_succ]
              refine wpAnyH_take (i := 11) (oi := { dst := some 48, op := Op.extract (Operand.tmp 37) 1, type := 29, pos := "outright.go:22", after := #[{ on := 9, ground := Ground.data }, { on := 13, ground := Ground.gcOnly Departure.lateStores }], guard := none }) (v := ?zvb17) rfl (by kernel_rfl) (by kernel_rfl) (by kernel_rfl) (fun _ _ _ h => h) (Or.inl ⟨by rfl, ?zhb17⟩) (by assumption) ?zrb17
              case zhb17 => (intro w hSw; (try dsimp only at hSw); go_simp; (try with_reducible rfl))
              try simp only [Act.put, List.setIfInBounds_toArray, List.set_cons_zero, List.set_cons_succ]
              refine wpAnyH_ready (rs := [13]) (by kernel_rfl) (by simp) (AllReadyH.cons (o := { dst := none, op := Op.store 24 (Operand.tmp 11) (Operand.tmp 47), type := 0, pos := "outright.go:22", after := #[{ on := 12, ground := Ground.data }, { on := 10, ground := Ground.data }, { on := 8, ground := Ground.chain }, { on := 0, ground := Ground.phase }, { on := 1, ground := Ground.phase }, { on := 2, ground := Ground.phase }, { on := 3, ground := Ground.phase }, { on := 4, ground := Ground.phase }, { on := 5, ground := Ground.phase }, { on := 6, ground := Ground.phase }, { on := 7, ground := Ground.phase }, { on := 8, ground := Ground.phase }, { on := 9, ground := Ground.phase }, { on := 10, ground := Ground.phase }, { on := 11, ground := Ground.textOnly Departure.lateStores }, { on := 12, ground := Ground.phase }], guard := none }) rfl (fun K hK => ?_) (AllReadyH.nil))
              have hfz := hxn.frozen 0
              have hcz := hxn.one
              go_simp
              have hxn0 := hxn
              clear hfz hcz
              have hbel : Below _ _ (wB.setCell ⟨gn, 0, none⟩ (.slice AK nK cK)) := hBE.setCell hgl _
              replace hxn := hxn.set 0 (.slice AK nK cK)
              replace hkp := hkp.setBox (u := .slice AK nK cK) hxn0 (by decide) (by decide) 0
              obtain ⟨wD, hnew⟩ : ∃ wD : World, wD = (wB.setCell ⟨gn, 0, none⟩ (.slice AK nK cK)) := ⟨_, rfl⟩
              rw [← hnew] at hbel hxn hkp ⊢
              clear hnew
              replace hBE := hbel
              clear hbel
              refine hK.out _ _ (HK.out _ hBE) (fun hHeld2 => ?_)
              clear hK K hHeld
              have hHeld := hHeld2
              clear hHeld2
              try simp only [Act.put, List.setIfInBounds_toArray, List.set_cons_zero, List.set_cons_succ]
              refine wpAnyH_take (i := 14) (oi := { dst := some 12, op := Op.assign (Operand.tmp 48), type := 29, pos := "outright.go:22", after := #[{ on := 11, ground := Ground.data }, { on := 13, ground := Ground.chain }, { on := 0, ground := Ground.phase }, { on := 1, ground := Ground.phase }, { on := 2, ground := Ground.phase }, { on := 3, ground := Ground.phase }, { on := 4, ground := Ground.phase }, { on := 5, ground := Ground.phase }, { on := 6, ground := Ground.phase }, { on := 7, ground := Ground.phase }, { on := 8, ground := Ground.phase }, { on := 9, ground := Ground.phase }, { on := 10, ground := Ground.phase }, { on := 11, ground := Ground.phase }, { on := 12, ground := Ground.phase }, { on := 13, ground := Ground.phase }], guard := none }) (v := ?zvb18) rfl (by kernel_rfl) (by kernel_rfl) (by kernel_rfl) (fun _ _ _ h => h) (Or.inl ⟨by rfl, ?zhb18⟩) (by assumption) ?zrb18
              case zhb18 => (intro w hSw; (try dsimp only at hSw); go_simp; (try with_reducible rfl))
              try simp only [Act.put, List.setIfInBounds_toArray, List.set_cons_zero, List.set_cons_succ]
              refine wpAnyH_done (by kernel_rfl) ?_ _
              go_wp2_with fail
              go_meet
              exact ⟨gn, AK, nK, cK, msK, rfl, rfl, hxn, hkp, hkl, hBE, hgl⟩
          case rest =>
            obtain ⟨gn, An, nn, cn, msn, rfl, rfl, hxn, hon, hln, hbx, hgn⟩ := hcut
            obtain ⟨hsn, hnn⟩ := fewIs_sr hon
            have HXN := Lib.hid hxn; have HON := Lib.hid hon; have HSN := Lib.hid hsn; have HBX := Lib.hid hbx; have HNN := Lib.hid hnn
            have HBwc := Lib.hid (HBw1.out.trans (hbx.mono HBw1.out.size))
            have HXc := Lib.hid (HX1.out.on hbx); have HOc := Lib.hid (HO1.out.on hbx); have HMc := Lib.hid (HM1.out.on hbx); have HYc := Lib.hid (HY1.out.on hbx)
            have n0 := hxn.one
            by_cases hE : E = 0
            · subst hE
              obtain ⟨ha, hr, hq, t', hm', hks, hput, j1, j2, j3, j4, j5⟩ := HOF.out (by first | trivial | rfl)
              have HR := Lib.hid hr; have HQ := Lib.hid hq; have HM' := Lib.hid hm'; have HPT := Lib.hid hput; have J1 := Lib.hid j1; have J2 := Lib.hid j2; have J3 := Lib.hid j3; have J5 := Lib.hid j5; have HAK := Lib.hid ha
              have HLN : Hid (msn.map (·.1) = t'.rows) := Lib.hid (hln.trans hks)
              have HAX := Lib.hid (HAN.out hr)
              have J4 : Hid (judgeE t'.rows ac (aq + 1) = 0 ∧ judgeH t'.rows ac (aq + 1) = 1 ∨ judgeE t'.rows ac (aq + 1) = 2 ∧ ¬ aq < 1099511627776) := Lib.hid (by
                by_cases hlt' : aq < maxQ
                · exact .inl (j4 hlt')
                · refine .inr ⟨?_, hlt'⟩
                  unfold judgeE
                  rw [if_pos (okS_yes.2 (Tri.rows_may hm')), if_neg (fun hh => by have := hh.2.2.2; omega)])
              have hwa : IntKind.u64.wrap ac = ac := by have h1 := ha.1; have h2 := ha.2.1; rw [IntKind.wrap_u64]; omega
              have hwq : IntKind.u64.wrap (aq + 1) = aq + 1 := by have h1 := ha.2.2.1; have h2 := ha.2.2.2; unfold maxQ at h2; rw [IntKind.wrap_u64]; omega
              have HIA : Hid (In64 ac) := Lib.hid ⟨by have := ha.1; omega, by have := ha.2.1; omega⟩
              have HIQ : Hid (In64 aq) := Lib.hid HQB.out
              have HNP : Hid (¬ Past t ac aq) := Lib.hid (fun hp => by have := hp.2; omega)
              clear hsn hnn hxn hon hln hbx ha hr hq hm' hks hput j1 j2 j3 j4 j5
              obtain ⟨a0, a1, a2, a3⟩ := HYc.out.four
              clear n0
              go_upto_region 16 with fail
              have hxk := SBox.new wc 55 #[.int .u64 ac, .int .u64 aq]
              have hbk := new_below wc (.cells #[.int .u64 ac, .int .u64 aq] 55)
              obtain ⟨W2, hW2⟩ : ∃ W2 : World, W2 = wc.alloc (.cells #[.int .u64 ac, .int .u64 aq] 55) := ⟨_, rfl⟩
              rw [← hW2] at hxk hbk ⊢
              clear hW2
              have HB2' := Lib.hid hbk; have HXK := Lib.hid hxk
              obtain ⟨k0, k1⟩ := hxk.two
              have n0 := (HXN.out.on hbk).one
              have HLK := Lib.hid (look_none (HMc.out.on hbk) HIA.out HIQ.out HNP.out)
              have HCKN := Lib.hid (check_any An nn cn msn W2 (HSN.out.on hbk))
              rw [HLN.out, sesE_yes (Tri.rows_may HM'.out)] at HCKN
              unfold kvU at HLK
              clear hxk hbk a0 a1 a2 a3
              go_upto_region 18 with (first | (at_lookup; refine list_look rfl _ _ rfl rfl rfl HLK.out ?_) | (go_at_call 10; refine HCKN.out.mono ?_; rintro y w5 ⟨rfl, hb5⟩; have HB5 := Lib.hid hb5; clear hb5))
              have HBc5 := Lib.hid (HB2'.out.trans (HB5.out.mono HB2'.out.size))
              obtain ⟨w6, hput, hm6, hk6, hz6, hb6⟩ := put_new (HMc.out.on HBc5.out) HIA.out HIQ.out HNP.out
              unfold kvU at hput
              have HPUT := Lib.hid hput
              have HB56 := Lib.hid (hb6 w.heap.size HGM.out)
              have HX6 : Hid (SBox w6 gs 24 #[.slice As ns cs]) := Lib.hid ((hk6 gs (fun e => (HMc.out.on HBc5.out).box (HXc.out.on HBc5.out) e.symm)).trans (HXc.out.on HBc5.out))
              have HN6 : Hid (SBox w6 gn 24 #[.slice An nn cn]) := Lib.hid ((hk6 gn (fun e => (HMc.out.on HBc5.out).box (HXN.out.on HBc5.out) e.symm)).trans (HXN.out.on HBc5.out))
              have HY6 : Hid (SBox w6 wr.heap.size 37 #[.int .i64 ac, .int .u64 aq, .int .i64 ae, av]) := Lib.hid ((hk6 wr.heap.size (fun e => (HMc.out.on HBc5.out).box (HYc.out.on HBc5.out) e.symm)).trans (HYc.out.on HBc5.out))
              have HO6 := Lib.hid (OwnS.map (HOc.out.on HBc5.out) (HMc.out.on HBc5.out) hk6)
              have HON6 := Lib.hid (OwnS.map (HON.out.on HBc5.out) (HMc.out.on HBc5.out) hk6)
              have HM6 : Hid (MapIs w6 gm (Past t')) := Lib.hid (hm6.weak (fun c p hp => by rw [HPT.out]; exact past_put HAK.out.1 HAK.out.2.1 HQ.out c p hp))
              have HBw6 := Lib.hid ((HBwc.out.trans (HBc5.out.mono HBwc.out.size)).trans HB56.out)
              have k01 := (HXK.out.on HB5.out).two
              clear k0 k1 n0
              obtain ⟨k0, k1⟩ := k01
              have HSN6 : Hid (SR w6 An nn cn msn) := Lib.hid (fewIs_sr HON6.out).1
              clear hput hm6 hk6 hz6 hb6
              go_upto_region 19 with (at_mapUpdate; refine list_mput rfl rfl _ _ _ rfl rfl rfl rfl HPUT.out ?_)
              have HBN : Hid (∀ W', Below w6.heap.size w6 W' → Below w.heap.size w W') := Lib.hid (fun W' hb => HBw6.out.trans (hb.mono HBw6.out.size))
              have HJ1 := Lib.hid (judge_any An nn cn ac aq msn w6 HSN6.out HCB.out)
              rw [HLN.out, J1.out, J2.out] at HJ1
              have HOFN := Lib.hid (fun W' (hb : Below w6.heap.size w6 W') => of_any An nn cn ac msn W' (HSN6.out.on hb) HCB.out)
              rw [HLN.out, J3.out] at HOFN
              have HJ2 := Lib.hid (fun W' (hb : Below w6.heap.size w6 W') => judge_any An nn cn ac (aq + 1) msn W' (HSN6.out.on hb) HCB.out)
              rw [HLN.out] at HJ2
              generalize judgeE t'.rows ac (aq + 1) = E2 at *
              generalize judgeH t'.rows ac (aq + 1) = H2 at *
              have HSO6 : Hid (SR w6 As ns cs mss) := Lib.hid (fewIs_sr HO6.out).1
              have HOB := Lib.hid (fun W' (hb : Below w6.heap.size w6 W') => of_any As ns cs other mss W' (HSO6.out.on hb) HOT.out)
              have HOC := Lib.hid (fun W' (hb : Below w6.heap.size w6 W') => of_any An nn cn other msn W' (HSN6.out.on hb) HOT.out)
              rw [HMS.out] at HOB
              rw [HLN.out] at HOC
              have n0 := HN6.out.one
              obtain ⟨a0, a1, a2, a3⟩ := HY6.out.four
              go_wp2_with fail
              refine HJ1.out.mono ?_
              rintro y w7 ⟨rfl, hb7⟩
              have HB7 := Lib.hid hb7
              clear n0 a0 a1 a2 a3 hb7
              have n0 := (HN6.out.on HB7.out).one
              obtain ⟨a0, a1, a2, a3⟩ := (HY6.out.on HB7.out).four
              go_wp2_with fail
              refine (HOFN.out _ HB7.out).mono ?_
              rintro y w8 ⟨⟨A8, c8, rfl, ho8⟩, hb8⟩
              have HB8 := Lib.hid (HB7.out.trans (hb8.mono HB7.out.size))
              have HN8 : Hid (NR w8 (.slice A8 ax.length c8) ax) := Lib.hid (OwnN.nr ho8)
              clear n0 a0 a1 a2 a3 hb8 ho8
              unfold sesV
              simp only
              generalize hlx : ax.length = nx at *
              go_upto_region 21 with fail
              have HX9 := Lib.hid (SBox.new w8 42 #[.int .i64 ac, .int .u64 aq, .int .i64 ae, .slice A8 nx c8])
              have HB9' := Lib.hid (new_below w8 (.cells #[.int .i64 ac, .int .u64 aq, .int .i64 ae, .slice A8 nx c8] 42))
              obtain ⟨W9, hW9⟩ : ∃ W9 : World, W9 = w8.alloc (.cells #[.int .i64 ac, .int .u64 aq, .int .i64 ae, .slice A8 nx c8] 42) := ⟨_, rfl⟩
              rw [← hW9] at HX9 HB9' ⊢
              clear hW9
              have HB9 := Lib.hid (HB8.out.trans (HB9'.out.mono HB8.out.size))
              obtain ⟨z0, z1, z2, z3⟩ := HX9.out.four
              obtain ⟨a0, a1, a2, a3⟩ := (HY6.out.on HB9.out).four
              have HSM := Lib.hid (samer_any ae ae (.slice A8 nx c8) av ax an W9 (HN8.out.on HB9'.out) (HN0.out.on (HBN.out _ HB9.out)))
              rw [HAX.out, decide_eq_true rfl] at HSM
              have hqq : (aq != aq) = false := by simp
              go_wp2_with fail
              refine HSM.out.mono ?_
              rintro y w10 ⟨rfl, hb10⟩
              have HB10 := Lib.hid (HB9.out.trans (hb10.mono HB9.out.size))
              clear a0 a1 a2 a3 z0 z1 z2 z3 hb10
              have n0 := (HN6.out.on HB10.out).one
              obtain ⟨a0, a1, a2, a3⟩ := (HY6.out.on HB10.out).four
              go_wp2_with fail
              refine (HJ2.out _ HB10.out).mono ?_
              rintro y w11 ⟨rfl, hb11⟩
              have HB11 := Lib.hid (HB10.out.trans (hb11.mono HB10.out.size))
              clear n0 a0 a1 a2 a3 hb11
              obtain ⟨a0, a1, a2, a3⟩ := (HY6.out.on HB11.out).four
              go_upto_region 24 with fail
              go_cut [125] from 115 to 124 (fun s125 wx => s125 = .bool false ∧ wx = w11)
              case first =>
                rcases J4.out with ⟨e1, e2⟩ | ⟨e1, e2⟩
                · subst e1; subst e2
                  go_wp2_with fail
                  go_meet
                  exact ⟨rfl, by first | rfl | trivial⟩
                · have hl : decide (aq < 1099511627776) = false := decide_eq_false (by omega)
                  subst e1
                  clear e2
                  go_wp2_with fail
                  go_meet
                  exact ⟨rfl, by first | rfl | trivial⟩
              case rest =>
                obtain ⟨rfl, rfl⟩ := hcut
                go_upto_region 26 with fail
                have HOE : Hid (other ≠ ac → ofZ t'.rows other = ofZ t.rows other) := Lib.hid (fun hh => J5.out other hh)
                generalize ofZ t.rows other = X at *
                generalize ofZ t'.rows other = Y at *
                obtain ⟨xc, xq, ⟨xe, xn⟩⟩ := X
                obtain ⟨yc, yq, ⟨ye, yn⟩⟩ := Y
                have HOB' := Lib.hid (fun W' (hb : Below wc.heap.size wc W') => HOB.out W' (HB11.out.trans (hb.mono HB11.out.size)))
                have HOC' := Lib.hid (fun W' (hb : Below wc.heap.size wc W') => HOC.out W' (HB11.out.trans (hb.mono HB11.out.size)))
                have HC2 := Lib.hid (fun (W' : World) (hW : Below wc.heap.size wc W') => (⟨⟨((HX6.out.on HB11.out).on hW).one, ((HN6.out.on HB11.out).on hW).one⟩⟩ : PLift (W'.cell? ⟨gs, 0, none⟩ = some (.slice As ns cs) ∧ W'.cell? ⟨gn, 0, none⟩ = some (.slice An nn cn))).down)
                go_cut [18, 19] from 126 to 131 (fun s18 s19 wx => ∃ gb gc Ab cb Ac cc, s18 = .pointer (some ⟨gb, 0, none⟩) ∧ s19 = .pointer (some ⟨gc, 0, none⟩) ∧ SBox wx gb 42 #[.int .i64 xc, .int .u64 xq, .int .i64 xe, .slice Ab xn.length cb] ∧ SBox wx gc 42 #[.int .i64 yc, .int .u64 yq, .int .i64 ye, .slice Ac yn.length cc] ∧ NR wx (.slice Ab xn.length cb) xn ∧ NR wx (.slice Ac yn.length cc) yn ∧ Below wc.heap.size wc wx)
                case first =>
                  have hBE := Below.refl wc.heap.size wc
                  have HK := HC2
                  refine wp_region_held_drew (S := (fun W' => W'.cell? ⟨gs, 0, none⟩ = some (.slice As ns cs) ∧ W'.cell? ⟨gn, 0, none⟩ = some (.slice An nn cn))) (by kernel_rfl) (HK.out _ hBE.drew) (fun hHeld => ?_)
                  replace hBE := hBE.drew
                  obtain ⟨w0r, hw0r⟩ : ∃ w0r : World, w0r = wc.drew := ⟨_, rfl⟩
                  rw [← hw0r] at hBE hHeld ⊢
                  clear hw0r
                  refine wpAnyH_take (i := 0) (oi := { dst := some 126, op := Op.load 24 (Operand.tmp 7), type := 24, pos := "outright.go:43", after := #[], guard := none }) (v := ?zvc0) rfl (by kernel_rfl) (by kernel_rfl) (by kernel_rfl) (fun _ _ _ h => h) (Or.inl ⟨by rfl, ?zhc0⟩) (by assumption) ?zrc0
                  case zhc0 => (intro w hSw; (try dsimp only at hSw); go_simp; (try with_reducible rfl))
                  try simp only [Act.put, List.setIfInBounds_toArray, List.set_cons_zero, List.set_cons_succ]
                  refine wpAnyH_take (i := 1) (oi := { dst := some 127, op := Op.move (Operand.tmp 2), type := 3, pos := "outright.go:43", after := #[], guard := none }) (v := ?zvc1) rfl (by kernel_rfl) (by kernel_rfl) (by kernel_rfl) (fun _ _ _ h => h) (Or.inl ⟨by rfl, ?zhc1⟩) (by assumption) ?zrc1
                  case zhc1 => (intro w hSw; (try dsimp only at hSw); go_simp; (try with_reducible rfl))
                  try simp only [Act.put, List.setIfInBounds_toArray, List.set_cons_zero, List.set_cons_succ]
                  refine wpAnyH_take (i := 3) (oi := { dst := some 129, op := Op.load 24 (Operand.tmp 11), type := 24, pos := "outright.go:43", after := #[], guard := none }) (v := ?zvc2) rfl (by kernel_rfl) (by kernel_rfl) (by kernel_rfl) (fun _ _ _ h => h) (Or.inl ⟨by rfl, ?zhc2⟩) (by assumption) ?zrc2
                  case zhc2 => (intro w hSw; (try dsimp only at hSw); go_simp; (try with_reducible rfl))
                  try simp only [Act.put, List.setIfInBounds_toArray, List.set_cons_zero, List.set_cons_succ]
                  refine wpAnyH_take (i := 4) (oi := { dst := some 130, op := Op.move (Operand.tmp 2), type := 3, pos := "outright.go:43", after := #[], guard := none }) (v := ?zvc3) rfl (by kernel_rfl) (by kernel_rfl) (by kernel_rfl) (fun _ _ _ h => h) (Or.inl ⟨by rfl, ?zhc3⟩) (by assumption) ?zrc3
                  case zhc3 => (intro w hSw; (try dsimp only at hSw); go_simp; (try with_reducible rfl))
                  try simp only [Act.put, List.setIfInBounds_toArray, List.set_cons_zero, List.set_cons_succ]
                  refine wpAnyH_ready (rs := [2, 6, 7]) (by kernel_rfl) (by simp) (AllReadyH.cons (o := { dst := some 128, op := Op.call { callee := Callee.value (Operand.func 20), args := #[Operand.tmp 126, Operand.tmp 127], argTypes := #[24, 3] }, type := 42, pos := "outright.go:43", after := #[{ on := 0, ground := Ground.data }, { on := 1, ground := Ground.data }], guard := none }) rfl (fun K hK => ?_) (AllReadyH.cons (o := { dst := some 18, op := Op.alloc 42, type := 0, pos := "outright.go:43", after := #[], guard := none }) rfl (fun K hK => ?_) (AllReadyH.cons (o := { dst := some 19, op := Op.alloc 42, type := 0, pos := "outright.go:43", after := #[], guard := none }) rfl (fun K hK => ?_) (AllReadyH.nil))))
                  · go_simp
                    go_at_call 20; (with_reducible refine (HOB'.out _ hBE).mono ?_)
                    rintro y wob ⟨⟨Ab, cb, rfl, hob⟩, hstep⟩
                    replace hBE := hBE.trans (hstep.mono hBE.size)
                    replace hob := hob.mono (Nat.zero_le _)
                    unfold sesV
                    simp only
                    clear hstep
                    refine hK.out _ _ (HK.out _ hBE) (fun hHeld2 => ?_)
                    clear hK K hHeld
                    have hHeld := hHeld2
                    clear hHeld2
                    try simp only [Act.put, List.setIfInBounds_toArray, List.set_cons_zero, List.set_cons_succ]
                    refine wpAnyH_ready (rs := [5, 6, 7]) (by kernel_rfl) (by simp) (AllReadyH.cons (o := { dst := some 131, op := Op.call { callee := Callee.value (Operand.func 20), args := #[Operand.tmp 129, Operand.tmp 130], argTypes := #[24, 3] }, type := 42, pos := "outright.go:43", after := #[{ on := 3, ground := Ground.data }, { on := 4, ground := Ground.data }, { on := 2, ground := Ground.chain }], guard := none }) rfl (fun K hK => ?_) (AllReadyH.cons (o := { dst := some 18, op := Op.alloc 42, type := 0, pos := "outright.go:43", after := #[], guard := none }) rfl (fun K hK => ?_) (AllReadyH.cons (o := { dst := some 19, op := Op.alloc 42, type := 0, pos := "outright.go:43", after := #[], guard := none }) rfl (fun K hK => ?_) (AllReadyH.nil))))
                    · go_simp
                      go_at_call 20; (with_reducible refine (HOC'.out _ hBE).mono ?_)
                      rintro y woc ⟨⟨Ac, cc, rfl, hoc⟩, hstep⟩
                      replace hBE := hBE.trans (hstep.mono hBE.size)
                      replace hob := hob.on hstep
                      replace hoc := hoc.mono (Nat.zero_le _)
                      unfold sesV
                      simp only
                      clear hstep
                      refine hK.out _ _ (HK.out _ hBE) (fun hHeld2 => ?_)
                      clear hK K hHeld
                      have hHeld := hHeld2
                      clear hHeld2
                      try simp only [Act.put, List.setIfInBounds_toArray, List.set_cons_zero, List.set_cons_succ]
                      refine wpAnyH_ready (rs := [6, 7]) (by kernel_rfl) (by simp) (AllReadyH.cons (o := { dst := some 18, op := Op.alloc 42, type := 0, pos := "outright.go:43", after := #[], guard := none }) rfl (fun K hK => ?_) (AllReadyH.cons (o := { dst := some 19, op := Op.alloc 42, type := 0, pos := "outright.go:43", after := #[], guard := none }) rfl (fun K hK => ?_) (AllReadyH.nil)))
                      · go_simp
                        have hglb := hBE.size
                        try (have hlt0 := hxc.lt)
                        have hstep := new_below woc (.cells #[.int .i64 0, .int .u64 0, .int .i64 0, .slice none 0 0] 42)
                        have hxb := SBox.new woc 42 #[.int .i64 0, .int .u64 0, .int .i64 0, .slice none 0 0]
                        replace hBE := hBE.trans (hstep.mono hBE.size)
                        replace hob := hob.on hstep
                        replace hoc := hoc.on hstep
                        obtain ⟨wlb, hnew⟩ : ∃ wlb : World, wlb = woc.alloc (.cells #[.int .i64 0, .int .u64 0, .int .i64 0, .slice none 0 0] 42) := ⟨_, rfl⟩
                        rw [← hnew] at hstep hBE hxb hob hoc ⊢
                        clear hnew hstep
                        obtain ⟨gb, hgb⟩ : ∃ gb : Nat, gb = woc.heap.size := ⟨_, rfl⟩
                        rw [← hgb] at hxb hglb ⊢
                        try (rw [← hgb] at hlt0)
                        try (have hne : gb ≠ gc := by omega)
                        clear hgb
                        refine hK.out _ _ (HK.out _ hBE) (fun hHeld2 => ?_)
                        clear hK K hHeld
                        have hHeld := hHeld2
                        clear hHeld2
                        try simp only [Act.put, List.setIfInBounds_toArray, List.set_cons_zero, List.set_cons_succ]
                        refine wpAnyH_ready (rs := [7]) (by kernel_rfl) (by simp) (AllReadyH.cons (o := { dst := some 19, op := Op.alloc 42, type := 0, pos := "outright.go:43", after := #[], guard := none }) rfl (fun K hK => ?_) (AllReadyH.nil))
                        go_simp
                        have hglc := hBE.size
                        try (have hlt0 := hxb.lt)
                        have hstep := new_below wlb (.cells #[.int .i64 0, .int .u64 0, .int .i64 0, .slice none 0 0] 42)
                        have hxc := SBox.new wlb 42 #[.int .i64 0, .int .u64 0, .int .i64 0, .slice none 0 0]
                        replace hBE := hBE.trans (hstep.mono hBE.size)
                        replace hob := hob.on hstep
                        replace hoc := hoc.on hstep
                        replace hxb := hxb.on hstep
                        obtain ⟨wlc, hnew⟩ : ∃ wlc : World, wlc = wlb.alloc (.cells #[.int .i64 0, .int .u64 0, .int .i64 0, .slice none 0 0] 42) := ⟨_, rfl⟩
                        rw [← hnew] at hstep hBE hxc hob hoc hxb ⊢
                        clear hnew hstep
                        obtain ⟨gc, hgc⟩ : ∃ gc : Nat, gc = wlb.heap.size := ⟨_, rfl⟩
                        rw [← hgc] at hxc hglc ⊢
                        try (rw [← hgc] at hlt0)
                        try (have hne : gb ≠ gc := by omega)
                        clear hgc
                        refine hK.out _ _ (HK.out _ hBE) (fun hHeld2 => ?_)
                        clear hK K hHeld
                        have hHeld := hHeld2
                        clear hHeld2
                        try simp only [Act.put, List.setIfInBounds_toArray, List.set_cons_zero, List.set_cons_succ]
                        refine wpAnyH_ready (rs := [8]) (by kernel_rfl) (by simp) (AllReadyH.cons (o := { dst := none, op := Op.store 42 (Operand.tmp 18) (Operand.tmp 128), type := 0, pos := "outright.go:43", after := #[{ on := 6, ground := Ground.data }, { on := 2, ground := Ground.data }, { on := 5, ground := Ground.chain }, { on := 0, ground := Ground.phase }, { on := 1, ground := Ground.phase }, { on := 2, ground := Ground.phase }, { on := 3, ground := Ground.textOnly Departure.lateStores }, { on := 4, ground := Ground.textOnly Departure.lateStores }, { on := 5, ground := Ground.textOnly Departure.lateStoresUnsure }, { on := 6, ground := Ground.phase }, { on := 7, ground := Ground.phase }], guard := none }) rfl (fun K hK => ?_) (AllReadyH.nil))
                        have hf0 := hxb.frozen 0; have hf1 := hxb.frozen 1; have hf2 := hxb.frozen 2; have hf3 := hxb.frozen 3
                        obtain ⟨z0, z1, z2, z3⟩ := hxb.four
                        go_simp
                        have hx0 := hxb
                        clear hf0 hf1 hf2 hf3 z0 z1 z2 z3
                        have hbel : Below _ _ ((((wlc.setCell ⟨gb, 0, none⟩ (.int .i64 xc)).setCell ⟨gb, 1, none⟩ (.int .u64 xq)).setCell ⟨gb, 2, none⟩ (.int .i64 xe)).setCell ⟨gb, 3, none⟩ (.slice Ab xn.length cb)) := below_set4 hBE hglb (.int .i64 xc) (.int .u64 xq) (.int .i64 xe) (.slice Ab xn.length cb)
                        replace hob := hob.set4Box hx0 (by decide) (.int .i64 xc) (.int .u64 xq) (.int .i64 xe) (.slice Ab xn.length cb)
                        replace hoc := hoc.set4Box hx0 (by decide) (.int .i64 xc) (.int .u64 xq) (.int .i64 xe) (.slice Ab xn.length cb)
                        replace hxb := hxb.set4 (.int .i64 xc) (.int .u64 xq) (.int .i64 xe) (.slice Ab xn.length cb)
                        replace hxc := hxc.far4 (p := gb) (by omega) (.int .i64 xc) (.int .u64 xq) (.int .i64 xe) (.slice Ab xn.length cb)
                        obtain ⟨wsb, hnew⟩ : ∃ wsb : World, wsb = ((((wlc.setCell ⟨gb, 0, none⟩ (.int .i64 xc)).setCell ⟨gb, 1, none⟩ (.int .u64 xq)).setCell ⟨gb, 2, none⟩ (.int .i64 xe)).setCell ⟨gb, 3, none⟩ (.slice Ab xn.length cb)) := ⟨_, rfl⟩
                        rw [← hnew] at hbel hob hoc hxb hxc ⊢
                        clear hnew
                        replace hBE := hbel
                        clear hbel
                        refine hK.out _ _ (HK.out _ hBE) (fun hHeld2 => ?_)
                        clear hK K hHeld
                        have hHeld := hHeld2
                        clear hHeld2
                        try simp only [Act.put, List.setIfInBounds_toArray, List.set_cons_zero, List.set_cons_succ]
                        refine wpAnyH_ready (rs := [9]) (by kernel_rfl) (by simp) (AllReadyH.cons (o := { dst := none, op := Op.store 42 (Operand.tmp 19) (Operand.tmp 131), type := 0, pos := "outright.go:43", after := #[{ on := 7, ground := Ground.data }, { on := 5, ground := Ground.data }, { on := 8, ground := Ground.chain }, { on := 0, ground := Ground.phase }, { on := 1, ground := Ground.phase }, { on := 2, ground := Ground.phase }, { on := 3, ground := Ground.phase }, { on := 4, ground := Ground.phase }, { on := 5, ground := Ground.phase }, { on := 6, ground := Ground.phase }, { on := 7, ground := Ground.phase }, { on := 8, ground := Ground.phase }], guard := none }) rfl (fun K hK => ?_) (AllReadyH.nil))
                        have hf0 := hxc.frozen 0; have hf1 := hxc.frozen 1; have hf2 := hxc.frozen 2; have hf3 := hxc.frozen 3
                        obtain ⟨z0, z1, z2, z3⟩ := hxc.four
                        go_simp
                        have hx0 := hxc
                        clear hf0 hf1 hf2 hf3 z0 z1 z2 z3
                        have hbel : Below _ _ ((((wsb.setCell ⟨gc, 0, none⟩ (.int .i64 yc)).setCell ⟨gc, 1, none⟩ (.int .u64 yq)).setCell ⟨gc, 2, none⟩ (.int .i64 ye)).setCell ⟨gc, 3, none⟩ (.slice Ac yn.length cc)) := below_set4 hBE hglc (.int .i64 yc) (.int .u64 yq) (.int .i64 ye) (.slice Ac yn.length cc)
                        replace hob := hob.set4Box hx0 (by decide) (.int .i64 yc) (.int .u64 yq) (.int .i64 ye) (.slice Ac yn.length cc)
                        replace hoc := hoc.set4Box hx0 (by decide) (.int .i64 yc) (.int .u64 yq) (.int .i64 ye) (.slice Ac yn.length cc)
                        replace hxb := hxb.far4 (p := gc) (by omega) (.int .i64 yc) (.int .u64 yq) (.int .i64 ye) (.slice Ac yn.length cc)
                        replace hxc := hxc.set4 (.int .i64 yc) (.int .u64 yq) (.int .i64 ye) (.slice Ac yn.length cc)
                        obtain ⟨wsc, hnew⟩ : ∃ wsc : World, wsc = ((((wsb.setCell ⟨gc, 0, none⟩ (.int .i64 yc)).setCell ⟨gc, 1, none⟩ (.int .u64 yq)).setCell ⟨gc, 2, none⟩ (.int .i64 ye)).setCell ⟨gc, 3, none⟩ (.slice Ac yn.length cc)) := ⟨_, rfl⟩
                        rw [← hnew] at hbel hob hoc hxb hxc ⊢
                        clear hnew
                        replace hBE := hbel
                        clear hbel
                        refine hK.out _ _ (HK.out _ hBE) (fun hHeld2 => ?_)
                        clear hK K hHeld
                        have hHeld := hHeld2
                        clear hHeld2
                        try simp only [Act.put, List.setIfInBounds_toArray, List.set_cons_zero, List.set_cons_succ]
                        refine wpAnyH_done (by kernel_rfl) ?_ _
                        go_wp2_with fail
                        go_meet
                        exact ⟨gb, gc, Ab, cb, Ac, cc, rfl, rfl, hxb, hxc, OwnN.nr hob, OwnN.nr hoc, hBE⟩
                      · go_simp
                        have hglc := hBE.size
                        try (have hlt0 := hxb.lt)
                        have hstep := new_below woc (.cells #[.int .i64 0, .int .u64 0, .int .i64 0, .slice none 0 0] 42)
                        have hxc := SBox.new woc 42 #[.int .i64 0, .int .u64 0, .int .i64 0, .slice none 0 0]
                        replace hBE := hBE.trans (hstep.mono hBE.size)
                        replace hob := hob.on hstep
                        replace hoc := hoc.on hstep
                        obtain ⟨wlc, hnew⟩ : ∃ wlc : World, wlc = woc.alloc (.cells #[.int .i64 0, .int .u64 0, .int .i64 0, .slice none 0 0] 42) := ⟨_, rfl⟩
                        rw [← hnew] at hstep hBE hxc hob hoc ⊢
                        clear hnew hstep
                        obtain ⟨gc, hgc⟩ : ∃ gc : Nat, gc = woc.heap.size := ⟨_, rfl⟩
                        rw [← hgc] at hxc hglc ⊢
                        try (rw [← hgc] at hlt0)
                        try (have hne : gb ≠ gc := by omega)
                        clear hgc
                        refine hK.out _ _ (HK.out _ hBE) (fun hHeld2 => ?_)
                        clear hK K hHeld
                        have hHeld := hHeld2
                        clear hHeld2
                        try simp only [Act.put, List.setIfInBounds_toArray, List.set_cons_zero, List.set_cons_succ]
                        refine wpAnyH_ready (rs := [6]) (by kernel_rfl) (by simp) (AllReadyH.cons (o := { dst := some 18, op := Op.alloc 42, type := 0, pos := "outright.go:43", after := #[], guard := none }) rfl (fun K hK => ?_) (AllReadyH.nil))
                        go_simp
                        have hglb := hBE.size
                        try (have hlt0 := hxc.lt)
                        have hstep := new_below wlc (.cells #[.int .i64 0, .int .u64 0, .int .i64 0, .slice none 0 0] 42)
                        have hxb := SBox.new wlc 42 #[.int .i64 0, .int .u64 0, .int .i64 0, .slice none 0 0]
                        replace hBE := hBE.trans (hstep.mono hBE.size)
                        replace hob := hob.on hstep
                        replace hoc := hoc.on hstep
                        replace hxc := hxc.on hstep
                        obtain ⟨wlb, hnew⟩ : ∃ wlb : World, wlb = wlc.alloc (.cells #[.int .i64 0, .int .u64 0, .int .i64 0, .slice none 0 0] 42) := ⟨_, rfl⟩
                        rw [← hnew] at hstep hBE hxb hob hoc hxc ⊢
                        clear hnew hstep
                        obtain ⟨gb, hgb⟩ : ∃ gb : Nat, gb = wlc.heap.size := ⟨_, rfl⟩
                        rw [← hgb] at hxb hglb ⊢
                        try (rw [← hgb] at hlt0)
                        try (have hne : gb ≠ gc := by omega)
                        clear hgb
                        refine hK.out _ _ (HK.out _ hBE) (fun hHeld2 => ?_)
                        clear hK K hHeld
                        have hHeld := hHeld2
                        clear hHeld2
                        try simp only [Act.put, List.setIfInBounds_toArray, List.set_cons_zero, List.set_cons_succ]
                        refine wpAnyH_ready (rs := [8]) (by kernel_rfl) (by simp) (AllReadyH.cons (o := { dst := none, op := Op.store 42 (Operand.tmp 18) (Operand.tmp 128), type := 0, pos := "outright.go:43", after := #[{ on := 6, ground := Ground.data }, { on := 2, ground := Ground.data }, { on := 5, ground := Ground.chain }, { on := 0, ground := Ground.phase }, { on := 1, ground := Ground.phase }, { on := 2, ground := Ground.phase }, { on := 3, ground := Ground.textOnly Departure.lateStores }, { on := 4, ground := Ground.textOnly Departure.lateStores }, { on := 5, ground := Ground.textOnly Departure.lateStoresUnsure }, { on := 6, ground := Ground.phase }, { on := 7, ground := Ground.phase }], guard := none }) rfl (fun K hK => ?_) (AllReadyH.nil))
                        have hf0 := hxb.frozen 0; have hf1 := hxb.frozen 1; have hf2 := hxb.frozen 2; have hf3 := hxb.frozen 3
                        obtain ⟨z0, z1, z2, z3⟩ := hxb.four
                        go_simp
                        have hx0 := hxb
                        clear hf0 hf1 hf2 hf3 z0 z1 z2 z3
                        have hbel : Below _ _ ((((wlb.setCell ⟨gb, 0, none⟩ (.int .i64 xc)).setCell ⟨gb, 1, none⟩ (.int .u64 xq)).setCell ⟨gb, 2, none⟩ (.int .i64 xe)).setCell ⟨gb, 3, none⟩ (.slice Ab xn.length cb)) := below_set4 hBE hglb (.int .i64 xc) (.int .u64 xq) (.int .i64 xe) (.slice Ab xn.length cb)
                        replace hob := hob.set4Box hx0 (by decide) (.int .i64 xc) (.int .u64 xq) (.int .i64 xe) (.slice Ab xn.length cb)
                        replace hoc := hoc.set4Box hx0 (by decide) (.int .i64 xc) (.int .u64 xq) (.int .i64 xe) (.slice Ab xn.length cb)
                        replace hxc := hxc.far4 (p := gb) (by omega) (.int .i64 xc) (.int .u64 xq) (.int .i64 xe) (.slice Ab xn.length cb)
                        replace hxb := hxb.set4 (.int .i64 xc) (.int .u64 xq) (.int .i64 xe) (.slice Ab xn.length cb)
                        obtain ⟨wsb, hnew⟩ : ∃ wsb : World, wsb = ((((wlb.setCell ⟨gb, 0, none⟩ (.int .i64 xc)).setCell ⟨gb, 1, none⟩ (.int .u64 xq)).setCell ⟨gb, 2, none⟩ (.int .i64 xe)).setCell ⟨gb, 3, none⟩ (.slice Ab xn.length cb)) := ⟨_, rfl⟩
                        rw [← hnew] at hbel hob hoc hxc hxb ⊢
                        clear hnew
                        replace hBE := hbel
                        clear hbel
                        refine hK.out _ _ (HK.out _ hBE) (fun hHeld2 => ?_)
                        clear hK K hHeld
                        have hHeld := hHeld2
                        clear hHeld2
                        try simp only [Act.put, List.setIfInBounds_toArray, List.set_cons_zero, List.set_cons_succ]
                        refine wpAnyH_ready (rs := [9]) (by kernel_rfl) (by simp) (AllReadyH.cons (o := { dst := none, op := Op.store 42 (Operand.tmp 19) (Operand.tmp 131), type := 0, pos := "outright.go:43", after := #[{ on := 7, ground := Ground.data }, { on := 5, ground := Ground.data }, { on := 8, ground := Ground.chain }, { on := 0, ground := Ground.phase }, { on := 1, ground := Ground.phase }, { on := 2, ground := Ground.phase }, { on := 3, ground := Ground.phase }, { on := 4, ground := Ground.phase }, { on := 5, ground := Ground.phase }, { on := 6, ground := Ground.phase }, { on := 7, ground := Ground.phase }, { on := 8, ground := Ground.phase }], guard := none }) rfl (fun K hK => ?_) (AllReadyH.nil))
                        have hf0 := hxc.frozen 0; have hf1 := hxc.frozen 1; have hf2 := hxc.frozen 2; have hf3 := hxc.frozen 3
                        obtain ⟨z0, z1, z2, z3⟩ := hxc.four
                        go_simp
                        have hx0 := hxc
                        clear hf0 hf1 hf2 hf3 z0 z1 z2 z3
                        have hbel : Below _ _ ((((wsb.setCell ⟨gc, 0, none⟩ (.int .i64 yc)).setCell ⟨gc, 1, none⟩ (.int .u64 yq)).setCell ⟨gc, 2, none⟩ (.int .i64 ye)).setCell ⟨gc, 3, none⟩ (.slice Ac yn.length cc)) := below_set4 hBE hglc (.int .i64 yc) (.int .u64 yq) (.int .i64 ye) (.slice Ac yn.length cc)
                        replace hob := hob.set4Box hx0 (by decide) (.int .i64 yc) (.int .u64 yq) (.int .i64 ye) (.slice Ac yn.length cc)
                        replace hoc := hoc.set4Box hx0 (by decide) (.int .i64 yc) (.int .u64 yq) (.int .i64 ye) (.slice Ac yn.length cc)
                        replace hxc := hxc.set4 (.int .i64 yc) (.int .u64 yq) (.int .i64 ye) (.slice Ac yn.length cc)
                        replace hxb := hxb.far4 (p := gc) (by omega) (.int .i64 yc) (.int .u64 yq) (.int .i64 ye) (.slice Ac yn.length cc)
                        obtain ⟨wsc, hnew⟩ : ∃ wsc : World, wsc = ((((wsb.setCell ⟨gc, 0, none⟩ (.int .i64 yc)).setCell ⟨gc, 1, none⟩ (.int .u64 yq)).setCell ⟨gc, 2, none⟩ (.int .i64 ye)).setCell ⟨gc, 3, none⟩ (.slice Ac yn.length cc)) := ⟨_, rfl⟩
                        rw [← hnew] at hbel hob hoc hxc hxb ⊢
                        clear hnew
                        replace hBE := hbel
                        clear hbel
                        refine hK.out _ _ (HK.out _ hBE) (fun hHeld2 => ?_)
                        clear hK K hHeld
                        have hHeld := hHeld2
                        clear hHeld2
                        try simp only [Act.put, List.setIfInBounds_toArray, List.set_cons_zero, List.set_cons_succ]
                        refine wpAnyH_done (by kernel_rfl) ?_ _
                        go_wp2_with fail
                        go_meet
                        exact ⟨gb, gc, Ab, cb, Ac, cc, rfl, rfl, hxb, hxc, OwnN.nr hob, OwnN.nr hoc, hBE⟩
                    · go_simp
                      have hglb := hBE.size
                      try (have hlt0 := hxc.lt)
                      have hstep := new_below wob (.cells #[.int .i64 0, .int .u64 0, .int .i64 0, .slice none 0 0] 42)
                      have hxb := SBox.new wob 42 #[.int .i64 0, .int .u64 0, .int .i64 0, .slice none 0 0]
                      replace hBE := hBE.trans (hstep.mono hBE.size)
                      replace hob := hob.on hstep
                      obtain ⟨wlb, hnew⟩ : ∃ wlb : World, wlb = wob.alloc (.cells #[.int .i64 0, .int .u64 0, .int .i64 0, .slice none 0 0] 42) := ⟨_, rfl⟩
                      rw [← hnew] at hstep hBE hxb hob ⊢
                      clear hnew hstep
                      obtain ⟨gb, hgb⟩ : ∃ gb : Nat, gb = wob.heap.size := ⟨_, rfl⟩
                      rw [← hgb] at hxb hglb ⊢
                      try (rw [← hgb] at hlt0)
                      try (have hne : gb ≠ gc := by omega)
                      clear hgb
                      refine hK.out _ _ (HK.out _ hBE) (fun hHeld2 => ?_)
                      clear hK K hHeld
                      have hHeld := hHeld2
                      clear hHeld2
                      try simp only [Act.put, List.setIfInBounds_toArray, List.set_cons_zero, List.set_cons_succ]
                      refine wpAnyH_ready (rs := [5, 7]) (by kernel_rfl) (by simp) (AllReadyH.cons (o := { dst := some 131, op := Op.call { callee := Callee.value (Operand.func 20), args := #[Operand.tmp 129, Operand.tmp 130], argTypes := #[24, 3] }, type := 42, pos := "outright.go:43", after := #[{ on := 3, ground := Ground.data }, { on := 4, ground := Ground.data }, { on := 2, ground := Ground.chain }], guard := none }) rfl (fun K hK => ?_) (AllReadyH.cons (o := { dst := some 19, op := Op.alloc 42, type := 0, pos := "outright.go:43", after := #[], guard := none }) rfl (fun K hK => ?_) (AllReadyH.nil)))
                      · go_simp
                        go_at_call 20; (with_reducible refine (HOC'.out _ hBE).mono ?_)
                        rintro y woc ⟨⟨Ac, cc, rfl, hoc⟩, hstep⟩
                        replace hBE := hBE.trans (hstep.mono hBE.size)
                        replace hob := hob.on hstep
                        replace hxb := hxb.on hstep
                        replace hoc := hoc.mono (Nat.zero_le _)
                        unfold sesV
                        simp only
                        clear hstep
                        refine hK.out _ _ (HK.out _ hBE) (fun hHeld2 => ?_)
                        clear hK K hHeld
                        have hHeld := hHeld2
                        clear hHeld2
                        try simp only [Act.put, List.setIfInBounds_toArray, List.set_cons_zero, List.set_cons_succ]
                        refine wpAnyH_ready (rs := [7]) (by kernel_rfl) (by simp) (AllReadyH.cons (o := { dst := some 19, op := Op.alloc 42, type := 0, pos := "outright.go:43", after := #[], guard := none }) rfl (fun K hK => ?_) (AllReadyH.nil))
                        go_simp
                        have hglc := hBE.size
                        try (have hlt0 := hxb.lt)
                        have hstep := new_below woc (.cells #[.int .i64 0, .int .u64 0, .int .i64 0, .slice none 0 0] 42)
                        have hxc := SBox.new woc 42 #[.int .i64 0, .int .u64 0, .int .i64 0, .slice none 0 0]
                        replace hBE := hBE.trans (hstep.mono hBE.size)
                        replace hob := hob.on hstep
                        replace hxb := hxb.on hstep
                        replace hoc := hoc.on hstep
                        obtain ⟨wlc, hnew⟩ : ∃ wlc : World, wlc = woc.alloc (.cells #[.int .i64 0, .int .u64 0, .int .i64 0, .slice none 0 0] 42) := ⟨_, rfl⟩
                        rw [← hnew] at hstep hBE hxc hob hxb hoc ⊢
                        clear hnew hstep
                        obtain ⟨gc, hgc⟩ : ∃ gc : Nat, gc = woc.heap.size := ⟨_, rfl⟩
                        rw [← hgc] at hxc hglc ⊢
                        try (rw [← hgc] at hlt0)
                        try (have hne : gb ≠ gc := by omega)
                        clear hgc
                        refine hK.out _ _ (HK.out _ hBE) (fun hHeld2 => ?_)
                        clear hK K hHeld
                        have hHeld := hHeld2
                        clear hHeld2
                        try simp only [Act.put, List.setIfInBounds_toArray, List.set_cons_zero, List.set_cons_succ]
                        refine wpAnyH_ready (rs := [8]) (by kernel_rfl) (by simp) (AllReadyH.cons (o := { dst := none, op := Op.store 42 (Operand.tmp 18) (Operand.tmp 128), type := 0, pos := "outright.go:43", after := #[{ on := 6, ground := Ground.data }, { on := 2, ground := Ground.data }, { on := 5, ground := Ground.chain }, { on := 0, ground := Ground.phase }, { on := 1, ground := Ground.phase }, { on := 2, ground := Ground.phase }, { on := 3, ground := Ground.textOnly Departure.lateStores }, { on := 4, ground := Ground.textOnly Departure.lateStores }, { on := 5, ground := Ground.textOnly Departure.lateStoresUnsure }, { on := 6, ground := Ground.phase }, { on := 7, ground := Ground.phase }], guard := none }) rfl (fun K hK => ?_) (AllReadyH.nil))
                        have hf0 := hxb.frozen 0; have hf1 := hxb.frozen 1; have hf2 := hxb.frozen 2; have hf3 := hxb.frozen 3
                        obtain ⟨z0, z1, z2, z3⟩ := hxb.four
                        go_simp
                        have hx0 := hxb
                        clear hf0 hf1 hf2 hf3 z0 z1 z2 z3
                        have hbel : Below _ _ ((((wlc.setCell ⟨gb, 0, none⟩ (.int .i64 xc)).setCell ⟨gb, 1, none⟩ (.int .u64 xq)).setCell ⟨gb, 2, none⟩ (.int .i64 xe)).setCell ⟨gb, 3, none⟩ (.slice Ab xn.length cb)) := below_set4 hBE hglb (.int .i64 xc) (.int .u64 xq) (.int .i64 xe) (.slice Ab xn.length cb)
                        replace hob := hob.set4Box hx0 (by decide) (.int .i64 xc) (.int .u64 xq) (.int .i64 xe) (.slice Ab xn.length cb)
                        replace hxb := hxb.set4 (.int .i64 xc) (.int .u64 xq) (.int .i64 xe) (.slice Ab xn.length cb)
                        replace hoc := hoc.set4Box hx0 (by decide) (.int .i64 xc) (.int .u64 xq) (.int .i64 xe) (.slice Ab xn.length cb)
                        replace hxc := hxc.far4 (p := gb) (by omega) (.int .i64 xc) (.int .u64 xq) (.int .i64 xe) (.slice Ab xn.length cb)
                        obtain ⟨wsb, hnew⟩ : ∃ wsb : World, wsb = ((((wlc.setCell ⟨gb, 0, none⟩ (.int .i64 xc)).setCell ⟨gb, 1, none⟩ (.int .u64 xq)).setCell ⟨gb, 2, none⟩ (.int .i64 xe)).setCell ⟨gb, 3, none⟩ (.slice Ab xn.length cb)) := ⟨_, rfl⟩
                        rw [← hnew] at hbel hob hxb hoc hxc ⊢
                        clear hnew
                        replace hBE := hbel
                        clear hbel
                        refine hK.out _ _ (HK.out _ hBE) (fun hHeld2 => ?_)
                        clear hK K hHeld
                        have hHeld := hHeld2
                        clear hHeld2
                        try simp only [Act.put, List.setIfInBounds_toArray, List.set_cons_zero, List.set_cons_succ]
                        refine wpAnyH_ready (rs := [9]) (by kernel_rfl) (by simp) (AllReadyH.cons (o := { dst := none, op := Op.store 42 (Operand.tmp 19) (Operand.tmp 131), type := 0, pos := "outright.go:43", after := #[{ on := 7, ground := Ground.data }, { on := 5, ground := Ground.data }, { on := 8, ground := Ground.chain }, { on := 0, ground := Ground.phase }, { on := 1, ground := Ground.phase }, { on := 2, ground := Ground.phase }, { on := 3, ground := Ground.phase }, { on := 4, ground := Ground.phase }, { on := 5, ground := Ground.phase }, { on := 6, ground := Ground.phase }, { on := 7, ground := Ground.phase }, { on := 8, ground := Ground.phase }], guard := none }) rfl (fun K hK => ?_) (AllReadyH.nil))
                        have hf0 := hxc.frozen 0; have hf1 := hxc.frozen 1; have hf2 := hxc.frozen 2; have hf3 := hxc.frozen 3
                        obtain ⟨z0, z1, z2, z3⟩ := hxc.four
                        go_simp
                        have hx0 := hxc
                        clear hf0 hf1 hf2 hf3 z0 z1 z2 z3
                        have hbel : Below _ _ ((((wsb.setCell ⟨gc, 0, none⟩ (.int .i64 yc)).setCell ⟨gc, 1, none⟩ (.int .u64 yq)).setCell ⟨gc, 2, none⟩ (.int .i64 ye)).setCell ⟨gc, 3, none⟩ (.slice Ac yn.length cc)) := below_set4 hBE hglc (.int .i64 yc) (.int .u64 yq) (.int .i64 ye) (.slice Ac yn.length cc)
                        replace hob := hob.set4Box hx0 (by decide) (.int .i64 yc) (.int .u64 yq) (.int .i64 ye) (.slice Ac yn.length cc)
                        replace hxb := hxb.far4 (p := gc) (by omega) (.int .i64 yc) (.int .u64 yq) (.int .i64 ye) (.slice Ac yn.length cc)
                        replace hoc := hoc.set4Box hx0 (by decide) (.int .i64 yc) (.int .u64 yq) (.int .i64 ye) (.slice Ac yn.length cc)
                        replace hxc := hxc.set4 (.int .i64 yc) (.int .u64 yq) (.int .i64 ye) (.slice Ac yn.length cc)
                        obtain ⟨wsc, hnew⟩ : ∃ wsc : World, wsc = ((((wsb.setCell ⟨gc, 0, none⟩ (.int .i64 yc)).setCell ⟨gc, 1, none⟩ (.int .u64 yq)).setCell ⟨gc, 2, none⟩ (.int .i64 ye)).setCell ⟨gc, 3, none⟩ (.slice Ac yn.length cc)) := ⟨_, rfl⟩
                        rw [← hnew] at hbel hob hxb hoc hxc ⊢
                        clear hnew
                        replace hBE := hbel
                        clear hbel
                        refine hK.out _ _ (HK.out _ hBE) (fun hHeld2 => ?_)
                        clear hK K hHeld
                        have hHeld := hHeld2
                        clear hHeld2
                        try simp only [Act.put, List.setIfInBounds_toArray, List.set_cons_zero, List.set_cons_succ]
                        refine wpAnyH_done (by kernel_rfl) ?_ _
                        go_wp2_with fail
                        go_meet
                        exact ⟨gb, gc, Ab, cb, Ac, cc, rfl, rfl, hxb, hxc, OwnN.nr hob, OwnN.nr hoc, hBE⟩
                      · go_simp
                        have hglc := hBE.size
                        try (have hlt0 := hxb.lt)
                        have hstep := new_below wlb (.cells #[.int .i64 0, .int .u64 0, .int .i64 0, .slice none 0 0] 42)
                        have hxc := SBox.new wlb 42 #[.int .i64 0, .int .u64 0, .int .i64 0, .slice none 0 0]
                        replace hBE := hBE.trans (hstep.mono hBE.size)
                        replace hob := hob.on hstep
                        replace hxb := hxb.on hstep
                        obtain ⟨wlc, hnew⟩ : ∃ wlc : World, wlc = wlb.alloc (.cells #[.int .i64 0, .int .u64 0, .int .i64 0, .slice none 0 0] 42) := ⟨_, rfl⟩
                        rw [← hnew] at hstep hBE hxc hob hxb ⊢
                        clear hnew hstep
                        obtain ⟨gc, hgc⟩ : ∃ gc : Nat, gc = wlb.heap.size := ⟨_, rfl⟩
                        rw [← hgc] at hxc hglc ⊢
                        try (rw [← hgc] at hlt0)
                        try (have hne : gb ≠ gc := by omega)
                        clear hgc
                        refine hK.out _ _ (HK.out _ hBE) (fun hHeld2 => ?_)
                        clear hK K hHeld
                        have hHeld := hHeld2
                        clear hHeld2
                        try simp only [Act.put, List.setIfInBounds_toArray, List.set_cons_zero, List.set_cons_succ]
                        refine wpAnyH_ready (rs := [5]) (by kernel_rfl) (by simp) (AllReadyH.cons (o := { dst := some 131, op := Op.call { callee := Callee.value (Operand.func 20), args := #[Operand.tmp 129, Operand.tmp 130], argTypes := #[24, 3] }, type := 42, pos := "outright.go:43", after := #[{ on := 3, ground := Ground.data }, { on := 4, ground := Ground.data }, { on := 2, ground := Ground.chain }], guard := none }) rfl (fun K hK => ?_) (AllReadyH.nil))
                        go_simp
                        go_at_call 20; (with_reducible refine (HOC'.out _ hBE).mono ?_)
                        rintro y woc ⟨⟨Ac, cc, rfl, hoc⟩, hstep⟩
                        replace hBE := hBE.trans (hstep.mono hBE.size)
                        replace hob := hob.on hstep
                        replace hxb := hxb.on hstep
                        replace hxc := hxc.on hstep
                        replace hoc := hoc.mono (Nat.zero_le _)
                        unfold sesV
                        simp only
                        clear hstep
                        refine hK.out _ _ (HK.out _ hBE) (fun hHeld2 => ?_)
                        clear hK K hHeld
                        have hHeld := hHeld2
                        clear hHeld2
                        try simp only [Act.put, List.setIfInBounds_toArray, List.set_cons_zero, List.set_cons_succ]
                        refine wpAnyH_ready (rs := [8]) (by kernel_rfl) (by simp) (AllReadyH.cons (o := { dst := none, op := Op.store 42 (Operand.tmp 18) (Operand.tmp 128), type := 0, pos := "outright.go:43", after := #[{ on := 6, ground := Ground.data }, { on := 2, ground := Ground.data }, { on := 5, ground := Ground.chain }, { on := 0, ground := Ground.phase }, { on := 1, ground := Ground.phase }, { on := 2, ground := Ground.phase }, { on := 3, ground := Ground.textOnly Departure.lateStores }, { on := 4, ground := Ground.textOnly Departure.lateStores }, { on := 5, ground := Ground.textOnly Departure.lateStoresUnsure }, { on := 6, ground := Ground.phase }, { on := 7, ground := Ground.phase }], guard := none }) rfl (fun K hK => ?_) (AllReadyH.nil))
                        have hf0 := hxb.frozen 0; have hf1 := hxb.frozen 1; have hf2 := hxb.frozen 2; have hf3 := hxb.frozen 3
                        obtain ⟨z0, z1, z2, z3⟩ := hxb.four
                        go_simp
                        have hx0 := hxb
                        clear hf0 hf1 hf2 hf3 z0 z1 z2 z3
                        have hbel : Below _ _ ((((woc.setCell ⟨gb, 0, none⟩ (.int .i64 xc)).setCell ⟨gb, 1, none⟩ (.int .u64 xq)).setCell ⟨gb, 2, none⟩ (.int .i64 xe)).setCell ⟨gb, 3, none⟩ (.slice Ab xn.length cb)) := below_set4 hBE hglb (.int .i64 xc) (.int .u64 xq) (.int .i64 xe) (.slice Ab xn.length cb)
                        replace hob := hob.set4Box hx0 (by decide) (.int .i64 xc) (.int .u64 xq) (.int .i64 xe) (.slice Ab xn.length cb)
                        replace hxb := hxb.set4 (.int .i64 xc) (.int .u64 xq) (.int .i64 xe) (.slice Ab xn.length cb)
                        replace hxc := hxc.far4 (p := gb) (by omega) (.int .i64 xc) (.int .u64 xq) (.int .i64 xe) (.slice Ab xn.length cb)
                        replace hoc := hoc.set4Box hx0 (by decide) (.int .i64 xc) (.int .u64 xq) (.int .i64 xe) (.slice Ab xn.length cb)
                        obtain ⟨wsb, hnew⟩ : ∃ wsb : World, wsb = ((((woc.setCell ⟨gb, 0, none⟩ (.int .i64 xc)).setCell ⟨gb, 1, none⟩ (.int .u64 xq)).setCell ⟨gb, 2, none⟩ (.int .i64 xe)).setCell ⟨gb, 3, none⟩ (.slice Ab xn.length cb)) := ⟨_, rfl⟩
                        rw [← hnew] at hbel hob hxb hxc hoc ⊢
                        clear hnew
                        replace hBE := hbel
                        clear hbel
                        refine hK.out _ _ (HK.out _ hBE) (fun hHeld2 => ?_)
                        clear hK K hHeld
                        have hHeld := hHeld2
                        clear hHeld2
                        try simp only [Act.put, List.setIfInBounds_toArray, List.set_cons_zero, List.set_cons_succ]
                        refine wpAnyH_ready (rs := [9]) (by kernel_rfl) (by simp) (AllReadyH.cons (o := { dst := none, op := Op.store 42 (Operand.tmp 19) (Operand.tmp 131), type := 0, pos := "outright.go:43", after := #[{ on := 7, ground := Ground.data }, { on := 5, ground := Ground.data }, { on := 8, ground := Ground.chain }, { on := 0, ground := Ground.phase }, { on := 1, ground := Ground.phase }, { on := 2, ground := Ground.phase }, { on := 3, ground := Ground.phase }, { on := 4, ground := Ground.phase }, { on := 5, ground := Ground.phase }, { on := 6, ground := Ground.phase }, { on := 7, ground := Ground.phase }, { on := 8, ground := Ground.phase }], guard := none }) rfl (fun K hK => ?_) (AllReadyH.nil))
                        have hf0 := hxc.frozen 0; have hf1 := hxc.frozen 1; have hf2 := hxc.frozen 2; have hf3 := hxc.frozen 3
                        obtain ⟨z0, z1, z2, z3⟩ := hxc.four
                        go_simp
                        have hx0 := hxc
                        clear hf0 hf1 hf2 hf3 z0 z1 z2 z3
                        have hbel : Below _ _ ((((wsb.setCell ⟨gc, 0, none⟩ (.int .i64 yc)).setCell ⟨gc, 1, none⟩ (.int .u64 yq)).setCell ⟨gc, 2, none⟩ (.int .i64 ye)).setCell ⟨gc, 3, none⟩ (.slice Ac yn.length cc)) := below_set4 hBE hglc (.int .i64 yc) (.int .u64 yq) (.int .i64 ye) (.slice Ac yn.length cc)
                        replace hob := hob.set4Box hx0 (by decide) (.int .i64 yc) (.int .u64 yq) (.int .i64 ye) (.slice Ac yn.length cc)
                        replace hxb := hxb.far4 (p := gc) (by omega) (.int .i64 yc) (.int .u64 yq) (.int .i64 ye) (.slice Ac yn.length cc)
                        replace hxc := hxc.set4 (.int .i64 yc) (.int .u64 yq) (.int .i64 ye) (.slice Ac yn.length cc)
                        replace hoc := hoc.set4Box hx0 (by decide) (.int .i64 yc) (.int .u64 yq) (.int .i64 ye) (.slice Ac yn.length cc)
                        obtain ⟨wsc, hnew⟩ : ∃ wsc : World, wsc = ((((wsb.setCell ⟨gc, 0, none⟩ (.int .i64 yc)).setCell ⟨gc, 1, none⟩ (.int .u64 yq)).setCell ⟨gc, 2, none⟩ (.int .i64 ye)).setCell ⟨gc, 3, none⟩ (.slice Ac yn.length cc)) := ⟨_, rfl⟩
                        rw [← hnew] at hbel hob hxb hxc hoc ⊢
                        clear hnew
                        replace hBE := hbel
                        clear hbel
                        refine hK.out _ _ (HK.out _ hBE) (fun hHeld2 => ?_)
                        clear hK K hHeld
                        have hHeld := hHeld2
                        clear hHeld2
                        try simp only [Act.put, List.setIfInBounds_toArray, List.set_cons_zero, List.set_cons_succ]
                        refine wpAnyH_done (by kernel_rfl) ?_ _
                        go_wp2_with fail
                        go_meet
                        exact ⟨gb, gc, Ab, cb, Ac, cc, rfl, rfl, hxb, hxc, OwnN.nr hob, OwnN.nr hoc, hBE⟩
                    · go_simp
                      have hglc := hBE.size
                      try (have hlt0 := hxb.lt)
                      have hstep := new_below wob (.cells #[.int .i64 0, .int .u64 0, .int .i64 0, .slice none 0 0] 42)
                      have hxc := SBox.new wob 42 #[.int .i64 0, .int .u64 0, .int .i64 0, .slice none 0 0]
                      replace hBE := hBE.trans (hstep.mono hBE.size)
                      replace hob := hob.on hstep
                      obtain ⟨wlc, hnew⟩ : ∃ wlc : World, wlc = wob.alloc (.cells #[.int .i64 0, .int .u64 0, .int .i64 0, .slice none 0 0] 42) := ⟨_, rfl⟩
                      rw [← hnew] at hstep hBE hxc hob ⊢
                      clear hnew hstep
                      obtain ⟨gc, hgc⟩ : ∃ gc : Nat, gc = wob.heap.size := ⟨_, rfl⟩
                      rw [← hgc] at hxc hglc ⊢
                      try (rw [← hgc] at hlt0)
                      try (have hne : gb ≠ gc := by omega)
                      clear hgc
                      refine hK.out _ _ (HK.out _ hBE) (fun hHeld2 => ?_)
                      clear hK K hHeld
                      have hHeld := hHeld2
                      clear hHeld2
                      try simp only [Act.put, List.setIfInBounds_toArray, List.set_cons_zero, List.set_cons_succ]
                      refine wpAnyH_ready (rs := [5, 6]) (by kernel_rfl) (by simp) (AllReadyH.cons (o := { dst := some 131, op := Op.call { callee := Callee.value (Operand.func 20), args := #[Operand.tmp 129, Operand.tmp 130], argTypes := #[24, 3] }, type := 42, pos := "outright.go:43", after := #[{ on := 3, ground := Ground.data }, { on := 4, ground := Ground.data }, { on := 2, ground := Ground.chain }], guard := none }) rfl (fun K hK => ?_) (AllReadyH.cons (o := { dst := some 18, op := Op.alloc 42, type := 0, pos := "outright.go:43", after := #[], guard := none }) rfl (fun K hK => ?_) (AllReadyH.nil)))
                      · go_simp
                        go_at_call 20; (with_reducible refine (HOC'.out _ hBE).mono ?_)
                        rintro y woc ⟨⟨Ac, cc, rfl, hoc⟩, hstep⟩
                        replace hBE := hBE.trans (hstep.mono hBE.size)
                        replace hob := hob.on hstep
                        replace hxc := hxc.on hstep
                        replace hoc := hoc.mono (Nat.zero_le _)
                        unfold sesV
                        simp only
                        clear hstep
                        refine hK.out _ _ (HK.out _ hBE) (fun hHeld2 => ?_)
                        clear hK K hHeld
                        have hHeld := hHeld2
                        clear hHeld2
                        try simp only [Act.put, List.setIfInBounds_toArray, List.set_cons_zero, List.set_cons_succ]
                        refine wpAnyH_ready (rs := [6]) (by kernel_rfl) (by simp) (AllReadyH.cons (o := { dst := some 18, op := Op.alloc 42, type := 0, pos := "outright.go:43", after := #[], guard := none }) rfl (fun K hK => ?_) (AllReadyH.nil))
                        go_simp
                        have hglb := hBE.size
                        try (have hlt0 := hxc.lt)
                        have hstep := new_below woc (.cells #[.int .i64 0, .int .u64 0, .int .i64 0, .slice none 0 0] 42)
                        have hxb := SBox.new woc 42 #[.int .i64 0, .int .u64 0, .int .i64 0, .slice none 0 0]
                        replace hBE := hBE.trans (hstep.mono hBE.size)
                        replace hob := hob.on hstep
                        replace hxc := hxc.on hstep
                        replace hoc := hoc.on hstep
                        obtain ⟨wlb, hnew⟩ : ∃ wlb : World, wlb = woc.alloc (.cells #[.int .i64 0, .int .u64 0, .int .i64 0, .slice none 0 0] 42) := ⟨_, rfl⟩
                        rw [← hnew] at hstep hBE hxb hob hxc hoc ⊢
                        clear hnew hstep
                        obtain ⟨gb, hgb⟩ : ∃ gb : Nat, gb = woc.heap.size := ⟨_, rfl⟩
                        rw [← hgb] at hxb hglb ⊢
                        try (rw [← hgb] at hlt0)
                        try (have hne : gb ≠ gc := by omega)
                        clear hgb
                        refine hK.out _ _ (HK.out _ hBE) (fun hHeld2 => ?_)
                        clear hK K hHeld
                        have hHeld := hHeld2
                        clear hHeld2
                        try simp only [Act.put, List.setIfInBounds_toArray, List.set_cons_zero, List.set_cons_succ]
                        refine wpAnyH_ready (rs := [8]) (by kernel_rfl) (by simp) (AllReadyH.cons (o := { dst := none, op := Op.store 42 (Operand.tmp 18) (Operand.tmp 128), type := 0, pos := "outright.go:43", after := #[{ on := 6, ground := Ground.data }, { on := 2, ground := Ground.data }, { on := 5, ground := Ground.chain }, { on := 0, ground := Ground.phase }, { on := 1, ground := Ground.phase }, { on := 2, ground := Ground.phase }, { on := 3, ground := Ground.textOnly Departure.lateStores }, { on := 4, ground := Ground.textOnly Departure.lateStores }, { on := 5, ground := Ground.textOnly Departure.lateStoresUnsure }, { on := 6, ground := Ground.phase }, { on := 7, ground := Ground.phase }], guard := none }) rfl (fun K hK => ?_) (AllReadyH.nil))
                        have hf0 := hxb.frozen 0; have hf1 := hxb.frozen 1; have hf2 := hxb.frozen 2; have hf3 := hxb.frozen 3
                        obtain ⟨z0, z1, z2, z3⟩ := hxb.four
                        go_simp
                        have hx0 := hxb
                        clear hf0 hf1 hf2 hf3 z0 z1 z2 z3
                        have hbel : Below _ _ ((((wlb.setCell ⟨gb, 0, none⟩ (.int .i64 xc)).setCell ⟨gb, 1, none⟩ (.int .u64 xq)).setCell ⟨gb, 2, none⟩ (.int .i64 xe)).setCell ⟨gb, 3, none⟩ (.slice Ab xn.length cb)) := below_set4 hBE hglb (.int .i64 xc) (.int .u64 xq) (.int .i64 xe) (.slice Ab xn.length cb)
                        replace hob := hob.set4Box hx0 (by decide) (.int .i64 xc) (.int .u64 xq) (.int .i64 xe) (.slice Ab xn.length cb)
                        replace hxc := hxc.far4 (p := gb) (by omega) (.int .i64 xc) (.int .u64 xq) (.int .i64 xe) (.slice Ab xn.length cb)
                        replace hoc := hoc.set4Box hx0 (by decide) (.int .i64 xc) (.int .u64 xq) (.int .i64 xe) (.slice Ab xn.length cb)
                        replace hxb := hxb.set4 (.int .i64 xc) (.int .u64 xq) (.int .i64 xe) (.slice Ab xn.length cb)
                        obtain ⟨wsb, hnew⟩ : ∃ wsb : World, wsb = ((((wlb.setCell ⟨gb, 0, none⟩ (.int .i64 xc)).setCell ⟨gb, 1, none⟩ (.int .u64 xq)).setCell ⟨gb, 2, none⟩ (.int .i64 xe)).setCell ⟨gb, 3, none⟩ (.slice Ab xn.length cb)) := ⟨_, rfl⟩
                        rw [← hnew] at hbel hob hxc hoc hxb ⊢
                        clear hnew
                        replace hBE := hbel
                        clear hbel
                        refine hK.out _ _ (HK.out _ hBE) (fun hHeld2 => ?_)
                        clear hK K hHeld
                        have hHeld := hHeld2
                        clear hHeld2
                        try simp only [Act.put, List.setIfInBounds_toArray, List.set_cons_zero, List.set_cons_succ]
                        refine wpAnyH_ready (rs := [9]) (by kernel_rfl) (by simp) (AllReadyH.cons (o := { dst := none, op := Op.store 42 (Operand.tmp 19) (Operand.tmp 131), type := 0, pos := "outright.go:43", after := #[{ on := 7, ground := Ground.data }, { on := 5, ground := Ground.data }, { on := 8, ground := Ground.chain }, { on := 0, ground := Ground.phase }, { on := 1, ground := Ground.phase }, { on := 2, ground := Ground.phase }, { on := 3, ground := Ground.phase }, { on := 4, ground := Ground.phase }, { on := 5, ground := Ground.phase }, { on := 6, ground := Ground.phase }, { on := 7, ground := Ground.phase }, { on := 8, ground := Ground.phase }], guard := none }) rfl (fun K hK => ?_) (AllReadyH.nil))
                        have hf0 := hxc.frozen 0; have hf1 := hxc.frozen 1; have hf2 := hxc.frozen 2; have hf3 := hxc.frozen 3
                        obtain ⟨z0, z1, z2, z3⟩ := hxc.four
                        go_simp
                        have hx0 := hxc
                        clear hf0 hf1 hf2 hf3 z0 z1 z2 z3
                        have hbel : Below _ _ ((((wsb.setCell ⟨gc, 0, none⟩ (.int .i64 yc)).setCell ⟨gc, 1, none⟩ (.int .u64 yq)).setCell ⟨gc, 2, none⟩ (.int .i64 ye)).setCell ⟨gc, 3, none⟩ (.slice Ac yn.length cc)) := below_set4 hBE hglc (.int .i64 yc) (.int .u64 yq) (.int .i64 ye) (.slice Ac yn.length cc)
                        replace hob := hob.set4Box hx0 (by decide) (.int .i64 yc) (.int .u64 yq) (.int .i64 ye) (.slice Ac yn.length cc)
                        replace hxc := hxc.set4 (.int .i64 yc) (.int .u64 yq) (.int .i64 ye) (.slice Ac yn.length cc)
                        replace hoc := hoc.set4Box hx0 (by decide) (.int .i64 yc) (.int .u64 yq) (.int .i64 ye) (.slice Ac yn.length cc)
                        replace hxb := hxb.far4 (p := gc) (by omega) (.int .i64 yc) (.int .u64 yq) (.int .i64 ye) (.slice Ac yn.length cc)
                        obtain ⟨wsc, hnew⟩ : ∃ wsc : World, wsc = ((((wsb.setCell ⟨gc, 0, none⟩ (.int .i64 yc)).setCell ⟨gc, 1, none⟩ (.int .u64 yq)).setCell ⟨gc, 2, none⟩ (.int .i64 ye)).setCell ⟨gc, 3, none⟩ (.slice Ac yn.length cc)) := ⟨_, rfl⟩
                        rw [← hnew] at hbel hob hxc hoc hxb ⊢
                        clear hnew
                        replace hBE := hbel
                        clear hbel
                        refine hK.out _ _ (HK.out _ hBE) (fun hHeld2 => ?_)
                        clear hK K hHeld
                        have hHeld := hHeld2
                        clear hHeld2
                        try simp only [Act.put, List.setIfInBounds_toArray, List.set_cons_zero, List.set_cons_succ]
                        refine wpAnyH_done (by kernel_rfl) ?_ _
                        go_wp2_with fail
                        go_meet
                        exact ⟨gb, gc, Ab, cb, Ac, cc, rfl, rfl, hxb, hxc, OwnN.nr hob, OwnN.nr hoc, hBE⟩
                      · go_simp
                        have hglb := hBE.size
                        try (have hlt0 := hxc.lt)
                        have hstep := new_below wlc (.cells #[.int .i64 0, .int .u64 0, .int .i64 0, .slice none 0 0] 42)
                        have hxb := SBox.new wlc 42 #[.int .i64 0, .int .u64 0, .int .i64 0, .slice none 0 0]
                        replace hBE := hBE.trans (hstep.mono hBE.size)
                        replace hob := hob.on hstep
                        replace hxc := hxc.on hstep
                        obtain ⟨wlb, hnew⟩ : ∃ wlb : World, wlb = wlc.alloc (.cells #[.int .i64 0, .int .u64 0, .int .i64 0, .slice none 0 0] 42) := ⟨_, rfl⟩
                        rw [← hnew] at hstep hBE hxb hob hxc ⊢
                        clear hnew hstep
                        obtain ⟨gb, hgb⟩ : ∃ gb : Nat, gb = wlc.heap.size := ⟨_, rfl⟩
                        rw [← hgb] at hxb hglb ⊢
                        try (rw [← hgb] at hlt0)
                        try (have hne : gb ≠ gc := by omega)
                        clear hgb
                        refine hK.out _ _ (HK.out _ hBE) (fun hHeld2 => ?_)
                        clear hK K hHeld
                        have hHeld := hHeld2
                        clear hHeld2
                        try simp only [Act.put, List.setIfInBounds_toArray, List.set_cons_zero, List.set_cons_succ]
                        refine wpAnyH_ready (rs := [5]) (by kernel_rfl) (by simp) (AllReadyH.cons (o := { dst := some 131, op := Op.call { callee := Callee.value (Operand.func 20), args := #[Operand.tmp 129, Operand.tmp 130], argTypes := #[24, 3] }, type := 42, pos := "outright.go:43", after := #[{ on := 3, ground := Ground.data }, { on := 4, ground := Ground.data }, { on := 2, ground := Ground.chain }], guard := none }) rfl (fun K hK => ?_) (AllReadyH.nil))
                        go_simp
                        go_at_call 20; (with_reducible refine (HOC'.out _ hBE).mono ?_)
                        rintro y woc ⟨⟨Ac, cc, rfl, hoc⟩, hstep⟩
                        replace hBE := hBE.trans (hstep.mono hBE.size)
                        replace hob := hob.on hstep
                        replace hxc := hxc.on hstep
                        replace hxb := hxb.on hstep
                        replace hoc := hoc.mono (Nat.zero_le _)
                        unfold sesV
                        simp only
                        clear hstep
                        refine hK.out _ _ (HK.out _ hBE) (fun hHeld2 => ?_)
                        clear hK K hHeld
                        have hHeld := hHeld2
                        clear hHeld2
                        try simp only [Act.put, List.setIfInBounds_toArray, List.set_cons_zero, List.set_cons_succ]
                        refine wpAnyH_ready (rs := [8]) (by kernel_rfl) (by simp) (AllReadyH.cons (o := { dst := none, op := Op.store 42 (Operand.tmp 18) (Operand.tmp 128), type := 0, pos := "outright.go:43", after := #[{ on := 6, ground := Ground.data }, { on := 2, ground := Ground.data }, { on := 5, ground := Ground.chain }, { on := 0, ground := Ground.phase }, { on := 1, ground := Ground.phase }, { on := 2, ground := Ground.phase }, { on := 3, ground := Ground.textOnly Departure.lateStores }, { on := 4, ground := Ground.textOnly Departure.lateStores }, { on := 5, ground := Ground.textOnly Departure.lateStoresUnsure }, { on := 6, ground := Ground.phase }, { on := 7, ground := Ground.phase }], guard := none }) rfl (fun K hK => ?_) (AllReadyH.nil))
                        have hf0 := hxb.frozen 0; have hf1 := hxb.frozen 1; have hf2 := hxb.frozen 2; have hf3 := hxb.frozen 3
                        obtain ⟨z0, z1, z2, z3⟩ := hxb.four
                        go_simp
                        have hx0 := hxb
                        clear hf0 hf1 hf2 hf3 z0 z1 z2 z3
                        have hbel : Below _ _ ((((woc.setCell ⟨gb, 0, none⟩ (.int .i64 xc)).setCell ⟨gb, 1, none⟩ (.int .u64 xq)).setCell ⟨gb, 2, none⟩ (.int .i64 xe)).setCell ⟨gb, 3, none⟩ (.slice Ab xn.length cb)) := below_set4 hBE hglb (.int .i64 xc) (.int .u64 xq) (.int .i64 xe) (.slice Ab xn.length cb)
                        replace hob := hob.set4Box hx0 (by decide) (.int .i64 xc) (.int .u64 xq) (.int .i64 xe) (.slice Ab xn.length cb)
                        replace hxc := hxc.far4 (p := gb) (by omega) (.int .i64 xc) (.int .u64 xq) (.int .i64 xe) (.slice Ab xn.length cb)
                        replace hxb := hxb.set4 (.int .i64 xc) (.int .u64 xq) (.int .i64 xe) (.slice Ab xn.length cb)
                        replace hoc := hoc.set4Box hx0 (by decide) (.int .i64 xc) (.int .u64 xq) (.int .i64 xe) (.slice Ab xn.length cb)
                        obtain ⟨wsb, hnew⟩ : ∃ wsb : World, wsb = ((((woc.setCell ⟨gb, 0, none⟩ (.int .i64 xc)).setCell ⟨gb, 1, none⟩ (.int .u64 xq)).setCell ⟨gb, 2, none⟩ (.int .i64 xe)).setCell ⟨gb, 3, none⟩ (.slice Ab xn.length cb)) := ⟨_, rfl⟩
                        rw [← hnew] at hbel hob hxc hxb hoc ⊢
                        clear hnew
                        replace hBE := hbel
                        clear hbel
                        refine hK.out _ _ (HK.out _ hBE) (fun hHeld2 => ?_)
                        clear hK K hHeld
                        have hHeld := hHeld2
                        clear hHeld2
                        try simp only [Act.put, List.setIfInBounds_toArray, List.set_cons_zero, List.set_cons_succ]
                        refine wpAnyH_ready (rs := [9]) (by kernel_rfl) (by simp) (AllReadyH.cons (o := { dst := none, op := Op.store 42 (Operand.tmp 19) (Operand.tmp 131), type := 0, pos := "outright.go:43", after := #[{ on := 7, ground := Ground.data }, { on := 5, ground := Ground.data }, { on := 8, ground := Ground.chain }, { on := 0, ground := Ground.phase }, { on := 1, ground := Ground.phase }, { on := 2, ground := Ground.phase }, { on := 3, ground := Ground.phase }, { on := 4, ground := Ground.phase }, { on := 5, ground := Ground.phase }, { on := 6, ground := Ground.phase }, { on := 7, ground := Ground.phase }, { on := 8, ground := Ground.phase }], guard := none }) rfl (fun K hK => ?_) (AllReadyH.nil))
                        have hf0 := hxc.frozen 0; have hf1 := hxc.frozen 1; have hf2 := hxc.frozen 2; have hf3 := hxc.frozen 3
                        obtain ⟨z0, z1, z2, z3⟩ := hxc.four
                        go_simp
                        have hx0 := hxc
                        clear hf0 hf1 hf2 hf3 z0 z1 z2 z3
                        have hbel : Below _ _ ((((wsb.setCell ⟨gc, 0, none⟩ (.int .i64 yc)).setCell ⟨gc, 1, none⟩ (.int .u64 yq)).setCell ⟨gc, 2, none⟩ (.int .i64 ye)).setCell ⟨gc, 3, none⟩ (.slice Ac yn.length cc)) := below_set4 hBE hglc (.int .i64 yc) (.int .u64 yq) (.int .i64 ye) (.slice Ac yn.length cc)
                        replace hob := hob.set4Box hx0 (by decide) (.int .i64 yc) (.int .u64 yq) (.int .i64 ye) (.slice Ac yn.length cc)
                        replace hxc := hxc.set4 (.int .i64 yc) (.int .u64 yq) (.int .i64 ye) (.slice Ac yn.length cc)
                        replace hxb := hxb.far4 (p := gc) (by omega) (.int .i64 yc) (.int .u64 yq) (.int .i64 ye) (.slice Ac yn.length cc)
                        replace hoc := hoc.set4Box hx0 (by decide) (.int .i64 yc) (.int .u64 yq) (.int .i64 ye) (.slice Ac yn.length cc)
                        obtain ⟨wsc, hnew⟩ : ∃ wsc : World, wsc = ((((wsb.setCell ⟨gc, 0, none⟩ (.int .i64 yc)).setCell ⟨gc, 1, none⟩ (.int .u64 yq)).setCell ⟨gc, 2, none⟩ (.int .i64 ye)).setCell ⟨gc, 3, none⟩ (.slice Ac yn.length cc)) := ⟨_, rfl⟩
                        rw [← hnew] at hbel hob hxc hxb hoc ⊢
                        clear hnew
                        replace hBE := hbel
                        clear hbel
                        refine hK.out _ _ (HK.out _ hBE) (fun hHeld2 => ?_)
                        clear hK K hHeld
                        have hHeld := hHeld2
                        clear hHeld2
                        try simp only [Act.put, List.setIfInBounds_toArray, List.set_cons_zero, List.set_cons_succ]
                        refine wpAnyH_done (by kernel_rfl) ?_ _
                        go_wp2_with fail
                        go_meet
                        exact ⟨gb, gc, Ab, cb, Ac, cc, rfl, rfl, hxb, hxc, OwnN.nr hob, OwnN.nr hoc, hBE⟩
                  · go_simp
                    have hglb := hBE.size
                    try (have hlt0 := hxc.lt)
                    have hstep := new_below w0r (.cells #[.int .i64 0, .int .u64 0, .int .i64 0, .slice none 0 0] 42)
                    have hxb := SBox.new w0r 42 #[.int .i64 0, .int .u64 0, .int .i64 0, .slice none 0 0]
                    replace hBE := hBE.trans (hstep.mono hBE.size)
                    obtain ⟨wlb, hnew⟩ : ∃ wlb : World, wlb = w0r.alloc (.cells #[.int .i64 0, .int .u64 0, .int .i64 0, .slice none 0 0] 42) := ⟨_, rfl⟩
                    rw [← hnew] at hstep hBE hxb  ⊢
                    clear hnew hstep
                    obtain ⟨gb, hgb⟩ : ∃ gb : Nat, gb = w0r.heap.size := ⟨_, rfl⟩
                    rw [← hgb] at hxb hglb ⊢
                    try (rw [← hgb] at hlt0)
                    try (have hne : gb ≠ gc := by omega)
                    clear hgb
                    refine hK.out _ _ (HK.out _ hBE) (fun hHeld2 => ?_)
                    clear hK K hHeld
                    have hHeld := hHeld2
                    clear hHeld2
                    try simp only [Act.put, List.setIfInBounds_toArray, List.set_cons_zero, List.set_cons_succ]
                    refine wpAnyH_ready (rs := [2, 7]) (by kernel_rfl) (by simp) (AllReadyH.cons (o := { dst := some 128, op := Op.call { callee := Callee.value (Operand.func 20), args := #[Operand.tmp 126, Operand.tmp 127], argTypes := #[24, 3] }, type := 42, pos := "outright.go:43", after := #[{ on := 0, ground := Ground.data }, { on := 1, ground := Ground.data }], guard := none }) rfl (fun K hK => ?_) (AllReadyH.cons (o := { dst := some 19, op := Op.alloc 42, type := 0, pos := "outright.go:43", after := #[], guard := none }) rfl (fun K hK => ?_) (AllReadyH.nil)))
                    · go_simp
                      go_at_call 20; (with_reducible refine (HOB'.out _ hBE).mono ?_)
                      rintro y wob ⟨⟨Ab, cb, rfl, hob⟩, hstep⟩
                      replace hBE := hBE.trans (hstep.mono hBE.size)
                      replace hxb := hxb.on hstep
                      replace hob := hob.mono (Nat.zero_le _)
                      unfold sesV
                      simp only
                      clear hstep
                      refine hK.out _ _ (HK.out _ hBE) (fun hHeld2 => ?_)
                      clear hK K hHeld
                      have hHeld := hHeld2
                      clear hHeld2
                      try simp only [Act.put, List.setIfInBounds_toArray, List.set_cons_zero, List.set_cons_succ]
                      refine wpAnyH_ready (rs := [5, 7]) (by kernel_rfl) (by simp) (AllReadyH.cons (o := { dst := some 131, op := Op.call { callee := Callee.value (Operand.func 20), args := #[Operand.tmp 129, Operand.tmp 130], argTypes := #[24, 3] }, type := 42, pos := "outright.go:43", after := #[{ on := 3, ground := Ground.data }, { on := 4, ground := Ground.data }, { on := 2, ground := Ground.chain }], guard := none }) rfl (fun K hK => ?_) (AllReadyH.cons (o := { dst := some 19, op := Op.alloc 42, type := 0, pos := "outright.go:43", after := #[], guard := none }) rfl (fun K hK => ?_) (AllReadyH.nil)))
                      · go_simp
                        go_at_call 20; (with_reducible refine (HOC'.out _ hBE).mono ?_)
                        rintro y woc ⟨⟨Ac, cc, rfl, hoc⟩, hstep⟩
                        replace hBE := hBE.trans (hstep.mono hBE.size)
                        replace hxb := hxb.on hstep
                        replace hob := hob.on hstep
                        replace hoc := hoc.mono (Nat.zero_le _)
                        unfold sesV
                        simp only
                        clear hstep
                        refine hK.out _ _ (HK.out _ hBE) (fun hHeld2 => ?_)
                        clear hK K hHeld
                        have hHeld := hHeld2
                        clear hHeld2
                        try simp only [Act.put, List.setIfInBounds_toArray, List.set_cons_zero, List.set_cons_succ]
                        refine wpAnyH_ready (rs := [7]) (by kernel_rfl) (by simp) (AllReadyH.cons (o := { dst := some 19, op := Op.alloc 42, type := 0, pos := "outright.go:43", after := #[], guard := none }) rfl (fun K hK => ?_) (AllReadyH.nil))
                        go_simp
                        have hglc := hBE.size
                        try (have hlt0 := hxb.lt)
                        have hstep := new_below woc (.cells #[.int .i64 0, .int .u64 0, .int .i64 0, .slice none 0 0] 42)
                        have hxc := SBox.new woc 42 #[.int .i64 0, .int .u64 0, .int .i64 0, .slice none 0 0]
                        replace hBE := hBE.trans (hstep.mono hBE.size)
                        replace hxb := hxb.on hstep
                        replace hob := hob.on hstep
                        replace hoc := hoc.on hstep
                        obtain ⟨wlc, hnew⟩ : ∃ wlc : World, wlc = woc.alloc (.cells #[.int .i64 0, .int .u64 0, .int .i64 0, .slice none 0 0] 42) := ⟨_, rfl⟩
                        rw [← hnew] at hstep hBE hxc hxb hob hoc ⊢
                        clear hnew hstep
                        obtain ⟨gc, hgc⟩ : ∃ gc : Nat, gc = woc.heap.size := ⟨_, rfl⟩
                        rw [← hgc] at hxc hglc ⊢
                        try (rw [← hgc] at hlt0)
                        try (have hne : gb ≠ gc := by omega)
                        clear hgc
                        refine hK.out _ _ (HK.out _ hBE) (fun hHeld2 => ?_)
                        clear hK K hHeld
                        have hHeld := hHeld2
                        clear hHeld2
                        try simp only [Act.put, List.setIfInBounds_toArray, List.set_cons_zero, List.set_cons_succ]
                        refine wpAnyH_ready (rs := [8]) (by kernel_rfl) (by simp) (AllReadyH.cons (o := { dst := none, op := Op.store 42 (Operand.tmp 18) (Operand.tmp 128), type := 0, pos := "outright.go:43", after := #[{ on := 6, ground := Ground.data }, { on := 2, ground := Ground.data }, { on := 5, ground := Ground.chain }, { on := 0, ground := Ground.phase }, { on := 1, ground := Ground.phase }, { on := 2, ground := Ground.phase }, { on := 3, ground := Ground.textOnly Departure.lateStores }, { on := 4, ground := Ground.textOnly Departure.lateStores }, { on := 5, ground := Ground.textOnly Departure.lateStoresUnsure }, { on := 6, ground := Ground.phase }, { on := 7, ground := Ground.phase }], guard := none }) rfl (fun K hK => ?_) (AllReadyH.nil))
                        have hf0 := hxb.frozen 0; have hf1 := hxb.frozen 1; have hf2 := hxb.frozen 2; have hf3 := hxb.frozen 3
                        obtain ⟨z0, z1, z2, z3⟩ := hxb.four
                        go_simp
                        have hx0 := hxb
                        clear hf0 hf1 hf2 hf3 z0 z1 z2 z3
                        have hbel : Below _ _ ((((wlc.setCell ⟨gb, 0, none⟩ (.int .i64 xc)).setCell ⟨gb, 1, none⟩ (.int .u64 xq)).setCell ⟨gb, 2, none⟩ (.int .i64 xe)).setCell ⟨gb, 3, none⟩ (.slice Ab xn.length cb)) := below_set4 hBE hglb (.int .i64 xc) (.int .u64 xq) (.int .i64 xe) (.slice Ab xn.length cb)
                        replace hxb := hxb.set4 (.int .i64 xc) (.int .u64 xq) (.int .i64 xe) (.slice Ab xn.length cb)
                        replace hob := hob.set4Box hx0 (by decide) (.int .i64 xc) (.int .u64 xq) (.int .i64 xe) (.slice Ab xn.length cb)
                        replace hoc := hoc.set4Box hx0 (by decide) (.int .i64 xc) (.int .u64 xq) (.int .i64 xe) (.slice Ab xn.length cb)
                        replace hxc := hxc.far4 (p := gb) (by omega) (.int .i64 xc) (.int .u64 xq) (.int .i64 xe) (.slice Ab xn.length cb)
                        obtain ⟨wsb, hnew⟩ : ∃ wsb : World, wsb = ((((wlc.setCell ⟨gb, 0, none⟩ (.int .i64 xc)).setCell ⟨gb, 1, none⟩ (.int .u64 xq)).setCell ⟨gb, 2, none⟩ (.int .i64 xe)).setCell ⟨gb, 3, none⟩ (.slice Ab xn.length cb)) := ⟨_, rfl⟩
                        rw [← hnew] at hbel hxb hob hoc hxc ⊢
                        clear hnew
                        replace hBE := hbel
                        clear hbel
                        refine hK.out _ _ (HK.out _ hBE) (fun hHeld2 => ?_)
                        clear hK K hHeld
                        have hHeld := hHeld2
                        clear hHeld2
                        try simp only [Act.put, List.setIfInBounds_toArray, List.set_cons_zero, List.set_cons_succ]
                        refine wpAnyH_ready (rs := [9]) (by kernel_rfl) (by simp) (AllReadyH.cons (o := { dst := none, op := Op.store 42 (Operand.tmp 19) (Operand.tmp 131), type := 0, pos := "outright.go:43", after := #[{ on := 7, ground := Ground.data }, { on := 5, ground := Ground.data }, { on := 8, ground := Ground.chain }, { on := 0, ground := Ground.phase }, { on := 1, ground := Ground.phase }, { on := 2, ground := Ground.phase }, { on := 3, ground := Ground.phase }, { on := 4, ground := Ground.phase }, { on := 5, ground := Ground.phase }, { on := 6, ground := Ground.phase }, { on := 7, ground := Ground.phase }, { on := 8, ground := Ground.phase }], guard := none }) rfl (fun K hK => ?_) (AllReadyH.nil))
                        have hf0 := hxc.frozen 0; have hf1 := hxc.frozen 1; have hf2 := hxc.frozen 2; have hf3 := hxc.frozen 3
                        obtain ⟨z0, z1, z2, z3⟩ := hxc.four
                        go_simp
                        have hx0 := hxc
                        clear hf0 hf1 hf2 hf3 z0 z1 z2 z3
                        have hbel : Below _ _ ((((wsb.setCell ⟨gc, 0, none⟩ (.int .i64 yc)).setCell ⟨gc, 1, none⟩ (.int .u64 yq)).setCell ⟨gc, 2, none⟩ (.int .i64 ye)).setCell ⟨gc, 3, none⟩ (.slice Ac yn.length cc)) := below_set4 hBE hglc (.int .i64 yc) (.int .u64 yq) (.int .i64 ye) (.slice Ac yn.length cc)
                        replace hxb := hxb.far4 (p := gc) (by omega) (.int .i64 yc) (.int .u64 yq) (.int .i64 ye) (.slice Ac yn.length cc)
                        replace hob := hob.set4Box hx0 (by decide) (.int .i64 yc) (.int .u64 yq) (.int .i64 ye) (.slice Ac yn.length cc)
                        replace hoc := hoc.set4Box hx0 (by decide) (.int .i64 yc) (.int .u64 yq) (.int .i64 ye) (.slice Ac yn.length cc)
                        replace hxc := hxc.set4 (.int .i64 yc) (.int .u64 yq) (.int .i64 ye) (.slice Ac yn.length cc)
                        obtain ⟨wsc, hnew⟩ : ∃ wsc : World, wsc = ((((wsb.setCell ⟨gc, 0, none⟩ (.int .i64 yc)).setCell ⟨gc, 1, none⟩ (.int .u64 yq)).setCell ⟨gc, 2, none⟩ (.int .i64 ye)).setCell ⟨gc, 3, none⟩ (.slice Ac yn.length cc)) := ⟨_, rfl⟩
                        rw [← hnew] at hbel hxb hob hoc hxc ⊢
                        clear hnew
                        replace hBE := hbel
                        clear hbel
                        refine hK.out _ _ (HK.out _ hBE) (fun hHeld2 => ?_)
                        clear hK K hHeld
                        have hHeld := hHeld2
                        clear hHeld2
                        try simp only [Act.put, List.setIfInBounds_toArray, List.set_cons_zero, List.set_cons_succ]
                        refine wpAnyH_done (by kernel_rfl) ?_ _
                        go_wp2_with fail
                        go_meet
                        exact ⟨gb, gc, Ab, cb, Ac, cc, rfl, rfl, hxb, hxc, OwnN.nr hob, OwnN.nr hoc, hBE⟩
                      · go_simp
                        have hglc := hBE.size
                        try (have hlt0 := hxb.lt)
                        have hstep := new_below wob (.cells #[.int .i64 0, .int .u64 0, .int .i64 0, .slice none 0 0] 42)
                        have hxc := SBox.new wob 42 #[.int .i64 0, .int .u64 0, .int .i64 0, .slice none 0 0]
                        replace hBE := hBE.trans (hstep.mono hBE.size)
                        replace hxb := hxb.on hstep
                        replace hob := hob.on hstep
                        obtain ⟨wlc, hnew⟩ : ∃ wlc : World, wlc = wob.alloc (.cells #[.int .i64 0, .int .u64 0, .int .i64 0, .slice none 0 0] 42) := ⟨_, rfl⟩
                        rw [← hnew] at hstep hBE hxc hxb hob ⊢
                        clear hnew hstep
                        obtain ⟨gc, hgc⟩ : ∃ gc : Nat, gc = wob.heap.size := ⟨_, rfl⟩
                        rw [← hgc] at hxc hglc ⊢
                        try (rw [← hgc] at hlt0)
                        try (have hne : gb ≠ gc := by omega)
                        clear hgc
                        refine hK.out _ _ (HK.out _ hBE) (fun hHeld2 => ?_)
                        clear hK K hHeld
                        have hHeld := hHeld2
                        clear hHeld2
                        try simp only [Act.put, List.setIfInBounds_toArray, List.set_cons_zero, List.set_cons_succ]
                        refine wpAnyH_ready (rs := [5]) (by kernel_rfl) (by simp) (AllReadyH.cons (o := { dst := some 131, op := Op.call { callee := Callee.value (Operand.func 20), args := #[Operand.tmp 129, Operand.tmp 130], argTypes := #[24, 3] }, type := 42, pos := "outright.go:43", after := #[{ on := 3, ground := Ground.data }, { on := 4, ground := Ground.data }, { on := 2, ground := Ground.chain }], guard := none }) rfl (fun K hK => ?_) (AllReadyH.nil))
                        go_simp
                        go_at_call 20; (with_reducible refine (HOC'.out _ hBE).mono ?_)
                        rintro y woc ⟨⟨Ac, cc, rfl, hoc⟩, hstep⟩
                        replace hBE := hBE.trans (hstep.mono hBE.size)
                        replace hxb := hxb.on hstep
                        replace hob := hob.on hstep
                        replace hxc := hxc.on hstep
                        replace hoc := hoc.mono (Nat.zero_le _)
                        unfold sesV
                        simp only
                        clear hstep
                        refine hK.out _ _ (HK.out _ hBE) (fun hHeld2 => ?_)
                        clear hK K hHeld
                        have hHeld := hHeld2
                        clear hHeld2
                        try simp only [Act.put, List.setIfInBounds_toArray, List.set_cons_zero, List.set_cons_succ]
                        refine wpAnyH_ready (rs := [8]) (by kernel_rfl) (by simp) (AllReadyH.cons (o := { dst := none, op := Op.store 42 (Operand.tmp 18) (Operand.tmp 128), type := 0, pos := "outright.go:43", after := #[{ on := 6, ground := Ground.data }, { on := 2, ground := Ground.data }, { on := 5, ground := Ground.chain }, { on := 0, ground := Ground.phase }, { on := 1, ground := Ground.phase }, { on := 2, ground := Ground.phase }, { on := 3, ground := Ground.textOnly Departure.lateStores }, { on := 4, ground := Ground.textOnly Departure.lateStores }, { on := 5, ground := Ground.textOnly Departure.lateStoresUnsure }, { on := 6, ground := Ground.phase }, { on := 7, ground := Ground.phase }], guard := none }) rfl (fun K hK => ?_) (AllReadyH.nil))
                        have hf0 := hxb.frozen 0; have hf1 := hxb.frozen 1; have hf2 := hxb.frozen 2; have hf3 := hxb.frozen 3
                        obtain ⟨z0, z1, z2, z3⟩ := hxb.four
                        go_simp
                        have hx0 := hxb
                        clear hf0 hf1 hf2 hf3 z0 z1 z2 z3
                        have hbel : Below _ _ ((((woc.setCell ⟨gb, 0, none⟩ (.int .i64 xc)).setCell ⟨gb, 1, none⟩ (.int .u64 xq)).setCell ⟨gb, 2, none⟩ (.int .i64 xe)).setCell ⟨gb, 3, none⟩ (.slice Ab xn.length cb)) := below_set4 hBE hglb (.int .i64 xc) (.int .u64 xq) (.int .i64 xe) (.slice Ab xn.length cb)
                        replace hxb := hxb.set4 (.int .i64 xc) (.int .u64 xq) (.int .i64 xe) (.slice Ab xn.length cb)
                        replace hob := hob.set4Box hx0 (by decide) (.int .i64 xc) (.int .u64 xq) (.int .i64 xe) (.slice Ab xn.length cb)
                        replace hxc := hxc.far4 (p := gb) (by omega) (.int .i64 xc) (.int .u64 xq) (.int .i64 xe) (.slice Ab xn.length cb)
                        replace hoc := hoc.set4Box hx0 (by decide) (.int .i64 xc) (.int .u64 xq) (.int .i64 xe) (.slice Ab xn.length cb)
                        obtain ⟨wsb, hnew⟩ : ∃ wsb : World, wsb = ((((woc.setCell ⟨gb, 0, none⟩ (.int .i64 xc)).setCell ⟨gb, 1, none⟩ (.int .u64 xq)).setCell ⟨gb, 2, none⟩ (.int .i64 xe)).setCell ⟨gb, 3, none⟩ (.slice Ab xn.length cb)) := ⟨_, rfl⟩
                        rw [← hnew] at hbel hxb hob hxc hoc ⊢
                        clear hnew
                        replace hBE := hbel
                        clear hbel
                        refine hK.out _ _ (HK.out _ hBE) (fun hHeld2 => ?_)
                        clear hK K hHeld
                        have hHeld := hHeld2
                        clear hHeld2
                        try simp only [Act.put, List.setIfInBounds_toArray, List.set_cons_zero, List.set_cons_succ]
                        refine wpAnyH_ready (rs := [9]) (by kernel_rfl) (by simp) (AllReadyH.cons (o := { dst := none, op := Op.store 42 (Operand.tmp 19) (Operand.tmp 131), type := 0, pos := "outright.go:43", after := #[{ on := 7, ground := Ground.data }, { on := 5, ground := Ground.data }, { on := 8, ground := Ground.chain }, { on := 0, ground := Ground.phase }, { on := 1, ground := Ground.phase }, { on := 2, ground := Ground.phase }, { on := 3, ground := Ground.phase }, { on := 4, ground := Ground.phase }, { on := 5, ground := Ground.phase }, { on := 6, ground := Ground.phase }, { on := 7, ground := Ground.phase }, { on := 8, ground := Ground.phase }], guard := none }) rfl (fun K hK => ?_) (AllReadyH.nil))
                        have hf0 := hxc.frozen 0; have hf1 := hxc.frozen 1; have hf2 := hxc.frozen 2; have hf3 := hxc.frozen 3
                        obtain ⟨z0, z1, z2, z3⟩ := hxc.four
                        go_simp
                        have hx0 := hxc
                        clear hf0 hf1 hf2 hf3 z0 z1 z2 z3
                        have hbel : Below _ _ ((((wsb.setCell ⟨gc, 0, none⟩ (.int .i64 yc)).setCell ⟨gc, 1, none⟩ (.int .u64 yq)).setCell ⟨gc, 2, none⟩ (.int .i64 ye)).setCell ⟨gc, 3, none⟩ (.slice Ac yn.length cc)) := below_set4 hBE hglc (.int .i64 yc) (.int .u64 yq) (.int .i64 ye) (.slice Ac yn.length cc)
                        replace hxb := hxb.far4 (p := gc) (by omega) (.int .i64 yc) (.int .u64 yq) (.int .i64 ye) (.slice Ac yn.length cc)
                        replace hob := hob.set4Box hx0 (by decide) (.int .i64 yc) (.int .u64 yq) (.int .i64 ye) (.slice Ac yn.length cc)
                        replace hxc := hxc.set4 (.int .i64 yc) (.int .u64 yq) (.int .i64 ye) (.slice Ac yn.length cc)
                        replace hoc := hoc.set4Box hx0 (by decide) (.int .i64 yc) (.int .u64 yq) (.int .i64 ye) (.slice Ac yn.length cc)
                        obtain ⟨wsc, hnew⟩ : ∃ wsc : World, wsc = ((((wsb.setCell ⟨gc, 0, none⟩ (.int .i64 yc)).setCell ⟨gc, 1, none⟩ (.int .u64 yq)).setCell ⟨gc, 2, none⟩ (.int .i64 ye)).setCell ⟨gc, 3, none⟩ (.slice Ac yn.length cc)) := ⟨_, rfl⟩
                        rw [← hnew] at hbel hxb hob hxc hoc ⊢
                        clear hnew
                        replace hBE := hbel
                        clear hbel
                        refine hK.out _ _ (HK.out _ hBE) (fun hHeld2 => ?_)
                        clear hK K hHeld
                        have hHeld := hHeld2
                        clear hHeld2
                        try simp only [Act.put, List.setIfInBounds_toArray, List.set_cons_zero, List.set_cons_succ]
                        refine wpAnyH_done (by kernel_rfl) ?_ _
                        go_wp2_with fail
                        go_meet
                        exact ⟨gb, gc, Ab, cb, Ac, cc, rfl, rfl, hxb, hxc, OwnN.nr hob, OwnN.nr hoc, hBE⟩
                    · go_simp
                      have hglc := hBE.size
                      try (have hlt0 := hxb.lt)
                      have hstep := new_below wlb (.cells #[.int .i64 0, .int .u64 0, .int .i64 0, .slice none 0 0] 42)
                      have hxc := SBox.new wlb 42 #[.int .i64 0, .int .u64 0, .int .i64 0, .slice none 0 0]
                      replace hBE := hBE.trans (hstep.mono hBE.size)
                      replace hxb := hxb.on hstep
                      obtain ⟨wlc, hnew⟩ : ∃ wlc : World, wlc = wlb.alloc (.cells #[.int .i64 0, .int .u64 0, .int .i64 0, .slice none 0 0] 42) := ⟨_, rfl⟩
                      rw [← hnew] at hstep hBE hxc hxb ⊢
                      clear hnew hstep
                      obtain ⟨gc, hgc⟩ : ∃ gc : Nat, gc = wlb.heap.size := ⟨_, rfl⟩
                      rw [← hgc] at hxc hglc ⊢
                      try (rw [← hgc] at hlt0)
                      try (have hne : gb ≠ gc := by omega)
                      clear hgc
                      refine hK.out _ _ (HK.out _ hBE) (fun hHeld2 => ?_)
                      clear hK K hHeld
                      have hHeld := hHeld2
                      clear hHeld2
                      try simp only [Act.put, List.setIfInBounds_toArray, List.set_cons_zero, List.set_cons_succ]
                      refine wpAnyH_ready (rs := [2]) (by kernel_rfl) (by simp) (AllReadyH.cons (o := { dst := some 128, op := Op.call { callee := Callee.value (Operand.func 20), args := #[Operand.tmp 126, Operand.tmp 127], argTypes := #[24, 3] }, type := 42, pos := "outright.go:43", after := #[{ on := 0, ground := Ground.data }, { on := 1, ground := Ground.data }], guard := none }) rfl (fun K hK => ?_) (AllReadyH.nil))
                      go_simp
                      go_at_call 20; (with_reducible refine (HOB'.out _ hBE).mono ?_)
                      rintro y wob ⟨⟨Ab, cb, rfl, hob⟩, hstep⟩
                      replace hBE := hBE.trans (hstep.mono hBE.size)
                      replace hxb := hxb.on hstep
                      replace hxc := hxc.on hstep
                      replace hob := hob.mono (Nat.zero_le _)
                      unfold sesV
                      simp only
                      clear hstep
                      refine hK.out _ _ (HK.out _ hBE) (fun hHeld2 => ?_)
                      clear hK K hHeld
                      have hHeld := hHeld2
                      clear hHeld2
                      try simp only [Act.put, List.setIfInBounds_toArray, List.set_cons_zero, List.set_cons_succ]
                      refine wpAnyH_ready (rs := [5]) (by kernel_rfl) (by simp) (AllReadyH.cons (o := { dst := some 131, op := Op.call { callee := Callee.value (Operand.func 20), args := #[Operand.tmp 129, Operand.tmp 130], argTypes := #[24, 3] }, type := 42, pos := "outright.go:43", after := #[{ on := 3, ground := Ground.data }, { on := 4, ground := Ground.data }, { on := 2, ground := Ground.chain }], guard := none }) rfl (fun K hK => ?_) (AllReadyH.nil))
                      go_simp
                      go_at_call 20; (with_reducible refine (HOC'.out _ hBE).mono ?_)
                      rintro y woc ⟨⟨Ac, cc, rfl, hoc⟩, hstep⟩
                      replace hBE := hBE.trans (hstep.mono hBE.size)
                      replace hxb := hxb.on hstep
                      replace hxc := hxc.on hstep
                      replace hob := hob.on hstep
                      replace hoc := hoc.mono (Nat.zero_le _)
                      unfold sesV
                      simp only
                      clear hstep
                      refine hK.out _ _ (HK.out _ hBE) (fun hHeld2 => ?_)
                      clear hK K hHeld
                      have hHeld := hHeld2
                      clear hHeld2
                      try simp only [Act.put, List.setIfInBounds_toArray, List.set_cons_zero, List.set_cons_succ]
                      refine wpAnyH_ready (rs := [8]) (by kernel_rfl) (by simp) (AllReadyH.cons (o := { dst := none, op := Op.store 42 (Operand.tmp 18) (Operand.tmp 128), type := 0, pos := "outright.go:43", after := #[{ on := 6, ground := Ground.data }, { on := 2, ground := Ground.data }, { on := 5, ground := Ground.chain }, { on := 0, ground := Ground.phase }, { on := 1, ground := Ground.phase }, { on := 2, ground := Ground.phase }, { on := 3, ground := Ground.textOnly Departure.lateStores }, { on := 4, ground := Ground.textOnly Departure.lateStores }, { on := 5, ground := Ground.textOnly Departure.lateStoresUnsure }, { on := 6, ground := Ground.phase }, { on := 7, ground := Ground.phase }], guard := none }) rfl (fun K hK => ?_) (AllReadyH.nil))
                      have hf0 := hxb.frozen 0; have hf1 := hxb.frozen 1; have hf2 := hxb.frozen 2; have hf3 := hxb.frozen 3
                      obtain ⟨z0, z1, z2, z3⟩ := hxb.four
                      go_simp
                      have hx0 := hxb
                      clear hf0 hf1 hf2 hf3 z0 z1 z2 z3
                      have hbel : Below _ _ ((((woc.setCell ⟨gb, 0, none⟩ (.int .i64 xc)).setCell ⟨gb, 1, none⟩ (.int .u64 xq)).setCell ⟨gb, 2, none⟩ (.int .i64 xe)).setCell ⟨gb, 3, none⟩ (.slice Ab xn.length cb)) := below_set4 hBE hglb (.int .i64 xc) (.int .u64 xq) (.int .i64 xe) (.slice Ab xn.length cb)
                      replace hxb := hxb.set4 (.int .i64 xc) (.int .u64 xq) (.int .i64 xe) (.slice Ab xn.length cb)
                      replace hxc := hxc.far4 (p := gb) (by omega) (.int .i64 xc) (.int .u64 xq) (.int .i64 xe) (.slice Ab xn.length cb)
                      replace hob := hob.set4Box hx0 (by decide) (.int .i64 xc) (.int .u64 xq) (.int .i64 xe) (.slice Ab xn.length cb)
                      replace hoc := hoc.set4Box hx0 (by decide) (.int .i64 xc) (.int .u64 xq) (.int .i64 xe) (.slice Ab xn.length cb)
                      obtain ⟨wsb, hnew⟩ : ∃ wsb : World, wsb = ((((woc.setCell ⟨gb, 0, none⟩ (.int .i64 xc)).setCell ⟨gb, 1, none⟩ (.int .u64 xq)).setCell ⟨gb, 2, none⟩ (.int .i64 xe)).setCell ⟨gb, 3, none⟩ (.slice Ab xn.length cb)) := ⟨_, rfl⟩
                      rw [← hnew] at hbel hxb hxc hob hoc ⊢
                      clear hnew
                      replace hBE := hbel
                      clear hbel
                      refine hK.out _ _ (HK.out _ hBE) (fun hHeld2 => ?_)
                      clear hK K hHeld
                      have hHeld := hHeld2
                      clear hHeld2
                      try simp only [Act.put, List.setIfInBounds_toArray, List.set_cons_zero, List.set_cons_succ]
                      refine wpAnyH_ready (rs := [9]) (by kernel_rfl) (by simp) (AllReadyH.cons (o := { dst := none, op := Op.store 42 (Operand.tmp 19) (Operand.tmp 131), type := 0, pos := "outright.go:43", after := #[{ on := 7, ground := Ground.data }, { on := 5, ground := Ground.data }, { on := 8, ground := Ground.chain }, { on := 0, ground := Ground.phase }, { on := 1, ground := Ground.phase }, { on := 2, ground := Ground.phase }, { on := 3, ground := Ground.phase }, { on := 4, ground := Ground.phase }, { on := 5, ground := Ground.phase }, { on := 6, ground := Ground.phase }, { on := 7, ground := Ground.phase }, { on := 8, ground := Ground.phase }], guard := none }) rfl (fun K hK => ?_) (AllReadyH.nil))
                      have hf0 := hxc.frozen 0; have hf1 := hxc.frozen 1; have hf2 := hxc.frozen 2; have hf3 := hxc.frozen 3
                      obtain ⟨z0, z1, z2, z3⟩ := hxc.four
                      go_simp
                      have hx0 := hxc
                      clear hf0 hf1 hf2 hf3 z0 z1 z2 z3
                      have hbel : Below _ _ ((((wsb.setCell ⟨gc, 0, none⟩ (.int .i64 yc)).setCell ⟨gc, 1, none⟩ (.int .u64 yq)).setCell ⟨gc, 2, none⟩ (.int .i64 ye)).setCell ⟨gc, 3, none⟩ (.slice Ac yn.length cc)) := below_set4 hBE hglc (.int .i64 yc) (.int .u64 yq) (.int .i64 ye) (.slice Ac yn.length cc)
                      replace hxb := hxb.far4 (p := gc) (by omega) (.int .i64 yc) (.int .u64 yq) (.int .i64 ye) (.slice Ac yn.length cc)
                      replace hxc := hxc.set4 (.int .i64 yc) (.int .u64 yq) (.int .i64 ye) (.slice Ac yn.length cc)
                      replace hob := hob.set4Box hx0 (by decide) (.int .i64 yc) (.int .u64 yq) (.int .i64 ye) (.slice Ac yn.length cc)
                      replace hoc := hoc.set4Box hx0 (by decide) (.int .i64 yc) (.int .u64 yq) (.int .i64 ye) (.slice Ac yn.length cc)
                      obtain ⟨wsc, hnew⟩ : ∃ wsc : World, wsc = ((((wsb.setCell ⟨gc, 0, none⟩ (.int .i64 yc)).setCell ⟨gc, 1, none⟩ (.int .u64 yq)).setCell ⟨gc, 2, none⟩ (.int .i64 ye)).setCell ⟨gc, 3, none⟩ (.slice Ac yn.length cc)) := ⟨_, rfl⟩
                      rw [← hnew] at hbel hxb hxc hob hoc ⊢
                      clear hnew
                      replace hBE := hbel
                      clear hbel
                      refine hK.out _ _ (HK.out _ hBE) (fun hHeld2 => ?_)
                      clear hK K hHeld
                      have hHeld := hHeld2
                      clear hHeld2
                      try simp only [Act.put, List.setIfInBounds_toArray, List.set_cons_zero, List.set_cons_succ]
                      refine wpAnyH_done (by kernel_rfl) ?_ _
                      go_wp2_with fail
                      go_meet
                      exact ⟨gb, gc, Ab, cb, Ac, cc, rfl, rfl, hxb, hxc, OwnN.nr hob, OwnN.nr hoc, hBE⟩
                  · go_simp
                    have hglc := hBE.size
                    try (have hlt0 := hxb.lt)
                    have hstep := new_below w0r (.cells #[.int .i64 0, .int .u64 0, .int .i64 0, .slice none 0 0] 42)
                    have hxc := SBox.new w0r 42 #[.int .i64 0, .int .u64 0, .int .i64 0, .slice none 0 0]
                    replace hBE := hBE.trans (hstep.mono hBE.size)
                    obtain ⟨wlc, hnew⟩ : ∃ wlc : World, wlc = w0r.alloc (.cells #[.int .i64 0, .int .u64 0, .int .i64 0, .slice none 0 0] 42) := ⟨_, rfl⟩
                    rw [← hnew] at hstep hBE hxc  ⊢
                    clear hnew hstep
                    obtain ⟨gc, hgc⟩ : ∃ gc : Nat, gc = w0r.heap.size := ⟨_, rfl⟩
                    rw [← hgc] at hxc hglc ⊢
                    try (rw [← hgc] at hlt0)
                    try (have hne : gb ≠ gc := by omega)
                    clear hgc
                    refine hK.out _ _ (HK.out _ hBE) (fun hHeld2 => ?_)
                    clear hK K hHeld
                    have hHeld := hHeld2
                    clear hHeld2
                    try simp only [Act.put, List.setIfInBounds_toArray, List.set_cons_zero, List.set_cons_succ]
                    refine wpAnyH_ready (rs := [2, 6]) (by kernel_rfl) (by simp) (AllReadyH.cons (o := { dst := some 128, op := Op.call { callee := Callee.value (Operand.func 20), args := #[Operand.tmp 126, Operand.tmp 127], argTypes := #[24, 3] }, type := 42, pos := "outright.go:43", after := #[{ on := 0, ground := Ground.data }, { on := 1, ground := Ground.data }], guard := none }) rfl (fun K hK => ?_) (AllReadyH.cons (o := { dst := some 18, op := Op.alloc 42, type := 0, pos := "outright.go:43", after := #[], guard := none }) rfl (fun K hK => ?_) (AllReadyH.nil)))
                    · go_simp
                      go_at_call 20; (with_reducible refine (HOB'.out _ hBE).mono ?_)
                      rintro y wob ⟨⟨Ab, cb, rfl, hob⟩, hstep⟩
                      replace hBE := hBE.trans (hstep.mono hBE.size)
                      replace hxc := hxc.on hstep
                      replace hob := hob.mono (Nat.zero_le _)
                      unfold sesV
                      simp only
                      clear hstep
                      refine hK.out _ _ (HK.out _ hBE) (fun hHeld2 => ?_)
                      clear hK K hHeld
                      have hHeld := hHeld2
                      clear hHeld2
                      try simp only [Act.put, List.setIfInBounds_toArray, List.set_cons_zero, List.set_cons_succ]
                      refine wpAnyH_ready (rs := [5, 6]) (by kernel_rfl) (by simp) (AllReadyH.cons (o := { dst := some 131, op := Op.call { callee := Callee.value (Operand.func 20), args := #[Operand.tmp 129, Operand.tmp 130], argTypes := #[24, 3] }, type := 42, pos := "outright.go:43", after := #[{ on := 3, ground := Ground.data }, { on := 4, ground := Ground.data }, { on := 2, ground := Ground.chain }], guard := none }) rfl (fun K hK => ?_) (AllReadyH.cons (o := { dst := some 18, op := Op.alloc 42, type := 0, pos := "outright.go:43", after := #[], guard := none }) rfl (fun K hK => ?_) (AllReadyH.nil)))
                      · go_simp
                        go_at_call 20; (with_reducible refine (HOC'.out _ hBE).mono ?_)
                        rintro y woc ⟨⟨Ac, cc, rfl, hoc⟩, hstep⟩
                        replace hBE := hBE.trans (hstep.mono hBE.size)
                        replace hxc := hxc.on hstep
                        replace hob := hob.on hstep
                        replace hoc := hoc.mono (Nat.zero_le _)
                        unfold sesV
                        simp only
                        clear hstep
                        refine hK.out _ _ (HK.out _ hBE) (fun hHeld2 => ?_)
                        clear hK K hHeld
                        have hHeld := hHeld2
                        clear hHeld2
                        try simp only [Act.put, List.setIfInBounds_toArray, List.set_cons_zero, List.set_cons_succ]
                        refine wpAnyH_ready (rs := [6]) (by kernel_rfl) (by simp) (AllReadyH.cons (o := { dst := some 18, op := Op.alloc 42, type := 0, pos := "outright.go:43", after := #[], guard := none }) rfl (fun K hK => ?_) (AllReadyH.nil))
                        go_simp
                        have hglb := hBE.size
                        try (have hlt0 := hxc.lt)
                        have hstep := new_below woc (.cells #[.int .i64 0, .int .u64 0, .int .i64 0, .slice none 0 0] 42)
                        have hxb := SBox.new woc 42 #[.int .i64 0, .int .u64 0, .int .i64 0, .slice none 0 0]
                        replace hBE := hBE.trans (hstep.mono hBE.size)
                        replace hxc := hxc.on hstep
                        replace hob := hob.on hstep
                        replace hoc := hoc.on hstep
                        obtain ⟨wlb, hnew⟩ : ∃ wlb : World, wlb = woc.alloc (.cells #[.int .i64 0, .int .u64 0, .int .i64 0, .slice none 0 0] 42) := ⟨_, rfl⟩
                        rw [← hnew] at hstep hBE hxb hxc hob hoc ⊢
                        clear hnew hstep
                        obtain ⟨gb, hgb⟩ : ∃ gb : Nat, gb = woc.heap.size := ⟨_, rfl⟩
                        rw [← hgb] at hxb hglb ⊢
                        try (rw [← hgb] at hlt0)
                        try (have hne : gb ≠ gc := by omega)
                        clear hgb
                        refine hK.out _ _ (HK.out _ hBE) (fun hHeld2 => ?_)
                        clear hK K hHeld
                        have hHeld := hHeld2
                        clear hHeld2
                        try simp only [Act.put, List.setIfInBounds_toArray, List.set_cons_zero, List.set_cons_succ]
                        refine wpAnyH_ready (rs := [8]) (by kernel_rfl) (by simp) (AllReadyH.cons (o := { dst := none, op := Op.store 42 (Operand.tmp 18) (Operand.tmp 128), type := 0, pos := "outright.go:43", after := #[{ on := 6, ground := Ground.data }, { on := 2, ground := Ground.data }, { on := 5, ground := Ground.chain }, { on := 0, ground := Ground.phase }, { on := 1, ground := Ground.phase }, { on := 2, ground := Ground.phase }, { on := 3, ground := Ground.textOnly Departure.lateStores }, { on := 4, ground := Ground.textOnly Departure.lateStores }, { on := 5, ground := Ground.textOnly Departure.lateStoresUnsure }, { on := 6, ground := Ground.phase }, { on := 7, ground := Ground.phase }], guard := none }) rfl (fun K hK => ?_) (AllReadyH.nil))
                        have hf0 := hxb.frozen 0; have hf1 := hxb.frozen 1; have hf2 := hxb.frozen 2; have hf3 := hxb.frozen 3
                        obtain ⟨z0, z1, z2, z3⟩ := hxb.four
                        go_simp
                        have hx0 := hxb
                        clear hf0 hf1 hf2 hf3 z0 z1 z2 z3
                        have hbel : Below _ _ ((((wlb.setCell ⟨gb, 0, none⟩ (.int .i64 xc)).setCell ⟨gb, 1, none⟩ (.int .u64 xq)).setCell ⟨gb, 2, none⟩ (.int .i64 xe)).setCell ⟨gb, 3, none⟩ (.slice Ab xn.length cb)) := below_set4 hBE hglb (.int .i64 xc) (.int .u64 xq) (.int .i64 xe) (.slice Ab xn.length cb)
                        replace hxc := hxc.far4 (p := gb) (by omega) (.int .i64 xc) (.int .u64 xq) (.int .i64 xe) (.slice Ab xn.length cb)
                        replace hob := hob.set4Box hx0 (by decide) (.int .i64 xc) (.int .u64 xq) (.int .i64 xe) (.slice Ab xn.length cb)
                        replace hoc := hoc.set4Box hx0 (by decide) (.int .i64 xc) (.int .u64 xq) (.int .i64 xe) (.slice Ab xn.length cb)
                        replace hxb := hxb.set4 (.int .i64 xc) (.int .u64 xq) (.int .i64 xe) (.slice Ab xn.length cb)
                        obtain ⟨wsb, hnew⟩ : ∃ wsb : World, wsb = ((((wlb.setCell ⟨gb, 0, none⟩ (.int .i64 xc)).setCell ⟨gb, 1, none⟩ (.int .u64 xq)).setCell ⟨gb, 2, none⟩ (.int .i64 xe)).setCell ⟨gb, 3, none⟩ (.slice Ab xn.length cb)) := ⟨_, rfl⟩
                        rw [← hnew] at hbel hxc hob hoc hxb ⊢
                        clear hnew
                        replace hBE := hbel
                        clear hbel
                        refine hK.out _ _ (HK.out _ hBE) (fun hHeld2 => ?_)
                        clear hK K hHeld
                        have hHeld := hHeld2
                        clear hHeld2
                        try simp only [Act.put, List.setIfInBounds_toArray, List.set_cons_zero, List.set_cons_succ]
                        refine wpAnyH_ready (rs := [9]) (by kernel_rfl) (by simp) (AllReadyH.cons (o := { dst := none, op := Op.store 42 (Operand.tmp 19) (Operand.tmp 131), type := 0, pos := "outright.go:43", after := #[{ on := 7, ground := Ground.data }, { on := 5, ground := Ground.data }, { on := 8, ground := Ground.chain }, { on := 0, ground := Ground.phase }, { on := 1, ground := Ground.phase }, { on := 2, ground := Ground.phase }, { on := 3, ground := Ground.phase }, { on := 4, ground := Ground.phase }, { on := 5, ground := Ground.phase }, { on := 6, ground := Ground.phase }, { on := 7, ground := Ground.phase }, { on := 8, ground := Ground.phase }], guard := none }) rfl (fun K hK => ?_) (AllReadyH.nil))
                        have hf0 := hxc.frozen 0; have hf1 := hxc.frozen 1; have hf2 := hxc.frozen 2; have hf3 := hxc.frozen 3
                        obtain ⟨z0, z1, z2, z3⟩ := hxc.four
                        go_simp
                        have hx0 := hxc
                        clear hf0 hf1 hf2 hf3 z0 z1 z2 z3
                        have hbel : Below _ _ ((((wsb.setCell ⟨gc, 0, none⟩ (.int .i64 yc)).setCell ⟨gc, 1, none⟩ (.int .u64 yq)).setCell ⟨gc, 2, none⟩ (.int .i64 ye)).setCell ⟨gc, 3, none⟩ (.slice Ac yn.length cc)) := below_set4 hBE hglc (.int .i64 yc) (.int .u64 yq) (.int .i64 ye) (.slice Ac yn.length cc)
                        replace hxc := hxc.set4 (.int .i64 yc) (.int .u64 yq) (.int .i64 ye) (.slice Ac yn.length cc)
                        replace hob := hob.set4Box hx0 (by decide) (.int .i64 yc) (.int .u64 yq) (.int .i64 ye) (.slice Ac yn.length cc)
                        replace hoc := hoc.set4Box hx0 (by decide) (.int .i64 yc) (.int .u64 yq) (.int .i64 ye) (.slice Ac yn.length cc)
                        replace hxb := hxb.far4 (p := gc) (by omega) (.int .i64 yc) (.int .u64 yq) (.int .i64 ye) (.slice Ac yn.length cc)
                        obtain ⟨wsc, hnew⟩ : ∃ wsc : World, wsc = ((((wsb.setCell ⟨gc, 0, none⟩ (.int .i64 yc)).setCell ⟨gc, 1, none⟩ (.int .u64 yq)).setCell ⟨gc, 2, none⟩ (.int .i64 ye)).setCell ⟨gc, 3, none⟩ (.slice Ac yn.length cc)) := ⟨_, rfl⟩
                        rw [← hnew] at hbel hxc hob hoc hxb ⊢
                        clear hnew
                        replace hBE := hbel
                        clear hbel
                        refine hK.out _ _ (HK.out _ hBE) (fun hHeld2 => ?_)
                        clear hK K hHeld
                        have hHeld := hHeld2
                        clear hHeld2
                        try simp only [Act.put, List.setIfInBounds_toArray, List.set_cons_zero, List.set_cons_succ]
                        refine wpAnyH_done (by kernel_rfl) ?_ _
                        go_wp2_with fail
                        go_meet
                        exact ⟨gb, gc, Ab, cb, Ac, cc, rfl, rfl, hxb, hxc, OwnN.nr hob, OwnN.nr hoc, hBE⟩
                      · go_simp
                        have hglb := hBE.size
                        try (have hlt0 := hxc.lt)
                        have hstep := new_below wob (.cells #[.int .i64 0, .int .u64 0, .int .i64 0, .slice none 0 0] 42)
                        have hxb := SBox.new wob 42 #[.int .i64 0, .int .u64 0, .int .i64 0, .slice none 0 0]
                        replace hBE := hBE.trans (hstep.mono hBE.size)
                        replace hxc := hxc.on hstep
                        replace hob := hob.on hstep
                        obtain ⟨wlb, hnew⟩ : ∃ wlb : World, wlb = wob.alloc (.cells #[.int .i64 0, .int .u64 0, .int .i64 0, .slice none 0 0] 42) := ⟨_, rfl⟩
                        rw [← hnew] at hstep hBE hxb hxc hob ⊢
                        clear hnew hstep
                        obtain ⟨gb, hgb⟩ : ∃ gb : Nat, gb = wob.heap.size := ⟨_, rfl⟩
                        rw [← hgb] at hxb hglb ⊢
                        try (rw [← hgb] at hlt0)
                        try (have hne : gb ≠ gc := by omega)
                        clear hgb
                        refine hK.out _ _ (HK.out _ hBE) (fun hHeld2 => ?_)
                        clear hK K hHeld
                        have hHeld := hHeld2
                        clear hHeld2
                        try simp only [Act.put, List.setIfInBounds_toArray, List.set_cons_zero, List.set_cons_succ]
                        refine wpAnyH_ready (rs := [5]) (by kernel_rfl) (by simp) (AllReadyH.cons (o := { dst := some 131, op := Op.call { callee := Callee.value (Operand.func 20), args := #[Operand.tmp 129, Operand.tmp 130], argTypes := #[24, 3] }, type := 42, pos := "outright.go:43", after := #[{ on := 3, ground := Ground.data }, { on := 4, ground := Ground.data }, { on := 2, ground := Ground.chain }], guard := none }) rfl (fun K hK => ?_) (AllReadyH.nil))
                        go_simp
                        go_at_call 20; (with_reducible refine (HOC'.out _ hBE).mono ?_)
                        rintro y woc ⟨⟨Ac, cc, rfl, hoc⟩, hstep⟩
                        replace hBE := hBE.trans (hstep.mono hBE.size)
                        replace hxc := hxc.on hstep
                        replace hob := hob.on hstep
                        replace hxb := hxb.on hstep
                        replace hoc := hoc.mono (Nat.zero_le _)
                        unfold sesV
                        simp only
                        clear hstep
                        refine hK.out _ _ (HK.out _ hBE) (fun hHeld2 => ?_)
                        clear hK K hHeld
                        have hHeld := hHeld2
                        clear hHeld2
                        try simp only [Act.put, List.setIfInBounds_toArray, List.set_cons_zero, List.set_cons_succ]
                        refine wpAnyH_ready (rs := [8]) (by kernel_rfl) (by simp) (AllReadyH.cons (o := { dst := none, op := Op.store 42 (Operand.tmp 18) (Operand.tmp 128), type := 0, pos := "outright.go:43", after := #[{ on := 6, ground := Ground.data }, { on := 2, ground := Ground.data }, { on := 5, ground := Ground.chain }, { on := 0, ground := Ground.phase }, { on := 1, ground := Ground.phase }, { on := 2, ground := Ground.phase }, { on := 3, ground := Ground.textOnly Departure.lateStores }, { on := 4, ground := Ground.textOnly Departure.lateStores }, { on := 5, ground := Ground.textOnly Departure.lateStoresUnsure }, { on := 6, ground := Ground.phase }, { on := 7, ground := Ground.phase }], guard := none }) rfl (fun K hK => ?_) (AllReadyH.nil))
                        have hf0 := hxb.frozen 0; have hf1 := hxb.frozen 1; have hf2 := hxb.frozen 2; have hf3 := hxb.frozen 3
                        obtain ⟨z0, z1, z2, z3⟩ := hxb.four
                        go_simp
                        have hx0 := hxb
                        clear hf0 hf1 hf2 hf3 z0 z1 z2 z3
                        have hbel : Below _ _ ((((woc.setCell ⟨gb, 0, none⟩ (.int .i64 xc)).setCell ⟨gb, 1, none⟩ (.int .u64 xq)).setCell ⟨gb, 2, none⟩ (.int .i64 xe)).setCell ⟨gb, 3, none⟩ (.slice Ab xn.length cb)) := below_set4 hBE hglb (.int .i64 xc) (.int .u64 xq) (.int .i64 xe) (.slice Ab xn.length cb)
                        replace hxc := hxc.far4 (p := gb) (by omega) (.int .i64 xc) (.int .u64 xq) (.int .i64 xe) (.slice Ab xn.length cb)
                        replace hob := hob.set4Box hx0 (by decide) (.int .i64 xc) (.int .u64 xq) (.int .i64 xe) (.slice Ab xn.length cb)
                        replace hxb := hxb.set4 (.int .i64 xc) (.int .u64 xq) (.int .i64 xe) (.slice Ab xn.length cb)
                        replace hoc := hoc.set4Box hx0 (by decide) (.int .i64 xc) (.int .u64 xq) (.int .i64 xe) (.slice Ab xn.length cb)
                        obtain ⟨wsb, hnew⟩ : ∃ wsb : World, wsb = ((((woc.setCell ⟨gb, 0, none⟩ (.int .i64 xc)).setCell ⟨gb, 1, none⟩ (.int .u64 xq)).setCell ⟨gb, 2, none⟩ (.int .i64 xe)).setCell ⟨gb, 3, none⟩ (.slice Ab xn.length cb)) := ⟨_, rfl⟩
                        rw [← hnew] at hbel hxc hob hxb hoc ⊢
                        clear hnew
                        replace hBE := hbel
                        clear hbel
                        refine hK.out _ _ (HK.out _ hBE) (fun hHeld2 => ?_)
                        clear hK K hHeld
                        have hHeld := hHeld2
                        clear hHeld2
                        try simp only [Act.put, List.setIfInBounds_toArray, List.set_cons_zero, List.set_cons_succ]
                        refine wpAnyH_ready (rs := [9]) (by kernel_rfl) (by simp) (AllReadyH.cons (o := { dst := none, op := Op.store 42 (Operand.tmp 19) (Operand.tmp 131), type := 0, pos := "outright.go:43", after := #[{ on := 7, ground := Ground.data }, { on := 5, ground := Ground.data }, { on := 8, ground := Ground.chain }, { on := 0, ground := Ground.phase }, { on := 1, ground := Ground.phase }, { on := 2, ground := Ground.phase }, { on := 3, ground := Ground.phase }, { on := 4, ground := Ground.phase }, { on := 5, ground := Ground.phase }, { on := 6, ground := Ground.phase }, { on := 7, ground := Ground.phase }, { on := 8, ground := Ground.phase }], guard := none }) rfl (fun K hK => ?_) (AllReadyH.nil))
                        have hf0 := hxc.frozen 0; have hf1 := hxc.frozen 1; have hf2 := hxc.frozen 2; have hf3 := hxc.frozen 3
                        obtain ⟨z0, z1, z2, z3⟩ := hxc.four
                        go_simp
                        have hx0 := hxc
                        clear hf0 hf1 hf2 hf3 z0 z1 z2 z3
                        have hbel : Below _ _ ((((wsb.setCell ⟨gc, 0, none⟩ (.int .i64 yc)).setCell ⟨gc, 1, none⟩ (.int .u64 yq)).setCell ⟨gc, 2, none⟩ (.int .i64 ye)).setCell ⟨gc, 3, none⟩ (.slice Ac yn.length cc)) := below_set4 hBE hglc (.int .i64 yc) (.int .u64 yq) (.int .i64 ye) (.slice Ac yn.length cc)
                        replace hxc := hxc.set4 (.int .i64 yc) (.int .u64 yq) (.int .i64 ye) (.slice Ac yn.length cc)
                        replace hob := hob.set4Box hx0 (by decide) (.int .i64 yc) (.int .u64 yq) (.int .i64 ye) (.slice Ac yn.length cc)
                        replace hxb := hxb.far4 (p := gc) (by omega) (.int .i64 yc) (.int .u64 yq) (.int .i64 ye) (.slice Ac yn.length cc)
                        replace hoc := hoc.set4Box hx0 (by decide) (.int .i64 yc) (.int .u64 yq) (.int .i64 ye) (.slice Ac yn.length cc)
                        obtain ⟨wsc, hnew⟩ : ∃ wsc : World, wsc = ((((wsb.setCell ⟨gc, 0, none⟩ (.int .i64 yc)).setCell ⟨gc, 1, none⟩ (.int .u64 yq)).setCell ⟨gc, 2, none⟩ (.int .i64 ye)).setCell ⟨gc, 3, none⟩ (.slice Ac yn.length cc)) := ⟨_, rfl⟩
                        rw [← hnew] at hbel hxc hob hxb hoc ⊢
                        clear hnew
                        replace hBE := hbel
                        clear hbel
                        refine hK.out _ _ (HK.out _ hBE) (fun hHeld2 => ?_)
                        clear hK K hHeld
                        have hHeld := hHeld2
                        clear hHeld2
                        try simp only [Act.put, List.setIfInBounds_toArray, List.set_cons_zero, List.set_cons_succ]
                        refine wpAnyH_done (by kernel_rfl) ?_ _
                        go_wp2_with fail
                        go_meet
                        exact ⟨gb, gc, Ab, cb, Ac, cc, rfl, rfl, hxb, hxc, OwnN.nr hob, OwnN.nr hoc, hBE⟩
                    · go_simp
                      have hglb := hBE.size
                      try (have hlt0 := hxc.lt)
                      have hstep := new_below wlc (.cells #[.int .i64 0, .int .u64 0, .int .i64 0, .slice none 0 0] 42)
                      have hxb := SBox.new wlc 42 #[.int .i64 0, .int .u64 0, .int .i64 0, .slice none 0 0]
                      replace hBE := hBE.trans (hstep.mono hBE.size)
                      replace hxc := hxc.on hstep
                      obtain ⟨wlb, hnew⟩ : ∃ wlb : World, wlb = wlc.alloc (.cells #[.int .i64 0, .int .u64 0, .int .i64 0, .slice none 0 0] 42) := ⟨_, rfl⟩
                      rw [← hnew] at hstep hBE hxb hxc ⊢
                      clear hnew hstep
                      obtain ⟨gb, hgb⟩ : ∃ gb : Nat, gb = wlc.heap.size := ⟨_, rfl⟩
                      rw [← hgb] at hxb hglb ⊢
                      try (rw [← hgb] at hlt0)
                      try (have hne : gb ≠ gc := by omega)
                      clear hgb
                      refine hK.out _ _ (HK.out _ hBE) (fun hHeld2 => ?_)
                      clear hK K hHeld
                      have hHeld := hHeld2
                      clear hHeld2
                      try simp only [Act.put, List.setIfInBounds_toArray, List.set_cons_zero, List.set_cons_succ]
                      refine wpAnyH_ready (rs := [2]) (by kernel_rfl) (by simp) (AllReadyH.cons (o := { dst := some 128, op := Op.call { callee := Callee.value (Operand.func 20), args := #[Operand.tmp 126, Operand.tmp 127], argTypes := #[24, 3] }, type := 42, pos := "outright.go:43", after := #[{ on := 0, ground := Ground.data }, { on := 1, ground := Ground.data }], guard := none }) rfl (fun K hK => ?_) (AllReadyH.nil))
                      go_simp
                      go_at_call 20; (with_reducible refine (HOB'.out _ hBE).mono ?_)
                      rintro y wob ⟨⟨Ab, cb, rfl, hob⟩, hstep⟩
                      replace hBE := hBE.trans (hstep.mono hBE.size)
                      replace hxc := hxc.on hstep
                      replace hxb := hxb.on hstep
                      replace hob := hob.mono (Nat.zero_le _)
                      unfold sesV
                      simp only
                      clear hstep
                      refine hK.out _ _ (HK.out _ hBE) (fun hHeld2 => ?_)
                      clear hK K hHeld
                      have hHeld := hHeld2
                      clear hHeld2
                      try simp only [Act.put, List.setIfInBounds_toArray, List.set_cons_zero, List.set_cons_succ]
                      refine wpAnyH_ready (rs := [5]) (by kernel_rfl) (by simp) (AllReadyH.cons (o := { dst := some 131, op := Op.call { callee := Callee.value (Operand.func 20), args := #[Operand.tmp 129, Operand.tmp 130], argTypes := #[24, 3] }, type := 42, pos := "outright.go:43", after := #[{ on := 3, ground := Ground.data }, { on := 4, ground := Ground.data }, { on := 2, ground := Ground.chain }], guard := none }) rfl (fun K hK => ?_) (AllReadyH.nil))
                      go_simp
                      go_at_call 20; (with_reducible refine (HOC'.out _ hBE).mono ?_)
                      rintro y woc ⟨⟨Ac, cc, rfl, hoc⟩, hstep⟩
                      replace hBE := hBE.trans (hstep.mono hBE.size)
                      replace hxc := hxc.on hstep
                      replace hxb := hxb.on hstep
                      replace hob := hob.on hstep
                      replace hoc := hoc.mono (Nat.zero_le _)
                      unfold sesV
                      simp only
                      clear hstep
                      refine hK.out _ _ (HK.out _ hBE) (fun hHeld2 => ?_)
                      clear hK K hHeld
                      have hHeld := hHeld2
                      clear hHeld2
                      try simp only [Act.put, List.setIfInBounds_toArray, List.set_cons_zero, List.set_cons_succ]
                      refine wpAnyH_ready (rs := [8]) (by kernel_rfl) (by simp) (AllReadyH.cons (o := { dst := none, op := Op.store 42 (Operand.tmp 18) (Operand.tmp 128), type := 0, pos := "outright.go:43", after := #[{ on := 6, ground := Ground.data }, { on := 2, ground := Ground.data }, { on := 5, ground := Ground.chain }, { on := 0, ground := Ground.phase }, { on := 1, ground := Ground.phase }, { on := 2, ground := Ground.phase }, { on := 3, ground := Ground.textOnly Departure.lateStores }, { on := 4, ground := Ground.textOnly Departure.lateStores }, { on := 5, ground := Ground.textOnly Departure.lateStoresUnsure }, { on := 6, ground := Ground.phase }, { on := 7, ground := Ground.phase }], guard := none }) rfl (fun K hK => ?_) (AllReadyH.nil))
                      have hf0 := hxb.frozen 0; have hf1 := hxb.frozen 1; have hf2 := hxb.frozen 2; have hf3 := hxb.frozen 3
                      obtain ⟨z0, z1, z2, z3⟩ := hxb.four
                      go_simp
                      have hx0 := hxb
                      clear hf0 hf1 hf2 hf3 z0 z1 z2 z3
                      have hbel : Below _ _ ((((woc.setCell ⟨gb, 0, none⟩ (.int .i64 xc)).setCell ⟨gb, 1, none⟩ (.int .u64 xq)).setCell ⟨gb, 2, none⟩ (.int .i64 xe)).setCell ⟨gb, 3, none⟩ (.slice Ab xn.length cb)) := below_set4 hBE hglb (.int .i64 xc) (.int .u64 xq) (.int .i64 xe) (.slice Ab xn.length cb)
                      replace hxc := hxc.far4 (p := gb) (by omega) (.int .i64 xc) (.int .u64 xq) (.int .i64 xe) (.slice Ab xn.length cb)
                      replace hxb := hxb.set4 (.int .i64 xc) (.int .u64 xq) (.int .i64 xe) (.slice Ab xn.length cb)
                      replace hob := hob.set4Box hx0 (by decide) (.int .i64 xc) (.int .u64 xq) (.int .i64 xe) (.slice Ab xn.length cb)
                      replace hoc := hoc.set4Box hx0 (by decide) (.int .i64 xc) (.int .u64 xq) (.int .i64 xe) (.slice Ab xn.length cb)
                      obtain ⟨wsb, hnew⟩ : ∃ wsb : World, wsb = ((((woc.setCell ⟨gb, 0, none⟩ (.int .i64 xc)).setCell ⟨gb, 1, none⟩ (.int .u64 xq)).setCell ⟨gb, 2, none⟩ (.int .i64 xe)).setCell ⟨gb, 3, none⟩ (.slice Ab xn.length cb)) := ⟨_, rfl⟩
                      rw [← hnew] at hbel hxc hxb hob hoc ⊢
                      clear hnew
                      replace hBE := hbel
                      clear hbel
                      refine hK.out _ _ (HK.out _ hBE) (fun hHeld2 => ?_)
                      clear hK K hHeld
                      have hHeld := hHeld2
                      clear hHeld2
                      try simp only [Act.put, List.setIfInBounds_toArray, List.set_cons_zero, List.set_cons_succ]
                      refine wpAnyH_ready (rs := [9]) (by kernel_rfl) (by simp) (AllReadyH.cons (o := { dst := none, op := Op.store 42 (Operand.tmp 19) (Operand.tmp 131), type := 0, pos := "outright.go:43", after := #[{ on := 7, ground := Ground.data }, { on := 5, ground := Ground.data }, { on := 8, ground := Ground.chain }, { on := 0, ground := Ground.phase }, { on := 1, ground := Ground.phase }, { on := 2, ground := Ground.phase }, { on := 3, ground := Ground.phase }, { on := 4, ground := Ground.phase }, { on := 5, ground := Ground.phase }, { on := 6, ground := Ground.phase }, { on := 7, ground := Ground.phase }, { on := 8, ground := Ground.phase }], guard := none }) rfl (fun K hK => ?_) (AllReadyH.nil))
                      have hf0 := hxc.frozen 0; have hf1 := hxc.frozen 1; have hf2 := hxc.frozen 2; have hf3 := hxc.frozen 3
                      obtain ⟨z0, z1, z2, z3⟩ := hxc.four
                      go_simp
                      have hx0 := hxc
                      clear hf0 hf1 hf2 hf3 z0 z1 z2 z3
                      have hbel : Below _ _ ((((wsb.setCell ⟨gc, 0, none⟩ (.int .i64 yc)).setCell ⟨gc, 1, none⟩ (.int .u64 yq)).setCell ⟨gc, 2, none⟩ (.int .i64 ye)).setCell ⟨gc, 3, none⟩ (.slice Ac yn.length cc)) := below_set4 hBE hglc (.int .i64 yc) (.int .u64 yq) (.int .i64 ye) (.slice Ac yn.length cc)
                      replace hxc := hxc.set4 (.int .i64 yc) (.int .u64 yq) (.int .i64 ye) (.slice Ac yn.length cc)
                      replace hxb := hxb.far4 (p := gc) (by omega) (.int .i64 yc) (.int .u64 yq) (.int .i64 ye) (.slice Ac yn.length cc)
                      replace hob := hob.set4Box hx0 (by decide) (.int .i64 yc) (.int .u64 yq) (.int .i64 ye) (.slice Ac yn.length cc)
                      replace hoc := hoc.set4Box hx0 (by decide) (.int .i64 yc) (.int .u64 yq) (.int .i64 ye) (.slice Ac yn.length cc)
                      obtain ⟨wsc, hnew⟩ : ∃ wsc : World, wsc = ((((wsb.setCell ⟨gc, 0, none⟩ (.int .i64 yc)).setCell ⟨gc, 1, none⟩ (.int .u64 yq)).setCell ⟨gc, 2, none⟩ (.int .i64 ye)).setCell ⟨gc, 3, none⟩ (.slice Ac yn.length cc)) := ⟨_, rfl⟩
                      rw [← hnew] at hbel hxc hxb hob hoc ⊢
                      clear hnew
                      replace hBE := hbel
                      clear hbel
                      refine hK.out _ _ (HK.out _ hBE) (fun hHeld2 => ?_)
                      clear hK K hHeld
                      have hHeld := hHeld2
                      clear hHeld2
                      try simp only [Act.put, List.setIfInBounds_toArray, List.set_cons_zero, List.set_cons_succ]
                      refine wpAnyH_done (by kernel_rfl) ?_ _
                      go_wp2_with fail
                      go_meet
                      exact ⟨gb, gc, Ab, cb, Ac, cc, rfl, rfl, hxb, hxc, OwnN.nr hob, OwnN.nr hoc, hBE⟩
                case rest =>
                  obtain ⟨gb, gc, Ab, cb, Ac, cc, rfl, rfl, hxb, hxc, hnb, hnc, hbx2⟩ := hcut
                  have HXb := Lib.hid hxb; have HXc := Lib.hid hxc; have HNb := Lib.hid hnb; have HNc := Lib.hid hnc
                  have HBZ := Lib.hid (HB11.out.trans (hbx2.mono HB11.out.size))
                  clear hxb hxc hnb hnc hbx2
                  obtain ⟨a0, a1, a2, a3⟩ := (HY6.out.on HBZ.out).four
                  go_upto_region 27 with fail
                  go_cut [150] from 132 to 149 (fun s150 wx => s150 = .bool false ∧ Below w6.heap.size w6 wx)
                  case first =>
                    by_cases hoe : other = ac
                    · have hd : (other != ac) = false := by simp [hoe]
                      clear hoe
                      go_wp2_with fail
                      go_meet
                      exact ⟨rfl, HBZ.out⟩
                    · have hd : (other != ac) = true := by simp [hoe]
                      have hxy := HOE.out hoe
                      injection hxy with hxy0 hxy1 hxy2
                      injection hxy2 with hxy2 hxy3
                      have hs : (xq != yq) = false := by simp [hxy1]
                      have HSB := Lib.hid (samer_any xe ye (.slice Ab xn.length cb) (.slice Ac yn.length cc) xn yn _ HNb.out HNc.out)
                      rw [show decide ((RepZ.mk xe xn) = ⟨ye, yn⟩) = true by rw [hxy2, hxy3, decide_eq_true rfl]] at HSB
                      obtain ⟨b0, b1', b2, b3⟩ := HXb.out.four
                      obtain ⟨d0, d1, d2, d3⟩ := HXc.out.four
                      clear hoe hxy0 hxy1 hxy2 hxy3
                      generalize xn.length = lb at *
                      generalize yn.length = lc at *
                      go_wp2_with fail
                      refine HSB.out.mono ?_
                      rintro y w12 ⟨rfl, hb12⟩
                      have HB12 := Lib.hid (HBZ.out.trans (hb12.mono HBZ.out.size))
                      clear hb12
                      go_wp2_with fail
                      go_meet
                      exact ⟨rfl, HB12.out⟩
                  case rest =>
                    obtain ⟨rfl, hbz⟩ := hcut
                    have HBY := Lib.hid hbz
                    have n0 := (HN6.out.on hbz).one
                    have hfs := (HX6.out.on hbz).frozen 0
                    have hcs := (HX6.out.on hbz).one
                    clear hbz a0 a1 a2 a3
                    go_wp2_with fail
                    go_roundw
                    case rel => exact ⟨k + 1, An, nn, cn, msn, t', by omega, by go_num, (HX6.out.on HBY.out).set 0 _, (HON6.out.on HBY.out).setBox (HX6.out.on HBY.out) (by decide) (by decide) 0, HLN, HM', (HM6.out.on HBY.out).far ((HM6.out.on HBY.out).box (HX6.out.on HBY.out)) _, (HBw6.out.trans (HBY.out.mono HBw6.out.size)).setCell (by show w.heap.size ≤ gs; exact HGS.out) _⟩
                    case measure => simp [intOf]; omega
            · have hd : (E != 0) = true := by simp [hE]
              have hks := HKN.out hE
              have hz : nn = 0 := by rw [← hnn]; have h3 := congrArg List.length hln; rw [hks, List.length_map] at h3; exact h3
              clear hE hks hsn hnn hxn hon hln hbx
              subst hz
              go_wp2_with fail
              go_roundw
              case rel => exact ⟨k + 1, As, ns, cs, mss, t, by omega, by go_num, HXc.out, HOc.out, HMS, HTM, HMc.out, HBwc.out⟩
              case measure => simp [intOf]; omega
      · go_wp2_with fail
        go_ret
        exact ⟨rfl, HBr.out⟩
  · obtain rfl := HEN.out hm
    clear hm HEY HEN
    go_wp2_with fail
    go_ret
    exact ⟨rfl, HBW.out.trans (HB3.out.mono HBW.out.size)⟩
end Go.Proofs.Ytgnfoncokjglbaa
