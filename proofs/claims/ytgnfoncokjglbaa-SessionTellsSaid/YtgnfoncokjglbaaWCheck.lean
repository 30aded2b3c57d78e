/- Whether sessions may be: walked, of the program. -/
import Derived.Test.YtgnfoncokjglbaaWVar
import Derived.Test.YtgnfoncokjglbaaWCheckR
namespace Go.Proofs.Ytgnfoncokjglbaa
open Go.RowKit

/-- To numbers of one's own what can be read is appended. -/
theorem run_app_ints {w : World} {base n c : Nat} {v : Value} {A : Option Addr} {l q : List Int} (ty : TypeId) (h : OwnK w .i64 3 base v l) (hq : NumR w .i64 A n c q) (hb : base ≤ w.heap.size) (hl : l.length + q.length ≤ 1000) :
    ∃ v' w', (Builtin.append_ #[58, 58] ty #[v, .slice A n c]).run Try.prog w = .ok v' w' ∧ OwnK w' .i64 3 base v' (l ++ q) ∧ w.grownBy w' v.ownBlock := by
  obtain ⟨i, hi, hz0, hz1, hz2⟩ := sinfo_parts info_intw
  obtain ⟨h0, h1, h2, h3, h4⟩ := hq
  subst h0
  obtain ⟨v', w', hr, ho, hg, _⟩ := run_append_reads (P := Try.prog) (ty := ty) Try.underlying58 hi hz0 hz1 hz2 rfl (by decide) h h3 h1 (by rw [List.length_map]; omega) h4 nz_one (by unfold maxLen; omega) (by omega) hb
  refine ⟨v', w', hr, ?_, hg⟩
  unfold OwnK
  rw [List.length_append, List.map_append]
  exact ho
theorem list_ints {w : World} {ops : Array Oper} {rest : List Oper} {o : Oper} {a : Act} {Q : Exit → Act → World → Prop} {base n c : Nat} {v : Value} {A : Option Addr} {l q : List Int} (hgd : o.guard = none) (s x : Operand)
    (ho : o.op = .call { callee := .builtin .append, args := #[s, x], argTypes := #[58, 58] }) (hs : a.eval s = v) (hx : a.eval x = .slice A n c)
    (h : OwnK w .i64 3 base v l) (hq : NumR w .i64 A n c q) (hb : base ≤ w.heap.size) (hl : l.length + q.length ≤ 1000) (W0 : World) (hB : Below base W0 w)
    (hk : ∀ v' w', OwnK w' .i64 3 base v' (l ++ q) → Below base W0 w' → w.grownBy w' v.ownBlock → wpList Try.prog ops Q rest (a.put o.dst v') w') : wpList Try.prog ops Q (o :: rest) a w := by
  obtain ⟨v', w', hr, ho2, hg⟩ := run_app_ints o.type h hq hb hl
  exact list_app hgd s x _ ho hs hx hr (hk v' w' ho2 (hB.grown hg hb (fun k e => (World.ownsRow.lt h k e).1)) hg)
theorem one_new (w : World) (k : IntKind) (t : TypeId) (x : Int) : NumR (w.alloc (.cells #[.int k x] t)) k (some ⟨w.heap.size, 0, none⟩) 1 1 [x] :=
  ⟨rfl, by omega, by decide, fun e => (by cases e), fun j u hj => by
    have hb := SBox.new w t #[.int k x]
    refine ⟨_, 0, rfl, hb.lt, ?_⟩
    rw [Nat.zero_add, hb.cell j]
    match j, hj with
    | 0, hj => exact hj⟩
theorem hold_one {lo hi x : Int} : holdW lo hi [x] = decide (lo ≤ x ∧ x ≤ hi) := by
  by_cases h : lo ≤ x ∧ x ≤ hi
  · rw [decide_eq_true h]
    refine holdW_yes.2 ⟨fun k y hk => ?_, fun k y z hy hz => ?_⟩
    · match k, hk with
      | 0, hk => cases hk; exact h
    · match k, hz with
      | 0, hz => cases hz
  · rw [decide_eq_false h]
    exact holdW_no (fun hr => h (hr.1 0 x rfl))
noncomputable def sesE (l : List SesZ) : Int := if okS l = true then 0 else 220
theorem sesE_no {l : List SesZ} (h : ¬ MayS l) : sesE l = 220 := by unfold sesE; rw [okS_no h]; rfl
theorem sesE_yes {l : List SesZ} (h : MayS l) : sesE l = 0 := by unfold sesE; rw [okS_yes.2 h]; rfl
theorem take_next {α : Type} {l : List α} {k : Nat} {x : α} (h : l[k]? = some x) : l.take (k + 1) = l.take k ++ [x] := by rw [List.take_add_one, h]; rfl
set_option maxRecDepth 100000 in
set_option maxHeartbeats 4000000 in
theorem check_any (A : Option Addr) (n c : Nat) (ms : List SesM) (w : World) (h : SR w A n c ms) :
    Calls Try.prog 10 #[.agg #[.slice A n c]] w fun x w' => x = .returned (.int .i64 (sesE (ms.map (·.1)))) ∧ Below w.heap.size w w' := by
  have hn : n ≤ maxLen := Nat.le_trans h.cap h.top
  unfold maxLen at hn
  have HNO : Hid (¬ MayS (ms.map (·.1)) → sesE (ms.map (·.1)) = 220) := Lib.hid sesE_no
  have HYES : Hid (MayS (ms.map (·.1)) → sesE (ms.map (·.1)) = 0) := Lib.hid sesE_yes
  have HLEN : Hid (MayS (ms.map (·.1)) → n ≤ 3) := Lib.hid (fun hm => by have := hm.len; rwa [List.length_map, h.len] at this)
  have HRI : Hid (MayS (ms.map (·.1)) ↔ ((∀ m ∈ ms, (1 ≤ m.1.seq ∧ m.1.seq ≤ maxQ) ∧ m.1.rep.May) ∧ RiseW 1 3 (ms.map (·.1.cl)))) := Lib.hid (by
    rw [mayS_rise, List.map_map]
    simp [Function.comp_def])
  generalize sesE (ms.map (·.1)) = EE at *
  generalize MayS (ms.map (·.1)) = MAY at *
  have HT := Lib.hid h; have HL := Lib.hid h.len
  have HB0 := Lib.hid (new_below w (.cells #[.slice A n c] 24))
  clear h
  go_enter Try.func10, Try.ntmps10
  by_cases h3 : 3 < n
  · have hd : decide ((3 : Int) < (n : Int)) = true := decide_eq_true (by omega)
    have hd2 : decide (3 < n) = true := decide_eq_true h3
    have HZ := Lib.hid (HNO.out (fun hm => by have := HLEN.out hm; omega))
    go_wp2_with fail
    go_ret
    exact ⟨by rw [HZ.out]; try rfl, HB0.out⟩
  have hd : decide ((3 : Int) < (n : Int)) = false := decide_eq_false (by omega)
  have hd2 : decide (3 < n) = false := decide_eq_false h3
  have H3 := Lib.hid h3
  clear h3
  go_wp2_with fail
  go_loopw [3, 13] (fun v i wr => ∃ k : Nat, k ≤ n ∧ i = .int .i64 (k : Int) ∧ OwnK wr .i64 3 w.heap.size v ((ms.take k).map (·.1.cl)) ∧ Below w.heap.size w wr ∧ Hid (∀ m ∈ ms.take k, (1 ≤ m.1.seq ∧ m.1.seq ≤ maxQ) ∧ m.1.rep.May)) (fun _ i _ => n - (intOf i).toNat)
  case atStart => exact ⟨0, by omega, rfl, .nil _ _ _ _, HB0.out, Lib.hid (fun m hm => by simp at hm)⟩
  case round =>
    obtain ⟨k, hk, rfl, how, hb, HA⟩ := hrel
    have HB := Lib.hid hb; have HO := Lib.hid how
    clear hb how
    by_cases hlt : k < n
    · obtain ⟨m, hm⟩ : ∃ m, ms[k]? = some m := ⟨_, List.getElem?_eq_getElem (by have := HL.out; omega)⟩
      obtain ⟨⟨xc, xq, xe, xn⟩, xv⟩ := m
      have hT := HT.out.on HB.out
      obtain ⟨b1, o1, rfl, _⟩ := hT.at_ hm
      have hok := hT.ok _ (List.mem_of_getElem? hm)
      have HLD := Lib.hid (ses_load hT hm)
      obtain ⟨W1, hs1, hx1, hb1, hz1⟩ := ses_var wr ⟨xc, xq, xe, xn⟩ xv hok.2.one
      have HS1 := Lib.hid hs1; have HX1 := Lib.hid hx1
      have HB1 := Lib.hid (HB.out.trans (hb1.mono HB.out.size))
      have HO1 := Lib.hid (owns_on HO.out hb1)
      have HN1 := Lib.hid (hok.2.on hb1)
      have HM := Lib.hid hm
      have i0 : (0 : Int) ≤ (k : Int) := by omega
      have i1 : (k : Int) < (n : Int) := by omega
      obtain ⟨c0, c1, c2, c3⟩ := hx1.box.four
      simp only at c0 c1 c2 c3
      have HZ1 := Lib.hid hz1
      clear hm hT hok hs1 hx1 hb1 hz1
      unfold sesV at *
      simp only at HLD HS1
      go_wp2_with (first | refine list_load rfl _ rfl rfl HLD.out ?_ | refine list_store0 rfl rfl _ _ rfl rfl rfl HS1.out ?_)
      refine (hold_u64 1 1099511627776 _ 1 1 [xq] _ (one_new W1 .u64 32 xq)).mono ?_
      rintro x w2 ⟨rfl, rfl⟩
      have HB2 := Lib.hid (HB1.out.alloc HB1.out.size (.cells #[.int .u64 xq] 32))
      have HO2 := Lib.hid (owns_on HO1.out (new_below W1 (.cells #[.int .u64 xq] 32)))
      have hx2 := HX1.out.on (new_below W1 (.cells #[.int .u64 xq] 32))
      have HN2 := Lib.hid (HN1.out.on (new_below W1 (.cells #[.int .u64 xq] 32)))
      have HX2 := Lib.hid hx2
      clear c0 c1 c2 c3
      obtain ⟨c0, c1, c2, c3⟩ := hx2.box.four
      simp only at c0 c1 c2 c3
      clear hx2 HX1 HB1 HO1 HN1
      have HQ : Hid (holdW 1 1099511627776 [xq] = decide (1 ≤ xq ∧ xq ≤ 1099511627776)) := Lib.hid hold_one
      generalize holdW 1 1099511627776 [xq] = HH at *
      obtain ⟨W2, hW2⟩ : ∃ W2 : World, W2 = W1.alloc (.cells #[.int .u64 xq] 32) := ⟨_, rfl⟩
      rw [← hW2] at HB2 HO2 HN2 HX2 c0 c1 c2 c3 ⊢
      clear hW2
      cases HH with
      | false =>
        have HZ := Lib.hid (HNO.out (fun hm => by
          have h1 : 1 ≤ xq ∧ xq ≤ 1099511627776 := ((HRI.out.1 hm).1 _ (List.mem_of_getElem? HM.out)).1
          have h2 := HQ.out
          rw [decide_eq_true h1] at h2
          cases h2))
        go_wp2_with fail
        go_ret
        exact ⟨by rw [HZ.out]; try rfl, HB2.out⟩
      | true =>
        have HCR := Lib.hid (checkr_any xe xv xn W2 HN2.out)
        have HRN : Hid (¬ (RepZ.mk xe xn).May → repE ⟨xe, xn⟩ = 2) := Lib.hid repE_no
        have HRY : Hid ((RepZ.mk xe xn).May → repE ⟨xe, xn⟩ = 0) := Lib.hid repE_yes
        generalize repE ⟨xe, xn⟩ = RE at *
        unfold repV at HCR
        simp only at HCR
        go_wp2_with fail
        refine HCR.out.mono ?_
        rintro x w3 ⟨rfl, hb3⟩
        have HB3 := Lib.hid (HB2.out.trans (hb3.mono HB2.out.size))
        have HO3 := Lib.hid (owns_on HO2.out hb3)
        have hx3 := HX2.out.on hb3
        clear c0 c1 c2 c3
        obtain ⟨c0, c1, c2, c3⟩ := hx3.box.four
        simp only at c0 c1 c2 c3
        clear hx3 hb3 HX2 HB2 HO2 HN2
        by_cases hr : (RepZ.mk xe xn).May
        · obtain rfl := HRY.out hr
          have HR := Lib.hid hr
          clear hr HRN HRY
          go_wp2_with (at_builtin; refine list_ints rfl _ _ rfl rfl rfl (owns_on HO3.out (new_below w3 (.cells #[.int .i64 xc] 3))) (one_new w3 .i64 3 xc) (by have := HB3.out.size; simp; omega) (by have := H3.out; simp; omega) w (HB3.out.alloc HB3.out.size _) ?_; intro v4 w4 ho4 hb4 _)
          go_roundw
          case rel => exact ⟨k + 1, by omega, by go_num, by rw [take_next HM.out, List.map_append]; exact ho4, hb4, Lib.hid (fun m hm => by
            rw [take_next HM.out] at hm
            rcases List.mem_append.1 hm with hm | hm
            · exact HA.out m hm
            · rw [List.mem_singleton] at hm
              subst hm
              exact ⟨of_decide_eq_true HQ.out.symm, HR.out⟩)⟩
          case measure => simp [intOf]; omega
        · obtain rfl := HRN.out hr
          have HZ := Lib.hid (HNO.out (fun hm => hr ((HRI.out.1 hm).1 _ (List.mem_of_getElem? HM.out)).2))
          clear hr HRN HRY
          go_wp2_with fail
          go_ret
          exact ⟨by rw [HZ.out]; try rfl, HB3.out⟩
    · have hkn : ms.take k = ms := List.take_of_length_le (by have := HL.out; omega)
      have HO' := Lib.hid (HO.out); have HA' := Lib.hid HA.out
      rw [hkn] at HO' HA'
      obtain ⟨A5, c5, rfl, h5⟩ := HO'.out.numr
      have HN5 := Lib.hid h5
      clear hkn h5
      have HRW : Hid (holdW 1 3 (ms.map (·.1.cl)) = true ↔ RiseW 1 3 (ms.map (·.1.cl))) := Lib.hid holdW_yes
      have HCC := Lib.hid (hold_i64 1 3 A5 (ms.map (·.1.cl)).length c5 (ms.map (·.1.cl)) wr HN5.out)
      generalize holdW 1 3 (ms.map (·.1.cl)) = HH at *
      generalize (ms.map (·.1.cl)).length = n5 at *
      go_wp2_with fail
      refine HCC.out.mono ?_
      rintro x w3 ⟨rfl, rfl⟩
      cases HH with
      | true =>
        have HZ := Lib.hid (HYES.out (HRI.out.2 ⟨HA'.out, HRW.out.1 rfl⟩))
        go_wp2_with fail
        go_ret
        exact ⟨by rw [HZ.out]; try rfl, HB.out⟩
      | false =>
        have HZ := Lib.hid (HNO.out (fun hm => absurd (HRW.out.2 (HRI.out.1 hm).2) (by simp)))
        go_wp2_with fail
        go_ret
        exact ⟨by rw [HZ.out]; try rfl, HB.out⟩
end Go.Proofs.Ytgnfoncokjglbaa
