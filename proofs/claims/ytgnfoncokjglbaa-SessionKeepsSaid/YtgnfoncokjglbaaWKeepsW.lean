/- The law SessionKeeps: what an asking is, and what is kept, one behind the other: walked. -/
import Derived.Test.YtgnfoncokjglbaaWSpoil
import Derived.Test.YtgnfoncokjglbaaWRKeep
import Derived.Test.YtgnfoncokjglbaaWRight
import Derived.Test.YtgnfoncokjglbaaWRSame
import Derived.Deep.CutRange
namespace Go.Proofs.Ytgnfoncokjglbaa
open Go.RowKit

theorem SBox.set2 {W : World} {g : Nat} {t : TypeId} {a b : Value} (h : SBox W g t #[a, b]) (x y : Value) : SBox ((W.setCell ⟨g, 0, none⟩ x).setCell ⟨g, 1, none⟩ y) g t #[x, y] := (h.set 0 _).set 1 _
theorem below_set2 {B : Nat} {w W : World} {g : Nat} (h : Below B w W) (hg : B ≤ g) (x y : Value) : Below B w ((W.setCell ⟨g, 0, none⟩ x).setCell ⟨g, 1, none⟩ y) := (h.setCell hg _).setCell hg _
theorem SBox.far2 {w : World} {g p : Nat} {t : TypeId} {cs : Array Value} (h : SBox w g t cs) (hp : g ≠ p) (x y : Value) : SBox ((w.setCell ⟨p, 0, none⟩ x).setCell ⟨p, 1, none⟩ y) g t cs := (h.far hp _).far hp _
theorem OwnN.set2Box {w : World} {base b : Nat} {v : Value} {l : List Int} {x0 x1 : Value} {t : TypeId} (h : OwnN w base v l) (hx : SBox w b t #[x0, x1]) (h2 : t ≠ 64) (y0 y1 : Value) : OwnN ((w.setCell ⟨b, 0, none⟩ y0).setCell ⟨b, 1, none⟩ y1) base v l := (h.setBox hx h2 0).setBox (hx.set 0 _) h2 1
theorem OwnS.set2Box {w : World} {base b : Nat} {v : Value} {ms : List SesM} {x0 x1 : Value} {t : TypeId} (h : OwnS w base v ms) (hx : SBox w b t #[x0, x1]) (h1 : t ≠ 42) (h2 : t ≠ 64) (y0 y1 : Value) : OwnS ((w.setCell ⟨b, 0, none⟩ y0).setCell ⟨b, 1, none⟩ y1) base v ms := (h.setBox hx h1 h2 0).setBox (hx.set 0 _) h1 h2 1
/-- What is kept can be gone through. -/
theorem keep_few {l : List SesZ} {a q : Int} {r : RepZ} (h : keepE l a q r = 0) : Few (keepS l a q r) ∧ keepD l ⟨a, q, r⟩ = keepS l a q r ∧ MayS l := by
  obtain ⟨t, ht, rfl⟩ := tri_of (keep_may h)
  obtain ⟨ha, hr, hq, hs, hm⟩ := keep_rows ht h
  refine ⟨?_, ?_, Tri.rows_may ht⟩
  · rw [hs]; exact may_few (Tri.rows_may hm)
  · rw [hs, keepD_rows t ht a q r ha.1 ha.2.1 ha.2.2.1]
set_option maxRecDepth 100000 in
set_option maxHeartbeats 16000000 in
theorem keeps_law (A : Option Addr) (n c : Nat) (ms : List SesM) (A1 : Option Addr) (n1 c1 : Nat) (ms1 : List SesM) (w : World) (h : SR w A n c ms) (h1 : SR w A1 n1 c1 ms1) :
    Calls Try.prog 4 #[.agg #[.slice A n c], .slice A1 n1 c1] w fun e w' => e = .returned (.bool true) ∧ Below w.heap.size w w' := by
  have hn1 : n1 ≤ 9223372036854775807 := by have := h1.cap; have := h1.top; unfold maxLen at this; omega
  have hb0 := new_below w (.cells #[.slice A n c] 24)
  have hx0 := SBox.new w 24 #[.slice A n c]
  obtain ⟨W0, hW0⟩ : ∃ W0 : World, W0 = w.alloc (.cells #[.slice A n c] 24) := ⟨_, rfl⟩
  rw [← hW0] at hb0 hx0
  have HB0 := Lib.hid hb0; have HX0 := Lib.hid hx0; have HT := Lib.hid (h.on hb0); have HA := Lib.hid h1; have HNA := Lib.hid h1.len
  clear hb0 hx0 h h1
  go_enter Try.func4, Try.ntmps4
  go_wp2_with fail
  rw [← hW0]
  clear hW0
  refine (wakes_any W0).mono ?_
  rintro y w1 ⟨rfl, hb1⟩
  have HB1 := Lib.hid hb1
  have c0 := (HX0.out.on hb1).one
  have HFW := Lib.hid (few_any A n c ms w1 (HT.out.on hb1))
  have HFF := Lib.hid (few_few (ms.map (·.1)))
  clear hb1
  go_wp2_with fail
  refine HFW.out.mono ?_
  rintro y w2 ⟨⟨A2, c2, ms2, rfl, ho2, hl2⟩, hb2⟩
  have HB2 := Lib.hid (HB0.out.trans ((HB1.out.trans (hb2.mono HB1.out.size)).mono HB0.out.size))
  generalize hlen : ms2.length = n2 at *
  have HO2 := Lib.hid (ho2.mono (Nat.zero_le _))
  generalize fewL (ms.map (·.1)) = ls at *
  have HL2 := Lib.hid hl2
  clear hb2 ho2 hl2 hlen c0
  go_upto_region 4 with fail
  have HBW := Lib.hid (HB2.out.alloc HB2.out.size (.cells #[.slice A2 n2 c2] 24))
  have HXS := Lib.hid (SBox.new w2 24 #[.slice A2 n2 c2])
  have HOW := Lib.hid (HO2.out.on (new_below w2 (.cells #[.slice A2 n2 c2] 24)))
  have HGS : Hid (w.heap.size ≤ w2.heap.size) := Lib.hid HB2.out.size
  obtain ⟨W, hW⟩ : ∃ W : World, W = w2.alloc (.cells #[.slice A2 n2 c2] 24) := ⟨_, rfl⟩
  rw [← hW] at HBW HXS HOW ⊢
  clear hW
  generalize w2.heap.size = gs at *
  go_wp2_with fail
  go_loopw [24] (fun i wr => ∃ (k : Nat) (As : Option Addr) (ns cs : Nat) (mss : List SesM), k ≤ n1 ∧ i = .int .i64 (k : Int) ∧ SBox wr gs 24 #[.slice As ns cs] ∧ OwnS wr 0 (.slice As ns cs) mss ∧ Hid (Few (mss.map (·.1))) ∧ Below w.heap.size w wr) (fun i _ => n1 - (intOf i).toNat)
  case atStart => exact ⟨0, A2, n2, c2, ms2, Nat.zero_le _, rfl, HXS.out, HOW.out, Lib.hid (by rw [HL2.out]; exact HFF.out), HBW.out⟩
  case round =>
    obtain ⟨k, As, ns, cs, mss, hk, rfl, hxs, hos, HFE, hb⟩ := hrel
    have HXs := Lib.hid hxs; have HOs := Lib.hid hos; have HBr := Lib.hid hb
    clear hxs hos hb
    by_cases hlt : k < n1
    · obtain ⟨m, hmk⟩ : ∃ m, ms1[k]? = some m := ⟨_, List.getElem?_eq_getElem (by have := HNA.out; omega)⟩
      obtain ⟨⟨ac, aq, ⟨ae, an⟩⟩, av⟩ := m
      have hta := HA.out.on HBr.out
      have hok := hta.ok _ (List.mem_of_getElem? hmk)
      have HN0 : Hid (NR w av an) := Lib.hid (HA.out.ok _ (List.mem_of_getElem? hmk)).2
      obtain ⟨b1, o1, rfl, hj1⟩ := hta.at_ hmk
      have HLD := Lib.hid (ask_load hta hmk)
      obtain ⟨W1, hs1, hy1, hb1, hz1⟩ := ask_var wr ⟨ac, aq, ae, an⟩ av hok.2.one
      have HS1 := Lib.hid hs1; have HY1 := Lib.hid hy1.box; have HZ1 := Lib.hid hz1
      have HBw1 := Lib.hid (HBr.out.trans (hb1.mono HBr.out.size))
      have HX1 := Lib.hid (HXs.out.on hb1)
      have HO1 := Lib.hid (HOs.out.on hb1)
      have HCB := Lib.hid hok.1.1; have HQB := Lib.hid hok.1.2.1; have HRF := Lib.hid hok.1.2.2
      simp only at HY1 HCB HQB HRF
      have i0 : (0 : Int) ≤ (k : Int) := by omega
      have i1 : (k : Int) < (n1 : Int) := by omega
      unfold sesV at *
      simp only at HLD HS1
      clear hmk hta hok hj1 hs1 hy1 hb1 hz1
      by_cases h20 : k = 20
      · subst h20
        rw [show ((20 : Nat) : Int) = 20 by rfl] at *
        go_wp2_with (first | refine list_load rfl _ rfl rfl HLD.out ?_ | refine list_store0 rfl rfl _ _ rfl rfl rfl HS1.out ?_)
        go_ret
        exact ⟨rfl, HBw1.out⟩
      · have hd20 : ((k : Int) == 20) = false := by simp; omega
        have HRF' := Lib.hid (fewR_fit HRF.out)
        have HRP := Lib.hid (fun W' (hb : Below w.heap.size w W') => reply_any ae av an W' (HN0.out.on hb))
        have HAN : Hid (RepZ.May ⟨ae, an.take 14⟩ → an.take 14 = an) := Lib.hid (fun hr => by have := hr.2.2.1; simp only [List.length_take] at this; exact List.take_of_length_le (by omega))
        generalize an.take 14 = ax at *
        have HFE' := Lib.hid (few_same HFE.out)
        have HSR1 : Hid (SR W1 As ns cs mss) := Lib.hid (fewIs_sr HO1.out).1
        have HFS := Lib.hid (fun W' (hb : Below W1.heap.size W1 W') => few_any As ns cs mss W' (HSR1.out.on hb))
        rw [HFE'.out] at HFS
        have HRP1 := Lib.hid (fun W' (hb : Below W1.heap.size W1 W') => HRP.out W' (HBw1.out.trans (hb.mono HBw1.out.size)))
        have HC := Lib.hid (fun (W' : World) (hW : Below W1.heap.size W1 W') => (⟨by
          obtain ⟨a0, a1, a2, a3⟩ := (HY1.out.on hW).four
          exact ⟨(HX1.out.on hW).one, a2, a3⟩⟩ : PLift (W'.cell? ⟨gs, 0, none⟩ = some (.slice As ns cs) ∧ W'.cell? ⟨wr.heap.size, 2, none⟩ = some (.int .i64 ae) ∧ W'.cell? ⟨wr.heap.size, 3, none⟩ = some av)).down)
        go_upto_region 8 with (first | refine list_load rfl _ rfl rfl HLD.out ?_ | refine list_store0 rfl rfl _ _ rfl rfl rfl HS1.out ?_)
        go_cut [8, 9] from 31 to 35 (fun s8 s9 wx => ∃ gw gr Aw nw cw msw Ar nr cr, s8 = .pointer (some ⟨gw, 0, none⟩) ∧ s9 = .pointer (some ⟨gr, 0, none⟩) ∧ SBox wx gw 24 #[.slice Aw nw cw] ∧ SBox wx gr 35 #[.int .i64 ae, .slice Ar nr cr] ∧ OwnS wx 0 (.slice Aw nw cw) msw ∧ msw.map (·.1) = mss.map (·.1) ∧ NR wx (.slice Ar nr cr) ax ∧ Below W1.heap.size W1 wx)
        case first =>
          have hBE := Below.refl W1.heap.size W1
          have HK := HC
          refine wp_region_held_drew (S := (fun W' => W'.cell? ⟨gs, 0, none⟩ = some (.slice As ns cs) ∧ W'.cell? ⟨wr.heap.size, 2, none⟩ = some (.int .i64 ae) ∧ W'.cell? ⟨wr.heap.size, 3, none⟩ = some av)) (by kernel_rfl) (HK.out _ hBE.drew) (fun hHeld => ?_)
          replace hBE := hBE.drew
          obtain ⟨w0r, hw0r⟩ : ∃ w0r : World, w0r = W1.drew := ⟨_, rfl⟩
          rw [← hw0r] at hBE hHeld ⊢
          clear hw0r
          refine wpAnyH_take (i := 0) (oi := { dst := some 31, op := Op.load 24 (Operand.tmp 5), type := 24, pos := "law.go:98", after := #[], guard := none }) (v := ?zvb0) rfl (by kernel_rfl) (by kernel_rfl) (by kernel_rfl) (fun _ _ _ h => h) (Or.inl ⟨by rfl, ?zhb0⟩) (by assumption) ?zrb0
          case zhb0 => (intro w hSw; (try dsimp only at hSw); go_simp; (try with_reducible rfl))
          try simp only [Act.put, List.setIfInBounds_toArray, List.set_cons_zero, List.set_cons_succ]
          refine wpAnyH_take (i := 2) (oi := { dst := some 33, op := Op.fieldAddr 37 (Operand.tmp 7) 2, type := 0, pos := "law.go:98", after := #[], guard := none }) (v := ?zvb1) rfl (by kernel_rfl) (by kernel_rfl) (by kernel_rfl) (fun _ _ _ h => h) (Or.inl ⟨by rfl, ?zhb1⟩) (by assumption) ?zrb1
          case zhb1 => (intro w hSw; (try dsimp only at hSw); go_simp; (try with_reducible rfl))
          try simp only [Act.put, List.setIfInBounds_toArray, List.set_cons_zero, List.set_cons_succ]
          refine wpAnyH_take (i := 3) (oi := { dst := some 34, op := Op.load 35 (Operand.tmp 33), type := 35, pos := "law.go:98", after := #[{ on := 2, ground := Ground.data }], guard := none }) (v := ?zvb2) rfl (by kernel_rfl) (by kernel_rfl) (by kernel_rfl) (fun _ _ _ h => h) (Or.inl ⟨by rfl, ?zhb2⟩) (by assumption) ?zrb2
          case zhb2 => (intro w hSw; (try dsimp only at hSw); go_simp; (try with_reducible rfl))
          try simp only [Act.put, List.setIfInBounds_toArray, List.set_cons_zero, List.set_cons_succ]
          refine wpAnyH_ready (rs := [1, 5, 6]) (by kernel_rfl) (by simp) (AllReadyH.cons (o := { dst := some 32, op := Op.call { callee := Callee.value (Operand.func 8), args := #[Operand.tmp 31], argTypes := #[24] }, type := 24, pos := "law.go:98", after := #[{ on := 0, ground := Ground.data }], guard := none }) rfl (fun K hK => ?_) (AllReadyH.cons (o := { dst := some 8, op := Op.alloc 24, type := 0, pos := "law.go:98", after := #[], guard := none }) rfl (fun K hK => ?_) (AllReadyH.cons (o := { dst := some 9, op := Op.alloc 35, type := 0, pos := "law.go:98", after := #[], guard := none }) rfl (fun K hK => ?_) (AllReadyH.nil))))
          · go_simp
            go_at_call 8; (with_reducible refine (HFS.out _ hBE).mono ?_)
            rintro y wF ⟨⟨Aw, cw, msw, rfl, how, hlw⟩, hstep⟩
            replace hBE := hBE.trans (hstep.mono hBE.size)
            replace how := how.mono (Nat.zero_le _)
            generalize hlenW : msw.length = nw at *
            clear hstep
            refine hK.out _ _ (HK.out _ hBE) (fun hHeld2 => ?_)
            clear hK K hHeld
            have hHeld := hHeld2
            clear hHeld2
            try simp only [Act.put, List.setIfInBounds_toArray, List.set_cons_zero, List.set_cons_succ]
            refine wpAnyH_ready (rs := [4, 5, 6]) (by kernel_rfl) (by simp) (AllReadyH.cons (o := { dst := some 35, op := Op.call { callee := Callee.value (Operand.func 13), args := #[Operand.tmp 34], argTypes := #[35] }, type := 35, pos := "law.go:98", after := #[{ on := 3, ground := Ground.data }, { on := 1, ground := Ground.chain }], guard := none }) rfl (fun K hK => ?_) (AllReadyH.cons (o := { dst := some 8, op := Op.alloc 24, type := 0, pos := "law.go:98", after := #[], guard := none }) rfl (fun K hK => ?_) (AllReadyH.cons (o := { dst := some 9, op := Op.alloc 35, type := 0, pos := "law.go:98", after := #[], guard := none }) rfl (fun K hK => ?_) (AllReadyH.nil))))
            · go_simp
              go_at_call 13; (with_reducible refine (HRP1.out _ hBE).mono ?_)
              rintro y wR ⟨uR, rfl, hrp, hstep⟩
              replace hBE := hBE.trans (hstep.mono hBE.size)
              replace how := how.on hstep
              replace hrp := hrp.mono (Nat.zero_le _)
              obtain ⟨Ar, cr, rfl, _⟩ := hrp.nr
              generalize hlenR : ax.length = nr at *
              clear hstep
              refine hK.out _ _ (HK.out _ hBE) (fun hHeld2 => ?_)
              clear hK K hHeld
              have hHeld := hHeld2
              clear hHeld2
              try simp only [Act.put, List.setIfInBounds_toArray, List.set_cons_zero, List.set_cons_succ]
              refine wpAnyH_ready (rs := [5, 6]) (by kernel_rfl) (by simp) (AllReadyH.cons (o := { dst := some 8, op := Op.alloc 24, type := 0, pos := "law.go:98", after := #[], guard := none }) rfl (fun K hK => ?_) (AllReadyH.cons (o := { dst := some 9, op := Op.alloc 35, type := 0, pos := "law.go:98", after := #[], guard := none }) rfl (fun K hK => ?_) (AllReadyH.nil)))
              · go_simp
                have hglw := hBE.size
                try (have hlt0 := hxr.lt)
                have hstep := new_below wR (.cells #[.slice none 0 0] 24)
                have hxw := SBox.new wR 24 #[.slice none 0 0]
                replace hBE := hBE.trans (hstep.mono hBE.size)
                replace how := how.on hstep
                replace hrp := hrp.on hstep
                obtain ⟨wlw, hnew⟩ : ∃ wlw : World, wlw = wR.alloc (.cells #[.slice none 0 0] 24) := ⟨_, rfl⟩
                rw [← hnew] at hstep hBE hxw how hrp ⊢
                clear hnew hstep
                obtain ⟨gw, hgw⟩ : ∃ gw : Nat, gw = wR.heap.size := ⟨_, rfl⟩
                rw [← hgw] at hxw hglw ⊢
                try (rw [← hgw] at hlt0)
                try (have hne : gw ≠ gr := by omega)
                clear hgw
                refine hK.out _ _ (HK.out _ hBE) (fun hHeld2 => ?_)
                clear hK K hHeld
                have hHeld := hHeld2
                clear hHeld2
                try simp only [Act.put, List.setIfInBounds_toArray, List.set_cons_zero, List.set_cons_succ]
                refine wpAnyH_ready (rs := [6]) (by kernel_rfl) (by simp) (AllReadyH.cons (o := { dst := some 9, op := Op.alloc 35, type := 0, pos := "law.go:98", after := #[], guard := none }) rfl (fun K hK => ?_) (AllReadyH.nil))
                go_simp
                have hglr := hBE.size
                try (have hlt0 := hxw.lt)
                have hstep := new_below wlw (.cells #[.int .i64 0, .slice none 0 0] 35)
                have hxr := SBox.new wlw 35 #[.int .i64 0, .slice none 0 0]
                replace hBE := hBE.trans (hstep.mono hBE.size)
                replace how := how.on hstep
                replace hrp := hrp.on hstep
                replace hxw := hxw.on hstep
                obtain ⟨wlr, hnew⟩ : ∃ wlr : World, wlr = wlw.alloc (.cells #[.int .i64 0, .slice none 0 0] 35) := ⟨_, rfl⟩
                rw [← hnew] at hstep hBE hxr how hrp hxw ⊢
                clear hnew hstep
                obtain ⟨gr, hgr⟩ : ∃ gr : Nat, gr = wlw.heap.size := ⟨_, rfl⟩
                rw [← hgr] at hxr hglr ⊢
                try (rw [← hgr] at hlt0)
                try (have hne : gw ≠ gr := by omega)
                clear hgr
                refine hK.out _ _ (HK.out _ hBE) (fun hHeld2 => ?_)
                clear hK K hHeld
                have hHeld := hHeld2
                clear hHeld2
                try simp only [Act.put, List.setIfInBounds_toArray, List.set_cons_zero, List.set_cons_succ]
                refine wpAnyH_ready (rs := [7]) (by kernel_rfl) (by simp) (AllReadyH.cons (o := { dst := none, op := Op.store 24 (Operand.tmp 8) (Operand.tmp 32), type := 0, pos := "law.go:98", after := #[{ on := 5, ground := Ground.data }, { on := 1, ground := Ground.data }, { on := 4, ground := Ground.chain }, { on := 0, ground := Ground.phase }, { on := 1, ground := Ground.phase }, { on := 2, ground := Ground.textOnly Departure.lateStores }, { on := 3, ground := Ground.textOnly Departure.lateStores }, { on := 4, ground := Ground.textOnly Departure.lateStoresUnsure }, { on := 5, ground := Ground.phase }, { on := 6, ground := Ground.phase }], guard := none }) rfl (fun K hK => ?_) (AllReadyH.nil))
                have hf0 := hxw.frozen 0
                have hz0 := hxw.one
                go_simp
                have hx0 := hxw
                clear hf0 hz0
                have hbel : Below _ _ (wlr.setCell ⟨gw, 0, none⟩ (.slice Aw nw cw)) := hBE.setCell hglw _
                replace how := how.setBox (u := .slice Aw nw cw) hx0 (by decide) (by decide) 0
                replace hrp := hrp.setBox (u := .slice Aw nw cw) hx0 (by decide) 0
                replace hxw := hxw.set 0 (.slice Aw nw cw)
                replace hxr := hxr.far (p := gw) (i := 0) (by omega) (.slice Aw nw cw)
                obtain ⟨wsw, hnew⟩ : ∃ wsw : World, wsw = (wlr.setCell ⟨gw, 0, none⟩ (.slice Aw nw cw)) := ⟨_, rfl⟩
                rw [← hnew] at hbel how hrp hxw hxr ⊢
                clear hnew
                replace hBE := hbel
                clear hbel
                refine hK.out _ _ (HK.out _ hBE) (fun hHeld2 => ?_)
                clear hK K hHeld
                have hHeld := hHeld2
                clear hHeld2
                try simp only [Act.put, List.setIfInBounds_toArray, List.set_cons_zero, List.set_cons_succ]
                refine wpAnyH_ready (rs := [8]) (by kernel_rfl) (by simp) (AllReadyH.cons (o := { dst := none, op := Op.store 35 (Operand.tmp 9) (Operand.tmp 35), type := 0, pos := "law.go:98", after := #[{ on := 6, ground := Ground.data }, { on := 4, ground := Ground.data }, { on := 7, ground := Ground.chain }, { on := 0, ground := Ground.phase }, { on := 1, ground := Ground.phase }, { on := 2, ground := Ground.phase }, { on := 3, ground := Ground.phase }, { on := 4, ground := Ground.phase }, { on := 5, ground := Ground.phase }, { on := 6, ground := Ground.phase }, { on := 7, ground := Ground.phase }], guard := none }) rfl (fun K hK => ?_) (AllReadyH.nil))
                have hf0 := hxr.frozen 0; have hf1 := hxr.frozen 1
                obtain ⟨z0, z1⟩ := hxr.two
                go_simp
                have hx0 := hxr
                clear hf0 hf1 z0 z1
                have hbel : Below _ _ ((wsw.setCell ⟨gr, 0, none⟩ (.int .i64 ae)).setCell ⟨gr, 1, none⟩ (.slice Ar nr cr)) := below_set2 hBE hglr (.int .i64 ae) (.slice Ar nr cr)
                replace how := how.set2Box hx0 (by decide) (by decide) (.int .i64 ae) (.slice Ar nr cr)
                replace hrp := hrp.set2Box hx0 (by decide) (.int .i64 ae) (.slice Ar nr cr)
                replace hxw := hxw.far2 (p := gr) (by omega) (.int .i64 ae) (.slice Ar nr cr)
                replace hxr := hxr.set2 (.int .i64 ae) (.slice Ar nr cr)
                obtain ⟨wsr, hnew⟩ : ∃ wsr : World, wsr = ((wsw.setCell ⟨gr, 0, none⟩ (.int .i64 ae)).setCell ⟨gr, 1, none⟩ (.slice Ar nr cr)) := ⟨_, rfl⟩
                rw [← hnew] at hbel how hrp hxw hxr ⊢
                clear hnew
                replace hBE := hbel
                clear hbel
                refine hK.out _ _ (HK.out _ hBE) (fun hHeld2 => ?_)
                clear hK K hHeld
                have hHeld := hHeld2
                clear hHeld2
                try simp only [Act.put, List.setIfInBounds_toArray, List.set_cons_zero, List.set_cons_succ]
                refine wpAnyH_done (by kernel_rfl) ?_ _
                go_wp2_with fail
                go_meet
                exact ⟨gw, gr, Aw, nw, cw, msw, Ar, nr, cr, rfl, rfl, hxw, hxr, how, hlw, OwnN.nr hrp, hBE⟩
              · go_simp
                have hglr := hBE.size
                try (have hlt0 := hxw.lt)
                have hstep := new_below wR (.cells #[.int .i64 0, .slice none 0 0] 35)
                have hxr := SBox.new wR 35 #[.int .i64 0, .slice none 0 0]
                replace hBE := hBE.trans (hstep.mono hBE.size)
                replace how := how.on hstep
                replace hrp := hrp.on hstep
                obtain ⟨wlr, hnew⟩ : ∃ wlr : World, wlr = wR.alloc (.cells #[.int .i64 0, .slice none 0 0] 35) := ⟨_, rfl⟩
                rw [← hnew] at hstep hBE hxr how hrp ⊢
                clear hnew hstep
                obtain ⟨gr, hgr⟩ : ∃ gr : Nat, gr = wR.heap.size := ⟨_, rfl⟩
                rw [← hgr] at hxr hglr ⊢
                try (rw [← hgr] at hlt0)
                try (have hne : gw ≠ gr := by omega)
                clear hgr
                refine hK.out _ _ (HK.out _ hBE) (fun hHeld2 => ?_)
                clear hK K hHeld
                have hHeld := hHeld2
                clear hHeld2
                try simp only [Act.put, List.setIfInBounds_toArray, List.set_cons_zero, List.set_cons_succ]
                refine wpAnyH_ready (rs := [5]) (by kernel_rfl) (by simp) (AllReadyH.cons (o := { dst := some 8, op := Op.alloc 24, type := 0, pos := "law.go:98", after := #[], guard := none }) rfl (fun K hK => ?_) (AllReadyH.nil))
                go_simp
                have hglw := hBE.size
                try (have hlt0 := hxr.lt)
                have hstep := new_below wlr (.cells #[.slice none 0 0] 24)
                have hxw := SBox.new wlr 24 #[.slice none 0 0]
                replace hBE := hBE.trans (hstep.mono hBE.size)
                replace how := how.on hstep
                replace hrp := hrp.on hstep
                replace hxr := hxr.on hstep
                obtain ⟨wlw, hnew⟩ : ∃ wlw : World, wlw = wlr.alloc (.cells #[.slice none 0 0] 24) := ⟨_, rfl⟩
                rw [← hnew] at hstep hBE hxw how hrp hxr ⊢
                clear hnew hstep
                obtain ⟨gw, hgw⟩ : ∃ gw : Nat, gw = wlr.heap.size := ⟨_, rfl⟩
                rw [← hgw] at hxw hglw ⊢
                try (rw [← hgw] at hlt0)
                try (have hne : gw ≠ gr := by omega)
                clear hgw
                refine hK.out _ _ (HK.out _ hBE) (fun hHeld2 => ?_)
                clear hK K hHeld
                have hHeld := hHeld2
                clear hHeld2
                try simp only [Act.put, List.setIfInBounds_toArray, List.set_cons_zero, List.set_cons_succ]
                refine wpAnyH_ready (rs := [7]) (by kernel_rfl) (by simp) (AllReadyH.cons (o := { dst := none, op := Op.store 24 (Operand.tmp 8) (Operand.tmp 32), type := 0, pos := "law.go:98", after := #[{ on := 5, ground := Ground.data }, { on := 1, ground := Ground.data }, { on := 4, ground := Ground.chain }, { on := 0, ground := Ground.phase }, { on := 1, ground := Ground.phase }, { on := 2, ground := Ground.textOnly Departure.lateStores }, { on := 3, ground := Ground.textOnly Departure.lateStores }, { on := 4, ground := Ground.textOnly Departure.lateStoresUnsure }, { on := 5, ground := Ground.phase }, { on := 6, ground := Ground.phase }], guard := none }) rfl (fun K hK => ?_) (AllReadyH.nil))
                have hf0 := hxw.frozen 0
                have hz0 := hxw.one
                go_simp
                have hx0 := hxw
                clear hf0 hz0
                have hbel : Below _ _ (wlw.setCell ⟨gw, 0, none⟩ (.slice Aw nw cw)) := hBE.setCell hglw _
                replace how := how.setBox (u := .slice Aw nw cw) hx0 (by decide) (by decide) 0
                replace hrp := hrp.setBox (u := .slice Aw nw cw) hx0 (by decide) 0
                replace hxr := hxr.far (p := gw) (i := 0) (by omega) (.slice Aw nw cw)
                replace hxw := hxw.set 0 (.slice Aw nw cw)
                obtain ⟨wsw, hnew⟩ : ∃ wsw : World, wsw = (wlw.setCell ⟨gw, 0, none⟩ (.slice Aw nw cw)) := ⟨_, rfl⟩
                rw [← hnew] at hbel how hrp hxr hxw ⊢
                clear hnew
                replace hBE := hbel
                clear hbel
                refine hK.out _ _ (HK.out _ hBE) (fun hHeld2 => ?_)
                clear hK K hHeld
                have hHeld := hHeld2
                clear hHeld2
                try simp only [Act.put, List.setIfInBounds_toArray, List.set_cons_zero, List.set_cons_succ]
                refine wpAnyH_ready (rs := [8]) (by kernel_rfl) (by simp) (AllReadyH.cons (o := { dst := none, op := Op.store 35 (Operand.tmp 9) (Operand.tmp 35), type := 0, pos := "law.go:98", after := #[{ on := 6, ground := Ground.data }, { on := 4, ground := Ground.data }, { on := 7, ground := Ground.chain }, { on := 0, ground := Ground.phase }, { on := 1, ground := Ground.phase }, { on := 2, ground := Ground.phase }, { on := 3, ground := Ground.phase }, { on := 4, ground := Ground.phase }, { on := 5, ground := Ground.phase }, { on := 6, ground := Ground.phase }, { on := 7, ground := Ground.phase }], guard := none }) rfl (fun K hK => ?_) (AllReadyH.nil))
                have hf0 := hxr.frozen 0; have hf1 := hxr.frozen 1
                obtain ⟨z0, z1⟩ := hxr.two
                go_simp
                have hx0 := hxr
                clear hf0 hf1 z0 z1
                have hbel : Below _ _ ((wsw.setCell ⟨gr, 0, none⟩ (.int .i64 ae)).setCell ⟨gr, 1, none⟩ (.slice Ar nr cr)) := below_set2 hBE hglr (.int .i64 ae) (.slice Ar nr cr)
                replace how := how.set2Box hx0 (by decide) (by decide) (.int .i64 ae) (.slice Ar nr cr)
                replace hrp := hrp.set2Box hx0 (by decide) (.int .i64 ae) (.slice Ar nr cr)
                replace hxr := hxr.set2 (.int .i64 ae) (.slice Ar nr cr)
                replace hxw := hxw.far2 (p := gr) (by omega) (.int .i64 ae) (.slice Ar nr cr)
                obtain ⟨wsr, hnew⟩ : ∃ wsr : World, wsr = ((wsw.setCell ⟨gr, 0, none⟩ (.int .i64 ae)).setCell ⟨gr, 1, none⟩ (.slice Ar nr cr)) := ⟨_, rfl⟩
                rw [← hnew] at hbel how hrp hxr hxw ⊢
                clear hnew
                replace hBE := hbel
                clear hbel
                refine hK.out _ _ (HK.out _ hBE) (fun hHeld2 => ?_)
                clear hK K hHeld
                have hHeld := hHeld2
                clear hHeld2
                try simp only [Act.put, List.setIfInBounds_toArray, List.set_cons_zero, List.set_cons_succ]
                refine wpAnyH_done (by kernel_rfl) ?_ _
                go_wp2_with fail
                go_meet
                exact ⟨gw, gr, Aw, nw, cw, msw, Ar, nr, cr, rfl, rfl, hxw, hxr, how, hlw, OwnN.nr hrp, hBE⟩
            · go_simp
              have hglw := hBE.size
              try (have hlt0 := hxr.lt)
              have hstep := new_below wF (.cells #[.slice none 0 0] 24)
              have hxw := SBox.new wF 24 #[.slice none 0 0]
              replace hBE := hBE.trans (hstep.mono hBE.size)
              replace how := how.on hstep
              obtain ⟨wlw, hnew⟩ : ∃ wlw : World, wlw = wF.alloc (.cells #[.slice none 0 0] 24) := ⟨_, rfl⟩
              rw [← hnew] at hstep hBE hxw how ⊢
              clear hnew hstep
              obtain ⟨gw, hgw⟩ : ∃ gw : Nat, gw = wF.heap.size := ⟨_, rfl⟩
              rw [← hgw] at hxw hglw ⊢
              try (rw [← hgw] at hlt0)
              try (have hne : gw ≠ gr := by omega)
              clear hgw
              refine hK.out _ _ (HK.out _ hBE) (fun hHeld2 => ?_)
              clear hK K hHeld
              have hHeld := hHeld2
              clear hHeld2
              try simp only [Act.put, List.setIfInBounds_toArray, List.set_cons_zero, List.set_cons_succ]
              refine wpAnyH_ready (rs := [4, 6]) (by kernel_rfl) (by simp) (AllReadyH.cons (o := { dst := some 35, op := Op.call { callee := Callee.value (Operand.func 13), args := #[Operand.tmp 34], argTypes := #[35] }, type := 35, pos := "law.go:98", after := #[{ on := 3, ground := Ground.data }, { on := 1, ground := Ground.chain }], guard := none }) rfl (fun K hK => ?_) (AllReadyH.cons (o := { dst := some 9, op := Op.alloc 35, type := 0, pos := "law.go:98", after := #[], guard := none }) rfl (fun K hK => ?_) (AllReadyH.nil)))
              · go_simp
                go_at_call 13; (with_reducible refine (HRP1.out _ hBE).mono ?_)
                rintro y wR ⟨uR, rfl, hrp, hstep⟩
                replace hBE := hBE.trans (hstep.mono hBE.size)
                replace how := how.on hstep
                replace hxw := hxw.on hstep
                replace hrp := hrp.mono (Nat.zero_le _)
                obtain ⟨Ar, cr, rfl, _⟩ := hrp.nr
                generalize hlenR : ax.length = nr at *
                clear hstep
                refine hK.out _ _ (HK.out _ hBE) (fun hHeld2 => ?_)
                clear hK K hHeld
                have hHeld := hHeld2
                clear hHeld2
                try simp only [Act.put, List.setIfInBounds_toArray, List.set_cons_zero, List.set_cons_succ]
                refine wpAnyH_ready (rs := [6]) (by kernel_rfl) (by simp) (AllReadyH.cons (o := { dst := some 9, op := Op.alloc 35, type := 0, pos := "law.go:98", after := #[], guard := none }) rfl (fun K hK => ?_) (AllReadyH.nil))
                go_simp
                have hglr := hBE.size
                try (have hlt0 := hxw.lt)
                have hstep := new_below wR (.cells #[.int .i64 0, .slice none 0 0] 35)
                have hxr := SBox.new wR 35 #[.int .i64 0, .slice none 0 0]
                replace hBE := hBE.trans (hstep.mono hBE.size)
                replace how := how.on hstep
                replace hxw := hxw.on hstep
                replace hrp := hrp.on hstep
                obtain ⟨wlr, hnew⟩ : ∃ wlr : World, wlr = wR.alloc (.cells #[.int .i64 0, .slice none 0 0] 35) := ⟨_, rfl⟩
                rw [← hnew] at hstep hBE hxr how hxw hrp ⊢
                clear hnew hstep
                obtain ⟨gr, hgr⟩ : ∃ gr : Nat, gr = wR.heap.size := ⟨_, rfl⟩
                rw [← hgr] at hxr hglr ⊢
                try (rw [← hgr] at hlt0)
                try (have hne : gw ≠ gr := by omega)
                clear hgr
                refine hK.out _ _ (HK.out _ hBE) (fun hHeld2 => ?_)
                clear hK K hHeld
                have hHeld := hHeld2
                clear hHeld2
                try simp only [Act.put, List.setIfInBounds_toArray, List.set_cons_zero, List.set_cons_succ]
                refine wpAnyH_ready (rs := [7]) (by kernel_rfl) (by simp) (AllReadyH.cons (o := { dst := none, op := Op.store 24 (Operand.tmp 8) (Operand.tmp 32), type := 0, pos := "law.go:98", after := #[{ on := 5, ground := Ground.data }, { on := 1, ground := Ground.data }, { on := 4, ground := Ground.chain }, { on := 0, ground := Ground.phase }, { on := 1, ground := Ground.phase }, { on := 2, ground := Ground.textOnly Departure.lateStores }, { on := 3, ground := Ground.textOnly Departure.lateStores }, { on := 4, ground := Ground.textOnly Departure.lateStoresUnsure }, { on := 5, ground := Ground.phase }, { on := 6, ground := Ground.phase }], guard := none }) rfl (fun K hK => ?_) (AllReadyH.nil))
                have hf0 := hxw.frozen 0
                have hz0 := hxw.one
                go_simp
                have hx0 := hxw
                clear hf0 hz0
                have hbel : Below _ _ (wlr.setCell ⟨gw, 0, none⟩ (.slice Aw nw cw)) := hBE.setCell hglw _
                replace how := how.setBox (u := .slice Aw nw cw) hx0 (by decide) (by decide) 0
                replace hxw := hxw.set 0 (.slice Aw nw cw)
                replace hrp := hrp.setBox (u := .slice Aw nw cw) hx0 (by decide) 0
                replace hxr := hxr.far (p := gw) (i := 0) (by omega) (.slice Aw nw cw)
                obtain ⟨wsw, hnew⟩ : ∃ wsw : World, wsw = (wlr.setCell ⟨gw, 0, none⟩ (.slice Aw nw cw)) := ⟨_, rfl⟩
                rw [← hnew] at hbel how hxw hrp hxr ⊢
                clear hnew
                replace hBE := hbel
                clear hbel
                refine hK.out _ _ (HK.out _ hBE) (fun hHeld2 => ?_)
                clear hK K hHeld
                have hHeld := hHeld2
                clear hHeld2
                try simp only [Act.put, List.setIfInBounds_toArray, List.set_cons_zero, List.set_cons_succ]
                refine wpAnyH_ready (rs := [8]) (by kernel_rfl) (by simp) (AllReadyH.cons (o := { dst := none, op := Op.store 35 (Operand.tmp 9) (Operand.tmp 35), type := 0, pos := "law.go:98", after := #[{ on := 6, ground := Ground.data }, { on := 4, ground := Ground.data }, { on := 7, ground := Ground.chain }, { on := 0, ground := Ground.phase }, { on := 1, ground := Ground.phase }, { on := 2, ground := Ground.phase }, { on := 3, ground := Ground.phase }, { on := 4, ground := Ground.phase }, { on := 5, ground := Ground.phase }, { on := 6, ground := Ground.phase }, { on := 7, ground := Ground.phase }], guard := none }) rfl (fun K hK => ?_) (AllReadyH.nil))
                have hf0 := hxr.frozen 0; have hf1 := hxr.frozen 1
                obtain ⟨z0, z1⟩ := hxr.two
                go_simp
                have hx0 := hxr
                clear hf0 hf1 z0 z1
                have hbel : Below _ _ ((wsw.setCell ⟨gr, 0, none⟩ (.int .i64 ae)).setCell ⟨gr, 1, none⟩ (.slice Ar nr cr)) := below_set2 hBE hglr (.int .i64 ae) (.slice Ar nr cr)
                replace how := how.set2Box hx0 (by decide) (by decide) (.int .i64 ae) (.slice Ar nr cr)
                replace hxw := hxw.far2 (p := gr) (by omega) (.int .i64 ae) (.slice Ar nr cr)
                replace hrp := hrp.set2Box hx0 (by decide) (.int .i64 ae) (.slice Ar nr cr)
                replace hxr := hxr.set2 (.int .i64 ae) (.slice Ar nr cr)
                obtain ⟨wsr, hnew⟩ : ∃ wsr : World, wsr = ((wsw.setCell ⟨gr, 0, none⟩ (.int .i64 ae)).setCell ⟨gr, 1, none⟩ (.slice Ar nr cr)) := ⟨_, rfl⟩
                rw [← hnew] at hbel how hxw hrp hxr ⊢
                clear hnew
                replace hBE := hbel
                clear hbel
                refine hK.out _ _ (HK.out _ hBE) (fun hHeld2 => ?_)
                clear hK K hHeld
                have hHeld := hHeld2
                clear hHeld2
                try simp only [Act.put, List.setIfInBounds_toArray, List.set_cons_zero, List.set_cons_succ]
                refine wpAnyH_done (by kernel_rfl) ?_ _
                go_wp2_with fail
                go_meet
                exact ⟨gw, gr, Aw, nw, cw, msw, Ar, nr, cr, rfl, rfl, hxw, hxr, how, hlw, OwnN.nr hrp, hBE⟩
              · go_simp
                have hglr := hBE.size
                try (have hlt0 := hxw.lt)
                have hstep := new_below wlw (.cells #[.int .i64 0, .slice none 0 0] 35)
                have hxr := SBox.new wlw 35 #[.int .i64 0, .slice none 0 0]
                replace hBE := hBE.trans (hstep.mono hBE.size)
                replace how := how.on hstep
                replace hxw := hxw.on hstep
                obtain ⟨wlr, hnew⟩ : ∃ wlr : World, wlr = wlw.alloc (.cells #[.int .i64 0, .slice none 0 0] 35) := ⟨_, rfl⟩
                rw [← hnew] at hstep hBE hxr how hxw ⊢
                clear hnew hstep
                obtain ⟨gr, hgr⟩ : ∃ gr : Nat, gr = wlw.heap.size := ⟨_, rfl⟩
                rw [← hgr] at hxr hglr ⊢
                try (rw [← hgr] at hlt0)
                try (have hne : gw ≠ gr := by omega)
                clear hgr
                refine hK.out _ _ (HK.out _ hBE) (fun hHeld2 => ?_)
                clear hK K hHeld
                have hHeld := hHeld2
                clear hHeld2
                try simp only [Act.put, List.setIfInBounds_toArray, List.set_cons_zero, List.set_cons_succ]
                refine wpAnyH_ready (rs := [4]) (by kernel_rfl) (by simp) (AllReadyH.cons (o := { dst := some 35, op := Op.call { callee := Callee.value (Operand.func 13), args := #[Operand.tmp 34], argTypes := #[35] }, type := 35, pos := "law.go:98", after := #[{ on := 3, ground := Ground.data }, { on := 1, ground := Ground.chain }], guard := none }) rfl (fun K hK => ?_) (AllReadyH.nil))
                go_simp
                go_at_call 13; (with_reducible refine (HRP1.out _ hBE).mono ?_)
                rintro y wR ⟨uR, rfl, hrp, hstep⟩
                replace hBE := hBE.trans (hstep.mono hBE.size)
                replace how := how.on hstep
                replace hxw := hxw.on hstep
                replace hxr := hxr.on hstep
                replace hrp := hrp.mono (Nat.zero_le _)
                obtain ⟨Ar, cr, rfl, _⟩ := hrp.nr
                generalize hlenR : ax.length = nr at *
                clear hstep
                refine hK.out _ _ (HK.out _ hBE) (fun hHeld2 => ?_)
                clear hK K hHeld
                have hHeld := hHeld2
                clear hHeld2
                try simp only [Act.put, List.setIfInBounds_toArray, List.set_cons_zero, List.set_cons_succ]
                refine wpAnyH_ready (rs := [7]) (by kernel_rfl) (by simp) (AllReadyH.cons (o := { dst := none, op := Op.store 24 (Operand.tmp 8) (Operand.tmp 32), type := 0, pos := "law.go:98", after := #[{ on := 5, ground := Ground.data }, { on := 1, ground := Ground.data }, { on := 4, ground := Ground.chain }, { on := 0, ground := Ground.phase }, { on := 1, ground := Ground.phase }, { on := 2, ground := Ground.textOnly Departure.lateStores }, { on := 3, ground := Ground.textOnly Departure.lateStores }, { on := 4, ground := Ground.textOnly Departure.lateStoresUnsure }, { on := 5, ground := Ground.phase }, { on := 6, ground := Ground.phase }], guard := none }) rfl (fun K hK => ?_) (AllReadyH.nil))
                have hf0 := hxw.frozen 0
                have hz0 := hxw.one
                go_simp
                have hx0 := hxw
                clear hf0 hz0
                have hbel : Below _ _ (wR.setCell ⟨gw, 0, none⟩ (.slice Aw nw cw)) := hBE.setCell hglw _
                replace how := how.setBox (u := .slice Aw nw cw) hx0 (by decide) (by decide) 0
                replace hxw := hxw.set 0 (.slice Aw nw cw)
                replace hxr := hxr.far (p := gw) (i := 0) (by omega) (.slice Aw nw cw)
                replace hrp := hrp.setBox (u := .slice Aw nw cw) hx0 (by decide) 0
                obtain ⟨wsw, hnew⟩ : ∃ wsw : World, wsw = (wR.setCell ⟨gw, 0, none⟩ (.slice Aw nw cw)) := ⟨_, rfl⟩
                rw [← hnew] at hbel how hxw hxr hrp ⊢
                clear hnew
                replace hBE := hbel
                clear hbel
                refine hK.out _ _ (HK.out _ hBE) (fun hHeld2 => ?_)
                clear hK K hHeld
                have hHeld := hHeld2
                clear hHeld2
                try simp only [Act.put, List.setIfInBounds_toArray, List.set_cons_zero, List.set_cons_succ]
                refine wpAnyH_ready (rs := [8]) (by kernel_rfl) (by simp) (AllReadyH.cons (o := { dst := none, op := Op.store 35 (Operand.tmp 9) (Operand.tmp 35), type := 0, pos := "law.go:98", after := #[{ on := 6, ground := Ground.data }, { on := 4, ground := Ground.data }, { on := 7, ground := Ground.chain }, { on := 0, ground := Ground.phase }, { on := 1, ground := Ground.phase }, { on := 2, ground := Ground.phase }, { on := 3, ground := Ground.phase }, { on := 4, ground := Ground.phase }, { on := 5, ground := Ground.phase }, { on := 6, ground := Ground.phase }, { on := 7, ground := Ground.phase }], guard := none }) rfl (fun K hK => ?_) (AllReadyH.nil))
                have hf0 := hxr.frozen 0; have hf1 := hxr.frozen 1
                obtain ⟨z0, z1⟩ := hxr.two
                go_simp
                have hx0 := hxr
                clear hf0 hf1 z0 z1
                have hbel : Below _ _ ((wsw.setCell ⟨gr, 0, none⟩ (.int .i64 ae)).setCell ⟨gr, 1, none⟩ (.slice Ar nr cr)) := below_set2 hBE hglr (.int .i64 ae) (.slice Ar nr cr)
                replace how := how.set2Box hx0 (by decide) (by decide) (.int .i64 ae) (.slice Ar nr cr)
                replace hxw := hxw.far2 (p := gr) (by omega) (.int .i64 ae) (.slice Ar nr cr)
                replace hxr := hxr.set2 (.int .i64 ae) (.slice Ar nr cr)
                replace hrp := hrp.set2Box hx0 (by decide) (.int .i64 ae) (.slice Ar nr cr)
                obtain ⟨wsr, hnew⟩ : ∃ wsr : World, wsr = ((wsw.setCell ⟨gr, 0, none⟩ (.int .i64 ae)).setCell ⟨gr, 1, none⟩ (.slice Ar nr cr)) := ⟨_, rfl⟩
                rw [← hnew] at hbel how hxw hxr hrp ⊢
                clear hnew
                replace hBE := hbel
                clear hbel
                refine hK.out _ _ (HK.out _ hBE) (fun hHeld2 => ?_)
                clear hK K hHeld
                have hHeld := hHeld2
                clear hHeld2
                try simp only [Act.put, List.setIfInBounds_toArray, List.set_cons_zero, List.set_cons_succ]
                refine wpAnyH_done (by kernel_rfl) ?_ _
                go_wp2_with fail
                go_meet
                exact ⟨gw, gr, Aw, nw, cw, msw, Ar, nr, cr, rfl, rfl, hxw, hxr, how, hlw, OwnN.nr hrp, hBE⟩
            · go_simp
              have hglr := hBE.size
              try (have hlt0 := hxw.lt)
              have hstep := new_below wF (.cells #[.int .i64 0, .slice none 0 0] 35)
              have hxr := SBox.new wF 35 #[.int .i64 0, .slice none 0 0]
              replace hBE := hBE.trans (hstep.mono hBE.size)
              replace how := how.on hstep
              obtain ⟨wlr, hnew⟩ : ∃ wlr : World, wlr = wF.alloc (.cells #[.int .i64 0, .slice none 0 0] 35) := ⟨_, rfl⟩
              rw [← hnew] at hstep hBE hxr how ⊢
              clear hnew hstep
              obtain ⟨gr, hgr⟩ : ∃ gr : Nat, gr = wF.heap.size := ⟨_, rfl⟩
              rw [← hgr] at hxr hglr ⊢
              try (rw [← hgr] at hlt0)
              try (have hne : gw ≠ gr := by omega)
              clear hgr
              refine hK.out _ _ (HK.out _ hBE) (fun hHeld2 => ?_)
              clear hK K hHeld
              have hHeld := hHeld2
              clear hHeld2
              try simp only [Act.put, List.setIfInBounds_toArray, List.set_cons_zero, List.set_cons_succ]
              refine wpAnyH_ready (rs := [4, 5]) (by kernel_rfl) (by simp) (AllReadyH.cons (o := { dst := some 35, op := Op.call { callee := Callee.value (Operand.func 13), args := #[Operand.tmp 34], argTypes := #[35] }, type := 35, pos := "law.go:98", after := #[{ on := 3, ground := Ground.data }, { on := 1, ground := Ground.chain }], guard := none }) rfl (fun K hK => ?_) (AllReadyH.cons (o := { dst := some 8, op := Op.alloc 24, type := 0, pos := "law.go:98", after := #[], guard := none }) rfl (fun K hK => ?_) (AllReadyH.nil)))
              · go_simp
                go_at_call 13; (with_reducible refine (HRP1.out _ hBE).mono ?_)
                rintro y wR ⟨uR, rfl, hrp, hstep⟩
                replace hBE := hBE.trans (hstep.mono hBE.size)
                replace how := how.on hstep
                replace hxr := hxr.on hstep
                replace hrp := hrp.mono (Nat.zero_le _)
                obtain ⟨Ar, cr, rfl, _⟩ := hrp.nr
                generalize hlenR : ax.length = nr at *
                clear hstep
                refine hK.out _ _ (HK.out _ hBE) (fun hHeld2 => ?_)
                clear hK K hHeld
                have hHeld := hHeld2
                clear hHeld2
                try simp only [Act.put, List.setIfInBounds_toArray, List.set_cons_zero, List.set_cons_succ]
                refine wpAnyH_ready (rs := [5]) (by kernel_rfl) (by simp) (AllReadyH.cons (o := { dst := some 8, op := Op.alloc 24, type := 0, pos := "law.go:98", after := #[], guard := none }) rfl (fun K hK => ?_) (AllReadyH.nil))
                go_simp
                have hglw := hBE.size
                try (have hlt0 := hxr.lt)
                have hstep := new_below wR (.cells #[.slice none 0 0] 24)
                have hxw := SBox.new wR 24 #[.slice none 0 0]
                replace hBE := hBE.trans (hstep.mono hBE.size)
                replace how := how.on hstep
                replace hxr := hxr.on hstep
                replace hrp := hrp.on hstep
                obtain ⟨wlw, hnew⟩ : ∃ wlw : World, wlw = wR.alloc (.cells #[.slice none 0 0] 24) := ⟨_, rfl⟩
                rw [← hnew] at hstep hBE hxw how hxr hrp ⊢
                clear hnew hstep
                obtain ⟨gw, hgw⟩ : ∃ gw : Nat, gw = wR.heap.size := ⟨_, rfl⟩
                rw [← hgw] at hxw hglw ⊢
                try (rw [← hgw] at hlt0)
                try (have hne : gw ≠ gr := by omega)
                clear hgw
                refine hK.out _ _ (HK.out _ hBE) (fun hHeld2 => ?_)
                clear hK K hHeld
                have hHeld := hHeld2
                clear hHeld2
                try simp only [Act.put, List.setIfInBounds_toArray, List.set_cons_zero, List.set_cons_succ]
                refine wpAnyH_ready (rs := [7]) (by kernel_rfl) (by simp) (AllReadyH.cons (o := { dst := none, op := Op.store 24 (Operand.tmp 8) (Operand.tmp 32), type := 0, pos := "law.go:98", after := #[{ on := 5, ground := Ground.data }, { on := 1, ground := Ground.data }, { on := 4, ground := Ground.chain }, { on := 0, ground := Ground.phase }, { on := 1, ground := Ground.phase }, { on := 2, ground := Ground.textOnly Departure.lateStores }, { on := 3, ground := Ground.textOnly Departure.lateStores }, { on := 4, ground := Ground.textOnly Departure.lateStoresUnsure }, { on := 5, ground := Ground.phase }, { on := 6, ground := Ground.phase }], guard := none }) rfl (fun K hK => ?_) (AllReadyH.nil))
                have hf0 := hxw.frozen 0
                have hz0 := hxw.one
                go_simp
                have hx0 := hxw
                clear hf0 hz0
                have hbel : Below _ _ (wlw.setCell ⟨gw, 0, none⟩ (.slice Aw nw cw)) := hBE.setCell hglw _
                replace how := how.setBox (u := .slice Aw nw cw) hx0 (by decide) (by decide) 0
                replace hxr := hxr.far (p := gw) (i := 0) (by omega) (.slice Aw nw cw)
                replace hrp := hrp.setBox (u := .slice Aw nw cw) hx0 (by decide) 0
                replace hxw := hxw.set 0 (.slice Aw nw cw)
                obtain ⟨wsw, hnew⟩ : ∃ wsw : World, wsw = (wlw.setCell ⟨gw, 0, none⟩ (.slice Aw nw cw)) := ⟨_, rfl⟩
                rw [← hnew] at hbel how hxr hrp hxw ⊢
                clear hnew
                replace hBE := hbel
                clear hbel
                refine hK.out _ _ (HK.out _ hBE) (fun hHeld2 => ?_)
                clear hK K hHeld
                have hHeld := hHeld2
                clear hHeld2
                try simp only [Act.put, List.setIfInBounds_toArray, List.set_cons_zero, List.set_cons_succ]
                refine wpAnyH_ready (rs := [8]) (by kernel_rfl) (by simp) (AllReadyH.cons (o := { dst := none, op := Op.store 35 (Operand.tmp 9) (Operand.tmp 35), type := 0, pos := "law.go:98", after := #[{ on := 6, ground := Ground.data }, { on := 4, ground := Ground.data }, { on := 7, ground := Ground.chain }, { on := 0, ground := Ground.phase }, { on := 1, ground := Ground.phase }, { on := 2, ground := Ground.phase }, { on := 3, ground := Ground.phase }, { on := 4, ground := Ground.phase }, { on := 5, ground := Ground.phase }, { on := 6, ground := Ground.phase }, { on := 7, ground := Ground.phase }], guard := none }) rfl (fun K hK => ?_) (AllReadyH.nil))
                have hf0 := hxr.frozen 0; have hf1 := hxr.frozen 1
                obtain ⟨z0, z1⟩ := hxr.two
                go_simp
                have hx0 := hxr
                clear hf0 hf1 z0 z1
                have hbel : Below _ _ ((wsw.setCell ⟨gr, 0, none⟩ (.int .i64 ae)).setCell ⟨gr, 1, none⟩ (.slice Ar nr cr)) := below_set2 hBE hglr (.int .i64 ae) (.slice Ar nr cr)
                replace how := how.set2Box hx0 (by decide) (by decide) (.int .i64 ae) (.slice Ar nr cr)
                replace hxr := hxr.set2 (.int .i64 ae) (.slice Ar nr cr)
                replace hrp := hrp.set2Box hx0 (by decide) (.int .i64 ae) (.slice Ar nr cr)
                replace hxw := hxw.far2 (p := gr) (by omega) (.int .i64 ae) (.slice Ar nr cr)
                obtain ⟨wsr, hnew⟩ : ∃ wsr : World, wsr = ((wsw.setCell ⟨gr, 0, none⟩ (.int .i64 ae)).setCell ⟨gr, 1, none⟩ (.slice Ar nr cr)) := ⟨_, rfl⟩
                rw [← hnew] at hbel how hxr hrp hxw ⊢
                clear hnew
                replace hBE := hbel
                clear hbel
                refine hK.out _ _ (HK.out _ hBE) (fun hHeld2 => ?_)
                clear hK K hHeld
                have hHeld := hHeld2
                clear hHeld2
                try simp only [Act.put, List.setIfInBounds_toArray, List.set_cons_zero, List.set_cons_succ]
                refine wpAnyH_done (by kernel_rfl) ?_ _
                go_wp2_with fail
                go_meet
                exact ⟨gw, gr, Aw, nw, cw, msw, Ar, nr, cr, rfl, rfl, hxw, hxr, how, hlw, OwnN.nr hrp, hBE⟩
              · go_simp
                have hglw := hBE.size
                try (have hlt0 := hxr.lt)
                have hstep := new_below wlr (.cells #[.slice none 0 0] 24)
                have hxw := SBox.new wlr 24 #[.slice none 0 0]
                replace hBE := hBE.trans (hstep.mono hBE.size)
                replace how := how.on hstep
                replace hxr := hxr.on hstep
                obtain ⟨wlw, hnew⟩ : ∃ wlw : World, wlw = wlr.alloc (.cells #[.slice none 0 0] 24) := ⟨_, rfl⟩
                rw [← hnew] at hstep hBE hxw how hxr ⊢
                clear hnew hstep
                obtain ⟨gw, hgw⟩ : ∃ gw : Nat, gw = wlr.heap.size := ⟨_, rfl⟩
                rw [← hgw] at hxw hglw ⊢
                try (rw [← hgw] at hlt0)
                try (have hne : gw ≠ gr := by omega)
                clear hgw
                refine hK.out _ _ (HK.out _ hBE) (fun hHeld2 => ?_)
                clear hK K hHeld
                have hHeld := hHeld2
                clear hHeld2
                try simp only [Act.put, List.setIfInBounds_toArray, List.set_cons_zero, List.set_cons_succ]
                refine wpAnyH_ready (rs := [4]) (by kernel_rfl) (by simp) (AllReadyH.cons (o := { dst := some 35, op := Op.call { callee := Callee.value (Operand.func 13), args := #[Operand.tmp 34], argTypes := #[35] }, type := 35, pos := "law.go:98", after := #[{ on := 3, ground := Ground.data }, { on := 1, ground := Ground.chain }], guard := none }) rfl (fun K hK => ?_) (AllReadyH.nil))
                go_simp
                go_at_call 13; (with_reducible refine (HRP1.out _ hBE).mono ?_)
                rintro y wR ⟨uR, rfl, hrp, hstep⟩
                replace hBE := hBE.trans (hstep.mono hBE.size)
                replace how := how.on hstep
                replace hxr := hxr.on hstep
                replace hxw := hxw.on hstep
                replace hrp := hrp.mono (Nat.zero_le _)
                obtain ⟨Ar, cr, rfl, _⟩ := hrp.nr
                generalize hlenR : ax.length = nr at *
                clear hstep
                refine hK.out _ _ (HK.out _ hBE) (fun hHeld2 => ?_)
                clear hK K hHeld
                have hHeld := hHeld2
                clear hHeld2
                try simp only [Act.put, List.setIfInBounds_toArray, List.set_cons_zero, List.set_cons_succ]
                refine wpAnyH_ready (rs := [7]) (by kernel_rfl) (by simp) (AllReadyH.cons (o := { dst := none, op := Op.store 24 (Operand.tmp 8) (Operand.tmp 32), type := 0, pos := "law.go:98", after := #[{ on := 5, ground := Ground.data }, { on := 1, ground := Ground.data }, { on := 4, ground := Ground.chain }, { on := 0, ground := Ground.phase }, { on := 1, ground := Ground.phase }, { on := 2, ground := Ground.textOnly Departure.lateStores }, { on := 3, ground := Ground.textOnly Departure.lateStores }, { on := 4, ground := Ground.textOnly Departure.lateStoresUnsure }, { on := 5, ground := Ground.phase }, { on := 6, ground := Ground.phase }], guard := none }) rfl (fun K hK => ?_) (AllReadyH.nil))
                have hf0 := hxw.frozen 0
                have hz0 := hxw.one
                go_simp
                have hx0 := hxw
                clear hf0 hz0
                have hbel : Below _ _ (wR.setCell ⟨gw, 0, none⟩ (.slice Aw nw cw)) := hBE.setCell hglw _
                replace how := how.setBox (u := .slice Aw nw cw) hx0 (by decide) (by decide) 0
                replace hxr := hxr.far (p := gw) (i := 0) (by omega) (.slice Aw nw cw)
                replace hxw := hxw.set 0 (.slice Aw nw cw)
                replace hrp := hrp.setBox (u := .slice Aw nw cw) hx0 (by decide) 0
                obtain ⟨wsw, hnew⟩ : ∃ wsw : World, wsw = (wR.setCell ⟨gw, 0, none⟩ (.slice Aw nw cw)) := ⟨_, rfl⟩
                rw [← hnew] at hbel how hxr hxw hrp ⊢
                clear hnew
                replace hBE := hbel
                clear hbel
                refine hK.out _ _ (HK.out _ hBE) (fun hHeld2 => ?_)
                clear hK K hHeld
                have hHeld := hHeld2
                clear hHeld2
                try simp only [Act.put, List.setIfInBounds_toArray, List.set_cons_zero, List.set_cons_succ]
                refine wpAnyH_ready (rs := [8]) (by kernel_rfl) (by simp) (AllReadyH.cons (o := { dst := none, op := Op.store 35 (Operand.tmp 9) (Operand.tmp 35), type := 0, pos := "law.go:98", after := #[{ on := 6, ground := Ground.data }, { on := 4, ground := Ground.data }, { on := 7, ground := Ground.chain }, { on := 0, ground := Ground.phase }, { on := 1, ground := Ground.phase }, { on := 2, ground := Ground.phase }, { on := 3, ground := Ground.phase }, { on := 4, ground := Ground.phase }, { on := 5, ground := Ground.phase }, { on := 6, ground := Ground.phase }, { on := 7, ground := Ground.phase }], guard := none }) rfl (fun K hK => ?_) (AllReadyH.nil))
                have hf0 := hxr.frozen 0; have hf1 := hxr.frozen 1
                obtain ⟨z0, z1⟩ := hxr.two
                go_simp
                have hx0 := hxr
                clear hf0 hf1 z0 z1
                have hbel : Below _ _ ((wsw.setCell ⟨gr, 0, none⟩ (.int .i64 ae)).setCell ⟨gr, 1, none⟩ (.slice Ar nr cr)) := below_set2 hBE hglr (.int .i64 ae) (.slice Ar nr cr)
                replace how := how.set2Box hx0 (by decide) (by decide) (.int .i64 ae) (.slice Ar nr cr)
                replace hxr := hxr.set2 (.int .i64 ae) (.slice Ar nr cr)
                replace hxw := hxw.far2 (p := gr) (by omega) (.int .i64 ae) (.slice Ar nr cr)
                replace hrp := hrp.set2Box hx0 (by decide) (.int .i64 ae) (.slice Ar nr cr)
                obtain ⟨wsr, hnew⟩ : ∃ wsr : World, wsr = ((wsw.setCell ⟨gr, 0, none⟩ (.int .i64 ae)).setCell ⟨gr, 1, none⟩ (.slice Ar nr cr)) := ⟨_, rfl⟩
                rw [← hnew] at hbel how hxr hxw hrp ⊢
                clear hnew
                replace hBE := hbel
                clear hbel
                refine hK.out _ _ (HK.out _ hBE) (fun hHeld2 => ?_)
                clear hK K hHeld
                have hHeld := hHeld2
                clear hHeld2
                try simp only [Act.put, List.setIfInBounds_toArray, List.set_cons_zero, List.set_cons_succ]
                refine wpAnyH_done (by kernel_rfl) ?_ _
                go_wp2_with fail
                go_meet
                exact ⟨gw, gr, Aw, nw, cw, msw, Ar, nr, cr, rfl, rfl, hxw, hxr, how, hlw, OwnN.nr hrp, hBE⟩
          · go_simp
            have hglw := hBE.size
            try (have hlt0 := hxr.lt)
            have hstep := new_below w0r (.cells #[.slice none 0 0] 24)
            have hxw := SBox.new w0r 24 #[.slice none 0 0]
            replace hBE := hBE.trans (hstep.mono hBE.size)
            obtain ⟨wlw, hnew⟩ : ∃ wlw : World, wlw = w0r.alloc (.cells #[.slice none 0 0] 24) := ⟨_, rfl⟩
            rw [← hnew] at hstep hBE hxw  ⊢
            clear hnew hstep
            obtain ⟨gw, hgw⟩ : ∃ gw : Nat, gw = w0r.heap.size := ⟨_, rfl⟩
            rw [← hgw] at hxw hglw ⊢
            try (rw [← hgw] at hlt0)
            try (have hne : gw ≠ gr := by omega)
            clear hgw
            refine hK.out _ _ (HK.out _ hBE) (fun hHeld2 => ?_)
            clear hK K hHeld
            have hHeld := hHeld2
            clear hHeld2
            try simp only [Act.put, List.setIfInBounds_toArray, List.set_cons_zero, List.set_cons_succ]
            refine wpAnyH_ready (rs := [1, 6]) (by kernel_rfl) (by simp) (AllReadyH.cons (o := { dst := some 32, op := Op.call { callee := Callee.value (Operand.func 8), args := #[Operand.tmp 31], argTypes := #[24] }, type := 24, pos := "law.go:98", after := #[{ on := 0, ground := Ground.data }], guard := none }) rfl (fun K hK => ?_) (AllReadyH.cons (o := { dst := some 9, op := Op.alloc 35, type := 0, pos := "law.go:98", after := #[], guard := none }) rfl (fun K hK => ?_) (AllReadyH.nil)))
            · go_simp
              go_at_call 8; (with_reducible refine (HFS.out _ hBE).mono ?_)
              rintro y wF ⟨⟨Aw, cw, msw, rfl, how, hlw⟩, hstep⟩
              replace hBE := hBE.trans (hstep.mono hBE.size)
              replace hxw := hxw.on hstep
              replace how := how.mono (Nat.zero_le _)
              generalize hlenW : msw.length = nw at *
              clear hstep
              refine hK.out _ _ (HK.out _ hBE) (fun hHeld2 => ?_)
              clear hK K hHeld
              have hHeld := hHeld2
              clear hHeld2
              try simp only [Act.put, List.setIfInBounds_toArray, List.set_cons_zero, List.set_cons_succ]
              refine wpAnyH_ready (rs := [4, 6]) (by kernel_rfl) (by simp) (AllReadyH.cons (o := { dst := some 35, op := Op.call { callee := Callee.value (Operand.func 13), args := #[Operand.tmp 34], argTypes := #[35] }, type := 35, pos := "law.go:98", after := #[{ on := 3, ground := Ground.data }, { on := 1, ground := Ground.chain }], guard := none }) rfl (fun K hK => ?_) (AllReadyH.cons (o := { dst := some 9, op := Op.alloc 35, type := 0, pos := "law.go:98", after := #[], guard := none }) rfl (fun K hK => ?_) (AllReadyH.nil)))
              · go_simp
                go_at_call 13; (with_reducible refine (HRP1.out _ hBE).mono ?_)
                rintro y wR ⟨uR, rfl, hrp, hstep⟩
                replace hBE := hBE.trans (hstep.mono hBE.size)
                replace hxw := hxw.on hstep
                replace how := how.on hstep
                replace hrp := hrp.mono (Nat.zero_le _)
                obtain ⟨Ar, cr, rfl, _⟩ := hrp.nr
                generalize hlenR : ax.length = nr at *
                clear hstep
                refine hK.out _ _ (HK.out _ hBE) (fun hHeld2 => ?_)
                clear hK K hHeld
                have hHeld := hHeld2
                clear hHeld2
                try simp only [Act.put, List.setIfInBounds_toArray, List.set_cons_zero, List.set_cons_succ]
                refine wpAnyH_ready (rs := [6]) (by kernel_rfl) (by simp) (AllReadyH.cons (o := { dst := some 9, op := Op.alloc 35, type := 0, pos := "law.go:98", after := #[], guard := none }) rfl (fun K hK => ?_) (AllReadyH.nil))
                go_simp
                have hglr := hBE.size
                try (have hlt0 := hxw.lt)
                have hstep := new_below wR (.cells #[.int .i64 0, .slice none 0 0] 35)
                have hxr := SBox.new wR 35 #[.int .i64 0, .slice none 0 0]
                replace hBE := hBE.trans (hstep.mono hBE.size)
                replace hxw := hxw.on hstep
                replace how := how.on hstep
                replace hrp := hrp.on hstep
                obtain ⟨wlr, hnew⟩ : ∃ wlr : World, wlr = wR.alloc (.cells #[.int .i64 0, .slice none 0 0] 35) := ⟨_, rfl⟩
                rw [← hnew] at hstep hBE hxr hxw how hrp ⊢
                clear hnew hstep
                obtain ⟨gr, hgr⟩ : ∃ gr : Nat, gr = wR.heap.size := ⟨_, rfl⟩
                rw [← hgr] at hxr hglr ⊢
                try (rw [← hgr] at hlt0)
                try (have hne : gw ≠ gr := by omega)
                clear hgr
                refine hK.out _ _ (HK.out _ hBE) (fun hHeld2 => ?_)
                clear hK K hHeld
                have hHeld := hHeld2
                clear hHeld2
                try simp only [Act.put, List.setIfInBounds_toArray, List.set_cons_zero, List.set_cons_succ]
                refine wpAnyH_ready (rs := [7]) (by kernel_rfl) (by simp) (AllReadyH.cons (o := { dst := none, op := Op.store 24 (Operand.tmp 8) (Operand.tmp 32), type := 0, pos := "law.go:98", after := #[{ on := 5, ground := Ground.data }, { on := 1, ground := Ground.data }, { on := 4, ground := Ground.chain }, { on := 0, ground := Ground.phase }, { on := 1, ground := Ground.phase }, { on := 2, ground := Ground.textOnly Departure.lateStores }, { on := 3, ground := Ground.textOnly Departure.lateStores }, { on := 4, ground := Ground.textOnly Departure.lateStoresUnsure }, { on := 5, ground := Ground.phase }, { on := 6, ground := Ground.phase }], guard := none }) rfl (fun K hK => ?_) (AllReadyH.nil))
                have hf0 := hxw.frozen 0
                have hz0 := hxw.one
                go_simp
                have hx0 := hxw
                clear hf0 hz0
                have hbel : Below _ _ (wlr.setCell ⟨gw, 0, none⟩ (.slice Aw nw cw)) := hBE.setCell hglw _
                replace hxw := hxw.set 0 (.slice Aw nw cw)
                replace how := how.setBox (u := .slice Aw nw cw) hx0 (by decide) (by decide) 0
                replace hrp := hrp.setBox (u := .slice Aw nw cw) hx0 (by decide) 0
                replace hxr := hxr.far (p := gw) (i := 0) (by omega) (.slice Aw nw cw)
                obtain ⟨wsw, hnew⟩ : ∃ wsw : World, wsw = (wlr.setCell ⟨gw, 0, none⟩ (.slice Aw nw cw)) := ⟨_, rfl⟩
                rw [← hnew] at hbel hxw how hrp hxr ⊢
                clear hnew
                replace hBE := hbel
                clear hbel
                refine hK.out _ _ (HK.out _ hBE) (fun hHeld2 => ?_)
                clear hK K hHeld
                have hHeld := hHeld2
                clear hHeld2
                try simp only [Act.put, List.setIfInBounds_toArray, List.set_cons_zero, List.set_cons_succ]
                refine wpAnyH_ready (rs := [8]) (by kernel_rfl) (by simp) (AllReadyH.cons (o := { dst := none, op := Op.store 35 (Operand.tmp 9) (Operand.tmp 35), type := 0, pos := "law.go:98", after := #[{ on := 6, ground := Ground.data }, { on := 4, ground := Ground.data }, { on := 7, ground := Ground.chain }, { on := 0, ground := Ground.phase }, { on := 1, ground := Ground.phase }, { on := 2, ground := Ground.phase }, { on := 3, ground := Ground.phase }, { on := 4, ground := Ground.phase }, { on := 5, ground := Ground.phase }, { on := 6, ground := Ground.phase }, { on := 7, ground := Ground.phase }], guard := none }) rfl (fun K hK => ?_) (AllReadyH.nil))
                have hf0 := hxr.frozen 0; have hf1 := hxr.frozen 1
                obtain ⟨z0, z1⟩ := hxr.two
                go_simp
                have hx0 := hxr
                clear hf0 hf1 z0 z1
                have hbel : Below _ _ ((wsw.setCell ⟨gr, 0, none⟩ (.int .i64 ae)).setCell ⟨gr, 1, none⟩ (.slice Ar nr cr)) := below_set2 hBE hglr (.int .i64 ae) (.slice Ar nr cr)
                replace hxw := hxw.far2 (p := gr) (by omega) (.int .i64 ae) (.slice Ar nr cr)
                replace how := how.set2Box hx0 (by decide) (by decide) (.int .i64 ae) (.slice Ar nr cr)
                replace hrp := hrp.set2Box hx0 (by decide) (.int .i64 ae) (.slice Ar nr cr)
                replace hxr := hxr.set2 (.int .i64 ae) (.slice Ar nr cr)
                obtain ⟨wsr, hnew⟩ : ∃ wsr : World, wsr = ((wsw.setCell ⟨gr, 0, none⟩ (.int .i64 ae)).setCell ⟨gr, 1, none⟩ (.slice Ar nr cr)) := ⟨_, rfl⟩
                rw [← hnew] at hbel hxw how hrp hxr ⊢
                clear hnew
                replace hBE := hbel
                clear hbel
                refine hK.out _ _ (HK.out _ hBE) (fun hHeld2 => ?_)
                clear hK K hHeld
                have hHeld := hHeld2
                clear hHeld2
                try simp only [Act.put, List.setIfInBounds_toArray, List.set_cons_zero, List.set_cons_succ]
                refine wpAnyH_done (by kernel_rfl) ?_ _
                go_wp2_with fail
                go_meet
                exact ⟨gw, gr, Aw, nw, cw, msw, Ar, nr, cr, rfl, rfl, hxw, hxr, how, hlw, OwnN.nr hrp, hBE⟩
              · go_simp
                have hglr := hBE.size
                try (have hlt0 := hxw.lt)
                have hstep := new_below wF (.cells #[.int .i64 0, .slice none 0 0] 35)
                have hxr := SBox.new wF 35 #[.int .i64 0, .slice none 0 0]
                replace hBE := hBE.trans (hstep.mono hBE.size)
                replace hxw := hxw.on hstep
                replace how := how.on hstep
                obtain ⟨wlr, hnew⟩ : ∃ wlr : World, wlr = wF.alloc (.cells #[.int .i64 0, .slice none 0 0] 35) := ⟨_, rfl⟩
                rw [← hnew] at hstep hBE hxr hxw how ⊢
                clear hnew hstep
                obtain ⟨gr, hgr⟩ : ∃ gr : Nat, gr = wF.heap.size := ⟨_, rfl⟩
                rw [← hgr] at hxr hglr ⊢
                try (rw [← hgr] at hlt0)
                try (have hne : gw ≠ gr := by omega)
                clear hgr
                refine hK.out _ _ (HK.out _ hBE) (fun hHeld2 => ?_)
                clear hK K hHeld
                have hHeld := hHeld2
                clear hHeld2
                try simp only [Act.put, List.setIfInBounds_toArray, List.set_cons_zero, List.set_cons_succ]
                refine wpAnyH_ready (rs := [4]) (by kernel_rfl) (by simp) (AllReadyH.cons (o := { dst := some 35, op := Op.call { callee := Callee.value (Operand.func 13), args := #[Operand.tmp 34], argTypes := #[35] }, type := 35, pos := "law.go:98", after := #[{ on := 3, ground := Ground.data }, { on := 1, ground := Ground.chain }], guard := none }) rfl (fun K hK => ?_) (AllReadyH.nil))
                go_simp
                go_at_call 13; (with_reducible refine (HRP1.out _ hBE).mono ?_)
                rintro y wR ⟨uR, rfl, hrp, hstep⟩
                replace hBE := hBE.trans (hstep.mono hBE.size)
                replace hxw := hxw.on hstep
                replace how := how.on hstep
                replace hxr := hxr.on hstep
                replace hrp := hrp.mono (Nat.zero_le _)
                obtain ⟨Ar, cr, rfl, _⟩ := hrp.nr
                generalize hlenR : ax.length = nr at *
                clear hstep
                refine hK.out _ _ (HK.out _ hBE) (fun hHeld2 => ?_)
                clear hK K hHeld
                have hHeld := hHeld2
                clear hHeld2
                try simp only [Act.put, List.setIfInBounds_toArray, List.set_cons_zero, List.set_cons_succ]
                refine wpAnyH_ready (rs := [7]) (by kernel_rfl) (by simp) (AllReadyH.cons (o := { dst := none, op := Op.store 24 (Operand.tmp 8) (Operand.tmp 32), type := 0, pos := "law.go:98", after := #[{ on := 5, ground := Ground.data }, { on := 1, ground := Ground.data }, { on := 4, ground := Ground.chain }, { on := 0, ground := Ground.phase }, { on := 1, ground := Ground.phase }, { on := 2, ground := Ground.textOnly Departure.lateStores }, { on := 3, ground := Ground.textOnly Departure.lateStores }, { on := 4, ground := Ground.textOnly Departure.lateStoresUnsure }, { on := 5, ground := Ground.phase }, { on := 6, ground := Ground.phase }], guard := none }) rfl (fun K hK => ?_) (AllReadyH.nil))
                have hf0 := hxw.frozen 0
                have hz0 := hxw.one
                go_simp
                have hx0 := hxw
                clear hf0 hz0
                have hbel : Below _ _ (wR.setCell ⟨gw, 0, none⟩ (.slice Aw nw cw)) := hBE.setCell hglw _
                replace hxw := hxw.set 0 (.slice Aw nw cw)
                replace how := how.setBox (u := .slice Aw nw cw) hx0 (by decide) (by decide) 0
                replace hxr := hxr.far (p := gw) (i := 0) (by omega) (.slice Aw nw cw)
                replace hrp := hrp.setBox (u := .slice Aw nw cw) hx0 (by decide) 0
                obtain ⟨wsw, hnew⟩ : ∃ wsw : World, wsw = (wR.setCell ⟨gw, 0, none⟩ (.slice Aw nw cw)) := ⟨_, rfl⟩
                rw [← hnew] at hbel hxw how hxr hrp ⊢
                clear hnew
                replace hBE := hbel
                clear hbel
                refine hK.out _ _ (HK.out _ hBE) (fun hHeld2 => ?_)
                clear hK K hHeld
                have hHeld := hHeld2
                clear hHeld2
                try simp only [Act.put, List.setIfInBounds_toArray, List.set_cons_zero, List.set_cons_succ]
                refine wpAnyH_ready (rs := [8]) (by kernel_rfl) (by simp) (AllReadyH.cons (o := { dst := none, op := Op.store 35 (Operand.tmp 9) (Operand.tmp 35), type := 0, pos := "law.go:98", after := #[{ on := 6, ground := Ground.data }, { on := 4, ground := Ground.data }, { on := 7, ground := Ground.chain }, { on := 0, ground := Ground.phase }, { on := 1, ground := Ground.phase }, { on := 2, ground := Ground.phase }, { on := 3, ground := Ground.phase }, { on := 4, ground := Ground.phase }, { on := 5, ground := Ground.phase }, { on := 6, ground := Ground.phase }, { on := 7, ground := Ground.phase }], guard := none }) rfl (fun K hK => ?_) (AllReadyH.nil))
                have hf0 := hxr.frozen 0; have hf1 := hxr.frozen 1
                obtain ⟨z0, z1⟩ := hxr.two
                go_simp
                have hx0 := hxr
                clear hf0 hf1 z0 z1
                have hbel : Below _ _ ((wsw.setCell ⟨gr, 0, none⟩ (.int .i64 ae)).setCell ⟨gr, 1, none⟩ (.slice Ar nr cr)) := below_set2 hBE hglr (.int .i64 ae) (.slice Ar nr cr)
                replace hxw := hxw.far2 (p := gr) (by omega) (.int .i64 ae) (.slice Ar nr cr)
                replace how := how.set2Box hx0 (by decide) (by decide) (.int .i64 ae) (.slice Ar nr cr)
                replace hxr := hxr.set2 (.int .i64 ae) (.slice Ar nr cr)
                replace hrp := hrp.set2Box hx0 (by decide) (.int .i64 ae) (.slice Ar nr cr)
                obtain ⟨wsr, hnew⟩ : ∃ wsr : World, wsr = ((wsw.setCell ⟨gr, 0, none⟩ (.int .i64 ae)).setCell ⟨gr, 1, none⟩ (.slice Ar nr cr)) := ⟨_, rfl⟩
                rw [← hnew] at hbel hxw how hxr hrp ⊢
                clear hnew
                replace hBE := hbel
                clear hbel
                refine hK.out _ _ (HK.out _ hBE) (fun hHeld2 => ?_)
                clear hK K hHeld
                have hHeld := hHeld2
                clear hHeld2
                try simp only [Act.put, List.setIfInBounds_toArray, List.set_cons_zero, List.set_cons_succ]
                refine wpAnyH_done (by kernel_rfl) ?_ _
                go_wp2_with fail
                go_meet
                exact ⟨gw, gr, Aw, nw, cw, msw, Ar, nr, cr, rfl, rfl, hxw, hxr, how, hlw, OwnN.nr hrp, hBE⟩
            · go_simp
              have hglr := hBE.size
              try (have hlt0 := hxw.lt)
              have hstep := new_below wlw (.cells #[.int .i64 0, .slice none 0 0] 35)
              have hxr := SBox.new wlw 35 #[.int .i64 0, .slice none 0 0]
              replace hBE := hBE.trans (hstep.mono hBE.size)
              replace hxw := hxw.on hstep
              obtain ⟨wlr, hnew⟩ : ∃ wlr : World, wlr = wlw.alloc (.cells #[.int .i64 0, .slice none 0 0] 35) := ⟨_, rfl⟩
              rw [← hnew] at hstep hBE hxr hxw ⊢
              clear hnew hstep
              obtain ⟨gr, hgr⟩ : ∃ gr : Nat, gr = wlw.heap.size := ⟨_, rfl⟩
              rw [← hgr] at hxr hglr ⊢
              try (rw [← hgr] at hlt0)
              try (have hne : gw ≠ gr := by omega)
              clear hgr
              refine hK.out _ _ (HK.out _ hBE) (fun hHeld2 => ?_)
              clear hK K hHeld
              have hHeld := hHeld2
              clear hHeld2
              try simp only [Act.put, List.setIfInBounds_toArray, List.set_cons_zero, List.set_cons_succ]
              refine wpAnyH_ready (rs := [1]) (by kernel_rfl) (by simp) (AllReadyH.cons (o := { dst := some 32, op := Op.call { callee := Callee.value (Operand.func 8), args := #[Operand.tmp 31], argTypes := #[24] }, type := 24, pos := "law.go:98", after := #[{ on := 0, ground := Ground.data }], guard := none }) rfl (fun K hK => ?_) (AllReadyH.nil))
              go_simp
              go_at_call 8; (with_reducible refine (HFS.out _ hBE).mono ?_)
              rintro y wF ⟨⟨Aw, cw, msw, rfl, how, hlw⟩, hstep⟩
              replace hBE := hBE.trans (hstep.mono hBE.size)
              replace hxw := hxw.on hstep
              replace hxr := hxr.on hstep
              replace how := how.mono (Nat.zero_le _)
              generalize hlenW : msw.length = nw at *
              clear hstep
              refine hK.out _ _ (HK.out _ hBE) (fun hHeld2 => ?_)
              clear hK K hHeld
              have hHeld := hHeld2
              clear hHeld2
              try simp only [Act.put, List.setIfInBounds_toArray, List.set_cons_zero, List.set_cons_succ]
              refine wpAnyH_ready (rs := [4]) (by kernel_rfl) (by simp) (AllReadyH.cons (o := { dst := some 35, op := Op.call { callee := Callee.value (Operand.func 13), args := #[Operand.tmp 34], argTypes := #[35] }, type := 35, pos := "law.go:98", after := #[{ on := 3, ground := Ground.data }, { on := 1, ground := Ground.chain }], guard := none }) rfl (fun K hK => ?_) (AllReadyH.nil))
              go_simp
              go_at_call 13; (with_reducible refine (HRP1.out _ hBE).mono ?_)
              rintro y wR ⟨uR, rfl, hrp, hstep⟩
              replace hBE := hBE.trans (hstep.mono hBE.size)
              replace hxw := hxw.on hstep
              replace hxr := hxr.on hstep
              replace how := how.on hstep
              replace hrp := hrp.mono (Nat.zero_le _)
              obtain ⟨Ar, cr, rfl, _⟩ := hrp.nr
              generalize hlenR : ax.length = nr at *
              clear hstep
              refine hK.out _ _ (HK.out _ hBE) (fun hHeld2 => ?_)
              clear hK K hHeld
              have hHeld := hHeld2
              clear hHeld2
              try simp only [Act.put, List.setIfInBounds_toArray, List.set_cons_zero, List.set_cons_succ]
              refine wpAnyH_ready (rs := [7]) (by kernel_rfl) (by simp) (AllReadyH.cons (o := { dst := none, op := Op.store 24 (Operand.tmp 8) (Operand.tmp 32), type := 0, pos := "law.go:98", after := #[{ on := 5, ground := Ground.data }, { on := 1, ground := Ground.data }, { on := 4, ground := Ground.chain }, { on := 0, ground := Ground.phase }, { on := 1, ground := Ground.phase }, { on := 2, ground := Ground.textOnly Departure.lateStores }, { on := 3, ground := Ground.textOnly Departure.lateStores }, { on := 4, ground := Ground.textOnly Departure.lateStoresUnsure }, { on := 5, ground := Ground.phase }, { on := 6, ground := Ground.phase }], guard := none }) rfl (fun K hK => ?_) (AllReadyH.nil))
              have hf0 := hxw.frozen 0
              have hz0 := hxw.one
              go_simp
              have hx0 := hxw
              clear hf0 hz0
              have hbel : Below _ _ (wR.setCell ⟨gw, 0, none⟩ (.slice Aw nw cw)) := hBE.setCell hglw _
              replace hxw := hxw.set 0 (.slice Aw nw cw)
              replace hxr := hxr.far (p := gw) (i := 0) (by omega) (.slice Aw nw cw)
              replace how := how.setBox (u := .slice Aw nw cw) hx0 (by decide) (by decide) 0
              replace hrp := hrp.setBox (u := .slice Aw nw cw) hx0 (by decide) 0
              obtain ⟨wsw, hnew⟩ : ∃ wsw : World, wsw = (wR.setCell ⟨gw, 0, none⟩ (.slice Aw nw cw)) := ⟨_, rfl⟩
              rw [← hnew] at hbel hxw hxr how hrp ⊢
              clear hnew
              replace hBE := hbel
              clear hbel
              refine hK.out _ _ (HK.out _ hBE) (fun hHeld2 => ?_)
              clear hK K hHeld
              have hHeld := hHeld2
              clear hHeld2
              try simp only [Act.put, List.setIfInBounds_toArray, List.set_cons_zero, List.set_cons_succ]
              refine wpAnyH_ready (rs := [8]) (by kernel_rfl) (by simp) (AllReadyH.cons (o := { dst := none, op := Op.store 35 (Operand.tmp 9) (Operand.tmp 35), type := 0, pos := "law.go:98", after := #[{ on := 6, ground := Ground.data }, { on := 4, ground := Ground.data }, { on := 7, ground := Ground.chain }, { on := 0, ground := Ground.phase }, { on := 1, ground := Ground.phase }, { on := 2, ground := Ground.phase }, { on := 3, ground := Ground.phase }, { on := 4, ground := Ground.phase }, { on := 5, ground := Ground.phase }, { on := 6, ground := Ground.phase }, { on := 7, ground := Ground.phase }], guard := none }) rfl (fun K hK => ?_) (AllReadyH.nil))
              have hf0 := hxr.frozen 0; have hf1 := hxr.frozen 1
              obtain ⟨z0, z1⟩ := hxr.two
              go_simp
              have hx0 := hxr
              clear hf0 hf1 z0 z1
              have hbel : Below _ _ ((wsw.setCell ⟨gr, 0, none⟩ (.int .i64 ae)).setCell ⟨gr, 1, none⟩ (.slice Ar nr cr)) := below_set2 hBE hglr (.int .i64 ae) (.slice Ar nr cr)
              replace hxw := hxw.far2 (p := gr) (by omega) (.int .i64 ae) (.slice Ar nr cr)
              replace hxr := hxr.set2 (.int .i64 ae) (.slice Ar nr cr)
              replace how := how.set2Box hx0 (by decide) (by decide) (.int .i64 ae) (.slice Ar nr cr)
              replace hrp := hrp.set2Box hx0 (by decide) (.int .i64 ae) (.slice Ar nr cr)
              obtain ⟨wsr, hnew⟩ : ∃ wsr : World, wsr = ((wsw.setCell ⟨gr, 0, none⟩ (.int .i64 ae)).setCell ⟨gr, 1, none⟩ (.slice Ar nr cr)) := ⟨_, rfl⟩
              rw [← hnew] at hbel hxw hxr how hrp ⊢
              clear hnew
              replace hBE := hbel
              clear hbel
              refine hK.out _ _ (HK.out _ hBE) (fun hHeld2 => ?_)
              clear hK K hHeld
              have hHeld := hHeld2
              clear hHeld2
              try simp only [Act.put, List.setIfInBounds_toArray, List.set_cons_zero, List.set_cons_succ]
              refine wpAnyH_done (by kernel_rfl) ?_ _
              go_wp2_with fail
              go_meet
              exact ⟨gw, gr, Aw, nw, cw, msw, Ar, nr, cr, rfl, rfl, hxw, hxr, how, hlw, OwnN.nr hrp, hBE⟩
          · go_simp
            have hglr := hBE.size
            try (have hlt0 := hxw.lt)
            have hstep := new_below w0r (.cells #[.int .i64 0, .slice none 0 0] 35)
            have hxr := SBox.new w0r 35 #[.int .i64 0, .slice none 0 0]
            replace hBE := hBE.trans (hstep.mono hBE.size)
            obtain ⟨wlr, hnew⟩ : ∃ wlr : World, wlr = w0r.alloc (.cells #[.int .i64 0, .slice none 0 0] 35) := ⟨_, rfl⟩
            rw [← hnew] at hstep hBE hxr  ⊢
            clear hnew hstep
            obtain ⟨gr, hgr⟩ : ∃ gr : Nat, gr = w0r.heap.size := ⟨_, rfl⟩
            rw [← hgr] at hxr hglr ⊢
            try (rw [← hgr] at hlt0)
            try (have hne : gw ≠ gr := by omega)
            clear hgr
            refine hK.out _ _ (HK.out _ hBE) (fun hHeld2 => ?_)
            clear hK K hHeld
            have hHeld := hHeld2
            clear hHeld2
            try simp only [Act.put, List.setIfInBounds_toArray, List.set_cons_zero, List.set_cons_succ]
            refine wpAnyH_ready (rs := [1, 5]) (by kernel_rfl) (by simp) (AllReadyH.cons (o := { dst := some 32, op := Op.call { callee := Callee.value (Operand.func 8), args := #[Operand.tmp 31], argTypes := #[24] }, type := 24, pos := "law.go:98", after := #[{ on := 0, ground := Ground.data }], guard := none }) rfl (fun K hK => ?_) (AllReadyH.cons (o := { dst := some 8, op := Op.alloc 24, type := 0, pos := "law.go:98", after := #[], guard := none }) rfl (fun K hK => ?_) (AllReadyH.nil)))
            · go_simp
              go_at_call 8; (with_reducible refine (HFS.out _ hBE).mono ?_)
              rintro y wF ⟨⟨Aw, cw, msw, rfl, how, hlw⟩, hstep⟩
              replace hBE := hBE.trans (hstep.mono hBE.size)
              replace hxr := hxr.on hstep
              replace how := how.mono (Nat.zero_le _)
              generalize hlenW : msw.length = nw at *
              clear hstep
              refine hK.out _ _ (HK.out _ hBE) (fun hHeld2 => ?_)
              clear hK K hHeld
              have hHeld := hHeld2
              clear hHeld2
              try simp only [Act.put, List.setIfInBounds_toArray, List.set_cons_zero, List.set_cons_succ]
              refine wpAnyH_ready (rs := [4, 5]) (by kernel_rfl) (by simp) (AllReadyH.cons (o := { dst := some 35, op := Op.call { callee := Callee.value (Operand.func 13), args := #[Operand.tmp 34], argTypes := #[35] }, type := 35, pos := "law.go:98", after := #[{ on := 3, ground := Ground.data }, { on := 1, ground := Ground.chain }], guard := none }) rfl (fun K hK => ?_) (AllReadyH.cons (o := { dst := some 8, op := Op.alloc 24, type := 0, pos := "law.go:98", after := #[], guard := none }) rfl (fun K hK => ?_) (AllReadyH.nil)))
              · go_simp
                go_at_call 13; (with_reducible refine (HRP1.out _ hBE).mono ?_)
                rintro y wR ⟨uR, rfl, hrp, hstep⟩
                replace hBE := hBE.trans (hstep.mono hBE.size)
                replace hxr := hxr.on hstep
                replace how := how.on hstep
                replace hrp := hrp.mono (Nat.zero_le _)
                obtain ⟨Ar, cr, rfl, _⟩ := hrp.nr
                generalize hlenR : ax.length = nr at *
                clear hstep
                refine hK.out _ _ (HK.out _ hBE) (fun hHeld2 => ?_)
                clear hK K hHeld
                have hHeld := hHeld2
                clear hHeld2
                try simp only [Act.put, List.setIfInBounds_toArray, List.set_cons_zero, List.set_cons_succ]
                refine wpAnyH_ready (rs := [5]) (by kernel_rfl) (by simp) (AllReadyH.cons (o := { dst := some 8, op := Op.alloc 24, type := 0, pos := "law.go:98", after := #[], guard := none }) rfl (fun K hK => ?_) (AllReadyH.nil))
                go_simp
                have hglw := hBE.size
                try (have hlt0 := hxr.lt)
                have hstep := new_below wR (.cells #[.slice none 0 0] 24)
                have hxw := SBox.new wR 24 #[.slice none 0 0]
                replace hBE := hBE.trans (hstep.mono hBE.size)
                replace hxr := hxr.on hstep
                replace how := how.on hstep
                replace hrp := hrp.on hstep
                obtain ⟨wlw, hnew⟩ : ∃ wlw : World, wlw = wR.alloc (.cells #[.slice none 0 0] 24) := ⟨_, rfl⟩
                rw [← hnew] at hstep hBE hxw hxr how hrp ⊢
                clear hnew hstep
                obtain ⟨gw, hgw⟩ : ∃ gw : Nat, gw = wR.heap.size := ⟨_, rfl⟩
                rw [← hgw] at hxw hglw ⊢
                try (rw [← hgw] at hlt0)
                try (have hne : gw ≠ gr := by omega)
                clear hgw
                refine hK.out _ _ (HK.out _ hBE) (fun hHeld2 => ?_)
                clear hK K hHeld
                have hHeld := hHeld2
                clear hHeld2
                try simp only [Act.put, List.setIfInBounds_toArray, List.set_cons_zero, List.set_cons_succ]
                refine wpAnyH_ready (rs := [7]) (by kernel_rfl) (by simp) (AllReadyH.cons (o := { dst := none, op := Op.store 24 (Operand.tmp 8) (Operand.tmp 32), type := 0, pos := "law.go:98", after := #[{ on := 5, ground := Ground.data }, { on := 1, ground := Ground.data }, { on := 4, ground := Ground.chain }, { on := 0, ground := Ground.phase }, { on := 1, ground := Ground.phase }, { on := 2, ground := Ground.textOnly Departure.lateStores }, { on := 3, ground := Ground.textOnly Departure.lateStores }, { on := 4, ground := Ground.textOnly Departure.lateStoresUnsure }, { on := 5, ground := Ground.phase }, { on := 6, ground := Ground.phase }], guard := none }) rfl (fun K hK => ?_) (AllReadyH.nil))
                have hf0 := hxw.frozen 0
                have hz0 := hxw.one
                go_simp
                have hx0 := hxw
                clear hf0 hz0
                have hbel : Below _ _ (wlw.setCell ⟨gw, 0, none⟩ (.slice Aw nw cw)) := hBE.setCell hglw _
                replace hxr := hxr.far (p := gw) (i := 0) (by omega) (.slice Aw nw cw)
                replace how := how.setBox (u := .slice Aw nw cw) hx0 (by decide) (by decide) 0
                replace hrp := hrp.setBox (u := .slice Aw nw cw) hx0 (by decide) 0
                replace hxw := hxw.set 0 (.slice Aw nw cw)
                obtain ⟨wsw, hnew⟩ : ∃ wsw : World, wsw = (wlw.setCell ⟨gw, 0, none⟩ (.slice Aw nw cw)) := ⟨_, rfl⟩
                rw [← hnew] at hbel hxr how hrp hxw ⊢
                clear hnew
                replace hBE := hbel
                clear hbel
                refine hK.out _ _ (HK.out _ hBE) (fun hHeld2 => ?_)
                clear hK K hHeld
                have hHeld := hHeld2
                clear hHeld2
                try simp only [Act.put, List.setIfInBounds_toArray, List.set_cons_zero, List.set_cons_succ]
                refine wpAnyH_ready (rs := [8]) (by kernel_rfl) (by simp) (AllReadyH.cons (o := { dst := none, op := Op.store 35 (Operand.tmp 9) (Operand.tmp 35), type := 0, pos := "law.go:98", after := #[{ on := 6, ground := Ground.data }, { on := 4, ground := Ground.data }, { on := 7, ground := Ground.chain }, { on := 0, ground := Ground.phase }, { on := 1, ground := Ground.phase }, { on := 2, ground := Ground.phase }, { on := 3, ground := Ground.phase }, { on := 4, ground := Ground.phase }, { on := 5, ground := Ground.phase }, { on := 6, ground := Ground.phase }, { on := 7, ground := Ground.phase }], guard := none }) rfl (fun K hK => ?_) (AllReadyH.nil))
                have hf0 := hxr.frozen 0; have hf1 := hxr.frozen 1
                obtain ⟨z0, z1⟩ := hxr.two
                go_simp
                have hx0 := hxr
                clear hf0 hf1 z0 z1
                have hbel : Below _ _ ((wsw.setCell ⟨gr, 0, none⟩ (.int .i64 ae)).setCell ⟨gr, 1, none⟩ (.slice Ar nr cr)) := below_set2 hBE hglr (.int .i64 ae) (.slice Ar nr cr)
                replace hxr := hxr.set2 (.int .i64 ae) (.slice Ar nr cr)
                replace how := how.set2Box hx0 (by decide) (by decide) (.int .i64 ae) (.slice Ar nr cr)
                replace hrp := hrp.set2Box hx0 (by decide) (.int .i64 ae) (.slice Ar nr cr)
                replace hxw := hxw.far2 (p := gr) (by omega) (.int .i64 ae) (.slice Ar nr cr)
                obtain ⟨wsr, hnew⟩ : ∃ wsr : World, wsr = ((wsw.setCell ⟨gr, 0, none⟩ (.int .i64 ae)).setCell ⟨gr, 1, none⟩ (.slice Ar nr cr)) := ⟨_, rfl⟩
                rw [← hnew] at hbel hxr how hrp hxw ⊢
                clear hnew
                replace hBE := hbel
                clear hbel
                refine hK.out _ _ (HK.out _ hBE) (fun hHeld2 => ?_)
                clear hK K hHeld
                have hHeld := hHeld2
                clear hHeld2
                try simp only [Act.put, List.setIfInBounds_toArray, List.set_cons_zero, List.set_cons_succ]
                refine wpAnyH_done (by kernel_rfl) ?_ _
                go_wp2_with fail
                go_meet
                exact ⟨gw, gr, Aw, nw, cw, msw, Ar, nr, cr, rfl, rfl, hxw, hxr, how, hlw, OwnN.nr hrp, hBE⟩
              · go_simp
                have hglw := hBE.size
                try (have hlt0 := hxr.lt)
                have hstep := new_below wF (.cells #[.slice none 0 0] 24)
                have hxw := SBox.new wF 24 #[.slice none 0 0]
                replace hBE := hBE.trans (hstep.mono hBE.size)
                replace hxr := hxr.on hstep
                replace how := how.on hstep
                obtain ⟨wlw, hnew⟩ : ∃ wlw : World, wlw = wF.alloc (.cells #[.slice none 0 0] 24) := ⟨_, rfl⟩
                rw [← hnew] at hstep hBE hxw hxr how ⊢
                clear hnew hstep
                obtain ⟨gw, hgw⟩ : ∃ gw : Nat, gw = wF.heap.size := ⟨_, rfl⟩
                rw [← hgw] at hxw hglw ⊢
                try (rw [← hgw] at hlt0)
                try (have hne : gw ≠ gr := by omega)
                clear hgw
                refine hK.out _ _ (HK.out _ hBE) (fun hHeld2 => ?_)
                clear hK K hHeld
                have hHeld := hHeld2
                clear hHeld2
                try simp only [Act.put, List.setIfInBounds_toArray, List.set_cons_zero, List.set_cons_succ]
                refine wpAnyH_ready (rs := [4]) (by kernel_rfl) (by simp) (AllReadyH.cons (o := { dst := some 35, op := Op.call { callee := Callee.value (Operand.func 13), args := #[Operand.tmp 34], argTypes := #[35] }, type := 35, pos := "law.go:98", after := #[{ on := 3, ground := Ground.data }, { on := 1, ground := Ground.chain }], guard := none }) rfl (fun K hK => ?_) (AllReadyH.nil))
                go_simp
                go_at_call 13; (with_reducible refine (HRP1.out _ hBE).mono ?_)
                rintro y wR ⟨uR, rfl, hrp, hstep⟩
                replace hBE := hBE.trans (hstep.mono hBE.size)
                replace hxr := hxr.on hstep
                replace how := how.on hstep
                replace hxw := hxw.on hstep
                replace hrp := hrp.mono (Nat.zero_le _)
                obtain ⟨Ar, cr, rfl, _⟩ := hrp.nr
                generalize hlenR : ax.length = nr at *
                clear hstep
                refine hK.out _ _ (HK.out _ hBE) (fun hHeld2 => ?_)
                clear hK K hHeld
                have hHeld := hHeld2
                clear hHeld2
                try simp only [Act.put, List.setIfInBounds_toArray, List.set_cons_zero, List.set_cons_succ]
                refine wpAnyH_ready (rs := [7]) (by kernel_rfl) (by simp) (AllReadyH.cons (o := { dst := none, op := Op.store 24 (Operand.tmp 8) (Operand.tmp 32), type := 0, pos := "law.go:98", after := #[{ on := 5, ground := Ground.data }, { on := 1, ground := Ground.data }, { on := 4, ground := Ground.chain }, { on := 0, ground := Ground.phase }, { on := 1, ground := Ground.phase }, { on := 2, ground := Ground.textOnly Departure.lateStores }, { on := 3, ground := Ground.textOnly Departure.lateStores }, { on := 4, ground := Ground.textOnly Departure.lateStoresUnsure }, { on := 5, ground := Ground.phase }, { on := 6, ground := Ground.phase }], guard := none }) rfl (fun K hK => ?_) (AllReadyH.nil))
                have hf0 := hxw.frozen 0
                have hz0 := hxw.one
                go_simp
                have hx0 := hxw
                clear hf0 hz0
                have hbel : Below _ _ (wR.setCell ⟨gw, 0, none⟩ (.slice Aw nw cw)) := hBE.setCell hglw _
                replace hxr := hxr.far (p := gw) (i := 0) (by omega) (.slice Aw nw cw)
                replace how := how.setBox (u := .slice Aw nw cw) hx0 (by decide) (by decide) 0
                replace hxw := hxw.set 0 (.slice Aw nw cw)
                replace hrp := hrp.setBox (u := .slice Aw nw cw) hx0 (by decide) 0
                obtain ⟨wsw, hnew⟩ : ∃ wsw : World, wsw = (wR.setCell ⟨gw, 0, none⟩ (.slice Aw nw cw)) := ⟨_, rfl⟩
                rw [← hnew] at hbel hxr how hxw hrp ⊢
                clear hnew
                replace hBE := hbel
                clear hbel
                refine hK.out _ _ (HK.out _ hBE) (fun hHeld2 => ?_)
                clear hK K hHeld
                have hHeld := hHeld2
                clear hHeld2
                try simp only [Act.put, List.setIfInBounds_toArray, List.set_cons_zero, List.set_cons_succ]
                refine wpAnyH_ready (rs := [8]) (by kernel_rfl) (by simp) (AllReadyH.cons (o := { dst := none, op := Op.store 35 (Operand.tmp 9) (Operand.tmp 35), type := 0, pos := "law.go:98", after := #[{ on := 6, ground := Ground.data }, { on := 4, ground := Ground.data }, { on := 7, ground := Ground.chain }, { on := 0, ground := Ground.phase }, { on := 1, ground := Ground.phase }, { on := 2, ground := Ground.phase }, { on := 3, ground := Ground.phase }, { on := 4, ground := Ground.phase }, { on := 5, ground := Ground.phase }, { on := 6, ground := Ground.phase }, { on := 7, ground := Ground.phase }], guard := none }) rfl (fun K hK => ?_) (AllReadyH.nil))
                have hf0 := hxr.frozen 0; have hf1 := hxr.frozen 1
                obtain ⟨z0, z1⟩ := hxr.two
                go_simp
                have hx0 := hxr
                clear hf0 hf1 z0 z1
                have hbel : Below _ _ ((wsw.setCell ⟨gr, 0, none⟩ (.int .i64 ae)).setCell ⟨gr, 1, none⟩ (.slice Ar nr cr)) := below_set2 hBE hglr (.int .i64 ae) (.slice Ar nr cr)
                replace hxr := hxr.set2 (.int .i64 ae) (.slice Ar nr cr)
                replace how := how.set2Box hx0 (by decide) (by decide) (.int .i64 ae) (.slice Ar nr cr)
                replace hxw := hxw.far2 (p := gr) (by omega) (.int .i64 ae) (.slice Ar nr cr)
                replace hrp := hrp.set2Box hx0 (by decide) (.int .i64 ae) (.slice Ar nr cr)
                obtain ⟨wsr, hnew⟩ : ∃ wsr : World, wsr = ((wsw.setCell ⟨gr, 0, none⟩ (.int .i64 ae)).setCell ⟨gr, 1, none⟩ (.slice Ar nr cr)) := ⟨_, rfl⟩
                rw [← hnew] at hbel hxr how hxw hrp ⊢
                clear hnew
                replace hBE := hbel
                clear hbel
                refine hK.out _ _ (HK.out _ hBE) (fun hHeld2 => ?_)
                clear hK K hHeld
                have hHeld := hHeld2
                clear hHeld2
                try simp only [Act.put, List.setIfInBounds_toArray, List.set_cons_zero, List.set_cons_succ]
                refine wpAnyH_done (by kernel_rfl) ?_ _
                go_wp2_with fail
                go_meet
                exact ⟨gw, gr, Aw, nw, cw, msw, Ar, nr, cr, rfl, rfl, hxw, hxr, how, hlw, OwnN.nr hrp, hBE⟩
            · go_simp
              have hglw := hBE.size
              try (have hlt0 := hxr.lt)
              have hstep := new_below wlr (.cells #[.slice none 0 0] 24)
              have hxw := SBox.new wlr 24 #[.slice none 0 0]
              replace hBE := hBE.trans (hstep.mono hBE.size)
              replace hxr := hxr.on hstep
              obtain ⟨wlw, hnew⟩ : ∃ wlw : World, wlw = wlr.alloc (.cells #[.slice none 0 0] 24) := ⟨_, rfl⟩
              rw [← hnew] at hstep hBE hxw hxr ⊢
              clear hnew hstep
              obtain ⟨gw, hgw⟩ : ∃ gw : Nat, gw = wlr.heap.size := ⟨_, rfl⟩
              rw [← hgw] at hxw hglw ⊢
              try (rw [← hgw] at hlt0)
              try (have hne : gw ≠ gr := by omega)
              clear hgw
              refine hK.out _ _ (HK.out _ hBE) (fun hHeld2 => ?_)
              clear hK K hHeld
              have hHeld := hHeld2
              clear hHeld2
              try simp only [Act.put, List.setIfInBounds_toArray, List.set_cons_zero, List.set_cons_succ]
              refine wpAnyH_ready (rs := [1]) (by kernel_rfl) (by simp) (AllReadyH.cons (o := { dst := some 32, op := Op.call { callee := Callee.value (Operand.func 8), args := #[Operand.tmp 31], argTypes := #[24] }, type := 24, pos := "law.go:98", after := #[{ on := 0, ground := Ground.data }], guard := none }) rfl (fun K hK => ?_) (AllReadyH.nil))
              go_simp
              go_at_call 8; (with_reducible refine (HFS.out _ hBE).mono ?_)
              rintro y wF ⟨⟨Aw, cw, msw, rfl, how, hlw⟩, hstep⟩
              replace hBE := hBE.trans (hstep.mono hBE.size)
              replace hxr := hxr.on hstep
              replace hxw := hxw.on hstep
              replace how := how.mono (Nat.zero_le _)
              generalize hlenW : msw.length = nw at *
              clear hstep
              refine hK.out _ _ (HK.out _ hBE) (fun hHeld2 => ?_)
              clear hK K hHeld
              have hHeld := hHeld2
              clear hHeld2
              try simp only [Act.put, List.setIfInBounds_toArray, List.set_cons_zero, List.set_cons_succ]
              refine wpAnyH_ready (rs := [4]) (by kernel_rfl) (by simp) (AllReadyH.cons (o := { dst := some 35, op := Op.call { callee := Callee.value (Operand.func 13), args := #[Operand.tmp 34], argTypes := #[35] }, type := 35, pos := "law.go:98", after := #[{ on := 3, ground := Ground.data }, { on := 1, ground := Ground.chain }], guard := none }) rfl (fun K hK => ?_) (AllReadyH.nil))
              go_simp
              go_at_call 13; (with_reducible refine (HRP1.out _ hBE).mono ?_)
              rintro y wR ⟨uR, rfl, hrp, hstep⟩
              replace hBE := hBE.trans (hstep.mono hBE.size)
              replace hxr := hxr.on hstep
              replace hxw := hxw.on hstep
              replace how := how.on hstep
              replace hrp := hrp.mono (Nat.zero_le _)
              obtain ⟨Ar, cr, rfl, _⟩ := hrp.nr
              generalize hlenR : ax.length = nr at *
              clear hstep
              refine hK.out _ _ (HK.out _ hBE) (fun hHeld2 => ?_)
              clear hK K hHeld
              have hHeld := hHeld2
              clear hHeld2
              try simp only [Act.put, List.setIfInBounds_toArray, List.set_cons_zero, List.set_cons_succ]
              refine wpAnyH_ready (rs := [7]) (by kernel_rfl) (by simp) (AllReadyH.cons (o := { dst := none, op := Op.store 24 (Operand.tmp 8) (Operand.tmp 32), type := 0, pos := "law.go:98", after := #[{ on := 5, ground := Ground.data }, { on := 1, ground := Ground.data }, { on := 4, ground := Ground.chain }, { on := 0, ground := Ground.phase }, { on := 1, ground := Ground.phase }, { on := 2, ground := Ground.textOnly Departure.lateStores }, { on := 3, ground := Ground.textOnly Departure.lateStores }, { on := 4, ground := Ground.textOnly Departure.lateStoresUnsure }, { on := 5, ground := Ground.phase }, { on := 6, ground := Ground.phase }], guard := none }) rfl (fun K hK => ?_) (AllReadyH.nil))
              have hf0 := hxw.frozen 0
              have hz0 := hxw.one
              go_simp
              have hx0 := hxw
              clear hf0 hz0
              have hbel : Below _ _ (wR.setCell ⟨gw, 0, none⟩ (.slice Aw nw cw)) := hBE.setCell hglw _
              replace hxr := hxr.far (p := gw) (i := 0) (by omega) (.slice Aw nw cw)
              replace hxw := hxw.set 0 (.slice Aw nw cw)
              replace how := how.setBox (u := .slice Aw nw cw) hx0 (by decide) (by decide) 0
              replace hrp := hrp.setBox (u := .slice Aw nw cw) hx0 (by decide) 0
              obtain ⟨wsw, hnew⟩ : ∃ wsw : World, wsw = (wR.setCell ⟨gw, 0, none⟩ (.slice Aw nw cw)) := ⟨_, rfl⟩
              rw [← hnew] at hbel hxr hxw how hrp ⊢
              clear hnew
              replace hBE := hbel
              clear hbel
              refine hK.out _ _ (HK.out _ hBE) (fun hHeld2 => ?_)
              clear hK K hHeld
              have hHeld := hHeld2
              clear hHeld2
              try simp only [Act.put, List.setIfInBounds_toArray, List.set_cons_zero, List.set_cons_succ]
              refine wpAnyH_ready (rs := [8]) (by kernel_rfl) (by simp) (AllReadyH.cons (o := { dst := none, op := Op.store 35 (Operand.tmp 9) (Operand.tmp 35), type := 0, pos := "law.go:98", after := #[{ on := 6, ground := Ground.data }, { on := 4, ground := Ground.data }, { on := 7, ground := Ground.chain }, { on := 0, ground := Ground.phase }, { on := 1, ground := Ground.phase }, { on := 2, ground := Ground.phase }, { on := 3, ground := Ground.phase }, { on := 4, ground := Ground.phase }, { on := 5, ground := Ground.phase }, { on := 6, ground := Ground.phase }, { on := 7, ground := Ground.phase }], guard := none }) rfl (fun K hK => ?_) (AllReadyH.nil))
              have hf0 := hxr.frozen 0; have hf1 := hxr.frozen 1
              obtain ⟨z0, z1⟩ := hxr.two
              go_simp
              have hx0 := hxr
              clear hf0 hf1 z0 z1
              have hbel : Below _ _ ((wsw.setCell ⟨gr, 0, none⟩ (.int .i64 ae)).setCell ⟨gr, 1, none⟩ (.slice Ar nr cr)) := below_set2 hBE hglr (.int .i64 ae) (.slice Ar nr cr)
              replace hxr := hxr.set2 (.int .i64 ae) (.slice Ar nr cr)
              replace hxw := hxw.far2 (p := gr) (by omega) (.int .i64 ae) (.slice Ar nr cr)
              replace how := how.set2Box hx0 (by decide) (by decide) (.int .i64 ae) (.slice Ar nr cr)
              replace hrp := hrp.set2Box hx0 (by decide) (.int .i64 ae) (.slice Ar nr cr)
              obtain ⟨wsr, hnew⟩ : ∃ wsr : World, wsr = ((wsw.setCell ⟨gr, 0, none⟩ (.int .i64 ae)).setCell ⟨gr, 1, none⟩ (.slice Ar nr cr)) := ⟨_, rfl⟩
              rw [← hnew] at hbel hxr hxw how hrp ⊢
              clear hnew
              replace hBE := hbel
              clear hbel
              refine hK.out _ _ (HK.out _ hBE) (fun hHeld2 => ?_)
              clear hK K hHeld
              have hHeld := hHeld2
              clear hHeld2
              try simp only [Act.put, List.setIfInBounds_toArray, List.set_cons_zero, List.set_cons_succ]
              refine wpAnyH_done (by kernel_rfl) ?_ _
              go_wp2_with fail
              go_meet
              exact ⟨gw, gr, Aw, nw, cw, msw, Ar, nr, cr, rfl, rfl, hxw, hxr, how, hlw, OwnN.nr hrp, hBE⟩
        case rest =>
          obtain ⟨gw, gr, Aw, nw, cw, msw, Ar, nr, cr, rfl, rfl, hxw, hxr, how, hlw, hnr, hbx⟩ := hcut
          generalize wc = wv at *
          have HXW := Lib.hid hxw; have HXR := Lib.hid hxr; have HOW' := Lib.hid how; have HLW := Lib.hid hlw; have HNR := Lib.hid hnr; have HBX := Lib.hid hbx
          have HBwc := Lib.hid (HBw1.out.trans (hbx.mono HBw1.out.size))
          have HXc := Lib.hid (HX1.out.on hbx); have HOc := Lib.hid (HO1.out.on hbx); have HYc := Lib.hid (HY1.out.on hbx)
          have HSRc : Hid (SR wv As ns cs mss) := Lib.hid (HSR1.out.on hbx)
          have HSRW : Hid (SR wv Aw nw cw msw) := Lib.hid (fewIs_sr how).1
          generalize hlss : mss.map (·.1) = lss at *
          have HLS := Lib.hid hlss
          have HJ := Lib.hid (judge_any As ns cs ac aq mss wv HSRc.out HCB.out)
          have HKP := Lib.hid (fun W' (hb : Below wv.heap.size wv W') => keep_any As ns cs ac aq ae (.slice Ar nr cr) ax mss W' (HSRc.out.on hb) HCB.out (hnr.on hb) HRF'.out)
          rw [hlss] at HJ HKP
          have HRT := Lib.hid (fun W' (hb : Below wv.heap.size wv W') => right_any Aw nw cw msw W' (HSRW.out.on hb))
          rw [hlw] at HRT
          clear hxw hxr how hlw hnr hbx hlss
          have s0 := HXc.out.one
          obtain ⟨a0, a1, a2, a3⟩ := HYc.out.four
          go_wp2_with fail
          refine HJ.out.mono ?_
          rintro y w3 ⟨rfl, hb3⟩
          have HB3 := Lib.hid hb3
          clear s0 a0 a1 a2 a3 hb3
          have s0 := (HXc.out.on HB3.out).one
          obtain ⟨a0, a1, a2, a3⟩ := (HYc.out.on HB3.out).four
          obtain ⟨r0, r1⟩ := (HXR.out.on HB3.out).two
          go_wp2_with fail
          refine (HKP.out _ HB3.out).mono ?_
          rintro y w4 ⟨⟨AK, cK, msK, rfl, hoK, hlK⟩, hb4⟩
          have HB4 := Lib.hid (HB3.out.trans (hb4.mono HB3.out.size))
          generalize hnK : msK.length = nK at *
          have HNK : Hid (nK ≤ 1000 ∧ nK = (msK.map (·.2)).length) := Lib.hid (by
            have h2 := congrArg List.length hlK
            rw [List.length_map] at h2
            have h3 : (keepS lss ac aq ⟨ae, ax⟩).length ≤ 3 := by
              unfold keepS
              split
              · rename_i h4
                have := (keep_few h4).2.2
                obtain ⟨t, ht, e⟩ := tri_of this
                have h5 := keep_rows ht (by rw [← e]; exact h4)
                have h6 : (keepS lss ac aq ⟨ae, ax⟩).length ≤ 3 := by rw [e, h5.2.2.2.1]; exact (Tri.rows_may h5.2.2.2.2).len
                unfold keepS at h6
                rwa [if_pos h4] at h6
              · simp
            refine ⟨by omega, by rw [List.length_map]; omega⟩)
          have HOK := Lib.hid hoK; have HLK := Lib.hid hlK
          have HSP := Lib.hid (sp_of hoK)
          have HZ34 := Lib.hid (show w3.heap.size ≤ w4.heap.size from hb4.size)
          have HX4 := Lib.hid (SBox.new w4 24 #[.slice AK nK cK])
          have HA4 := Lib.hid (new_below w4 (.cells #[.slice AK nK cK] 24))
          clear s0 a0 a1 a2 a3 r0 r1 hb4 hoK hlK hnK
          go_upto_region 11 with fail
          obtain ⟨W4, hW4⟩ : ∃ W4 : World, W4 = w4.alloc (.cells #[.slice AK nK cK] 24) := ⟨_, rfl⟩
          rw [← hW4] at HX4 HA4 ⊢
          clear hW4
          have HB4' := Lib.hid (HB4.out.trans (HA4.out.mono HB4.out.size))
          go_upto_region 13 with fail
          have HX5 := Lib.hid (SBox.new W4 24 #[.slice none 0 0])
          have HA5 := Lib.hid (new_below W4 (.cells #[.slice none 0 0] 24))
          obtain ⟨W5, hW5⟩ : ∃ W5 : World, W5 = W4.alloc (.cells #[.slice none 0 0] 24) := ⟨_, rfl⟩
          rw [← hW5] at HX5 HA5 ⊢
          clear hW5
          have HB5 := Lib.hid (HB4'.out.trans (HA5.out.mono HB4'.out.size))
          have HX45 := Lib.hid (HX4.out.on HA5.out)
          have HZ4 : Hid (w4.heap.size ≤ W4.heap.size) := Lib.hid HA4.out.size
          have HOK5 := Lib.hid ((HOK.out.on HA4.out).on HA5.out); have HSP5 := Lib.hid ((HSP.out.on HA4.out).on HA5.out)
          generalize hgn : w4.heap.size = gn at *
          generalize hgk : W4.heap.size = gk at *
          have w0 := (HXW.out.on HB5.out).one
          have HRT5 := Lib.hid (HRT.out _ HB5.out)
          go_upto_if 56 with (go_at_call 9; refine HRT5.out.mono ?_; rintro y w6 ⟨rfl, hb6⟩; have HB6 := Lib.hid hb6; clear hb6)
          have HJ1 : Hid (¬ MayS lss → judgeE lss ac aq = 220 ∧ judgeH lss ac aq = 0) := Lib.hid (fun hm => ⟨by unfold judgeE; rw [okS_no hm, if_neg (by simp)], by unfold judgeH; rw [if_neg (fun hh => hm (okS_yes.1 hh.1))]⟩)
          have HJ2 : Hid (MayS lss → ¬ Asked ac aq → judgeE lss ac aq = 2 ∧ judgeH lss ac aq = 0) := Lib.hid (fun hm hna => ⟨by unfold judgeE; rw [okS_yes.2 hm, if_pos rfl, if_neg hna], by unfold judgeH; rw [if_neg (fun hh => hna hh.2)]⟩)
          have HJ3 : Hid (MayS lss → Asked ac aq → judgeE lss ac aq = 0 ∧ judgeH lss ac aq = askZ (ofD lss ac).seq aq) := Lib.hid (fun hm hna => ⟨by unfold judgeE; rw [okS_yes.2 hm, if_pos rfl, if_pos hna], by unfold judgeH; rw [if_pos ⟨okS_yes.2 hm, hna⟩]⟩)
          have HRJ : Hid (MayS lss → Asked ac aq → ∀ W', Below W5.heap.size W5 W' → Calls Try.prog 24 #[.agg #[.slice Aw nw cw], .int .i64 ac, .int .u64 aq] W' fun e w' => e = .returned (.int .i64 (askZ (ofD lss ac).seq aq)) ∧ Below W'.heap.size W' w') := Lib.hid (fun hm hna W' hb => by
            have := rjudge_any Aw nw cw ac aq msw W' ((HSRW.out.on HB5.out).on hb) (by rw [HLW.out]; exact hm) hna.1 hna.2.1
            rwa [HLW.out] at this)
          obtain ⟨k1, k2, k3, k4⟩ := keep_cases lss ac aq ⟨ae, ax⟩
          have K1 := Lib.hid k1; have K2 := Lib.hid k2; have K3 := Lib.hid k3; have K4 := Lib.hid k4
          have K5 : Hid (keepE lss ac aq ⟨ae, ax⟩ = 0 → Few (keepS lss ac aq ⟨ae, ax⟩) ∧ keepD lss ⟨ac, aq, ⟨ae, ax⟩⟩ = keepS lss ac aq ⟨ae, ax⟩ ∧ MayS lss) := Lib.hid keep_few
          generalize judgeE lss ac aq = JE at *
          generalize judgeH lss ac aq = JH at *
          generalize keepE lss ac aq ⟨ae, ax⟩ = KE at *
          generalize keepS lss ac aq ⟨ae, ax⟩ = KS at *
          have HOK1 : Hid (MayS lss → okS lss = true) := Lib.hid okS_yes.2
          have HOK2 : Hid (¬ MayS lss → okS lss = false) := Lib.hid okS_no
          generalize okS lss = OS at *
          clear w0 k1 k2 k3 k4
          go_cut [14, 15] from 57 to 67 (fun s14 s15 wx => s14 = .int .i64 JH ∧ s15 = .int .i64 JE ∧ Below W5.heap.size W5 wx)
          case first =>
            by_cases hm : MayS lss
            · obtain rfl := HOK1.out hm
              obtain ⟨a0, a1, a2, a3⟩ := ((HYc.out.on HB5.out).on HB6.out).four
              have HAS := Lib.hid (asked_any ac aq w6)
              by_cases ha : Asked ac aq
              · rw [decide_eq_true ha] at HAS
                obtain ⟨e1, e2⟩ := HJ3.out hm ha
                have HE1 := Lib.hid e1; have HE2 := Lib.hid e2
                have HRJ6 := Lib.hid (HRJ.out hm ha w6 HB6.out)
                have w0 := ((HXW.out.on HB5.out).on HB6.out).one
                generalize askZ (ofD lss ac).seq aq = AZ at *
                clear hm ha e1 e2
                go_wp2_with fail
                refine HAS.out.mono ?_
                rintro y w7 ⟨rfl, rfl⟩
                go_wp2_with fail
                refine HRJ6.out.mono ?_
                rintro y w7 ⟨rfl, hb7⟩
                have HB7 := Lib.hid (HB6.out.trans (hb7.mono HB6.out.size))
                clear hb7 w0 a0 a1 a2 a3
                go_wp2_with fail
                go_meet
                exact ⟨by rw [HE2.out], by rw [HE1.out], HB7.out⟩
              · rw [decide_eq_false ha] at HAS
                obtain ⟨e1, e2⟩ := HJ2.out hm ha
                have HE1 := Lib.hid e1; have HE2 := Lib.hid e2
                clear hm ha e1 e2
                go_wp2_with fail
                refine HAS.out.mono ?_
                rintro y w7 ⟨rfl, rfl⟩
                go_wp2_with fail
                go_meet
                exact ⟨by rw [HE2.out], by rw [HE1.out], HB6.out⟩
            · obtain rfl := HOK2.out hm
              obtain ⟨e1, e2⟩ := HJ1.out hm
              have HE1 := Lib.hid e1; have HE2 := Lib.hid e2
              clear hm e1 e2
              go_wp2_with fail
              go_meet
              exact ⟨by rw [HE2.out], by rw [HE1.out], HB6.out⟩
          case rest =>
            obtain ⟨rfl, rfl, hb8⟩ := hcut
            generalize wc = wx8 at *
            have HB8 := Lib.hid hb8
            clear hb8
            have HB28 := Lib.hid (HB5.out.trans (HB8.out.mono HB5.out.size))
            have HBw8 := Lib.hid (HBwc.out.trans (HB28.out.mono HBwc.out.size))
            have HN8 := Lib.hid (HX45.out.on HB8.out); have HK8 := Lib.hid (HX5.out.on HB8.out)
            have HG4 : Hid (w4.heap.size ≤ gk ∧ gn < gk ∧ gk < W5.heap.size ∧ gk < wx8.heap.size ∧ wv.heap.size ≤ gn) := Lib.hid ⟨by have := HZ4.out; omega, by have := HX4.out.lt; omega, HX5.out.lt, Nat.lt_of_lt_of_le HX5.out.lt HB8.out.size, by rw [← hgn]; exact HB4.out.size⟩
            by_cases hj : JE = 0
            · subst hj
              by_cases hr : (RepZ.mk ae ax).May
              · by_cases hh : JH = 1
                · subst hh
                  obtain ⟨e1, e2⟩ := K4.out (by first | trivial | rfl) hr (by first | trivial | rfl)
                  obtain ⟨f1, f2, f3⟩ := K5.out e1
                  have HFW2 := Lib.hid f1; have HKD := Lib.hid f2
                  subst e1
                  have HRR := Lib.hid (rreply_any ae (.slice Ar nr cr) ax wx8 (HNR.out.on HB28.out) HRF'.out.2)
                  rw [RepZ.ok_yes.2 hr] at HRR
                  obtain ⟨r0, r1⟩ := (HXR.out.on HB28.out).two
                  have HRL : Hid (ax.length ≤ 100000) := Lib.hid (by have := hr.2.2.1; simp only at this; omega)
                  have HML : Hid (∀ m ∈ msw, m.1.rep.names.length ≤ 100000) := Lib.hid (fun m hm => by
                    have h2 : m.1 ∈ lss := by rw [← HLW.out]; exact List.mem_map_of_mem hm
                    have := HFE.out.2 m.1 h2
                    omega)
                  clear hr e2 f1 f2 f3
                  unfold repV at HRR
                  simp only at HRR
                  go_wp2_with fail
                  refine HRR.out.mono ?_
                  rintro y wt0 ⟨rfl, hbt⟩
                  clear r0 r1
                  have HBT0 := Lib.hid (HB28.out.trans (hbt.mono HB28.out.size))
                  have hxn := HN8.out.on hbt
                  have hxk := HK8.out.on hbt
                  have hok := (HOK5.out.on HB8.out).on hbt
                  have hsp := (HSP5.out.on HB8.out).on hbt
                  have HRK := Lib.hid (fun W' (u : Value) (hb : Below wv.heap.size wv W') (hu : NR W' u ax) => rkeep_any Aw nw cw msw ⟨ac, aq, ⟨ae, ax⟩⟩ u W' (HSRW.out.on hb) HML.out hu ⟨HCB.out, HQB.out, HRF'.out⟩ HRL.out)
                  rw [HLW.out, HKD.out] at HRK
                  unfold sesV at HRK
                  simp only at HRK
                  have HR4 := Lib.hid (fun W' (hb : Below wv.heap.size wv W') => HRP1.out W' (HBX.out.trans (hb.mono HBX.out.size)))
                  have HC4 := Lib.hid (fun (W' : World) (hW : Below wv.heap.size wv W') => (⟨by
                    obtain ⟨a0, a1, a2, a3⟩ := (HYc.out.on hW).four
                    exact ⟨(HXW.out.on hW).one, a0, a1, a2, a3⟩⟩ : PLift (W'.cell? ⟨gw, 0, none⟩ = some (.slice Aw nw cw) ∧ W'.cell? ⟨wr.heap.size, 0, none⟩ = some (.int .i64 ac) ∧ W'.cell? ⟨wr.heap.size, 1, none⟩ = some (.int .u64 aq) ∧ W'.cell? ⟨wr.heap.size, 2, none⟩ = some (.int .i64 ae) ∧ W'.cell? ⟨wr.heap.size, 3, none⟩ = some av)).down)
                  clear hbt
                  go_upto_region 18 with fail
                  have hBE := HBT0.out
                  have hdr := (Below.refl wt0.heap.size wt0).drew
                  have HK := HC4
                  refine wp_region_held_drew (S := (fun W' => W'.cell? ⟨gw, 0, none⟩ = some (.slice Aw nw cw) ∧ W'.cell? ⟨wr.heap.size, 0, none⟩ = some (.int .i64 ac) ∧ W'.cell? ⟨wr.heap.size, 1, none⟩ = some (.int .u64 aq) ∧ W'.cell? ⟨wr.heap.size, 2, none⟩ = some (.int .i64 ae) ∧ W'.cell? ⟨wr.heap.size, 3, none⟩ = some av)) (by kernel_rfl) (HK.out _ hBE.drew) (fun hHeld => ?_)
                  replace hBE := hBE.drew
                  obtain ⟨w0r, hw0r⟩ : ∃ w0r : World, w0r = wt0.drew := ⟨_, rfl⟩
                  rw [← hw0r] at hBE hHeld hdr ⊢
                  clear hw0r
                  replace hxn := hxn.on hdr
                  replace hxk := hxk.on hdr
                  replace hok := hok.on hdr
                  replace hsp := hsp.on hdr
                  clear hdr
                  refine wpAnyH_take (i := 0) (oi := { dst := some 69, op := Op.load 24 (Operand.tmp 8), type := 24, pos := "law.go:117", after := #[], guard := none }) (v := ?zvc0) rfl (by kernel_rfl) (by kernel_rfl) (by kernel_rfl) (fun _ _ _ h => h) (Or.inl ⟨by rfl, ?zhc0⟩) (by assumption) ?zrc0
                  case zhc0 => (intro w hSw; (try dsimp only at hSw); go_simp; (try with_reducible rfl))
                  try simp only [Act.put, List.setIfInBounds_toArray, List.set_cons_zero, List.set_cons_succ]
                  refine wpAnyH_take (i := 1) (oi := { dst := some 70, op := Op.fieldAddr 37 (Operand.tmp 7) 0, type := 0, pos := "law.go:117", after := #[], guard := none }) (v := ?zvc1) rfl (by kernel_rfl) (by kernel_rfl) (by kernel_rfl) (fun _ _ _ h => h) (Or.inl ⟨by rfl, ?zhc1⟩) (by assumption) ?zrc1
                  case zhc1 => (intro w hSw; (try dsimp only at hSw); go_simp; (try with_reducible rfl))
                  try simp only [Act.put, List.setIfInBounds_toArray, List.set_cons_zero, List.set_cons_succ]
                  refine wpAnyH_take (i := 2) (oi := { dst := some 71, op := Op.load 3 (Operand.tmp 70), type := 3, pos := "law.go:117", after := #[{ on := 1, ground := Ground.data }], guard := none }) (v := ?zvc2) rfl (by kernel_rfl) (by kernel_rfl) (by kernel_rfl) (fun _ _ _ h => h) (Or.inl ⟨by rfl, ?zhc2⟩) (by assumption) ?zrc2
                  case zhc2 => (intro w hSw; (try dsimp only at hSw); go_simp; (try with_reducible rfl))
                  try simp only [Act.put, List.setIfInBounds_toArray, List.set_cons_zero, List.set_cons_succ]
                  refine wpAnyH_take (i := 3) (oi := { dst := some 72, op := Op.fieldAddr 37 (Operand.tmp 7) 1, type := 0, pos := "law.go:117", after := #[], guard := none }) (v := ?zvc3) rfl (by kernel_rfl) (by kernel_rfl) (by kernel_rfl) (fun _ _ _ h => h) (Or.inl ⟨by rfl, ?zhc3⟩) (by assumption) ?zrc3
                  case zhc3 => (intro w hSw; (try dsimp only at hSw); go_simp; (try with_reducible rfl))
                  try simp only [Act.put, List.setIfInBounds_toArray, List.set_cons_zero, List.set_cons_succ]
                  refine wpAnyH_take (i := 4) (oi := { dst := some 73, op := Op.load 32 (Operand.tmp 72), type := 32, pos := "law.go:117", after := #[{ on := 3, ground := Ground.data }], guard := none }) (v := ?zvc4) rfl (by kernel_rfl) (by kernel_rfl) (by kernel_rfl) (fun _ _ _ h => h) (Or.inl ⟨by rfl, ?zhc4⟩) (by assumption) ?zrc4
                  case zhc4 => (intro w hSw; (try dsimp only at hSw); go_simp; (try with_reducible rfl))
                  try simp only [Act.put, List.setIfInBounds_toArray, List.set_cons_zero, List.set_cons_succ]
                  refine wpAnyH_take (i := 5) (oi := { dst := some 74, op := Op.fieldAddr 37 (Operand.tmp 7) 2, type := 0, pos := "law.go:117", after := #[], guard := none }) (v := ?zvc5) rfl (by kernel_rfl) (by kernel_rfl) (by kernel_rfl) (fun _ _ _ h => h) (Or.inl ⟨by rfl, ?zhc5⟩) (by assumption) ?zrc5
                  case zhc5 => (intro w hSw; (try dsimp only at hSw); go_simp; (try with_reducible rfl))
                  try simp only [Act.put, List.setIfInBounds_toArray, List.set_cons_zero, List.set_cons_succ]
                  refine wpAnyH_take (i := 6) (oi := { dst := some 75, op := Op.load 35 (Operand.tmp 74), type := 35, pos := "law.go:117", after := #[{ on := 5, ground := Ground.data }], guard := none }) (v := ?zvc6) rfl (by kernel_rfl) (by kernel_rfl) (by kernel_rfl) (fun _ _ _ h => h) (Or.inl ⟨by rfl, ?zhc6⟩) (by assumption) ?zrc6
                  case zhc6 => (intro w hSw; (try dsimp only at hSw); go_simp; (try with_reducible rfl))
                  try simp only [Act.put, List.setIfInBounds_toArray, List.set_cons_zero, List.set_cons_succ]
                  refine wpAnyH_ready (rs := [7]) (by kernel_rfl) (by simp) (AllReadyH.cons (o := { dst := some 76, op := Op.call { callee := Callee.value (Operand.func 13), args := #[Operand.tmp 75], argTypes := #[35] }, type := 35, pos := "law.go:117", after := #[{ on := 6, ground := Ground.data }], guard := none }) rfl (fun K hK => ?_) (AllReadyH.nil))
                  go_simp
                  go_at_call 13; (with_reducible refine (HR4.out _ hBE).mono ?_)
                  rintro y wR ⟨uR, rfl, hrp, hstep⟩
                  replace hBE := hBE.trans (hstep.mono hBE.size)
                  replace hxn := hxn.on hstep
                  replace hxk := hxk.on hstep
                  replace hok := hok.on hstep
                  replace hsp := hsp.on hstep
                  obtain ⟨Ap, cp, rfl, _⟩ := hrp.nr
                  generalize hlenP : ax.length = np at *
                  have hgr := hxn.lt
                  clear hstep
                  refine hK.out _ _ (HK.out _ hBE) (fun hHeld2 => ?_)
                  clear hK K hHeld
                  have hHeld := hHeld2
                  clear hHeld2
                  try simp only [Act.put, List.setIfInBounds_toArray, List.set_cons_zero, List.set_cons_succ]
                  refine wpAnyH_take (i := 8) (oi := { dst := some 77, op := Op.build 42 #[(0, Operand.tmp 71), (1, Operand.tmp 73), (2, Operand.tmp 76)], type := 42, pos := "law.go:117", after := #[{ on := 2, ground := Ground.data }, { on := 4, ground := Ground.data }, { on := 7, ground := Ground.data }], guard := none }) (v := ?zvc7) rfl (by kernel_rfl) (by kernel_rfl) (by kernel_rfl) (fun _ _ _ h => h) (Or.inl ⟨by rfl, ?zhc7⟩) (by assumption) ?zrc7
                  case zhc7 => (intro w hSw; (try dsimp only at hSw); go_simp; (try with_reducible rfl))
                  try simp only [Act.put, List.setIfInBounds_toArray, List.set_cons_zero, List.set_cons_succ]
                  refine wpAnyH_ready (rs := [9]) (by kernel_rfl) (by simp) (AllReadyH.cons (o := { dst := some 78, op := Op.call { callee := Callee.value (Operand.func 25), args := #[Operand.tmp 69, Operand.tmp 77], argTypes := #[24, 42] }, type := 24, pos := "law.go:117", after := #[{ on := 0, ground := Ground.data }, { on := 8, ground := Ground.data }, { on := 7, ground := Ground.chain }], guard := none }) rfl (fun K hK => ?_) (AllReadyH.nil))
                  go_simp
                  go_at_call 25; (with_reducible refine (HRK.out _ (.slice Ap np cp) hBE (OwnN.nr hrp)).mono ?_)
                  rintro y wK ⟨⟨Ak, ck, msk, rfl, hkk, hkl⟩, hstep⟩
                  replace hBE := hBE.trans (hstep.mono hBE.size)
                  replace hxn := hxn.on hstep
                  replace hxk := hxk.on hstep
                  replace hok := hok.on hstep
                  replace hsp := hsp.on hstep
                  replace hrp := hrp.on hstep
                  generalize hlenK : msk.length = nk at *
                  replace hkk := OwnS.mono (base' := gn) hkk (by omega)
                  clear hstep
                  refine hK.out _ _ (HK.out _ hBE) (fun hHeld2 => ?_)
                  clear hK K hHeld
                  have hHeld := hHeld2
                  clear hHeld2
                  try simp only [Act.put, List.setIfInBounds_toArray, List.set_cons_zero, List.set_cons_succ]
                  refine wpAnyH_ready (rs := [10]) (by kernel_rfl) (by simp) (AllReadyH.cons (o := { dst := none, op := Op.store 24 (Operand.tmp 16) (Operand.tmp 78), type := 0, pos := "law.go:117", after := #[{ on := 9, ground := Ground.data }, { on := 9, ground := Ground.chain }, { on := 0, ground := Ground.phase }, { on := 1, ground := Ground.phase }, { on := 2, ground := Ground.phase }, { on := 3, ground := Ground.phase }, { on := 4, ground := Ground.phase }, { on := 5, ground := Ground.phase }, { on := 6, ground := Ground.phase }, { on := 7, ground := Ground.phase }, { on := 8, ground := Ground.phase }, { on := 9, ground := Ground.phase }], guard := none }) rfl (fun K hK => ?_) (AllReadyH.nil))
                  have hf0 := hxk.frozen 0
                  have hz0 := hxk.one
                  go_simp
                  have hx0 := hxk
                  clear hf0 hz0
                  have hbel : Below _ _ (wK.setCell ⟨gk, 0, none⟩ (.slice Ak nk ck)) := hBE.setCell (by show wv.heap.size ≤ gk; have := HG4.out.2.2.2.2; have := HG4.out.2.1; omega) _
                  replace hxn := hxn.far (p := gk) (i := 0) (by have := HG4.out.2.1; omega) (.slice Ak nk ck)
                  replace hxk := hxk.set 0 (.slice Ak nk ck)
                  replace hok := hok.setBox (u := .slice Ak nk ck) hx0 (by decide) (by decide) 0
                  replace hsp := hsp.far (p := gk) (i := 0) (by have := HG4.out.2.1; omega) (.slice Ak nk ck)
                  replace hkk := hkk.setBox (u := .slice Ak nk ck) hx0 (by decide) (by decide) 0
                  obtain ⟨wS, hnew⟩ : ∃ wS : World, wS = (wK.setCell ⟨gk, 0, none⟩ (.slice Ak nk ck)) := ⟨_, rfl⟩
                  rw [← hnew] at hbel hxn hxk hok hsp hkk ⊢
                  clear hnew
                  replace hBE := hbel
                  clear hbel
                  refine hK.out _ _ (HK.out _ hBE) (fun hHeld2 => ?_)
                  clear hK K hHeld
                  have hHeld := hHeld2
                  clear hHeld2
                  try simp only [Act.put, List.setIfInBounds_toArray, List.set_cons_zero, List.set_cons_succ]
                  refine wpAnyH_done (by kernel_rfl) ?_ _
                  have HBT := Lib.hid hBE
                  have HNT := Lib.hid hxn; have HKT := Lib.hid hxk; have HO48 := Lib.hid hok; have HSPT := Lib.hid hsp; have HKO := Lib.hid hkk; have HKL := Lib.hid hkl
                  obtain ⟨wt, hwt⟩ : ∃ wt : World, wt = wS := ⟨_, rfl⟩
                  rw [← hwt] at HBT HNT HKT HO48 HSPT HKO ⊢
                  clear hBE hxn hxk hok hsp hkk hkl hHeld hwt HK
                  have HBWT := Lib.hid (HBwc.out.trans (HBT.out.mono HBwc.out.size))
                  have n0 := HNT.out.one
                  have k0 := HKT.out.one
                  have HQ1 := Lib.hid (rsame_any AK Ak nK nk cK ck msK msk wt (fewIs_sr HO48.out).1 (fewIs_sr HKO.out).1)
                  rw [HLK.out, HKL.out, decide_eq_true rfl] at HQ1
                  have HQ2 := Lib.hid (fun W' (hb : Below wv.heap.size wv W') => rsame_any As Aw ns nw cs cw mss msw W' (HSRc.out.on hb) (HSRW.out.on hb))
                  rw [HLS.out, HLW.out, decide_eq_true rfl] at HQ2
                  go_upto_region 24 with fail
                  go_wp2_with fail
                  refine HQ1.out.mono ?_
                  rintro y wa ⟨rfl, hba⟩
                  have HBA := Lib.hid (HBT.out.trans (hba.mono HBT.out.size))
                  have HTA := Lib.hid hba
                  clear n0 k0 hba
                  have s0 := (HXc.out.on HBA.out).one
                  have v0 := (HXW.out.on HBA.out).one
                  go_wp2_with fail
                  refine (HQ2.out _ HBA.out).mono ?_
                  rintro y wb ⟨rfl, hbb⟩
                  have HBB := Lib.hid (HBA.out.trans (hbb.mono HBA.out.size))
                  have HTB := Lib.hid (HTA.out.trans (hbb.mono HTA.out.size))
                  clear s0 v0 hbb
                  have n0 := (HNT.out.on HTB.out).one
                  have HSL := Lib.hid (spoil_any w3.heap.size gn AK nK cK (msK.map (·.2)) wb (HSPT.out.on HTB.out) HNK.out.2.symm HNK.out.1 (by have h1 := HG4.out.2.1; have h2 := HG4.out.2.2.2.1; have h3 := HTB.out.size; have h4 := (HNT.out.on HTB.out).lt; omega) (by have := HZ34.out; omega))
                  go_wp2_with fail
                  refine HSL.out.mono ?_
                  rintro y wd ⟨⟨yv, rfl⟩, hwd⟩
                  have HBD := Lib.hid (HBB.out.trans (hwd.1.mono (by exact HB3.out.size)))
                  have HKTD := Lib.hid (hwd.box (HKT.out.on HTB.out) (by have := HG4.out.2.1; omega))
                  have HKOD := Lib.hid (OwnS.within (HKO.out.on HTB.out) hwd)
                  clear n0 hwd
                  have HCD := Lib.hid (fun (W' : World) (hW : Below wd.heap.size wd W') => (⟨by
                    obtain ⟨a0, a1, a2, a3⟩ := ((HYc.out.on HBD.out).on hW).four
                    obtain ⟨r0, r1⟩ := ((HXR.out.on HBD.out).on hW).two
                    exact ⟨((HXc.out.on HBD.out).on hW).one, ((HXW.out.on HBD.out).on hW).one, r0, r1, a2, a3⟩⟩ : PLift (W'.cell? ⟨gs, 0, none⟩ = some (.slice As ns cs) ∧ W'.cell? ⟨gw, 0, none⟩ = some (.slice Aw nw cw) ∧ W'.cell? ⟨gr, 0, none⟩ = some (.int .i64 ae) ∧ W'.cell? ⟨gr, 1, none⟩ = some (.slice Ar nr cr) ∧ W'.cell? ⟨wr.heap.size, 2, none⟩ = some (.int .i64 ae) ∧ W'.cell? ⟨wr.heap.size, 3, none⟩ = some av)).down)
                  have hBE := Below.refl wd.heap.size wd
                  have HQ3 := Lib.hid (fun W' (hb : Below wd.heap.size wd W') => HQ2.out W' (HBD.out.trans (hb.mono HBD.out.size)))
                  have HR3 := Lib.hid (fun W' (hb : Below wd.heap.size wd W') => HRP1.out W' (HBX.out.trans ((HBD.out.trans (hb.mono HBD.out.size)).mono HBX.out.size)))
                  have HS3 := Lib.hid (fun W' (u : Value) (hb : Below wd.heap.size wd W') (hu : NR W' u ax) => rsamer_any ae ae (.slice Ar nr cr) u ax ax W' (HNR.out.on (HBD.out.trans (hb.mono HBD.out.size))) hu)
                  rw [decide_eq_true rfl] at HS3
                  go_upto_region 27 with fail
                  go_region_held3 (fun W' => W'.cell? ⟨gs, 0, none⟩ = some (.slice As ns cs) ∧ W'.cell? ⟨gw, 0, none⟩ = some (.slice Aw nw cw) ∧ W'.cell? ⟨gr, 0, none⟩ = some (.int .i64 ae) ∧ W'.cell? ⟨gr, 1, none⟩ = some (.slice Ar nr cr) ∧ W'.cell? ⟨wr.heap.size, 2, none⟩ = some (.int .i64 ae) ∧ W'.cell? ⟨wr.heap.size, 3, none⟩ = some av) (with_reducible first | exact HCD.out _ hBE | exact HCD.out _ hBE.drew) (first
                    | (go_at_call 12; (with_reducible first | refine (HQ3.out _ hBE).mono ?_ | refine (HQ3.out _ hBE.drew).mono ?_); rintro y we ⟨rfl, hwe⟩; replace hBE : Below wd.heap.size wd we := Below.trans (by first | exact hBE | exact hBE.drew) (hwe.mono (by first | exact hBE.size | exact hBE.drew.size)))
                    | (go_at_call 13; (with_reducible first | refine (HR3.out _ hBE).mono ?_ | refine (HR3.out _ hBE.drew).mono ?_); rintro y we ⟨uE, rfl, huE, hwe⟩; replace hBE : Below wd.heap.size wd we := Below.trans (by first | exact hBE | exact hBE.drew) (hwe.mono (by first | exact hBE.size | exact hBE.drew.size)); replace huE := OwnN.nr huE)
                    | (go_at_call 17; (with_reducible refine (HS3.out _ _ hBE huE).mono ?_); rintro y we ⟨rfl, hwe⟩; replace hBE : Below wd.heap.size wd we := hBE.trans (hwe.mono hBE.size)))
                  have HDE := Lib.hid hBE
                  have HBE := Lib.hid (HBD.out.trans (hBE.mono HBD.out.size))
                  have HBWE := Lib.hid (HBwc.out.trans (HBE.out.mono HBwc.out.size))
                  clear hBE
                  have k0 := (HKTD.out.on HDE.out).one
                  have hfs := (HXc.out.on HBE.out).frozen 0
                  have hcs := (HXc.out.on HBE.out).one
                  go_wp2_with fail
                  go_roundw
                  case rel => exact ⟨k + 1, Ak, nk, ck, msk, by omega, by go_num, (HXc.out.on HBE.out).set 0 _, ((HKOD.out.on HDE.out).mono (Nat.zero_le _)).setBox (HXc.out.on HBE.out) (by decide) (by decide) 0, Lib.hid (by rw [HKL.out]; exact HFW2.out), HBWE.out.setCell (by show w.heap.size ≤ gs; exact HGS.out) _⟩
                  case measure => simp [intOf]; omega
                · have hd : (JH != 1) = true := by simp [hh]
                  obtain ⟨e1, e2⟩ := K3.out (by first | trivial | rfl) hr hh
                  have HE2 := Lib.hid e2
                  subst e1
                  have HRR := Lib.hid (rreply_any ae (.slice Ar nr cr) ax wx8 (HNR.out.on HB28.out) HRF'.out.2)
                  rw [RepZ.ok_yes.2 hr] at HRR
                  obtain ⟨r0, r1⟩ := (HXR.out.on HB28.out).two
                  clear hh hr e2
                  unfold repV at HRR
                  simp only at HRR
                  go_wp2_with fail
                  refine HRR.out.mono ?_
                  rintro y wt ⟨rfl, hbt⟩
                  clear r0 r1
                  have hjj : (JH != JH) = false := by simp
                  have HBT := Lib.hid (HB28.out.trans (hbt.mono HB28.out.size))
                  have HNT := Lib.hid (HN8.out.on hbt); have HKT := Lib.hid (HK8.out.on hbt)
                  have HKO : Hid (OwnS wt gn (.slice none 0 0) []) := Lib.hid (.nil _ _)
                  have HKL : Hid (([] : List SesM).map (·.1) = KS) := Lib.hid HE2.out.symm
                  have HO48 := Lib.hid ((HOK5.out.on HB8.out).on hbt)
                  have HSPT := Lib.hid ((HSP5.out.on HB8.out).on hbt)
                  clear hbt
                  have HBWT := Lib.hid (HBwc.out.trans (HBT.out.mono HBwc.out.size))
                  have n0 := HNT.out.one
                  have k0 := HKT.out.one
                  have HQ1 := Lib.hid (rsame_any AK none nK 0 cK 0 msK [] wt (fewIs_sr HO48.out).1 (fewIs_sr HKO.out).1)
                  rw [HLK.out, HKL.out, decide_eq_true rfl] at HQ1
                  have HQ2 := Lib.hid (fun W' (hb : Below wv.heap.size wv W') => rsame_any As Aw ns nw cs cw mss msw W' (HSRc.out.on hb) (HSRW.out.on hb))
                  rw [HLS.out, HLW.out, decide_eq_true rfl] at HQ2
                  go_upto_region 24 with fail
                  go_wp2_with fail
                  refine HQ1.out.mono ?_
                  rintro y wa ⟨rfl, hba⟩
                  have HBA := Lib.hid (HBT.out.trans (hba.mono HBT.out.size))
                  have HTA := Lib.hid hba
                  clear n0 k0 hba
                  have s0 := (HXc.out.on HBA.out).one
                  have v0 := (HXW.out.on HBA.out).one
                  go_wp2_with fail
                  refine (HQ2.out _ HBA.out).mono ?_
                  rintro y wb ⟨rfl, hbb⟩
                  have HBB := Lib.hid (HBA.out.trans (hbb.mono HBA.out.size))
                  have HTB := Lib.hid (HTA.out.trans (hbb.mono HTA.out.size))
                  clear s0 v0 hbb
                  have n0 := (HNT.out.on HTB.out).one
                  have HSL := Lib.hid (spoil_any w3.heap.size gn AK nK cK (msK.map (·.2)) wb (HSPT.out.on HTB.out) HNK.out.2.symm HNK.out.1 (by have h1 := HG4.out.2.1; have h2 := HG4.out.2.2.2.1; have h3 := HTB.out.size; have h4 := (HNT.out.on HTB.out).lt; omega) (by have := HZ34.out; omega))
                  go_wp2_with fail
                  refine HSL.out.mono ?_
                  rintro y wd ⟨⟨yv, rfl⟩, hwd⟩
                  have HBD := Lib.hid (HBB.out.trans (hwd.1.mono (by exact HB3.out.size)))
                  have HKTD := Lib.hid (hwd.box (HKT.out.on HTB.out) (by have := HG4.out.2.1; omega))
                  have HKOD := Lib.hid (OwnS.within (HKO.out.on HTB.out) hwd)
                  clear n0 hwd
                  have HCD := Lib.hid (fun (W' : World) (hW : Below wd.heap.size wd W') => (⟨by
                    obtain ⟨a0, a1, a2, a3⟩ := ((HYc.out.on HBD.out).on hW).four
                    obtain ⟨r0, r1⟩ := ((HXR.out.on HBD.out).on hW).two
                    exact ⟨((HXc.out.on HBD.out).on hW).one, ((HXW.out.on HBD.out).on hW).one, r0, r1, a2, a3⟩⟩ : PLift (W'.cell? ⟨gs, 0, none⟩ = some (.slice As ns cs) ∧ W'.cell? ⟨gw, 0, none⟩ = some (.slice Aw nw cw) ∧ W'.cell? ⟨gr, 0, none⟩ = some (.int .i64 ae) ∧ W'.cell? ⟨gr, 1, none⟩ = some (.slice Ar nr cr) ∧ W'.cell? ⟨wr.heap.size, 2, none⟩ = some (.int .i64 ae) ∧ W'.cell? ⟨wr.heap.size, 3, none⟩ = some av)).down)
                  have hBE := Below.refl wd.heap.size wd
                  have HQ3 := Lib.hid (fun W' (hb : Below wd.heap.size wd W') => HQ2.out W' (HBD.out.trans (hb.mono HBD.out.size)))
                  have HR3 := Lib.hid (fun W' (hb : Below wd.heap.size wd W') => HRP1.out W' (HBX.out.trans ((HBD.out.trans (hb.mono HBD.out.size)).mono HBX.out.size)))
                  have HS3 := Lib.hid (fun W' (u : Value) (hb : Below wd.heap.size wd W') (hu : NR W' u ax) => rsamer_any ae ae (.slice Ar nr cr) u ax ax W' (HNR.out.on (HBD.out.trans (hb.mono HBD.out.size))) hu)
                  rw [decide_eq_true rfl] at HS3
                  go_upto_region 27 with fail
                  go_region_held3 (fun W' => W'.cell? ⟨gs, 0, none⟩ = some (.slice As ns cs) ∧ W'.cell? ⟨gw, 0, none⟩ = some (.slice Aw nw cw) ∧ W'.cell? ⟨gr, 0, none⟩ = some (.int .i64 ae) ∧ W'.cell? ⟨gr, 1, none⟩ = some (.slice Ar nr cr) ∧ W'.cell? ⟨wr.heap.size, 2, none⟩ = some (.int .i64 ae) ∧ W'.cell? ⟨wr.heap.size, 3, none⟩ = some av) (with_reducible first | exact HCD.out _ hBE | exact HCD.out _ hBE.drew) (first
                    | (go_at_call 12; (with_reducible first | refine (HQ3.out _ hBE).mono ?_ | refine (HQ3.out _ hBE.drew).mono ?_); rintro y we ⟨rfl, hwe⟩; replace hBE : Below wd.heap.size wd we := Below.trans (by first | exact hBE | exact hBE.drew) (hwe.mono (by first | exact hBE.size | exact hBE.drew.size)))
                    | (go_at_call 13; (with_reducible first | refine (HR3.out _ hBE).mono ?_ | refine (HR3.out _ hBE.drew).mono ?_); rintro y we ⟨uE, rfl, huE, hwe⟩; replace hBE : Below wd.heap.size wd we := Below.trans (by first | exact hBE | exact hBE.drew) (hwe.mono (by first | exact hBE.size | exact hBE.drew.size)); replace huE := OwnN.nr huE)
                    | (go_at_call 17; (with_reducible refine (HS3.out _ _ hBE huE).mono ?_); rintro y we ⟨rfl, hwe⟩; replace hBE : Below wd.heap.size wd we := hBE.trans (hwe.mono hBE.size)))
                  have HDE := Lib.hid hBE
                  have HBE := Lib.hid (HBD.out.trans (hBE.mono HBD.out.size))
                  have HBWE := Lib.hid (HBwc.out.trans (HBE.out.mono HBwc.out.size))
                  clear hBE
                  go_wp2_with fail
                  go_roundw
                  case rel => exact ⟨k + 1, As, ns, cs, mss, by omega, by go_num, HXc.out.on HBE.out, HOc.out.on HBE.out, Lib.hid (by rw [HLS.out]; exact HFE.out), HBWE.out⟩
                  case measure => simp [intOf]; omega
              · obtain ⟨e1, e2⟩ := K2.out (by first | trivial | rfl) hr
                have HE2 := Lib.hid e2
                subst e1
                have HRR := Lib.hid (rreply_any ae (.slice Ar nr cr) ax wx8 (HNR.out.on HB28.out) HRF'.out.2)
                rw [RepZ.ok_no hr] at HRR
                obtain ⟨r0, r1⟩ := (HXR.out.on HB28.out).two
                clear hr e2
                unfold repV at HRR
                simp only at HRR
                go_wp2_with fail
                refine HRR.out.mono ?_
                rintro y wt ⟨rfl, hbt⟩
                clear r0 r1
                have hjj : (JH != JH) = false := by simp
                have HBT := Lib.hid (HB28.out.trans (hbt.mono HB28.out.size))
                have HNT := Lib.hid (HN8.out.on hbt); have HKT := Lib.hid (HK8.out.on hbt)
                have HKO : Hid (OwnS wt gn (.slice none 0 0) []) := Lib.hid (.nil _ _)
                have HKL : Hid (([] : List SesM).map (·.1) = KS) := Lib.hid HE2.out.symm
                have HO48 := Lib.hid ((HOK5.out.on HB8.out).on hbt)
                have HSPT := Lib.hid ((HSP5.out.on HB8.out).on hbt)
                clear hbt
                have HBWT := Lib.hid (HBwc.out.trans (HBT.out.mono HBwc.out.size))
                have n0 := HNT.out.one
                have k0 := HKT.out.one
                have HQ1 := Lib.hid (rsame_any AK none nK 0 cK 0 msK [] wt (fewIs_sr HO48.out).1 (fewIs_sr HKO.out).1)
                rw [HLK.out, HKL.out, decide_eq_true rfl] at HQ1
                have HQ2 := Lib.hid (fun W' (hb : Below wv.heap.size wv W') => rsame_any As Aw ns nw cs cw mss msw W' (HSRc.out.on hb) (HSRW.out.on hb))
                rw [HLS.out, HLW.out, decide_eq_true rfl] at HQ2
                go_upto_region 24 with fail
                go_wp2_with fail
                refine HQ1.out.mono ?_
                rintro y wa ⟨rfl, hba⟩
                have HBA := Lib.hid (HBT.out.trans (hba.mono HBT.out.size))
                have HTA := Lib.hid hba
                clear n0 k0 hba
                have s0 := (HXc.out.on HBA.out).one
                have v0 := (HXW.out.on HBA.out).one
                go_wp2_with fail
                refine (HQ2.out _ HBA.out).mono ?_
                rintro y wb ⟨rfl, hbb⟩
                have HBB := Lib.hid (HBA.out.trans (hbb.mono HBA.out.size))
                have HTB := Lib.hid (HTA.out.trans (hbb.mono HTA.out.size))
                clear s0 v0 hbb
                have n0 := (HNT.out.on HTB.out).one
                have HSL := Lib.hid (spoil_any w3.heap.size gn AK nK cK (msK.map (·.2)) wb (HSPT.out.on HTB.out) HNK.out.2.symm HNK.out.1 (by have h1 := HG4.out.2.1; have h2 := HG4.out.2.2.2.1; have h3 := HTB.out.size; have h4 := (HNT.out.on HTB.out).lt; omega) (by have := HZ34.out; omega))
                go_wp2_with fail
                refine HSL.out.mono ?_
                rintro y wd ⟨⟨yv, rfl⟩, hwd⟩
                have HBD := Lib.hid (HBB.out.trans (hwd.1.mono (by exact HB3.out.size)))
                have HKTD := Lib.hid (hwd.box (HKT.out.on HTB.out) (by have := HG4.out.2.1; omega))
                have HKOD := Lib.hid (OwnS.within (HKO.out.on HTB.out) hwd)
                clear n0 hwd
                have HCD := Lib.hid (fun (W' : World) (hW : Below wd.heap.size wd W') => (⟨by
                  obtain ⟨a0, a1, a2, a3⟩ := ((HYc.out.on HBD.out).on hW).four
                  obtain ⟨r0, r1⟩ := ((HXR.out.on HBD.out).on hW).two
                  exact ⟨((HXc.out.on HBD.out).on hW).one, ((HXW.out.on HBD.out).on hW).one, r0, r1, a2, a3⟩⟩ : PLift (W'.cell? ⟨gs, 0, none⟩ = some (.slice As ns cs) ∧ W'.cell? ⟨gw, 0, none⟩ = some (.slice Aw nw cw) ∧ W'.cell? ⟨gr, 0, none⟩ = some (.int .i64 ae) ∧ W'.cell? ⟨gr, 1, none⟩ = some (.slice Ar nr cr) ∧ W'.cell? ⟨wr.heap.size, 2, none⟩ = some (.int .i64 ae) ∧ W'.cell? ⟨wr.heap.size, 3, none⟩ = some av)).down)
                have hBE := Below.refl wd.heap.size wd
                have HQ3 := Lib.hid (fun W' (hb : Below wd.heap.size wd W') => HQ2.out W' (HBD.out.trans (hb.mono HBD.out.size)))
                have HR3 := Lib.hid (fun W' (hb : Below wd.heap.size wd W') => HRP1.out W' (HBX.out.trans ((HBD.out.trans (hb.mono HBD.out.size)).mono HBX.out.size)))
                have HS3 := Lib.hid (fun W' (u : Value) (hb : Below wd.heap.size wd W') (hu : NR W' u ax) => rsamer_any ae ae (.slice Ar nr cr) u ax ax W' (HNR.out.on (HBD.out.trans (hb.mono HBD.out.size))) hu)
                rw [decide_eq_true rfl] at HS3
                go_upto_region 27 with fail
                go_region_held3 (fun W' => W'.cell? ⟨gs, 0, none⟩ = some (.slice As ns cs) ∧ W'.cell? ⟨gw, 0, none⟩ = some (.slice Aw nw cw) ∧ W'.cell? ⟨gr, 0, none⟩ = some (.int .i64 ae) ∧ W'.cell? ⟨gr, 1, none⟩ = some (.slice Ar nr cr) ∧ W'.cell? ⟨wr.heap.size, 2, none⟩ = some (.int .i64 ae) ∧ W'.cell? ⟨wr.heap.size, 3, none⟩ = some av) (with_reducible first | exact HCD.out _ hBE | exact HCD.out _ hBE.drew) (first
                  | (go_at_call 12; (with_reducible first | refine (HQ3.out _ hBE).mono ?_ | refine (HQ3.out _ hBE.drew).mono ?_); rintro y we ⟨rfl, hwe⟩; replace hBE : Below wd.heap.size wd we := Below.trans (by first | exact hBE | exact hBE.drew) (hwe.mono (by first | exact hBE.size | exact hBE.drew.size)))
                  | (go_at_call 13; (with_reducible first | refine (HR3.out _ hBE).mono ?_ | refine (HR3.out _ hBE.drew).mono ?_); rintro y we ⟨uE, rfl, huE, hwe⟩; replace hBE : Below wd.heap.size wd we := Below.trans (by first | exact hBE | exact hBE.drew) (hwe.mono (by first | exact hBE.size | exact hBE.drew.size)); replace huE := OwnN.nr huE)
                  | (go_at_call 17; (with_reducible refine (HS3.out _ _ hBE huE).mono ?_); rintro y we ⟨rfl, hwe⟩; replace hBE : Below wd.heap.size wd we := hBE.trans (hwe.mono hBE.size)))
                have HDE := Lib.hid hBE
                have HBE := Lib.hid (HBD.out.trans (hBE.mono HBD.out.size))
                have HBWE := Lib.hid (HBwc.out.trans (HBE.out.mono HBwc.out.size))
                clear hBE
                go_wp2_with fail
                go_roundw
                case rel => exact ⟨k + 1, As, ns, cs, mss, by omega, by go_num, HXc.out.on HBE.out, HOc.out.on HBE.out, Lib.hid (by rw [HLS.out]; exact HFE.out), HBWE.out⟩
                case measure => simp [intOf]; omega
            · have hd : (JE != 0) = true := by simp [hj]
              obtain ⟨e1, e2⟩ := K1.out hj
              have HE2 := Lib.hid e2
              have hd3 : (JE == 0) = false := by simp [hj]
              subst e1
              have hee : (KE != KE) = false := by simp
              clear hj e2
              obtain ⟨wt, hwt⟩ : ∃ wt : World, wt = wx8 := ⟨_, rfl⟩
              have hbt : Below wx8.heap.size wx8 wt := by rw [hwt]; exact Below.refl _ _
              rw [← hwt]
              clear hwt
              have hjj : (JH != JH) = false := by simp
              have HBT := Lib.hid (HB28.out.trans (hbt.mono HB28.out.size))
              have HNT := Lib.hid (HN8.out.on hbt); have HKT := Lib.hid (HK8.out.on hbt)
              have HKO : Hid (OwnS wt gn (.slice none 0 0) []) := Lib.hid (.nil _ _)
              have HKL : Hid (([] : List SesM).map (·.1) = KS) := Lib.hid HE2.out.symm
              have HO48 := Lib.hid ((HOK5.out.on HB8.out).on hbt)
              have HSPT := Lib.hid ((HSP5.out.on HB8.out).on hbt)
              clear hbt
              have HBWT := Lib.hid (HBwc.out.trans (HBT.out.mono HBwc.out.size))
              have n0 := HNT.out.one
              have k0 := HKT.out.one
              have HQ1 := Lib.hid (rsame_any AK none nK 0 cK 0 msK [] wt (fewIs_sr HO48.out).1 (fewIs_sr HKO.out).1)
              rw [HLK.out, HKL.out, decide_eq_true rfl] at HQ1
              have HQ2 := Lib.hid (fun W' (hb : Below wv.heap.size wv W') => rsame_any As Aw ns nw cs cw mss msw W' (HSRc.out.on hb) (HSRW.out.on hb))
              rw [HLS.out, HLW.out, decide_eq_true rfl] at HQ2
              go_upto_region 24 with fail
              go_wp2_with fail
              refine HQ1.out.mono ?_
              rintro y wa ⟨rfl, hba⟩
              have HBA := Lib.hid (HBT.out.trans (hba.mono HBT.out.size))
              have HTA := Lib.hid hba
              clear n0 k0 hba
              have s0 := (HXc.out.on HBA.out).one
              have v0 := (HXW.out.on HBA.out).one
              go_wp2_with fail
              refine (HQ2.out _ HBA.out).mono ?_
              rintro y wb ⟨rfl, hbb⟩
              have HBB := Lib.hid (HBA.out.trans (hbb.mono HBA.out.size))
              have HTB := Lib.hid (HTA.out.trans (hbb.mono HTA.out.size))
              clear s0 v0 hbb
              have n0 := (HNT.out.on HTB.out).one
              have HSL := Lib.hid (spoil_any w3.heap.size gn AK nK cK (msK.map (·.2)) wb (HSPT.out.on HTB.out) HNK.out.2.symm HNK.out.1 (by have h1 := HG4.out.2.1; have h2 := HG4.out.2.2.2.1; have h3 := HTB.out.size; have h4 := (HNT.out.on HTB.out).lt; omega) (by have := HZ34.out; omega))
              go_wp2_with fail
              refine HSL.out.mono ?_
              rintro y wd ⟨⟨yv, rfl⟩, hwd⟩
              have HBD := Lib.hid (HBB.out.trans (hwd.1.mono (by exact HB3.out.size)))
              have HKTD := Lib.hid (hwd.box (HKT.out.on HTB.out) (by have := HG4.out.2.1; omega))
              have HKOD := Lib.hid (OwnS.within (HKO.out.on HTB.out) hwd)
              clear n0 hwd
              have HCD := Lib.hid (fun (W' : World) (hW : Below wd.heap.size wd W') => (⟨by
                obtain ⟨a0, a1, a2, a3⟩ := ((HYc.out.on HBD.out).on hW).four
                obtain ⟨r0, r1⟩ := ((HXR.out.on HBD.out).on hW).two
                exact ⟨((HXc.out.on HBD.out).on hW).one, ((HXW.out.on HBD.out).on hW).one, r0, r1, a2, a3⟩⟩ : PLift (W'.cell? ⟨gs, 0, none⟩ = some (.slice As ns cs) ∧ W'.cell? ⟨gw, 0, none⟩ = some (.slice Aw nw cw) ∧ W'.cell? ⟨gr, 0, none⟩ = some (.int .i64 ae) ∧ W'.cell? ⟨gr, 1, none⟩ = some (.slice Ar nr cr) ∧ W'.cell? ⟨wr.heap.size, 2, none⟩ = some (.int .i64 ae) ∧ W'.cell? ⟨wr.heap.size, 3, none⟩ = some av)).down)
              have hBE := Below.refl wd.heap.size wd
              have HQ3 := Lib.hid (fun W' (hb : Below wd.heap.size wd W') => HQ2.out W' (HBD.out.trans (hb.mono HBD.out.size)))
              have HR3 := Lib.hid (fun W' (hb : Below wd.heap.size wd W') => HRP1.out W' (HBX.out.trans ((HBD.out.trans (hb.mono HBD.out.size)).mono HBX.out.size)))
              have HS3 := Lib.hid (fun W' (u : Value) (hb : Below wd.heap.size wd W') (hu : NR W' u ax) => rsamer_any ae ae (.slice Ar nr cr) u ax ax W' (HNR.out.on (HBD.out.trans (hb.mono HBD.out.size))) hu)
              rw [decide_eq_true rfl] at HS3
              go_upto_region 27 with fail
              go_region_held3 (fun W' => W'.cell? ⟨gs, 0, none⟩ = some (.slice As ns cs) ∧ W'.cell? ⟨gw, 0, none⟩ = some (.slice Aw nw cw) ∧ W'.cell? ⟨gr, 0, none⟩ = some (.int .i64 ae) ∧ W'.cell? ⟨gr, 1, none⟩ = some (.slice Ar nr cr) ∧ W'.cell? ⟨wr.heap.size, 2, none⟩ = some (.int .i64 ae) ∧ W'.cell? ⟨wr.heap.size, 3, none⟩ = some av) (with_reducible first | exact HCD.out _ hBE | exact HCD.out _ hBE.drew) (first
                | (go_at_call 12; (with_reducible first | refine (HQ3.out _ hBE).mono ?_ | refine (HQ3.out _ hBE.drew).mono ?_); rintro y we ⟨rfl, hwe⟩; replace hBE : Below wd.heap.size wd we := Below.trans (by first | exact hBE | exact hBE.drew) (hwe.mono (by first | exact hBE.size | exact hBE.drew.size)))
                | (go_at_call 13; (with_reducible first | refine (HR3.out _ hBE).mono ?_ | refine (HR3.out _ hBE.drew).mono ?_); rintro y we ⟨uE, rfl, huE, hwe⟩; replace hBE : Below wd.heap.size wd we := Below.trans (by first | exact hBE | exact hBE.drew) (hwe.mono (by first | exact hBE.size | exact hBE.drew.size)); replace huE := OwnN.nr huE)
                | (go_at_call 17; (with_reducible refine (HS3.out _ _ hBE huE).mono ?_); rintro y we ⟨rfl, hwe⟩; replace hBE : Below wd.heap.size wd we := hBE.trans (hwe.mono hBE.size)))
              have HDE := Lib.hid hBE
              have HBE := Lib.hid (HBD.out.trans (hBE.mono HBD.out.size))
              have HBWE := Lib.hid (HBwc.out.trans (HBE.out.mono HBwc.out.size))
              clear hBE
              go_wp2_with fail
              go_roundw
              case rel => exact ⟨k + 1, As, ns, cs, mss, by omega, by go_num, HXc.out.on HBE.out, HOc.out.on HBE.out, Lib.hid (by rw [HLS.out]; exact HFE.out), HBWE.out⟩
              case measure => simp [intOf]; omega
    · go_wp2_with fail
      go_ret
      exact ⟨rfl, HBr.out⟩
end Go.Proofs.Ytgnfoncokjglbaa
