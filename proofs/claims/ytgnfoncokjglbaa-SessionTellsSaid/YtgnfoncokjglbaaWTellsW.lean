/- The law SessionTells: which sessions and replies may be, are the same, and what a client has asked last: walked. -/
import Derived.Test.YtgnfoncokjglbaaWSpoil
import Derived.Test.YtgnfoncokjglbaaWRKeep
import Derived.Test.YtgnfoncokjglbaaWRight
import Derived.Test.YtgnfoncokjglbaaWRSame
import Derived.Test.YtgnfoncokjglbaaWCheck
import Derived.Test.YtgnfoncokjglbaaWROf2
import Derived.Deep.CutRange
namespace Go.Proofs.Ytgnfoncokjglbaa
open Go.RowKit

/-- One row of one's own, laid by a literal. -/
theorem sp_one {w : World} {base : Nat} {a b e : Int} {v : Value} {q : List Int} (h : OwnN w base v q) (hb : base ≤ w.heap.size) : Sp base (w.heap.size + 1) (w.alloc (.cells #[.int .i64 a, .int .u64 b, .int .i64 e, v] 42)) (some ⟨w.heap.size, 0, none⟩) [v] := by
  refine ⟨fun j u hj => ?_, fun u hu => ?_⟩
  · match j, hj with
    | 0, hj =>
      cases hj
      exact ⟨_, _, rfl, hb, Nat.lt_succ_self _, SBox.new w _ _, ⟨b, rfl⟩, rfl⟩
  · rw [List.mem_singleton] at hu
    subst hu
    obtain ⟨A', c', e', hr⟩ := h.nr
    refine ⟨A', q.length, c', e', hr.cap, hr.top, fun i hi => ?_⟩
    rcases h.2 with ⟨_, h0⟩ | ⟨g, cap, cur, e2, hg, hh, _⟩
    · omega
    · rw [e'] at e2
      have hA : A' = some ⟨g, 0, none⟩ := by injection e2
      have hx : SBox w g 64 cur := hh
      obtain ⟨x, hxi⟩ : ∃ x, q[i]? = some x := ⟨_, List.getElem?_eq_getElem hi⟩
      obtain ⟨b', o, e3, _, hc⟩ := hr.at_ hxi
      rw [hA] at e3
      cases e3
      rw [hx.cell, Nat.zero_add] at hc
      exact ⟨g, cur, hA, hg, Nat.lt_succ_of_lt hx.lt, hx.alloc _, x, hc⟩
set_option maxRecDepth 100000 in
set_option maxHeartbeats 16000000 in
theorem tells_law (A : Option Addr) (n c : Nat) (ms : List SesM) (A1 : Option Addr) (n1 c1 : Nat) (ms1 : List SesM) (A2 : Option Addr) (n2 c2 : Nat) (ms2 : List SesM) (w : World) (h : SR w A n c ms) (h1 : SR w A1 n1 c1 ms1) (h2 : SR w A2 n2 c2 ms2) :
    Calls Try.prog 3 #[.agg #[.slice A n c], .agg #[.slice A1 n1 c1], .slice A2 n2 c2] w fun e w' => e = .returned (.bool true) ∧ Below w.heap.size w w' := by
  have hn2 : n2 ≤ 9223372036854775807 := by have := h2.cap; have := h2.top; unfold maxLen at this; omega
  have hb0 : Below w.heap.size w ((w.alloc (.cells #[.slice A n c] 24)).alloc (.cells #[.slice A1 n1 c1] 24)) := (new_below w _).alloc (by simp) _
  have hx0 := (SBox.new w 24 #[.slice A n c]).alloc (.cells #[.slice A1 n1 c1] 24)
  have hx1 : SBox ((w.alloc (.cells #[.slice A n c] 24)).alloc (.cells #[.slice A1 n1 c1] 24)) (w.heap.size + 1) 24 #[.slice A1 n1 c1] := by
    have := SBox.new (w.alloc (.cells #[.slice A n c] 24)) 24 #[.slice A1 n1 c1]
    rwa [World.size_alloc] at this
  obtain ⟨W0, hW0⟩ : ∃ W0 : World, W0 = (w.alloc (.cells #[.slice A n c] 24)).alloc (.cells #[.slice A1 n1 c1] 24) := ⟨_, rfl⟩
  rw [← hW0] at hb0 hx0 hx1
  have HB0 := Lib.hid hb0; have HX0 := Lib.hid hx0; have HX1 := Lib.hid hx1; have HT := Lib.hid h; have HT1 := Lib.hid h1; have HA := Lib.hid h2; have HNA := Lib.hid h2.len
  clear hb0 hx0 hx1 h h1 h2
  go_enter Try.func3, Try.ntmps3
  go_wp2_with fail
  rw [← hW0]
  clear hW0
  refine (wakes_any W0).mono ?_
  rintro y w1 ⟨rfl, hb1⟩
  have HB1 := Lib.hid hb1
  clear hb1
  have HBw1 := Lib.hid (HB0.out.trans (HB1.out.mono HB0.out.size))
  have HFS := Lib.hid (fun W' (hb : Below w1.heap.size w1 W') => few_any A n c ms W' ((HT.out.on HBw1.out).on hb))
  have HFT := Lib.hid (fun W' (hb : Below w1.heap.size w1 W') => few_any A1 n1 c1 ms1 W' ((HT1.out.on HBw1.out).on hb))
  have HC := Lib.hid (fun (W' : World) (hW : Below w1.heap.size w1 W') => (⟨⟨((HX0.out.on HB1.out).on hW).one, ((HX1.out.on HB1.out).on hW).one⟩⟩ : PLift (W'.cell? ⟨w.heap.size, 0, none⟩ = some (.slice A n c) ∧ W'.cell? ⟨w.heap.size + 1, 0, none⟩ = some (.slice A1 n1 c1))).down)
  generalize hls : fewL (ms.map (·.1)) = ls at *
  have HLS := Lib.hid hls
  generalize fewL (ms1.map (·.1)) = lt at *
  clear hls
  go_upto_region 3 with fail
  go_cut [7, 8] from 19 to 22 (fun s7 s8 wx => ∃ gs gt As ns cs mss At nt ct mst, s7 = .pointer (some ⟨gs, 0, none⟩) ∧ s8 = .pointer (some ⟨gt, 0, none⟩) ∧ SBox wx gs 24 #[.slice As ns cs] ∧ SBox wx gt 24 #[.slice At nt ct] ∧ OwnS wx 0 (.slice As ns cs) mss ∧ mss.map (·.1) = ls ∧ OwnS wx 0 (.slice At nt ct) mst ∧ mst.map (·.1) = lt ∧ Below w1.heap.size w1 wx)
  case first =>
    have hBE := Below.refl w1.heap.size w1
    have HK := HC
    refine wp_region_held_drew (S := (fun W' => W'.cell? ⟨w.heap.size, 0, none⟩ = some (.slice A n c) ∧ W'.cell? ⟨w.heap.size + 1, 0, none⟩ = some (.slice A1 n1 c1))) (by kernel_rfl) (HK.out _ hBE.drew) (fun hHeld => ?_)
    replace hBE := hBE.drew
    obtain ⟨w0r, hw0r⟩ : ∃ w0r : World, w0r = w1.drew := ⟨_, rfl⟩
    rw [← hw0r] at hBE hHeld ⊢
    clear hw0r
    refine wpAnyH_take (i := 0) (oi := { dst := some 19, op := Op.load 24 (Operand.tmp 3), type := 24, pos := "law.go:59", after := #[], guard := none }) (v := ?zvb0) rfl (by kernel_rfl) (by kernel_rfl) (by kernel_rfl) (fun _ _ _ h => h) (Or.inl ⟨by rfl, ?zhb0⟩) (by assumption) ?zrb0
    case zhb0 => (intro w hSw; (try dsimp only at hSw); go_simp; (try with_reducible rfl))
    try simp only [Act.put, List.setIfInBounds_toArray, List.set_cons_zero, List.set_cons_succ]
    refine wpAnyH_take (i := 2) (oi := { dst := some 21, op := Op.load 24 (Operand.tmp 4), type := 24, pos := "law.go:59", after := #[], guard := none }) (v := ?zvb1) rfl (by kernel_rfl) (by kernel_rfl) (by kernel_rfl) (fun _ _ _ h => h) (Or.inl ⟨by rfl, ?zhb1⟩) (by assumption) ?zrb1
    case zhb1 => (intro w hSw; (try dsimp only at hSw); go_simp; (try with_reducible rfl))
    try simp only [Act.put, List.setIfInBounds_toArray, List.set_cons_zero, List.set_cons_succ]
    refine wpAnyH_ready (rs := [1, 4, 5]) (by kernel_rfl) (by simp) (AllReadyH.cons (o := { dst := some 20, op := Op.call { callee := Callee.value (Operand.func 8), args := #[Operand.tmp 19], argTypes := #[24] }, type := 24, pos := "law.go:59", after := #[{ on := 0, ground := Ground.data }], guard := none }) rfl (fun K hK => ?_) (AllReadyH.cons (o := { dst := some 7, op := Op.alloc 24, type := 0, pos := "law.go:59", after := #[], guard := none }) rfl (fun K hK => ?_) (AllReadyH.cons (o := { dst := some 8, op := Op.alloc 24, type := 0, pos := "law.go:59", after := #[], guard := none }) rfl (fun K hK => ?_) (AllReadyH.nil))))
    · go_simp
      go_at_call 8; (with_reducible refine (HFS.out _ hBE).mono ?_)
      rintro y wFs ⟨⟨As, cs, mss, rfl, hos, hls⟩, hstep⟩
      replace hBE := hBE.trans (hstep.mono hBE.size)
      replace hos := hos.mono (Nat.zero_le _)
      generalize hlens : mss.length = ns at *
      clear hstep
      refine hK.out _ _ (HK.out _ hBE) (fun hHeld2 => ?_)
      clear hK K hHeld
      have hHeld := hHeld2
      clear hHeld2
      try simp only [Act.put, List.setIfInBounds_toArray, List.set_cons_zero, List.set_cons_succ]
      refine wpAnyH_ready (rs := [3, 4, 5]) (by kernel_rfl) (by simp) (AllReadyH.cons (o := { dst := some 22, op := Op.call { callee := Callee.value (Operand.func 8), args := #[Operand.tmp 21], argTypes := #[24] }, type := 24, pos := "law.go:59", after := #[{ on := 2, ground := Ground.data }, { on := 1, ground := Ground.chain }], guard := none }) rfl (fun K hK => ?_) (AllReadyH.cons (o := { dst := some 7, op := Op.alloc 24, type := 0, pos := "law.go:59", after := #[], guard := none }) rfl (fun K hK => ?_) (AllReadyH.cons (o := { dst := some 8, op := Op.alloc 24, type := 0, pos := "law.go:59", after := #[], guard := none }) rfl (fun K hK => ?_) (AllReadyH.nil))))
      · go_simp
        go_at_call 8; (with_reducible refine (HFT.out _ hBE).mono ?_)
        rintro y wFt ⟨⟨At, ct, mst, rfl, hot, hlt⟩, hstep⟩
        replace hBE := hBE.trans (hstep.mono hBE.size)
        replace hos := hos.on hstep
        replace hot := hot.mono (Nat.zero_le _)
        generalize hlent : mst.length = nt at *
        clear hstep
        refine hK.out _ _ (HK.out _ hBE) (fun hHeld2 => ?_)
        clear hK K hHeld
        have hHeld := hHeld2
        clear hHeld2
        try simp only [Act.put, List.setIfInBounds_toArray, List.set_cons_zero, List.set_cons_succ]
        refine wpAnyH_ready (rs := [4, 5]) (by kernel_rfl) (by simp) (AllReadyH.cons (o := { dst := some 7, op := Op.alloc 24, type := 0, pos := "law.go:59", after := #[], guard := none }) rfl (fun K hK => ?_) (AllReadyH.cons (o := { dst := some 8, op := Op.alloc 24, type := 0, pos := "law.go:59", after := #[], guard := none }) rfl (fun K hK => ?_) (AllReadyH.nil)))
        · go_simp
          have hgls := hBE.size
          try (have hlt0 := hxt.lt)
          have hstep := new_below wFt (.cells #[.slice none 0 0] 24)
          have hxs := SBox.new wFt 24 #[.slice none 0 0]
          replace hBE := hBE.trans (hstep.mono hBE.size)
          replace hos := hos.on hstep
          replace hot := hot.on hstep
          obtain ⟨wls, hnew⟩ : ∃ wls : World, wls = wFt.alloc (.cells #[.slice none 0 0] 24) := ⟨_, rfl⟩
          rw [← hnew] at hstep hBE hxs hos hot ⊢
          clear hnew hstep
          obtain ⟨gs, hgs⟩ : ∃ gs : Nat, gs = wFt.heap.size := ⟨_, rfl⟩
          rw [← hgs] at hxs hgls ⊢
          try (rw [← hgs] at hlt0)
          try (have hne : gs ≠ gt := by omega)
          clear hgs
          refine hK.out _ _ (HK.out _ hBE) (fun hHeld2 => ?_)
          clear hK K hHeld
          have hHeld := hHeld2
          clear hHeld2
          try simp only [Act.put, List.setIfInBounds_toArray, List.set_cons_zero, List.set_cons_succ]
          refine wpAnyH_ready (rs := [5]) (by kernel_rfl) (by simp) (AllReadyH.cons (o := { dst := some 8, op := Op.alloc 24, type := 0, pos := "law.go:59", after := #[], guard := none }) rfl (fun K hK => ?_) (AllReadyH.nil))
          go_simp
          have hglt := hBE.size
          try (have hlt0 := hxs.lt)
          have hstep := new_below wls (.cells #[.slice none 0 0] 24)
          have hxt := SBox.new wls 24 #[.slice none 0 0]
          replace hBE := hBE.trans (hstep.mono hBE.size)
          replace hos := hos.on hstep
          replace hot := hot.on hstep
          replace hxs := hxs.on hstep
          obtain ⟨wlt, hnew⟩ : ∃ wlt : World, wlt = wls.alloc (.cells #[.slice none 0 0] 24) := ⟨_, rfl⟩
          rw [← hnew] at hstep hBE hxt hos hot hxs ⊢
          clear hnew hstep
          obtain ⟨gt, hgt⟩ : ∃ gt : Nat, gt = wls.heap.size := ⟨_, rfl⟩
          rw [← hgt] at hxt hglt ⊢
          try (rw [← hgt] at hlt0)
          try (have hne : gs ≠ gt := by omega)
          clear hgt
          refine hK.out _ _ (HK.out _ hBE) (fun hHeld2 => ?_)
          clear hK K hHeld
          have hHeld := hHeld2
          clear hHeld2
          try simp only [Act.put, List.setIfInBounds_toArray, List.set_cons_zero, List.set_cons_succ]
          refine wpAnyH_ready (rs := [6]) (by kernel_rfl) (by simp) (AllReadyH.cons (o := { dst := none, op := Op.store 24 (Operand.tmp 7) (Operand.tmp 20), type := 0, pos := "law.go:59", after := #[{ on := 4, ground := Ground.data }, { on := 1, ground := Ground.data }, { on := 3, ground := Ground.chain }, { on := 0, ground := Ground.phase }, { on := 1, ground := Ground.phase }, { on := 2, ground := Ground.textOnly Departure.lateStores }, { on := 3, ground := Ground.textOnly Departure.lateStoresUnsure }, { on := 4, ground := Ground.phase }, { on := 5, ground := Ground.phase }], guard := none }) rfl (fun K hK => ?_) (AllReadyH.nil))
          have hf0 := hxs.frozen 0
          have hz0 := hxs.one
          go_simp
          have hx0 := hxs
          clear hf0 hz0
          have hbel : Below _ _ (wlt.setCell ⟨gs, 0, none⟩ (.slice As ns cs)) := hBE.setCell hgls _
          replace hos := hos.setBox (u := .slice As ns cs) hx0 (by decide) (by decide) 0
          replace hot := hot.setBox (u := .slice As ns cs) hx0 (by decide) (by decide) 0
          replace hxs := hxs.set 0 (.slice As ns cs)
          replace hxt := hxt.far (p := gs) (i := 0) (by omega) (.slice As ns cs)
          obtain ⟨wss, hnew⟩ : ∃ wss : World, wss = (wlt.setCell ⟨gs, 0, none⟩ (.slice As ns cs)) := ⟨_, rfl⟩
          rw [← hnew] at hbel hos hot hxs hxt ⊢
          clear hnew
          replace hBE := hbel
          clear hbel
          refine hK.out _ _ (HK.out _ hBE) (fun hHeld2 => ?_)
          clear hK K hHeld
          have hHeld := hHeld2
          clear hHeld2
          try simp only [Act.put, List.setIfInBounds_toArray, List.set_cons_zero, List.set_cons_succ]
          refine wpAnyH_ready (rs := [7]) (by kernel_rfl) (by simp) (AllReadyH.cons (o := { dst := none, op := Op.store 24 (Operand.tmp 8) (Operand.tmp 22), type := 0, pos := "law.go:59", after := #[{ on := 5, ground := Ground.data }, { on := 3, ground := Ground.data }, { on := 6, ground := Ground.chain }, { on := 0, ground := Ground.phase }, { on := 1, ground := Ground.phase }, { on := 2, ground := Ground.phase }, { on := 3, ground := Ground.phase }, { on := 4, ground := Ground.phase }, { on := 5, ground := Ground.phase }, { on := 6, ground := Ground.phase }], guard := none }) rfl (fun K hK => ?_) (AllReadyH.nil))
          have hf0 := hxt.frozen 0
          have hz0 := hxt.one
          go_simp
          have hx0 := hxt
          clear hf0 hz0
          have hbel : Below _ _ (wss.setCell ⟨gt, 0, none⟩ (.slice At nt ct)) := hBE.setCell hglt _
          replace hos := hos.setBox (u := .slice At nt ct) hx0 (by decide) (by decide) 0
          replace hot := hot.setBox (u := .slice At nt ct) hx0 (by decide) (by decide) 0
          replace hxs := hxs.far (p := gt) (i := 0) (by omega) (.slice At nt ct)
          replace hxt := hxt.set 0 (.slice At nt ct)
          obtain ⟨wst, hnew⟩ : ∃ wst : World, wst = (wss.setCell ⟨gt, 0, none⟩ (.slice At nt ct)) := ⟨_, rfl⟩
          rw [← hnew] at hbel hos hot hxs hxt ⊢
          clear hnew
          replace hBE := hbel
          clear hbel
          refine hK.out _ _ (HK.out _ hBE) (fun hHeld2 => ?_)
          clear hK K hHeld
          have hHeld := hHeld2
          clear hHeld2
          try simp only [Act.put, List.setIfInBounds_toArray, List.set_cons_zero, List.set_cons_succ]
          refine wpAnyH_done (by kernel_rfl) ?_ _
          go_wp2_with fail
          go_meet
          exact ⟨gs, gt, As, ns, cs, mss, At, nt, ct, mst, rfl, rfl, hxs, hxt, hos, hls, hot, hlt, hBE⟩
        · go_simp
          have hglt := hBE.size
          try (have hlt0 := hxs.lt)
          have hstep := new_below wFt (.cells #[.slice none 0 0] 24)
          have hxt := SBox.new wFt 24 #[.slice none 0 0]
          replace hBE := hBE.trans (hstep.mono hBE.size)
          replace hos := hos.on hstep
          replace hot := hot.on hstep
          obtain ⟨wlt, hnew⟩ : ∃ wlt : World, wlt = wFt.alloc (.cells #[.slice none 0 0] 24) := ⟨_, rfl⟩
          rw [← hnew] at hstep hBE hxt hos hot ⊢
          clear hnew hstep
          obtain ⟨gt, hgt⟩ : ∃ gt : Nat, gt = wFt.heap.size := ⟨_, rfl⟩
          rw [← hgt] at hxt hglt ⊢
          try (rw [← hgt] at hlt0)
          try (have hne : gs ≠ gt := by omega)
          clear hgt
          refine hK.out _ _ (HK.out _ hBE) (fun hHeld2 => ?_)
          clear hK K hHeld
          have hHeld := hHeld2
          clear hHeld2
          try simp only [Act.put, List.setIfInBounds_toArray, List.set_cons_zero, List.set_cons_succ]
          refine wpAnyH_ready (rs := [4]) (by kernel_rfl) (by simp) (AllReadyH.cons (o := { dst := some 7, op := Op.alloc 24, type := 0, pos := "law.go:59", after := #[], guard := none }) rfl (fun K hK => ?_) (AllReadyH.nil))
          go_simp
          have hgls := hBE.size
          try (have hlt0 := hxt.lt)
          have hstep := new_below wlt (.cells #[.slice none 0 0] 24)
          have hxs := SBox.new wlt 24 #[.slice none 0 0]
          replace hBE := hBE.trans (hstep.mono hBE.size)
          replace hos := hos.on hstep
          replace hot := hot.on hstep
          replace hxt := hxt.on hstep
          obtain ⟨wls, hnew⟩ : ∃ wls : World, wls = wlt.alloc (.cells #[.slice none 0 0] 24) := ⟨_, rfl⟩
          rw [← hnew] at hstep hBE hxs hos hot hxt ⊢
          clear hnew hstep
          obtain ⟨gs, hgs⟩ : ∃ gs : Nat, gs = wlt.heap.size := ⟨_, rfl⟩
          rw [← hgs] at hxs hgls ⊢
          try (rw [← hgs] at hlt0)
          try (have hne : gs ≠ gt := by omega)
          clear hgs
          refine hK.out _ _ (HK.out _ hBE) (fun hHeld2 => ?_)
          clear hK K hHeld
          have hHeld := hHeld2
          clear hHeld2
          try simp only [Act.put, List.setIfInBounds_toArray, List.set_cons_zero, List.set_cons_succ]
          refine wpAnyH_ready (rs := [6]) (by kernel_rfl) (by simp) (AllReadyH.cons (o := { dst := none, op := Op.store 24 (Operand.tmp 7) (Operand.tmp 20), type := 0, pos := "law.go:59", after := #[{ on := 4, ground := Ground.data }, { on := 1, ground := Ground.data }, { on := 3, ground := Ground.chain }, { on := 0, ground := Ground.phase }, { on := 1, ground := Ground.phase }, { on := 2, ground := Ground.textOnly Departure.lateStores }, { on := 3, ground := Ground.textOnly Departure.lateStoresUnsure }, { on := 4, ground := Ground.phase }, { on := 5, ground := Ground.phase }], guard := none }) rfl (fun K hK => ?_) (AllReadyH.nil))
          have hf0 := hxs.frozen 0
          have hz0 := hxs.one
          go_simp
          have hx0 := hxs
          clear hf0 hz0
          have hbel : Below _ _ (wls.setCell ⟨gs, 0, none⟩ (.slice As ns cs)) := hBE.setCell hgls _
          replace hos := hos.setBox (u := .slice As ns cs) hx0 (by decide) (by decide) 0
          replace hot := hot.setBox (u := .slice As ns cs) hx0 (by decide) (by decide) 0
          replace hxt := hxt.far (p := gs) (i := 0) (by omega) (.slice As ns cs)
          replace hxs := hxs.set 0 (.slice As ns cs)
          obtain ⟨wss, hnew⟩ : ∃ wss : World, wss = (wls.setCell ⟨gs, 0, none⟩ (.slice As ns cs)) := ⟨_, rfl⟩
          rw [← hnew] at hbel hos hot hxt hxs ⊢
          clear hnew
          replace hBE := hbel
          clear hbel
          refine hK.out _ _ (HK.out _ hBE) (fun hHeld2 => ?_)
          clear hK K hHeld
          have hHeld := hHeld2
          clear hHeld2
          try simp only [Act.put, List.setIfInBounds_toArray, List.set_cons_zero, List.set_cons_succ]
          refine wpAnyH_ready (rs := [7]) (by kernel_rfl) (by simp) (AllReadyH.cons (o := { dst := none, op := Op.store 24 (Operand.tmp 8) (Operand.tmp 22), type := 0, pos := "law.go:59", after := #[{ on := 5, ground := Ground.data }, { on := 3, ground := Ground.data }, { on := 6, ground := Ground.chain }, { on := 0, ground := Ground.phase }, { on := 1, ground := Ground.phase }, { on := 2, ground := Ground.phase }, { on := 3, ground := Ground.phase }, { on := 4, ground := Ground.phase }, { on := 5, ground := Ground.phase }, { on := 6, ground := Ground.phase }], guard := none }) rfl (fun K hK => ?_) (AllReadyH.nil))
          have hf0 := hxt.frozen 0
          have hz0 := hxt.one
          go_simp
          have hx0 := hxt
          clear hf0 hz0
          have hbel : Below _ _ (wss.setCell ⟨gt, 0, none⟩ (.slice At nt ct)) := hBE.setCell hglt _
          replace hos := hos.setBox (u := .slice At nt ct) hx0 (by decide) (by decide) 0
          replace hot := hot.setBox (u := .slice At nt ct) hx0 (by decide) (by decide) 0
          replace hxt := hxt.set 0 (.slice At nt ct)
          replace hxs := hxs.far (p := gt) (i := 0) (by omega) (.slice At nt ct)
          obtain ⟨wst, hnew⟩ : ∃ wst : World, wst = (wss.setCell ⟨gt, 0, none⟩ (.slice At nt ct)) := ⟨_, rfl⟩
          rw [← hnew] at hbel hos hot hxt hxs ⊢
          clear hnew
          replace hBE := hbel
          clear hbel
          refine hK.out _ _ (HK.out _ hBE) (fun hHeld2 => ?_)
          clear hK K hHeld
          have hHeld := hHeld2
          clear hHeld2
          try simp only [Act.put, List.setIfInBounds_toArray, List.set_cons_zero, List.set_cons_succ]
          refine wpAnyH_done (by kernel_rfl) ?_ _
          go_wp2_with fail
          go_meet
          exact ⟨gs, gt, As, ns, cs, mss, At, nt, ct, mst, rfl, rfl, hxs, hxt, hos, hls, hot, hlt, hBE⟩
      · go_simp
        have hgls := hBE.size
        try (have hlt0 := hxt.lt)
        have hstep := new_below wFs (.cells #[.slice none 0 0] 24)
        have hxs := SBox.new wFs 24 #[.slice none 0 0]
        replace hBE := hBE.trans (hstep.mono hBE.size)
        replace hos := hos.on hstep
        obtain ⟨wls, hnew⟩ : ∃ wls : World, wls = wFs.alloc (.cells #[.slice none 0 0] 24) := ⟨_, rfl⟩
        rw [← hnew] at hstep hBE hxs hos ⊢
        clear hnew hstep
        obtain ⟨gs, hgs⟩ : ∃ gs : Nat, gs = wFs.heap.size := ⟨_, rfl⟩
        rw [← hgs] at hxs hgls ⊢
        try (rw [← hgs] at hlt0)
        try (have hne : gs ≠ gt := by omega)
        clear hgs
        refine hK.out _ _ (HK.out _ hBE) (fun hHeld2 => ?_)
        clear hK K hHeld
        have hHeld := hHeld2
        clear hHeld2
        try simp only [Act.put, List.setIfInBounds_toArray, List.set_cons_zero, List.set_cons_succ]
        refine wpAnyH_ready (rs := [3, 5]) (by kernel_rfl) (by simp) (AllReadyH.cons (o := { dst := some 22, op := Op.call { callee := Callee.value (Operand.func 8), args := #[Operand.tmp 21], argTypes := #[24] }, type := 24, pos := "law.go:59", after := #[{ on := 2, ground := Ground.data }, { on := 1, ground := Ground.chain }], guard := none }) rfl (fun K hK => ?_) (AllReadyH.cons (o := { dst := some 8, op := Op.alloc 24, type := 0, pos := "law.go:59", after := #[], guard := none }) rfl (fun K hK => ?_) (AllReadyH.nil)))
        · go_simp
          go_at_call 8; (with_reducible refine (HFT.out _ hBE).mono ?_)
          rintro y wFt ⟨⟨At, ct, mst, rfl, hot, hlt⟩, hstep⟩
          replace hBE := hBE.trans (hstep.mono hBE.size)
          replace hos := hos.on hstep
          replace hxs := hxs.on hstep
          replace hot := hot.mono (Nat.zero_le _)
          generalize hlent : mst.length = nt at *
          clear hstep
          refine hK.out _ _ (HK.out _ hBE) (fun hHeld2 => ?_)
          clear hK K hHeld
          have hHeld := hHeld2
          clear hHeld2
          try simp only [Act.put, List.setIfInBounds_toArray, List.set_cons_zero, List.set_cons_succ]
          refine wpAnyH_ready (rs := [5]) (by kernel_rfl) (by simp) (AllReadyH.cons (o := { dst := some 8, op := Op.alloc 24, type := 0, pos := "law.go:59", after := #[], guard := none }) rfl (fun K hK => ?_) (AllReadyH.nil))
          go_simp
          have hglt := hBE.size
          try (have hlt0 := hxs.lt)
          have hstep := new_below wFt (.cells #[.slice none 0 0] 24)
          have hxt := SBox.new wFt 24 #[.slice none 0 0]
          replace hBE := hBE.trans (hstep.mono hBE.size)
          replace hos := hos.on hstep
          replace hxs := hxs.on hstep
          replace hot := hot.on hstep
          obtain ⟨wlt, hnew⟩ : ∃ wlt : World, wlt = wFt.alloc (.cells #[.slice none 0 0] 24) := ⟨_, rfl⟩
          rw [← hnew] at hstep hBE hxt hos hxs hot ⊢
          clear hnew hstep
          obtain ⟨gt, hgt⟩ : ∃ gt : Nat, gt = wFt.heap.size := ⟨_, rfl⟩
          rw [← hgt] at hxt hglt ⊢
          try (rw [← hgt] at hlt0)
          try (have hne : gs ≠ gt := by omega)
          clear hgt
          refine hK.out _ _ (HK.out _ hBE) (fun hHeld2 => ?_)
          clear hK K hHeld
          have hHeld := hHeld2
          clear hHeld2
          try simp only [Act.put, List.setIfInBounds_toArray, List.set_cons_zero, List.set_cons_succ]
          refine wpAnyH_ready (rs := [6]) (by kernel_rfl) (by simp) (AllReadyH.cons (o := { dst := none, op := Op.store 24 (Operand.tmp 7) (Operand.tmp 20), type := 0, pos := "law.go:59", after := #[{ on := 4, ground := Ground.data }, { on := 1, ground := Ground.data }, { on := 3, ground := Ground.chain }, { on := 0, ground := Ground.phase }, { on := 1, ground := Ground.phase }, { on := 2, ground := Ground.textOnly Departure.lateStores }, { on := 3, ground := Ground.textOnly Departure.lateStoresUnsure }, { on := 4, ground := Ground.phase }, { on := 5, ground := Ground.phase }], guard := none }) rfl (fun K hK => ?_) (AllReadyH.nil))
          have hf0 := hxs.frozen 0
          have hz0 := hxs.one
          go_simp
          have hx0 := hxs
          clear hf0 hz0
          have hbel : Below _ _ (wlt.setCell ⟨gs, 0, none⟩ (.slice As ns cs)) := hBE.setCell hgls _
          replace hos := hos.setBox (u := .slice As ns cs) hx0 (by decide) (by decide) 0
          replace hxs := hxs.set 0 (.slice As ns cs)
          replace hot := hot.setBox (u := .slice As ns cs) hx0 (by decide) (by decide) 0
          replace hxt := hxt.far (p := gs) (i := 0) (by omega) (.slice As ns cs)
          obtain ⟨wss, hnew⟩ : ∃ wss : World, wss = (wlt.setCell ⟨gs, 0, none⟩ (.slice As ns cs)) := ⟨_, rfl⟩
          rw [← hnew] at hbel hos hxs hot hxt ⊢
          clear hnew
          replace hBE := hbel
          clear hbel
          refine hK.out _ _ (HK.out _ hBE) (fun hHeld2 => ?_)
          clear hK K hHeld
          have hHeld := hHeld2
          clear hHeld2
          try simp only [Act.put, List.setIfInBounds_toArray, List.set_cons_zero, List.set_cons_succ]
          refine wpAnyH_ready (rs := [7]) (by kernel_rfl) (by simp) (AllReadyH.cons (o := { dst := none, op := Op.store 24 (Operand.tmp 8) (Operand.tmp 22), type := 0, pos := "law.go:59", after := #[{ on := 5, ground := Ground.data }, { on := 3, ground := Ground.data }, { on := 6, ground := Ground.chain }, { on := 0, ground := Ground.phase }, { on := 1, ground := Ground.phase }, { on := 2, ground := Ground.phase }, { on := 3, ground := Ground.phase }, { on := 4, ground := Ground.phase }, { on := 5, ground := Ground.phase }, { on := 6, ground := Ground.phase }], guard := none }) rfl (fun K hK => ?_) (AllReadyH.nil))
          have hf0 := hxt.frozen 0
          have hz0 := hxt.one
          go_simp
          have hx0 := hxt
          clear hf0 hz0
          have hbel : Below _ _ (wss.setCell ⟨gt, 0, none⟩ (.slice At nt ct)) := hBE.setCell hglt _
          replace hos := hos.setBox (u := .slice At nt ct) hx0 (by decide) (by decide) 0
          replace hxs := hxs.far (p := gt) (i := 0) (by omega) (.slice At nt ct)
          replace hot := hot.setBox (u := .slice At nt ct) hx0 (by decide) (by decide) 0
          replace hxt := hxt.set 0 (.slice At nt ct)
          obtain ⟨wst, hnew⟩ : ∃ wst : World, wst = (wss.setCell ⟨gt, 0, none⟩ (.slice At nt ct)) := ⟨_, rfl⟩
          rw [← hnew] at hbel hos hxs hot hxt ⊢
          clear hnew
          replace hBE := hbel
          clear hbel
          refine hK.out _ _ (HK.out _ hBE) (fun hHeld2 => ?_)
          clear hK K hHeld
          have hHeld := hHeld2
          clear hHeld2
          try simp only [Act.put, List.setIfInBounds_toArray, List.set_cons_zero, List.set_cons_succ]
          refine wpAnyH_done (by kernel_rfl) ?_ _
          go_wp2_with fail
          go_meet
          exact ⟨gs, gt, As, ns, cs, mss, At, nt, ct, mst, rfl, rfl, hxs, hxt, hos, hls, hot, hlt, hBE⟩
        · go_simp
          have hglt := hBE.size
          try (have hlt0 := hxs.lt)
          have hstep := new_below wls (.cells #[.slice none 0 0] 24)
          have hxt := SBox.new wls 24 #[.slice none 0 0]
          replace hBE := hBE.trans (hstep.mono hBE.size)
          replace hos := hos.on hstep
          replace hxs := hxs.on hstep
          obtain ⟨wlt, hnew⟩ : ∃ wlt : World, wlt = wls.alloc (.cells #[.slice none 0 0] 24) := ⟨_, rfl⟩
          rw [← hnew] at hstep hBE hxt hos hxs ⊢
          clear hnew hstep
          obtain ⟨gt, hgt⟩ : ∃ gt : Nat, gt = wls.heap.size := ⟨_, rfl⟩
          rw [← hgt] at hxt hglt ⊢
          try (rw [← hgt] at hlt0)
          try (have hne : gs ≠ gt := by omega)
          clear hgt
          refine hK.out _ _ (HK.out _ hBE) (fun hHeld2 => ?_)
          clear hK K hHeld
          have hHeld := hHeld2
          clear hHeld2
          try simp only [Act.put, List.setIfInBounds_toArray, List.set_cons_zero, List.set_cons_succ]
          refine wpAnyH_ready (rs := [3]) (by kernel_rfl) (by simp) (AllReadyH.cons (o := { dst := some 22, op := Op.call { callee := Callee.value (Operand.func 8), args := #[Operand.tmp 21], argTypes := #[24] }, type := 24, pos := "law.go:59", after := #[{ on := 2, ground := Ground.data }, { on := 1, ground := Ground.chain }], guard := none }) rfl (fun K hK => ?_) (AllReadyH.nil))
          go_simp
          go_at_call 8; (with_reducible refine (HFT.out _ hBE).mono ?_)
          rintro y wFt ⟨⟨At, ct, mst, rfl, hot, hlt⟩, hstep⟩
          replace hBE := hBE.trans (hstep.mono hBE.size)
          replace hos := hos.on hstep
          replace hxs := hxs.on hstep
          replace hxt := hxt.on hstep
          replace hot := hot.mono (Nat.zero_le _)
          generalize hlent : mst.length = nt at *
          clear hstep
          refine hK.out _ _ (HK.out _ hBE) (fun hHeld2 => ?_)
          clear hK K hHeld
          have hHeld := hHeld2
          clear hHeld2
          try simp only [Act.put, List.setIfInBounds_toArray, List.set_cons_zero, List.set_cons_succ]
          refine wpAnyH_ready (rs := [6]) (by kernel_rfl) (by simp) (AllReadyH.cons (o := { dst := none, op := Op.store 24 (Operand.tmp 7) (Operand.tmp 20), type := 0, pos := "law.go:59", after := #[{ on := 4, ground := Ground.data }, { on := 1, ground := Ground.data }, { on := 3, ground := Ground.chain }, { on := 0, ground := Ground.phase }, { on := 1, ground := Ground.phase }, { on := 2, ground := Ground.textOnly Departure.lateStores }, { on := 3, ground := Ground.textOnly Departure.lateStoresUnsure }, { on := 4, ground := Ground.phase }, { on := 5, ground := Ground.phase }], guard := none }) rfl (fun K hK => ?_) (AllReadyH.nil))
          have hf0 := hxs.frozen 0
          have hz0 := hxs.one
          go_simp
          have hx0 := hxs
          clear hf0 hz0
          have hbel : Below _ _ (wFt.setCell ⟨gs, 0, none⟩ (.slice As ns cs)) := hBE.setCell hgls _
          replace hos := hos.setBox (u := .slice As ns cs) hx0 (by decide) (by decide) 0
          replace hxs := hxs.set 0 (.slice As ns cs)
          replace hxt := hxt.far (p := gs) (i := 0) (by omega) (.slice As ns cs)
          replace hot := hot.setBox (u := .slice As ns cs) hx0 (by decide) (by decide) 0
          obtain ⟨wss, hnew⟩ : ∃ wss : World, wss = (wFt.setCell ⟨gs, 0, none⟩ (.slice As ns cs)) := ⟨_, rfl⟩
          rw [← hnew] at hbel hos hxs hxt hot ⊢
          clear hnew
          replace hBE := hbel
          clear hbel
          refine hK.out _ _ (HK.out _ hBE) (fun hHeld2 => ?_)
          clear hK K hHeld
          have hHeld := hHeld2
          clear hHeld2
          try simp only [Act.put, List.setIfInBounds_toArray, List.set_cons_zero, List.set_cons_succ]
          refine wpAnyH_ready (rs := [7]) (by kernel_rfl) (by simp) (AllReadyH.cons (o := { dst := none, op := Op.store 24 (Operand.tmp 8) (Operand.tmp 22), type := 0, pos := "law.go:59", after := #[{ on := 5, ground := Ground.data }, { on := 3, ground := Ground.data }, { on := 6, ground := Ground.chain }, { on := 0, ground := Ground.phase }, { on := 1, ground := Ground.phase }, { on := 2, ground := Ground.phase }, { on := 3, ground := Ground.phase }, { on := 4, ground := Ground.phase }, { on := 5, ground := Ground.phase }, { on := 6, ground := Ground.phase }], guard := none }) rfl (fun K hK => ?_) (AllReadyH.nil))
          have hf0 := hxt.frozen 0
          have hz0 := hxt.one
          go_simp
          have hx0 := hxt
          clear hf0 hz0
          have hbel : Below _ _ (wss.setCell ⟨gt, 0, none⟩ (.slice At nt ct)) := hBE.setCell hglt _
          replace hos := hos.setBox (u := .slice At nt ct) hx0 (by decide) (by decide) 0
          replace hxs := hxs.far (p := gt) (i := 0) (by omega) (.slice At nt ct)
          replace hxt := hxt.set 0 (.slice At nt ct)
          replace hot := hot.setBox (u := .slice At nt ct) hx0 (by decide) (by decide) 0
          obtain ⟨wst, hnew⟩ : ∃ wst : World, wst = (wss.setCell ⟨gt, 0, none⟩ (.slice At nt ct)) := ⟨_, rfl⟩
          rw [← hnew] at hbel hos hxs hxt hot ⊢
          clear hnew
          replace hBE := hbel
          clear hbel
          refine hK.out _ _ (HK.out _ hBE) (fun hHeld2 => ?_)
          clear hK K hHeld
          have hHeld := hHeld2
          clear hHeld2
          try simp only [Act.put, List.setIfInBounds_toArray, List.set_cons_zero, List.set_cons_succ]
          refine wpAnyH_done (by kernel_rfl) ?_ _
          go_wp2_with fail
          go_meet
          exact ⟨gs, gt, As, ns, cs, mss, At, nt, ct, mst, rfl, rfl, hxs, hxt, hos, hls, hot, hlt, hBE⟩
      · go_simp
        have hglt := hBE.size
        try (have hlt0 := hxs.lt)
        have hstep := new_below wFs (.cells #[.slice none 0 0] 24)
        have hxt := SBox.new wFs 24 #[.slice none 0 0]
        replace hBE := hBE.trans (hstep.mono hBE.size)
        replace hos := hos.on hstep
        obtain ⟨wlt, hnew⟩ : ∃ wlt : World, wlt = wFs.alloc (.cells #[.slice none 0 0] 24) := ⟨_, rfl⟩
        rw [← hnew] at hstep hBE hxt hos ⊢
        clear hnew hstep
        obtain ⟨gt, hgt⟩ : ∃ gt : Nat, gt = wFs.heap.size := ⟨_, rfl⟩
        rw [← hgt] at hxt hglt ⊢
        try (rw [← hgt] at hlt0)
        try (have hne : gs ≠ gt := by omega)
        clear hgt
        refine hK.out _ _ (HK.out _ hBE) (fun hHeld2 => ?_)
        clear hK K hHeld
        have hHeld := hHeld2
        clear hHeld2
        try simp only [Act.put, List.setIfInBounds_toArray, List.set_cons_zero, List.set_cons_succ]
        refine wpAnyH_ready (rs := [3, 4]) (by kernel_rfl) (by simp) (AllReadyH.cons (o := { dst := some 22, op := Op.call { callee := Callee.value (Operand.func 8), args := #[Operand.tmp 21], argTypes := #[24] }, type := 24, pos := "law.go:59", after := #[{ on := 2, ground := Ground.data }, { on := 1, ground := Ground.chain }], guard := none }) rfl (fun K hK => ?_) (AllReadyH.cons (o := { dst := some 7, op := Op.alloc 24, type := 0, pos := "law.go:59", after := #[], guard := none }) rfl (fun K hK => ?_) (AllReadyH.nil)))
        · go_simp
          go_at_call 8; (with_reducible refine (HFT.out _ hBE).mono ?_)
          rintro y wFt ⟨⟨At, ct, mst, rfl, hot, hlt⟩, hstep⟩
          replace hBE := hBE.trans (hstep.mono hBE.size)
          replace hos := hos.on hstep
          replace hxt := hxt.on hstep
          replace hot := hot.mono (Nat.zero_le _)
          generalize hlent : mst.length = nt at *
          clear hstep
          refine hK.out _ _ (HK.out _ hBE) (fun hHeld2 => ?_)
          clear hK K hHeld
          have hHeld := hHeld2
          clear hHeld2
          try simp only [Act.put, List.setIfInBounds_toArray, List.set_cons_zero, List.set_cons_succ]
          refine wpAnyH_ready (rs := [4]) (by kernel_rfl) (by simp) (AllReadyH.cons (o := { dst := some 7, op := Op.alloc 24, type := 0, pos := "law.go:59", after := #[], guard := none }) rfl (fun K hK => ?_) (AllReadyH.nil))
          go_simp
          have hgls := hBE.size
          try (have hlt0 := hxt.lt)
          have hstep := new_below wFt (.cells #[.slice none 0 0] 24)
          have hxs := SBox.new wFt 24 #[.slice none 0 0]
          replace hBE := hBE.trans (hstep.mono hBE.size)
          replace hos := hos.on hstep
          replace hxt := hxt.on hstep
          replace hot := hot.on hstep
          obtain ⟨wls, hnew⟩ : ∃ wls : World, wls = wFt.alloc (.cells #[.slice none 0 0] 24) := ⟨_, rfl⟩
          rw [← hnew] at hstep hBE hxs hos hxt hot ⊢
          clear hnew hstep
          obtain ⟨gs, hgs⟩ : ∃ gs : Nat, gs = wFt.heap.size := ⟨_, rfl⟩
          rw [← hgs] at hxs hgls ⊢
          try (rw [← hgs] at hlt0)
          try (have hne : gs ≠ gt := by omega)
          clear hgs
          refine hK.out _ _ (HK.out _ hBE) (fun hHeld2 => ?_)
          clear hK K hHeld
          have hHeld := hHeld2
          clear hHeld2
          try simp only [Act.put, List.setIfInBounds_toArray, List.set_cons_zero, List.set_cons_succ]
          refine wpAnyH_ready (rs := [6]) (by kernel_rfl) (by simp) (AllReadyH.cons (o := { dst := none, op := Op.store 24 (Operand.tmp 7) (Operand.tmp 20), type := 0, pos := "law.go:59", after := #[{ on := 4, ground := Ground.data }, { on := 1, ground := Ground.data }, { on := 3, ground := Ground.chain }, { on := 0, ground := Ground.phase }, { on := 1, ground := Ground.phase }, { on := 2, ground := Ground.textOnly Departure.lateStores }, { on := 3, ground := Ground.textOnly Departure.lateStoresUnsure }, { on := 4, ground := Ground.phase }, { on := 5, ground := Ground.phase }], guard := none }) rfl (fun K hK => ?_) (AllReadyH.nil))
          have hf0 := hxs.frozen 0
          have hz0 := hxs.one
          go_simp
          have hx0 := hxs
          clear hf0 hz0
          have hbel : Below _ _ (wls.setCell ⟨gs, 0, none⟩ (.slice As ns cs)) := hBE.setCell hgls _
          replace hos := hos.setBox (u := .slice As ns cs) hx0 (by decide) (by decide) 0
          replace hxt := hxt.far (p := gs) (i := 0) (by omega) (.slice As ns cs)
          replace hot := hot.setBox (u := .slice As ns cs) hx0 (by decide) (by decide) 0
          replace hxs := hxs.set 0 (.slice As ns cs)
          obtain ⟨wss, hnew⟩ : ∃ wss : World, wss = (wls.setCell ⟨gs, 0, none⟩ (.slice As ns cs)) := ⟨_, rfl⟩
          rw [← hnew] at hbel hos hxt hot hxs ⊢
          clear hnew
          replace hBE := hbel
          clear hbel
          refine hK.out _ _ (HK.out _ hBE) (fun hHeld2 => ?_)
          clear hK K hHeld
          have hHeld := hHeld2
          clear hHeld2
          try simp only [Act.put, List.setIfInBounds_toArray, List.set_cons_zero, List.set_cons_succ]
          refine wpAnyH_ready (rs := [7]) (by kernel_rfl) (by simp) (AllReadyH.cons (o := { dst := none, op := Op.store 24 (Operand.tmp 8) (Operand.tmp 22), type := 0, pos := "law.go:59", after := #[{ on := 5, ground := Ground.data }, { on := 3, ground := Ground.data }, { on := 6, ground := Ground.chain }, { on := 0, ground := Ground.phase }, { on := 1, ground := Ground.phase }, { on := 2, ground := Ground.phase }, { on := 3, ground := Ground.phase }, { on := 4, ground := Ground.phase }, { on := 5, ground := Ground.phase }, { on := 6, ground := Ground.phase }], guard := none }) rfl (fun K hK => ?_) (AllReadyH.nil))
          have hf0 := hxt.frozen 0
          have hz0 := hxt.one
          go_simp
          have hx0 := hxt
          clear hf0 hz0
          have hbel : Below _ _ (wss.setCell ⟨gt, 0, none⟩ (.slice At nt ct)) := hBE.setCell hglt _
          replace hos := hos.setBox (u := .slice At nt ct) hx0 (by decide) (by decide) 0
          replace hxt := hxt.set 0 (.slice At nt ct)
          replace hot := hot.setBox (u := .slice At nt ct) hx0 (by decide) (by decide) 0
          replace hxs := hxs.far (p := gt) (i := 0) (by omega) (.slice At nt ct)
          obtain ⟨wst, hnew⟩ : ∃ wst : World, wst = (wss.setCell ⟨gt, 0, none⟩ (.slice At nt ct)) := ⟨_, rfl⟩
          rw [← hnew] at hbel hos hxt hot hxs ⊢
          clear hnew
          replace hBE := hbel
          clear hbel
          refine hK.out _ _ (HK.out _ hBE) (fun hHeld2 => ?_)
          clear hK K hHeld
          have hHeld := hHeld2
          clear hHeld2
          try simp only [Act.put, List.setIfInBounds_toArray, List.set_cons_zero, List.set_cons_succ]
          refine wpAnyH_done (by kernel_rfl) ?_ _
          go_wp2_with fail
          go_meet
          exact ⟨gs, gt, As, ns, cs, mss, At, nt, ct, mst, rfl, rfl, hxs, hxt, hos, hls, hot, hlt, hBE⟩
        · go_simp
          have hgls := hBE.size
          try (have hlt0 := hxt.lt)
          have hstep := new_below wlt (.cells #[.slice none 0 0] 24)
          have hxs := SBox.new wlt 24 #[.slice none 0 0]
          replace hBE := hBE.trans (hstep.mono hBE.size)
          replace hos := hos.on hstep
          replace hxt := hxt.on hstep
          obtain ⟨wls, hnew⟩ : ∃ wls : World, wls = wlt.alloc (.cells #[.slice none 0 0] 24) := ⟨_, rfl⟩
          rw [← hnew] at hstep hBE hxs hos hxt ⊢
          clear hnew hstep
          obtain ⟨gs, hgs⟩ : ∃ gs : Nat, gs = wlt.heap.size := ⟨_, rfl⟩
          rw [← hgs] at hxs hgls ⊢
          try (rw [← hgs] at hlt0)
          try (have hne : gs ≠ gt := by omega)
          clear hgs
          refine hK.out _ _ (HK.out _ hBE) (fun hHeld2 => ?_)
          clear hK K hHeld
          have hHeld := hHeld2
          clear hHeld2
          try simp only [Act.put, List.setIfInBounds_toArray, List.set_cons_zero, List.set_cons_succ]
          refine wpAnyH_ready (rs := [3]) (by kernel_rfl) (by simp) (AllReadyH.cons (o := { dst := some 22, op := Op.call { callee := Callee.value (Operand.func 8), args := #[Operand.tmp 21], argTypes := #[24] }, type := 24, pos := "law.go:59", after := #[{ on := 2, ground := Ground.data }, { on := 1, ground := Ground.chain }], guard := none }) rfl (fun K hK => ?_) (AllReadyH.nil))
          go_simp
          go_at_call 8; (with_reducible refine (HFT.out _ hBE).mono ?_)
          rintro y wFt ⟨⟨At, ct, mst, rfl, hot, hlt⟩, hstep⟩
          replace hBE := hBE.trans (hstep.mono hBE.size)
          replace hos := hos.on hstep
          replace hxt := hxt.on hstep
          replace hxs := hxs.on hstep
          replace hot := hot.mono (Nat.zero_le _)
          generalize hlent : mst.length = nt at *
          clear hstep
          refine hK.out _ _ (HK.out _ hBE) (fun hHeld2 => ?_)
          clear hK K hHeld
          have hHeld := hHeld2
          clear hHeld2
          try simp only [Act.put, List.setIfInBounds_toArray, List.set_cons_zero, List.set_cons_succ]
          refine wpAnyH_ready (rs := [6]) (by kernel_rfl) (by simp) (AllReadyH.cons (o := { dst := none, op := Op.store 24 (Operand.tmp 7) (Operand.tmp 20), type := 0, pos := "law.go:59", after := #[{ on := 4, ground := Ground.data }, { on := 1, ground := Ground.data }, { on := 3, ground := Ground.chain }, { on := 0, ground := Ground.phase }, { on := 1, ground := Ground.phase }, { on := 2, ground := Ground.textOnly Departure.lateStores }, { on := 3, ground := Ground.textOnly Departure.lateStoresUnsure }, { on := 4, ground := Ground.phase }, { on := 5, ground := Ground.phase }], guard := none }) rfl (fun K hK => ?_) (AllReadyH.nil))
          have hf0 := hxs.frozen 0
          have hz0 := hxs.one
          go_simp
          have hx0 := hxs
          clear hf0 hz0
          have hbel : Below _ _ (wFt.setCell ⟨gs, 0, none⟩ (.slice As ns cs)) := hBE.setCell hgls _
          replace hos := hos.setBox (u := .slice As ns cs) hx0 (by decide) (by decide) 0
          replace hxt := hxt.far (p := gs) (i := 0) (by omega) (.slice As ns cs)
          replace hxs := hxs.set 0 (.slice As ns cs)
          replace hot := hot.setBox (u := .slice As ns cs) hx0 (by decide) (by decide) 0
          obtain ⟨wss, hnew⟩ : ∃ wss : World, wss = (wFt.setCell ⟨gs, 0, none⟩ (.slice As ns cs)) := ⟨_, rfl⟩
          rw [← hnew] at hbel hos hxt hxs hot ⊢
          clear hnew
          replace hBE := hbel
          clear hbel
          refine hK.out _ _ (HK.out _ hBE) (fun hHeld2 => ?_)
          clear hK K hHeld
          have hHeld := hHeld2
          clear hHeld2
          try simp only [Act.put, List.setIfInBounds_toArray, List.set_cons_zero, List.set_cons_succ]
          refine wpAnyH_ready (rs := [7]) (by kernel_rfl) (by simp) (AllReadyH.cons (o := { dst := none, op := Op.store 24 (Operand.tmp 8) (Operand.tmp 22), type := 0, pos := "law.go:59", after := #[{ on := 5, ground := Ground.data }, { on := 3, ground := Ground.data }, { on := 6, ground := Ground.chain }, { on := 0, ground := Ground.phase }, { on := 1, ground := Ground.phase }, { on := 2, ground := Ground.phase }, { on := 3, ground := Ground.phase }, { on := 4, ground := Ground.phase }, { on := 5, ground := Ground.phase }, { on := 6, ground := Ground.phase }], guard := none }) rfl (fun K hK => ?_) (AllReadyH.nil))
          have hf0 := hxt.frozen 0
          have hz0 := hxt.one
          go_simp
          have hx0 := hxt
          clear hf0 hz0
          have hbel : Below _ _ (wss.setCell ⟨gt, 0, none⟩ (.slice At nt ct)) := hBE.setCell hglt _
          replace hos := hos.setBox (u := .slice At nt ct) hx0 (by decide) (by decide) 0
          replace hxt := hxt.set 0 (.slice At nt ct)
          replace hxs := hxs.far (p := gt) (i := 0) (by omega) (.slice At nt ct)
          replace hot := hot.setBox (u := .slice At nt ct) hx0 (by decide) (by decide) 0
          obtain ⟨wst, hnew⟩ : ∃ wst : World, wst = (wss.setCell ⟨gt, 0, none⟩ (.slice At nt ct)) := ⟨_, rfl⟩
          rw [← hnew] at hbel hos hxt hxs hot ⊢
          clear hnew
          replace hBE := hbel
          clear hbel
          refine hK.out _ _ (HK.out _ hBE) (fun hHeld2 => ?_)
          clear hK K hHeld
          have hHeld := hHeld2
          clear hHeld2
          try simp only [Act.put, List.setIfInBounds_toArray, List.set_cons_zero, List.set_cons_succ]
          refine wpAnyH_done (by kernel_rfl) ?_ _
          go_wp2_with fail
          go_meet
          exact ⟨gs, gt, As, ns, cs, mss, At, nt, ct, mst, rfl, rfl, hxs, hxt, hos, hls, hot, hlt, hBE⟩
    · go_simp
      have hgls := hBE.size
      try (have hlt0 := hxt.lt)
      have hstep := new_below w0r (.cells #[.slice none 0 0] 24)
      have hxs := SBox.new w0r 24 #[.slice none 0 0]
      replace hBE := hBE.trans (hstep.mono hBE.size)
      obtain ⟨wls, hnew⟩ : ∃ wls : World, wls = w0r.alloc (.cells #[.slice none 0 0] 24) := ⟨_, rfl⟩
      rw [← hnew] at hstep hBE hxs  ⊢
      clear hnew hstep
      obtain ⟨gs, hgs⟩ : ∃ gs : Nat, gs = w0r.heap.size := ⟨_, rfl⟩
      rw [← hgs] at hxs hgls ⊢
      try (rw [← hgs] at hlt0)
      try (have hne : gs ≠ gt := by omega)
      clear hgs
      refine hK.out _ _ (HK.out _ hBE) (fun hHeld2 => ?_)
      clear hK K hHeld
      have hHeld := hHeld2
      clear hHeld2
      try simp only [Act.put, List.setIfInBounds_toArray, List.set_cons_zero, List.set_cons_succ]
      refine wpAnyH_ready (rs := [1, 5]) (by kernel_rfl) (by simp) (AllReadyH.cons (o := { dst := some 20, op := Op.call { callee := Callee.value (Operand.func 8), args := #[Operand.tmp 19], argTypes := #[24] }, type := 24, pos := "law.go:59", after := #[{ on := 0, ground := Ground.data }], guard := none }) rfl (fun K hK => ?_) (AllReadyH.cons (o := { dst := some 8, op := Op.alloc 24, type := 0, pos := "law.go:59", after := #[], guard := none }) rfl (fun K hK => ?_) (AllReadyH.nil)))
      · go_simp
        go_at_call 8; (with_reducible refine (HFS.out _ hBE).mono ?_)
        rintro y wFs ⟨⟨As, cs, mss, rfl, hos, hls⟩, hstep⟩
        replace hBE := hBE.trans (hstep.mono hBE.size)
        replace hxs := hxs.on hstep
        replace hos := hos.mono (Nat.zero_le _)
        generalize hlens : mss.length = ns at *
        clear hstep
        refine hK.out _ _ (HK.out _ hBE) (fun hHeld2 => ?_)
        clear hK K hHeld
        have hHeld := hHeld2
        clear hHeld2
        try simp only [Act.put, List.setIfInBounds_toArray, List.set_cons_zero, List.set_cons_succ]
        refine wpAnyH_ready (rs := [3, 5]) (by kernel_rfl) (by simp) (AllReadyH.cons (o := { dst := some 22, op := Op.call { callee := Callee.value (Operand.func 8), args := #[Operand.tmp 21], argTypes := #[24] }, type := 24, pos := "law.go:59", after := #[{ on := 2, ground := Ground.data }, { on := 1, ground := Ground.chain }], guard := none }) rfl (fun K hK => ?_) (AllReadyH.cons (o := { dst := some 8, op := Op.alloc 24, type := 0, pos := "law.go:59", after := #[], guard := none }) rfl (fun K hK => ?_) (AllReadyH.nil)))
        · go_simp
          go_at_call 8; (with_reducible refine (HFT.out _ hBE).mono ?_)
          rintro y wFt ⟨⟨At, ct, mst, rfl, hot, hlt⟩, hstep⟩
          replace hBE := hBE.trans (hstep.mono hBE.size)
          replace hxs := hxs.on hstep
          replace hos := hos.on hstep
          replace hot := hot.mono (Nat.zero_le _)
          generalize hlent : mst.length = nt at *
          clear hstep
          refine hK.out _ _ (HK.out _ hBE) (fun hHeld2 => ?_)
          clear hK K hHeld
          have hHeld := hHeld2
          clear hHeld2
          try simp only [Act.put, List.setIfInBounds_toArray, List.set_cons_zero, List.set_cons_succ]
          refine wpAnyH_ready (rs := [5]) (by kernel_rfl) (by simp) (AllReadyH.cons (o := { dst := some 8, op := Op.alloc 24, type := 0, pos := "law.go:59", after := #[], guard := none }) rfl (fun K hK => ?_) (AllReadyH.nil))
          go_simp
          have hglt := hBE.size
          try (have hlt0 := hxs.lt)
          have hstep := new_below wFt (.cells #[.slice none 0 0] 24)
          have hxt := SBox.new wFt 24 #[.slice none 0 0]
          replace hBE := hBE.trans (hstep.mono hBE.size)
          replace hxs := hxs.on hstep
          replace hos := hos.on hstep
          replace hot := hot.on hstep
          obtain ⟨wlt, hnew⟩ : ∃ wlt : World, wlt = wFt.alloc (.cells #[.slice none 0 0] 24) := ⟨_, rfl⟩
          rw [← hnew] at hstep hBE hxt hxs hos hot ⊢
          clear hnew hstep
          obtain ⟨gt, hgt⟩ : ∃ gt : Nat, gt = wFt.heap.size := ⟨_, rfl⟩
          rw [← hgt] at hxt hglt ⊢
          try (rw [← hgt] at hlt0)
          try (have hne : gs ≠ gt := by omega)
          clear hgt
          refine hK.out _ _ (HK.out _ hBE) (fun hHeld2 => ?_)
          clear hK K hHeld
          have hHeld := hHeld2
          clear hHeld2
          try simp only [Act.put, List.setIfInBounds_toArray, List.set_cons_zero, List.set_cons_succ]
          refine wpAnyH_ready (rs := [6]) (by kernel_rfl) (by simp) (AllReadyH.cons (o := { dst := none, op := Op.store 24 (Operand.tmp 7) (Operand.tmp 20), type := 0, pos := "law.go:59", after := #[{ on := 4, ground := Ground.data }, { on := 1, ground := Ground.data }, { on := 3, ground := Ground.chain }, { on := 0, ground := Ground.phase }, { on := 1, ground := Ground.phase }, { on := 2, ground := Ground.textOnly Departure.lateStores }, { on := 3, ground := Ground.textOnly Departure.lateStoresUnsure }, { on := 4, ground := Ground.phase }, { on := 5, ground := Ground.phase }], guard := none }) rfl (fun K hK => ?_) (AllReadyH.nil))
          have hf0 := hxs.frozen 0
          have hz0 := hxs.one
          go_simp
          have hx0 := hxs
          clear hf0 hz0
          have hbel : Below _ _ (wlt.setCell ⟨gs, 0, none⟩ (.slice As ns cs)) := hBE.setCell hgls _
          replace hxs := hxs.set 0 (.slice As ns cs)
          replace hos := hos.setBox (u := .slice As ns cs) hx0 (by decide) (by decide) 0
          replace hot := hot.setBox (u := .slice As ns cs) hx0 (by decide) (by decide) 0
          replace hxt := hxt.far (p := gs) (i := 0) (by omega) (.slice As ns cs)
          obtain ⟨wss, hnew⟩ : ∃ wss : World, wss = (wlt.setCell ⟨gs, 0, none⟩ (.slice As ns cs)) := ⟨_, rfl⟩
          rw [← hnew] at hbel hxs hos hot hxt ⊢
          clear hnew
          replace hBE := hbel
          clear hbel
          refine hK.out _ _ (HK.out _ hBE) (fun hHeld2 => ?_)
          clear hK K hHeld
          have hHeld := hHeld2
          clear hHeld2
          try simp only [Act.put, List.setIfInBounds_toArray, List.set_cons_zero, List.set_cons_succ]
          refine wpAnyH_ready (rs := [7]) (by kernel_rfl) (by simp) (AllReadyH.cons (o := { dst := none, op := Op.store 24 (Operand.tmp 8) (Operand.tmp 22), type := 0, pos := "law.go:59", after := #[{ on := 5, ground := Ground.data }, { on := 3, ground := Ground.data }, { on := 6, ground := Ground.chain }, { on := 0, ground := Ground.phase }, { on := 1, ground := Ground.phase }, { on := 2, ground := Ground.phase }, { on := 3, ground := Ground.phase }, { on := 4, ground := Ground.phase }, { on := 5, ground := Ground.phase }, { on := 6, ground := Ground.phase }], guard := none }) rfl (fun K hK => ?_) (AllReadyH.nil))
          have hf0 := hxt.frozen 0
          have hz0 := hxt.one
          go_simp
          have hx0 := hxt
          clear hf0 hz0
          have hbel : Below _ _ (wss.setCell ⟨gt, 0, none⟩ (.slice At nt ct)) := hBE.setCell hglt _
          replace hxs := hxs.far (p := gt) (i := 0) (by omega) (.slice At nt ct)
          replace hos := hos.setBox (u := .slice At nt ct) hx0 (by decide) (by decide) 0
          replace hot := hot.setBox (u := .slice At nt ct) hx0 (by decide) (by decide) 0
          replace hxt := hxt.set 0 (.slice At nt ct)
          obtain ⟨wst, hnew⟩ : ∃ wst : World, wst = (wss.setCell ⟨gt, 0, none⟩ (.slice At nt ct)) := ⟨_, rfl⟩
          rw [← hnew] at hbel hxs hos hot hxt ⊢
          clear hnew
          replace hBE := hbel
          clear hbel
          refine hK.out _ _ (HK.out _ hBE) (fun hHeld2 => ?_)
          clear hK K hHeld
          have hHeld := hHeld2
          clear hHeld2
          try simp only [Act.put, List.setIfInBounds_toArray, List.set_cons_zero, List.set_cons_succ]
          refine wpAnyH_done (by kernel_rfl) ?_ _
          go_wp2_with fail
          go_meet
          exact ⟨gs, gt, As, ns, cs, mss, At, nt, ct, mst, rfl, rfl, hxs, hxt, hos, hls, hot, hlt, hBE⟩
        · go_simp
          have hglt := hBE.size
          try (have hlt0 := hxs.lt)
          have hstep := new_below wFs (.cells #[.slice none 0 0] 24)
          have hxt := SBox.new wFs 24 #[.slice none 0 0]
          replace hBE := hBE.trans (hstep.mono hBE.size)
          replace hxs := hxs.on hstep
          replace hos := hos.on hstep
          obtain ⟨wlt, hnew⟩ : ∃ wlt : World, wlt = wFs.alloc (.cells #[.slice none 0 0] 24) := ⟨_, rfl⟩
          rw [← hnew] at hstep hBE hxt hxs hos ⊢
          clear hnew hstep
          obtain ⟨gt, hgt⟩ : ∃ gt : Nat, gt = wFs.heap.size := ⟨_, rfl⟩
          rw [← hgt] at hxt hglt ⊢
          try (rw [← hgt] at hlt0)
          try (have hne : gs ≠ gt := by omega)
          clear hgt
          refine hK.out _ _ (HK.out _ hBE) (fun hHeld2 => ?_)
          clear hK K hHeld
          have hHeld := hHeld2
          clear hHeld2
          try simp only [Act.put, List.setIfInBounds_toArray, List.set_cons_zero, List.set_cons_succ]
          refine wpAnyH_ready (rs := [3]) (by kernel_rfl) (by simp) (AllReadyH.cons (o := { dst := some 22, op := Op.call { callee := Callee.value (Operand.func 8), args := #[Operand.tmp 21], argTypes := #[24] }, type := 24, pos := "law.go:59", after := #[{ on := 2, ground := Ground.data }, { on := 1, ground := Ground.chain }], guard := none }) rfl (fun K hK => ?_) (AllReadyH.nil))
          go_simp
          go_at_call 8; (with_reducible refine (HFT.out _ hBE).mono ?_)
          rintro y wFt ⟨⟨At, ct, mst, rfl, hot, hlt⟩, hstep⟩
          replace hBE := hBE.trans (hstep.mono hBE.size)
          replace hxs := hxs.on hstep
          replace hos := hos.on hstep
          replace hxt := hxt.on hstep
          replace hot := hot.mono (Nat.zero_le _)
          generalize hlent : mst.length = nt at *
          clear hstep
          refine hK.out _ _ (HK.out _ hBE) (fun hHeld2 => ?_)
          clear hK K hHeld
          have hHeld := hHeld2
          clear hHeld2
          try simp only [Act.put, List.setIfInBounds_toArray, List.set_cons_zero, List.set_cons_succ]
          refine wpAnyH_ready (rs := [6]) (by kernel_rfl) (by simp) (AllReadyH.cons (o := { dst := none, op := Op.store 24 (Operand.tmp 7) (Operand.tmp 20), type := 0, pos := "law.go:59", after := #[{ on := 4, ground := Ground.data }, { on := 1, ground := Ground.data }, { on := 3, ground := Ground.chain }, { on := 0, ground := Ground.phase }, { on := 1, ground := Ground.phase }, { on := 2, ground := Ground.textOnly Departure.lateStores }, { on := 3, ground := Ground.textOnly Departure.lateStoresUnsure }, { on := 4, ground := Ground.phase }, { on := 5, ground := Ground.phase }], guard := none }) rfl (fun K hK => ?_) (AllReadyH.nil))
          have hf0 := hxs.frozen 0
          have hz0 := hxs.one
          go_simp
          have hx0 := hxs
          clear hf0 hz0
          have hbel : Below _ _ (wFt.setCell ⟨gs, 0, none⟩ (.slice As ns cs)) := hBE.setCell hgls _
          replace hxs := hxs.set 0 (.slice As ns cs)
          replace hos := hos.setBox (u := .slice As ns cs) hx0 (by decide) (by decide) 0
          replace hxt := hxt.far (p := gs) (i := 0) (by omega) (.slice As ns cs)
          replace hot := hot.setBox (u := .slice As ns cs) hx0 (by decide) (by decide) 0
          obtain ⟨wss, hnew⟩ : ∃ wss : World, wss = (wFt.setCell ⟨gs, 0, none⟩ (.slice As ns cs)) := ⟨_, rfl⟩
          rw [← hnew] at hbel hxs hos hxt hot ⊢
          clear hnew
          replace hBE := hbel
          clear hbel
          refine hK.out _ _ (HK.out _ hBE) (fun hHeld2 => ?_)
          clear hK K hHeld
          have hHeld := hHeld2
          clear hHeld2
          try simp only [Act.put, List.setIfInBounds_toArray, List.set_cons_zero, List.set_cons_succ]
          refine wpAnyH_ready (rs := [7]) (by kernel_rfl) (by simp) (AllReadyH.cons (o := { dst := none, op := Op.store 24 (Operand.tmp 8) (Operand.tmp 22), type := 0, pos := "law.go:59", after := #[{ on := 5, ground := Ground.data }, { on := 3, ground := Ground.data }, { on := 6, ground := Ground.chain }, { on := 0, ground := Ground.phase }, { on := 1, ground := Ground.phase }, { on := 2, ground := Ground.phase }, { on := 3, ground := Ground.phase }, { on := 4, ground := Ground.phase }, { on := 5, ground := Ground.phase }, { on := 6, ground := Ground.phase }], guard := none }) rfl (fun K hK => ?_) (AllReadyH.nil))
          have hf0 := hxt.frozen 0
          have hz0 := hxt.one
          go_simp
          have hx0 := hxt
          clear hf0 hz0
          have hbel : Below _ _ (wss.setCell ⟨gt, 0, none⟩ (.slice At nt ct)) := hBE.setCell hglt _
          replace hxs := hxs.far (p := gt) (i := 0) (by omega) (.slice At nt ct)
          replace hos := hos.setBox (u := .slice At nt ct) hx0 (by decide) (by decide) 0
          replace hxt := hxt.set 0 (.slice At nt ct)
          replace hot := hot.setBox (u := .slice At nt ct) hx0 (by decide) (by decide) 0
          obtain ⟨wst, hnew⟩ : ∃ wst : World, wst = (wss.setCell ⟨gt, 0, none⟩ (.slice At nt ct)) := ⟨_, rfl⟩
          rw [← hnew] at hbel hxs hos hxt hot ⊢
          clear hnew
          replace hBE := hbel
          clear hbel
          refine hK.out _ _ (HK.out _ hBE) (fun hHeld2 => ?_)
          clear hK K hHeld
          have hHeld := hHeld2
          clear hHeld2
          try simp only [Act.put, List.setIfInBounds_toArray, List.set_cons_zero, List.set_cons_succ]
          refine wpAnyH_done (by kernel_rfl) ?_ _
          go_wp2_with fail
          go_meet
          exact ⟨gs, gt, As, ns, cs, mss, At, nt, ct, mst, rfl, rfl, hxs, hxt, hos, hls, hot, hlt, hBE⟩
      · go_simp
        have hglt := hBE.size
        try (have hlt0 := hxs.lt)
        have hstep := new_below wls (.cells #[.slice none 0 0] 24)
        have hxt := SBox.new wls 24 #[.slice none 0 0]
        replace hBE := hBE.trans (hstep.mono hBE.size)
        replace hxs := hxs.on hstep
        obtain ⟨wlt, hnew⟩ : ∃ wlt : World, wlt = wls.alloc (.cells #[.slice none 0 0] 24) := ⟨_, rfl⟩
        rw [← hnew] at hstep hBE hxt hxs ⊢
        clear hnew hstep
        obtain ⟨gt, hgt⟩ : ∃ gt : Nat, gt = wls.heap.size := ⟨_, rfl⟩
        rw [← hgt] at hxt hglt ⊢
        try (rw [← hgt] at hlt0)
        try (have hne : gs ≠ gt := by omega)
        clear hgt
        refine hK.out _ _ (HK.out _ hBE) (fun hHeld2 => ?_)
        clear hK K hHeld
        have hHeld := hHeld2
        clear hHeld2
        try simp only [Act.put, List.setIfInBounds_toArray, List.set_cons_zero, List.set_cons_succ]
        refine wpAnyH_ready (rs := [1]) (by kernel_rfl) (by simp) (AllReadyH.cons (o := { dst := some 20, op := Op.call { callee := Callee.value (Operand.func 8), args := #[Operand.tmp 19], argTypes := #[24] }, type := 24, pos := "law.go:59", after := #[{ on := 0, ground := Ground.data }], guard := none }) rfl (fun K hK => ?_) (AllReadyH.nil))
        go_simp
        go_at_call 8; (with_reducible refine (HFS.out _ hBE).mono ?_)
        rintro y wFs ⟨⟨As, cs, mss, rfl, hos, hls⟩, hstep⟩
        replace hBE := hBE.trans (hstep.mono hBE.size)
        replace hxs := hxs.on hstep
        replace hxt := hxt.on hstep
        replace hos := hos.mono (Nat.zero_le _)
        generalize hlens : mss.length = ns at *
        clear hstep
        refine hK.out _ _ (HK.out _ hBE) (fun hHeld2 => ?_)
        clear hK K hHeld
        have hHeld := hHeld2
        clear hHeld2
        try simp only [Act.put, List.setIfInBounds_toArray, List.set_cons_zero, List.set_cons_succ]
        refine wpAnyH_ready (rs := [3]) (by kernel_rfl) (by simp) (AllReadyH.cons (o := { dst := some 22, op := Op.call { callee := Callee.value (Operand.func 8), args := #[Operand.tmp 21], argTypes := #[24] }, type := 24, pos := "law.go:59", after := #[{ on := 2, ground := Ground.data }, { on := 1, ground := Ground.chain }], guard := none }) rfl (fun K hK => ?_) (AllReadyH.nil))
        go_simp
        go_at_call 8; (with_reducible refine (HFT.out _ hBE).mono ?_)
        rintro y wFt ⟨⟨At, ct, mst, rfl, hot, hlt⟩, hstep⟩
        replace hBE := hBE.trans (hstep.mono hBE.size)
        replace hxs := hxs.on hstep
        replace hxt := hxt.on hstep
        replace hos := hos.on hstep
        replace hot := hot.mono (Nat.zero_le _)
        generalize hlent : mst.length = nt at *
        clear hstep
        refine hK.out _ _ (HK.out _ hBE) (fun hHeld2 => ?_)
        clear hK K hHeld
        have hHeld := hHeld2
        clear hHeld2
        try simp only [Act.put, List.setIfInBounds_toArray, List.set_cons_zero, List.set_cons_succ]
        refine wpAnyH_ready (rs := [6]) (by kernel_rfl) (by simp) (AllReadyH.cons (o := { dst := none, op := Op.store 24 (Operand.tmp 7) (Operand.tmp 20), type := 0, pos := "law.go:59", after := #[{ on := 4, ground := Ground.data }, { on := 1, ground := Ground.data }, { on := 3, ground := Ground.chain }, { on := 0, ground := Ground.phase }, { on := 1, ground := Ground.phase }, { on := 2, ground := Ground.textOnly Departure.lateStores }, { on := 3, ground := Ground.textOnly Departure.lateStoresUnsure }, { on := 4, ground := Ground.phase }, { on := 5, ground := Ground.phase }], guard := none }) rfl (fun K hK => ?_) (AllReadyH.nil))
        have hf0 := hxs.frozen 0
        have hz0 := hxs.one
        go_simp
        have hx0 := hxs
        clear hf0 hz0
        have hbel : Below _ _ (wFt.setCell ⟨gs, 0, none⟩ (.slice As ns cs)) := hBE.setCell hgls _
        replace hxs := hxs.set 0 (.slice As ns cs)
        replace hxt := hxt.far (p := gs) (i := 0) (by omega) (.slice As ns cs)
        replace hos := hos.setBox (u := .slice As ns cs) hx0 (by decide) (by decide) 0
        replace hot := hot.setBox (u := .slice As ns cs) hx0 (by decide) (by decide) 0
        obtain ⟨wss, hnew⟩ : ∃ wss : World, wss = (wFt.setCell ⟨gs, 0, none⟩ (.slice As ns cs)) := ⟨_, rfl⟩
        rw [← hnew] at hbel hxs hxt hos hot ⊢
        clear hnew
        replace hBE := hbel
        clear hbel
        refine hK.out _ _ (HK.out _ hBE) (fun hHeld2 => ?_)
        clear hK K hHeld
        have hHeld := hHeld2
        clear hHeld2
        try simp only [Act.put, List.setIfInBounds_toArray, List.set_cons_zero, List.set_cons_succ]
        refine wpAnyH_ready (rs := [7]) (by kernel_rfl) (by simp) (AllReadyH.cons (o := { dst := none, op := Op.store 24 (Operand.tmp 8) (Operand.tmp 22), type := 0, pos := "law.go:59", after := #[{ on := 5, ground := Ground.data }, { on := 3, ground := Ground.data }, { on := 6, ground := Ground.chain }, { on := 0, ground := Ground.phase }, { on := 1, ground := Ground.phase }, { on := 2, ground := Ground.phase }, { on := 3, ground := Ground.phase }, { on := 4, ground := Ground.phase }, { on := 5, ground := Ground.phase }, { on := 6, ground := Ground.phase }], guard := none }) rfl (fun K hK => ?_) (AllReadyH.nil))
        have hf0 := hxt.frozen 0
        have hz0 := hxt.one
        go_simp
        have hx0 := hxt
        clear hf0 hz0
        have hbel : Below _ _ (wss.setCell ⟨gt, 0, none⟩ (.slice At nt ct)) := hBE.setCell hglt _
        replace hxs := hxs.far (p := gt) (i := 0) (by omega) (.slice At nt ct)
        replace hxt := hxt.set 0 (.slice At nt ct)
        replace hos := hos.setBox (u := .slice At nt ct) hx0 (by decide) (by decide) 0
        replace hot := hot.setBox (u := .slice At nt ct) hx0 (by decide) (by decide) 0
        obtain ⟨wst, hnew⟩ : ∃ wst : World, wst = (wss.setCell ⟨gt, 0, none⟩ (.slice At nt ct)) := ⟨_, rfl⟩
        rw [← hnew] at hbel hxs hxt hos hot ⊢
        clear hnew
        replace hBE := hbel
        clear hbel
        refine hK.out _ _ (HK.out _ hBE) (fun hHeld2 => ?_)
        clear hK K hHeld
        have hHeld := hHeld2
        clear hHeld2
        try simp only [Act.put, List.setIfInBounds_toArray, List.set_cons_zero, List.set_cons_succ]
        refine wpAnyH_done (by kernel_rfl) ?_ _
        go_wp2_with fail
        go_meet
        exact ⟨gs, gt, As, ns, cs, mss, At, nt, ct, mst, rfl, rfl, hxs, hxt, hos, hls, hot, hlt, hBE⟩
    · go_simp
      have hglt := hBE.size
      try (have hlt0 := hxs.lt)
      have hstep := new_below w0r (.cells #[.slice none 0 0] 24)
      have hxt := SBox.new w0r 24 #[.slice none 0 0]
      replace hBE := hBE.trans (hstep.mono hBE.size)
      obtain ⟨wlt, hnew⟩ : ∃ wlt : World, wlt = w0r.alloc (.cells #[.slice none 0 0] 24) := ⟨_, rfl⟩
      rw [← hnew] at hstep hBE hxt  ⊢
      clear hnew hstep
      obtain ⟨gt, hgt⟩ : ∃ gt : Nat, gt = w0r.heap.size := ⟨_, rfl⟩
      rw [← hgt] at hxt hglt ⊢
      try (rw [← hgt] at hlt0)
      try (have hne : gs ≠ gt := by omega)
      clear hgt
      refine hK.out _ _ (HK.out _ hBE) (fun hHeld2 => ?_)
      clear hK K hHeld
      have hHeld := hHeld2
      clear hHeld2
      try simp only [Act.put, List.setIfInBounds_toArray, List.set_cons_zero, List.set_cons_succ]
      refine wpAnyH_ready (rs := [1, 4]) (by kernel_rfl) (by simp) (AllReadyH.cons (o := { dst := some 20, op := Op.call { callee := Callee.value (Operand.func 8), args := #[Operand.tmp 19], argTypes := #[24] }, type := 24, pos := "law.go:59", after := #[{ on := 0, ground := Ground.data }], guard := none }) rfl (fun K hK => ?_) (AllReadyH.cons (o := { dst := some 7, op := Op.alloc 24, type := 0, pos := "law.go:59", after := #[], guard := none }) rfl (fun K hK => ?_) (AllReadyH.nil)))
      · go_simp
        go_at_call 8; (with_reducible refine (HFS.out _ hBE).mono ?_)
        rintro y wFs ⟨⟨As, cs, mss, rfl, hos, hls⟩, hstep⟩
        replace hBE := hBE.trans (hstep.mono hBE.size)
        replace hxt := hxt.on hstep
        replace hos := hos.mono (Nat.zero_le _)
        generalize hlens : mss.length = ns at *
        clear hstep
        refine hK.out _ _ (HK.out _ hBE) (fun hHeld2 => ?_)
        clear hK K hHeld
        have hHeld := hHeld2
        clear hHeld2
        try simp only [Act.put, List.setIfInBounds_toArray, List.set_cons_zero, List.set_cons_succ]
        refine wpAnyH_ready (rs := [3, 4]) (by kernel_rfl) (by simp) (AllReadyH.cons (o := { dst := some 22, op := Op.call { callee := Callee.value (Operand.func 8), args := #[Operand.tmp 21], argTypes := #[24] }, type := 24, pos := "law.go:59", after := #[{ on := 2, ground := Ground.data }, { on := 1, ground := Ground.chain }], guard := none }) rfl (fun K hK => ?_) (AllReadyH.cons (o := { dst := some 7, op := Op.alloc 24, type := 0, pos := "law.go:59", after := #[], guard := none }) rfl (fun K hK => ?_) (AllReadyH.nil)))
        · go_simp
          go_at_call 8; (with_reducible refine (HFT.out _ hBE).mono ?_)
          rintro y wFt ⟨⟨At, ct, mst, rfl, hot, hlt⟩, hstep⟩
          replace hBE := hBE.trans (hstep.mono hBE.size)
          replace hxt := hxt.on hstep
          replace hos := hos.on hstep
          replace hot := hot.mono (Nat.zero_le _)
          generalize hlent : mst.length = nt at *
          clear hstep
          refine hK.out _ _ (HK.out _ hBE) (fun hHeld2 => ?_)
          clear hK K hHeld
          have hHeld := hHeld2
          clear hHeld2
          try simp only [Act.put, List.setIfInBounds_toArray, List.set_cons_zero, List.set_cons_succ]
          refine wpAnyH_ready (rs := [4]) (by kernel_rfl) (by simp) (AllReadyH.cons (o := { dst := some 7, op := Op.alloc 24, type := 0, pos := "law.go:59", after := #[], guard := none }) rfl (fun K hK => ?_) (AllReadyH.nil))
          go_simp
          have hgls := hBE.size
          try (have hlt0 := hxt.lt)
          have hstep := new_below wFt (.cells #[.slice none 0 0] 24)
          have hxs := SBox.new wFt 24 #[.slice none 0 0]
          replace hBE := hBE.trans (hstep.mono hBE.size)
          replace hxt := hxt.on hstep
          replace hos := hos.on hstep
          replace hot := hot.on hstep
          obtain ⟨wls, hnew⟩ : ∃ wls : World, wls = wFt.alloc (.cells #[.slice none 0 0] 24) := ⟨_, rfl⟩
          rw [← hnew] at hstep hBE hxs hxt hos hot ⊢
          clear hnew hstep
          obtain ⟨gs, hgs⟩ : ∃ gs : Nat, gs = wFt.heap.size := ⟨_, rfl⟩
          rw [← hgs] at hxs hgls ⊢
          try (rw [← hgs] at hlt0)
          try (have hne : gs ≠ gt := by omega)
          clear hgs
          refine hK.out _ _ (HK.out _ hBE) (fun hHeld2 => ?_)
          clear hK K hHeld
          have hHeld := hHeld2
          clear hHeld2
          try simp only [Act.put, List.setIfInBounds_toArray, List.set_cons_zero, List.set_cons_succ]
          refine wpAnyH_ready (rs := [6]) (by kernel_rfl) (by simp) (AllReadyH.cons (o := { dst := none, op := Op.store 24 (Operand.tmp 7) (Operand.tmp 20), type := 0, pos := "law.go:59", after := #[{ on := 4, ground := Ground.data }, { on := 1, ground := Ground.data }, { on := 3, ground := Ground.chain }, { on := 0, ground := Ground.phase }, { on := 1, ground := Ground.phase }, { on := 2, ground := Ground.textOnly Departure.lateStores }, { on := 3, ground := Ground.textOnly Departure.lateStoresUnsure }, { on := 4, ground := Ground.phase }, { on := 5, ground := Ground.phase }], guard := none }) rfl (fun K hK => ?_) (AllReadyH.nil))
          have hf0 := hxs.frozen 0
          have hz0 := hxs.one
          go_simp
          have hx0 := hxs
          clear hf0 hz0
          have hbel : Below _ _ (wls.setCell ⟨gs, 0, none⟩ (.slice As ns cs)) := hBE.setCell hgls _
          replace hxt := hxt.far (p := gs) (i := 0) (by omega) (.slice As ns cs)
          replace hos := hos.setBox (u := .slice As ns cs) hx0 (by decide) (by decide) 0
          replace hot := hot.setBox (u := .slice As ns cs) hx0 (by decide) (by decide) 0
          replace hxs := hxs.set 0 (.slice As ns cs)
          obtain ⟨wss, hnew⟩ : ∃ wss : World, wss = (wls.setCell ⟨gs, 0, none⟩ (.slice As ns cs)) := ⟨_, rfl⟩
          rw [← hnew] at hbel hxt hos hot hxs ⊢
          clear hnew
          replace hBE := hbel
          clear hbel
          refine hK.out _ _ (HK.out _ hBE) (fun hHeld2 => ?_)
          clear hK K hHeld
          have hHeld := hHeld2
          clear hHeld2
          try simp only [Act.put, List.setIfInBounds_toArray, List.set_cons_zero, List.set_cons_succ]
          refine wpAnyH_ready (rs := [7]) (by kernel_rfl) (by simp) (AllReadyH.cons (o := { dst := none, op := Op.store 24 (Operand.tmp 8) (Operand.tmp 22), type := 0, pos := "law.go:59", after := #[{ on := 5, ground := Ground.data }, { on := 3, ground := Ground.data }, { on := 6, ground := Ground.chain }, { on := 0, ground := Ground.phase }, { on := 1, ground := Ground.phase }, { on := 2, ground := Ground.phase }, { on := 3, ground := Ground.phase }, { on := 4, ground := Ground.phase }, { on := 5, ground := Ground.phase }, { on := 6, ground := Ground.phase }], guard := none }) rfl (fun K hK => ?_) (AllReadyH.nil))
          have hf0 := hxt.frozen 0
          have hz0 := hxt.one
          go_simp
          have hx0 := hxt
          clear hf0 hz0
          have hbel : Below _ _ (wss.setCell ⟨gt, 0, none⟩ (.slice At nt ct)) := hBE.setCell hglt _
          replace hxt := hxt.set 0 (.slice At nt ct)
          replace hos := hos.setBox (u := .slice At nt ct) hx0 (by decide) (by decide) 0
          replace hot := hot.setBox (u := .slice At nt ct) hx0 (by decide) (by decide) 0
          replace hxs := hxs.far (p := gt) (i := 0) (by omega) (.slice At nt ct)
          obtain ⟨wst, hnew⟩ : ∃ wst : World, wst = (wss.setCell ⟨gt, 0, none⟩ (.slice At nt ct)) := ⟨_, rfl⟩
          rw [← hnew] at hbel hxt hos hot hxs ⊢
          clear hnew
          replace hBE := hbel
          clear hbel
          refine hK.out _ _ (HK.out _ hBE) (fun hHeld2 => ?_)
          clear hK K hHeld
          have hHeld := hHeld2
          clear hHeld2
          try simp only [Act.put, List.setIfInBounds_toArray, List.set_cons_zero, List.set_cons_succ]
          refine wpAnyH_done (by kernel_rfl) ?_ _
          go_wp2_with fail
          go_meet
          exact ⟨gs, gt, As, ns, cs, mss, At, nt, ct, mst, rfl, rfl, hxs, hxt, hos, hls, hot, hlt, hBE⟩
        · go_simp
          have hgls := hBE.size
          try (have hlt0 := hxt.lt)
          have hstep := new_below wFs (.cells #[.slice none 0 0] 24)
          have hxs := SBox.new wFs 24 #[.slice none 0 0]
          replace hBE := hBE.trans (hstep.mono hBE.size)
          replace hxt := hxt.on hstep
          replace hos := hos.on hstep
          obtain ⟨wls, hnew⟩ : ∃ wls : World, wls = wFs.alloc (.cells #[.slice none 0 0] 24) := ⟨_, rfl⟩
          rw [← hnew] at hstep hBE hxs hxt hos ⊢
          clear hnew hstep
          obtain ⟨gs, hgs⟩ : ∃ gs : Nat, gs = wFs.heap.size := ⟨_, rfl⟩
          rw [← hgs] at hxs hgls ⊢
          try (rw [← hgs] at hlt0)
          try (have hne : gs ≠ gt := by omega)
          clear hgs
          refine hK.out _ _ (HK.out _ hBE) (fun hHeld2 => ?_)
          clear hK K hHeld
          have hHeld := hHeld2
          clear hHeld2
          try simp only [Act.put, List.setIfInBounds_toArray, List.set_cons_zero, List.set_cons_succ]
          refine wpAnyH_ready (rs := [3]) (by kernel_rfl) (by simp) (AllReadyH.cons (o := { dst := some 22, op := Op.call { callee := Callee.value (Operand.func 8), args := #[Operand.tmp 21], argTypes := #[24] }, type := 24, pos := "law.go:59", after := #[{ on := 2, ground := Ground.data }, { on := 1, ground := Ground.chain }], guard := none }) rfl (fun K hK => ?_) (AllReadyH.nil))
          go_simp
          go_at_call 8; (with_reducible refine (HFT.out _ hBE).mono ?_)
          rintro y wFt ⟨⟨At, ct, mst, rfl, hot, hlt⟩, hstep⟩
          replace hBE := hBE.trans (hstep.mono hBE.size)
          replace hxt := hxt.on hstep
          replace hos := hos.on hstep
          replace hxs := hxs.on hstep
          replace hot := hot.mono (Nat.zero_le _)
          generalize hlent : mst.length = nt at *
          clear hstep
          refine hK.out _ _ (HK.out _ hBE) (fun hHeld2 => ?_)
          clear hK K hHeld
          have hHeld := hHeld2
          clear hHeld2
          try simp only [Act.put, List.setIfInBounds_toArray, List.set_cons_zero, List.set_cons_succ]
          refine wpAnyH_ready (rs := [6]) (by kernel_rfl) (by simp) (AllReadyH.cons (o := { dst := none, op := Op.store 24 (Operand.tmp 7) (Operand.tmp 20), type := 0, pos := "law.go:59", after := #[{ on := 4, ground := Ground.data }, { on := 1, ground := Ground.data }, { on := 3, ground := Ground.chain }, { on := 0, ground := Ground.phase }, { on := 1, ground := Ground.phase }, { on := 2, ground := Ground.textOnly Departure.lateStores }, { on := 3, ground := Ground.textOnly Departure.lateStoresUnsure }, { on := 4, ground := Ground.phase }, { on := 5, ground := Ground.phase }], guard := none }) rfl (fun K hK => ?_) (AllReadyH.nil))
          have hf0 := hxs.frozen 0
          have hz0 := hxs.one
          go_simp
          have hx0 := hxs
          clear hf0 hz0
          have hbel : Below _ _ (wFt.setCell ⟨gs, 0, none⟩ (.slice As ns cs)) := hBE.setCell hgls _
          replace hxt := hxt.far (p := gs) (i := 0) (by omega) (.slice As ns cs)
          replace hos := hos.setBox (u := .slice As ns cs) hx0 (by decide) (by decide) 0
          replace hxs := hxs.set 0 (.slice As ns cs)
          replace hot := hot.setBox (u := .slice As ns cs) hx0 (by decide) (by decide) 0
          obtain ⟨wss, hnew⟩ : ∃ wss : World, wss = (wFt.setCell ⟨gs, 0, none⟩ (.slice As ns cs)) := ⟨_, rfl⟩
          rw [← hnew] at hbel hxt hos hxs hot ⊢
          clear hnew
          replace hBE := hbel
          clear hbel
          refine hK.out _ _ (HK.out _ hBE) (fun hHeld2 => ?_)
          clear hK K hHeld
          have hHeld := hHeld2
          clear hHeld2
          try simp only [Act.put, List.setIfInBounds_toArray, List.set_cons_zero, List.set_cons_succ]
          refine wpAnyH_ready (rs := [7]) (by kernel_rfl) (by simp) (AllReadyH.cons (o := { dst := none, op := Op.store 24 (Operand.tmp 8) (Operand.tmp 22), type := 0, pos := "law.go:59", after := #[{ on := 5, ground := Ground.data }, { on := 3, ground := Ground.data }, { on := 6, ground := Ground.chain }, { on := 0, ground := Ground.phase }, { on := 1, ground := Ground.phase }, { on := 2, ground := Ground.phase }, { on := 3, ground := Ground.phase }, { on := 4, ground := Ground.phase }, { on := 5, ground := Ground.phase }, { on := 6, ground := Ground.phase }], guard := none }) rfl (fun K hK => ?_) (AllReadyH.nil))
          have hf0 := hxt.frozen 0
          have hz0 := hxt.one
          go_simp
          have hx0 := hxt
          clear hf0 hz0
          have hbel : Below _ _ (wss.setCell ⟨gt, 0, none⟩ (.slice At nt ct)) := hBE.setCell hglt _
          replace hxt := hxt.set 0 (.slice At nt ct)
          replace hos := hos.setBox (u := .slice At nt ct) hx0 (by decide) (by decide) 0
          replace hxs := hxs.far (p := gt) (i := 0) (by omega) (.slice At nt ct)
          replace hot := hot.setBox (u := .slice At nt ct) hx0 (by decide) (by decide) 0
          obtain ⟨wst, hnew⟩ : ∃ wst : World, wst = (wss.setCell ⟨gt, 0, none⟩ (.slice At nt ct)) := ⟨_, rfl⟩
          rw [← hnew] at hbel hxt hos hxs hot ⊢
          clear hnew
          replace hBE := hbel
          clear hbel
          refine hK.out _ _ (HK.out _ hBE) (fun hHeld2 => ?_)
          clear hK K hHeld
          have hHeld := hHeld2
          clear hHeld2
          try simp only [Act.put, List.setIfInBounds_toArray, List.set_cons_zero, List.set_cons_succ]
          refine wpAnyH_done (by kernel_rfl) ?_ _
          go_wp2_with fail
          go_meet
          exact ⟨gs, gt, As, ns, cs, mss, At, nt, ct, mst, rfl, rfl, hxs, hxt, hos, hls, hot, hlt, hBE⟩
      · go_simp
        have hgls := hBE.size
        try (have hlt0 := hxt.lt)
        have hstep := new_below wlt (.cells #[.slice none 0 0] 24)
        have hxs := SBox.new wlt 24 #[.slice none 0 0]
        replace hBE := hBE.trans (hstep.mono hBE.size)
        replace hxt := hxt.on hstep
        obtain ⟨wls, hnew⟩ : ∃ wls : World, wls = wlt.alloc (.cells #[.slice none 0 0] 24) := ⟨_, rfl⟩
        rw [← hnew] at hstep hBE hxs hxt ⊢
        clear hnew hstep
        obtain ⟨gs, hgs⟩ : ∃ gs : Nat, gs = wlt.heap.size := ⟨_, rfl⟩
        rw [← hgs] at hxs hgls ⊢
        try (rw [← hgs] at hlt0)
        try (have hne : gs ≠ gt := by omega)
        clear hgs
        refine hK.out _ _ (HK.out _ hBE) (fun hHeld2 => ?_)
        clear hK K hHeld
        have hHeld := hHeld2
        clear hHeld2
        try simp only [Act.put, List.setIfInBounds_toArray, List.set_cons_zero, List.set_cons_succ]
        refine wpAnyH_ready (rs := [1]) (by kernel_rfl) (by simp) (AllReadyH.cons (o := { dst := some 20, op := Op.call { callee := Callee.value (Operand.func 8), args := #[Operand.tmp 19], argTypes := #[24] }, type := 24, pos := "law.go:59", after := #[{ on := 0, ground := Ground.data }], guard := none }) rfl (fun K hK => ?_) (AllReadyH.nil))
        go_simp
        go_at_call 8; (with_reducible refine (HFS.out _ hBE).mono ?_)
        rintro y wFs ⟨⟨As, cs, mss, rfl, hos, hls⟩, hstep⟩
        replace hBE := hBE.trans (hstep.mono hBE.size)
        replace hxt := hxt.on hstep
        replace hxs := hxs.on hstep
        replace hos := hos.mono (Nat.zero_le _)
        generalize hlens : mss.length = ns at *
        clear hstep
        refine hK.out _ _ (HK.out _ hBE) (fun hHeld2 => ?_)
        clear hK K hHeld
        have hHeld := hHeld2
        clear hHeld2
        try simp only [Act.put, List.setIfInBounds_toArray, List.set_cons_zero, List.set_cons_succ]
        refine wpAnyH_ready (rs := [3]) (by kernel_rfl) (by simp) (AllReadyH.cons (o := { dst := some 22, op := Op.call { callee := Callee.value (Operand.func 8), args := #[Operand.tmp 21], argTypes := #[24] }, type := 24, pos := "law.go:59", after := #[{ on := 2, ground := Ground.data }, { on := 1, ground := Ground.chain }], guard := none }) rfl (fun K hK => ?_) (AllReadyH.nil))
        go_simp
        go_at_call 8; (with_reducible refine (HFT.out _ hBE).mono ?_)
        rintro y wFt ⟨⟨At, ct, mst, rfl, hot, hlt⟩, hstep⟩
        replace hBE := hBE.trans (hstep.mono hBE.size)
        replace hxt := hxt.on hstep
        replace hxs := hxs.on hstep
        replace hos := hos.on hstep
        replace hot := hot.mono (Nat.zero_le _)
        generalize hlent : mst.length = nt at *
        clear hstep
        refine hK.out _ _ (HK.out _ hBE) (fun hHeld2 => ?_)
        clear hK K hHeld
        have hHeld := hHeld2
        clear hHeld2
        try simp only [Act.put, List.setIfInBounds_toArray, List.set_cons_zero, List.set_cons_succ]
        refine wpAnyH_ready (rs := [6]) (by kernel_rfl) (by simp) (AllReadyH.cons (o := { dst := none, op := Op.store 24 (Operand.tmp 7) (Operand.tmp 20), type := 0, pos := "law.go:59", after := #[{ on := 4, ground := Ground.data }, { on := 1, ground := Ground.data }, { on := 3, ground := Ground.chain }, { on := 0, ground := Ground.phase }, { on := 1, ground := Ground.phase }, { on := 2, ground := Ground.textOnly Departure.lateStores }, { on := 3, ground := Ground.textOnly Departure.lateStoresUnsure }, { on := 4, ground := Ground.phase }, { on := 5, ground := Ground.phase }], guard := none }) rfl (fun K hK => ?_) (AllReadyH.nil))
        have hf0 := hxs.frozen 0
        have hz0 := hxs.one
        go_simp
        have hx0 := hxs
        clear hf0 hz0
        have hbel : Below _ _ (wFt.setCell ⟨gs, 0, none⟩ (.slice As ns cs)) := hBE.setCell hgls _
        replace hxt := hxt.far (p := gs) (i := 0) (by omega) (.slice As ns cs)
        replace hxs := hxs.set 0 (.slice As ns cs)
        replace hos := hos.setBox (u := .slice As ns cs) hx0 (by decide) (by decide) 0
        replace hot := hot.setBox (u := .slice As ns cs) hx0 (by decide) (by decide) 0
        obtain ⟨wss, hnew⟩ : ∃ wss : World, wss = (wFt.setCell ⟨gs, 0, none⟩ (.slice As ns cs)) := ⟨_, rfl⟩
        rw [← hnew] at hbel hxt hxs hos hot ⊢
        clear hnew
        replace hBE := hbel
        clear hbel
        refine hK.out _ _ (HK.out _ hBE) (fun hHeld2 => ?_)
        clear hK K hHeld
        have hHeld := hHeld2
        clear hHeld2
        try simp only [Act.put, List.setIfInBounds_toArray, List.set_cons_zero, List.set_cons_succ]
        refine wpAnyH_ready (rs := [7]) (by kernel_rfl) (by simp) (AllReadyH.cons (o := { dst := none, op := Op.store 24 (Operand.tmp 8) (Operand.tmp 22), type := 0, pos := "law.go:59", after := #[{ on := 5, ground := Ground.data }, { on := 3, ground := Ground.data }, { on := 6, ground := Ground.chain }, { on := 0, ground := Ground.phase }, { on := 1, ground := Ground.phase }, { on := 2, ground := Ground.phase }, { on := 3, ground := Ground.phase }, { on := 4, ground := Ground.phase }, { on := 5, ground := Ground.phase }, { on := 6, ground := Ground.phase }], guard := none }) rfl (fun K hK => ?_) (AllReadyH.nil))
        have hf0 := hxt.frozen 0
        have hz0 := hxt.one
        go_simp
        have hx0 := hxt
        clear hf0 hz0
        have hbel : Below _ _ (wss.setCell ⟨gt, 0, none⟩ (.slice At nt ct)) := hBE.setCell hglt _
        replace hxt := hxt.set 0 (.slice At nt ct)
        replace hxs := hxs.far (p := gt) (i := 0) (by omega) (.slice At nt ct)
        replace hos := hos.setBox (u := .slice At nt ct) hx0 (by decide) (by decide) 0
        replace hot := hot.setBox (u := .slice At nt ct) hx0 (by decide) (by decide) 0
        obtain ⟨wst, hnew⟩ : ∃ wst : World, wst = (wss.setCell ⟨gt, 0, none⟩ (.slice At nt ct)) := ⟨_, rfl⟩
        rw [← hnew] at hbel hxt hxs hos hot ⊢
        clear hnew
        replace hBE := hbel
        clear hbel
        refine hK.out _ _ (HK.out _ hBE) (fun hHeld2 => ?_)
        clear hK K hHeld
        have hHeld := hHeld2
        clear hHeld2
        try simp only [Act.put, List.setIfInBounds_toArray, List.set_cons_zero, List.set_cons_succ]
        refine wpAnyH_done (by kernel_rfl) ?_ _
        go_wp2_with fail
        go_meet
        exact ⟨gs, gt, As, ns, cs, mss, At, nt, ct, mst, rfl, rfl, hxs, hxt, hos, hls, hot, hlt, hBE⟩
  case rest =>
    obtain ⟨gs, gt, As, ns, cs, mss, At, nt, ct, mst, rfl, rfl, hxs, hxt, hos, hls, hot, hlt, hbx⟩ := hcut
    generalize wc = wv at *
    have HXS := Lib.hid hxs; have HXT := Lib.hid hxt; have HOS := Lib.hid hos; have HOT := Lib.hid hot; have HLMS := Lib.hid hls; have HLMT := Lib.hid hlt; have HBX := Lib.hid hbx
    have HBwv := Lib.hid (HBw1.out.trans (hbx.mono HBw1.out.size))
    have HSRS : Hid (SR wv As ns cs mss) := Lib.hid (fewIs_sr hos).1
    have HSRT : Hid (SR wv At nt ct mst) := Lib.hid (fewIs_sr hot).1
    have HXXv := Lib.hid ((HX0.out.on HB1.out).on hbx)
    have HRT := Lib.hid (right_any As ns cs mss wv HSRS.out)
    have HCK := Lib.hid (fun W' (hb : Below wv.heap.size wv W') => check_any As ns cs mss W' (HSRS.out.on hb))
    have HS1 := Lib.hid (fun W' (hb : Below wv.heap.size wv W') => same_any As At ns nt cs ct mss mst W' (HSRS.out.on hb) (HSRT.out.on hb))
    have HS2 := Lib.hid (fun W' (hb : Below wv.heap.size wv W') => rsame_any As At ns nt cs ct mss mst W' (HSRS.out.on hb) (HSRT.out.on hb))
    have HFE := Lib.hid (fun W' (hb : Below wv.heap.size wv W') => HFS.out W' (HBX.out.trans (hb.mono HBX.out.size)))
    have HS3 := Lib.hid (fun W' (Ae : Option Addr) (ne ce : Nat) (mse : List SesM) (hb : Below wv.heap.size wv W') (he : OwnS W' 0 (.slice Ae ne ce) mse) (hle : mse.map (·.1) = ls) => (by
      have h1 := same_any As Ae ns ne cs ce mss mse W' (HSRS.out.on hb) (fewIs_sr he).1
      rwa [HLMS.out, hle, decide_eq_true rfl] at h1 : Calls Try.prog 11 #[.agg #[.slice As ns cs], .agg #[.slice Ae ne ce]] W' fun e w' => e = .returned (.bool true) ∧ Below W'.heap.size W' w'))
    rw [hls] at HRT HCK
    rw [hls, hlt] at HS1 HS2
    have HEN : Hid (¬ MayS ls → sesE ls = 220 ∧ okS ls = false) := Lib.hid (fun h => ⟨sesE_no h, okS_no h⟩)
    have HEY : Hid (MayS ls → sesE ls = 0 ∧ okS ls = true) := Lib.hid (fun h => ⟨sesE_yes h, okS_yes.2 h⟩)
    generalize sesE ls = SE at *
    generalize hOS : okS ls = OS at *
    have HOSL := Lib.hid hOS
    generalize decide (ls = lt) = DD at *
    have s0 := hxs.one
    clear hxs hxt hos hot hls hlt hbx hOS
    go_wp2_with fail
    refine HRT.out.mono ?_
    rintro y w3 ⟨rfl, hb3⟩
    have HB3 := Lib.hid hb3
    clear s0 hb3
    have s0 := (HXS.out.on HB3.out).one
    go_wp2_with fail
    refine (HCK.out _ HB3.out).mono ?_
    rintro y w4 ⟨rfl, hb4⟩
    have HB4 := Lib.hid (HB3.out.trans (hb4.mono HB3.out.size))
    clear s0 hb4
    have HC6 := Lib.hid (fun (W' : World) (hW : Below wv.heap.size wv W') => (⟨⟨(HXS.out.on hW).one, (HXT.out.on hW).one, (HXXv.out.on hW).one⟩⟩ : PLift (W'.cell? ⟨gs, 0, none⟩ = some (.slice As ns cs) ∧ W'.cell? ⟨gt, 0, none⟩ = some (.slice At nt ct) ∧ W'.cell? ⟨w.heap.size, 0, none⟩ = some (.slice A n c))).down)
    go_upto_region 6 with fail
    go_cut [54] from 27 to 53 (fun s54 wx => s54 = .bool false ∧ Below wv.heap.size wv wx)
    case first =>
      have hBE := HB4.out
      have HK := HC6
      have hDD : (DD != DD) = false := by simp
      by_cases hm : MayS ls
      · obtain ⟨rfl, rfl⟩ := HEY.out hm
        clear hm
        refine wp_region_held_drew (S := (fun W' => W'.cell? ⟨gs, 0, none⟩ = some (.slice As ns cs) ∧ W'.cell? ⟨gt, 0, none⟩ = some (.slice At nt ct) ∧ W'.cell? ⟨w.heap.size, 0, none⟩ = some (.slice A n c))) (by kernel_rfl) (HK.out _ hBE.drew) (fun hHeld => ?_)
        replace hBE := hBE.drew
        obtain ⟨w0r, hw0r⟩ : ∃ w0r : World, w0r = w4.drew := ⟨_, rfl⟩
        rw [← hw0r] at hBE hHeld ⊢
        clear hw0r
        refine wpAnyH_take (i := 0) (oi := { dst := some 27, op := Op.move (Operand.tmp 9), type := 4, pos := "law.go:61", after := #[], guard := none }) (v := ?zve0) rfl (by kernel_rfl) (by kernel_rfl) (by kernel_rfl) (fun _ _ _ h => h) (Or.inl ⟨by rfl, ?zhe0⟩) (by assumption) ?zre0
        case zhe0 => (intro w hSw; (try dsimp only at hSw); go_simp; (try with_reducible rfl))
        try simp only [Act.put, List.setIfInBounds_toArray, List.set_cons_zero, List.set_cons_succ]
        refine wpAnyH_take (i := 1) (oi := { dst := some 28, op := Op.move (Operand.tmp 10), type := 29, pos := "law.go:61", after := #[], guard := none }) (v := ?zve1) rfl (by kernel_rfl) (by kernel_rfl) (by kernel_rfl) (fun _ _ _ h => h) (Or.inl ⟨by rfl, ?zhe1⟩) (by assumption) ?zre1
        case zhe1 => (intro w hSw; (try dsimp only at hSw); go_simp; (try with_reducible rfl))
        try simp only [Act.put, List.setIfInBounds_toArray, List.set_cons_zero, List.set_cons_succ]
        refine wpAnyH_take (i := 2) (oi := { dst := some 29, op := Op.binOp BinOp.eql 29 (Operand.tmp 28) (Operand.const (Value.int IntKind.i64 0)) 29, type := 4, pos := "law.go:61", after := #[{ on := 1, ground := Ground.data }], guard := none }) (v := ?zve2) rfl (by kernel_rfl) (by kernel_rfl) (by kernel_rfl) (fun _ _ _ h => h) (Or.inl ⟨by rfl, ?zhe2⟩) (by assumption) ?zre2
        case zhe2 => (intro w hSw; (try dsimp only at hSw); go_simp; (try with_reducible rfl))
        try simp only [Act.put, List.setIfInBounds_toArray, List.set_cons_zero, List.set_cons_succ]
        refine wpAnyH_take (i := 3) (oi := { dst := some 30, op := Op.binOp BinOp.neq 4 (Operand.tmp 27) (Operand.tmp 29) 4, type := 4, pos := "law.go:61", after := #[{ on := 0, ground := Ground.data }, { on := 2, ground := Ground.data }], guard := none }) (v := ?zve3) rfl (by kernel_rfl) (by kernel_rfl) (by kernel_rfl) (fun _ _ _ h => h) (Or.inl ⟨by rfl, ?zhe3⟩) (by assumption) ?zre3
        case zhe3 => (intro w hSw; (try dsimp only at hSw); go_simp; (try with_reducible rfl))
        try simp only [Act.put, List.setIfInBounds_toArray, List.set_cons_zero, List.set_cons_succ]
        refine wpAnyH_take (i := 4) (oi := { dst := some 31, op := Op.move (Operand.tmp 30), type := 4, pos := "law.go:61", after := #[{ on := 3, ground := Ground.data }], guard := none }) (v := ?zve4) rfl (by kernel_rfl) (by kernel_rfl) (by kernel_rfl) (fun _ _ _ h => h) (Or.inl ⟨by rfl, ?zhe4⟩) (by assumption) ?zre4
        case zhe4 => (intro w hSw; (try dsimp only at hSw); go_simp; (try with_reducible rfl))
        try simp only [Act.put, List.setIfInBounds_toArray, List.set_cons_zero, List.set_cons_succ]
        refine wpAnyH_take (i := 5) (oi := { dst := some 32, op := Op.move (Operand.tmp 9), type := 4, pos := "law.go:61", after := #[{ on := 4, ground := Ground.guard }], guard := some (4, false) }) (v := ?zve5) rfl (by kernel_rfl) (by kernel_rfl) (by kernel_rfl) (fun _ _ _ h => h) (Or.inl ⟨by rfl, ?zhe5⟩) (by assumption) ?zre5
        case zhe5 => (intro w hSw; (try dsimp only at hSw); go_simp; (try with_reducible rfl))
        try simp only [Act.put, List.setIfInBounds_toArray, List.set_cons_zero, List.set_cons_succ]
        refine wpAnyH_take (i := 6) (oi := { dst := some 33, op := Op.unOp UnOp.not 4 (Operand.tmp 32), type := 4, pos := "law.go:61", after := #[{ on := 5, ground := Ground.data }, { on := 4, ground := Ground.guard }], guard := some (4, false) }) (v := ?zve6) rfl (by kernel_rfl) (by kernel_rfl) (by kernel_rfl) (fun _ _ _ h => h) (Or.inl ⟨by rfl, ?zhe6⟩) (by assumption) ?zre6
        case zhe6 => (intro w hSw; (try dsimp only at hSw); go_simp; (try with_reducible rfl))
        try simp only [Act.put, List.setIfInBounds_toArray, List.set_cons_zero, List.set_cons_succ]
        refine wpAnyH_take (i := 7) (oi := { dst := some 34, op := Op.move (Operand.tmp 33), type := 4, pos := "law.go:61", after := #[{ on := 6, ground := Ground.data }, { on := 4, ground := Ground.chain }, { on := 4, ground := Ground.guard }], guard := some (4, false) }) (v := ?zve7) rfl (by kernel_rfl) (by kernel_rfl) (by kernel_rfl) (fun _ _ _ h => h) (Or.inl ⟨by rfl, ?zhe7⟩) (by assumption) ?zre7
        case zhe7 => (intro w hSw; (try dsimp only at hSw); go_simp; (try with_reducible rfl))
        try simp only [Act.put, List.setIfInBounds_toArray, List.set_cons_zero, List.set_cons_succ]
        refine wpAnyH_take (i := 8) (oi := { dst := some 35, op := Op.move (Operand.tmp 10), type := 29, pos := "law.go:61", after := #[{ on := 7, ground := Ground.guard }], guard := some (7, true) }) (v := undef) rfl (by kernel_rfl) (by kernel_rfl) (by kernel_rfl) (fun _ _ _ h => h) (Or.inr ⟨by rfl, rfl⟩) (by assumption) ?_
        try simp only [Act.put, List.setIfInBounds_toArray, List.set_cons_zero, List.set_cons_succ]
        refine wpAnyH_take (i := 9) (oi := { dst := some 36, op := Op.binOp BinOp.neq 29 (Operand.tmp 35) (Operand.const (Value.int IntKind.i64 220)) 29, type := 4, pos := "law.go:61", after := #[{ on := 8, ground := Ground.data }, { on := 7, ground := Ground.guard }], guard := some (7, true) }) (v := undef) rfl (by kernel_rfl) (by kernel_rfl) (by kernel_rfl) (fun _ _ _ h => h) (Or.inr ⟨by rfl, rfl⟩) (by assumption) ?_
        try simp only [Act.put, List.setIfInBounds_toArray, List.set_cons_zero, List.set_cons_succ]
        refine wpAnyH_take (i := 10) (oi := { dst := some 37, op := Op.pick (Operand.tmp 34) (Operand.tmp 36) (Operand.const (Value.bool false)), type := 4, pos := "law.go:61", after := #[{ on := 7, ground := Ground.data }, { on := 9, ground := Ground.data }, { on := 4, ground := Ground.guard }], guard := some (4, false) }) (v := ?zve10) rfl (by kernel_rfl) (by kernel_rfl) (by kernel_rfl) (fun _ _ _ h => h) (Or.inl ⟨by rfl, ?zhe10⟩) (by assumption) ?zre10
        case zhe10 => (intro w hSw; (try dsimp only at hSw); go_simp; (try with_reducible rfl))
        try simp only [Act.put, List.setIfInBounds_toArray, List.set_cons_zero, List.set_cons_succ]
        refine wpAnyH_take (i := 11) (oi := { dst := some 38, op := Op.pick (Operand.tmp 31) (Operand.const (Value.bool true)) (Operand.tmp 37), type := 4, pos := "law.go:61", after := #[{ on := 4, ground := Ground.data }, { on := 10, ground := Ground.data }], guard := none }) (v := ?zve11) rfl (by kernel_rfl) (by kernel_rfl) (by kernel_rfl) (fun _ _ _ h => h) (Or.inl ⟨by rfl, ?zhe11⟩) (by assumption) ?zre11
        case zhe11 => (intro w hSw; (try dsimp only at hSw); go_simp; (try with_reducible rfl))
        try simp only [Act.put, List.setIfInBounds_toArray, List.set_cons_zero, List.set_cons_succ]
        refine wpAnyH_take (i := 12) (oi := { dst := some 39, op := Op.move (Operand.tmp 38), type := 4, pos := "law.go:61", after := #[{ on := 11, ground := Ground.data }, { on := 7, ground := Ground.chain }], guard := none }) (v := ?zve12) rfl (by kernel_rfl) (by kernel_rfl) (by kernel_rfl) (fun _ _ _ h => h) (Or.inl ⟨by rfl, ?zhe12⟩) (by assumption) ?zre12
        case zhe12 => (intro w hSw; (try dsimp only at hSw); go_simp; (try with_reducible rfl))
        try simp only [Act.put, List.setIfInBounds_toArray, List.set_cons_zero, List.set_cons_succ]
        refine wpAnyH_take (i := 13) (oi := { dst := some 40, op := Op.load 24 (Operand.tmp 7), type := 24, pos := "law.go:61", after := #[{ on := 12, ground := Ground.guard }], guard := some (12, false) }) (v := ?zve13) rfl (by kernel_rfl) (by kernel_rfl) (by kernel_rfl) (fun _ _ _ h => h) (Or.inl ⟨by rfl, ?zhe13⟩) (by assumption) ?zre13
        case zhe13 => (intro w hSw; (try dsimp only at hSw); go_simp; (try with_reducible rfl))
        try simp only [Act.put, List.setIfInBounds_toArray, List.set_cons_zero, List.set_cons_succ]
        refine wpAnyH_take (i := 14) (oi := { dst := some 41, op := Op.load 24 (Operand.tmp 8), type := 24, pos := "law.go:61", after := #[{ on := 12, ground := Ground.guard }], guard := some (12, false) }) (v := ?zve14) rfl (by kernel_rfl) (by kernel_rfl) (by kernel_rfl) (fun _ _ _ h => h) (Or.inl ⟨by rfl, ?zhe14⟩) (by assumption) ?zre14
        case zhe14 => (intro w hSw; (try dsimp only at hSw); go_simp; (try with_reducible rfl))
        try simp only [Act.put, List.setIfInBounds_toArray, List.set_cons_zero, List.set_cons_succ]
        refine wpAnyH_take (i := 16) (oi := { dst := some 43, op := Op.load 24 (Operand.tmp 7), type := 24, pos := "law.go:61", after := #[{ on := 12, ground := Ground.guard }], guard := some (12, false) }) (v := ?zve15) rfl (by kernel_rfl) (by kernel_rfl) (by kernel_rfl) (fun _ _ _ h => h) (Or.inl ⟨by rfl, ?zhe15⟩) (by assumption) ?zre15
        case zhe15 => (intro w hSw; (try dsimp only at hSw); go_simp; (try with_reducible rfl))
        try simp only [Act.put, List.setIfInBounds_toArray, List.set_cons_zero, List.set_cons_succ]
        refine wpAnyH_take (i := 17) (oi := { dst := some 44, op := Op.load 24 (Operand.tmp 8), type := 24, pos := "law.go:61", after := #[{ on := 12, ground := Ground.guard }], guard := some (12, false) }) (v := ?zve16) rfl (by kernel_rfl) (by kernel_rfl) (by kernel_rfl) (fun _ _ _ h => h) (Or.inl ⟨by rfl, ?zhe16⟩) (by assumption) ?zre16
        case zhe16 => (intro w hSw; (try dsimp only at hSw); go_simp; (try with_reducible rfl))
        try simp only [Act.put, List.setIfInBounds_toArray, List.set_cons_zero, List.set_cons_succ]
        refine wpAnyH_ready (rs := [15]) (by kernel_rfl) (by simp) (AllReadyH.cons (o := { dst := some 42, op := Op.call { callee := Callee.value (Operand.func 11), args := #[Operand.tmp 40, Operand.tmp 41], argTypes := #[24, 24] }, type := 4, pos := "law.go:61", after := #[{ on := 13, ground := Ground.data }, { on := 14, ground := Ground.data }, { on := 12, ground := Ground.chain }, { on := 12, ground := Ground.guard }], guard := some (12, false) }) rfl (fun K hK => ?_) (AllReadyH.nil))
        go_simp
        go_at_call 11; (with_reducible refine (HS1.out _ hBE).mono ?_)
        rintro y wa ⟨rfl, hstep⟩
        replace hBE := hBE.trans (hstep.mono hBE.size)
        clear hstep
        refine hK.out _ _ (HK.out _ hBE) (fun hHeld2 => ?_)
        clear hK K hHeld
        have hHeld := hHeld2
        clear hHeld2
        try simp only [Act.put, List.setIfInBounds_toArray, List.set_cons_zero, List.set_cons_succ]
        refine wpAnyH_ready (rs := [18]) (by kernel_rfl) (by simp) (AllReadyH.cons (o := { dst := some 45, op := Op.call { callee := Callee.value (Operand.func 12), args := #[Operand.tmp 43, Operand.tmp 44], argTypes := #[24, 24] }, type := 4, pos := "law.go:61", after := #[{ on := 16, ground := Ground.data }, { on := 17, ground := Ground.data }, { on := 15, ground := Ground.chain }, { on := 12, ground := Ground.guard }], guard := some (12, false) }) rfl (fun K hK => ?_) (AllReadyH.nil))
        go_simp
        go_at_call 12; (with_reducible refine (HS2.out _ hBE).mono ?_)
        rintro y wb ⟨rfl, hstep⟩
        replace hBE := hBE.trans (hstep.mono hBE.size)
        clear hstep
        refine hK.out _ _ (HK.out _ hBE) (fun hHeld2 => ?_)
        clear hK K hHeld
        have hHeld := hHeld2
        clear hHeld2
        try simp only [Act.put, List.setIfInBounds_toArray, List.set_cons_zero, List.set_cons_succ]
        refine wpAnyH_take (i := 19) (oi := { dst := some 46, op := Op.binOp BinOp.neq 4 (Operand.tmp 42) (Operand.tmp 45) 4, type := 4, pos := "law.go:61", after := #[{ on := 15, ground := Ground.data }, { on := 18, ground := Ground.data }, { on := 12, ground := Ground.guard }], guard := some (12, false) }) (v := ?zve17) rfl (by kernel_rfl) (by kernel_rfl) (by kernel_rfl) (fun _ _ _ h => h) (Or.inl ⟨by rfl, ?zhe17⟩) (by assumption) ?zre17
        case zhe17 => (intro w hSw; (try dsimp only at hSw); go_simp; (try with_reducible rfl))
        try simp only [Act.put, List.setIfInBounds_toArray, List.set_cons_zero, List.set_cons_succ]
        refine wpAnyH_take (i := 20) (oi := { dst := some 47, op := Op.pick (Operand.tmp 39) (Operand.const (Value.bool true)) (Operand.tmp 46), type := 4, pos := "law.go:61", after := #[{ on := 12, ground := Ground.data }, { on := 19, ground := Ground.data }], guard := none }) (v := ?zve18) rfl (by kernel_rfl) (by kernel_rfl) (by kernel_rfl) (fun _ _ _ h => h) (Or.inl ⟨by rfl, ?zhe18⟩) (by assumption) ?zre18
        case zhe18 => (intro w hSw; (try dsimp only at hSw); go_simp; (try with_reducible rfl))
        try simp only [Act.put, List.setIfInBounds_toArray, List.set_cons_zero, List.set_cons_succ]
        refine wpAnyH_take (i := 21) (oi := { dst := some 48, op := Op.move (Operand.tmp 47), type := 4, pos := "law.go:61", after := #[{ on := 20, ground := Ground.data }, { on := 18, ground := Ground.chain }], guard := none }) (v := ?zve19) rfl (by kernel_rfl) (by kernel_rfl) (by kernel_rfl) (fun _ _ _ h => h) (Or.inl ⟨by rfl, ?zhe19⟩) (by assumption) ?zre19
        case zhe19 => (intro w hSw; (try dsimp only at hSw); go_simp; (try with_reducible rfl))
        try simp only [Act.put, List.setIfInBounds_toArray, List.set_cons_zero, List.set_cons_succ]
        refine wpAnyH_take (i := 22) (oi := { dst := some 49, op := Op.load 24 (Operand.tmp 7), type := 24, pos := "law.go:61", after := #[{ on := 21, ground := Ground.guard }], guard := some (21, false) }) (v := ?zve20) rfl (by kernel_rfl) (by kernel_rfl) (by kernel_rfl) (fun _ _ _ h => h) (Or.inl ⟨by rfl, ?zhe20⟩) (by assumption) ?zre20
        case zhe20 => (intro w hSw; (try dsimp only at hSw); go_simp; (try with_reducible rfl))
        try simp only [Act.put, List.setIfInBounds_toArray, List.set_cons_zero, List.set_cons_succ]
        refine wpAnyH_take (i := 23) (oi := { dst := some 50, op := Op.load 24 (Operand.tmp 3), type := 24, pos := "law.go:61", after := #[{ on := 21, ground := Ground.guard }], guard := some (21, false) }) (v := ?zve21) rfl (by kernel_rfl) (by kernel_rfl) (by kernel_rfl) (fun _ _ _ h => h) (Or.inl ⟨by rfl, ?zhe21⟩) (by assumption) ?zre21
        case zhe21 => (intro w hSw; (try dsimp only at hSw); go_simp; (try with_reducible rfl))
        try simp only [Act.put, List.setIfInBounds_toArray, List.set_cons_zero, List.set_cons_succ]
        refine wpAnyH_ready (rs := [24]) (by kernel_rfl) (by simp) (AllReadyH.cons (o := { dst := some 51, op := Op.call { callee := Callee.value (Operand.func 8), args := #[Operand.tmp 50], argTypes := #[24] }, type := 24, pos := "law.go:61", after := #[{ on := 23, ground := Ground.data }, { on := 21, ground := Ground.chain }, { on := 21, ground := Ground.guard }], guard := some (21, false) }) rfl (fun K hK => ?_) (AllReadyH.nil))
        go_simp
        go_at_call 8; (with_reducible refine (HFE.out _ hBE).mono ?_)
        rintro y wf ⟨⟨Ae, ce, mse, rfl, hoe, hle⟩, hstep⟩
        replace hBE := hBE.trans (hstep.mono hBE.size)
        replace hoe := hoe.mono (Nat.zero_le _)
        generalize hlene : mse.length = ne at *
        clear hstep
        refine hK.out _ _ (HK.out _ hBE) (fun hHeld2 => ?_)
        clear hK K hHeld
        have hHeld := hHeld2
        clear hHeld2
        try simp only [Act.put, List.setIfInBounds_toArray, List.set_cons_zero, List.set_cons_succ]
        refine wpAnyH_ready (rs := [25]) (by kernel_rfl) (by simp) (AllReadyH.cons (o := { dst := some 52, op := Op.call { callee := Callee.value (Operand.func 11), args := #[Operand.tmp 49, Operand.tmp 51], argTypes := #[24, 24] }, type := 4, pos := "law.go:61", after := #[{ on := 22, ground := Ground.data }, { on := 24, ground := Ground.data }, { on := 24, ground := Ground.chain }, { on := 21, ground := Ground.guard }], guard := some (21, false) }) rfl (fun K hK => ?_) (AllReadyH.nil))
        go_simp
        go_at_call 11; (with_reducible refine (HS3.out _ _ _ _ _ hBE hoe hle).mono ?_)
        rintro y wg ⟨rfl, hstep⟩
        replace hBE := hBE.trans (hstep.mono hBE.size)
        replace hoe := hoe.on hstep
        clear hstep
        refine hK.out _ _ (HK.out _ hBE) (fun hHeld2 => ?_)
        clear hK K hHeld
        have hHeld := hHeld2
        clear hHeld2
        try simp only [Act.put, List.setIfInBounds_toArray, List.set_cons_zero, List.set_cons_succ]
        refine wpAnyH_take (i := 26) (oi := { dst := some 53, op := Op.unOp UnOp.not 4 (Operand.tmp 52), type := 4, pos := "law.go:61", after := #[{ on := 25, ground := Ground.data }, { on := 21, ground := Ground.guard }], guard := some (21, false) }) (v := ?zve22) rfl (by kernel_rfl) (by kernel_rfl) (by kernel_rfl) (fun _ _ _ h => h) (Or.inl ⟨by rfl, ?zhe22⟩) (by assumption) ?zre22
        case zhe22 => (intro w hSw; (try dsimp only at hSw); go_simp; (try with_reducible rfl))
        try simp only [Act.put, List.setIfInBounds_toArray, List.set_cons_zero, List.set_cons_succ]
        refine wpAnyH_take (i := 27) (oi := { dst := some 54, op := Op.pick (Operand.tmp 48) (Operand.const (Value.bool true)) (Operand.tmp 53), type := 4, pos := "law.go:61", after := #[{ on := 21, ground := Ground.data }, { on := 26, ground := Ground.data }], guard := none }) (v := ?zve23) rfl (by kernel_rfl) (by kernel_rfl) (by kernel_rfl) (fun _ _ _ h => h) (Or.inl ⟨by rfl, ?zhe23⟩) (by assumption) ?zre23
        case zhe23 => (intro w hSw; (try dsimp only at hSw); go_simp; (try with_reducible rfl))
        try simp only [Act.put, List.setIfInBounds_toArray, List.set_cons_zero, List.set_cons_succ]
        refine wpAnyH_done (by kernel_rfl) ?_ _
        go_wp2_with fail
        go_meet
        exact ⟨rfl, hBE⟩
      · obtain ⟨rfl, rfl⟩ := HEN.out hm
        clear hm
        refine wp_region_held_drew (S := (fun W' => W'.cell? ⟨gs, 0, none⟩ = some (.slice As ns cs) ∧ W'.cell? ⟨gt, 0, none⟩ = some (.slice At nt ct) ∧ W'.cell? ⟨w.heap.size, 0, none⟩ = some (.slice A n c))) (by kernel_rfl) (HK.out _ hBE.drew) (fun hHeld => ?_)
        replace hBE := hBE.drew
        obtain ⟨w0r, hw0r⟩ : ∃ w0r : World, w0r = w4.drew := ⟨_, rfl⟩
        rw [← hw0r] at hBE hHeld ⊢
        clear hw0r
        refine wpAnyH_take (i := 0) (oi := { dst := some 27, op := Op.move (Operand.tmp 9), type := 4, pos := "law.go:61", after := #[], guard := none }) (v := ?zvf0) rfl (by kernel_rfl) (by kernel_rfl) (by kernel_rfl) (fun _ _ _ h => h) (Or.inl ⟨by rfl, ?zhf0⟩) (by assumption) ?zrf0
        case zhf0 => (intro w hSw; (try dsimp only at hSw); go_simp; (try with_reducible rfl))
        try simp only [Act.put, List.setIfInBounds_toArray, List.set_cons_zero, List.set_cons_succ]
        refine wpAnyH_take (i := 1) (oi := { dst := some 28, op := Op.move (Operand.tmp 10), type := 29, pos := "law.go:61", after := #[], guard := none }) (v := ?zvf1) rfl (by kernel_rfl) (by kernel_rfl) (by kernel_rfl) (fun _ _ _ h => h) (Or.inl ⟨by rfl, ?zhf1⟩) (by assumption) ?zrf1
        case zhf1 => (intro w hSw; (try dsimp only at hSw); go_simp; (try with_reducible rfl))
        try simp only [Act.put, List.setIfInBounds_toArray, List.set_cons_zero, List.set_cons_succ]
        refine wpAnyH_take (i := 2) (oi := { dst := some 29, op := Op.binOp BinOp.eql 29 (Operand.tmp 28) (Operand.const (Value.int IntKind.i64 0)) 29, type := 4, pos := "law.go:61", after := #[{ on := 1, ground := Ground.data }], guard := none }) (v := ?zvf2) rfl (by kernel_rfl) (by kernel_rfl) (by kernel_rfl) (fun _ _ _ h => h) (Or.inl ⟨by rfl, ?zhf2⟩) (by assumption) ?zrf2
        case zhf2 => (intro w hSw; (try dsimp only at hSw); go_simp; (try with_reducible rfl))
        try simp only [Act.put, List.setIfInBounds_toArray, List.set_cons_zero, List.set_cons_succ]
        refine wpAnyH_take (i := 3) (oi := { dst := some 30, op := Op.binOp BinOp.neq 4 (Operand.tmp 27) (Operand.tmp 29) 4, type := 4, pos := "law.go:61", after := #[{ on := 0, ground := Ground.data }, { on := 2, ground := Ground.data }], guard := none }) (v := ?zvf3) rfl (by kernel_rfl) (by kernel_rfl) (by kernel_rfl) (fun _ _ _ h => h) (Or.inl ⟨by rfl, ?zhf3⟩) (by assumption) ?zrf3
        case zhf3 => (intro w hSw; (try dsimp only at hSw); go_simp; (try with_reducible rfl))
        try simp only [Act.put, List.setIfInBounds_toArray, List.set_cons_zero, List.set_cons_succ]
        refine wpAnyH_take (i := 4) (oi := { dst := some 31, op := Op.move (Operand.tmp 30), type := 4, pos := "law.go:61", after := #[{ on := 3, ground := Ground.data }], guard := none }) (v := ?zvf4) rfl (by kernel_rfl) (by kernel_rfl) (by kernel_rfl) (fun _ _ _ h => h) (Or.inl ⟨by rfl, ?zhf4⟩) (by assumption) ?zrf4
        case zhf4 => (intro w hSw; (try dsimp only at hSw); go_simp; (try with_reducible rfl))
        try simp only [Act.put, List.setIfInBounds_toArray, List.set_cons_zero, List.set_cons_succ]
        refine wpAnyH_take (i := 5) (oi := { dst := some 32, op := Op.move (Operand.tmp 9), type := 4, pos := "law.go:61", after := #[{ on := 4, ground := Ground.guard }], guard := some (4, false) }) (v := ?zvf5) rfl (by kernel_rfl) (by kernel_rfl) (by kernel_rfl) (fun _ _ _ h => h) (Or.inl ⟨by rfl, ?zhf5⟩) (by assumption) ?zrf5
        case zhf5 => (intro w hSw; (try dsimp only at hSw); go_simp; (try with_reducible rfl))
        try simp only [Act.put, List.setIfInBounds_toArray, List.set_cons_zero, List.set_cons_succ]
        refine wpAnyH_take (i := 6) (oi := { dst := some 33, op := Op.unOp UnOp.not 4 (Operand.tmp 32), type := 4, pos := "law.go:61", after := #[{ on := 5, ground := Ground.data }, { on := 4, ground := Ground.guard }], guard := some (4, false) }) (v := ?zvf6) rfl (by kernel_rfl) (by kernel_rfl) (by kernel_rfl) (fun _ _ _ h => h) (Or.inl ⟨by rfl, ?zhf6⟩) (by assumption) ?zrf6
        case zhf6 => (intro w hSw; (try dsimp only at hSw); go_simp; (try with_reducible rfl))
        try simp only [Act.put, List.setIfInBounds_toArray, List.set_cons_zero, List.set_cons_succ]
        refine wpAnyH_take (i := 7) (oi := { dst := some 34, op := Op.move (Operand.tmp 33), type := 4, pos := "law.go:61", after := #[{ on := 6, ground := Ground.data }, { on := 4, ground := Ground.chain }, { on := 4, ground := Ground.guard }], guard := some (4, false) }) (v := ?zvf7) rfl (by kernel_rfl) (by kernel_rfl) (by kernel_rfl) (fun _ _ _ h => h) (Or.inl ⟨by rfl, ?zhf7⟩) (by assumption) ?zrf7
        case zhf7 => (intro w hSw; (try dsimp only at hSw); go_simp; (try with_reducible rfl))
        try simp only [Act.put, List.setIfInBounds_toArray, List.set_cons_zero, List.set_cons_succ]
        refine wpAnyH_take (i := 8) (oi := { dst := some 35, op := Op.move (Operand.tmp 10), type := 29, pos := "law.go:61", after := #[{ on := 7, ground := Ground.guard }], guard := some (7, true) }) (v := ?zvf8) rfl (by kernel_rfl) (by kernel_rfl) (by kernel_rfl) (fun _ _ _ h => h) (Or.inl ⟨by rfl, ?zhf8⟩) (by assumption) ?zrf8
        case zhf8 => (intro w hSw; (try dsimp only at hSw); go_simp; (try with_reducible rfl))
        try simp only [Act.put, List.setIfInBounds_toArray, List.set_cons_zero, List.set_cons_succ]
        refine wpAnyH_take (i := 9) (oi := { dst := some 36, op := Op.binOp BinOp.neq 29 (Operand.tmp 35) (Operand.const (Value.int IntKind.i64 220)) 29, type := 4, pos := "law.go:61", after := #[{ on := 8, ground := Ground.data }, { on := 7, ground := Ground.guard }], guard := some (7, true) }) (v := ?zvf9) rfl (by kernel_rfl) (by kernel_rfl) (by kernel_rfl) (fun _ _ _ h => h) (Or.inl ⟨by rfl, ?zhf9⟩) (by assumption) ?zrf9
        case zhf9 => (intro w hSw; (try dsimp only at hSw); go_simp; (try with_reducible rfl))
        try simp only [Act.put, List.setIfInBounds_toArray, List.set_cons_zero, List.set_cons_succ]
        refine wpAnyH_take (i := 10) (oi := { dst := some 37, op := Op.pick (Operand.tmp 34) (Operand.tmp 36) (Operand.const (Value.bool false)), type := 4, pos := "law.go:61", after := #[{ on := 7, ground := Ground.data }, { on := 9, ground := Ground.data }, { on := 4, ground := Ground.guard }], guard := some (4, false) }) (v := ?zvf10) rfl (by kernel_rfl) (by kernel_rfl) (by kernel_rfl) (fun _ _ _ h => h) (Or.inl ⟨by rfl, ?zhf10⟩) (by assumption) ?zrf10
        case zhf10 => (intro w hSw; (try dsimp only at hSw); go_simp; (try with_reducible rfl))
        try simp only [Act.put, List.setIfInBounds_toArray, List.set_cons_zero, List.set_cons_succ]
        refine wpAnyH_take (i := 11) (oi := { dst := some 38, op := Op.pick (Operand.tmp 31) (Operand.const (Value.bool true)) (Operand.tmp 37), type := 4, pos := "law.go:61", after := #[{ on := 4, ground := Ground.data }, { on := 10, ground := Ground.data }], guard := none }) (v := ?zvf11) rfl (by kernel_rfl) (by kernel_rfl) (by kernel_rfl) (fun _ _ _ h => h) (Or.inl ⟨by rfl, ?zhf11⟩) (by assumption) ?zrf11
        case zhf11 => (intro w hSw; (try dsimp only at hSw); go_simp; (try with_reducible rfl))
        try simp only [Act.put, List.setIfInBounds_toArray, List.set_cons_zero, List.set_cons_succ]
        refine wpAnyH_take (i := 12) (oi := { dst := some 39, op := Op.move (Operand.tmp 38), type := 4, pos := "law.go:61", after := #[{ on := 11, ground := Ground.data }, { on := 7, ground := Ground.chain }], guard := none }) (v := ?zvf12) rfl (by kernel_rfl) (by kernel_rfl) (by kernel_rfl) (fun _ _ _ h => h) (Or.inl ⟨by rfl, ?zhf12⟩) (by assumption) ?zrf12
        case zhf12 => (intro w hSw; (try dsimp only at hSw); go_simp; (try with_reducible rfl))
        try simp only [Act.put, List.setIfInBounds_toArray, List.set_cons_zero, List.set_cons_succ]
        refine wpAnyH_take (i := 13) (oi := { dst := some 40, op := Op.load 24 (Operand.tmp 7), type := 24, pos := "law.go:61", after := #[{ on := 12, ground := Ground.guard }], guard := some (12, false) }) (v := ?zvf13) rfl (by kernel_rfl) (by kernel_rfl) (by kernel_rfl) (fun _ _ _ h => h) (Or.inl ⟨by rfl, ?zhf13⟩) (by assumption) ?zrf13
        case zhf13 => (intro w hSw; (try dsimp only at hSw); go_simp; (try with_reducible rfl))
        try simp only [Act.put, List.setIfInBounds_toArray, List.set_cons_zero, List.set_cons_succ]
        refine wpAnyH_take (i := 14) (oi := { dst := some 41, op := Op.load 24 (Operand.tmp 8), type := 24, pos := "law.go:61", after := #[{ on := 12, ground := Ground.guard }], guard := some (12, false) }) (v := ?zvf14) rfl (by kernel_rfl) (by kernel_rfl) (by kernel_rfl) (fun _ _ _ h => h) (Or.inl ⟨by rfl, ?zhf14⟩) (by assumption) ?zrf14
        case zhf14 => (intro w hSw; (try dsimp only at hSw); go_simp; (try with_reducible rfl))
        try simp only [Act.put, List.setIfInBounds_toArray, List.set_cons_zero, List.set_cons_succ]
        refine wpAnyH_take (i := 16) (oi := { dst := some 43, op := Op.load 24 (Operand.tmp 7), type := 24, pos := "law.go:61", after := #[{ on := 12, ground := Ground.guard }], guard := some (12, false) }) (v := ?zvf15) rfl (by kernel_rfl) (by kernel_rfl) (by kernel_rfl) (fun _ _ _ h => h) (Or.inl ⟨by rfl, ?zhf15⟩) (by assumption) ?zrf15
        case zhf15 => (intro w hSw; (try dsimp only at hSw); go_simp; (try with_reducible rfl))
        try simp only [Act.put, List.setIfInBounds_toArray, List.set_cons_zero, List.set_cons_succ]
        refine wpAnyH_take (i := 17) (oi := { dst := some 44, op := Op.load 24 (Operand.tmp 8), type := 24, pos := "law.go:61", after := #[{ on := 12, ground := Ground.guard }], guard := some (12, false) }) (v := ?zvf16) rfl (by kernel_rfl) (by kernel_rfl) (by kernel_rfl) (fun _ _ _ h => h) (Or.inl ⟨by rfl, ?zhf16⟩) (by assumption) ?zrf16
        case zhf16 => (intro w hSw; (try dsimp only at hSw); go_simp; (try with_reducible rfl))
        try simp only [Act.put, List.setIfInBounds_toArray, List.set_cons_zero, List.set_cons_succ]
        refine wpAnyH_ready (rs := [15]) (by kernel_rfl) (by simp) (AllReadyH.cons (o := { dst := some 42, op := Op.call { callee := Callee.value (Operand.func 11), args := #[Operand.tmp 40, Operand.tmp 41], argTypes := #[24, 24] }, type := 4, pos := "law.go:61", after := #[{ on := 13, ground := Ground.data }, { on := 14, ground := Ground.data }, { on := 12, ground := Ground.chain }, { on := 12, ground := Ground.guard }], guard := some (12, false) }) rfl (fun K hK => ?_) (AllReadyH.nil))
        go_simp
        go_at_call 11; (with_reducible refine (HS1.out _ hBE).mono ?_)
        rintro y wa ⟨rfl, hstep⟩
        replace hBE := hBE.trans (hstep.mono hBE.size)
        clear hstep
        refine hK.out _ _ (HK.out _ hBE) (fun hHeld2 => ?_)
        clear hK K hHeld
        have hHeld := hHeld2
        clear hHeld2
        try simp only [Act.put, List.setIfInBounds_toArray, List.set_cons_zero, List.set_cons_succ]
        refine wpAnyH_ready (rs := [18]) (by kernel_rfl) (by simp) (AllReadyH.cons (o := { dst := some 45, op := Op.call { callee := Callee.value (Operand.func 12), args := #[Operand.tmp 43, Operand.tmp 44], argTypes := #[24, 24] }, type := 4, pos := "law.go:61", after := #[{ on := 16, ground := Ground.data }, { on := 17, ground := Ground.data }, { on := 15, ground := Ground.chain }, { on := 12, ground := Ground.guard }], guard := some (12, false) }) rfl (fun K hK => ?_) (AllReadyH.nil))
        go_simp
        go_at_call 12; (with_reducible refine (HS2.out _ hBE).mono ?_)
        rintro y wb ⟨rfl, hstep⟩
        replace hBE := hBE.trans (hstep.mono hBE.size)
        clear hstep
        refine hK.out _ _ (HK.out _ hBE) (fun hHeld2 => ?_)
        clear hK K hHeld
        have hHeld := hHeld2
        clear hHeld2
        try simp only [Act.put, List.setIfInBounds_toArray, List.set_cons_zero, List.set_cons_succ]
        refine wpAnyH_take (i := 19) (oi := { dst := some 46, op := Op.binOp BinOp.neq 4 (Operand.tmp 42) (Operand.tmp 45) 4, type := 4, pos := "law.go:61", after := #[{ on := 15, ground := Ground.data }, { on := 18, ground := Ground.data }, { on := 12, ground := Ground.guard }], guard := some (12, false) }) (v := ?zvf17) rfl (by kernel_rfl) (by kernel_rfl) (by kernel_rfl) (fun _ _ _ h => h) (Or.inl ⟨by rfl, ?zhf17⟩) (by assumption) ?zrf17
        case zhf17 => (intro w hSw; (try dsimp only at hSw); go_simp; (try with_reducible rfl))
        try simp only [Act.put, List.setIfInBounds_toArray, List.set_cons_zero, List.set_cons_succ]
        refine wpAnyH_take (i := 20) (oi := { dst := some 47, op := Op.pick (Operand.tmp 39) (Operand.const (Value.bool true)) (Operand.tmp 46), type := 4, pos := "law.go:61", after := #[{ on := 12, ground := Ground.data }, { on := 19, ground := Ground.data }], guard := none }) (v := ?zvf18) rfl (by kernel_rfl) (by kernel_rfl) (by kernel_rfl) (fun _ _ _ h => h) (Or.inl ⟨by rfl, ?zhf18⟩) (by assumption) ?zrf18
        case zhf18 => (intro w hSw; (try dsimp only at hSw); go_simp; (try with_reducible rfl))
        try simp only [Act.put, List.setIfInBounds_toArray, List.set_cons_zero, List.set_cons_succ]
        refine wpAnyH_take (i := 21) (oi := { dst := some 48, op := Op.move (Operand.tmp 47), type := 4, pos := "law.go:61", after := #[{ on := 20, ground := Ground.data }, { on := 18, ground := Ground.chain }], guard := none }) (v := ?zvf19) rfl (by kernel_rfl) (by kernel_rfl) (by kernel_rfl) (fun _ _ _ h => h) (Or.inl ⟨by rfl, ?zhf19⟩) (by assumption) ?zrf19
        case zhf19 => (intro w hSw; (try dsimp only at hSw); go_simp; (try with_reducible rfl))
        try simp only [Act.put, List.setIfInBounds_toArray, List.set_cons_zero, List.set_cons_succ]
        refine wpAnyH_take (i := 22) (oi := { dst := some 49, op := Op.load 24 (Operand.tmp 7), type := 24, pos := "law.go:61", after := #[{ on := 21, ground := Ground.guard }], guard := some (21, false) }) (v := ?zvf20) rfl (by kernel_rfl) (by kernel_rfl) (by kernel_rfl) (fun _ _ _ h => h) (Or.inl ⟨by rfl, ?zhf20⟩) (by assumption) ?zrf20
        case zhf20 => (intro w hSw; (try dsimp only at hSw); go_simp; (try with_reducible rfl))
        try simp only [Act.put, List.setIfInBounds_toArray, List.set_cons_zero, List.set_cons_succ]
        refine wpAnyH_take (i := 23) (oi := { dst := some 50, op := Op.load 24 (Operand.tmp 3), type := 24, pos := "law.go:61", after := #[{ on := 21, ground := Ground.guard }], guard := some (21, false) }) (v := ?zvf21) rfl (by kernel_rfl) (by kernel_rfl) (by kernel_rfl) (fun _ _ _ h => h) (Or.inl ⟨by rfl, ?zhf21⟩) (by assumption) ?zrf21
        case zhf21 => (intro w hSw; (try dsimp only at hSw); go_simp; (try with_reducible rfl))
        try simp only [Act.put, List.setIfInBounds_toArray, List.set_cons_zero, List.set_cons_succ]
        refine wpAnyH_ready (rs := [24]) (by kernel_rfl) (by simp) (AllReadyH.cons (o := { dst := some 51, op := Op.call { callee := Callee.value (Operand.func 8), args := #[Operand.tmp 50], argTypes := #[24] }, type := 24, pos := "law.go:61", after := #[{ on := 23, ground := Ground.data }, { on := 21, ground := Ground.chain }, { on := 21, ground := Ground.guard }], guard := some (21, false) }) rfl (fun K hK => ?_) (AllReadyH.nil))
        go_simp
        go_at_call 8; (with_reducible refine (HFE.out _ hBE).mono ?_)
        rintro y wf ⟨⟨Ae, ce, mse, rfl, hoe, hle⟩, hstep⟩
        replace hBE := hBE.trans (hstep.mono hBE.size)
        replace hoe := hoe.mono (Nat.zero_le _)
        generalize hlene : mse.length = ne at *
        clear hstep
        refine hK.out _ _ (HK.out _ hBE) (fun hHeld2 => ?_)
        clear hK K hHeld
        have hHeld := hHeld2
        clear hHeld2
        try simp only [Act.put, List.setIfInBounds_toArray, List.set_cons_zero, List.set_cons_succ]
        refine wpAnyH_ready (rs := [25]) (by kernel_rfl) (by simp) (AllReadyH.cons (o := { dst := some 52, op := Op.call { callee := Callee.value (Operand.func 11), args := #[Operand.tmp 49, Operand.tmp 51], argTypes := #[24, 24] }, type := 4, pos := "law.go:61", after := #[{ on := 22, ground := Ground.data }, { on := 24, ground := Ground.data }, { on := 24, ground := Ground.chain }, { on := 21, ground := Ground.guard }], guard := some (21, false) }) rfl (fun K hK => ?_) (AllReadyH.nil))
        go_simp
        go_at_call 11; (with_reducible refine (HS3.out _ _ _ _ _ hBE hoe hle).mono ?_)
        rintro y wg ⟨rfl, hstep⟩
        replace hBE := hBE.trans (hstep.mono hBE.size)
        replace hoe := hoe.on hstep
        clear hstep
        refine hK.out _ _ (HK.out _ hBE) (fun hHeld2 => ?_)
        clear hK K hHeld
        have hHeld := hHeld2
        clear hHeld2
        try simp only [Act.put, List.setIfInBounds_toArray, List.set_cons_zero, List.set_cons_succ]
        refine wpAnyH_take (i := 26) (oi := { dst := some 53, op := Op.unOp UnOp.not 4 (Operand.tmp 52), type := 4, pos := "law.go:61", after := #[{ on := 25, ground := Ground.data }, { on := 21, ground := Ground.guard }], guard := some (21, false) }) (v := ?zvf22) rfl (by kernel_rfl) (by kernel_rfl) (by kernel_rfl) (fun _ _ _ h => h) (Or.inl ⟨by rfl, ?zhf22⟩) (by assumption) ?zrf22
        case zhf22 => (intro w hSw; (try dsimp only at hSw); go_simp; (try with_reducible rfl))
        try simp only [Act.put, List.setIfInBounds_toArray, List.set_cons_zero, List.set_cons_succ]
        refine wpAnyH_take (i := 27) (oi := { dst := some 54, op := Op.pick (Operand.tmp 48) (Operand.const (Value.bool true)) (Operand.tmp 53), type := 4, pos := "law.go:61", after := #[{ on := 21, ground := Ground.data }, { on := 26, ground := Ground.data }], guard := none }) (v := ?zvf23) rfl (by kernel_rfl) (by kernel_rfl) (by kernel_rfl) (fun _ _ _ h => h) (Or.inl ⟨by rfl, ?zhf23⟩) (by assumption) ?zrf23
        case zhf23 => (intro w hSw; (try dsimp only at hSw); go_simp; (try with_reducible rfl))
        try simp only [Act.put, List.setIfInBounds_toArray, List.set_cons_zero, List.set_cons_succ]
        refine wpAnyH_done (by kernel_rfl) ?_ _
        go_wp2_with fail
        go_meet
        exact ⟨rfl, hBE⟩
    case rest =>
      obtain ⟨rfl, hb6⟩ := hcut
      generalize wc = wl at *
      have HB6 := Lib.hid hb6
      clear hb6
      have HVL := Lib.hid (HBwv.out.trans (HB6.out.mono HBwv.out.size))
      go_upto_region 8 with fail
      go_wp2_with fail
      go_loopw [57] (fun i wr => ∃ k : Nat, k ≤ n2 ∧ i = .int .i64 (k : Int) ∧ Below wl.heap.size wl wr) (fun i _ => n2 - (intOf i).toNat)
      case atStart => exact ⟨0, Nat.zero_le _, rfl, Below.refl _ _⟩
      case round =>
        obtain ⟨k, hk, rfl, hb⟩ := hrel
        have HBl := Lib.hid hb
        have HBr := Lib.hid (HVL.out.trans (hb.mono HVL.out.size))
        have HBv := Lib.hid (HB6.out.trans (hb.mono HB6.out.size))
        clear hb
        by_cases hlt : k < n2
        · obtain ⟨m, hmk⟩ : ∃ m, ms2[k]? = some m := ⟨_, List.getElem?_eq_getElem (by have := HNA.out; omega)⟩
          obtain ⟨m0, hm0⟩ : ∃ m, ms2[0]? = some m := ⟨_, List.getElem?_eq_getElem (by have := HNA.out; omega)⟩
          obtain ⟨⟨ac, aq, ⟨ae, an⟩⟩, av⟩ := m
          obtain ⟨⟨fc, fq, ⟨fe, fn⟩⟩, fv⟩ := m0
          have hta := HA.out.on HBr.out
          have hok := hta.ok _ (List.mem_of_getElem? hmk)
          have HN0 : Hid (NR w av an) := Lib.hid (HA.out.ok _ (List.mem_of_getElem? hmk)).2
          have HF0 : Hid (NR w fv fn) := Lib.hid (HA.out.ok _ (List.mem_of_getElem? hm0)).2
          obtain ⟨b1, o1, rfl, hj1⟩ := hta.at_ hmk
          have HLD := Lib.hid (ask_load hta hmk)
          have HFC : Hid (∀ W', Below w.heap.size w W' → W'.cell? ⟨b1, o1 + 2, none⟩ = some (.int .i64 fe) ∧ W'.cell? ⟨b1, o1 + 3, none⟩ = some fv) := Lib.hid (fun W' hb => by
            obtain ⟨b', o', e', _, _, _, d2, d3⟩ := (HA.out.on hb).at_ hm0
            cases e'
            simp only [Nat.zero_mul, Nat.add_zero] at d2 d3
            exact ⟨d2, d3⟩)
          obtain ⟨W1, hs1, hy1, hb1, hz1⟩ := ask_var wr ⟨ac, aq, ae, an⟩ av hok.2.one
          have HS1' := Lib.hid hs1; have HY1 := Lib.hid hy1.box
          have HBw1' := Lib.hid (HBr.out.trans (hb1.mono HBr.out.size))
          have HBv1 := Lib.hid (HBv.out.trans (hb1.mono HBv.out.size))
          have HBl1 := Lib.hid (HBl.out.trans (hb1.mono HBl.out.size))
          have HCB := Lib.hid hok.1.1; have HRF := Lib.hid hok.1.2.2
          simp only at HY1 HCB HRF
          have i0 : (0 : Int) ≤ (k : Int) := by omega
          have i1 : (k : Int) < (n2 : Int) := by omega
          have i2 : (0 : Int) < (n2 : Int) := by omega
          have i3 : 0 < n2 := by omega
          unfold sesV at *
          simp only at HLD HS1'
          clear hmk hm0 hta hok hj1 hs1 hy1 hb1 hz1
          by_cases h12 : k = 12
          · subst h12
            rw [show ((12 : Nat) : Int) = 12 by rfl] at *
            go_wp2_with (first | refine list_load rfl _ rfl rfl HLD.out ?_ | refine list_store0 rfl rfl _ _ rfl rfl rfl HS1'.out ?_)
            go_ret
            exact ⟨rfl, HBw1'.out⟩
          · have hd12 : ((k : Int) == 12) = false := by simp; omega
            have HRF' := Lib.hid (fewR_fit HRF.out)
            have HRP := Lib.hid (reply_any ae av an W1 (HN0.out.on HBw1'.out))
            generalize an.take 14 = ax at *
            obtain ⟨a0, a1, a2, a3⟩ := HY1.out.four
            go_upto_region 13 with (first | refine list_load rfl _ rfl rfl HLD.out ?_ | refine list_store0 rfl rfl _ _ rfl rfl rfl HS1'.out ?_ | (go_at_call 13; refine HRP.out.mono ?_; rintro y w7 ⟨u7, rfl, hu7, hb7⟩; obtain ⟨Ar, cr, rfl, _⟩ := hu7.nr; have HU7 := Lib.hid hu7; have HB7 := Lib.hid hb7; clear hu7 hb7))
            have HXR := Lib.hid (SBox.new w7 35 #[.int .i64 ae, .slice Ar ax.length cr])
            have HA7 := Lib.hid (new_below w7 (.cells #[.int .i64 ae, .slice Ar ax.length cr] 35))
            have HNR : Hid (NR (w7.alloc (.cells #[.int .i64 ae, .slice Ar ax.length cr] 35)) (.slice Ar ax.length cr) ax) := Lib.hid (OwnN.nr (OwnN.on HU7.out HA7.out))
            obtain ⟨W8, hW8⟩ : ∃ W8 : World, W8 = w7.alloc (.cells #[.int .i64 ae, .slice Ar ax.length cr] 35) := ⟨_, rfl⟩
            rw [← hW8] at HXR HA7 HNR ⊢
            clear hW8 a0 a1 a2 a3
            have HB17 := Lib.hid (HB7.out.trans (HA7.out.mono HB7.out.size))
            have HBw8 := Lib.hid (HBw1'.out.trans (HB17.out.mono HBw1'.out.size)); have HBv8 := Lib.hid (HBv1.out.trans (HB17.out.mono HBv1.out.size)); have HBl8 := Lib.hid (HBl1.out.trans (HB17.out.mono HBl1.out.size))
            have HY8 := Lib.hid (HY1.out.on HB17.out)
            generalize w7.heap.size = gr at *
            generalize ax.length = lx at *
            have HCR := Lib.hid (checkr_any ae (.slice Ar lx cr) ax W8 HNR.out)
            have HRR := Lib.hid (fun W' (hb : Below W8.heap.size W8 W') => rreply_any ae (.slice Ar lx cr) ax W' (HNR.out.on hb) HRF'.out.2)
            have HQ1 := Lib.hid (fun W' (hb : Below W8.heap.size W8 W') => samer_any ae fe (.slice Ar lx cr) fv ax fn W' (HNR.out.on hb) (HF0.out.on (HBw8.out.trans (hb.mono HBw8.out.size))))
            have HQ2 := Lib.hid (fun W' (hb : Below W8.heap.size W8 W') => rsamer_any ae fe (.slice Ar lx cr) fv ax fn W' (HNR.out.on hb) (HF0.out.on (HBw8.out.trans (hb.mono HBw8.out.size))))
            have HR1 : Hid ((RepZ.mk ae ax).May → repE ⟨ae, ax⟩ = 0 ∧ RepZ.ok ⟨ae, ax⟩ = true) := Lib.hid (fun h => ⟨repE_yes h, RepZ.ok_yes.2 h⟩)
            have HR2 : Hid (¬ (RepZ.mk ae ax).May → repE ⟨ae, ax⟩ = 2 ∧ RepZ.ok ⟨ae, ax⟩ = false) := Lib.hid (fun h => ⟨repE_no h, RepZ.ok_no h⟩)
            generalize repE ⟨ae, ax⟩ = RE at *
            generalize RepZ.ok ⟨ae, ax⟩ = RO at *
            generalize decide ((RepZ.mk ae ax) = ⟨fe, fn⟩) = D2 at *
            unfold repV at HCR HRR
            simp only at HCR HRR
            obtain ⟨r0, r1⟩ := HXR.out.two
            go_wp2_with fail
            refine HCR.out.mono ?_
            rintro y w9 ⟨rfl, hb9⟩
            have HB9 := Lib.hid hb9
            clear r0 r1 hb9
            have HC14 := Lib.hid (fun (W' : World) (hW : Below W8.heap.size W8 W') => (⟨by
              obtain ⟨r0, r1⟩ := (HXR.out.on hW).two
              obtain ⟨f0, f1⟩ := HFC.out W' (HBw8.out.trans (hW.mono HBw8.out.size))
              exact ⟨r0, r1, f0, f1⟩⟩ : PLift (W'.cell? ⟨gr, 0, none⟩ = some (.int .i64 ae) ∧ W'.cell? ⟨gr, 1, none⟩ = some (.slice Ar lx cr) ∧ W'.cell? ⟨b1, o1 + 2, none⟩ = some (.int .i64 fe) ∧ W'.cell? ⟨b1, o1 + 3, none⟩ = some fv)).down)
            go_upto_region 14 with fail
            go_cut [96] from 69 to 95 (fun s96 wx => s96 = .bool false ∧ Below W8.heap.size W8 wx)
            case first =>
              have hBE := HB9.out
              have HK := HC14
              have hDD : (D2 != D2) = false := by simp
              by_cases hm : (RepZ.mk ae ax).May
              · obtain ⟨rfl, rfl⟩ := HR1.out hm
                clear hm
                refine wp_region_held_drew (S := (fun W' => W'.cell? ⟨gr, 0, none⟩ = some (.int .i64 ae) ∧ W'.cell? ⟨gr, 1, none⟩ = some (.slice Ar lx cr) ∧ W'.cell? ⟨b1, o1 + 2, none⟩ = some (.int .i64 fe) ∧ W'.cell? ⟨b1, o1 + 3, none⟩ = some fv)) (by kernel_rfl) (HK.out _ hBE.drew) (fun hHeld => ?_)
                replace hBE := hBE.drew
                obtain ⟨w0r, hw0r⟩ : ∃ w0r : World, w0r = w9.drew := ⟨_, rfl⟩
                rw [← hw0r] at hBE hHeld ⊢
                clear hw0r
                refine wpAnyH_take (i := 0) (oi := { dst := some 69, op := Op.move (Operand.tmp 14), type := 29, pos := "law.go:69", after := #[], guard := none }) (v := ?zvc0) rfl (by kernel_rfl) (by kernel_rfl) (by kernel_rfl) (fun _ _ _ h => h) (Or.inl ⟨by rfl, ?zhc0⟩) (by assumption) ?zrc0
                case zhc0 => (intro w hSw; (try dsimp only at hSw); go_simp; (try with_reducible rfl))
                try simp only [Act.put, List.setIfInBounds_toArray, List.set_cons_zero, List.set_cons_succ]
                refine wpAnyH_take (i := 1) (oi := { dst := some 70, op := Op.binOp BinOp.eql 29 (Operand.tmp 69) (Operand.const (Value.int IntKind.i64 0)) 29, type := 4, pos := "law.go:69", after := #[{ on := 0, ground := Ground.data }], guard := none }) (v := ?zvc1) rfl (by kernel_rfl) (by kernel_rfl) (by kernel_rfl) (fun _ _ _ h => h) (Or.inl ⟨by rfl, ?zhc1⟩) (by assumption) ?zrc1
                case zhc1 => (intro w hSw; (try dsimp only at hSw); go_simp; (try with_reducible rfl))
                try simp only [Act.put, List.setIfInBounds_toArray, List.set_cons_zero, List.set_cons_succ]
                refine wpAnyH_take (i := 2) (oi := { dst := some 71, op := Op.load 35 (Operand.tmp 13), type := 35, pos := "law.go:69", after := #[], guard := none }) (v := ?zvc2) rfl (by kernel_rfl) (by kernel_rfl) (by kernel_rfl) (fun _ _ _ h => h) (Or.inl ⟨by rfl, ?zhc2⟩) (by assumption) ?zrc2
                case zhc2 => (intro w hSw; (try dsimp only at hSw); go_simp; (try with_reducible rfl))
                try simp only [Act.put, List.setIfInBounds_toArray, List.set_cons_zero, List.set_cons_succ]
                refine wpAnyH_ready (rs := [3]) (by kernel_rfl) (by simp) (AllReadyH.cons (o := { dst := some 72, op := Op.call { callee := Callee.value (Operand.func 15), args := #[Operand.tmp 71], argTypes := #[35] }, type := 4, pos := "law.go:69", after := #[{ on := 2, ground := Ground.data }], guard := none }) rfl (fun K hK => ?_) (AllReadyH.nil))
                go_simp
                go_at_call 15; (with_reducible refine (HRR.out _ hBE).mono ?_)
                rintro y wa ⟨rfl, hstep⟩
                replace hBE := hBE.trans (hstep.mono hBE.size)
                clear hstep
                refine hK.out _ _ (HK.out _ hBE) (fun hHeld2 => ?_)
                clear hK K hHeld
                have hHeld := hHeld2
                clear hHeld2
                try simp only [Act.put, List.setIfInBounds_toArray, List.set_cons_zero, List.set_cons_succ]
                refine wpAnyH_take (i := 4) (oi := { dst := some 73, op := Op.binOp BinOp.neq 4 (Operand.tmp 70) (Operand.tmp 72) 4, type := 4, pos := "law.go:69", after := #[{ on := 1, ground := Ground.data }, { on := 3, ground := Ground.data }], guard := none }) (v := ?zvc3) rfl (by kernel_rfl) (by kernel_rfl) (by kernel_rfl) (fun _ _ _ h => h) (Or.inl ⟨by rfl, ?zhc3⟩) (by assumption) ?zrc3
                case zhc3 => (intro w hSw; (try dsimp only at hSw); go_simp; (try with_reducible rfl))
                try simp only [Act.put, List.setIfInBounds_toArray, List.set_cons_zero, List.set_cons_succ]
                refine wpAnyH_take (i := 5) (oi := { dst := some 74, op := Op.move (Operand.tmp 73), type := 4, pos := "law.go:69", after := #[{ on := 4, ground := Ground.data }, { on := 3, ground := Ground.chain }], guard := none }) (v := ?zvc4) rfl (by kernel_rfl) (by kernel_rfl) (by kernel_rfl) (fun _ _ _ h => h) (Or.inl ⟨by rfl, ?zhc4⟩) (by assumption) ?zrc4
                case zhc4 => (intro w hSw; (try dsimp only at hSw); go_simp; (try with_reducible rfl))
                try simp only [Act.put, List.setIfInBounds_toArray, List.set_cons_zero, List.set_cons_succ]
                refine wpAnyH_take (i := 6) (oi := { dst := some 75, op := Op.move (Operand.tmp 14), type := 29, pos := "law.go:69", after := #[{ on := 5, ground := Ground.guard }], guard := some (5, false) }) (v := ?zvc5) rfl (by kernel_rfl) (by kernel_rfl) (by kernel_rfl) (fun _ _ _ h => h) (Or.inl ⟨by rfl, ?zhc5⟩) (by assumption) ?zrc5
                case zhc5 => (intro w hSw; (try dsimp only at hSw); go_simp; (try with_reducible rfl))
                try simp only [Act.put, List.setIfInBounds_toArray, List.set_cons_zero, List.set_cons_succ]
                refine wpAnyH_take (i := 7) (oi := { dst := some 76, op := Op.binOp BinOp.neq 29 (Operand.tmp 75) (Operand.const (Value.int IntKind.i64 0)) 29, type := 4, pos := "law.go:69", after := #[{ on := 6, ground := Ground.data }, { on := 5, ground := Ground.guard }], guard := some (5, false) }) (v := ?zvc6) rfl (by kernel_rfl) (by kernel_rfl) (by kernel_rfl) (fun _ _ _ h => h) (Or.inl ⟨by rfl, ?zhc6⟩) (by assumption) ?zrc6
                case zhc6 => (intro w hSw; (try dsimp only at hSw); go_simp; (try with_reducible rfl))
                try simp only [Act.put, List.setIfInBounds_toArray, List.set_cons_zero, List.set_cons_succ]
                refine wpAnyH_take (i := 8) (oi := { dst := some 77, op := Op.move (Operand.tmp 76), type := 4, pos := "law.go:69", after := #[{ on := 7, ground := Ground.data }, { on := 5, ground := Ground.chain }, { on := 5, ground := Ground.guard }], guard := some (5, false) }) (v := ?zvc7) rfl (by kernel_rfl) (by kernel_rfl) (by kernel_rfl) (fun _ _ _ h => h) (Or.inl ⟨by rfl, ?zhc7⟩) (by assumption) ?zrc7
                case zhc7 => (intro w hSw; (try dsimp only at hSw); go_simp; (try with_reducible rfl))
                try simp only [Act.put, List.setIfInBounds_toArray, List.set_cons_zero, List.set_cons_succ]
                refine wpAnyH_take (i := 9) (oi := { dst := some 78, op := Op.move (Operand.tmp 14), type := 29, pos := "law.go:69", after := #[{ on := 8, ground := Ground.guard }], guard := some (8, true) }) (v := undef) rfl (by kernel_rfl) (by kernel_rfl) (by kernel_rfl) (fun _ _ _ h => h) (Or.inr ⟨by rfl, rfl⟩) (by assumption) ?_
                try simp only [Act.put, List.setIfInBounds_toArray, List.set_cons_zero, List.set_cons_succ]
                refine wpAnyH_take (i := 10) (oi := { dst := some 79, op := Op.binOp BinOp.neq 29 (Operand.tmp 78) (Operand.const (Value.int IntKind.i64 2)) 29, type := 4, pos := "law.go:69", after := #[{ on := 9, ground := Ground.data }, { on := 8, ground := Ground.guard }], guard := some (8, true) }) (v := undef) rfl (by kernel_rfl) (by kernel_rfl) (by kernel_rfl) (fun _ _ _ h => h) (Or.inr ⟨by rfl, rfl⟩) (by assumption) ?_
                try simp only [Act.put, List.setIfInBounds_toArray, List.set_cons_zero, List.set_cons_succ]
                refine wpAnyH_take (i := 11) (oi := { dst := some 80, op := Op.pick (Operand.tmp 77) (Operand.tmp 79) (Operand.const (Value.bool false)), type := 4, pos := "law.go:69", after := #[{ on := 8, ground := Ground.data }, { on := 10, ground := Ground.data }, { on := 5, ground := Ground.guard }], guard := some (5, false) }) (v := ?zvc10) rfl (by kernel_rfl) (by kernel_rfl) (by kernel_rfl) (fun _ _ _ h => h) (Or.inl ⟨by rfl, ?zhc10⟩) (by assumption) ?zrc10
                case zhc10 => (intro w hSw; (try dsimp only at hSw); go_simp; (try with_reducible rfl))
                try simp only [Act.put, List.setIfInBounds_toArray, List.set_cons_zero, List.set_cons_succ]
                refine wpAnyH_take (i := 12) (oi := { dst := some 81, op := Op.pick (Operand.tmp 74) (Operand.const (Value.bool true)) (Operand.tmp 80), type := 4, pos := "law.go:69", after := #[{ on := 5, ground := Ground.data }, { on := 11, ground := Ground.data }], guard := none }) (v := ?zvc11) rfl (by kernel_rfl) (by kernel_rfl) (by kernel_rfl) (fun _ _ _ h => h) (Or.inl ⟨by rfl, ?zhc11⟩) (by assumption) ?zrc11
                case zhc11 => (intro w hSw; (try dsimp only at hSw); go_simp; (try with_reducible rfl))
                try simp only [Act.put, List.setIfInBounds_toArray, List.set_cons_zero, List.set_cons_succ]
                refine wpAnyH_take (i := 13) (oi := { dst := some 82, op := Op.move (Operand.tmp 81), type := 4, pos := "law.go:69", after := #[{ on := 12, ground := Ground.data }, { on := 8, ground := Ground.chain }], guard := none }) (v := ?zvc12) rfl (by kernel_rfl) (by kernel_rfl) (by kernel_rfl) (fun _ _ _ h => h) (Or.inl ⟨by rfl, ?zhc12⟩) (by assumption) ?zrc12
                case zhc12 => (intro w hSw; (try dsimp only at hSw); go_simp; (try with_reducible rfl))
                try simp only [Act.put, List.setIfInBounds_toArray, List.set_cons_zero, List.set_cons_succ]
                refine wpAnyH_take (i := 14) (oi := { dst := some 83, op := Op.load 35 (Operand.tmp 13), type := 35, pos := "law.go:69", after := #[{ on := 13, ground := Ground.guard }], guard := some (13, false) }) (v := ?zvc13) rfl (by kernel_rfl) (by kernel_rfl) (by kernel_rfl) (fun _ _ _ h => h) (Or.inl ⟨by rfl, ?zhc13⟩) (by assumption) ?zrc13
                case zhc13 => (intro w hSw; (try dsimp only at hSw); go_simp; (try with_reducible rfl))
                try simp only [Act.put, List.setIfInBounds_toArray, List.set_cons_zero, List.set_cons_succ]
                refine wpAnyH_take (i := 15) (oi := { dst := some 84, op := Op.move (Operand.tmp 2), type := 25, pos := "law.go:69", after := #[{ on := 13, ground := Ground.guard }], guard := some (13, false) }) (v := ?zvc14) rfl (by kernel_rfl) (by kernel_rfl) (by kernel_rfl) (fun _ _ _ h => h) (Or.inl ⟨by rfl, ?zhc14⟩) (by assumption) ?zrc14
                case zhc14 => (intro w hSw; (try dsimp only at hSw); go_simp; (try with_reducible rfl))
                try simp only [Act.put, List.setIfInBounds_toArray, List.set_cons_zero, List.set_cons_succ]
                refine wpAnyH_take (i := 16) (oi := { dst := some 85, op := Op.indexAddr 25 (Operand.tmp 84) (Operand.const (Value.int IntKind.i64 0)), type := 0, pos := "law.go:69", after := #[{ on := 15, ground := Ground.data }, { on := 13, ground := Ground.guard }], guard := some (13, false) }) (v := ?zvc15) rfl (by kernel_rfl) (by kernel_rfl) (by kernel_rfl) (fun _ _ _ h => h) (Or.inl ⟨by rfl, ?zhc15⟩) (by assumption) ?zrc15
                case zhc15 => (intro w hSw; (try dsimp only at hSw); go_simp; (try with_reducible rfl))
                try simp only [Act.put, List.setIfInBounds_toArray, List.set_cons_zero, List.set_cons_succ]
                refine wpAnyH_take (i := 17) (oi := { dst := some 86, op := Op.fieldAddr 37 (Operand.tmp 85) 2, type := 0, pos := "law.go:69", after := #[{ on := 16, ground := Ground.data }, { on := 13, ground := Ground.guard }], guard := some (13, false) }) (v := ?zvc16) rfl (by kernel_rfl) (by kernel_rfl) (by kernel_rfl) (fun _ _ _ h => h) (Or.inl ⟨by rfl, ?zhc16⟩) (by assumption) ?zrc16
                case zhc16 => (intro w hSw; (try dsimp only at hSw); go_simp; (try with_reducible rfl))
                try simp only [Act.put, List.setIfInBounds_toArray, List.set_cons_zero, List.set_cons_succ]
                refine wpAnyH_take (i := 18) (oi := { dst := some 87, op := Op.load 35 (Operand.tmp 86), type := 35, pos := "law.go:69", after := #[{ on := 17, ground := Ground.data }, { on := 13, ground := Ground.guard }], guard := some (13, false) }) (v := ?zvc17) rfl (by kernel_rfl) (by kernel_rfl) (by kernel_rfl) (fun _ _ _ h => h) (Or.inl ⟨by rfl, ?zhc17⟩) (by assumption) ?zrc17
                case zhc17 => (intro w hSw; (try dsimp only at hSw); go_simp; (try with_reducible rfl))
                try simp only [Act.put, List.setIfInBounds_toArray, List.set_cons_zero, List.set_cons_succ]
                refine wpAnyH_take (i := 20) (oi := { dst := some 89, op := Op.load 35 (Operand.tmp 13), type := 35, pos := "law.go:69", after := #[{ on := 13, ground := Ground.guard }], guard := some (13, false) }) (v := ?zvc18) rfl (by kernel_rfl) (by kernel_rfl) (by kernel_rfl) (fun _ _ _ h => h) (Or.inl ⟨by rfl, ?zhc18⟩) (by assumption) ?zrc18
                case zhc18 => (intro w hSw; (try dsimp only at hSw); go_simp; (try with_reducible rfl))
                try simp only [Act.put, List.setIfInBounds_toArray, List.set_cons_zero, List.set_cons_succ]
                refine wpAnyH_take (i := 21) (oi := { dst := some 90, op := Op.move (Operand.tmp 2), type := 25, pos := "law.go:69", after := #[{ on := 13, ground := Ground.guard }], guard := some (13, false) }) (v := ?zvc19) rfl (by kernel_rfl) (by kernel_rfl) (by kernel_rfl) (fun _ _ _ h => h) (Or.inl ⟨by rfl, ?zhc19⟩) (by assumption) ?zrc19
                case zhc19 => (intro w hSw; (try dsimp only at hSw); go_simp; (try with_reducible rfl))
                try simp only [Act.put, List.setIfInBounds_toArray, List.set_cons_zero, List.set_cons_succ]
                refine wpAnyH_take (i := 22) (oi := { dst := some 91, op := Op.indexAddr 25 (Operand.tmp 90) (Operand.const (Value.int IntKind.i64 0)), type := 0, pos := "law.go:69", after := #[{ on := 21, ground := Ground.data }, { on := 13, ground := Ground.guard }], guard := some (13, false) }) (v := ?zvc20) rfl (by kernel_rfl) (by kernel_rfl) (by kernel_rfl) (fun _ _ _ h => h) (Or.inl ⟨by rfl, ?zhc20⟩) (by assumption) ?zrc20
                case zhc20 => (intro w hSw; (try dsimp only at hSw); go_simp; (try with_reducible rfl))
                try simp only [Act.put, List.setIfInBounds_toArray, List.set_cons_zero, List.set_cons_succ]
                refine wpAnyH_take (i := 23) (oi := { dst := some 92, op := Op.fieldAddr 37 (Operand.tmp 91) 2, type := 0, pos := "law.go:69", after := #[{ on := 22, ground := Ground.data }, { on := 13, ground := Ground.guard }], guard := some (13, false) }) (v := ?zvc21) rfl (by kernel_rfl) (by kernel_rfl) (by kernel_rfl) (fun _ _ _ h => h) (Or.inl ⟨by rfl, ?zhc21⟩) (by assumption) ?zrc21
                case zhc21 => (intro w hSw; (try dsimp only at hSw); go_simp; (try with_reducible rfl))
                try simp only [Act.put, List.setIfInBounds_toArray, List.set_cons_zero, List.set_cons_succ]
                refine wpAnyH_take (i := 24) (oi := { dst := some 93, op := Op.load 35 (Operand.tmp 92), type := 35, pos := "law.go:69", after := #[{ on := 23, ground := Ground.data }, { on := 13, ground := Ground.guard }], guard := some (13, false) }) (v := ?zvc22) rfl (by kernel_rfl) (by kernel_rfl) (by kernel_rfl) (fun _ _ _ h => h) (Or.inl ⟨by rfl, ?zhc22⟩) (by assumption) ?zrc22
                case zhc22 => (intro w hSw; (try dsimp only at hSw); go_simp; (try with_reducible rfl))
                try simp only [Act.put, List.setIfInBounds_toArray, List.set_cons_zero, List.set_cons_succ]
                refine wpAnyH_ready (rs := [19]) (by kernel_rfl) (by simp) (AllReadyH.cons (o := { dst := some 88, op := Op.call { callee := Callee.value (Operand.func 16), args := #[Operand.tmp 83, Operand.tmp 87], argTypes := #[35, 35] }, type := 4, pos := "law.go:69", after := #[{ on := 14, ground := Ground.data }, { on := 18, ground := Ground.data }, { on := 13, ground := Ground.chain }, { on := 13, ground := Ground.guard }], guard := some (13, false) }) rfl (fun K hK => ?_) (AllReadyH.nil))
                go_simp
                go_at_call 16; (with_reducible refine (HQ1.out _ hBE).mono ?_)
                rintro y wb ⟨rfl, hstep⟩
                replace hBE := hBE.trans (hstep.mono hBE.size)
                clear hstep
                refine hK.out _ _ (HK.out _ hBE) (fun hHeld2 => ?_)
                clear hK K hHeld
                have hHeld := hHeld2
                clear hHeld2
                try simp only [Act.put, List.setIfInBounds_toArray, List.set_cons_zero, List.set_cons_succ]
                refine wpAnyH_ready (rs := [25]) (by kernel_rfl) (by simp) (AllReadyH.cons (o := { dst := some 94, op := Op.call { callee := Callee.value (Operand.func 17), args := #[Operand.tmp 89, Operand.tmp 93], argTypes := #[35, 35] }, type := 4, pos := "law.go:69", after := #[{ on := 20, ground := Ground.data }, { on := 24, ground := Ground.data }, { on := 19, ground := Ground.chain }, { on := 13, ground := Ground.guard }], guard := some (13, false) }) rfl (fun K hK => ?_) (AllReadyH.nil))
                go_simp
                go_at_call 17; (with_reducible refine (HQ2.out _ hBE).mono ?_)
                rintro y wd ⟨rfl, hstep⟩
                replace hBE := hBE.trans (hstep.mono hBE.size)
                clear hstep
                refine hK.out _ _ (HK.out _ hBE) (fun hHeld2 => ?_)
                clear hK K hHeld
                have hHeld := hHeld2
                clear hHeld2
                try simp only [Act.put, List.setIfInBounds_toArray, List.set_cons_zero, List.set_cons_succ]
                refine wpAnyH_take (i := 26) (oi := { dst := some 95, op := Op.binOp BinOp.neq 4 (Operand.tmp 88) (Operand.tmp 94) 4, type := 4, pos := "law.go:69", after := #[{ on := 19, ground := Ground.data }, { on := 25, ground := Ground.data }, { on := 13, ground := Ground.guard }], guard := some (13, false) }) (v := ?zvc23) rfl (by kernel_rfl) (by kernel_rfl) (by kernel_rfl) (fun _ _ _ h => h) (Or.inl ⟨by rfl, ?zhc23⟩) (by assumption) ?zrc23
                case zhc23 => (intro w hSw; (try dsimp only at hSw); go_simp; (try with_reducible rfl))
                try simp only [Act.put, List.setIfInBounds_toArray, List.set_cons_zero, List.set_cons_succ]
                refine wpAnyH_take (i := 27) (oi := { dst := some 96, op := Op.pick (Operand.tmp 82) (Operand.const (Value.bool true)) (Operand.tmp 95), type := 4, pos := "law.go:69", after := #[{ on := 13, ground := Ground.data }, { on := 26, ground := Ground.data }], guard := none }) (v := ?zvc24) rfl (by kernel_rfl) (by kernel_rfl) (by kernel_rfl) (fun _ _ _ h => h) (Or.inl ⟨by rfl, ?zhc24⟩) (by assumption) ?zrc24
                case zhc24 => (intro w hSw; (try dsimp only at hSw); go_simp; (try with_reducible rfl))
                try simp only [Act.put, List.setIfInBounds_toArray, List.set_cons_zero, List.set_cons_succ]
                refine wpAnyH_done (by kernel_rfl) ?_ _
                go_wp2_with fail
                go_meet
                exact ⟨rfl, hBE⟩
              · obtain ⟨rfl, rfl⟩ := HR2.out hm
                clear hm
                refine wp_region_held_drew (S := (fun W' => W'.cell? ⟨gr, 0, none⟩ = some (.int .i64 ae) ∧ W'.cell? ⟨gr, 1, none⟩ = some (.slice Ar lx cr) ∧ W'.cell? ⟨b1, o1 + 2, none⟩ = some (.int .i64 fe) ∧ W'.cell? ⟨b1, o1 + 3, none⟩ = some fv)) (by kernel_rfl) (HK.out _ hBE.drew) (fun hHeld => ?_)
                replace hBE := hBE.drew
                obtain ⟨w0r, hw0r⟩ : ∃ w0r : World, w0r = w9.drew := ⟨_, rfl⟩
                rw [← hw0r] at hBE hHeld ⊢
                clear hw0r
                refine wpAnyH_take (i := 0) (oi := { dst := some 69, op := Op.move (Operand.tmp 14), type := 29, pos := "law.go:69", after := #[], guard := none }) (v := ?zvd0) rfl (by kernel_rfl) (by kernel_rfl) (by kernel_rfl) (fun _ _ _ h => h) (Or.inl ⟨by rfl, ?zhd0⟩) (by assumption) ?zrd0
                case zhd0 => (intro w hSw; (try dsimp only at hSw); go_simp; (try with_reducible rfl))
                try simp only [Act.put, List.setIfInBounds_toArray, List.set_cons_zero, List.set_cons_succ]
                refine wpAnyH_take (i := 1) (oi := { dst := some 70, op := Op.binOp BinOp.eql 29 (Operand.tmp 69) (Operand.const (Value.int IntKind.i64 0)) 29, type := 4, pos := "law.go:69", after := #[{ on := 0, ground := Ground.data }], guard := none }) (v := ?zvd1) rfl (by kernel_rfl) (by kernel_rfl) (by kernel_rfl) (fun _ _ _ h => h) (Or.inl ⟨by rfl, ?zhd1⟩) (by assumption) ?zrd1
                case zhd1 => (intro w hSw; (try dsimp only at hSw); go_simp; (try with_reducible rfl))
                try simp only [Act.put, List.setIfInBounds_toArray, List.set_cons_zero, List.set_cons_succ]
                refine wpAnyH_take (i := 2) (oi := { dst := some 71, op := Op.load 35 (Operand.tmp 13), type := 35, pos := "law.go:69", after := #[], guard := none }) (v := ?zvd2) rfl (by kernel_rfl) (by kernel_rfl) (by kernel_rfl) (fun _ _ _ h => h) (Or.inl ⟨by rfl, ?zhd2⟩) (by assumption) ?zrd2
                case zhd2 => (intro w hSw; (try dsimp only at hSw); go_simp; (try with_reducible rfl))
                try simp only [Act.put, List.setIfInBounds_toArray, List.set_cons_zero, List.set_cons_succ]
                refine wpAnyH_ready (rs := [3]) (by kernel_rfl) (by simp) (AllReadyH.cons (o := { dst := some 72, op := Op.call { callee := Callee.value (Operand.func 15), args := #[Operand.tmp 71], argTypes := #[35] }, type := 4, pos := "law.go:69", after := #[{ on := 2, ground := Ground.data }], guard := none }) rfl (fun K hK => ?_) (AllReadyH.nil))
                go_simp
                go_at_call 15; (with_reducible refine (HRR.out _ hBE).mono ?_)
                rintro y wa ⟨rfl, hstep⟩
                replace hBE := hBE.trans (hstep.mono hBE.size)
                clear hstep
                refine hK.out _ _ (HK.out _ hBE) (fun hHeld2 => ?_)
                clear hK K hHeld
                have hHeld := hHeld2
                clear hHeld2
                try simp only [Act.put, List.setIfInBounds_toArray, List.set_cons_zero, List.set_cons_succ]
                refine wpAnyH_take (i := 4) (oi := { dst := some 73, op := Op.binOp BinOp.neq 4 (Operand.tmp 70) (Operand.tmp 72) 4, type := 4, pos := "law.go:69", after := #[{ on := 1, ground := Ground.data }, { on := 3, ground := Ground.data }], guard := none }) (v := ?zvd3) rfl (by kernel_rfl) (by kernel_rfl) (by kernel_rfl) (fun _ _ _ h => h) (Or.inl ⟨by rfl, ?zhd3⟩) (by assumption) ?zrd3
                case zhd3 => (intro w hSw; (try dsimp only at hSw); go_simp; (try with_reducible rfl))
                try simp only [Act.put, List.setIfInBounds_toArray, List.set_cons_zero, List.set_cons_succ]
                refine wpAnyH_take (i := 5) (oi := { dst := some 74, op := Op.move (Operand.tmp 73), type := 4, pos := "law.go:69", after := #[{ on := 4, ground := Ground.data }, { on := 3, ground := Ground.chain }], guard := none }) (v := ?zvd4) rfl (by kernel_rfl) (by kernel_rfl) (by kernel_rfl) (fun _ _ _ h => h) (Or.inl ⟨by rfl, ?zhd4⟩) (by assumption) ?zrd4
                case zhd4 => (intro w hSw; (try dsimp only at hSw); go_simp; (try with_reducible rfl))
                try simp only [Act.put, List.setIfInBounds_toArray, List.set_cons_zero, List.set_cons_succ]
                refine wpAnyH_take (i := 6) (oi := { dst := some 75, op := Op.move (Operand.tmp 14), type := 29, pos := "law.go:69", after := #[{ on := 5, ground := Ground.guard }], guard := some (5, false) }) (v := ?zvd5) rfl (by kernel_rfl) (by kernel_rfl) (by kernel_rfl) (fun _ _ _ h => h) (Or.inl ⟨by rfl, ?zhd5⟩) (by assumption) ?zrd5
                case zhd5 => (intro w hSw; (try dsimp only at hSw); go_simp; (try with_reducible rfl))
                try simp only [Act.put, List.setIfInBounds_toArray, List.set_cons_zero, List.set_cons_succ]
                refine wpAnyH_take (i := 7) (oi := { dst := some 76, op := Op.binOp BinOp.neq 29 (Operand.tmp 75) (Operand.const (Value.int IntKind.i64 0)) 29, type := 4, pos := "law.go:69", after := #[{ on := 6, ground := Ground.data }, { on := 5, ground := Ground.guard }], guard := some (5, false) }) (v := ?zvd6) rfl (by kernel_rfl) (by kernel_rfl) (by kernel_rfl) (fun _ _ _ h => h) (Or.inl ⟨by rfl, ?zhd6⟩) (by assumption) ?zrd6
                case zhd6 => (intro w hSw; (try dsimp only at hSw); go_simp; (try with_reducible rfl))
                try simp only [Act.put, List.setIfInBounds_toArray, List.set_cons_zero, List.set_cons_succ]
                refine wpAnyH_take (i := 8) (oi := { dst := some 77, op := Op.move (Operand.tmp 76), type := 4, pos := "law.go:69", after := #[{ on := 7, ground := Ground.data }, { on := 5, ground := Ground.chain }, { on := 5, ground := Ground.guard }], guard := some (5, false) }) (v := ?zvd7) rfl (by kernel_rfl) (by kernel_rfl) (by kernel_rfl) (fun _ _ _ h => h) (Or.inl ⟨by rfl, ?zhd7⟩) (by assumption) ?zrd7
                case zhd7 => (intro w hSw; (try dsimp only at hSw); go_simp; (try with_reducible rfl))
                try simp only [Act.put, List.setIfInBounds_toArray, List.set_cons_zero, List.set_cons_succ]
                refine wpAnyH_take (i := 9) (oi := { dst := some 78, op := Op.move (Operand.tmp 14), type := 29, pos := "law.go:69", after := #[{ on := 8, ground := Ground.guard }], guard := some (8, true) }) (v := ?zvd8) rfl (by kernel_rfl) (by kernel_rfl) (by kernel_rfl) (fun _ _ _ h => h) (Or.inl ⟨by rfl, ?zhd8⟩) (by assumption) ?zrd8
                case zhd8 => (intro w hSw; (try dsimp only at hSw); go_simp; (try with_reducible rfl))
                try simp only [Act.put, List.setIfInBounds_toArray, List.set_cons_zero, List.set_cons_succ]
                refine wpAnyH_take (i := 10) (oi := { dst := some 79, op := Op.binOp BinOp.neq 29 (Operand.tmp 78) (Operand.const (Value.int IntKind.i64 2)) 29, type := 4, pos := "law.go:69", after := #[{ on := 9, ground := Ground.data }, { on := 8, ground := Ground.guard }], guard := some (8, true) }) (v := ?zvd9) rfl (by kernel_rfl) (by kernel_rfl) (by kernel_rfl) (fun _ _ _ h => h) (Or.inl ⟨by rfl, ?zhd9⟩) (by assumption) ?zrd9
                case zhd9 => (intro w hSw; (try dsimp only at hSw); go_simp; (try with_reducible rfl))
                try simp only [Act.put, List.setIfInBounds_toArray, List.set_cons_zero, List.set_cons_succ]
                refine wpAnyH_take (i := 11) (oi := { dst := some 80, op := Op.pick (Operand.tmp 77) (Operand.tmp 79) (Operand.const (Value.bool false)), type := 4, pos := "law.go:69", after := #[{ on := 8, ground := Ground.data }, { on := 10, ground := Ground.data }, { on := 5, ground := Ground.guard }], guard := some (5, false) }) (v := ?zvd10) rfl (by kernel_rfl) (by kernel_rfl) (by kernel_rfl) (fun _ _ _ h => h) (Or.inl ⟨by rfl, ?zhd10⟩) (by assumption) ?zrd10
                case zhd10 => (intro w hSw; (try dsimp only at hSw); go_simp; (try with_reducible rfl))
                try simp only [Act.put, List.setIfInBounds_toArray, List.set_cons_zero, List.set_cons_succ]
                refine wpAnyH_take (i := 12) (oi := { dst := some 81, op := Op.pick (Operand.tmp 74) (Operand.const (Value.bool true)) (Operand.tmp 80), type := 4, pos := "law.go:69", after := #[{ on := 5, ground := Ground.data }, { on := 11, ground := Ground.data }], guard := none }) (v := ?zvd11) rfl (by kernel_rfl) (by kernel_rfl) (by kernel_rfl) (fun _ _ _ h => h) (Or.inl ⟨by rfl, ?zhd11⟩) (by assumption) ?zrd11
                case zhd11 => (intro w hSw; (try dsimp only at hSw); go_simp; (try with_reducible rfl))
                try simp only [Act.put, List.setIfInBounds_toArray, List.set_cons_zero, List.set_cons_succ]
                refine wpAnyH_take (i := 13) (oi := { dst := some 82, op := Op.move (Operand.tmp 81), type := 4, pos := "law.go:69", after := #[{ on := 12, ground := Ground.data }, { on := 8, ground := Ground.chain }], guard := none }) (v := ?zvd12) rfl (by kernel_rfl) (by kernel_rfl) (by kernel_rfl) (fun _ _ _ h => h) (Or.inl ⟨by rfl, ?zhd12⟩) (by assumption) ?zrd12
                case zhd12 => (intro w hSw; (try dsimp only at hSw); go_simp; (try with_reducible rfl))
                try simp only [Act.put, List.setIfInBounds_toArray, List.set_cons_zero, List.set_cons_succ]
                refine wpAnyH_take (i := 14) (oi := { dst := some 83, op := Op.load 35 (Operand.tmp 13), type := 35, pos := "law.go:69", after := #[{ on := 13, ground := Ground.guard }], guard := some (13, false) }) (v := ?zvd13) rfl (by kernel_rfl) (by kernel_rfl) (by kernel_rfl) (fun _ _ _ h => h) (Or.inl ⟨by rfl, ?zhd13⟩) (by assumption) ?zrd13
                case zhd13 => (intro w hSw; (try dsimp only at hSw); go_simp; (try with_reducible rfl))
                try simp only [Act.put, List.setIfInBounds_toArray, List.set_cons_zero, List.set_cons_succ]
                refine wpAnyH_take (i := 15) (oi := { dst := some 84, op := Op.move (Operand.tmp 2), type := 25, pos := "law.go:69", after := #[{ on := 13, ground := Ground.guard }], guard := some (13, false) }) (v := ?zvd14) rfl (by kernel_rfl) (by kernel_rfl) (by kernel_rfl) (fun _ _ _ h => h) (Or.inl ⟨by rfl, ?zhd14⟩) (by assumption) ?zrd14
                case zhd14 => (intro w hSw; (try dsimp only at hSw); go_simp; (try with_reducible rfl))
                try simp only [Act.put, List.setIfInBounds_toArray, List.set_cons_zero, List.set_cons_succ]
                refine wpAnyH_take (i := 16) (oi := { dst := some 85, op := Op.indexAddr 25 (Operand.tmp 84) (Operand.const (Value.int IntKind.i64 0)), type := 0, pos := "law.go:69", after := #[{ on := 15, ground := Ground.data }, { on := 13, ground := Ground.guard }], guard := some (13, false) }) (v := ?zvd15) rfl (by kernel_rfl) (by kernel_rfl) (by kernel_rfl) (fun _ _ _ h => h) (Or.inl ⟨by rfl, ?zhd15⟩) (by assumption) ?zrd15
                case zhd15 => (intro w hSw; (try dsimp only at hSw); go_simp; (try with_reducible rfl))
                try simp only [Act.put, List.setIfInBounds_toArray, List.set_cons_zero, List.set_cons_succ]
                refine wpAnyH_take (i := 17) (oi := { dst := some 86, op := Op.fieldAddr 37 (Operand.tmp 85) 2, type := 0, pos := "law.go:69", after := #[{ on := 16, ground := Ground.data }, { on := 13, ground := Ground.guard }], guard := some (13, false) }) (v := ?zvd16) rfl (by kernel_rfl) (by kernel_rfl) (by kernel_rfl) (fun _ _ _ h => h) (Or.inl ⟨by rfl, ?zhd16⟩) (by assumption) ?zrd16
                case zhd16 => (intro w hSw; (try dsimp only at hSw); go_simp; (try with_reducible rfl))
                try simp only [Act.put, List.setIfInBounds_toArray, List.set_cons_zero, List.set_cons_succ]
                refine wpAnyH_take (i := 18) (oi := { dst := some 87, op := Op.load 35 (Operand.tmp 86), type := 35, pos := "law.go:69", after := #[{ on := 17, ground := Ground.data }, { on := 13, ground := Ground.guard }], guard := some (13, false) }) (v := ?zvd17) rfl (by kernel_rfl) (by kernel_rfl) (by kernel_rfl) (fun _ _ _ h => h) (Or.inl ⟨by rfl, ?zhd17⟩) (by assumption) ?zrd17
                case zhd17 => (intro w hSw; (try dsimp only at hSw); go_simp; (try with_reducible rfl))
                try simp only [Act.put, List.setIfInBounds_toArray, List.set_cons_zero, List.set_cons_succ]
                refine wpAnyH_take (i := 20) (oi := { dst := some 89, op := Op.load 35 (Operand.tmp 13), type := 35, pos := "law.go:69", after := #[{ on := 13, ground := Ground.guard }], guard := some (13, false) }) (v := ?zvd18) rfl (by kernel_rfl) (by kernel_rfl) (by kernel_rfl) (fun _ _ _ h => h) (Or.inl ⟨by rfl, ?zhd18⟩) (by assumption) ?zrd18
                case zhd18 => (intro w hSw; (try dsimp only at hSw); go_simp; (try with_reducible rfl))
                try simp only [Act.put, List.setIfInBounds_toArray, List.set_cons_zero, List.set_cons_succ]
                refine wpAnyH_take (i := 21) (oi := { dst := some 90, op := Op.move (Operand.tmp 2), type := 25, pos := "law.go:69", after := #[{ on := 13, ground := Ground.guard }], guard := some (13, false) }) (v := ?zvd19) rfl (by kernel_rfl) (by kernel_rfl) (by kernel_rfl) (fun _ _ _ h => h) (Or.inl ⟨by rfl, ?zhd19⟩) (by assumption) ?zrd19
                case zhd19 => (intro w hSw; (try dsimp only at hSw); go_simp; (try with_reducible rfl))
                try simp only [Act.put, List.setIfInBounds_toArray, List.set_cons_zero, List.set_cons_succ]
                refine wpAnyH_take (i := 22) (oi := { dst := some 91, op := Op.indexAddr 25 (Operand.tmp 90) (Operand.const (Value.int IntKind.i64 0)), type := 0, pos := "law.go:69", after := #[{ on := 21, ground := Ground.data }, { on := 13, ground := Ground.guard }], guard := some (13, false) }) (v := ?zvd20) rfl (by kernel_rfl) (by kernel_rfl) (by kernel_rfl) (fun _ _ _ h => h) (Or.inl ⟨by rfl, ?zhd20⟩) (by assumption) ?zrd20
                case zhd20 => (intro w hSw; (try dsimp only at hSw); go_simp; (try with_reducible rfl))
                try simp only [Act.put, List.setIfInBounds_toArray, List.set_cons_zero, List.set_cons_succ]
                refine wpAnyH_take (i := 23) (oi := { dst := some 92, op := Op.fieldAddr 37 (Operand.tmp 91) 2, type := 0, pos := "law.go:69", after := #[{ on := 22, ground := Ground.data }, { on := 13, ground := Ground.guard }], guard := some (13, false) }) (v := ?zvd21) rfl (by kernel_rfl) (by kernel_rfl) (by kernel_rfl) (fun _ _ _ h => h) (Or.inl ⟨by rfl, ?zhd21⟩) (by assumption) ?zrd21
                case zhd21 => (intro w hSw; (try dsimp only at hSw); go_simp; (try with_reducible rfl))
                try simp only [Act.put, List.setIfInBounds_toArray, List.set_cons_zero, List.set_cons_succ]
                refine wpAnyH_take (i := 24) (oi := { dst := some 93, op := Op.load 35 (Operand.tmp 92), type := 35, pos := "law.go:69", after := #[{ on := 23, ground := Ground.data }, { on := 13, ground := Ground.guard }], guard := some (13, false) }) (v := ?zvd22) rfl (by kernel_rfl) (by kernel_rfl) (by kernel_rfl) (fun _ _ _ h => h) (Or.inl ⟨by rfl, ?zhd22⟩) (by assumption) ?zrd22
                case zhd22 => (intro w hSw; (try dsimp only at hSw); go_simp; (try with_reducible rfl))
                try simp only [Act.put, List.setIfInBounds_toArray, List.set_cons_zero, List.set_cons_succ]
                refine wpAnyH_ready (rs := [19]) (by kernel_rfl) (by simp) (AllReadyH.cons (o := { dst := some 88, op := Op.call { callee := Callee.value (Operand.func 16), args := #[Operand.tmp 83, Operand.tmp 87], argTypes := #[35, 35] }, type := 4, pos := "law.go:69", after := #[{ on := 14, ground := Ground.data }, { on := 18, ground := Ground.data }, { on := 13, ground := Ground.chain }, { on := 13, ground := Ground.guard }], guard := some (13, false) }) rfl (fun K hK => ?_) (AllReadyH.nil))
                go_simp
                go_at_call 16; (with_reducible refine (HQ1.out _ hBE).mono ?_)
                rintro y wb ⟨rfl, hstep⟩
                replace hBE := hBE.trans (hstep.mono hBE.size)
                clear hstep
                refine hK.out _ _ (HK.out _ hBE) (fun hHeld2 => ?_)
                clear hK K hHeld
                have hHeld := hHeld2
                clear hHeld2
                try simp only [Act.put, List.setIfInBounds_toArray, List.set_cons_zero, List.set_cons_succ]
                refine wpAnyH_ready (rs := [25]) (by kernel_rfl) (by simp) (AllReadyH.cons (o := { dst := some 94, op := Op.call { callee := Callee.value (Operand.func 17), args := #[Operand.tmp 89, Operand.tmp 93], argTypes := #[35, 35] }, type := 4, pos := "law.go:69", after := #[{ on := 20, ground := Ground.data }, { on := 24, ground := Ground.data }, { on := 19, ground := Ground.chain }, { on := 13, ground := Ground.guard }], guard := some (13, false) }) rfl (fun K hK => ?_) (AllReadyH.nil))
                go_simp
                go_at_call 17; (with_reducible refine (HQ2.out _ hBE).mono ?_)
                rintro y wd ⟨rfl, hstep⟩
                replace hBE := hBE.trans (hstep.mono hBE.size)
                clear hstep
                refine hK.out _ _ (HK.out _ hBE) (fun hHeld2 => ?_)
                clear hK K hHeld
                have hHeld := hHeld2
                clear hHeld2
                try simp only [Act.put, List.setIfInBounds_toArray, List.set_cons_zero, List.set_cons_succ]
                refine wpAnyH_take (i := 26) (oi := { dst := some 95, op := Op.binOp BinOp.neq 4 (Operand.tmp 88) (Operand.tmp 94) 4, type := 4, pos := "law.go:69", after := #[{ on := 19, ground := Ground.data }, { on := 25, ground := Ground.data }, { on := 13, ground := Ground.guard }], guard := some (13, false) }) (v := ?zvd23) rfl (by kernel_rfl) (by kernel_rfl) (by kernel_rfl) (fun _ _ _ h => h) (Or.inl ⟨by rfl, ?zhd23⟩) (by assumption) ?zrd23
                case zhd23 => (intro w hSw; (try dsimp only at hSw); go_simp; (try with_reducible rfl))
                try simp only [Act.put, List.setIfInBounds_toArray, List.set_cons_zero, List.set_cons_succ]
                refine wpAnyH_take (i := 27) (oi := { dst := some 96, op := Op.pick (Operand.tmp 82) (Operand.const (Value.bool true)) (Operand.tmp 95), type := 4, pos := "law.go:69", after := #[{ on := 13, ground := Ground.data }, { on := 26, ground := Ground.data }], guard := none }) (v := ?zvd24) rfl (by kernel_rfl) (by kernel_rfl) (by kernel_rfl) (fun _ _ _ h => h) (Or.inl ⟨by rfl, ?zhd24⟩) (by assumption) ?zrd24
                case zhd24 => (intro w hSw; (try dsimp only at hSw); go_simp; (try with_reducible rfl))
                try simp only [Act.put, List.setIfInBounds_toArray, List.set_cons_zero, List.set_cons_succ]
                refine wpAnyH_done (by kernel_rfl) ?_ _
                go_wp2_with fail
                go_meet
                exact ⟨rfl, hBE⟩
            case rest =>
              obtain ⟨rfl, hb14⟩ := hcut
              generalize wc = wm at *
              have HB14 := Lib.hid hb14
              clear hb14
              have HBw14 := Lib.hid (HBw8.out.trans (HB14.out.mono HBw8.out.size)); have HBv14 := Lib.hid (HBv8.out.trans (HB14.out.mono HBv8.out.size)); have HBl14 := Lib.hid (HBl8.out.trans (HB14.out.mono HBl8.out.size))
              have HY14 := Lib.hid (HY8.out.on HB14.out)
              have HX15 := Lib.hid (SBox.new wm 42 #[.int .i64 0, .int .u64 0, .int .i64 0, .slice none 0 0])
              have HA15 := Lib.hid (new_below wm (.cells #[.int .i64 0, .int .u64 0, .int .i64 0, .slice none 0 0] 42))
              go_upto_region 17 with fail
              obtain ⟨W15, hW15⟩ : ∃ W15 : World, W15 = wm.alloc (.cells #[.int .i64 0, .int .u64 0, .int .i64 0, .slice none 0 0] 42) := ⟨_, rfl⟩
              rw [← hW15] at HX15 HA15 ⊢
              clear hW15
              generalize hgw : wm.heap.size = gw at *
              have HGW : Hid (W8.heap.size ≤ gw) := Lib.hid (by rw [← hgw]; exact HB14.out.size)
              have HB15 : Hid (Below W8.heap.size W8 W15) := Lib.hid (HB14.out.trans (HA15.out.mono HGW.out))
              have HXO : Hid (OS = true ∧ 1 ≤ ac ∧ ac ≤ 3 → ofZ ls ac = ofD ls ac) := Lib.hid (fun hh => by unfold ofZ; rw [HOSL.out, if_pos hh])
              have HXZ : Hid (¬ (OS = true ∧ 1 ≤ ac ∧ ac ≤ 3) → ofZ ls ac = zeroS) := Lib.hid (fun hh => by unfold ofZ; rw [HOSL.out, if_neg hh])
              have HAK : Hid (decide (Asked ac 1) = decide (1 ≤ ac ∧ ac ≤ 3)) := Lib.hid (by
                have : Asked ac 1 ↔ 1 ≤ ac ∧ ac ≤ 3 := by unfold Asked maxQ; omega
                exact decide_eq_decide.2 this)
              have HROF := Lib.hid (fun W' (hb : Below W8.heap.size W8 W') => rof_any2 As ns cs ac mss W' (HSRS.out.on (HBv8.out.trans (hb.mono HBv8.out.size))))
              have HGOF := Lib.hid (fun W' (hb : Below W8.heap.size W8 W') => of_any As ns cs ac mss W' (HSRS.out.on (HBv8.out.trans (hb.mono HBv8.out.size))) HCB.out)
              rw [HLMS.out] at HROF HGOF
              have HASK := Lib.hid (asked_any ac 1 W15)
              rw [HAK.out] at HASK
              generalize ofZ ls ac = X at *
              generalize ofD ls ac = Y at *
              clear hgw
              have HYx := Lib.hid (fun W' (hb : Below W8.heap.size W8 W') => (HY8.out.on hb).four)
              have HSx := Lib.hid (fun W' (hb : Below W8.heap.size W8 W') => (HXS.out.on (HBv8.out.trans (hb.mono HBv8.out.size))).one)
              go_cut [103] from 98 to 103 (fun s103 wx => (∃ B : Bool, s103 = .bool B ∧ (B = true → OS = true ∧ 1 ≤ ac ∧ ac ≤ 3) ∧ (B = false → ¬ (OS = true ∧ 1 ≤ ac ∧ ac ≤ 3))) ∧ wx = W15)
              case first =>
                obtain ⟨a0, a1, a2, a3⟩ := HYx.out _ HB15.out
                cases OS with
                | true =>
                  by_cases hq : 1 ≤ ac ∧ ac ≤ 3
                  · rw [decide_eq_true hq] at HASK
                    have HQ := Lib.hid hq
                    clear hq
                    go_wp2_with fail
                    refine HASK.out.mono ?_
                    rintro y w16 ⟨rfl, rfl⟩
                    go_wp2_with fail
                    go_meet
                    exact ⟨⟨true, rfl, fun _ => ⟨by first | rfl | trivial, HQ.out⟩, fun h => by cases h⟩, by first | rfl | trivial⟩
                  · rw [decide_eq_false hq] at HASK
                    have HQ := Lib.hid hq
                    clear hq
                    go_wp2_with fail
                    refine HASK.out.mono ?_
                    rintro y w16 ⟨rfl, rfl⟩
                    go_wp2_with fail
                    go_meet
                    exact ⟨⟨false, rfl, fun h => (by cases h), fun _ hh => HQ.out hh.2⟩, by first | rfl | trivial⟩
                | false =>
                  go_wp2_with fail
                  go_meet
                  exact ⟨⟨false, rfl, fun h => (by cases h), fun _ hh => absurd hh.1 (by simp)⟩, by first | rfl | trivial⟩
              case rest =>
                obtain ⟨⟨B, rfl, hB1, hB2⟩, rfl⟩ := hcut
                have HBT := Lib.hid hB1; have HBF := Lib.hid hB2
                clear hB1 hB2
                obtain ⟨xc, xq, ⟨xe, xn⟩⟩ := X
                go_upto_if 103 with fail
                go_cut [] from 104 to 107 (fun wx => (∃ Ax nx cx, SBox wx gw 42 #[.int .i64 xc, .int .u64 xq, .int .i64 xe, .slice Ax nx cx] ∧ NR wx (.slice Ax nx cx) xn) ∧ Below W8.heap.size W8 wx)
                case first =>
                  cases B with
                  | true =>
                    have hxy := HXO.out (HBT.out (by first | rfl | trivial))
                    subst hxy
                    obtain ⟨a0, a1, a2, a3⟩ := HYx.out _ HB15.out
                    have s0 := HSx.out _ HB15.out
                    have HRO15 := Lib.hid (HROF.out _ HB15.out)
                    go_wp2_with fail
                    refine HRO15.out.mono ?_
                    rintro y w17 ⟨⟨u17, rfl, hu17⟩, hb17⟩
                    obtain ⟨Ax, cx, rfl, hr17⟩ := whose HSRS.out hu17
                    unfold sesV
                    simp only at hr17 ⊢
                    have HR17 : Hid (NumR wv .u32 Ax xn.length cx xn) := Lib.hid hr17; have HB17' := Lib.hid hb17
                    have hx17 := HX15.out.on hb17
                    have HX17 := Lib.hid hx17
                    have hf0 := hx17.frozen 0; have hf1 := hx17.frozen 1; have hf2 := hx17.frozen 2; have hf3 := hx17.frozen 3
                    obtain ⟨z0, z1, z2, z3⟩ := hx17.four
                    clear hr17 hb17 hx17 hu17 a0 a1 a2 a3 s0
                    go_wp2_with fail
                    go_meet
                    have hbf := below_set4 (HB15.out.trans (HB17'.out.mono HB15.out.size)) HGW.out (.int .i64 xc) (.int .u64 xq) (.int .i64 xe) (.slice Ax xn.length cx)
                    exact ⟨⟨Ax, xn.length, cx, HX17.out.set4 _ _ _ _, ⟨Ax, cx, rfl, HR17.out.on (HBv8.out.trans (hbf.mono HBv8.out.size))⟩⟩, hbf⟩
                  | false =>
                    have hxz := HXZ.out (HBF.out (by first | rfl | trivial))
                    injection hxz with h1 h2 h3
                    injection h3 with h3 h4
                    subst h1; subst h2; subst h3; subst h4
                    go_wp2_with fail
                    go_meet
                    exact ⟨⟨none, 0, 0, HX15.out, .nil _⟩, HB15.out⟩
                case rest =>
                  obtain ⟨⟨Ax, nx, cx, hxw, hnx⟩, hb18⟩ := hcut
                  generalize wc = wn at *
                  have HXW := Lib.hid hxw; have HNX := Lib.hid hnx; have HB18 := Lib.hid hb18
                  clear hxw hnx hb18
                  obtain ⟨a0, a1, a2, a3⟩ := HYx.out _ HB18.out
                  have s0 := HSx.out _ HB18.out
                  have HG18 := Lib.hid (HGOF.out _ HB18.out)
                  go_wp2_with fail
                  refine HG18.out.mono ?_
                  rintro y w19 ⟨⟨Ag, cg, rfl, hg19⟩, hb19⟩
                  have HU19 := Lib.hid hg19; have HB19 := Lib.hid hb19
                  have HZ18 := Lib.hid HB18.out.size
                  clear hg19 hb19 a0 a1 a2 a3 s0
                  unfold sesV
                  simp only at HU19 ⊢
                  generalize hlg : xn.length = lg at *
                  have HXG := Lib.hid (SBox.new w19 42 #[.int .i64 xc, .int .u64 xq, .int .i64 xe, .slice Ag lg cg])
                  have HA19 := Lib.hid (new_below w19 (.cells #[.int .i64 xc, .int .u64 xq, .int .i64 xe, .slice Ag lg cg] 42))
                  have HUG : Hid (OwnN (w19.alloc (.cells #[.int .i64 xc, .int .u64 xq, .int .i64 xe, .slice Ag lg cg] 42)) wn.heap.size (.slice Ag lg cg) xn) := Lib.hid (OwnN.on HU19.out HA19.out)
                  go_upto_region 20 with fail
                  obtain ⟨W20, hW20⟩ : ∃ W20 : World, W20 = w19.alloc (.cells #[.int .i64 xc, .int .u64 xq, .int .i64 xe, .slice Ag lg cg] 42) := ⟨_, rfl⟩
                  rw [← hW20] at HXG HA19 HUG ⊢
                  clear hW20
                  have HBn := Lib.hid (HB19.out.trans (HA19.out.mono HB19.out.size))
                  have HSG := Lib.hid (rsamer_any xe xe (.slice Ag lg cg) (.slice Ax nx cx) xn xn W20 (OwnN.nr HUG.out) (HNX.out.on HBn.out))
                  rw [decide_eq_true rfl] at HSG
                  obtain ⟨z0, z1, z2, z3⟩ := HXG.out.four
                  obtain ⟨v0, v1, v2, v3⟩ := (HXW.out.on HBn.out).four
                  have hxx : (xc != xc) = false := by simp
                  have hqq : (xq != xq) = false := by simp
                  go_wp2_with fail
                  refine HSG.out.mono ?_
                  rintro y w21 ⟨rfl, hb21⟩
                  have HB21 := Lib.hid hb21
                  clear z0 z1 z2 z3 v0 v1 v2 v3 hb21
                  obtain ⟨z0, z1, z2, z3⟩ := (HXG.out.on HB21.out).four
                  have HSPG := Lib.hid (sp_one (a := xc) (b := xq) (e := xe) (OwnN.on HUG.out HB21.out) (Nat.le_trans HBn.out.size HB21.out.size))
                  have HSPL := Lib.hid (spoil_any wn.heap.size (w21.heap.size + 1) (some ⟨w21.heap.size, 0, none⟩) 1 1 [.slice Ag lg cg] _ HSPG.out rfl (by omega) (by simp) (by have := HBn.out.size; have := HB21.out.size; omega))
                  go_wp2_with fail
                  refine HSPL.out.mono ?_
                  rintro y w22 ⟨⟨yv, rfl⟩, hw22⟩
                  have HB22 : Hid (Below wn.heap.size wn w22) := Lib.hid ((HBn.out.trans (HB21.out.mono HBn.out.size)).trans (((new_below w21 _).mono (Nat.le_trans HBn.out.size HB21.out.size)).trans hw22.1))
                  clear hw22 z0 z1 z2 z3
                  have HBm := Lib.hid (HB18.out.trans (HB22.out.mono HB18.out.size))
                  have HBv22 := Lib.hid (HBv8.out.trans (HBm.out.mono HBv8.out.size)); have HBl22 := Lib.hid (HBl8.out.trans (HBm.out.mono HBl8.out.size))
                  go_upto_region 23 with fail
                  have hBE := Below.refl w22.heap.size w22
                  have HCE := Lib.hid (fun (W' : World) (hW : Below w22.heap.size w22 W') => (⟨⟨((HXS.out.on HBv22.out).on hW).one, ((HXXv.out.on HBv22.out).on hW).one⟩⟩ : PLift (W'.cell? ⟨gs, 0, none⟩ = some (.slice As ns cs) ∧ W'.cell? ⟨w.heap.size, 0, none⟩ = some (.slice A n c))).down)
                  have HFE2 := Lib.hid (fun W' (hb : Below w22.heap.size w22 W') => HFE.out W' (HBv22.out.trans (hb.mono HBv22.out.size)))
                  have HSE2 := Lib.hid (fun W' (Ae : Option Addr) (ne ce : Nat) (mse : List SesM) (hb : Below w22.heap.size w22 W') (he : OwnS W' 0 (.slice Ae ne ce) mse) (hle : mse.map (·.1) = ls) => (by
                    have h1 := rsame_any As Ae ns ne cs ce mss mse W' (HSRS.out.on (HBv22.out.trans (hb.mono HBv22.out.size))) (fewIs_sr he).1
                    rwa [HLMS.out, hle, decide_eq_true rfl] at h1 : Calls Try.prog 12 #[.agg #[.slice As ns cs], .agg #[.slice Ae ne ce]] W' fun e w' => e = .returned (.bool true) ∧ Below W'.heap.size W' w'))
                  go_region_held3 (fun W' => W'.cell? ⟨gs, 0, none⟩ = some (.slice As ns cs) ∧ W'.cell? ⟨w.heap.size, 0, none⟩ = some (.slice A n c)) (with_reducible first | exact HCE.out _ hBE | exact HCE.out _ hBE.drew) (first
                    | (go_at_call 8; (with_reducible first | refine (HFE2.out _ hBE).mono ?_ | refine (HFE2.out _ hBE.drew).mono ?_); rintro y we ⟨⟨Ae, ce, mse, rfl, hoe, hle⟩, hwe⟩; replace hBE : Below w22.heap.size w22 we := Below.trans (by first | exact hBE | exact hBE.drew) (hwe.mono (by first | exact hBE.size | exact hBE.drew.size)); replace hoe := hoe.mono (Nat.zero_le _); generalize hlene : mse.length = ne at *)
                    | (go_at_call 12; (with_reducible refine (HSE2.out _ _ _ _ _ hBE hoe hle).mono ?_); rintro y we ⟨rfl, hwe⟩; replace hBE : Below w22.heap.size w22 we := hBE.trans (hwe.mono hBE.size)))
                  have HBE2 := Lib.hid hBE
                  clear hBE
                  go_wp2_with fail
                  go_roundw
                  case rel => exact ⟨k + 1, by omega, by go_num, HBl22.out.trans (HBE2.out.mono HBl22.out.size)⟩
                  case measure => simp [intOf]; omega
        · go_wp2_with fail
          go_ret
          exact ⟨rfl, HBr.out⟩
end Go.Proofs.Ytgnfoncokjglbaa
