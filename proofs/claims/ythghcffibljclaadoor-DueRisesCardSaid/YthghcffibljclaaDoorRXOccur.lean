/- Occur: walked. -/
import Derived.Test.YthghcffibljclaaDoorRXOcc
namespace Go.Proofs.YthghcffibljclaaDoor
open Go.RowKit

theorem occ_of {ev : List (BitVec 64) → Bool} {r : RowZ} {now nx : Int} {B : Nat} {y : Value} {l : List Int} {w : World} (h : r.Right ev) (ht : D.timeB now = true) (hn : ¬ (r.nx = -1 ∨ now < r.nx)) (h1 : NextZ r.j.T now nx) (h2 : OfferZ r.j.T r.j.ca r.nx now l) (ho : OwnT w B y l) : OccIs ev r now B (.returned (.tuple #[y, .int .i64 nx])) w :=
  ⟨y, l, nx, rfl, ho, .inl ⟨h, ht, .inr ⟨fun e => hn (.inl e), by omega, h1, h2⟩⟩⟩
/-- What the closures tell is what is offered. -/
theorem offer_none {T : Int → Prop} {nx now : Int} {e : Ending} {w : World} {B : Nat} (hT : T nx) (hle : nx ≤ now) (h : TailIs T now (now - 59) B e w) : ∃ y l, e = .returned y ∧ OwnT w B y l ∧ OfferZ T 0 nx now l := by
  obtain ⟨t, ok, y, l, hl, rfl, ho, hc⟩ := h
  have hok : ok = true := by
    rcases hl with ⟨h, _⟩ | ⟨_, _, h⟩
    · exact h
    · have := h nx hT; omega
  subst hok
  refine ⟨y, l, rfl, ho, .inr ⟨by omega, t, hl, ?_⟩⟩
  rcases hc with ⟨_, h1, h2⟩ | ⟨h1, h2⟩
  · exact .inl ⟨.inr (by omega), h2⟩
  · refine .inr ⟨fun h => h1 ⟨rfl, ?_⟩, h2⟩
    rcases h with h | h
    · omega
    · omega
theorem offer_last {T : Int → Prop} {nx now : Int} {e : Ending} {w : World} {B : Nat} (hT : T nx) (hle : nx ≤ now) (h : TailIs T now nx B e w) : ∃ y l, e = .returned y ∧ OwnT w B y l ∧ OfferZ T 1 nx now l := by
  obtain ⟨t, ok, y, l, hl, rfl, ho, hc⟩ := h
  rcases hl with ⟨rfl, hm⟩ | ⟨_, _, h⟩
  · have := hm.2.2 nx hT hle
    refine ⟨y, l, rfl, ho, .inr ⟨by omega, t, .inl ⟨rfl, hm⟩, ?_⟩⟩
    rcases hc with ⟨_, h1, h2⟩ | ⟨h1, h2⟩
    · exact .inl ⟨.inl rfl, h2⟩
    · exact absurd ⟨rfl, this⟩ h1
  · have := h nx hT; omega
theorem offer_all {T : Int → Prop} {nx now : Int} {e : Ending} {w : World} {B : Nat} (h : FourIs T nx now B e w) : ∃ y l, e = .returned y ∧ OwnT w B y l ∧ OfferZ T 2 nx now l := by
  obtain ⟨y, l, rfl, ho, hc⟩ := h
  exact ⟨y, l, rfl, ho, .inl ⟨rfl, hc⟩⟩
theorem index_off (w : World) (fs : Array Value) (j : Nat) (v : Value) (hj : j < 3) (hv : fs[j]? = some v) : (Instr.index 87 (.agg fs) (.int .i64 (j : Int))).run Tryd.prog w = .ok v w := by
  simp [Instr.index, asIntOf, Sem.run_bind, run_underlying Tryd.underlying87, Tryd.sizeOf86, Tryd.isAgg86, Go.part, hv, Result.andThen, hj]
theorem row_ca {W : World} {g : Nat} {r : RowZ} {v : Value} (hf : r.Fit) (h : D.Box W g 33 (rowC r v).toArray) : W.cell? ⟨g, 9, none⟩ = some (.int .i64 r.j.ca) := by
  obtain ⟨⟨n, ob, L, t, ov, ca, re⟩, pa, nx, num, due, tr, q⟩ := r
  obtain ⟨⟨_, _, hl5⟩, _⟩ := hf
  obtain ⟨a, b, c, d, e, rfl⟩ := list_five hl5
  exact D.Box.cell h 9
theorem catch_three {ev : List (BitVec 64) → Bool} {r : RowZ} (h : r.Right ev) : r.j.ca = 0 ∨ r.j.ca = 1 ∨ r.j.ca = 2 := by
  have := (hold_iff.1 (err_ok h.job).1).2.2.2.1
  omega
set_option maxRecDepth 100000 in
set_option maxHeartbeats 4000000 in
theorem occur_any (ev : List (BitVec 64) → Bool) (hev : EvIs ev) (r : RowZ) (v : Value) (now : Int) (w : World) (hL : LaidC w) (hf : r.Fit) (hq : QR w v r.q) :
    Calls Tryd.prog 15 #[rowV r v, .int .i64 now] w fun e w' => OccIs ev r now w.heap.size e w' ∧ Below w.heap.size w w' := by
  have HRV : Hid (rowV r v = .agg (rowC r v).toArray) := Lib.hid rfl
  have hx0 := D.Box.new w 33 (rowC r v).toArray
  have hb0 := new_below w (.cells (rowC r v).toArray 33)
  obtain ⟨W0, hW0⟩ : ∃ W : World, W = w.alloc (.cells (rowC r v).toArray 33) := ⟨_, rfl⟩
  rw [← hW0] at hx0 hb0
  have HLR := Lib.hid (row_load hf hx0); have HX0 := Lib.hid hx0; have HB0 := Lib.hid hb0; have HF := Lib.hid hf
  have HCK := Lib.hid (checkrow_any ev hev r v W0 (hL.on hb0) hf (hq.on hb0))
  have HMY := Lib.hid (fun W => D.may_any now W)
  have HFI := Lib.hid (fun W (hb : Below W0.heap.size W0 W) => jfirst_any ev hev r.j now W ((hL.on hb0).on hb) hf.1)
  unfold TimeIs at HFI
  have HOF := Lib.hid (fun W => offers_any r v now W hf)
  have HLW := Lib.hid (fun W (hb : Below W0.heap.size W0 W) => (hL.on hb0).on hb)
  have HEV := Lib.hid hev
  have HBAD : Hid (¬ (r.Right ev ∧ D.timeB now = true) → ∀ w', OccIs ev r now w.heap.size (.returned (.tuple #[.slice none 0 0, .int .i64 (-1)])) w') := Lib.hid (fun h w' => ⟨_, [], _, rfl, OwnT.nil _ _, .inr ⟨h, rfl, rfl⟩⟩)
  have HNO : Hid (r.Right ev → D.timeB now = true → (r.nx = -1 ∨ now < r.nx) → ∀ w', OccIs ev r now w.heap.size (.returned (.tuple #[.slice none 0 0, .int .i64 r.nx])) w') := Lib.hid (fun h1 h2 h3 w' => ⟨_, [], _, rfl, OwnT.nil _ _, .inl ⟨h1, h2, .inl ⟨h3, rfl, rfl⟩⟩⟩)
  have HOC : Hid (r.Right ev → D.timeB now = true → ¬ (r.nx = -1 ∨ now < r.nx) → ∀ nx l y w', NextZ r.j.T now nx → OfferZ r.j.T r.j.ca r.nx now l → OwnT w' w.heap.size y l → OccIs ev r now w.heap.size (.returned (.tuple #[y, .int .i64 nx])) w') := Lib.hid (fun h1 h2 h3 nx l y w' h4 h5 h6 => occ_of h1 h2 h3 h4 h5 h6)
  rw [HRV.out]
  rw [HRV.out] at HLR HCK HOF
  generalize OccIs ev r now w.heap.size = OI at *
  clear hx0 hb0 hf hq hL hev
  go_enter Tryd.func15, Tryd.ntmps15
  go_upto_region 1 with fail
  rw [← hW0]
  clear hW0
  go_wp2_with (refine list_load rfl _ rfl rfl HLR.out ?_)
  refine HCK.out.mono ?_
  rintro e w1 ⟨hck, hb⟩
  have HB1 := Lib.hid hb
  clear hb HCK
  rcases hck with ⟨hp, rfl⟩ | ⟨hp, rfl⟩
  case inr =>
    have HR := Lib.hid (HBAD.out (fun h => hp h.1))
    have HBB := Lib.hid (HB0.out.trans (HB1.out.mono HB0.out.size))
    clear hp HBAD HNO HLR HOC
    go_wp2_with fail
    exact bodyPost_ret (v := .tuple #[.slice none 0 0, .int .i64 (-1)]) (by simp [results, Tryd.results15, go_sem]) rfl ⟨HR.out _, HBB.out⟩
  have HP := Lib.hid hp
  clear hp
  go_wp2_with fail
  refine (HMY.out _).mono ?_
  rintro e w2 ⟨rfl, rfl⟩
  clear HMY
  cases htb : D.timeB now with
  | false =>
    have HR := Lib.hid (HBAD.out (fun h => by rw [htb] at h; cases h.2))
    have HBB := Lib.hid (HB0.out.trans (HB1.out.mono HB0.out.size))
    clear HBAD HNO HLR HOC htb
    go_wp2_with fail
    exact bodyPost_ret (v := .tuple #[.slice none 0 0, .int .i64 (-1)]) (by simp [results, Tryd.results15, go_sem]) rfl ⟨HR.out _, HBB.out⟩
  | true =>
  have HTB := Lib.hid htb
  have c12 := (cellsF_of HF.out (row_range (D.Box.belowAll HX0.out HB1.out))).nx
  rw [Nat.zero_add] at c12
  clear HBAD htb
  by_cases hn : r.nx = -1 ∨ now < r.nx
  · have HR := Lib.hid (HNO.out HP.out HTB.out hn)
    have HBB := Lib.hid (HB0.out.trans (HB1.out.mono HB0.out.size))
    clear HNO HLR HOC
    by_cases h1 : r.nx = -1
    · have q1 : (r.nx == -1) = true := by simpa using h1
      clear hn
      clear h1
      go_wp2_with fail
      go_quiet (fail)
      go_wp2_with fail
      exact bodyPost_ret (v := .tuple #[.slice none 0 0, .int .i64 r.nx]) (by simp [results, Tryd.results15, go_sem]) rfl ⟨HR.out _, bdrewN HBB.out _⟩
    · have q1 : (r.nx == -1) = false := by simpa using h1
      have q2 : decide (now < r.nx) = true := decide_eq_true (by omega)
      clear hn
      clear h1
      go_wp2_with fail
      go_quiet (fail)
      go_wp2_with fail
      exact bodyPost_ret (v := .tuple #[.slice none 0 0, .int .i64 r.nx]) (by simp [results, Tryd.results15, go_sem]) rfl ⟨HR.out _, bdrewN HBB.out _⟩
  · have q1 : (r.nx == -1) = false := by simp; omega
    have q2 : decide (now < r.nx) = false := decide_eq_false (by omega)
    have HLJ := Lib.hid (row_job HF.out (D.Box.belowAll HX0.out HB1.out))
    have HN := Lib.hid hn
    clear hn HNO
    go_wp2_with (refine list_load rfl _ rfl rfl HLJ.out ?_)
    refine (HFI.out _ HB1.out).mono ?_
    rintro e w3 ⟨⟨t, ok, rfl, hft⟩, hb⟩
    have HB3 := Lib.hid (HB1.out.trans (hb.mono HB1.out.size))
    have HFT := Lib.hid hft
    clear hb hft HFI HLJ c12
    have hx3 := D.Box.belowAll HX0.out HB3.out
    have HLR3 := Lib.hid (row_load HF.out hx3)
    rw [HRV.out] at HLR3
    have hca := row_ca HF.out hx3
    have HNX : Hid (∃ nx, NextZ r.j.T now nx ∧ nx = if ok = true then t else -1) := Lib.hid (by
      rw [TT_ok HP.out.job] at HFT
      cases ok with
      | true => exact ⟨t, .inl HFT.out, by simp⟩
      | false => exact ⟨-1, .inr ⟨t, HFT.out, rfl⟩, by simp⟩)
    obtain ⟨nx, hnx, hnx2⟩ := HNX.out
    have HNZ := Lib.hid hnx; have HN2 := Lib.hid hnx2
    have h0n := ((D.timeB_iff now).1 HTB.out)
    have HTR := Lib.hid (right_range HP.out (fun e => HN.out (.inl e)))
    have HLE : Hid (r.nx ≤ now) := Lib.hid (by have := HN.out; omega)
    have HFIN := Lib.hid (fun l y w' h ho => HOC.out HP.out HTB.out HN.out nx l y w' HNZ.out h ho)
    clear hnx hnx2 HNX HFT HX0
    have hca3 := catch_three HP.out
    have HTJ : Hid (r.j.T r.nx) := Lib.hid HTR.out.1
    obtain ⟨dr, hdr1, hdr2⟩ := und_row
    have hdr3 : (Tryd.prog.info? 33).map (·.size) = some (rowC r v).length := by rw [size_row, rowC_len HF.out]
    have HK : Hid (∀ w', Below w3.heap.size w3 w' → w'.rangeAt w.heap.size 0 (rowC r v) ∧ w'.cell? ⟨w.heap.size, 9, none⟩ = some (.int .i64 r.j.ca)) := Lib.hid (fun w' hb => ⟨row_range (D.Box.belowAll hx3 hb), row_ca HF.out (D.Box.belowAll hx3 hb)⟩)
    have hBE := Below.refl w3.heap.size w3
    clear hx3
    cases ok with
    | true =>
      obtain rfl : nx = t := by simpa using HN2.out
      go_wp2_with fail
      rcases hca3 with hca2 | hca2 | hca2
      · have hca := hca
        rw [hca2] at hca HK
        refine wp_region_held_drew (S := (fun w' => w'.rangeAt w.heap.size 0 (rowC r v) ∧ w'.cell? ⟨w.heap.size, 9, none⟩ = some (.int .i64 0))) (by kernel_rfl) (HK.out _ hBE.drew) (fun hHeld => ?_)
        replace hBE := hBE.drew
        refine wpAnyH_take (i := 0) (oi := { dst := some 34, op := Op.load 33 (Operand.tmp 2), type := 33, pos := "due.go:30", after := #[], guard := none }) (v := .agg (rowC r v).toArray) rfl (by kernel_rfl) (by kernel_rfl) (by kernel_rfl) (fun _ _ _ h => h) (yieldsIf_load_mid (by rfl) _ _ rfl _ _ rfl (rowC r v) dr (fun _ hw => hw.1) hdr1 hdr2 hdr3) (by assumption) ?_
        try simp only [Act.put, List.setIfInBounds_toArray, List.set_cons_zero, List.set_cons_succ]
        refine wpAnyH_take (i := 1) (oi := { dst := some 35, op := Op.move (Operand.tmp 1), type := 2, pos := "due.go:30", after := #[], guard := none }) (v := ?zvba1) rfl (by kernel_rfl) (by kernel_rfl) (by kernel_rfl) (fun _ _ _ h => h) (Or.inl ⟨by rfl, ?zhba1⟩) (by assumption) ?zrba1
        case zhba1 => (intro w hSw; (try dsimp only at hSw); go_simp; (try with_reducible rfl))
        try simp only [Act.put, List.setIfInBounds_toArray, List.set_cons_zero, List.set_cons_succ]
        refine wpAnyH_take (i := 3) (oi := { dst := some 37, op := Op.fieldAddr 33 (Operand.tmp 2) 0, type := 0, pos := "due.go:30", after := #[], guard := none }) (v := ?zvba2) rfl (by kernel_rfl) (by kernel_rfl) (by kernel_rfl) (fun _ _ _ h => h) (Or.inl ⟨by rfl, ?zhba2⟩) (by assumption) ?zrba2
        case zhba2 => (intro w hSw; (try dsimp only at hSw); go_simp; (try with_reducible rfl))
        try simp only [Act.put, List.setIfInBounds_toArray, List.set_cons_zero, List.set_cons_succ]
        refine wpAnyH_take (i := 4) (oi := { dst := some 38, op := Op.fieldAddr 28 (Operand.tmp 37) 5, type := 0, pos := "due.go:30", after := #[{ on := 3, ground := Ground.data }], guard := none }) (v := ?zvba3) rfl (by kernel_rfl) (by kernel_rfl) (by kernel_rfl) (fun _ _ _ h => h) (Or.inl ⟨by rfl, ?zhba3⟩) (by assumption) ?zrba3
        case zhba3 => (intro w hSw; (try dsimp only at hSw); go_simp; (try with_reducible rfl))
        try simp only [Act.put, List.setIfInBounds_toArray, List.set_cons_zero, List.set_cons_succ]
        refine wpAnyH_take (i := 5) (oi := { dst := some 39, op := Op.load 3 (Operand.tmp 38), type := 3, pos := "due.go:30", after := #[{ on := 4, ground := Ground.data }], guard := none }) (v := ?zvba4) rfl (by kernel_rfl) (by kernel_rfl) (by kernel_rfl) (fun _ _ _ h => h) (Or.inl ⟨by rfl, ?zhba4⟩) (by assumption) ?zrba4
        case zhba4 => (intro w hSw; (try dsimp only at hSw); go_simp; (try with_reducible rfl))
        try simp only [Act.put, List.setIfInBounds_toArray, List.set_cons_zero, List.set_cons_succ]
        refine wpAnyH_take (i := 8) (oi := { dst := some 42, op := Op.move (Operand.tmp 6), type := 2, pos := "due.go:30", after := #[{ on := 9, ground := Ground.gcOnly Departure.lateStores }], guard := none }) (v := ?zvba5) rfl (by kernel_rfl) (by kernel_rfl) (by kernel_rfl) (fun _ _ _ h => h) (Or.inl ⟨by rfl, ?zhba5⟩) (by assumption) ?zrba5
        case zhba5 => (intro w hSw; (try dsimp only at hSw); go_simp; (try with_reducible rfl))
        try simp only [Act.put, List.setIfInBounds_toArray, List.set_cons_zero, List.set_cons_succ]
        refine wpAnyH_ready (rs := [2]) (by kernel_rfl) (by simp) (AllReadyH.cons (o := { dst := some 36, op := Op.call { callee := Callee.value (Operand.func 31), args := #[Operand.tmp 34, Operand.tmp 35], argTypes := #[33, 2] }, type := 87, pos := "due.go:30", after := #[{ on := 0, ground := Ground.data }, { on := 1, ground := Ground.data }], guard := none }) rfl (fun K hK => ?_) (AllReadyH.nil))
        go_simp
        refine (HOF.out _).mono ?_
        rintro e w4 ⟨⟨gr, gn, gl, rfl, hclo⟩, hb⟩
        replace hBE := hBE.trans (hb.mono hBE.size)
        have HCLO := Lib.hid hclo
        clear hb hclo
        unfold clo
        have hix := fun W => index_off W #[.func (.func 46) #[] #[.pointer (some ⟨gl, 0, none⟩), .pointer (some ⟨gn, 0, none⟩)], .func (.func 47) #[] #[.pointer (some ⟨gl, 0, none⟩), .pointer (some ⟨gr, 0, none⟩)], .func (.func 48) #[] #[.pointer (some ⟨gr, 0, none⟩), .pointer (some ⟨gn, 0, none⟩)]] 0 _ (by decide) rfl
        rw [show ((0 : Nat) : Int) = 0 by rfl] at hix
        have hBS4 : w.heap.size ≤ w4.heap.size := by have h1 := HB0.out.size; have h2 := HB3.out.size; have h3 := hBE.size; omega
        refine hK.out _ _ (HK.out _ hBE) (fun hHeld2 => ?_)
        clear hK K hHeld
        have hHeld := hHeld2
        clear hHeld2
        try simp only [Act.put, List.setIfInBounds_toArray, List.set_cons_zero, List.set_cons_succ]
        refine wpAnyH_take (i := 6) (oi := { dst := some 40, op := Op.index 87 (Operand.tmp 36) (Operand.tmp 39), type := 86, pos := "due.go:30", after := #[{ on := 2, ground := Ground.data }, { on := 5, ground := Ground.data }], guard := none }) (v := ?zvba6) rfl (by kernel_rfl) (by kernel_rfl) (by kernel_rfl) (fun _ _ _ h => h) (Or.inl ⟨by rfl, ?zhba6⟩) (by assumption) ?zrba6
        case zhba6 => (intro w hSw; (try dsimp only at hSw); go_simp; (try with_reducible rfl))
        try simp only [Act.put, List.setIfInBounds_toArray, List.set_cons_zero, List.set_cons_succ]
        refine wpAnyH_ready (rs := [7]) (by kernel_rfl) (by simp) (AllReadyH.cons (o := { dst := some 41, op := Op.call { callee := Callee.value (Operand.tmp 40), args := #[], argTypes := #[] }, type := 31, pos := "due.go:30", after := #[{ on := 6, ground := Ground.data }, { on := 2, ground := Ground.chain }], guard := none }) rfl (fun K hK => ?_) (AllReadyH.nil))
        go_simp
        refine (offers2_any ev HEV.out r v gl gr gn now w4 (HLW.out _ (HB3.out.trans (hBE.mono HB3.out.size))) HCLO.out.row HCLO.out.now HCLO.out.last h0n).mono ?_
        rintro e w5 ⟨hx, hb⟩
        rw [TT_ok HP.out.job] at hx
        obtain ⟨y, l, rfl, ho, hof⟩ := offer_none HTJ.out HLE.out hx
        replace hBE := hBE.trans (hb.mono hBE.size)
        have HO5 := Lib.hid ho; have HOFF := Lib.hid hof; have HSZ := Lib.hid hb.size; have HSW : Hid (w.heap.size ≤ w4.heap.size) := Lib.hid hBS4
        clear hb hx ho hof
        refine hK.out _ _ (HK.out _ hBE) (fun hHeld2 => ?_)
        clear hK K hHeld
        have hHeld := hHeld2
        clear hHeld2
        try simp only [Act.put, List.setIfInBounds_toArray, List.set_cons_zero, List.set_cons_succ]
        refine wpAnyH_take (i := 9) (oi := { dst := some 4, op := Op.assign (Operand.tmp 41), type := 31, pos := "due.go:30", after := #[{ on := 7, ground := Ground.data }, { on := 7, ground := Ground.chain }, { on := 0, ground := Ground.phase }, { on := 1, ground := Ground.phase }, { on := 2, ground := Ground.phase }, { on := 3, ground := Ground.phase }, { on := 4, ground := Ground.phase }, { on := 5, ground := Ground.phase }, { on := 6, ground := Ground.phase }, { on := 7, ground := Ground.phase }, { on := 8, ground := Ground.textOnly Departure.lateStores }], guard := none }) (v := ?zvba7) rfl (by kernel_rfl) (by kernel_rfl) (by kernel_rfl) (fun _ _ _ h => h) (Or.inl ⟨by rfl, ?zhba7⟩) (by assumption) ?zrba7
        case zhba7 => (intro w hSw; (try dsimp only at hSw); go_simp; (try with_reducible rfl))
        try simp only [Act.put, List.setIfInBounds_toArray, List.set_cons_zero, List.set_cons_succ]
        refine wpAnyH_take (i := 10) (oi := { dst := some 5, op := Op.assign (Operand.tmp 42), type := 2, pos := "due.go:30", after := #[{ on := 8, ground := Ground.data }, { on := 9, ground := Ground.chain }, { on := 0, ground := Ground.phase }, { on := 1, ground := Ground.phase }, { on := 2, ground := Ground.phase }, { on := 3, ground := Ground.phase }, { on := 4, ground := Ground.phase }, { on := 5, ground := Ground.phase }, { on := 6, ground := Ground.phase }, { on := 7, ground := Ground.phase }, { on := 8, ground := Ground.phase }, { on := 9, ground := Ground.phase }], guard := none }) (v := ?zvba8) rfl (by kernel_rfl) (by kernel_rfl) (by kernel_rfl) (fun _ _ _ h => h) (Or.inl ⟨by rfl, ?zhba8⟩) (by assumption) ?zrba8
        case zhba8 => (intro w hSw; (try dsimp only at hSw); go_simp; (try with_reducible rfl))
        try simp only [Act.put, List.setIfInBounds_toArray, List.set_cons_zero, List.set_cons_succ]
        refine wpAnyH_done (by kernel_rfl) ?_ _
        clear hHeld
        go_wp2_with fail
        exact bodyPost_ret (v := .tuple #[y, .int .i64 nx]) (by simp [results, Tryd.results15, go_sem]) rfl ⟨HFIN.out l y w5 (by rw [hca2]; exact HOFF.out) (OwnT.low HO5.out HSW.out), HB0.out.trans ((HB3.out.trans (hBE.mono HB3.out.size)).mono HB0.out.size)⟩
      · have hca := hca
        rw [hca2] at hca HK
        refine wp_region_held_drew (S := (fun w' => w'.rangeAt w.heap.size 0 (rowC r v) ∧ w'.cell? ⟨w.heap.size, 9, none⟩ = some (.int .i64 1))) (by kernel_rfl) (HK.out _ hBE.drew) (fun hHeld => ?_)
        replace hBE := hBE.drew
        refine wpAnyH_take (i := 0) (oi := { dst := some 34, op := Op.load 33 (Operand.tmp 2), type := 33, pos := "due.go:30", after := #[], guard := none }) (v := .agg (rowC r v).toArray) rfl (by kernel_rfl) (by kernel_rfl) (by kernel_rfl) (fun _ _ _ h => h) (yieldsIf_load_mid (by rfl) _ _ rfl _ _ rfl (rowC r v) dr (fun _ hw => hw.1) hdr1 hdr2 hdr3) (by assumption) ?_
        try simp only [Act.put, List.setIfInBounds_toArray, List.set_cons_zero, List.set_cons_succ]
        refine wpAnyH_take (i := 1) (oi := { dst := some 35, op := Op.move (Operand.tmp 1), type := 2, pos := "due.go:30", after := #[], guard := none }) (v := ?zvca1) rfl (by kernel_rfl) (by kernel_rfl) (by kernel_rfl) (fun _ _ _ h => h) (Or.inl ⟨by rfl, ?zhca1⟩) (by assumption) ?zrca1
        case zhca1 => (intro w hSw; (try dsimp only at hSw); go_simp; (try with_reducible rfl))
        try simp only [Act.put, List.setIfInBounds_toArray, List.set_cons_zero, List.set_cons_succ]
        refine wpAnyH_take (i := 3) (oi := { dst := some 37, op := Op.fieldAddr 33 (Operand.tmp 2) 0, type := 0, pos := "due.go:30", after := #[], guard := none }) (v := ?zvca2) rfl (by kernel_rfl) (by kernel_rfl) (by kernel_rfl) (fun _ _ _ h => h) (Or.inl ⟨by rfl, ?zhca2⟩) (by assumption) ?zrca2
        case zhca2 => (intro w hSw; (try dsimp only at hSw); go_simp; (try with_reducible rfl))
        try simp only [Act.put, List.setIfInBounds_toArray, List.set_cons_zero, List.set_cons_succ]
        refine wpAnyH_take (i := 4) (oi := { dst := some 38, op := Op.fieldAddr 28 (Operand.tmp 37) 5, type := 0, pos := "due.go:30", after := #[{ on := 3, ground := Ground.data }], guard := none }) (v := ?zvca3) rfl (by kernel_rfl) (by kernel_rfl) (by kernel_rfl) (fun _ _ _ h => h) (Or.inl ⟨by rfl, ?zhca3⟩) (by assumption) ?zrca3
        case zhca3 => (intro w hSw; (try dsimp only at hSw); go_simp; (try with_reducible rfl))
        try simp only [Act.put, List.setIfInBounds_toArray, List.set_cons_zero, List.set_cons_succ]
        refine wpAnyH_take (i := 5) (oi := { dst := some 39, op := Op.load 3 (Operand.tmp 38), type := 3, pos := "due.go:30", after := #[{ on := 4, ground := Ground.data }], guard := none }) (v := ?zvca4) rfl (by kernel_rfl) (by kernel_rfl) (by kernel_rfl) (fun _ _ _ h => h) (Or.inl ⟨by rfl, ?zhca4⟩) (by assumption) ?zrca4
        case zhca4 => (intro w hSw; (try dsimp only at hSw); go_simp; (try with_reducible rfl))
        try simp only [Act.put, List.setIfInBounds_toArray, List.set_cons_zero, List.set_cons_succ]
        refine wpAnyH_take (i := 8) (oi := { dst := some 42, op := Op.move (Operand.tmp 6), type := 2, pos := "due.go:30", after := #[{ on := 9, ground := Ground.gcOnly Departure.lateStores }], guard := none }) (v := ?zvca5) rfl (by kernel_rfl) (by kernel_rfl) (by kernel_rfl) (fun _ _ _ h => h) (Or.inl ⟨by rfl, ?zhca5⟩) (by assumption) ?zrca5
        case zhca5 => (intro w hSw; (try dsimp only at hSw); go_simp; (try with_reducible rfl))
        try simp only [Act.put, List.setIfInBounds_toArray, List.set_cons_zero, List.set_cons_succ]
        refine wpAnyH_ready (rs := [2]) (by kernel_rfl) (by simp) (AllReadyH.cons (o := { dst := some 36, op := Op.call { callee := Callee.value (Operand.func 31), args := #[Operand.tmp 34, Operand.tmp 35], argTypes := #[33, 2] }, type := 87, pos := "due.go:30", after := #[{ on := 0, ground := Ground.data }, { on := 1, ground := Ground.data }], guard := none }) rfl (fun K hK => ?_) (AllReadyH.nil))
        go_simp
        refine (HOF.out _).mono ?_
        rintro e w4 ⟨⟨gr, gn, gl, rfl, hclo⟩, hb⟩
        replace hBE := hBE.trans (hb.mono hBE.size)
        have HCLO := Lib.hid hclo
        clear hb hclo
        unfold clo
        have hix := fun W => index_off W #[.func (.func 46) #[] #[.pointer (some ⟨gl, 0, none⟩), .pointer (some ⟨gn, 0, none⟩)], .func (.func 47) #[] #[.pointer (some ⟨gl, 0, none⟩), .pointer (some ⟨gr, 0, none⟩)], .func (.func 48) #[] #[.pointer (some ⟨gr, 0, none⟩), .pointer (some ⟨gn, 0, none⟩)]] 1 _ (by decide) rfl
        rw [show ((1 : Nat) : Int) = 1 by rfl] at hix
        have hBS4 : w.heap.size ≤ w4.heap.size := by have h1 := HB0.out.size; have h2 := HB3.out.size; have h3 := hBE.size; omega
        refine hK.out _ _ (HK.out _ hBE) (fun hHeld2 => ?_)
        clear hK K hHeld
        have hHeld := hHeld2
        clear hHeld2
        try simp only [Act.put, List.setIfInBounds_toArray, List.set_cons_zero, List.set_cons_succ]
        refine wpAnyH_take (i := 6) (oi := { dst := some 40, op := Op.index 87 (Operand.tmp 36) (Operand.tmp 39), type := 86, pos := "due.go:30", after := #[{ on := 2, ground := Ground.data }, { on := 5, ground := Ground.data }], guard := none }) (v := ?zvca6) rfl (by kernel_rfl) (by kernel_rfl) (by kernel_rfl) (fun _ _ _ h => h) (Or.inl ⟨by rfl, ?zhca6⟩) (by assumption) ?zrca6
        case zhca6 => (intro w hSw; (try dsimp only at hSw); go_simp; (try with_reducible rfl))
        try simp only [Act.put, List.setIfInBounds_toArray, List.set_cons_zero, List.set_cons_succ]
        refine wpAnyH_ready (rs := [7]) (by kernel_rfl) (by simp) (AllReadyH.cons (o := { dst := some 41, op := Op.call { callee := Callee.value (Operand.tmp 40), args := #[], argTypes := #[] }, type := 31, pos := "due.go:30", after := #[{ on := 6, ground := Ground.data }, { on := 2, ground := Ground.chain }], guard := none }) rfl (fun K hK => ?_) (AllReadyH.nil))
        go_simp
        refine (offers3_any ev HEV.out r v gl gr gn now w4 (HLW.out _ (HB3.out.trans (hBE.mono HB3.out.size))) HCLO.out.row HCLO.out.now HCLO.out.last).mono ?_
        rintro e w5 ⟨hx, hb⟩
        rw [TT_ok HP.out.job] at hx
        obtain ⟨y, l, rfl, ho, hof⟩ := offer_last HTJ.out HLE.out hx
        replace hBE := hBE.trans (hb.mono hBE.size)
        have HO5 := Lib.hid ho; have HOFF := Lib.hid hof; have HSZ := Lib.hid hb.size; have HSW : Hid (w.heap.size ≤ w4.heap.size) := Lib.hid hBS4
        clear hb hx ho hof
        refine hK.out _ _ (HK.out _ hBE) (fun hHeld2 => ?_)
        clear hK K hHeld
        have hHeld := hHeld2
        clear hHeld2
        try simp only [Act.put, List.setIfInBounds_toArray, List.set_cons_zero, List.set_cons_succ]
        refine wpAnyH_take (i := 9) (oi := { dst := some 4, op := Op.assign (Operand.tmp 41), type := 31, pos := "due.go:30", after := #[{ on := 7, ground := Ground.data }, { on := 7, ground := Ground.chain }, { on := 0, ground := Ground.phase }, { on := 1, ground := Ground.phase }, { on := 2, ground := Ground.phase }, { on := 3, ground := Ground.phase }, { on := 4, ground := Ground.phase }, { on := 5, ground := Ground.phase }, { on := 6, ground := Ground.phase }, { on := 7, ground := Ground.phase }, { on := 8, ground := Ground.textOnly Departure.lateStores }], guard := none }) (v := ?zvca7) rfl (by kernel_rfl) (by kernel_rfl) (by kernel_rfl) (fun _ _ _ h => h) (Or.inl ⟨by rfl, ?zhca7⟩) (by assumption) ?zrca7
        case zhca7 => (intro w hSw; (try dsimp only at hSw); go_simp; (try with_reducible rfl))
        try simp only [Act.put, List.setIfInBounds_toArray, List.set_cons_zero, List.set_cons_succ]
        refine wpAnyH_take (i := 10) (oi := { dst := some 5, op := Op.assign (Operand.tmp 42), type := 2, pos := "due.go:30", after := #[{ on := 8, ground := Ground.data }, { on := 9, ground := Ground.chain }, { on := 0, ground := Ground.phase }, { on := 1, ground := Ground.phase }, { on := 2, ground := Ground.phase }, { on := 3, ground := Ground.phase }, { on := 4, ground := Ground.phase }, { on := 5, ground := Ground.phase }, { on := 6, ground := Ground.phase }, { on := 7, ground := Ground.phase }, { on := 8, ground := Ground.phase }, { on := 9, ground := Ground.phase }], guard := none }) (v := ?zvca8) rfl (by kernel_rfl) (by kernel_rfl) (by kernel_rfl) (fun _ _ _ h => h) (Or.inl ⟨by rfl, ?zhca8⟩) (by assumption) ?zrca8
        case zhca8 => (intro w hSw; (try dsimp only at hSw); go_simp; (try with_reducible rfl))
        try simp only [Act.put, List.setIfInBounds_toArray, List.set_cons_zero, List.set_cons_succ]
        refine wpAnyH_done (by kernel_rfl) ?_ _
        clear hHeld
        go_wp2_with fail
        exact bodyPost_ret (v := .tuple #[y, .int .i64 nx]) (by simp [results, Tryd.results15, go_sem]) rfl ⟨HFIN.out l y w5 (by rw [hca2]; exact HOFF.out) (OwnT.low HO5.out HSW.out), HB0.out.trans ((HB3.out.trans (hBE.mono HB3.out.size)).mono HB0.out.size)⟩
      · have hca := hca
        rw [hca2] at hca HK
        refine wp_region_held_drew (S := (fun w' => w'.rangeAt w.heap.size 0 (rowC r v) ∧ w'.cell? ⟨w.heap.size, 9, none⟩ = some (.int .i64 2))) (by kernel_rfl) (HK.out _ hBE.drew) (fun hHeld => ?_)
        replace hBE := hBE.drew
        refine wpAnyH_take (i := 0) (oi := { dst := some 34, op := Op.load 33 (Operand.tmp 2), type := 33, pos := "due.go:30", after := #[], guard := none }) (v := .agg (rowC r v).toArray) rfl (by kernel_rfl) (by kernel_rfl) (by kernel_rfl) (fun _ _ _ h => h) (yieldsIf_load_mid (by rfl) _ _ rfl _ _ rfl (rowC r v) dr (fun _ hw => hw.1) hdr1 hdr2 hdr3) (by assumption) ?_
        try simp only [Act.put, List.setIfInBounds_toArray, List.set_cons_zero, List.set_cons_succ]
        refine wpAnyH_take (i := 1) (oi := { dst := some 35, op := Op.move (Operand.tmp 1), type := 2, pos := "due.go:30", after := #[], guard := none }) (v := ?zvda1) rfl (by kernel_rfl) (by kernel_rfl) (by kernel_rfl) (fun _ _ _ h => h) (Or.inl ⟨by rfl, ?zhda1⟩) (by assumption) ?zrda1
        case zhda1 => (intro w hSw; (try dsimp only at hSw); go_simp; (try with_reducible rfl))
        try simp only [Act.put, List.setIfInBounds_toArray, List.set_cons_zero, List.set_cons_succ]
        refine wpAnyH_take (i := 3) (oi := { dst := some 37, op := Op.fieldAddr 33 (Operand.tmp 2) 0, type := 0, pos := "due.go:30", after := #[], guard := none }) (v := ?zvda2) rfl (by kernel_rfl) (by kernel_rfl) (by kernel_rfl) (fun _ _ _ h => h) (Or.inl ⟨by rfl, ?zhda2⟩) (by assumption) ?zrda2
        case zhda2 => (intro w hSw; (try dsimp only at hSw); go_simp; (try with_reducible rfl))
        try simp only [Act.put, List.setIfInBounds_toArray, List.set_cons_zero, List.set_cons_succ]
        refine wpAnyH_take (i := 4) (oi := { dst := some 38, op := Op.fieldAddr 28 (Operand.tmp 37) 5, type := 0, pos := "due.go:30", after := #[{ on := 3, ground := Ground.data }], guard := none }) (v := ?zvda3) rfl (by kernel_rfl) (by kernel_rfl) (by kernel_rfl) (fun _ _ _ h => h) (Or.inl ⟨by rfl, ?zhda3⟩) (by assumption) ?zrda3
        case zhda3 => (intro w hSw; (try dsimp only at hSw); go_simp; (try with_reducible rfl))
        try simp only [Act.put, List.setIfInBounds_toArray, List.set_cons_zero, List.set_cons_succ]
        refine wpAnyH_take (i := 5) (oi := { dst := some 39, op := Op.load 3 (Operand.tmp 38), type := 3, pos := "due.go:30", after := #[{ on := 4, ground := Ground.data }], guard := none }) (v := ?zvda4) rfl (by kernel_rfl) (by kernel_rfl) (by kernel_rfl) (fun _ _ _ h => h) (Or.inl ⟨by rfl, ?zhda4⟩) (by assumption) ?zrda4
        case zhda4 => (intro w hSw; (try dsimp only at hSw); go_simp; (try with_reducible rfl))
        try simp only [Act.put, List.setIfInBounds_toArray, List.set_cons_zero, List.set_cons_succ]
        refine wpAnyH_take (i := 8) (oi := { dst := some 42, op := Op.move (Operand.tmp 6), type := 2, pos := "due.go:30", after := #[{ on := 9, ground := Ground.gcOnly Departure.lateStores }], guard := none }) (v := ?zvda5) rfl (by kernel_rfl) (by kernel_rfl) (by kernel_rfl) (fun _ _ _ h => h) (Or.inl ⟨by rfl, ?zhda5⟩) (by assumption) ?zrda5
        case zhda5 => (intro w hSw; (try dsimp only at hSw); go_simp; (try with_reducible rfl))
        try simp only [Act.put, List.setIfInBounds_toArray, List.set_cons_zero, List.set_cons_succ]
        refine wpAnyH_ready (rs := [2]) (by kernel_rfl) (by simp) (AllReadyH.cons (o := { dst := some 36, op := Op.call { callee := Callee.value (Operand.func 31), args := #[Operand.tmp 34, Operand.tmp 35], argTypes := #[33, 2] }, type := 87, pos := "due.go:30", after := #[{ on := 0, ground := Ground.data }, { on := 1, ground := Ground.data }], guard := none }) rfl (fun K hK => ?_) (AllReadyH.nil))
        go_simp
        refine (HOF.out _).mono ?_
        rintro e w4 ⟨⟨gr, gn, gl, rfl, hclo⟩, hb⟩
        replace hBE := hBE.trans (hb.mono hBE.size)
        have HCLO := Lib.hid hclo
        clear hb hclo
        unfold clo
        have hix := fun W => index_off W #[.func (.func 46) #[] #[.pointer (some ⟨gl, 0, none⟩), .pointer (some ⟨gn, 0, none⟩)], .func (.func 47) #[] #[.pointer (some ⟨gl, 0, none⟩), .pointer (some ⟨gr, 0, none⟩)], .func (.func 48) #[] #[.pointer (some ⟨gr, 0, none⟩), .pointer (some ⟨gn, 0, none⟩)]] 2 _ (by decide) rfl
        rw [show ((2 : Nat) : Int) = 2 by rfl] at hix
        have hBS4 : w.heap.size ≤ w4.heap.size := by have h1 := HB0.out.size; have h2 := HB3.out.size; have h3 := hBE.size; omega
        refine hK.out _ _ (HK.out _ hBE) (fun hHeld2 => ?_)
        clear hK K hHeld
        have hHeld := hHeld2
        clear hHeld2
        try simp only [Act.put, List.setIfInBounds_toArray, List.set_cons_zero, List.set_cons_succ]
        refine wpAnyH_take (i := 6) (oi := { dst := some 40, op := Op.index 87 (Operand.tmp 36) (Operand.tmp 39), type := 86, pos := "due.go:30", after := #[{ on := 2, ground := Ground.data }, { on := 5, ground := Ground.data }], guard := none }) (v := ?zvda6) rfl (by kernel_rfl) (by kernel_rfl) (by kernel_rfl) (fun _ _ _ h => h) (Or.inl ⟨by rfl, ?zhda6⟩) (by assumption) ?zrda6
        case zhda6 => (intro w hSw; (try dsimp only at hSw); go_simp; (try with_reducible rfl))
        try simp only [Act.put, List.setIfInBounds_toArray, List.set_cons_zero, List.set_cons_succ]
        refine wpAnyH_ready (rs := [7]) (by kernel_rfl) (by simp) (AllReadyH.cons (o := { dst := some 41, op := Op.call { callee := Callee.value (Operand.tmp 40), args := #[], argTypes := #[] }, type := 31, pos := "due.go:30", after := #[{ on := 6, ground := Ground.data }, { on := 2, ground := Ground.chain }], guard := none }) rfl (fun K hK => ?_) (AllReadyH.nil))
        go_simp
        refine (offers4_any ev HEV.out r v gr gn now w4 (HLW.out _ (HB3.out.trans (hBE.mono HB3.out.size))) HCLO.out.row HCLO.out.now HTR.out.2 HP.out.job).mono ?_
        rintro e w5 ⟨hx, hb⟩
        obtain ⟨y, l, rfl, ho, hof⟩ := offer_all hx
        replace hBE := hBE.trans (hb.mono hBE.size)
        have HO5 := Lib.hid ho; have HOFF := Lib.hid hof; have HSZ := Lib.hid hb.size; have HSW : Hid (w.heap.size ≤ w4.heap.size) := Lib.hid hBS4
        clear hb hx ho hof
        refine hK.out _ _ (HK.out _ hBE) (fun hHeld2 => ?_)
        clear hK K hHeld
        have hHeld := hHeld2
        clear hHeld2
        try simp only [Act.put, List.setIfInBounds_toArray, List.set_cons_zero, List.set_cons_succ]
        refine wpAnyH_take (i := 9) (oi := { dst := some 4, op := Op.assign (Operand.tmp 41), type := 31, pos := "due.go:30", after := #[{ on := 7, ground := Ground.data }, { on := 7, ground := Ground.chain }, { on := 0, ground := Ground.phase }, { on := 1, ground := Ground.phase }, { on := 2, ground := Ground.phase }, { on := 3, ground := Ground.phase }, { on := 4, ground := Ground.phase }, { on := 5, ground := Ground.phase }, { on := 6, ground := Ground.phase }, { on := 7, ground := Ground.phase }, { on := 8, ground := Ground.textOnly Departure.lateStores }], guard := none }) (v := ?zvda7) rfl (by kernel_rfl) (by kernel_rfl) (by kernel_rfl) (fun _ _ _ h => h) (Or.inl ⟨by rfl, ?zhda7⟩) (by assumption) ?zrda7
        case zhda7 => (intro w hSw; (try dsimp only at hSw); go_simp; (try with_reducible rfl))
        try simp only [Act.put, List.setIfInBounds_toArray, List.set_cons_zero, List.set_cons_succ]
        refine wpAnyH_take (i := 10) (oi := { dst := some 5, op := Op.assign (Operand.tmp 42), type := 2, pos := "due.go:30", after := #[{ on := 8, ground := Ground.data }, { on := 9, ground := Ground.chain }, { on := 0, ground := Ground.phase }, { on := 1, ground := Ground.phase }, { on := 2, ground := Ground.phase }, { on := 3, ground := Ground.phase }, { on := 4, ground := Ground.phase }, { on := 5, ground := Ground.phase }, { on := 6, ground := Ground.phase }, { on := 7, ground := Ground.phase }, { on := 8, ground := Ground.phase }, { on := 9, ground := Ground.phase }], guard := none }) (v := ?zvda8) rfl (by kernel_rfl) (by kernel_rfl) (by kernel_rfl) (fun _ _ _ h => h) (Or.inl ⟨by rfl, ?zhda8⟩) (by assumption) ?zrda8
        case zhda8 => (intro w hSw; (try dsimp only at hSw); go_simp; (try with_reducible rfl))
        try simp only [Act.put, List.setIfInBounds_toArray, List.set_cons_zero, List.set_cons_succ]
        refine wpAnyH_done (by kernel_rfl) ?_ _
        clear hHeld
        go_wp2_with fail
        exact bodyPost_ret (v := .tuple #[y, .int .i64 nx]) (by simp [results, Tryd.results15, go_sem]) rfl ⟨HFIN.out l y w5 (by rw [hca2]; exact HOFF.out) (OwnT.low HO5.out HSW.out), HB0.out.trans ((HB3.out.trans (hBE.mono HB3.out.size)).mono HB0.out.size)⟩
    | false =>
      obtain rfl : nx = -1 := by simpa using HN2.out
      go_wp2_with fail
      rcases hca3 with hca2 | hca2 | hca2
      · have hca := hca
        rw [hca2] at hca HK
        refine wp_region_held_drew (S := (fun w' => w'.rangeAt w.heap.size 0 (rowC r v) ∧ w'.cell? ⟨w.heap.size, 9, none⟩ = some (.int .i64 0))) (by kernel_rfl) (HK.out _ hBE.drew) (fun hHeld => ?_)
        replace hBE := hBE.drew
        refine wpAnyH_take (i := 0) (oi := { dst := some 34, op := Op.load 33 (Operand.tmp 2), type := 33, pos := "due.go:30", after := #[], guard := none }) (v := .agg (rowC r v).toArray) rfl (by kernel_rfl) (by kernel_rfl) (by kernel_rfl) (fun _ _ _ h => h) (yieldsIf_load_mid (by rfl) _ _ rfl _ _ rfl (rowC r v) dr (fun _ hw => hw.1) hdr1 hdr2 hdr3) (by assumption) ?_
        try simp only [Act.put, List.setIfInBounds_toArray, List.set_cons_zero, List.set_cons_succ]
        refine wpAnyH_take (i := 1) (oi := { dst := some 35, op := Op.move (Operand.tmp 1), type := 2, pos := "due.go:30", after := #[], guard := none }) (v := ?zvea1) rfl (by kernel_rfl) (by kernel_rfl) (by kernel_rfl) (fun _ _ _ h => h) (Or.inl ⟨by rfl, ?zhea1⟩) (by assumption) ?zrea1
        case zhea1 => (intro w hSw; (try dsimp only at hSw); go_simp; (try with_reducible rfl))
        try simp only [Act.put, List.setIfInBounds_toArray, List.set_cons_zero, List.set_cons_succ]
        refine wpAnyH_take (i := 3) (oi := { dst := some 37, op := Op.fieldAddr 33 (Operand.tmp 2) 0, type := 0, pos := "due.go:30", after := #[], guard := none }) (v := ?zvea2) rfl (by kernel_rfl) (by kernel_rfl) (by kernel_rfl) (fun _ _ _ h => h) (Or.inl ⟨by rfl, ?zhea2⟩) (by assumption) ?zrea2
        case zhea2 => (intro w hSw; (try dsimp only at hSw); go_simp; (try with_reducible rfl))
        try simp only [Act.put, List.setIfInBounds_toArray, List.set_cons_zero, List.set_cons_succ]
        refine wpAnyH_take (i := 4) (oi := { dst := some 38, op := Op.fieldAddr 28 (Operand.tmp 37) 5, type := 0, pos := "due.go:30", after := #[{ on := 3, ground := Ground.data }], guard := none }) (v := ?zvea3) rfl (by kernel_rfl) (by kernel_rfl) (by kernel_rfl) (fun _ _ _ h => h) (Or.inl ⟨by rfl, ?zhea3⟩) (by assumption) ?zrea3
        case zhea3 => (intro w hSw; (try dsimp only at hSw); go_simp; (try with_reducible rfl))
        try simp only [Act.put, List.setIfInBounds_toArray, List.set_cons_zero, List.set_cons_succ]
        refine wpAnyH_take (i := 5) (oi := { dst := some 39, op := Op.load 3 (Operand.tmp 38), type := 3, pos := "due.go:30", after := #[{ on := 4, ground := Ground.data }], guard := none }) (v := ?zvea4) rfl (by kernel_rfl) (by kernel_rfl) (by kernel_rfl) (fun _ _ _ h => h) (Or.inl ⟨by rfl, ?zhea4⟩) (by assumption) ?zrea4
        case zhea4 => (intro w hSw; (try dsimp only at hSw); go_simp; (try with_reducible rfl))
        try simp only [Act.put, List.setIfInBounds_toArray, List.set_cons_zero, List.set_cons_succ]
        refine wpAnyH_take (i := 8) (oi := { dst := some 42, op := Op.move (Operand.tmp 6), type := 2, pos := "due.go:30", after := #[{ on := 9, ground := Ground.gcOnly Departure.lateStores }], guard := none }) (v := ?zvea5) rfl (by kernel_rfl) (by kernel_rfl) (by kernel_rfl) (fun _ _ _ h => h) (Or.inl ⟨by rfl, ?zhea5⟩) (by assumption) ?zrea5
        case zhea5 => (intro w hSw; (try dsimp only at hSw); go_simp; (try with_reducible rfl))
        try simp only [Act.put, List.setIfInBounds_toArray, List.set_cons_zero, List.set_cons_succ]
        refine wpAnyH_ready (rs := [2]) (by kernel_rfl) (by simp) (AllReadyH.cons (o := { dst := some 36, op := Op.call { callee := Callee.value (Operand.func 31), args := #[Operand.tmp 34, Operand.tmp 35], argTypes := #[33, 2] }, type := 87, pos := "due.go:30", after := #[{ on := 0, ground := Ground.data }, { on := 1, ground := Ground.data }], guard := none }) rfl (fun K hK => ?_) (AllReadyH.nil))
        go_simp
        refine (HOF.out _).mono ?_
        rintro e w4 ⟨⟨gr, gn, gl, rfl, hclo⟩, hb⟩
        replace hBE := hBE.trans (hb.mono hBE.size)
        have HCLO := Lib.hid hclo
        clear hb hclo
        unfold clo
        have hix := fun W => index_off W #[.func (.func 46) #[] #[.pointer (some ⟨gl, 0, none⟩), .pointer (some ⟨gn, 0, none⟩)], .func (.func 47) #[] #[.pointer (some ⟨gl, 0, none⟩), .pointer (some ⟨gr, 0, none⟩)], .func (.func 48) #[] #[.pointer (some ⟨gr, 0, none⟩), .pointer (some ⟨gn, 0, none⟩)]] 0 _ (by decide) rfl
        rw [show ((0 : Nat) : Int) = 0 by rfl] at hix
        have hBS4 : w.heap.size ≤ w4.heap.size := by have h1 := HB0.out.size; have h2 := HB3.out.size; have h3 := hBE.size; omega
        refine hK.out _ _ (HK.out _ hBE) (fun hHeld2 => ?_)
        clear hK K hHeld
        have hHeld := hHeld2
        clear hHeld2
        try simp only [Act.put, List.setIfInBounds_toArray, List.set_cons_zero, List.set_cons_succ]
        refine wpAnyH_take (i := 6) (oi := { dst := some 40, op := Op.index 87 (Operand.tmp 36) (Operand.tmp 39), type := 86, pos := "due.go:30", after := #[{ on := 2, ground := Ground.data }, { on := 5, ground := Ground.data }], guard := none }) (v := ?zvea6) rfl (by kernel_rfl) (by kernel_rfl) (by kernel_rfl) (fun _ _ _ h => h) (Or.inl ⟨by rfl, ?zhea6⟩) (by assumption) ?zrea6
        case zhea6 => (intro w hSw; (try dsimp only at hSw); go_simp; (try with_reducible rfl))
        try simp only [Act.put, List.setIfInBounds_toArray, List.set_cons_zero, List.set_cons_succ]
        refine wpAnyH_ready (rs := [7]) (by kernel_rfl) (by simp) (AllReadyH.cons (o := { dst := some 41, op := Op.call { callee := Callee.value (Operand.tmp 40), args := #[], argTypes := #[] }, type := 31, pos := "due.go:30", after := #[{ on := 6, ground := Ground.data }, { on := 2, ground := Ground.chain }], guard := none }) rfl (fun K hK => ?_) (AllReadyH.nil))
        go_simp
        refine (offers2_any ev HEV.out r v gl gr gn now w4 (HLW.out _ (HB3.out.trans (hBE.mono HB3.out.size))) HCLO.out.row HCLO.out.now HCLO.out.last h0n).mono ?_
        rintro e w5 ⟨hx, hb⟩
        rw [TT_ok HP.out.job] at hx
        obtain ⟨y, l, rfl, ho, hof⟩ := offer_none HTJ.out HLE.out hx
        replace hBE := hBE.trans (hb.mono hBE.size)
        have HO5 := Lib.hid ho; have HOFF := Lib.hid hof; have HSZ := Lib.hid hb.size; have HSW : Hid (w.heap.size ≤ w4.heap.size) := Lib.hid hBS4
        clear hb hx ho hof
        refine hK.out _ _ (HK.out _ hBE) (fun hHeld2 => ?_)
        clear hK K hHeld
        have hHeld := hHeld2
        clear hHeld2
        try simp only [Act.put, List.setIfInBounds_toArray, List.set_cons_zero, List.set_cons_succ]
        refine wpAnyH_take (i := 9) (oi := { dst := some 4, op := Op.assign (Operand.tmp 41), type := 31, pos := "due.go:30", after := #[{ on := 7, ground := Ground.data }, { on := 7, ground := Ground.chain }, { on := 0, ground := Ground.phase }, { on := 1, ground := Ground.phase }, { on := 2, ground := Ground.phase }, { on := 3, ground := Ground.phase }, { on := 4, ground := Ground.phase }, { on := 5, ground := Ground.phase }, { on := 6, ground := Ground.phase }, { on := 7, ground := Ground.phase }, { on := 8, ground := Ground.textOnly Departure.lateStores }], guard := none }) (v := ?zvea7) rfl (by kernel_rfl) (by kernel_rfl) (by kernel_rfl) (fun _ _ _ h => h) (Or.inl ⟨by rfl, ?zhea7⟩) (by assumption) ?zrea7
        case zhea7 => (intro w hSw; (try dsimp only at hSw); go_simp; (try with_reducible rfl))
        try simp only [Act.put, List.setIfInBounds_toArray, List.set_cons_zero, List.set_cons_succ]
        refine wpAnyH_take (i := 10) (oi := { dst := some 5, op := Op.assign (Operand.tmp 42), type := 2, pos := "due.go:30", after := #[{ on := 8, ground := Ground.data }, { on := 9, ground := Ground.chain }, { on := 0, ground := Ground.phase }, { on := 1, ground := Ground.phase }, { on := 2, ground := Ground.phase }, { on := 3, ground := Ground.phase }, { on := 4, ground := Ground.phase }, { on := 5, ground := Ground.phase }, { on := 6, ground := Ground.phase }, { on := 7, ground := Ground.phase }, { on := 8, ground := Ground.phase }, { on := 9, ground := Ground.phase }], guard := none }) (v := ?zvea8) rfl (by kernel_rfl) (by kernel_rfl) (by kernel_rfl) (fun _ _ _ h => h) (Or.inl ⟨by rfl, ?zhea8⟩) (by assumption) ?zrea8
        case zhea8 => (intro w hSw; (try dsimp only at hSw); go_simp; (try with_reducible rfl))
        try simp only [Act.put, List.setIfInBounds_toArray, List.set_cons_zero, List.set_cons_succ]
        refine wpAnyH_done (by kernel_rfl) ?_ _
        clear hHeld
        go_wp2_with fail
        exact bodyPost_ret (v := .tuple #[y, .int .i64 (-1)]) (by simp [results, Tryd.results15, go_sem]) rfl ⟨HFIN.out l y w5 (by rw [hca2]; exact HOFF.out) (OwnT.low HO5.out HSW.out), HB0.out.trans ((HB3.out.trans (hBE.mono HB3.out.size)).mono HB0.out.size)⟩
      · have hca := hca
        rw [hca2] at hca HK
        refine wp_region_held_drew (S := (fun w' => w'.rangeAt w.heap.size 0 (rowC r v) ∧ w'.cell? ⟨w.heap.size, 9, none⟩ = some (.int .i64 1))) (by kernel_rfl) (HK.out _ hBE.drew) (fun hHeld => ?_)
        replace hBE := hBE.drew
        refine wpAnyH_take (i := 0) (oi := { dst := some 34, op := Op.load 33 (Operand.tmp 2), type := 33, pos := "due.go:30", after := #[], guard := none }) (v := .agg (rowC r v).toArray) rfl (by kernel_rfl) (by kernel_rfl) (by kernel_rfl) (fun _ _ _ h => h) (yieldsIf_load_mid (by rfl) _ _ rfl _ _ rfl (rowC r v) dr (fun _ hw => hw.1) hdr1 hdr2 hdr3) (by assumption) ?_
        try simp only [Act.put, List.setIfInBounds_toArray, List.set_cons_zero, List.set_cons_succ]
        refine wpAnyH_take (i := 1) (oi := { dst := some 35, op := Op.move (Operand.tmp 1), type := 2, pos := "due.go:30", after := #[], guard := none }) (v := ?zvfa1) rfl (by kernel_rfl) (by kernel_rfl) (by kernel_rfl) (fun _ _ _ h => h) (Or.inl ⟨by rfl, ?zhfa1⟩) (by assumption) ?zrfa1
        case zhfa1 => (intro w hSw; (try dsimp only at hSw); go_simp; (try with_reducible rfl))
        try simp only [Act.put, List.setIfInBounds_toArray, List.set_cons_zero, List.set_cons_succ]
        refine wpAnyH_take (i := 3) (oi := { dst := some 37, op := Op.fieldAddr 33 (Operand.tmp 2) 0, type := 0, pos := "due.go:30", after := #[], guard := none }) (v := ?zvfa2) rfl (by kernel_rfl) (by kernel_rfl) (by kernel_rfl) (fun _ _ _ h => h) (Or.inl ⟨by rfl, ?zhfa2⟩) (by assumption) ?zrfa2
        case zhfa2 => (intro w hSw; (try dsimp only at hSw); go_simp; (try with_reducible rfl))
        try simp only [Act.put, List.setIfInBounds_toArray, List.set_cons_zero, List.set_cons_succ]
        refine wpAnyH_take (i := 4) (oi := { dst := some 38, op := Op.fieldAddr 28 (Operand.tmp 37) 5, type := 0, pos := "due.go:30", after := #[{ on := 3, ground := Ground.data }], guard := none }) (v := ?zvfa3) rfl (by kernel_rfl) (by kernel_rfl) (by kernel_rfl) (fun _ _ _ h => h) (Or.inl ⟨by rfl, ?zhfa3⟩) (by assumption) ?zrfa3
        case zhfa3 => (intro w hSw; (try dsimp only at hSw); go_simp; (try with_reducible rfl))
        try simp only [Act.put, List.setIfInBounds_toArray, List.set_cons_zero, List.set_cons_succ]
        refine wpAnyH_take (i := 5) (oi := { dst := some 39, op := Op.load 3 (Operand.tmp 38), type := 3, pos := "due.go:30", after := #[{ on := 4, ground := Ground.data }], guard := none }) (v := ?zvfa4) rfl (by kernel_rfl) (by kernel_rfl) (by kernel_rfl) (fun _ _ _ h => h) (Or.inl ⟨by rfl, ?zhfa4⟩) (by assumption) ?zrfa4
        case zhfa4 => (intro w hSw; (try dsimp only at hSw); go_simp; (try with_reducible rfl))
        try simp only [Act.put, List.setIfInBounds_toArray, List.set_cons_zero, List.set_cons_succ]
        refine wpAnyH_take (i := 8) (oi := { dst := some 42, op := Op.move (Operand.tmp 6), type := 2, pos := "due.go:30", after := #[{ on := 9, ground := Ground.gcOnly Departure.lateStores }], guard := none }) (v := ?zvfa5) rfl (by kernel_rfl) (by kernel_rfl) (by kernel_rfl) (fun _ _ _ h => h) (Or.inl ⟨by rfl, ?zhfa5⟩) (by assumption) ?zrfa5
        case zhfa5 => (intro w hSw; (try dsimp only at hSw); go_simp; (try with_reducible rfl))
        try simp only [Act.put, List.setIfInBounds_toArray, List.set_cons_zero, List.set_cons_succ]
        refine wpAnyH_ready (rs := [2]) (by kernel_rfl) (by simp) (AllReadyH.cons (o := { dst := some 36, op := Op.call { callee := Callee.value (Operand.func 31), args := #[Operand.tmp 34, Operand.tmp 35], argTypes := #[33, 2] }, type := 87, pos := "due.go:30", after := #[{ on := 0, ground := Ground.data }, { on := 1, ground := Ground.data }], guard := none }) rfl (fun K hK => ?_) (AllReadyH.nil))
        go_simp
        refine (HOF.out _).mono ?_
        rintro e w4 ⟨⟨gr, gn, gl, rfl, hclo⟩, hb⟩
        replace hBE := hBE.trans (hb.mono hBE.size)
        have HCLO := Lib.hid hclo
        clear hb hclo
        unfold clo
        have hix := fun W => index_off W #[.func (.func 46) #[] #[.pointer (some ⟨gl, 0, none⟩), .pointer (some ⟨gn, 0, none⟩)], .func (.func 47) #[] #[.pointer (some ⟨gl, 0, none⟩), .pointer (some ⟨gr, 0, none⟩)], .func (.func 48) #[] #[.pointer (some ⟨gr, 0, none⟩), .pointer (some ⟨gn, 0, none⟩)]] 1 _ (by decide) rfl
        rw [show ((1 : Nat) : Int) = 1 by rfl] at hix
        have hBS4 : w.heap.size ≤ w4.heap.size := by have h1 := HB0.out.size; have h2 := HB3.out.size; have h3 := hBE.size; omega
        refine hK.out _ _ (HK.out _ hBE) (fun hHeld2 => ?_)
        clear hK K hHeld
        have hHeld := hHeld2
        clear hHeld2
        try simp only [Act.put, List.setIfInBounds_toArray, List.set_cons_zero, List.set_cons_succ]
        refine wpAnyH_take (i := 6) (oi := { dst := some 40, op := Op.index 87 (Operand.tmp 36) (Operand.tmp 39), type := 86, pos := "due.go:30", after := #[{ on := 2, ground := Ground.data }, { on := 5, ground := Ground.data }], guard := none }) (v := ?zvfa6) rfl (by kernel_rfl) (by kernel_rfl) (by kernel_rfl) (fun _ _ _ h => h) (Or.inl ⟨by rfl, ?zhfa6⟩) (by assumption) ?zrfa6
        case zhfa6 => (intro w hSw; (try dsimp only at hSw); go_simp; (try with_reducible rfl))
        try simp only [Act.put, List.setIfInBounds_toArray, List.set_cons_zero, List.set_cons_succ]
        refine wpAnyH_ready (rs := [7]) (by kernel_rfl) (by simp) (AllReadyH.cons (o := { dst := some 41, op := Op.call { callee := Callee.value (Operand.tmp 40), args := #[], argTypes := #[] }, type := 31, pos := "due.go:30", after := #[{ on := 6, ground := Ground.data }, { on := 2, ground := Ground.chain }], guard := none }) rfl (fun K hK => ?_) (AllReadyH.nil))
        go_simp
        refine (offers3_any ev HEV.out r v gl gr gn now w4 (HLW.out _ (HB3.out.trans (hBE.mono HB3.out.size))) HCLO.out.row HCLO.out.now HCLO.out.last).mono ?_
        rintro e w5 ⟨hx, hb⟩
        rw [TT_ok HP.out.job] at hx
        obtain ⟨y, l, rfl, ho, hof⟩ := offer_last HTJ.out HLE.out hx
        replace hBE := hBE.trans (hb.mono hBE.size)
        have HO5 := Lib.hid ho; have HOFF := Lib.hid hof; have HSZ := Lib.hid hb.size; have HSW : Hid (w.heap.size ≤ w4.heap.size) := Lib.hid hBS4
        clear hb hx ho hof
        refine hK.out _ _ (HK.out _ hBE) (fun hHeld2 => ?_)
        clear hK K hHeld
        have hHeld := hHeld2
        clear hHeld2
        try simp only [Act.put, List.setIfInBounds_toArray, List.set_cons_zero, List.set_cons_succ]
        refine wpAnyH_take (i := 9) (oi := { dst := some 4, op := Op.assign (Operand.tmp 41), type := 31, pos := "due.go:30", after := #[{ on := 7, ground := Ground.data }, { on := 7, ground := Ground.chain }, { on := 0, ground := Ground.phase }, { on := 1, ground := Ground.phase }, { on := 2, ground := Ground.phase }, { on := 3, ground := Ground.phase }, { on := 4, ground := Ground.phase }, { on := 5, ground := Ground.phase }, { on := 6, ground := Ground.phase }, { on := 7, ground := Ground.phase }, { on := 8, ground := Ground.textOnly Departure.lateStores }], guard := none }) (v := ?zvfa7) rfl (by kernel_rfl) (by kernel_rfl) (by kernel_rfl) (fun _ _ _ h => h) (Or.inl ⟨by rfl, ?zhfa7⟩) (by assumption) ?zrfa7
        case zhfa7 => (intro w hSw; (try dsimp only at hSw); go_simp; (try with_reducible rfl))
        try simp only [Act.put, List.setIfInBounds_toArray, List.set_cons_zero, List.set_cons_succ]
        refine wpAnyH_take (i := 10) (oi := { dst := some 5, op := Op.assign (Operand.tmp 42), type := 2, pos := "due.go:30", after := #[{ on := 8, ground := Ground.data }, { on := 9, ground := Ground.chain }, { on := 0, ground := Ground.phase }, { on := 1, ground := Ground.phase }, { on := 2, ground := Ground.phase }, { on := 3, ground := Ground.phase }, { on := 4, ground := Ground.phase }, { on := 5, ground := Ground.phase }, { on := 6, ground := Ground.phase }, { on := 7, ground := Ground.phase }, { on := 8, ground := Ground.phase }, { on := 9, ground := Ground.phase }], guard := none }) (v := ?zvfa8) rfl (by kernel_rfl) (by kernel_rfl) (by kernel_rfl) (fun _ _ _ h => h) (Or.inl ⟨by rfl, ?zhfa8⟩) (by assumption) ?zrfa8
        case zhfa8 => (intro w hSw; (try dsimp only at hSw); go_simp; (try with_reducible rfl))
        try simp only [Act.put, List.setIfInBounds_toArray, List.set_cons_zero, List.set_cons_succ]
        refine wpAnyH_done (by kernel_rfl) ?_ _
        clear hHeld
        go_wp2_with fail
        exact bodyPost_ret (v := .tuple #[y, .int .i64 (-1)]) (by simp [results, Tryd.results15, go_sem]) rfl ⟨HFIN.out l y w5 (by rw [hca2]; exact HOFF.out) (OwnT.low HO5.out HSW.out), HB0.out.trans ((HB3.out.trans (hBE.mono HB3.out.size)).mono HB0.out.size)⟩
      · have hca := hca
        rw [hca2] at hca HK
        refine wp_region_held_drew (S := (fun w' => w'.rangeAt w.heap.size 0 (rowC r v) ∧ w'.cell? ⟨w.heap.size, 9, none⟩ = some (.int .i64 2))) (by kernel_rfl) (HK.out _ hBE.drew) (fun hHeld => ?_)
        replace hBE := hBE.drew
        refine wpAnyH_take (i := 0) (oi := { dst := some 34, op := Op.load 33 (Operand.tmp 2), type := 33, pos := "due.go:30", after := #[], guard := none }) (v := .agg (rowC r v).toArray) rfl (by kernel_rfl) (by kernel_rfl) (by kernel_rfl) (fun _ _ _ h => h) (yieldsIf_load_mid (by rfl) _ _ rfl _ _ rfl (rowC r v) dr (fun _ hw => hw.1) hdr1 hdr2 hdr3) (by assumption) ?_
        try simp only [Act.put, List.setIfInBounds_toArray, List.set_cons_zero, List.set_cons_succ]
        refine wpAnyH_take (i := 1) (oi := { dst := some 35, op := Op.move (Operand.tmp 1), type := 2, pos := "due.go:30", after := #[], guard := none }) (v := ?zvga1) rfl (by kernel_rfl) (by kernel_rfl) (by kernel_rfl) (fun _ _ _ h => h) (Or.inl ⟨by rfl, ?zhga1⟩) (by assumption) ?zrga1
        case zhga1 => (intro w hSw; (try dsimp only at hSw); go_simp; (try with_reducible rfl))
        try simp only [Act.put, List.setIfInBounds_toArray, List.set_cons_zero, List.set_cons_succ]
        refine wpAnyH_take (i := 3) (oi := { dst := some 37, op := Op.fieldAddr 33 (Operand.tmp 2) 0, type := 0, pos := "due.go:30", after := #[], guard := none }) (v := ?zvga2) rfl (by kernel_rfl) (by kernel_rfl) (by kernel_rfl) (fun _ _ _ h => h) (Or.inl ⟨by rfl, ?zhga2⟩) (by assumption) ?zrga2
        case zhga2 => (intro w hSw; (try dsimp only at hSw); go_simp; (try with_reducible rfl))
        try simp only [Act.put, List.setIfInBounds_toArray, List.set_cons_zero, List.set_cons_succ]
        refine wpAnyH_take (i := 4) (oi := { dst := some 38, op := Op.fieldAddr 28 (Operand.tmp 37) 5, type := 0, pos := "due.go:30", after := #[{ on := 3, ground := Ground.data }], guard := none }) (v := ?zvga3) rfl (by kernel_rfl) (by kernel_rfl) (by kernel_rfl) (fun _ _ _ h => h) (Or.inl ⟨by rfl, ?zhga3⟩) (by assumption) ?zrga3
        case zhga3 => (intro w hSw; (try dsimp only at hSw); go_simp; (try with_reducible rfl))
        try simp only [Act.put, List.setIfInBounds_toArray, List.set_cons_zero, List.set_cons_succ]
        refine wpAnyH_take (i := 5) (oi := { dst := some 39, op := Op.load 3 (Operand.tmp 38), type := 3, pos := "due.go:30", after := #[{ on := 4, ground := Ground.data }], guard := none }) (v := ?zvga4) rfl (by kernel_rfl) (by kernel_rfl) (by kernel_rfl) (fun _ _ _ h => h) (Or.inl ⟨by rfl, ?zhga4⟩) (by assumption) ?zrga4
        case zhga4 => (intro w hSw; (try dsimp only at hSw); go_simp; (try with_reducible rfl))
        try simp only [Act.put, List.setIfInBounds_toArray, List.set_cons_zero, List.set_cons_succ]
        refine wpAnyH_take (i := 8) (oi := { dst := some 42, op := Op.move (Operand.tmp 6), type := 2, pos := "due.go:30", after := #[{ on := 9, ground := Ground.gcOnly Departure.lateStores }], guard := none }) (v := ?zvga5) rfl (by kernel_rfl) (by kernel_rfl) (by kernel_rfl) (fun _ _ _ h => h) (Or.inl ⟨by rfl, ?zhga5⟩) (by assumption) ?zrga5
        case zhga5 => (intro w hSw; (try dsimp only at hSw); go_simp; (try with_reducible rfl))
        try simp only [Act.put, List.setIfInBounds_toArray, List.set_cons_zero, List.set_cons_succ]
        refine wpAnyH_ready (rs := [2]) (by kernel_rfl) (by simp) (AllReadyH.cons (o := { dst := some 36, op := Op.call { callee := Callee.value (Operand.func 31), args := #[Operand.tmp 34, Operand.tmp 35], argTypes := #[33, 2] }, type := 87, pos := "due.go:30", after := #[{ on := 0, ground := Ground.data }, { on := 1, ground := Ground.data }], guard := none }) rfl (fun K hK => ?_) (AllReadyH.nil))
        go_simp
        refine (HOF.out _).mono ?_
        rintro e w4 ⟨⟨gr, gn, gl, rfl, hclo⟩, hb⟩
        replace hBE := hBE.trans (hb.mono hBE.size)
        have HCLO := Lib.hid hclo
        clear hb hclo
        unfold clo
        have hix := fun W => index_off W #[.func (.func 46) #[] #[.pointer (some ⟨gl, 0, none⟩), .pointer (some ⟨gn, 0, none⟩)], .func (.func 47) #[] #[.pointer (some ⟨gl, 0, none⟩), .pointer (some ⟨gr, 0, none⟩)], .func (.func 48) #[] #[.pointer (some ⟨gr, 0, none⟩), .pointer (some ⟨gn, 0, none⟩)]] 2 _ (by decide) rfl
        rw [show ((2 : Nat) : Int) = 2 by rfl] at hix
        have hBS4 : w.heap.size ≤ w4.heap.size := by have h1 := HB0.out.size; have h2 := HB3.out.size; have h3 := hBE.size; omega
        refine hK.out _ _ (HK.out _ hBE) (fun hHeld2 => ?_)
        clear hK K hHeld
        have hHeld := hHeld2
        clear hHeld2
        try simp only [Act.put, List.setIfInBounds_toArray, List.set_cons_zero, List.set_cons_succ]
        refine wpAnyH_take (i := 6) (oi := { dst := some 40, op := Op.index 87 (Operand.tmp 36) (Operand.tmp 39), type := 86, pos := "due.go:30", after := #[{ on := 2, ground := Ground.data }, { on := 5, ground := Ground.data }], guard := none }) (v := ?zvga6) rfl (by kernel_rfl) (by kernel_rfl) (by kernel_rfl) (fun _ _ _ h => h) (Or.inl ⟨by rfl, ?zhga6⟩) (by assumption) ?zrga6
        case zhga6 => (intro w hSw; (try dsimp only at hSw); go_simp; (try with_reducible rfl))
        try simp only [Act.put, List.setIfInBounds_toArray, List.set_cons_zero, List.set_cons_succ]
        refine wpAnyH_ready (rs := [7]) (by kernel_rfl) (by simp) (AllReadyH.cons (o := { dst := some 41, op := Op.call { callee := Callee.value (Operand.tmp 40), args := #[], argTypes := #[] }, type := 31, pos := "due.go:30", after := #[{ on := 6, ground := Ground.data }, { on := 2, ground := Ground.chain }], guard := none }) rfl (fun K hK => ?_) (AllReadyH.nil))
        go_simp
        refine (offers4_any ev HEV.out r v gr gn now w4 (HLW.out _ (HB3.out.trans (hBE.mono HB3.out.size))) HCLO.out.row HCLO.out.now HTR.out.2 HP.out.job).mono ?_
        rintro e w5 ⟨hx, hb⟩
        obtain ⟨y, l, rfl, ho, hof⟩ := offer_all hx
        replace hBE := hBE.trans (hb.mono hBE.size)
        have HO5 := Lib.hid ho; have HOFF := Lib.hid hof; have HSZ := Lib.hid hb.size; have HSW : Hid (w.heap.size ≤ w4.heap.size) := Lib.hid hBS4
        clear hb hx ho hof
        refine hK.out _ _ (HK.out _ hBE) (fun hHeld2 => ?_)
        clear hK K hHeld
        have hHeld := hHeld2
        clear hHeld2
        try simp only [Act.put, List.setIfInBounds_toArray, List.set_cons_zero, List.set_cons_succ]
        refine wpAnyH_take (i := 9) (oi := { dst := some 4, op := Op.assign (Operand.tmp 41), type := 31, pos := "due.go:30", after := #[{ on := 7, ground := Ground.data }, { on := 7, ground := Ground.chain }, { on := 0, ground := Ground.phase }, { on := 1, ground := Ground.phase }, { on := 2, ground := Ground.phase }, { on := 3, ground := Ground.phase }, { on := 4, ground := Ground.phase }, { on := 5, ground := Ground.phase }, { on := 6, ground := Ground.phase }, { on := 7, ground := Ground.phase }, { on := 8, ground := Ground.textOnly Departure.lateStores }], guard := none }) (v := ?zvga7) rfl (by kernel_rfl) (by kernel_rfl) (by kernel_rfl) (fun _ _ _ h => h) (Or.inl ⟨by rfl, ?zhga7⟩) (by assumption) ?zrga7
        case zhga7 => (intro w hSw; (try dsimp only at hSw); go_simp; (try with_reducible rfl))
        try simp only [Act.put, List.setIfInBounds_toArray, List.set_cons_zero, List.set_cons_succ]
        refine wpAnyH_take (i := 10) (oi := { dst := some 5, op := Op.assign (Operand.tmp 42), type := 2, pos := "due.go:30", after := #[{ on := 8, ground := Ground.data }, { on := 9, ground := Ground.chain }, { on := 0, ground := Ground.phase }, { on := 1, ground := Ground.phase }, { on := 2, ground := Ground.phase }, { on := 3, ground := Ground.phase }, { on := 4, ground := Ground.phase }, { on := 5, ground := Ground.phase }, { on := 6, ground := Ground.phase }, { on := 7, ground := Ground.phase }, { on := 8, ground := Ground.phase }, { on := 9, ground := Ground.phase }], guard := none }) (v := ?zvga8) rfl (by kernel_rfl) (by kernel_rfl) (by kernel_rfl) (fun _ _ _ h => h) (Or.inl ⟨by rfl, ?zhga8⟩) (by assumption) ?zrga8
        case zhga8 => (intro w hSw; (try dsimp only at hSw); go_simp; (try with_reducible rfl))
        try simp only [Act.put, List.setIfInBounds_toArray, List.set_cons_zero, List.set_cons_succ]
        refine wpAnyH_done (by kernel_rfl) ?_ _
        clear hHeld
        go_wp2_with fail
        exact bodyPost_ret (v := .tuple #[y, .int .i64 (-1)]) (by simp [results, Tryd.results15, go_sem]) rfl ⟨HFIN.out l y w5 (by rw [hca2]; exact HOFF.out) (OwnT.low HO5.out HSW.out), HB0.out.trans ((HB3.out.trans (hBE.mono HB3.out.size)).mono HB0.out.size)⟩
end Go.Proofs.YthghcffibljclaaDoor
