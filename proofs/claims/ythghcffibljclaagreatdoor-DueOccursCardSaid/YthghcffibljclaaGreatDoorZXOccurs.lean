/- DueOccurs: what is offered of a row, and its Next then: walked. -/
import Derived.Test.YthghcffibljclaaGreatDoorZXWakes
import Derived.Test.YthghcffibljclaaGreatDoorZXOwn
import Derived.Test.YthghcffibljclaaGreatDoorZXRRight
import Derived.Test.YthghcffibljclaaGreatDoorZXRRow
import Derived.Test.YthghcffibljclaaGreatDoorZXROcc
import Derived.Test.YthghcffibljclaaGreatDoorZXStored
namespace Go.Proofs.YthghcffibljclaaGreatDoor
open Go.RowKit

def OcC (ev : List (BitVec 64) → Bool) (r : RowZ) : Prop := ∀ (v : Value) (now : Int) (W : World), LaidC W → QR W v r.q → Calls Tryz.prog 8 #[rowV r v, .int .i64 now] W fun e w' => OccIs ev r now W.heap.size e w' ∧ Below W.heap.size W w'
def RoC (r : RowZ) : Prop := ∀ (v : Value) (now : Int) (W : World), 0 ≤ now ∧ now ≤ 253402300799 → Calls Tryz.prog 10 #[rowV r v, .int .i64 now] W fun e w' => ROcc r now W.heap.size e w' ∧ Below W.heap.size W w'
def SaC (r : RowZ) : Prop := ∀ (v1 v2 : Value) (W : World), QR W v1 r.q → QR W v2 r.q → Calls Tryz.prog 12 #[rowV r v1, rowV r v2] W fun e w' => e = .returned (.bool true) ∧ Below W.heap.size W w'
def OwC (x : Value) (r : RowZ) (r0q : List Int) (v0 : Value) : Prop := ∀ (W : World), QR W v0 r0q → Calls Tryz.prog 6 #[x] W fun e w' => (∃ v', e = .returned (rowV r v') ∧ OwnT w' W.heap.size v' r.q) ∧ Below W.heap.size W w'
set_option maxRecDepth 100000 in
set_option maxHeartbeats 20000000 in
theorem doccurs_walk (r0 : RowZ) (v0 vl : Value) (ll : List Int) (w : World) (hL : LaidC w) (hf0 : r0.Fit) (hq0 : QR w v0 r0.q) (hA : QR w vl ll) :
    Calls Tryz.prog 3 #[rowV r0 v0, vl] w fun e w' => e = .returned (.bool true) ∧ Below w.heap.size w w' := by
  obtain ⟨ev, hev⟩ := ev_is
  have HRV0 : Hid (rowV r0 v0 = .agg (rowC r0 v0).toArray) := Lib.hid rfl
  have hx0 := D.Box.new w 33 (rowC r0 v0).toArray
  have hb0 := new_below w (.cells (rowC r0 v0).toArray 33)
  obtain ⟨W0, hW0⟩ : ∃ W : World, W = w.alloc (.cells (rowC r0 v0).toArray 33) := ⟨_, rfl⟩
  rw [← hW0] at hx0 hb0
  have HB0 := Lib.hid hb0; have HX0 := Lib.hid hx0
  have HLX := Lib.hid (fun W (hb : Below W0.heap.size W0 W) => loadS (row_load hf0 (D.Box.belowAll hx0 hb)))
  rw [HRV0.out] at HLX
  have HWK := Lib.hid (fun W hW => wakes13_any ev hev W hW)
  have HOW : Hid (OwC (rowV r0 v0) (cutZ r0) r0.q v0) := Lib.hid (fun W hq => xown_any r0 v0 W hf0 hq)
  have HL := Lib.hid (hL.on hb0); have HQ0 := Lib.hid (hq0.on hb0)
  obtain ⟨Al, cl, rfl, a1, a2, a3, a4⟩ := hA.on hb0
  have HAL := Lib.hid a4
  have hf : (cutZ r0).Fit := hf0
  have hq5 : (cutZ r0).q.length ≤ 5 := by unfold cutZ; simp only [List.length_take]; omega
  generalize hr : cutZ r0 = r at *
  have HF := Lib.hid hf; have HQ5 := Lib.hid hq5
  have HOC : Hid (OcC ev r) := Lib.hid (fun v now W hW hq => occur_any ev hev r v now W hW hf hq)
  have HRR := Lib.hid (fun v W hq => rright13_any ev hev r v W hf hq)
  have HRO : Hid (r.Right ev → RoC r) := Lib.hid (fun h v now W ht => rocc_any ev r v now W hf h ht)
  have HSA : Hid (SaC r) := Lib.hid (fun v1 v2 W h1 h2 => rsame_any r v1 v2 W hf h1 h2 (by omega))
  have HTI := Lib.hid (fun t W => D.timeR_any t W)
  rw [HRV0.out]
  rw [HRV0.out] at HOW
  have HRX : Hid (∀ W, Below W0.heap.size W0 W → W.rangeAt w.heap.size 0 (rowC r0 v0)) := Lib.hid (fun W hb => row_range (D.Box.belowAll hx0 hb))
  have HCXL : Hid ((rowC r0 v0).length = 17) := Lib.hid (rowC_len hf0 v0)
  generalize rowC r0 v0 = CX at *
  generalize r0.q = q0 at *
  have hmx : ll.length ≤ cl := a1
  clear hL hq0 hf0 hf hr hev hx0 hb0 hA hq5 a1 a2 a3 a4 HRV0
  obtain ⟨n, hn⟩ : ∃ n, ll.length = n := ⟨_, rfl⟩
  rw [hn]
  rw [hn] at hmx
  have HNL := Lib.hid hn
  clear hn
  go_enter Tryz.func3, Tryz.ntmps3
  go_upto_region 1 with fail
  rw [← hW0]
  clear hW0
  go_wp2_with fail
  refine (HWK.out _ HL.out).mono ?_
  rintro e w1 ⟨rfl, hb⟩
  have HB1 := Lib.hid hb
  clear hb HWK
  have HLX1 := Lib.hid (HLX.out _ HB1.out)
  go_wp2_with (first | refine list_loadS (t := 33) rfl _ rfl rfl HLX1.out ?_)
  refine (HOW.out _ (HQ0.out.on HB1.out)).mono ?_
  rintro e w2 ⟨⟨v, rfl, ho⟩, hb⟩
  have HB2 := Lib.hid (HB1.out.trans (hb.mono HB1.out.size))
  obtain ⟨W3, hs3, hx3, hb3⟩ := row_var3 w2 r v HF.out (qr_one' ho.qr)
  have HS3 := Lib.hid (storeS hs3); have HX3 := Lib.hid hx3; have HB3 := Lib.hid (HB2.out.trans (hb3.mono HB2.out.size)); have HQ3 := Lib.hid (ho.qr.on hb3)
  have HLR3 := Lib.hid (loadS (row_load HF.out hx3))
  clear hb ho hs3 hx3 hb3 HB1 HB2 HLX1
  go_wp2_with (first | refine list_storeS (t := 33) rfl _ _ rfl rfl rfl HS3.out ?_ | refine list_loadS (t := 33) rfl _ rfl rfl HLR3.out ?_)
  generalize w2.heap.size = g at *
  refine (HRR.out v W3 HQ3.out).mono ?_
  rintro e w4 ⟨hbi, hb⟩
  obtain ⟨B, rfl, hB⟩ := hbi
  have HBR := Lib.hid hB
  have HB4 := Lib.hid (HB3.out.trans (hb.mono HB3.out.size)); have HX4 := Lib.hid (D.Box.belowAll HX3.out hb); have HQ4 := Lib.hid (HQ3.out.on hb)
  clear hb hB HRR HS3 HLR3 HB3 HX3 HQ3 HX0
  go_wp2_with fail
  go_loopw [21] (fun i wr => ∃ k : Nat, k ≤ n ∧ k ≤ 6 ∧ i = .int .i64 (k : Int) ∧ Hid (Below w4.heap.size w4 wr)) (fun i _ => n - (intOf i).toNat)
  case atStart => exact ⟨0, Nat.zero_le _, Nat.zero_le _, rfl, Lib.hid (Below.refl _ _)⟩
  case round =>
    obtain ⟨k, hk, hk6, rfl, HBK⟩ := hrel
    have HB := Lib.hid (HB4.out.trans (HBK.out.mono HB4.out.size))
    have HBF := Lib.hid (HB0.out.trans (HB.out.mono HB0.out.size))
    by_cases hlt : k < n
    case neg =>
      have hkn : k = n := by omega
      subst hkn
      go_wp2_with fail
      go_ret
      exact ⟨by first | rfl | simp, HBF.out⟩
    obtain ⟨now, hnow⟩ : ∃ t, ll[k]? = some t := ⟨_, List.getElem?_eq_getElem (by have := HNL.out; omega)⟩
    obtain ⟨b, o, rfl, hbl, ck0⟩ := qr_at HAL.out hnow
    have ck : wr.cell? ⟨b, o + k, none⟩ = some (.int .i64 now) := (HB.out.cell (p := ⟨b, o + k, none⟩) hbl).trans ck0
    have g1 : (0 : Int) ≤ (k : Int) := by omega
    have g2 : (k : Int) < (n : Int) := by omega
    clear hbl ck0 hnow
    by_cases h6 : k = 6
    · have q0 : ((k : Int) == 6) = true := by simp; omega
      clear h6
      go_wp2_with fail
      go_ret
      exact ⟨by first | rfl | simp, HBF.out⟩
    have q0 : ((k : Int) == 6) = false := by simp; omega
    have hx := D.Box.belowAll HX4.out HBK.out
    have HLR := Lib.hid (loadS (row_load HF.out hx)); have HX := Lib.hid hx
    have HOCK := Lib.hid (HOC.out v now wr (HL.out.on HB.out) (HQ4.out.on HBK.out))
    clear hx
    go_wp2_with (first | refine list_loadS (t := 33) rfl _ rfl rfl HLR.out ?_)
    refine HOCK.out.mono ?_
    rintro e w5 ⟨⟨y1, l1, nx1, rfl, ho1, hocc⟩, hb⟩
    have HB5 := Lib.hid (HB.out.trans (hb.mono HB.out.size)); have HBK5 := Lib.hid (HBK.out.trans (hb.mono HBK.out.size))
    obtain ⟨A1, c1, rfl⟩ := own_slice0 ho1
    have HO1 := Lib.hid ho1; have HOCC := Lib.hid hocc
    have HX5 := Lib.hid (D.Box.belowAll HX.out hb)
    clear hb ho1 hocc HOCK HLR ck HX
    go_upto_region 11 with fail
    go_cut [38] from 34 to 38 (fun s38 wx => s38 = .bool (B && D.timeB now) ∧ wx = w5)
    case first =>
      cases B with
      | false =>
        go_wp2_with fail
        go_meet
        exact ⟨by simp, rfl⟩
      | true =>
        go_wp2_with fail
        refine (HTI.out now w5).mono ?_
        rintro e w6 ⟨rfl, rfl⟩
        go_wp2_with fail
        go_meet
        exact ⟨by simp, rfl⟩
    case rest =>
    obtain ⟨rfl, hwc⟩ := hcut
    subst hwc
    generalize wc = w5 at *
    go_upto_if 38 with fail
    go_cut [11, 12] from 38 to 45 (fun s11 s12 wx => ∃ (y2 : Value) (l2 : List Int) (nx2 : Int), y2 = s11 ∧ s12 = .int .i64 nx2 ∧ QR wx y2 l2 ∧ l2 = l1 ∧ nx2 = nx1 ∧ Below w5.heap.size w5 wx)
    case first =>
      cases hbt : (B && D.timeB now) with
      | false =>
        have hno : l1 = [] ∧ nx1 = -1 := by
          rcases HOCC.out with ⟨h1, h2, _⟩ | ⟨_, h1, h2⟩
          · rw [HBR.out.2 h1, h2] at hbt; cases hbt
          · exact ⟨h1, h2⟩
        have HNO := Lib.hid hno
        clear hno hbt
        go_wp2_with fail
        go_meet
        exact ⟨_, [], -1, rfl, rfl, .nil _, HNO.out.1.symm, HNO.out.2.symm, Below.refl _ _⟩
      | true =>
        have hbt1 : B = true ∧ D.timeB now = true := by simpa using hbt
        have hri := HBR.out.1 hbt1.1
        have HRI := Lib.hid hri; have HOA := Lib.hid (occAll_ok hri hbt1.2 HOCC.out)
        have HTZ := Lib.hid ((D.timeB_iff now).1 hbt1.2)
        have HLX5 := Lib.hid (HLX.out w5 HB5.out)
        have HOW5 := Lib.hid (HOW.out w5 (HQ0.out.on HB5.out))
        clear hbt hbt1 hri
        go_wp2_with (first | refine list_loadS (t := 33) rfl _ rfl rfl HLX5.out ?_)
        refine HOW5.out.mono ?_
        rintro e w6 ⟨⟨v6, rfl, _⟩, hb⟩
        have HB6 := Lib.hid hb
        have HROK := Lib.hid (HRO.out HRI.out v6 now w6 HTZ.out)
        clear hb HOW5 HLX5
        go_wp2_with fail
        refine HROK.out.mono ?_
        rintro e w7 ⟨⟨y2, l2, nx2, rfl, ho2, hocc2⟩, hb⟩
        have hone := occ_one HOA.out hocc2
        have HONE := Lib.hid hone; have HO2 := Lib.hid ho2; have HB7 := Lib.hid (HB6.out.trans (hb.mono HB6.out.size))
        clear hone ho2 hb hocc2 HROK
        go_wp2_with fail
        go_meet
        exact ⟨y2, l2, nx2, rfl, rfl, HO2.out.qr, HONE.out.1.symm, HONE.out.2.symm, HB7.out⟩
    case rest =>
    obtain ⟨y2, l2, nx2, hys, rfl, hq2, rfl, rfl, hb⟩ := hcut
    subst hys
    generalize wc = w7 at *
    obtain ⟨A2, c2, rfl, d1, d2, d3, d4⟩ := hq2
    have HR2 := Lib.hid d4
    have HB7 := Lib.hid (HB5.out.trans (hb.mono HB5.out.size)); have HBK7 := Lib.hid (HBK5.out.trans (hb.mono HBK5.out.size))
    have HO7 := Lib.hid (own_below HO1.out hb); have HX7 := Lib.hid (D.Box.belowAll HX5.out hb)
    clear hb d4 HOCC HX5 HO1
    go_upto_region 13 with fail
    have HEQ : Hid (∀ W, Below w7.heap.size w7 W → Calls Tryz.prog 11 #[.slice A1 l2.length c1, .slice A2 l2.length c2] W fun e w' => e = .returned (.bool true) ∧ ∃ q, w' = W.drewN q) := Lib.hid (fun W hb => equal_i64 A1 A2 l2.length c1 c2 l2 W (by omega) (own_arr (own_below HO7.out hb)) (qr_arr (HR2.out.on hb)))
    have HRV : Hid (rowV r v = .agg (rowC r v).toArray) := Lib.hid rfl
    have HSAK : Hid (∀ (v2 : Value) (W : World), Below w7.heap.size w7 W → QR W v2 r.q → Calls Tryz.prog 12 #[rowV r v, rowV r v2] W fun e w' => e = .returned (.bool true) ∧ Below W.heap.size W w') := Lib.hid (fun v2 W hb h2 => HSA.out v v2 W (HQ4.out.on (HBK7.out.trans (hb.mono HBK7.out.size))) h2)
    have HOWK : Hid (∀ W, Below w7.heap.size w7 W → Calls Tryz.prog 6 #[.agg CX.toArray] W fun e w' => (∃ v', e = .returned (rowV r v') ∧ OwnT w' W.heap.size v' r.q) ∧ Below W.heap.size W w') := Lib.hid (fun W hb => HOW.out W (HQ0.out.on (HB7.out.trans (hb.mono HB7.out.size))))
    have HK : Hid (∀ W, Below w7.heap.size w7 W → W.rangeAt g 0 (rowC r v) ∧ W.rangeAt w.heap.size 0 CX) := Lib.hid (fun W hb => ⟨row_range (D.Box.belowAll HX7.out hb), HRX.out W (HB7.out.trans (hb.mono HB7.out.size))⟩)
    obtain ⟨dr, hdr1, hdr2⟩ := und_row
    have hdr3 : (Tryz.prog.info? 33).map (·.size) = some (rowC r v).length := by rw [size_row, rowC_len HF.out]
    have hdr4 : (Tryz.prog.info? 33).map (·.size) = some CX.length := by rw [size_row, HCXL.out]
    rw [HRV.out] at HSAK
    have hBE := Below.refl w7.heap.size w7
    clear HX7 HO7 HR2 d1 d2 d3 HRV HOC HRO HSA HTI HLX HOW HQ0 HB7 HBK5 HB5
    generalize rowC r v = CR at HSAK HK hdr3
    refine wp_region_held_drew (S := (fun w' => w'.rangeAt g 0 CR ∧ w'.rangeAt w.heap.size 0 CX)) (by kernel_rfl) (HK.out _ hBE.drew) (fun hHeld => ?_)
    replace hBE := hBE.drew
    obtain ⟨w0r, hw0r⟩ : ∃ w0r : World, w0r = w7.drew := ⟨_, rfl⟩
    rw [← hw0r] at hBE hHeld ⊢
    clear hw0r
    refine wpAnyH_take (i := 0) (oi := { dst := some 46, op := Op.move (Operand.tmp 9), type := 31, pos := "law.go:53", after := #[], guard := none }) (v := ?zv0) rfl (by kernel_rfl) (by kernel_rfl) (by kernel_rfl) (fun _ _ _ h => h) (Or.inl ⟨by rfl, ?zh0⟩) (by assumption) ?zr0
    case zh0 => (intro w hSw; (try dsimp only at hSw); go_simp; (try with_reducible rfl))
    try simp only [Act.put, List.setIfInBounds_toArray, List.set_cons_zero, List.set_cons_succ]
    refine wpAnyH_take (i := 1) (oi := { dst := some 47, op := Op.move (Operand.tmp 11), type := 31, pos := "law.go:53", after := #[], guard := none }) (v := ?zv1) rfl (by kernel_rfl) (by kernel_rfl) (by kernel_rfl) (fun _ _ _ h => h) (Or.inl ⟨by rfl, ?zh1⟩) (by assumption) ?zr1
    case zh1 => (intro w hSw; (try dsimp only at hSw); go_simp; (try with_reducible rfl))
    try simp only [Act.put, List.setIfInBounds_toArray, List.set_cons_zero, List.set_cons_succ]
    refine wpAnyH_ready (rs := [2]) (by kernel_rfl) (by simp) (AllReadyH.cons (o := { dst := some 48, op := Op.call { callee := Callee.value (Operand.func 11), args := #[Operand.tmp 46, Operand.tmp 47], argTypes := #[31, 31] }, type := 4, pos := "law.go:53", after := #[{ on := 0, ground := Ground.data }, { on := 1, ground := Ground.data }], guard := none }) rfl (fun K hK => ?_) (AllReadyH.nil))
    go_simp
    refine (HEQ.out _ hBE).mono ?_
    rintro e w8 ⟨rfl, qd, rfl⟩
    replace hBE := bdrewN hBE qd
    obtain ⟨w8, hw8⟩ : ∃ w8 : World, w8 = w0r.drewN qd := ⟨_, rfl⟩
    rw [← hw8] at hBE ⊢
    clear hw8
    refine hK.out _ _ (HK.out _ hBE) (fun hHeld2 => ?_)
    clear hK K hHeld
    have hHeld := hHeld2
    clear hHeld2
    try simp only [Act.put, List.setIfInBounds_toArray, List.set_cons_zero, List.set_cons_succ]
    refine wpAnyH_take (i := 3) (oi := { dst := some 49, op := Op.unOp UnOp.not 4 (Operand.tmp 48), type := 4, pos := "law.go:53", after := #[{ on := 2, ground := Ground.data }], guard := none }) (v := ?zv2) rfl (by kernel_rfl) (by kernel_rfl) (by kernel_rfl) (fun _ _ _ h => h) (Or.inl ⟨by rfl, ?zh2⟩) (by assumption) ?zr2
    case zh2 => (intro w hSw; (try dsimp only at hSw); go_simp; (try with_reducible rfl))
    try simp only [Act.put, List.setIfInBounds_toArray, List.set_cons_zero, List.set_cons_succ]
    refine wpAnyH_take (i := 4) (oi := { dst := some 50, op := Op.move (Operand.tmp 49), type := 4, pos := "law.go:53", after := #[{ on := 3, ground := Ground.data }, { on := 2, ground := Ground.chain }], guard := none }) (v := ?zv3) rfl (by kernel_rfl) (by kernel_rfl) (by kernel_rfl) (fun _ _ _ h => h) (Or.inl ⟨by rfl, ?zh3⟩) (by assumption) ?zr3
    case zh3 => (intro w hSw; (try dsimp only at hSw); go_simp; (try with_reducible rfl))
    try simp only [Act.put, List.setIfInBounds_toArray, List.set_cons_zero, List.set_cons_succ]
    refine wpAnyH_take (i := 5) (oi := { dst := some 51, op := Op.move (Operand.tmp 10), type := 2, pos := "law.go:53", after := #[{ on := 4, ground := Ground.guard }], guard := some (4, false) }) (v := ?zv4) rfl (by kernel_rfl) (by kernel_rfl) (by kernel_rfl) (fun _ _ _ h => h) (Or.inl ⟨by rfl, ?zh4⟩) (by assumption) ?zr4
    case zh4 => (intro w hSw; (try dsimp only at hSw); go_simp; (try with_reducible rfl))
    try simp only [Act.put, List.setIfInBounds_toArray, List.set_cons_zero, List.set_cons_succ]
    refine wpAnyH_take (i := 6) (oi := { dst := some 52, op := Op.move (Operand.tmp 12), type := 2, pos := "law.go:53", after := #[{ on := 4, ground := Ground.guard }], guard := some (4, false) }) (v := ?zv5) rfl (by kernel_rfl) (by kernel_rfl) (by kernel_rfl) (fun _ _ _ h => h) (Or.inl ⟨by rfl, ?zh5⟩) (by assumption) ?zr5
    case zh5 => (intro w hSw; (try dsimp only at hSw); go_simp; (try with_reducible rfl))
    try simp only [Act.put, List.setIfInBounds_toArray, List.set_cons_zero, List.set_cons_succ]
    refine wpAnyH_take (i := 7) (oi := { dst := some 53, op := Op.binOp BinOp.neq 2 (Operand.tmp 51) (Operand.tmp 52) 2, type := 4, pos := "law.go:53", after := #[{ on := 5, ground := Ground.data }, { on := 6, ground := Ground.data }, { on := 4, ground := Ground.guard }], guard := some (4, false) }) (v := ?zv6) rfl (by kernel_rfl) (by kernel_rfl) (by kernel_rfl) (fun _ _ _ h => h) (Or.inl ⟨by rfl, ?zh6⟩) (by assumption) ?zr6
    case zh6 => (intro w hSw; (try dsimp only at hSw); go_simp; (try with_reducible rfl))
    try simp only [Act.put, List.setIfInBounds_toArray, List.set_cons_zero, List.set_cons_succ]
    refine wpAnyH_take (i := 8) (oi := { dst := some 54, op := Op.pick (Operand.tmp 50) (Operand.const (Value.bool true)) (Operand.tmp 53), type := 4, pos := "law.go:53", after := #[{ on := 4, ground := Ground.data }, { on := 7, ground := Ground.data }], guard := none }) (v := ?zv7) rfl (by kernel_rfl) (by kernel_rfl) (by kernel_rfl) (fun _ _ _ h => h) (Or.inl ⟨by rfl, ?zh7⟩) (by assumption) ?zr7
    case zh7 => (intro w hSw; (try dsimp only at hSw); go_simp; (try with_reducible rfl))
    try simp only [Act.put, List.setIfInBounds_toArray, List.set_cons_zero, List.set_cons_succ]
    refine wpAnyH_take (i := 9) (oi := { dst := some 55, op := Op.move (Operand.tmp 54), type := 4, pos := "law.go:53", after := #[{ on := 8, ground := Ground.data }, { on := 4, ground := Ground.chain }], guard := none }) (v := ?zv8) rfl (by kernel_rfl) (by kernel_rfl) (by kernel_rfl) (fun _ _ _ h => h) (Or.inl ⟨by rfl, ?zh8⟩) (by assumption) ?zr8
    case zh8 => (intro w hSw; (try dsimp only at hSw); go_simp; (try with_reducible rfl))
    try simp only [Act.put, List.setIfInBounds_toArray, List.set_cons_zero, List.set_cons_succ]
    refine wpAnyH_take (i := 10) (oi := { dst := some 56, op := Op.load 33 (Operand.tmp 5), type := 33, pos := "law.go:53", after := #[{ on := 9, ground := Ground.guard }], guard := some (9, false) }) (v := .agg CR.toArray) rfl (by kernel_rfl) (by kernel_rfl) (by kernel_rfl) (fun _ _ _ h => h) (yieldsIf_load_mid (by rfl) _ _ rfl _ _ rfl CR dr (fun _ hw => hw.1) hdr1 hdr2 hdr3) (by assumption) ?_
    try simp only [Act.put, List.setIfInBounds_toArray, List.set_cons_zero, List.set_cons_succ]
    refine wpAnyH_take (i := 11) (oi := { dst := some 57, op := Op.load 33 (Operand.tmp 2), type := 33, pos := "law.go:53", after := #[{ on := 9, ground := Ground.guard }], guard := some (9, false) }) (v := .agg CX.toArray) rfl (by kernel_rfl) (by kernel_rfl) (by kernel_rfl) (fun _ _ _ h => h) (yieldsIf_load_mid (by rfl) _ _ rfl _ _ rfl CX dr (fun _ hw => hw.2) hdr1 hdr2 hdr4) (by assumption) ?_
    try simp only [Act.put, List.setIfInBounds_toArray, List.set_cons_zero, List.set_cons_succ]
    refine wpAnyH_ready (rs := [12]) (by kernel_rfl) (by simp) (AllReadyH.cons (o := { dst := some 58, op := Op.call { callee := Callee.value (Operand.func 6), args := #[Operand.tmp 57], argTypes := #[33] }, type := 33, pos := "law.go:53", after := #[{ on := 11, ground := Ground.data }, { on := 9, ground := Ground.chain }, { on := 9, ground := Ground.guard }], guard := some (9, false) }) rfl (fun K hK => ?_) (AllReadyH.nil))
    go_simp
    refine (HOWK.out _ hBE).mono ?_
    rintro e w9 ⟨⟨v9, rfl, ho9⟩, hb9⟩
    replace hBE := hBE.trans (hb9.mono hBE.size)
    clear hb9
    refine hK.out _ _ (HK.out _ hBE) (fun hHeld2 => ?_)
    clear hK K hHeld
    have hHeld := hHeld2
    clear hHeld2
    try simp only [Act.put, List.setIfInBounds_toArray, List.set_cons_zero, List.set_cons_succ]
    refine wpAnyH_ready (rs := [13]) (by kernel_rfl) (by simp) (AllReadyH.cons (o := { dst := some 59, op := Op.call { callee := Callee.value (Operand.func 12), args := #[Operand.tmp 56, Operand.tmp 58], argTypes := #[33, 33] }, type := 4, pos := "law.go:53", after := #[{ on := 10, ground := Ground.data }, { on := 12, ground := Ground.data }, { on := 12, ground := Ground.chain }, { on := 9, ground := Ground.guard }], guard := some (9, false) }) rfl (fun K hK => ?_) (AllReadyH.nil))
    go_simp
    refine (HSAK.out v9 _ hBE ho9.qr).mono ?_
    rintro e w10 ⟨rfl, hb10⟩
    replace hBE := hBE.trans (hb10.mono hBE.size)
    clear hb10
    refine hK.out _ _ (HK.out _ hBE) (fun hHeld2 => ?_)
    clear hK K hHeld
    have hHeld := hHeld2
    clear hHeld2
    try simp only [Act.put, List.setIfInBounds_toArray, List.set_cons_zero, List.set_cons_succ]
    refine wpAnyH_take (i := 14) (oi := { dst := some 60, op := Op.unOp UnOp.not 4 (Operand.tmp 59), type := 4, pos := "law.go:53", after := #[{ on := 13, ground := Ground.data }, { on := 9, ground := Ground.guard }], guard := some (9, false) }) (v := ?zv9) rfl (by kernel_rfl) (by kernel_rfl) (by kernel_rfl) (fun _ _ _ h => h) (Or.inl ⟨by rfl, ?zh9⟩) (by assumption) ?zr9
    case zh9 => (intro w hSw; (try dsimp only at hSw); go_simp; (try with_reducible rfl))
    try simp only [Act.put, List.setIfInBounds_toArray, List.set_cons_zero, List.set_cons_succ]
    refine wpAnyH_take (i := 15) (oi := { dst := some 61, op := Op.pick (Operand.tmp 55) (Operand.const (Value.bool true)) (Operand.tmp 60), type := 4, pos := "law.go:53", after := #[{ on := 9, ground := Ground.data }, { on := 14, ground := Ground.data }], guard := none }) (v := ?zv10) rfl (by kernel_rfl) (by kernel_rfl) (by kernel_rfl) (fun _ _ _ h => h) (Or.inl ⟨by rfl, ?zh10⟩) (by assumption) ?zr10
    case zh10 => (intro w hSw; (try dsimp only at hSw); go_simp; (try with_reducible rfl))
    try simp only [Act.put, List.setIfInBounds_toArray, List.set_cons_zero, List.set_cons_succ]
    refine wpAnyH_done (by kernel_rfl) ?_ _
    clear hHeld HK HEQ HOWK HSAK
    have HBE := Lib.hid (HBK7.out.trans (hBE.mono HBK7.out.size))
    clear hBE
    go_wp2_with fail
    go_roundw
    case rel => exact ⟨k + 1, by omega, by omega, by go_num, HBE⟩
    case measure => simp [intOf]; omega
end Go.Proofs.YthghcffibljclaaGreatDoor
