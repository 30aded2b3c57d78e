/- DueRises: each time is launched at most once with Try 0, in order, and at most Retries times more: walked. -/
import Derived.Test.YthghcffibljclaaDoorRXWakes
import Derived.Test.YthghcffibljclaaDoorRXOwn
import Derived.Test.YthghcffibljclaaDoorRXGot
import Derived.Test.YthghcffibljclaaDoorRXActs
import Derived.Test.YthghcffibljclaaDoorRXLoad
import Derived.Test.YthghcffibljclaaDoorRXRiseP
import Derived.BigGuard
namespace Go.Proofs.YthghcffibljclaaDoor
open Go.RowKit

/-- A row in its block; its queue lies elsewhere. -/
structure RowHas (g : Nat) (r : RowZ) (v : Value) (w : World) : Prop where
  box : D.Box w g 33 (rowC r v).toArray
  sli : SliT w 0 v r.q
  off : v.ownBlock ≠ some g
theorem RowHas.on {g : Nat} {r : RowZ} {v : Value} {w w' : World} (h : RowHas g r v w) (hb : Below w.heap.size w w') : RowHas g r v w' := ⟨D.Box.belowAll h.box hb, h.sli.on hb, h.off⟩
theorem SliT.kept {w w' : World} {B C : Nat} {v : Value} {q : List Int} (h : SliT w B v q) (hb : Below C w w') (hv : ∀ b, v.ownBlock = some b → b < C) : SliT w' B v q := h.same fun b e _ => hb.block b (hv b e)
/-- Its copy in a new block. -/
theorem row_copy {g : Nat} {r : RowZ} {v : Value} {w : World} (h : RowHas g r v w) (hf : r.Fit) : ∃ W, StoreIs (w.alloc (.cells #[.int .u32 0, .bool false, .int .u64 0, .int .u64 0, .int .u64 0, .int .u64 0, .int .u64 0, .int .i64 0, .int .i64 0, .int .i64 0, .int .i64 0, .bool false, .int .i64 0, .int .u64 0, .int .i64 0, .int .i64 0, .slice none 0 0] 33)) 33 w.heap.size 0 (rowV r v) W ∧ RowHas w.heap.size r v W ∧ Below w.heap.size w W := by
  obtain ⟨W, h1, h2, h3⟩ := row_var3 w r v hf (qr_one' h.sli.qr)
  exact ⟨W, h1, ⟨h2, h.sli.on h3, fun e => by have := (h.sli.lt _ e).2; omega⟩, h3⟩
theorem LasR.same {w w' : World} {y : Value} {o : List LaZ} (h : LasR w y o) (hsz : w.heap.size ≤ w'.heap.size) (hd : ∀ b, y.ownBlock = some b → b < w.heap.size → w'.heap[b]? = w.heap[b]?) : LasR w' y o := by
  obtain ⟨A, c, rfl, a1, a2, a3, hr⟩ := h
  refine ⟨A, c, rfl, a1, a2, a3, fun j u hj => ?_⟩
  obtain ⟨b, o2, rfl, hl, hc⟩ := hr j u hj
  exact ⟨b, o2, rfl, Nat.lt_of_lt_of_le hl hsz, (World.cell?_of_block (a := ⟨b, o2 + j, none⟩) (hd b rfl hl)).trans hc⟩
/-- The row that came out of a call, stored in its copy's block. -/
theorem row_got {w0 cur : World} {g B B0 : Nat} {r r' : RowZ} {v z y : Value} {o : List LaZ} (h : RowHas g r v cur) (hf : r.Fit) (hf' : r'.Fit) (ht : RowTold B r' o z y cur) (hgB : g < B) (hb : Below B0 w0 cur) (hg : B0 ≤ g) :
    ∃ W9 v', StoreIs cur 33 g 0 z W9 ∧ RowHas g r' v' W9 ∧ (∀ b, v'.ownBlock = some b → B ≤ b) ∧ LasR W9 y o ∧ Below B0 w0 W9 := by
  obtain ⟨⟨v', rfl, hs⟩, hla, hy⟩ := ht
  obtain ⟨W9, h1, _, h3⟩ := row_put h.box (by rw [List.size_toArray, rowC_len hf]) hf' (qr_one' hs.qr)
  have hsp : Spares g cur W9 := Spares.row g _ h3
  have hoff : v'.ownBlock ≠ some g := fun e => by have := (hs.lt g e).1; omega
  exact ⟨W9, v', h1, ⟨by rw [h3]; exact h.box.setRow _, (hs.same (fun b e hl => hsp.block b hl (fun e2 => hoff (by rw [e, e2])))).low (Nat.zero_le _), hoff⟩, fun b e => (hs.lt b e).1, hla.same hsp.size (fun b e hl => hsp.block b hl (fun e2 => by have := hy b e; omega)), by rw [h3]; exact below_setRow hb hg _⟩
theorem row_once {W : World} {g : Nat} {r : RowZ} {v : Value} (hf : r.Fit) (h : D.Box W g 33 (rowC r v).toArray) : W.cell? ⟨g, 1, none⟩ = some (.bool r.j.o) := by
  have hr := row_range h
  obtain ⟨⟨n, ob, L, t, ov, ca, re⟩, pa, nx, num, due, tr, q⟩ := r
  obtain ⟨⟨_, _, hl5⟩, _⟩ := hf
  obtain ⟨a, b, c, d, e, rfl⟩ := list_five hl5
  have := hr 1 _ rfl
  rwa [Nat.zero_add] at this
/-- The row stored in another's block. -/
theorem row_move {w0 cur : World} {g g' B0 : Nat} {r r' : RowZ} {v v' : Value} (h : RowHas g r v cur) (hf : r.Fit) (hf' : r'.Fit) (h' : RowHas g' r' v' cur) (hv : v'.ownBlock ≠ some g) (hb : Below B0 w0 cur) (hg : B0 ≤ g) :
    ∃ W9, LoadIs cur 33 g' 0 (rowV r' v') ∧ StoreIs cur 33 g 0 (rowV r' v') W9 ∧ RowHas g r' v' W9 ∧ Below B0 w0 W9 := by
  obtain ⟨W9, h1, _, h3⟩ := row_put h.box (by rw [List.size_toArray, rowC_len hf]) hf' (qr_one' h'.sli.qr)
  refine ⟨W9, row_load hf' h'.box, h1, ⟨by rw [h3]; exact h.box.setRow _, h'.sli.same (fun b e hl => by rw [h3]; exact setRow_other _ _ _ _ (fun e2 => hv (by rw [e, e2]))), hv⟩, by rw [h3]; exact below_setRow hb hg _⟩
/-- What stands behind what was done. -/
structure Done (ev : List (BitVec 64) → Bool) (rk : RowZ) (f2 last tries : Int) (g gn : Nat) (W7 : World) (now' : Int) (r' : RowZ) (v' : Value) (o : List LaZ) (last' tries' : Int) (y : Value) (wx : World) : Prop where
  now : 0 ≤ now' ∧ now' ≤ 253402300799
  told : ToldI rk f2 last tries r' o last' tries'
  rise : RiseI ev r' last' tries'
  j : r'.j = rk.j
  pa : r'.pa = rk.pa
  fit : r'.Fit
  row : RowHas gn r' v' wx
  off : v'.ownBlock ≠ some g
  las : LasR wx y o
  below : Below gn W7 wx
def CkC (ev : List (BitVec 64) → Bool) : Prop := ∀ (r' : RowZ) (v : Value) (W : World), LaidC W → r'.Fit → QR W v r'.q → Calls Tryd.prog 8 #[rowV r' v] W fun e w' => ErrIs (r'.Right ev) e ∧ Below W.heap.size W w'
def StC (ev : List (BitVec 64) → Bool) : Prop := ∀ (r' : RowZ) (v : Value) (now num : Int) (W : World), LaidC W → r'.Fit → QR W v r'.q → r'.q.length ≤ 5 → 0 ≤ num → Calls Tryd.prog 9 #[rowV r' v, .int .i64 now, .int .u64 num] W fun e w' => StepIs ev r' now num W.heap.size e w' ∧ Below W.heap.size W w'
def EnC (ev : List (BitVec 64) → Bool) : Prop := ∀ (r' : RowZ) (v : Value) (num fresh : Int) (ok : Bool) (W : World), LaidC W → r'.Fit → QR W v r'.q → r'.q.length ≤ 5 → 0 ≤ fresh → Calls Tryd.prog 10 #[rowV r' v, .int .u64 num, .bool ok, .int .u64 fresh] W fun e w' => EndIs ev r' num ok fresh W.heap.size e w' ∧ Below W.heap.size W w'
theorem right_q5 {ev : List (BitVec 64) → Bool} {r : RowZ} (h : r.Right ev) : r.q.length ≤ 5 := by have := h.q3; omega
theorem pick3 (x : Int) : ∃ i : Int, (IntKind.u64.wrap x).tmod 3 = i ∧ (i = 0 ∨ i = 1 ∨ i = 2) := by
  have hu : 0 ≤ IntKind.u64.wrap x := by rw [IntKind.wrap_u64]; omega
  generalize IntKind.u64.wrap x = y at *
  exact ⟨_, rfl, by rw [Int.tmod_eq_emod_of_nonneg hu]; omega⟩
set_option maxRecDepth 100000 in
set_option maxHeartbeats 20000000 in
theorem drises_walk (r0 : RowZ) (v0 : Value) (Al : Option Addr) (nl cl : Nat) (ll : List ActZ) (w : World) (hL : LaidC w) (hf0 : r0.Fit) (hq0 : QR w v0 r0.q) (hA : ActsR w Al nl cl ll) :
    Calls Tryd.prog 3 #[rowV r0 v0, .slice Al nl cl] w fun e w' => e = .returned (.bool true) ∧ Below w.heap.size w w' := by
  obtain ⟨ev, hev⟩ := ev_is
  have HRV0 : Hid (rowV r0 v0 = .agg (rowC r0 v0).toArray) := Lib.hid rfl
  have hx0 := D.Box.new w 33 (rowC r0 v0).toArray
  have hb0 := new_below w (.cells (rowC r0 v0).toArray 33)
  obtain ⟨W0, hW0⟩ : ∃ W : World, W = w.alloc (.cells (rowC r0 v0).toArray 33) := ⟨_, rfl⟩
  rw [← hW0] at hx0 hb0
  have HB0 := Lib.hid hb0
  have HLX := Lib.hid (fun W (hb : Below W0.heap.size W0 W) => row_load hf0 (D.Box.belowAll hx0 hb))
  rw [HRV0.out] at HLX
  have HWK := Lib.hid (fun W hW => wakes13_any ev hev W hW)
  have HOW := Lib.hid (fun W hq => xown_any r0 v0 W hf0 hq)
  have HL := Lib.hid (hL.on hb0); have HQ0 := Lib.hid (hq0.on hb0); have HLA := Lib.hid (hA.on hb0)
  have hf : (cutZ r0).Fit := hf0
  have hq5 : (cutZ r0).q.length ≤ 5 := by unfold cutZ; simp only [List.length_take]; omega
  generalize hr : cutZ r0 = r at *
  have HF := Lib.hid hf; have HQ5 := Lib.hid hq5
  have HCK : Hid (CkC ev) := Lib.hid (fun r' v W hW hf' hq => checkrow_any ev hev r' v W hW hf' hq)
  have HST : Hid (StC ev) := Lib.hid (fun r' v now num W hW hf' hq hl hn => dstep_any ev hev r' v now num W hW hf' hq hl hn)
  have HEN : Hid (EnC ev) := Lib.hid (fun r' v num fresh ok W hW hf' hq hl hn => dend_any ev hev r' v num fresh ok W hW hf' hq hl hn)
  have hnl := hA.cap; have hcl := hA.top
  unfold maxLen at hcl
  rw [HRV0.out]
  rw [HRV0.out] at HOW
  clear hL hq0 hf0 hf hr hev hx0 hb0 hA hq5
  go_enter Tryd.func3, Tryd.ntmps3
  go_upto_region 1 with fail
  rw [← hW0]
  clear hW0
  go_wp2_with fail
  refine (HWK.out _ HL.out).mono ?_
  rintro e w1 ⟨rfl, hb⟩
  have HB1 := Lib.hid hb
  clear hb HWK
  have HLX1 := Lib.hid (HLX.out _ HB1.out)
  clear HLX
  go_wp2_with (refine list_load rfl _ rfl rfl HLX1.out ?_)
  refine (HOW.out _ (HQ0.out.on HB1.out)).mono ?_
  rintro e w2 ⟨⟨v, rfl, ho⟩, hb⟩
  have HB2 := Lib.hid (HB1.out.trans (hb.mono HB1.out.size))
  obtain ⟨W3, hs3, hx3, hb3⟩ := row_var3 w2 r v HF.out (qr_one' ho.qr)
  have HS3 := Lib.hid hs3; have HB3 := Lib.hid (HB2.out.trans (hb3.mono HB2.out.size))
  have HI3 : Hid (RowHas w2.heap.size r v W3) := Lib.hid ⟨hx3, (ho.sli.on hb3).low (Nat.zero_le _), fun e => by have := (World.ownsRow.lt ho _ e).2; omega⟩
  have HLR3 := Lib.hid (row_load HF.out hx3)
  have HG0 : Hid (W0.heap.size ≤ w2.heap.size) := Lib.hid HB2.out.size
  clear hb ho hs3 hx3 hb3 HOW HB1 HB2 HQ0
  go_wp2_with (first | refine list_store rfl _ _ rfl rfl rfl HS3.out ?_ | refine list_load rfl _ rfl rfl HLR3.out ?_)
  generalize w2.heap.size = g at *
  refine (HCK.out r v W3 (HL.out.on HB3.out) HF.out HI3.out.sli.qr).mono ?_
  rintro e w4 ⟨hck, hb⟩
  have HB4 := Lib.hid (HB3.out.trans (hb.mono HB3.out.size)); have HI4 := Lib.hid (HI3.out.on hb)
  clear hb HS3 HLR3 HI3 HB3 HLX1
  rcases hck with ⟨hp, rfl⟩ | ⟨hp, rfl⟩
  case inr =>
    have HLR4 := Lib.hid (row_load HF.out HI4.out.box)
    have HST4 := Lib.hid (HST.out r v 0 1 w4 (HL.out.on HB4.out) HF.out HI4.out.sli.qr HQ5.out (by decide))
    have HNO := Lib.hid hp
    clear hp HST HEN HCK
    go_wp2_with (refine list_load rfl _ rfl rfl HLR4.out ?_)
    refine HST4.out.mono ?_
    rintro e w5 ⟨hx, hb⟩
    rcases hx with ⟨_, rfl⟩ | ⟨h1, _⟩
    case inr => exact absurd h1.1 HNO.out
    have HB5 := Lib.hid (HB4.out.trans (hb.mono HB4.out.size))
    obtain ⟨W6, hs6, hx6, hb6⟩ := row_var3 w5 zeroR (.slice none 0 0) zeroR_fit rfl
    have HS6 := Lib.hid hs6; have HB6 := Lib.hid (HB0.out.trans ((HB5.out.trans (hb6.mono HB5.out.size)).mono HB0.out.size))
    clear hb hs6 hx6 hb6 HST4 HLR4 HB4 HI4
    go_wp2_with (first | refine list_store rfl _ _ rfl rfl rfl HS6.out ?_)
    go_ret
    exact ⟨by first | rfl | simp, HB6.out⟩
  have HP := Lib.hid hp
  clear hp HQ5
  have hc := cellsF_of HF.out (row_range HI4.out.box)
  have c13 := hc.num; have c14 := hc.due; have c15 := hc.tr
  rw [Nat.zero_add] at c13 c14 c15
  clear hc
  have HRI0 := Lib.hid (rise_first HP.out HF.out.2)
  have hn0 := HF.out.2
  go_upto_if 44 with fail
  go_cut [9, 10] from 44 to 50 (fun s9 s10 wx => s9 = .int .i64 (if 0 < r.num then r.due else -1) ∧ s10 = .int .i64 (if 0 < r.num then r.tr else 0) ∧ Below w4.heap.size w4 wx)
  case first =>
    by_cases h0 : 0 < r.num
    · have q0 : decide (0 < r.num) = true := decide_eq_true h0
      have q0b : ¬ r.num ≤ 0 := by omega
      have HE1 : Hid ((if 0 < r.num then r.due else -1) = r.due ∧ (if 0 < r.num then r.tr else 0) = r.tr) := Lib.hid ⟨if_pos h0, if_pos h0⟩
      go_wp2_with fail
      go_quiet (fail)
      go_wp2_with fail
      go_meet
      exact ⟨by rw [HE1.out.1], by rw [HE1.out.2], bdrewN (Below.refl _ _) nq⟩
    · have q0 : decide (0 < r.num) = false := decide_eq_false h0
      have q0b : r.num ≤ 0 := by omega
      have HE1 : Hid ((if 0 < r.num then r.due else -1) = -1 ∧ (if 0 < r.num then r.tr else 0) = 0) := Lib.hid ⟨if_neg h0, if_neg h0⟩
      go_wp2_with fail
      go_meet
      exact ⟨by rw [HE1.out.1], by rw [HE1.out.2], Below.refl _ _⟩
  case rest =>
    obtain ⟨rfl, rfl, hbc⟩ := hcut
    have HRI := Lib.hid HRI0.out
    generalize (if 0 < r.num then r.due else -1) = last at *
    generalize (if 0 < r.num then r.tr else 0) = tries at *
    have HBC := Lib.hid (HB4.out.trans (hbc.mono HB4.out.size)); have HIC := Lib.hid (HI4.out.on hbc)
    have HJA : Hid (∃ j, r.j = j ∧ j.Fit) := Lib.hid ⟨_, rfl, HF.out.1⟩
    clear hbc HB4 HI4 HRI0 c13 c14 c15 hn0 HP
    go_wp2_with fail
    go_loopw [9, 10, 11, 12, 53] (fun s9 s10 s11 s12 i wr => ∃ (k : Nat) (rk : RowZ) (vk : Value) (last tries now fr : Int), k ≤ nl ∧ k ≤ 30 ∧ i = .int .i64 (k : Int) ∧ s9 = .int .i64 last ∧ s10 = .int .i64 tries ∧ s11 = .int .i64 now ∧ s12 = .int .u64 fr ∧ Hid (0 ≤ now ∧ now ≤ 253402300799) ∧ Hid (1099511627776 ≤ fr ∧ fr ≤ 1099511627776 + 2 * (k : Int)) ∧ Hid (RiseI ev rk last tries) ∧ Hid rk.Fit ∧ Hid (RowHas g rk vk wr) ∧ Hid (Below W0.heap.size W0 wr)) (fun _ _ _ _ i _ => nl - (intOf i).toNat)
    case atStart => exact ⟨0, r, v, last, tries, 0, 1099511627776, Nat.zero_le _, Nat.zero_le _, rfl, rfl, rfl, rfl, rfl, Lib.hid (by decide), Lib.hid (by decide), HRI, HF, HIC, HBC⟩
    case round =>
      clear HRI HIC HBC HF HJA HRV0
      obtain ⟨k, rk, vk, last, tries, now, fr, hk, hk30, rfl, rfl, rfl, rfl, rfl, HNW, HFR, HRI, HF, HI, HB⟩ := hrel
      by_cases hlt : k < nl
      case neg =>
        have hkn : k = nl := by omega
        subst hkn
        have HBF := Lib.hid (HB0.out.trans (HB.out.mono HB0.out.size))
        go_wp2_with fail
        go_ret
        exact ⟨by first | rfl | simp, HBF.out⟩
      obtain ⟨x, hx⟩ : ∃ x, ll[k]? = some x := ⟨_, List.getElem?_eq_getElem (by have := HLA.out.len; omega)⟩
      obtain ⟨b, o, rfl, hbl, hcs⟩ := (HLA.out.on HB.out).at_ k x hx
      have HLX := Lib.hid (loadS (act_load hcs))
      obtain ⟨W5, hs5, hx5, hb5⟩ := act_var wr x
      have HS5 := Lib.hid (storeS hs5); have HX5 := Lib.hid hx5; have HB5 := Lib.hid hb5
      have HAC : Hid (actV x = .agg #[.int .i64 x.k, .int .i64 x.now, .int .u64 x.num, .int .u64 x.fresh, .bool x.on, .bool x.ok]) := Lib.hid rfl
      have g1 : (0 : Int) ≤ (k : Int) := by omega
      have g2 : (k : Int) < (nl : Int) := by omega
      clear hx hbl hcs hs5 hx5 hb5
      by_cases hk0 : k = 30
      · have q0 : ((k : Int) == 30) = true := by simp; omega
        have HBF : Hid (Below w.heap.size w W5) := Lib.hid (HB0.out.trans ((HB.out.trans (HB5.out.mono HB.out.size)).mono HB0.out.size))
        clear hk0
        go_wp2_with (first | refine list_loadS rfl _ rfl rfl HLX.out ?_ | refine list_storeS rfl _ _ rfl rfl rfl HS5.out ?_)
        go_ret
        exact ⟨by first | rfl | simp, HBF.out⟩
      have q0 : ((k : Int) == 30) = false := by simp; omega
      have hk29 : (k : Int) ≤ 29 := by omega
      have e1 : IntKind.u64.wrap (fr + 1) = fr + 1 := by have := HFR.out; rw [IntKind.wrap_u64]; omega
      have e2 : IntKind.u64.wrap (fr + 1 + 1) = fr + 1 + 1 := by have := HFR.out; rw [IntKind.wrap_u64]; omega
      have HI5 := Lib.hid (HI.out.on HB5.out)
      have HSL0 : Hid (∀ b, vk.ownBlock = some b → b < wr.heap.size) := Lib.hid (fun b e => (HI.out.sli.lt b e).2)
      have c13 := (cellsF_of HF.out (row_range HI5.out.box)).num
      rw [Nat.zero_add] at c13
      go_upto_if 66 with (first | refine list_loadS rfl _ rfl rfl HLX.out ?_ | refine list_storeS rfl _ _ rfl rfl rfl HS5.out ?_)
      have HGA : Hid (wr.heap.size < W5.heap.size) := Lib.hid (D.Box.lt HX5.out)
      generalize hga : wr.heap.size = ga at *
      go_cut [12] from 66 to 68 (fun s12 wx => (∃ f2 : Int, s12 = .int .u64 f2 ∧ f2 ≠ rk.num ∧ 1099511627776 ≤ f2 ∧ f2 ≤ fr + 2) ∧ wx = W5)
      case first =>
        by_cases hfn : fr + 1 = rk.num
        · have q1 : (fr + 1 == rk.num) = true := by simpa using hfn
          have HE : Hid (fr + 1 + 1 ≠ rk.num ∧ 1099511627776 ≤ fr + 1 + 1 ∧ fr + 1 + 1 ≤ fr + 2) := Lib.hid (by have := HFR.out; omega)
          clear hfn
          go_wp2_with fail
          go_meet
          exact ⟨⟨_, rfl, HE.out⟩, rfl⟩
        · have q1 : (fr + 1 == rk.num) = false := by simpa using hfn
          have HE : Hid (fr + 1 ≠ rk.num ∧ 1099511627776 ≤ fr + 1 ∧ fr + 1 ≤ fr + 2) := Lib.hid (by have := HFR.out; omega)
          clear hfn
          go_wp2_with fail
          go_meet
          exact ⟨⟨_, rfl, HE.out⟩, rfl⟩
      case rest =>
        obtain ⟨⟨f2, rfl, hf2⟩, hwc⟩ := hcut
        have HF2 : Hid (f2 ≠ rk.num ∧ 1099511627776 ≤ f2 ∧ f2 ≤ 1099511627776 + 2 * ((k + 1 : Nat) : Int)) := Lib.hid (by have := HFR.out; omega)
        subst hwc
        generalize wc = wv at *
        have HGG : Hid (g < ga) := Lib.hid (D.Box.lt HI.out.box |> fun h => by rw [← hga]; exact h)
        have HGL : Hid (W0.heap.size ≤ ga) := Lib.hid (by rw [← hga]; exact HB.out.size)
        clear hga
        obtain ⟨W7, hs7, hi7, hb7⟩ := row_copy HI5.out HF.out
        have HLR5 := Lib.hid (loadS (row_load HF.out HI5.out.box))
        have HS7 := Lib.hid (storeS hs7); have HN7 := Lib.hid hi7; have HB57 := Lib.hid hb7
        have HI7 := Lib.hid (HI5.out.on hb7)
        have hx7 := D.Box.belowAll HX5.out hb7
        have HB7 : Hid (Below ga wr W7) := Lib.hid (HB5.out.trans (hb7.mono (Nat.le_of_lt HGA.out)))
        have a0 := D.Box.cell hx7 0; have a1 := D.Box.cell hx7 1; have a5 := D.Box.cell hx7 5
        rw [List.getElem?_toArray] at a0 a1 a5
        replace a0 : W7.cell? ⟨ga, 0, none⟩ = some (.int .i64 x.k) := a0
        replace a1 : W7.cell? ⟨ga, 1, none⟩ = some (.int .i64 x.now) := a1
        replace a5 : W7.cell? ⟨ga, 5, none⟩ = some (.bool x.ok) := a5
        clear hf2 hs7 hi7 hb7 hx7 c13 e1 e2 HFR HS5 HX5
        obtain ⟨ki, hki, hk3⟩ := pick3 x.k
        go_upto_if 74 with (first | refine list_loadS rfl _ rfl rfl HLR5.out ?_ | refine list_storeS rfl _ _ rfl rfl rfl HS7.out ?_)
        have HGN : Hid (ga < wv.heap.size) := Lib.hid HGA.out
        have HG7 : Hid (wv.heap.size < W7.heap.size) := Lib.hid (D.Box.lt HN7.out.box)
        have HBW : Hid (Below W0.heap.size W0 W7) := Lib.hid (HB.out.trans (HB7.out.mono HGL.out))
        clear HGA
        generalize wv.heap.size = gn at *
        have HLR7 := Lib.hid (loadS (row_load HF.out HI7.out.box))
        have HQL := Lib.hid (right_q5 HRI.out.right)
        have HSL : Hid (∀ b, vk.ownBlock = some b → b < ga) := Lib.hid HSL0.out
        go_cut [11, 15, 17, 18] from 74 to 142 (fun s11 s15 s17 s18 wx => ∃ (now' : Int) (r' : RowZ) (v' : Value) (o : List LaZ) (last' tries' : Int) (y : Value), s11 = .int .i64 now' ∧ y = s15 ∧ s17 = .int .i64 0 ∧ Done ev rk f2 last tries g gn W7 now' r' v' o last' tries' y wx)
        case first =>
          by_cases hk2 : ki < 2
          · have q2 : decide (ki < 2) = true := decide_eq_true hk2
            obtain ⟨d, hd, hd0, hd1⟩ : ∃ d : Int, (IntKind.u64.wrap x.now).tmod 500000000 = d ∧ 0 ≤ d ∧ d < 500000000 := by
              have hu : 0 ≤ IntKind.u64.wrap x.now := by rw [IntKind.wrap_u64]; omega
              generalize IntKind.u64.wrap x.now = y at *
              exact ⟨_, rfl, by rw [Int.tmod_eq_emod_of_nonneg hu]; omega, by rw [Int.tmod_eq_emod_of_nonneg hu]; omega⟩
            have hd2 : wrap64 d = d := by unfold wrap64; omega
            have hsum : wrap64 (now + d) = now + d := by have := HNW.out; unfold wrap64; omega
            have hk2b : ¬ 2 ≤ ki := by omega
            clear hk3 a5
            go_upto_region 23 with fail
            obtain ⟨nw, hnw, HNW2⟩ : ∃ nw : Int, (if (253402300799 : Int) < now + d then 253402300799 else now + d) = nw ∧ Hid (0 ≤ nw ∧ nw ≤ 253402300799) := ⟨_, rfl, Lib.hid (by have := HNW.out; split <;> omega)⟩
            rw [hnw]
            have htb : D.timeB nw = true := decide_eq_true (by unfold D.TimeZ; exact HNW2.out)
            have HTB := Lib.hid htb
            have HSTK := Lib.hid (HST.out rk vk nw f2 W7 (HL.out.on HBW.out) HF.out HI7.out.sli.qr HQL.out (by have := HF2.out.2.1; omega))
            clear hnw hd hd0 hd1 hd2 hsum hk2 q2 hk2b htb hki a0 a1
            go_wp2_with (first | refine list_loadS rfl _ rfl rfl HLR7.out ?_)
            refine HSTK.out.mono ?_
            rintro e w8 ⟨hx, hb⟩
            rcases hx with ⟨hno, _⟩ | ⟨_, lo, nx, z, y, ho, rfl, hrt⟩
            · exact absurd ⟨HRI.out.right, HTB.out, by have := HF2.out.2.1; omega⟩ hno
            obtain ⟨hnx, last', tries', htold, hri⟩ := rise_step (fresh := f2) HRI.out (by have := HF2.out.2.1; omega) ho
            obtain ⟨hj', hp', hn'⟩ := step_same f2 rk lo nx
            generalize hs : stepZ f2 rk lo nx = s at *
            obtain ⟨r', o'⟩ := s
            simp only at hrt htold hri hj' hp' hn'
            have hf' : r'.Fit := ⟨by rw [hj']; exact HF.out.1, hri.num0⟩
            obtain ⟨W9, v', hs9, hi9, hv9, hl9, hb9⟩ := row_got (B0 := gn) (w0 := W7) (HN7.out.on hb) HF.out hf' hrt HG7.out (hb.mono (Nat.le_of_lt HG7.out)) (Nat.le_refl _)
            have HD := Lib.hid (show Done ev rk f2 last tries g gn W7 nw r' v' o' last' tries' y W9 from ⟨HNW2.out, htold, hri, hj', hp', hf', hi9, fun e => by have := hv9 g e; have := HGG.out; have := HGN.out; have := HG7.out; omega, hl9, hb9⟩)
            have HS9 := Lib.hid (storeS hs9)
            have c12 := (cellsF_of hf' (row_range hi9.box)).nx
            rw [Nat.zero_add, hn'] at c12
            have HNX := Lib.hid hnx
            clear hs hrt htold hri hj' hp' hn' hf' hs9 hi9 hv9 hl9 hb9 hb ho hnx HSTK HLR7
            by_cases hm : nx = -1
            · have q3 : (nx != -1) = false := by simp [hm]
              clear hm
              go_wp2_with (first | refine list_storeS rfl _ _ rfl rfl rfl HS9.out ?_)
              go_meet
              exact ⟨_, _, _, _, _, _, _, rfl, rfl, rfl, HD.out⟩
            · have q3 : (nx != -1) = true := by simpa using hm
              have q4 : ¬ nx ≤ nw := by have := HNX.out; omega
              have q5 : decide (nx ≤ nw) = false := decide_eq_false q4
              have q6 : nw < nx := by omega
              clear hm
              go_wp2_with (first | refine list_storeS rfl _ _ rfl rfl rfl HS9.out ?_)
              go_meet
              exact ⟨_, _, _, _, _, _, _, rfl, rfl, rfl, HD.out⟩
          · have hk2e : ki = 2 := by omega
            have hk2b : 2 ≤ ki := by omega
            clear hk3 hk2e
            by_cases h0 : 0 < rk.num
            · have HENK := Lib.hid (HEN.out rk vk rk.num f2 x.ok W7 (HL.out.on HBW.out) HF.out HI7.out.sli.qr HQL.out (by have := HF2.out.2.1; omega))
              have c13 := (cellsF_of HF.out (row_range HI7.out.box)).num
              rw [Nat.zero_add] at c13
              have q3 : decide (0 < rk.num) = true := decide_eq_true h0
              have q3b : ¬ rk.num ≤ 0 := by omega
              have HH0 := Lib.hid h0
              go_upto_region 28 with fail
              clear q3 q3b h0 hk2 hk2b hki a0 a1
              go_wp2_with (first | refine list_loadS rfl _ rfl rfl HLR7.out ?_)
              refine HENK.out.mono ?_
              rintro e w8 ⟨hx, hb⟩
              rcases hx with ⟨hno, _⟩ | ⟨_, hno, _⟩ | ⟨_, _, _, z, y, rfl, hrt⟩
              · exact absurd ⟨HRI.out.right, by have := HF2.out.2.1; omega, HF2.out.1⟩ hno
              · rcases hno with hno | hno
                · have := HH0.out; omega
                · exact absurd rfl hno
              obtain ⟨hgo, last', tries', htold, hri⟩ := rise_end (ok := x.ok) (fresh := f2) HRI.out (by have := HF2.out.2.1; omega) HH0.out
              obtain ⟨hj', hp'⟩ := end_same x.ok f2 rk
              generalize hs : endZ x.ok f2 rk = s at *
              obtain ⟨r', o', gone⟩ := s
              simp only at hrt htold hri hj' hp' hgo
              have hf' : r'.Fit := ⟨by rw [hj']; exact HF.out.1, hri.num0⟩
              obtain ⟨W9, v', hs9, hi9, hv9, hl9, hb9⟩ := row_got (B0 := gn) (w0 := W7) (HN7.out.on hb) HF.out hf' hrt HG7.out (hb.mono (Nat.le_of_lt HG7.out)) (Nat.le_refl _)
              have HD := Lib.hid (show Done ev rk f2 last tries g gn W7 now r' v' o' last' tries' y W9 from ⟨HNW.out, htold, hri, hj', hp', hf', hi9, fun e => by have := hv9 g e; have := HGG.out; have := HGN.out; have := HG7.out; omega, hl9, hb9⟩)
              have HS9 := Lib.hid (storeS hs9)
              have c13' := (cellsF_of hf' (row_range hi9.box)).num
              rw [Nat.zero_add] at c13'
              have c1 := row_once HF.out HI7.out.box
              have c1' : W9.cell? ⟨g, 1, none⟩ = some (.bool rk.j.o) := (hb9.cell (p := ⟨g, 1, none⟩) (by show g < gn; have := HGG.out; have := HGN.out; omega)).trans c1
              obtain ⟨A9, k9, hy9⟩ : ∃ A c, y = .slice A o'.length c := by obtain ⟨A, c, h, _⟩ := hl9; exact ⟨A, c, h⟩
              clear c1 c13 a5 hs hrt htold hri hj' hp' hf' hs9 hi9 hv9 hl9 hb9 hb HENK HLR7
              cases gone with
              | false =>
                clear hgo c1' c13' hy9
                go_wp2_with (first | refine list_storeS rfl _ _ rfl rfl rfl HS9.out ?_)
                go_meet
                exact ⟨_, _, _, _, _, _, _, rfl, rfl, rfl, HD.out⟩
              | true =>
                obtain ⟨rfl, ho1, hn1⟩ := hgo rfl
                rw [ho1] at c1'
                rw [hn1] at c13'
                subst hy9
                clear hgo ho1 hn1
                go_wp2_with (first | refine list_storeS rfl _ _ rfl rfl rfl HS9.out ?_)
                go_meet
                exact ⟨_, _, _, _, _, _, _, rfl, rfl, rfl, HD.out⟩
            · have q3 : decide (0 < rk.num) = false := decide_eq_false h0
              have q3b : rk.num ≤ 0 := by omega
              have HX := Lib.hid (show Done ev rk f2 last tries g gn W7 now rk vk [] last tries (.slice none 0 0) W7 from ⟨HNW.out, .inl ⟨rfl, rfl, rfl⟩, HRI.out, rfl, rfl, HF.out, HN7.out, HI.out.off, .nil _, Below.refl _ _⟩)
              have c13 := (cellsF_of HF.out (row_range HI7.out.box)).num
              rw [Nat.zero_add] at c13
              go_wp2_with fail
              go_meet
              exact ⟨_, _, _, _, _, _, _, rfl, rfl, rfl, HX.out⟩
        case rest =>
          obtain ⟨nw, r', v', o', last', tries', y, rfl, hys, rfl, HD0⟩ := hcut
          subst hys
          have HD := Lib.hid HD0
          clear HD0 hki hk3 a0 a1 a5 HLR7
          generalize wc = wx at *
          try clear HAC
          try clear HLX
          try clear HLR5
          try clear HS7
          try clear HS5
          try clear HX5
          try clear HI5
          try clear HB5
          try clear hk29
          try clear q0
          try clear g1
          try clear g2
          try clear HQL
          try clear HNW
          try clear HG7
          try clear HI7x
          have HBX : Hid (Below W0.heap.size W0 wx) := Lib.hid (HBW.out.trans (HD.out.below.mono (by have := HGL.out; have := HGN.out; omega)))
          have HIX : Hid (RowHas g rk vk wx) := Lib.hid ⟨D.Box.below HI7.out.box HD.out.below (by have := HGG.out; have := HGN.out; omega), SliT.kept HI7.out.sli HD.out.below (fun b e => by have := HSL.out b e; have := HGN.out; omega), HI7.out.off⟩
          have HCKK := Lib.hid (HCK.out r' v' wx (HL.out.on HBX.out) HD.out.fit HD.out.row.sli.qr)
          have HLR' := Lib.hid (loadS (row_load HD.out.fit HD.out.row.box))
          obtain ⟨A9, k9, hy9, h19⟩ : ∃ A c, y = .slice A o'.length c ∧ o'.length ≤ 1 := by obtain ⟨A, c, h, h1, h2, _⟩ := HD.out.las; exact ⟨A, c, h, by omega⟩
          have HY9 := Lib.hid hy9
          rw [hy9]
          clear hy9
          obtain ⟨nm, ob, ja, jb, jc, jd, je, jt, jov, jca, jre, hjj⟩ : ∃ nm ob ja jb jc jd je jt jov jca jre, rk.j = ⟨nm, ob, [ja, jb, jc, jd, je], jt, jov, jca, jre⟩ := by
            obtain ⟨⟨_, _, hl5⟩, _⟩ := HF.out
            obtain ⟨a, b, c, d, e, hl5⟩ := list_five hl5
            exact ⟨rk.j.n, rk.j.o, a, b, c, d, e, rk.j.t, rk.j.ov, rk.j.ca, rk.j.re, by rw [← hl5]⟩
          have HJJ := Lib.hid hjj
          clear hjj
          go_wp2_with (first | refine list_loadS (t := 33) rfl _ rfl rfl HLR'.out ?_)
          refine HCKK.out.mono ?_
          rintro e w10 ⟨⟨hp, rfl⟩ | ⟨hp, rfl⟩, hb⟩
          case inr => exact absurd HD.out.rise.right hp
          have HBT := Lib.hid (HBX.out.trans (hb.mono HBX.out.size)); have HIT := Lib.hid (HIX.out.on hb); have HNT := Lib.hid (HD.out.row.on hb)
          have HLT := Lib.hid (HD.out.las.on hb)
          have HJ1 := Lib.hid (loadS (row_job HD.out.fit HNT.out.box)); have HJ2 := Lib.hid (loadS (row_job HF.out HIT.out.box))
          rw [HD.out.j, HJJ.out, jobV_five] at HJ1
          rw [HJJ.out, jobV_five] at HJ2
          have hcn := cellsF_of HD.out.fit (row_range HNT.out.box); have hco := cellsF_of HF.out (row_range HIT.out.box)
          have p11 := hcn.pa; have q11 := hco.pa
          rw [Nat.zero_add] at p11 q11
          rw [HD.out.pa] at p11
          have q9 : decide ((1 : Int) < ((o'.length : Nat) : Int)) = false := decide_eq_false (by omega)
          have q9b : ¬ ((1 : Int) < ((o'.length : Nat) : Int)) := by omega
          have q9c : ((o'.length : Nat) : Int) ≤ 1 := by omega
          clear hp hb HCKK HLR' hcn hco HBX HIX
          generalize hpk : rk.pa = pk at *
          go_upto_region 33 with (first | refine list_loadwS (t := 28) _ rfl rfl HJ1.out (by rfl) ?_ | refine list_loadwS (t := 28) _ rfl rfl HJ2.out (by rfl) ?_)
          have HTS : Hid (0 = o'.length → last = last' ∧ tries = tries') := Lib.hid (fun h => by
            rcases HD.out.told with ⟨_, h1, h2⟩ | ⟨t, tr, ho, _⟩
            · exact ⟨h1.symm, h2.symm⟩
            · rw [ho] at h; simp at h)
          clear HJ1 HJ2 p11 q11 q9 q9b q9c hpk
          go_wp2_with fail
          obtain ⟨n, hn⟩ : ∃ n, o'.length = n := ⟨_, rfl⟩
          have HNO := Lib.hid hn
          rw [hn] at HTS h19 ⊢
          clear hn
          go_loopw [9, 10, 167] (fun s9 s10 i wz => ∃ (kk : Nat) (lk tk : Int), kk ≤ n ∧ i = .int .i64 (kk : Int) ∧ s9 = .int .i64 lk ∧ s10 = .int .i64 tk ∧ Hid ((kk = 0 → lk = last ∧ tk = tries) ∧ (kk = n → lk = last' ∧ tk = tries')) ∧ Hid (Below w10.heap.size w10 wz)) (fun _ _ i _ => n - (intOf i).toNat)
          case atStart => exact ⟨0, last, tries, Nat.zero_le _, rfl, rfl, rfl, Lib.hid ⟨fun _ => ⟨rfl, rfl⟩, HTS.out⟩, Lib.hid (Below.refl _ _)⟩
          case round =>
            obtain ⟨kk, lk, tk, hkk, rfl, rfl, rfl, HLK, HBI⟩ := hrel
            try clear HTS
            try clear HNW
            try clear HLA
            try clear HCK
            try clear HST
            try clear HEN
            try clear HL
            try clear HSL
            try clear HSL0
            try clear HQL
            try clear HBW
            try clear HG7
            try clear HGN
            try clear HGG
            try clear HB7
            try clear HB57
            try clear HN7
            try clear HI7
            try clear HI
            try clear HB
            try clear HB0
            try clear hnl
            try clear hcl
            by_cases hlt2 : kk < n
            · rcases HD.out.told with ⟨ho, _⟩ | ⟨t, tr, ho, e1, e2, e3, hcase, hre, hl', ht'⟩
              · have := HNO.out; rw [ho] at this; simp at this; omega
              have hk0' : kk = 0 := by omega
              obtain ⟨b9, o9, c9, hy, hc9, hbl9, hload⟩ := la_load (w := w10) (y := y) (by rw [← ho]; exact HLT.out)
              have hyy := HY9.out
              rw [hy, HNO.out] at hyy
              injection hyy with i1 i2 i3
              subst i1
              obtain ⟨W5, hs5, hx5, hb5⟩ := la_var wr ⟨f2, rk.j.n, t, tr⟩
              have HLL : Hid (LoadS wr 48 b9 (o9 + kk * 4) (laV ⟨f2, rk.j.n, t, tr⟩)) := Lib.hid (loadS (by rw [show o9 + kk * 4 = o9 by omega]; exact hload wr HBI.out))
              have HS5 := Lib.hid (storeS hs5)
              have HLW : Hid (LoadS W5 48 wr.heap.size 0 (.agg #[.int .u64 f2, .int .u32 rk.j.n, .int .i64 t, .int .i64 tr])) := Lib.hid (loadS (load_of hx5 0 4 (laC ⟨f2, rk.j.n, t, tr⟩) (fun j u hj => by rw [Nat.zero_add]; exact hj) und_launch size_launch rfl))
              have l0 := D.Box.cell hx5 0; have l1 := D.Box.cell hx5 1; have l2 := D.Box.cell hx5 2; have l3 := D.Box.cell hx5 3
              rw [List.getElem?_toArray] at l0 l1 l2 l3
              replace l0 : W5.cell? ⟨wr.heap.size, 0, none⟩ = some (.int .u64 f2) := l0
              replace l1 : W5.cell? ⟨wr.heap.size, 1, none⟩ = some (.int .u32 rk.j.n) := l1
              replace l2 : W5.cell? ⟨wr.heap.size, 2, none⟩ = some (.int .i64 t) := l2
              replace l3 : W5.cell? ⟨wr.heap.size, 3, none⟩ = some (.int .i64 tr) := l3
              have HB5' := Lib.hid (HBI.out.trans (hb5.mono HBI.out.size))
              have hcn := cellsF_of HD.out.fit (row_range (HNT.out.on HB5'.out).box); have hco := cellsF_of HF.out (row_range (HIT.out.on HB5'.out).box)
              have n13 := hcn.num; have n14 := hcn.due; have n15 := hcn.tr; have r0' := hco.n; have r10 := hco.re
              rw [Nat.zero_add] at n13 n14 n15 r10
              rw [e1] at n13
              rw [e2] at n14
              rw [e3] at n15
              obtain ⟨x1, x2⟩ := HLK.out.1 hk0'
              subst x1 x2
              have g1 : (0 : Int) ≤ (kk : Int) := by omega
              have g2 : (kk : Int) < (n : Int) := by omega
              have HEND : Hid (kk + 1 = n → t = last' ∧ tr = tries') := Lib.hid (fun _ => ⟨hl'.symm, ht'.symm⟩)
              have hre1 : ¬ rk.j.re < tr := by omega
              have hre2 : decide (rk.j.re < tr) = false := decide_eq_false hre1
              have hre3 : tr ≤ rk.j.re := hre
              have hkk1 : kk + 1 ≤ n := by omega
              have HTR0 : Hid (0 < tr → tr = tk + 1 → 0 ≤ tk ∧ tk + 1 ≤ 9000000000000000000) := Lib.hid (fun h1 h2 => by
                have h3 := hre3
                have h4 := ((hold_iff.1 (err_ok HRI.out.right.job).1).2.2.2.2).2
                omega)
              generalize rk.j.re = re at *
              generalize rk.j.n = nmx at *
              clear ho e1 e2 e3 hl' ht' hy i2 i3 hload hs5 hx5 hb5 hcn hco HLK hc9 hbl9 hre hk0'
              try clear HD
              try clear HIT
              try clear HNT
              try clear HF
              try clear HBT
              try clear HG0
              try clear HGL
              try clear HRI
              try clear HF2
              try clear HLT
              try clear HJJ
              try clear HY9
              try clear HNO
              try clear HBI
              try clear hk
              try clear hk30
              try clear hk0
              try clear hlt
              have HCA := Lib.hid hcase
              have HTRW : Hid (0 < tr → tr = tk + 1 → wrap64 (tk + 1) = tr) := Lib.hid (fun h1 h2 => by have := HTR0.out h1 h2; unfold wrap64; omega)
              clear hcase HTR0
              go_upto_region 38 with (first | refine list_loadS (t := 48) rfl _ rfl rfl HLL.out ?_ | refine list_storeS (t := 48) rfl _ _ rfl rfl rfl HS5.out ?_ | refine list_loadwS (t := 48) _ rfl rfl HLW.out (by rfl) ?_)
              rcases HCA.out with ⟨htr0, hlt3⟩ | ⟨h0t, rfl, htt⟩
              · have z1 : (tr == 0) = true := by simpa using htr0
                have z2 : decide (0 < tr) = false := decide_eq_false (by omega)
                have z2b : tr ≤ 0 := by omega
                have y1 : ¬ t ≤ lk := by omega
                have y2 : decide (t ≤ lk) = false := decide_eq_false y1
                clear htr0
                go_wp2_with fail
                go_quiet (fail)
                go_wp2_with fail
                go_roundw
                case rel => exact ⟨kk + 1, t, tr, hkk1, by go_num, rfl, rfl, Lib.hid ⟨fun h => by omega, HEND.out⟩, Lib.hid (bdrewN HB5'.out _)⟩
                case measure => simp [intOf]; omega
              · have y0 : (tr == 0) = false := by simp; omega
                have y1 : decide (0 < tr) = true := decide_eq_true h0t
                have y1b : ¬ tr ≤ 0 := by omega
                have y2 : (t != t) = false := by simp
                have y3 : wrap64 (tk + 1) = tr := HTRW.out h0t htt
                have y4 : (tr != tr) = false := by simp
                clear htt
                go_wp2_with fail
                go_quiet (fail)
                go_wp2_with fail
                go_roundw
                case rel => exact ⟨kk + 1, t, tr, hkk1, by go_num, rfl, rfl, Lib.hid ⟨fun h => by omega, HEND.out⟩, Lib.hid (bdrewN HB5'.out _)⟩
                case measure => simp [intOf]; omega
            · have hkn' : kk = n := by omega
              obtain ⟨x1, x2⟩ := HLK.out.2 hkn'
              subst x1 x2
              obtain ⟨W11, hl11, hs11, hi11, hb11⟩ := row_move (B0 := W0.heap.size) (w0 := W0) (HIT.out.on HBI.out) HF.out HD.out.fit (HNT.out.on HBI.out) HD.out.off (HBT.out.trans (HBI.out.mono HBT.out.size)) HG0.out
              have HL11 := Lib.hid (loadS hl11); have HS11 := Lib.hid (storeS hs11); have HI11 := Lib.hid hi11; have HB11 := Lib.hid hb11
              have HREL : Hid ((0 ≤ nw ∧ nw ≤ 253402300799) ∧ (1099511627776 ≤ f2 ∧ f2 ≤ 1099511627776 + 2 * ((k + 1 : Nat) : Int)) ∧ RiseI ev r' lk tk ∧ r'.Fit ∧ RowHas g r' v' W11 ∧ Below W0.heap.size W0 W11 ∧ k + 1 ≤ 30) := Lib.hid ⟨HD.out.now, ⟨HF2.out.2.1, HF2.out.2.2⟩, HD.out.rise, HD.out.fit, hi11, hb11, by omega⟩
              have hnl2 : ¬ (kk : Int) < (n : Int) := by omega
              have hk1 : k + 1 ≤ nl := by omega
              clear hl11 hs11 hi11 hb11 HLK HI11 HB11
              try clear HD
              try clear HIT
              try clear HNT
              try clear HF
              try clear HBT
              try clear HG0
              try clear HGL
              try clear HRI
              try clear HF2
              try clear HLT
              try clear HJJ
              try clear HY9
              try clear HNO
              try clear HBI
              try clear hlt2
              go_wp2_with (first | refine list_loadS (t := 33) rfl _ rfl rfl HL11.out ?_ | refine list_storeS (t := 33) rfl _ _ rfl rfl rfl HS11.out ?_)
              go_roundw
              case rel => exact ⟨k + 1, r', v', lk, tk, nw, f2, hk1, HREL.out.2.2.2.2.2.2, by go_num, rfl, rfl, rfl, rfl, Lib.hid HREL.out.1, Lib.hid HREL.out.2.1, Lib.hid HREL.out.2.2.1, Lib.hid HREL.out.2.2.2.1, Lib.hid HREL.out.2.2.2.2.1, Lib.hid HREL.out.2.2.2.2.2.1⟩
              case measure => simp [intOf]; omega
end Go.Proofs.YthghcffibljclaaDoor
