/- The law SessionOrder: what two clients ask comes to the same in whatever order: walked. -/
import Derived.Test.YtgnfoncokjglbaaWWakes
import Derived.Test.YtgnfoncokjglbaaWSame
import Derived.Deep.RegionHeld3
namespace Go.Proofs.Ytgnfoncokjglbaa
open Go.RowKit

/-- An asking as it stands in memory. -/
def askV (a q e : Int) (v : Value) : Value := .agg #[.int .i64 a, .int .u64 q, .int .i64 e, v]
theorem fewIs_sr {w' : World} {base : Nat} {A : Option Addr} {n c : Nat} {ms : List SesM} (h : OwnS w' base (.slice A n c) ms) : SR w' A n c ms ∧ ms.length = n := by
  obtain ⟨A', c', e, h1⟩ := h.sr
  cases e
  exact ⟨h1, rfl⟩
theorem fewR_fit {e : Int} {xn : List Int} (h : RepZ.Fit ⟨e, xn⟩) : RepZ.Fit ⟨e, xn.take 14⟩ := ⟨h.1, fun x hx => h.2 x (List.mem_of_mem_take hx)⟩
theorem order_same {l : List SesZ} {a p b q : Int} {r s : RepZ} (hab : a ≠ b) (h1 : keepE l a p r = 0) (h2 : keepE l b q s = 0) :
    keepE (keepS l a p r) b q s = 0 ∧ keepE (keepS l b q s) a p r = 0 ∧ keepS (keepS l a p r) b q s = keepS (keepS l b q s) a p r := by
  obtain ⟨t, ht, rfl⟩ := tri_of (keep_may h1)
  obtain ⟨a1, r1, q1, e1, m1⟩ := keep_rows ht h1
  obtain ⟨a2, r2, q2, e2, m2⟩ := keep_rows ht h2
  have k1 : keepE (t.put a (some (p, r))).rows b q s = 0 := keep_zero m1 a2 r2 (by rw [Tri.get_put_other t a b _ a1.1 a1.2.1 a2.1 a2.2.1 hab]; exact q2)
  have k2 : keepE (t.put b (some (q, s))).rows a p r = 0 := keep_zero m2 a1 r1 (by rw [Tri.get_put_other t b a _ a2.1 a2.2.1 a1.1 a1.2.1 (Ne.symm hab)]; exact q1)
  rw [e1, e2]
  refine ⟨k1, k2, ?_⟩
  rw [(keep_rows m1 k1).2.2.2.1, (keep_rows m2 k2).2.2.2.1, Tri.put_comm t a b _ _ a1.1 a1.2.1 a2.1 a2.2.1 hab]
theorem order_one {l : List SesZ} {a p q : Int} {r s : RepZ} (h1 : keepE l a p r = 0) (h2 : keepE l a q s = 0) : p = q := by
  obtain ⟨t, ht, rfl⟩ := tri_of (keep_may h1)
  rw [(keep_rows ht h1).2.2.1, (keep_rows ht h2).2.2.1]
set_option maxRecDepth 100000 in
set_option maxHeartbeats 8000000 in
theorem order_law (A : Option Addr) (n c : Nat) (ms : List SesM) (ac aq ae bc bq be : Int) (av bv : Value) (an bn : List Int) (w : World) (h : SR w A n c ms) (hac : -9223372036854775808 ≤ ac ∧ ac ≤ 9223372036854775807) (hbc : -9223372036854775808 ≤ bc ∧ bc ≤ 9223372036854775807) (ha : NR w av an) (hb : NR w bv bn) (hfa : RepZ.Fit ⟨ae, an⟩) (hfb : RepZ.Fit ⟨be, bn⟩) :
    Calls Try.prog 6 #[.agg #[.slice A n c], askV ac aq ae av, askV bc bq be bv] w fun e w' => e = .returned (.bool true) ∧ Below w.heap.size w w' := by
  unfold askV
  obtain ⟨V0, hV0⟩ : ∃ V0 : World, V0 = (w.alloc (.cells #[.slice A n c] 24)).alloc (.cells #[.int .i64 ac, .int .u64 aq, .int .i64 ae, av] 37) := ⟨_, rfl⟩
  have hb0 : Below w.heap.size w (V0.alloc (.cells #[.int .i64 bc, .int .u64 bq, .int .i64 be, bv] 37)) := by rw [hV0]; exact ((new_below w _).alloc (by simp) _).alloc (by simp; omega) _
  have hx0 : SBox (V0.alloc (.cells #[.int .i64 bc, .int .u64 bq, .int .i64 be, bv] 37)) w.heap.size 24 #[.slice A n c] := by rw [hV0]; exact ((SBox.new w _ _).alloc _).alloc _
  have hx1 : SBox (V0.alloc (.cells #[.int .i64 bc, .int .u64 bq, .int .i64 be, bv] 37)) (w.heap.size + 1) 37 #[.int .i64 ac, .int .u64 aq, .int .i64 ae, av] := by
    have := SBox.new (w.alloc (.cells #[.slice A n c] 24)) 37 #[.int .i64 ac, .int .u64 aq, .int .i64 ae, av]
    rw [World.size_alloc, ← hV0] at this
    exact this.alloc _
  have hx2 : SBox (V0.alloc (.cells #[.int .i64 bc, .int .u64 bq, .int .i64 be, bv] 37)) (w.heap.size + 1 + 1) 37 #[.int .i64 bc, .int .u64 bq, .int .i64 be, bv] := by
    have := SBox.new V0 37 #[.int .i64 bc, .int .u64 bq, .int .i64 be, bv]
    rwa [show V0.heap.size = w.heap.size + 1 + 1 by rw [hV0]; simp] at this
  have hsz : (V0.alloc (.cells #[.int .i64 bc, .int .u64 bq, .int .i64 be, bv] 37)).heap.size = w.heap.size + 3 := by rw [hV0]; simp
  obtain ⟨W0, hW0⟩ : ∃ W0 : World, W0 = V0.alloc (.cells #[.int .i64 bc, .int .u64 bq, .int .i64 be, bv] 37) := ⟨_, rfl⟩
  rw [← hW0] at hb0 hx0 hx1 hx2 hsz
  rw [hV0] at hW0
  have HB0 := Lib.hid hb0; have HX0 := Lib.hid hx0; have HX1 := Lib.hid hx1; have HX2 := Lib.hid hx2; have HSZ := Lib.hid hsz
  have HT := Lib.hid (h.on hb0); have HNA := Lib.hid (ha.on hb0); have HNB := Lib.hid (hb.on hb0)
  have HAC := Lib.hid hac; have HBC := Lib.hid hbc; have HFA := Lib.hid hfa; have HFB := Lib.hid hfb
  have HNN := Lib.hid h.len
  clear hb0 hx0 hx1 hx2 hsz h ha hb hV0 hac hbc hfa hfb
  go_enter Try.func6, Try.ntmps6
  go_wp2_with fail
  rw [← hW0]
  clear hW0
  refine (wakes_any W0).mono ?_
  rintro y w1 ⟨rfl, hb1⟩
  have HB1 := Lib.hid hb1
  have c0 := (HX0.out.on hb1).one
  have HFW := Lib.hid (few_any A n c ms w1 (HT.out.on hb1))
  clear hb1
  go_wp2_with fail
  refine HFW.out.mono ?_
  rintro y w2 ⟨⟨A2, c2, ms2, rfl, ho2, hl2⟩, hb2⟩
  have HB2 := Lib.hid (HB1.out.trans (hb2.mono HB1.out.size))
  generalize hlen : ms2.length = n2 at *
  have HO2 := Lib.hid ho2
  have HZ2 := Lib.hid HB1.out.size
  have HL2 := Lib.hid hl2
  have HZ3 := Lib.hid hb2.size
  generalize fewL (ms.map (·.1)) = ls at *
  clear hb2 ho2 hl2 hlen c0
  go_upto_region 4 with fail
  have HBW := Lib.hid (HB2.out.alloc HB2.out.size (.cells #[.slice A2 n2 c2] 24))
  have HXS := Lib.hid (SBox.new w2 24 #[.slice A2 n2 c2])
  have HOW := Lib.hid (HO2.out.on (new_below w2 (.cells #[.slice A2 n2 c2] 24)))
  have HZS := Lib.hid (show w.heap.size + 3 ≤ w2.heap.size by have := HSZ.out; have := HZ2.out; have := HZ3.out; omega)
  obtain ⟨W, hW⟩ : ∃ W : World, W = w2.alloc (.cells #[.slice A2 n2 c2] 24) := ⟨_, rfl⟩
  have HWZ : Hid (W.heap.size = w2.heap.size + 1) := Lib.hid (by rw [hW]; simp)
  rw [← hW] at HBW HXS HOW ⊢
  clear hW
  have HC := Lib.hid (fun (W' : World) (hW : Below W.heap.size W W') => (⟨by
    obtain ⟨a0, a1, a2, a3⟩ := ((HX1.out.on HBW.out).on hW).four
    obtain ⟨b0, b1, b2, b3⟩ := ((HX2.out.on HBW.out).on hW).four
    exact ⟨a2, a3, b2, b3⟩⟩ : PLift (W'.cell? ⟨w.heap.size + 1, 2, none⟩ = some (.int .i64 ae) ∧ W'.cell? ⟨w.heap.size + 1, 3, none⟩ = some av ∧ W'.cell? ⟨w.heap.size + 1 + 1, 2, none⟩ = some (.int .i64 be) ∧ W'.cell? ⟨w.heap.size + 1 + 1, 3, none⟩ = some bv)).down)
  have HRA := Lib.hid (fun W' (hW : Below W.heap.size W W') => reply_any ae av an W' ((HNA.out.on HBW.out).on hW))
  have HRB := Lib.hid (fun W' (hW : Below W.heap.size W W') => reply_any be bv bn W' ((HNB.out.on HBW.out).on hW))
  have HFA' := Lib.hid (fewR_fit HFA.out); have HFB' := Lib.hid (fewR_fit HFB.out)
  generalize an.take 14 = ax at *
  generalize bn.take 14 = bx at *
  go_cut [] from 18 to 25 (fun wx => Below w.heap.size w wx ∧ (∃ A1 n1 c1 A3 n3 c3, SBox wx (w.heap.size + 1) 37 #[.int .i64 ac, .int .u64 aq, .int .i64 ae, .slice A1 n1 c1] ∧ SBox wx (w.heap.size + 1 + 1) 37 #[.int .i64 bc, .int .u64 bq, .int .i64 be, .slice A3 n3 c3] ∧ NR wx (.slice A1 n1 c1) ax ∧ NR wx (.slice A3 n3 c3) bx) ∧ SBox wx w2.heap.size 24 #[.slice A2 n2 c2] ∧ OwnS wx w1.heap.size (.slice A2 n2 c2) ms2 ∧ W.heap.size ≤ wx.heap.size)
  case first =>
    have hBE := Below.refl W.heap.size W
    obtain ⟨a2, a3, b2, b3⟩ := HC.out _ hBE
    go_region_with (first
      | (go_at_call 13
         (with_reducible first | refine (HRA.out _ hBE).mono ?_ | refine (HRA.out _ hBE.drew).mono ?_)
         rintro y wA ⟨uA, rfl, hA, hwA⟩
         have hwA' : Below W.heap.size W wA := Below.trans (by first | exact hBE | exact hBE.drew) (hwA.mono (by first | exact hBE.size | exact hBE.drew.size))
         replace hBE := hwA'
         obtain ⟨AA, cA, rfl, _⟩ := hA.nr
         have HAA : Hid (OwnN wA W.heap.size (.slice AA ax.length cA) ax) := Lib.hid (owns_mono hA (by first | exact Nat.le_refl _ | (have := hwA.size; have := hwA'.size; simp; done) | simp))
         clear a2 a3 b2 b3 hA hwA hwA'
         obtain ⟨a2, a3, b2, b3⟩ := HC.out _ hBE)
      | (go_at_call 13
         (with_reducible first | refine (HRB.out _ hBE).mono ?_ | refine (HRB.out _ hBE.drew).mono ?_)
         rintro y wB ⟨uB, rfl, hB, hwB⟩
         have hwB' : Below W.heap.size W wB := Below.trans (by first | exact hBE | exact hBE.drew) (hwB.mono (by first | exact hBE.size | exact hBE.drew.size))
         have HBA : Hid (W.heap.size ≤ wA.heap.size) := Lib.hid hBE.size
         replace hBE := hwB'
         obtain ⟨AB, cB, rfl, _⟩ := hB.nr
         have HBB : Hid (OwnN wB W.heap.size (.slice AB bx.length cB) bx) := Lib.hid (owns_mono hB (by have := HBA.out; first | exact this | simpa using this))
         have HAB : Hid (OwnN wB W.heap.size (.slice AA ax.length cA) ax) := Lib.hid (owns_on HAA.out (show Below wA.heap.size wA wB from ⟨hwB.os, hwB.tape, hwB.output, hwB.size, hwB.block⟩))
         clear a2 a3 b2 b3 hB hwB hwB'
         obtain ⟨a2, a3, b2, b3⟩ := HC.out _ hBE
         have hxa := (HX1.out.on HBW.out).on hBE
         have hxb := (HX2.out.on HBW.out).on hBE
         have hf1 := hxa.frozen 2; have hf2 := hxa.frozen 3; have hf3 := hxb.frozen 2; have hf4 := hxb.frozen 3
         have HXA := Lib.hid hxa; have HXB := Lib.hid hxb
         clear hxa hxb))
    all_goals (
      go_wp2_with fail
      go_meet
      have hz0 := HZS.out
      have hz1 := HWZ.out
      have hz2 := hBE.size
      have hz3 : w.heap.size + 3 ≤ w1.heap.size := by have := HSZ.out; have := HZ2.out; omega
      exact ⟨(((((HB0.out.trans ((HBW.out.trans (hBE.mono HBW.out.size)).mono HB0.out.size)).setCell (by show w.heap.size ≤ w.heap.size + 1; omega) _).setCell (by show w.heap.size ≤ w.heap.size + 1; omega) _).setCell (by show w.heap.size ≤ w.heap.size + 1 + 1; omega) _).setCell (by show w.heap.size ≤ w.heap.size + 1 + 1; omega) _), ⟨_, _, _, _, _, _, (((HXA.out.set 2 _).set 3 _).far (by omega) _).far (by omega) _, (((HXB.out.far (by omega) _).far (by omega) _).set 2 _).set 3 _, OwnN.nr (ownsRow_setCell_below (ownsRow_setCell_below (ownsRow_setCell_below (ownsRow_setCell_below HAB.out (by show w.heap.size + 1 < _; omega) _) (by show w.heap.size + 1 < _; omega) _) (by show w.heap.size + 1 + 1 < _; omega) _) (by show w.heap.size + 1 + 1 < _; omega) _), OwnN.nr (ownsRow_setCell_below (ownsRow_setCell_below (ownsRow_setCell_below (ownsRow_setCell_below HBB.out (by show w.heap.size + 1 < _; omega) _) (by show w.heap.size + 1 < _; omega) _) (by show w.heap.size + 1 + 1 < _; omega) _) (by show w.heap.size + 1 + 1 < _; omega) _)⟩, ((((HXS.out.on hBE).far (by omega) _).far (by omega) _).far (by omega) _).far (by omega) _, ((((HOW.out.on hBE).setLow (by omega) _).setLow (by omega) _).setLow (by omega) _).setLow (by omega) _, by simpa [World.setCell] using hz2⟩)
  case rest =>
    obtain ⟨hbw, ⟨A1, n1, c1, A3, n3, c3, hxa, hxb, hna, hnb⟩, hxs, hos, hzz⟩ := hcut
    obtain ⟨hsr, _⟩ := fewIs_sr hos
    have HBC' := Lib.hid hbw; have HXA := Lib.hid hxa; have HXB := Lib.hid hxb; have HSR := Lib.hid hsr; have HNA' := Lib.hid hna; have HNB' := Lib.hid hnb; have HXS' := Lib.hid hxs
    obtain ⟨a0, a1, a2, a3⟩ := hxa.four
    have s0 := hxs.one
    have HK1 := Lib.hid (fun W (hb : Below wc.heap.size wc W) => keep_any A2 n2 c2 ac aq ae (.slice A1 n1 c1) ax ms2 W (hsr.on hb) HAC.out (hna.on hb) HFA'.out)
    have HK2 := Lib.hid (fun W (hb : Below wc.heap.size wc W) => keep_any A2 n2 c2 bc bq be (.slice A3 n3 c3) bx ms2 W (hsr.on hb) HBC.out (hnb.on hb) HFB'.out)
    have HOS : Hid (ac ≠ bc → keepE (ms2.map (·.1)) ac aq ⟨ae, ax⟩ = 0 → keepE (ms2.map (·.1)) bc bq ⟨be, bx⟩ = 0 → keepE (keepS (ms2.map (·.1)) ac aq ⟨ae, ax⟩) bc bq ⟨be, bx⟩ = 0 ∧ keepE (keepS (ms2.map (·.1)) bc bq ⟨be, bx⟩) ac aq ⟨ae, ax⟩ = 0 ∧ keepS (keepS (ms2.map (·.1)) ac aq ⟨ae, ax⟩) bc bq ⟨be, bx⟩ = keepS (keepS (ms2.map (·.1)) bc bq ⟨be, bx⟩) ac aq ⟨ae, ax⟩) := Lib.hid order_same
    have HO1 : Hid (ac = bc → keepE (ms2.map (·.1)) ac aq ⟨ae, ax⟩ = 0 → keepE (ms2.map (·.1)) bc bq ⟨be, bx⟩ = 0 → aq = bq) := Lib.hid (fun h => by subst h; exact order_one)
    generalize keepE (ms2.map (·.1)) ac aq ⟨ae, ax⟩ = E1 at *
    generalize keepE (ms2.map (·.1)) bc bq ⟨be, bx⟩ = E2 at *
    generalize keepS (ms2.map (·.1)) ac aq ⟨ae, ax⟩ = l1 at *
    generalize keepS (ms2.map (·.1)) bc bq ⟨be, bx⟩ = l2 at *
    clear hbw hxa hxb hna hnb hxs hos hsr hzz
    go_wp2_with fail
    refine (HK1.out _ (Below.refl _ _)).mono ?_
    rintro y w3 ⟨⟨A4, c4, ms4, rfl, ho4, hl4⟩, hb3⟩
    generalize hn4 : ms4.length = n4 at *
    obtain ⟨hs4, _⟩ := fewIs_sr ho4
    have HS4 := Lib.hid hs4; have HL4 := Lib.hid hl4
    have HB3 := Lib.hid hb3
    have HN3 := Lib.hid (new_below w3 (.cells #[.slice A4 n4 c4] 24))
    have HX3 := Lib.hid (SBox.new w3 24 #[.slice A4 n4 c4])
    clear hb3 ho4 hl4 hs4 hn4 a0 a1 a2 a3 s0
    go_upto_region 6 with fail
    obtain ⟨W3, hW3⟩ : ∃ W3 : World, W3 = w3.alloc (.cells #[.slice A4 n4 c4] 24) := ⟨_, rfl⟩
    rw [← hW3] at HN3 HX3 ⊢
    clear hW3
    have HBc3 := Lib.hid (HB3.out.trans (HN3.out.mono HB3.out.size))
    obtain ⟨b0, b1, b2, b3⟩ := (HXB.out.on HBc3.out).four
    have s0 := (HXS'.out.on HBc3.out).one
    go_wp2_with fail
    refine (HK2.out _ HBc3.out).mono ?_
    rintro y w4 ⟨⟨A5, c5, ms5, rfl, ho5, hl5⟩, hb4⟩
    generalize hn5 : ms5.length = n5 at *
    obtain ⟨hs5, _⟩ := fewIs_sr ho5
    have HS5 := Lib.hid hs5; have HL5 := Lib.hid hl5
    have HB4 := Lib.hid hb4
    have HN4 := Lib.hid (new_below w4 (.cells #[.slice A5 n5 c5] 24))
    have HX4 := Lib.hid (SBox.new w4 24 #[.slice A5 n5 c5])
    clear hb4 ho5 hl5 hs5 hn5 b0 b1 b2 b3 s0
    go_upto_region 7 with fail
    obtain ⟨W4, hW4⟩ : ∃ W4 : World, W4 = w4.alloc (.cells #[.slice A5 n5 c5] 24) := ⟨_, rfl⟩
    rw [← hW4] at HN4 HX4 ⊢
    clear hW4
    have HB34 := Lib.hid (HB4.out.trans (HN4.out.mono HB4.out.size))
    have HBc4 := Lib.hid (HBc3.out.trans (HB34.out.mono HBc3.out.size))
    have HBw4 := Lib.hid (HBC'.out.trans (HBc4.out.mono HBC'.out.size))
    obtain ⟨a0, a1, a2, a3⟩ := (HXA.out.on HBc4.out).four
    obtain ⟨b0, b1, b2, b3⟩ := (HXB.out.on HBc4.out).four
    by_cases h1 : E1 = 0
    · by_cases h2 : E2 = 0
      · subst h1; subst h2
        by_cases hc : ac = bc
        · have hd : (ac == bc) = true := by simp [hc]
          have hq := HO1.out hc (by first | trivial | rfl) (by first | trivial | rfl)
          have hd2 : (aq == bq) = true := by simp [hq]
          clear hc hq
          go_wp2_with fail
          go_ret
          exact ⟨by first | rfl | trivial, HBw4.out⟩
        · have hd : (ac == bc) = false := by simp [hc]
          obtain ⟨e1, e2, e3⟩ := HOS.out hc (by first | trivial | rfl) (by first | trivial | rfl)
          have K1 := Lib.hid e1; have K2 := Lib.hid e2; have K3 := Lib.hid e3
          clear hc e1 e2 e3
          have m0 := (HX3.out.on HB34.out).one
          have HM := Lib.hid (keep_any A4 n4 c4 bc bq be (.slice A3 n3 c3) bx ms4 W4 ((HS4.out.on HN3.out).on HB34.out) HBC.out (HNB'.out.on HBc4.out) HFB'.out)
          have HNK := Lib.hid (fun W (hb : Below W4.heap.size W4 W) => keep_any A5 n5 c5 ac aq ae (.slice A1 n1 c1) ax ms5 W ((HS5.out.on HN4.out).on hb) HAC.out ((HNA'.out.on HBc4.out).on hb) HFA'.out)
          rw [HL4.out, K1.out] at HM
          rw [HL5.out, K2.out] at HNK
          go_wp2_with fail
          refine HM.out.mono ?_
          rintro y w5 ⟨⟨A6, c6, ms6, rfl, ho6, hl6⟩, hb5⟩
          generalize hn6 : ms6.length = n6 at *
          obtain ⟨hs6, _⟩ := fewIs_sr ho6
          have HS6 := Lib.hid hs6; have HL6 := Lib.hid hl6
          have HB5 := Lib.hid hb5
          have HN5 := Lib.hid (new_below w5 (.cells #[.slice A6 n6 c6] 24))
          have HX5 := Lib.hid (SBox.new w5 24 #[.slice A6 n6 c6])
          clear hb5 ho6 hl6 hs6 hn6 a0 a1 a2 a3 b0 b1 b2 b3 m0
          go_upto_region 12 with fail
          obtain ⟨W5, hW5⟩ : ∃ W5 : World, W5 = w5.alloc (.cells #[.slice A6 n6 c6] 24) := ⟨_, rfl⟩
          rw [← hW5] at HN5 HX5 ⊢
          clear hW5
          have HB45 := Lib.hid (HB5.out.trans (HN5.out.mono HB5.out.size))
          obtain ⟨a0, a1, a2, a3⟩ := ((HXA.out.on HBc4.out).on HB45.out).four
          have m1 := (HX4.out.on HB45.out).one
          have HNK5 := Lib.hid (HNK.out _ HB45.out)
          go_wp2_with fail
          refine HNK5.out.mono ?_
          rintro y w6 ⟨⟨A7, c7, ms7, rfl, ho7, hl7⟩, hb6⟩
          generalize hn7 : ms7.length = n7 at *
          obtain ⟨hs7, _⟩ := fewIs_sr ho7
          have HN6 := Lib.hid (new_below w6 (.cells #[.slice A7 n7 c7] 24))
          have HB56 := Lib.hid (hb6.trans (HN6.out.mono hb6.size))
          have HX6 := Lib.hid (SBox.new w6 24 #[.slice A7 n7 c7])
          have y0 := (HX5.out.on HB56.out).one
          have z0 := HX6.out.one
          have HSM := Lib.hid (same_any A6 A7 n6 n7 c6 c7 ms6 ms7 _ ((HS6.out.on HN5.out).on HB56.out) (hs7.on HN6.out))
          rw [HL6.out, hl7, K3.out, decide_eq_true rfl] at HSM
          have HBw6 := Lib.hid (HBw4.out.trans ((HB45.out.trans (HB56.out.mono HB45.out.size)).mono HBw4.out.size))
          clear hb6 ho7 hl7 hs7 hn7 a0 a1 a2 a3 m1
          go_upto_region 13 with fail
          obtain ⟨W6, hW6⟩ : ∃ W6 : World, W6 = w6.alloc (.cells #[.slice A7 n7 c7] 24) := ⟨_, rfl⟩
          rw [← hW6] at y0 z0 HSM HBw6 ⊢
          clear hW6
          go_wp2_with fail
          refine HSM.out.mono ?_
          rintro y w7 ⟨rfl, hb7⟩
          have HB7 := Lib.hid hb7
          clear hb7
          go_wp2_with fail
          go_ret
          exact ⟨by first | rfl | trivial, HBw6.out.trans (HB7.out.mono HBw6.out.size)⟩
      · have hd2 : (E2 != 0) = true := by simp [h2]
        subst h1
        clear h2
        by_cases hc : ac = bc
        · have hd : (ac == bc) = true := by simp [hc]
          clear hc
          go_wp2_with fail
          go_ret
          exact ⟨by first | rfl | trivial, HBw4.out⟩
        · have hd : (ac == bc) = false := by simp [hc]
          clear hc
          go_wp2_with fail
          go_ret
          exact ⟨by first | rfl | trivial, HBw4.out⟩
    · have hd1 : (E1 != 0) = true := by simp [h1]
      clear h1
      by_cases hc : ac = bc
      · have hd : (ac == bc) = true := by simp [hc]
        clear hc
        go_wp2_with fail
        go_ret
        exact ⟨by first | rfl | trivial, HBw4.out⟩
      · have hd : (ac == bc) = false := by simp [hc]
        clear hc
        go_wp2_with fail
        go_ret
        exact ⟨by first | rfl | trivial, HBw4.out⟩
end Go.Proofs.Ytgnfoncokjglbaa
