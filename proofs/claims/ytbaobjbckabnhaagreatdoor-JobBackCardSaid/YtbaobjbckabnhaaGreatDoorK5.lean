/- Texts of this seat, one behind the other: FRItem, FRRead, FRDig, FRTxt, FWakes, FLift, FReads. -/
import Derived.Test.YtbaobjbckabnhaaGreatDoorK4
import Derived.Test.YtbaobjbckabnhaaGreatDoorRows
import Derived.Test.YtbaobjbckabnhaaGreatDoorTie
import Derived.Test.YtbaobjbckabnhaaGreatDoorCards
import Derived.ProofKit
import Derived.LaidMore
import Derived.OpenShut
import Derived.Stop.Joined
import Derived.SevenTiedAt
import Derived.Lay
import Derived.HandedShaped
import Derived.Shelf.Vars
/- The document's item: walked. -/
namespace Go.Proofs.YtbaobjbckabnhaaGreatDoor
open Go.RowKit

theorem rnumber_l (l : List UInt8) (w : World) (hl : l.length ≤ 1000) :
    Calls Tryz.prog 121 #[strV l] w fun e w' => e = .returned (some2 (numL l)) ∧ w' = w := by
  have h := rnumber_any ⟨l.toArray⟩ w (by unfold maxLen; rw [size_l]; omega)
  have h2 : Calls Tryz.prog 121 #[strV l] w fun e w' => e = .returned (some2 (numL l)) ∧ w = w' := by simpa [strV] using h
  exact h2.mono fun _ _ ⟨a, b⟩ => ⟨a, b.symm⟩
theorem rvalue_l (k : Nat) (l : List UInt8) (w : World) (hk : k < 5) (hl : l.length ≤ 1000) :
    Calls Tryz.prog 122 #[.int .i64 (k : Int), strV l] w fun e w' => e = .returned (some2 (valueL k l)) ∧ Below w.heap.size w w' := by
  have h := rvalue_any k ⟨l.toArray⟩ w hk (by rw [size_l]; exact hl)
  simpa [strV] using h
theorem rcut_l (l : List UInt8) (c : UInt8) (w : World) (hl : l.length ≤ 1000) :
    Calls Tryz.prog 81 #[strV l, .int .u8 (c.toNat : Nat)] w fun e w' => e = .returned (.tuple #[strV (cutB l c).1, strV ((cutB l c).2.getD []), .bool (cutB l c).2.isSome]) ∧ Below w.heap.size w w' := by
  have h := rcut_any ⟨l.toArray⟩ c w (by rw [size_l]; exact hl)
  simpa [strV] using h
theorem rspan_small (f t n : Nat) (w : World) (hn : n ≤ 100) : Calls Tryz.prog 123 #[.int .i64 (f : Int), .int .i64 (t : Int), .int .i64 (n : Int)] w fun e w' => e = .returned (maskOk (spanM f t n)) ∧ Below w.heap.size w w' := rspan_any f t n w (by omega)
theorem has7 (m : BitVec 64) : hasB m 7 = m.getLsbD 7 := hasB_nat m 7
theorem star_no7 {n : Nat} {m : BitVec 64} (h : spanM (loK 4 : Nat) (hiK 4 : Nat) n = some m) : hasB m 7 = false := by
  rw [has7]
  cases h7 : m.getLsbD 7 with
  | false => rfl
  | true =>
    have := span_in h h7
    have : hiK 4 = 6 := rfl
    omega
def zeroM (m : BitVec 64) : BitVec 64 := mk (fun i => decide (i = 0) || m.getLsbD i)
theorem zero_bit (m : BitVec 64) (i : Nat) (hi : i < 64) : (zeroM m).getLsbD i = decide (i ∈ 0 :: elems m) := by
  unfold zeroM
  rw [mk_bit, Bool.eq_iff_iff]
  simp [hi, mem_elems]
theorem zero_sub {m : BitVec 64} (h : hasB m 7 = true) : U (zeroM m) = U (fix7 4 m) + 128 ∧ U (fix7 4 m) + 128 ≤ 18446744073709551615 := by
  rw [has7] at h
  have hf : fix7 4 m = mk (fun i => decide (i = 0) || (m.getLsbD i && decide (i ≠ 7))) := by unfold fix7; rw [if_pos ⟨rfl, h⟩]
  have hb : (fix7 4 m).getLsbD 7 = false := by rw [hf, mk_bit]; simp
  have hor : fix7 4 m ||| BitVec.twoPow 64 7 = zeroM m := by
    apply BitVec.eq_of_getLsbD_eq
    intro i hi
    rw [BitVec.getLsbD_or, BitVec.getLsbD_twoPow, hf, mk_bit]
    unfold zeroM
    rw [mk_bit]
    by_cases e : i = 7
    · subst e; simp [h]
    · simp [hi, e, Ne.symm e]
  have hdis : fix7 4 m &&& BitVec.twoPow 64 7 = 0#64 := by
    apply BitVec.eq_of_getLsbD_eq
    intro i hi
    rw [BitVec.getLsbD_and, BitVec.getLsbD_twoPow]
    by_cases e : i = 7
    · subst e; rw [hb]; rfl
    · simp [Ne.symm e]
  have hadd : fix7 4 m + BitVec.twoPow 64 7 = zeroM m := by rw [← hor, BitVec.add_eq_or_of_and_eq_zero _ _ hdis]
  have hlt : (fix7 4 m).toNat + 128 < 2 ^ 64 := by
    have h1 := (fix7 4 m).isLt
    have h2 : (fix7 4 m).toNat.testBit 7 = false := hb
    rw [Nat.testBit_eq_decide_div_mod_eq] at h2
    have h3 : ¬ (fix7 4 m).toNat / 2 ^ 7 % 2 = 1 := by simpa using h2
    omega
  unfold U
  rw [← hadd, BitVec.toNat_add, show (BitVec.twoPow 64 7).toNat = 128 by rfl, Nat.mod_eq_of_lt hlt]
  omega
theorem row_zero {w : World} : (w.alloc (.cells #[.int .i64 0] 3)).ownsRow w.heap.size 3 1 (.slice (some ⟨w.heap.size, 0, none⟩) 1 1) 1 [.int .i64 0] :=
  ⟨rfl, .inr ⟨_, 1, #[.int .i64 0], rfl, Nat.le_refl _, heap_alloc_new w _, by decide, by decide, rfl, rfl⟩⟩
theorem itemL_of {k b : Nat} {l sp : List UInt8} (hsp : (cutB l 47).1 = sp) (h : stepL (cutB l 47).2 = some b) : itemL k l = spanL k sp (cutB l 47).2.isSome b := by
  unfold itemL; rw [h, hsp]
theorem itemL_no {k : Nat} {l : List UInt8} (h : stepL (cutB l 47).2 = none) : itemL k l = none := by
  unfold itemL; rw [h]
theorem spanL_star (k b : Nat) (st : Bool) : spanL k [42] st b = spanM (loK k) (hiK k) b := by unfold spanL; rw [if_pos rfl]
theorem spanL_none {k b : Nat} {st : Bool} {sp : List UInt8} (h : sp ≠ [42]) (hx : valueL k (cutB sp 45).1 = none) : spanL k sp st b = none := by unfold spanL; rw [if_neg h, hx]
theorem spanL_one {k b a : Nat} {st : Bool} {sp : List UInt8} (h : sp ≠ [42]) (hx : valueL k (cutB sp 45).1 = some a) (hy : (cutB sp 45).2 = none) : spanL k sp st b = if st then none else (spanM a a b).map (fix7 k) := by
  rw [span_of k sp st b h hx, hy]
theorem spanL_half {k b a : Nat} {st : Bool} {sp y : List UInt8} (h : sp ≠ [42]) (hx : valueL k (cutB sp 45).1 = some a) (hy : (cutB sp 45).2 = some y) (hv : valueL k y = none) : spanL k sp st b = none := by
  rw [span_of k sp st b h hx, hy]
  show (match valueL k y with | none => none | some t => (spanM (a : Int) (t : Int) (b : Int)).map (fix7 k)) = none
  rw [hv]
theorem spanL_two {k b a t : Nat} {st : Bool} {sp y : List UInt8} (h : sp ≠ [42]) (hx : valueL k (cutB sp 45).1 = some a) (hy : (cutB sp 45).2 = some y) (hv : valueL k y = some t) : spanL k sp st b = (spanM a t b).map (fix7 k) := by
  rw [span_of k sp st b h hx, hy]
  show (match valueL k y with | none => none | some t => (spanM (a : Int) (t : Int) (b : Int)).map (fix7 k)) = _
  rw [hv]
theorem value_lt {k n : Nat} {s : List UInt8} (hk : k < 5) (h : valueL k s = some n) : n < 64 := by
  have h1 := value_in hk h
  have h2 := hi_lt k
  have : topK k ≤ 59 := by unfold topK; split <;> omega
  omega
set_option maxRecDepth 100000 in
set_option maxHeartbeats 8000000 in
theorem ritem_plain (k : Nat) (l : List UInt8) (w : World) (hk : k < 5) (hl : l.length ≤ 1000) (hst2 : (cutB l 47).2 = none) :
    Calls Tryz.prog 82 #[.int .i64 (k : Int), strV l] w fun e w' => e = .returned (optM (itemL k l)) ∧ Below w.heap.size w w' := by
  obtain ⟨i0, hi, hz0, hz1, hz2⟩ := info_parts info_int
  have HE := Lib.hid (fun W => rends_any k W hk)
  have HK := Lib.hid hk
  have hcl := cut_len l 47
  have hcl2 := cut_len (cutB l 47).1 45
  have HC1 := Lib.hid (fun W => rcut_l l 47 W hl)
  rw [show (((47 : UInt8).toNat : Nat) : Int) = 47 by rfl] at HC1
  obtain ⟨sp, hsp⟩ : ∃ sp, (cutB l 47).1 = sp := ⟨_, rfl⟩
  have HSP := Lib.hid hsp
  rw [hsp] at HC1 hcl hcl2
  have HC2 := Lib.hid (fun W => rcut_l sp 45 W (by omega))
  rw [show (((45 : UInt8).toNat : Nat) : Int) = 45 by rfl] at HC2
  have HVx := Lib.hid (fun W => rvalue_l k (cutB sp 45).1 W hk (by omega))
  have hbd := hi_bd k
  unfold runV at HE
  obtain ⟨a, hae⟩ : ∃ a : Nat, loK k = a := ⟨_, rfl⟩
  obtain ⟨z, hze⟩ : ∃ a : Nat, hiK k = a := ⟨_, rfl⟩
  have HA := Lib.hid hae; have HZ := Lib.hid hze
  rw [hae, hze] at HE hbd
  clear hae hze hsp hk
  have HIL : Hid (itemL k l = spanL k sp false 1) := Lib.hid (by rw [itemL_of (b := 1) HSP.out (by rw [hst2]; rfl), hst2]; rfl)
  rw [hst2] at HC1
  simp only [Option.getD_none, Option.isSome_none] at HC1
  clear hst2
  go_enter Tryz.func82, Tryz.ntmps82
  go_wp2_with fail
  refine (HE.out _).mono ?_
  rintro e w1 ⟨rfl, hb1⟩
  have HB1 := Lib.hid hb1
  clear hb1
  go_wp2_with fail
  have HB2 := Lib.hid (HB1.out.alloc HB1.out.size (.cells #[.int .i64 (a : Int), .int .i64 (z : Int)] 177))
  have HX := Lib.hid (RunBox.new w1 (a : Int) (z : Int))
  have hwg : w.heap.size ≤ w1.heap.size := HB1.out.size
  clear HB1
  generalize hgw : w1.alloc _ = w2 at *
  generalize w1.heap.size = g at *
  clear hgw
  refine (HC1.out _).mono ?_
  rintro e w3 ⟨rfl, hb⟩
  have HB := Lib.hid (HB2.out.trans (hb.mono HB2.out.size)); have HX := Lib.hid (HX.out.on hb)
  clear hb HB2 HC1 HE
  unfold strV
  by_cases hst : sp = [42]
  · subst hst
    obtain ⟨c0, c1, f0, f1⟩ := HX.out.cells
    have hgr := HX.out.lt
    have HSp := Lib.hid (fun W => rspan_small a z 1 W (by omega))
    have HIt := Lib.hid (show itemL k l = spanM a z ((1 : Nat) : Int) by rw [HIL.out, spanL_star, HA.out, HZ.out]; try rfl)
    cases hs : spanM (a : Nat) (z : Nat) (1 : Nat) with
    | none =>
      have HR : Hid (itemL k l = none) := Lib.hid (by rw [HIt.out, hs])
      rw [hs] at HSp
      clear hs
      go_wp2_with fail
      refine (HSp.out _).mono ?_
      rintro e w8 ⟨rfl, hb⟩
      have HB8 := Lib.hid (HB.out.trans (hb.mono HB.out.size))
      clear hb
      unfold maskOk
      go_wp2_with fail
      go_ret2
      exact ⟨by rw [HR.out]; rfl, HB8.out⟩
    | some m =>
      have HR : Hid (itemL k l = some (m)) := Lib.hid (by rw [HIt.out, hs])
      rw [hs] at HSp
      have HS := Lib.hid hs
      clear hs
      by_cases h4 : k = 4
      · subst h4
        rw [show ((4 : Nat) : Int) = 4 by rfl]
        go_wp2_with fail
        refine (HSp.out _).mono ?_
        rintro e w8 ⟨rfl, hb⟩
        have HB8 := Lib.hid (HB.out.trans (hb.mono HB.out.size))
        clear hb
        unfold maskOk
        go_wp2_with fail
        refine (rhas_any m 7 _).mono ?_
        rintro e w9 ⟨rfl, rfl⟩
        cases h7 : hasB m 7 with
        | false =>
          go_wp2_with fail
          go_ret2
          exact ⟨by rw [HR.out]; rfl, HB8.out⟩
        | true =>
          exfalso
          have := star_no7 (by rw [HA.out, HZ.out]; exact HS.out)
          rw [this] at h7
          cases h7
      · have e4 : ((k : Int) == 4) = false := by simp; omega
        have HR2 := HR
        clear h4
        go_wp2_with fail
        refine (HSp.out _).mono ?_
        rintro e w8 ⟨rfl, hb⟩
        have HB8 := Lib.hid (HB.out.trans (hb.mono HB.out.size))
        clear hb
        unfold maskOk
        go_wp2_with fail
        go_ret2
        exact ⟨by rw [HR2.out]; rfl, HB8.out⟩
  · have hsb : (sp == [42]) = false := by rw [beq_eq_false_iff_ne]; exact hst
    have HST : Hid (sp ≠ [42]) := Lib.hid hst
    clear hst
    go_wp2_with fail
    refine (HC2.out _).mono ?_
    rintro e w4 ⟨rfl, hb⟩
    have HB := Lib.hid (HB.out.trans (hb.mono HB.out.size)); have HX := Lib.hid (HX.out.on hb)
    clear hb
    cases hx : valueL k (cutB sp 45).1 with
    | none =>
      have HX1 := Lib.hid hx
      rw [hx] at HVx
      simp only [some2, Option.getD_none, Option.isSome_none] at HVx
      try unfold strV at *
      clear hx
      go_wp2_with fail
      refine (HVx.out _).mono ?_
      rintro e w5 ⟨rfl, hb⟩
      have HB := Lib.hid (HB.out.trans (hb.mono HB.out.size)); have HX := Lib.hid (HX.out.on hb)
      clear hb
      have HR : Hid (itemL k l = none) := Lib.hid (by rw [HIL.out, spanL_none HST.out HX1.out])
      go_wp2_with fail
      go_ret2
      exact ⟨by rw [HR.out]; rfl, HB.out⟩
    | some x =>
      have HX1 := Lib.hid hx
      have hx64 := value_lt HK.out hx
      rw [hx] at HVx
      simp only [some2, Option.getD_some, Option.isSome_some] at HVx
      clear hx
      cases hy : (cutB sp 45).2 with
      | none =>
        have HY := Lib.hid hy
        simp only [Option.getD_none, Option.isSome_none]
        try unfold strV at *
        clear hy
        go_wp2_with fail
        refine (HVx.out _).mono ?_
        rintro e w5 ⟨rfl, hb⟩
        have HB := Lib.hid (HB.out.trans (hb.mono HB.out.size)); have HX := Lib.hid (HX.out.on hb)
        clear hb
        obtain ⟨c0, c1, f0, f1⟩ := HX.out.cells
        have hgr := HX.out.lt
        have HXn := Lib.hid ((HX.out.set0 (x : Int)).set1 (x : Int))
        have HBn := Lib.hid ((HB.out.setCell (p := ⟨g, 0, none⟩) hwg (.int .i64 (x : Int))).setCell (p := ⟨g, 1, none⟩) hwg (.int .i64 (x : Int)))
        go_upto_region 19 with fail
        generalize (w5.setCell _ _).setCell _ _ = w6 at *
        clear c0 c1 f0 f1 hgr HX HB
        have HX := HXn; have HB := HBn
        clear HXn HBn
        obtain ⟨c0, c1, f0, f1⟩ := HX.out.cells
        have hgr := HX.out.lt
        have HSp := Lib.hid (fun W => rspan_small x x 1 W (by omega))
        have HIt := Lib.hid (show itemL k l = (spanM x x ((1 : Nat) : Int)).map (fix7 k) by rw [HIL.out, spanL_one HST.out HX1.out HY.out]; rfl)
        cases hs : spanM (x : Nat) (x : Nat) (1 : Nat) with
        | none =>
          have HR : Hid (itemL k l = none) := Lib.hid (by rw [HIt.out, hs]; rfl)
          rw [hs] at HSp
          clear hs
          go_wp2_with fail
          refine (HSp.out _).mono ?_
          rintro e w8 ⟨rfl, hb⟩
          have HB8 := Lib.hid (HB.out.trans (hb.mono HB.out.size))
          clear hb
          unfold maskOk
          go_wp2_with fail
          go_ret2
          exact ⟨by rw [HR.out]; rfl, HB8.out⟩
        | some m =>
          have HR : Hid (itemL k l = some (fix7 k m)) := Lib.hid (by rw [HIt.out, hs]; rfl)
          rw [hs] at HSp
          have HS := Lib.hid hs
          clear hs
          by_cases h4 : k = 4
          · subst h4
            rw [show ((4 : Nat) : Int) = 4 by rfl]
            go_wp2_with fail
            refine (HSp.out _).mono ?_
            rintro e w8 ⟨rfl, hb⟩
            have HB8 := Lib.hid (HB.out.trans (hb.mono HB.out.size))
            clear hb
            unfold maskOk
            go_wp2_with fail
            refine (rhas_any m 7 _).mono ?_
            rintro e w9 ⟨rfl, rfl⟩
            cases h7 : hasB m 7 with
            | false =>
              have HR2 : Hid (itemL 4 l = some m) := Lib.hid (by
                rw [HR.out, fix7_other]
                rintro ⟨_, q⟩
                rw [has7, q] at h7
                cases h7)
              go_wp2_with fail
              go_ret2
              exact ⟨by rw [HR2.out]; rfl, HB8.out⟩
            | true =>
              have hzs := zero_sub h7
              have hnil : elems m ≠ [] := fun q => by
                have := mem_elems.2 (by rw [has7] at h7; exact h7)
                rw [q] at this; cases this
              obtain ⟨hz3, hz4⟩ := hzs
              have hz5 := U_nonneg (fix7 4 m)
              clear h7
              have HB9 := Lib.hid (HB8.out.alloc HB8.out.size (.cells #[.int .i64 0] 3))
              have HNil := Lib.hid hnil
              have HZ3 := Lib.hid hz3
              clear hnil hz3
              go_wp2_with fail
              have HRow0 := Lib.hid (row_zero (w := w8))
              have hsz := HB8.out.size
              have hl64 := elems_64 m
              refine (rall_any m _).mono ?_
              rintro e w10 ⟨av, rfl, hav, hb2⟩
              have HB10 := Lib.hid (HB9.out.trans (hb2.mono HB9.out.size))
              have hrow2 := own_below HRow0.out hb2
              have hsz2 : w8.heap.size + 1 ≤ w10.heap.size := by have := hb2.size; simp at this; omega
              rcases hav.2 with ⟨rfl, h0⟩ | ⟨g2, cap2, cur2, rfl, hbase2, hrest⟩
              · exact absurd (List.length_eq_zero_iff.1 h0) HNil.out
              · have hsrc := hav.cells (g := g2) rfl
                clear hrest
                go_wp2_with (at_builtin; refine wpList_append_own _ rfl _ _ 103 rfl w8.heap.size 3 i0 (.int .i64 0) 1 8 Tryz.underlying103 hi hz0 hz1 hz2 rfl (by decide) _ _ _ rfl hrow2 ⟨g2, 0, none⟩ (elems m).length cap2 ((elems m).map ienc) rfl (by simp) hsrc (by intro u hu; obtain ⟨q, _, rfl⟩ := List.mem_map.1 hu; rfl) (by unfold maxLen; omega) (by omega) (by omega) ?_; intro v' w5 hown5 hgrow5 _)
                have HB11 := Lib.hid (HB10.out.grown hgrow5 (by omega) (fun j e => by have := (hrow2.lt j e).1; omega))
                have HF := Lib.hid (rof_row (0 :: elems m) (fun q hq => by
                  rcases List.mem_cons.1 hq with rfl | hq
                  · decide
                  · exact elems_lt hq) (by simp; omega) (zeroM m) (fun i hi => zero_bit m i hi) _ _ _ _ (by simp; omega) hown5)
                rw [HZ3.out] at HF
                clear hown5 hgrow5 hrow2 hsrc hav
                refine HF.out.mono ?_
                rintro e w' ⟨rfl, rfl⟩
                go_wp2_with fail
                go_ret2
                exact ⟨by rw [HR.out]; rfl, HB11.out⟩
          · have e4 : ((k : Int) == 4) = false := by simp; omega
            have HR2 : Hid (itemL k l = some m) := Lib.hid (by rw [HR.out, fix7_other (fun q => h4 q.1)])
            clear h4
            go_wp2_with fail
            refine (HSp.out _).mono ?_
            rintro e w8 ⟨rfl, hb⟩
            have HB8 := Lib.hid (HB.out.trans (hb.mono HB.out.size))
            clear hb
            unfold maskOk
            go_wp2_with fail
            go_ret2
            exact ⟨by rw [HR2.out]; rfl, HB8.out⟩
      | some y =>
        have HY := Lib.hid hy
        simp only [Option.getD_some, Option.isSome_some]
        have HVy := Lib.hid (fun W => rvalue_l k y W HK.out (by
          rw [hy, Option.getD_some] at hcl2; omega))
        clear hy hcl2
        cases hv : valueL k y with
        | none =>
          have HV1 := Lib.hid hv
          rw [hv] at HVy
          simp only [some2, Option.getD_none, Option.isSome_none] at HVy
          try unfold strV at *
          clear hv
          go_wp2_with fail
          refine (HVx.out _).mono ?_
          rintro e w5 ⟨rfl, hb⟩
          have HB := Lib.hid (HB.out.trans (hb.mono HB.out.size)); have HX := Lib.hid (HX.out.on hb)
          clear hb
          obtain ⟨c0, c1, f0, f1⟩ := HX.out.cells
          have hgr := HX.out.lt
          have HXn := Lib.hid ((HX.out.set0 (x : Int)).set1 (x : Int))
          have HBn := Lib.hid ((HB.out.setCell (p := ⟨g, 0, none⟩) hwg (.int .i64 (x : Int))).setCell (p := ⟨g, 1, none⟩) hwg (.int .i64 (x : Int)))
          go_wp2_with fail
          generalize (w5.setCell _ _).setCell _ _ = w6 at *
          clear c0 c1 f0 f1 hgr HX HB
          refine (HVy.out _).mono ?_
          rintro e w7 ⟨rfl, hb⟩
          have HB := Lib.hid (HBn.out.trans (hb.mono HBn.out.size)); have HX := Lib.hid (HXn.out.on hb)
          clear hb HBn HXn
          obtain ⟨c0, c1, f0, f1⟩ := HX.out.cells
          have hgr := HX.out.lt
          have HR : Hid (itemL k l = none) := Lib.hid (by rw [HIL.out, spanL_half HST.out HX1.out HY.out HV1.out])
          have HB0 := Lib.hid (HB.out.setCell (p := ⟨g, 1, none⟩) hwg (.int .i64 0))
          go_wp2_with fail
          go_ret2
          exact ⟨by rw [HR.out]; rfl, HB0.out⟩
        | some t =>
          have HV1 := Lib.hid hv
          have ht64 := value_lt HK.out hv
          rw [hv] at HVy
          simp only [some2, Option.getD_some, Option.isSome_some] at HVy
          try unfold strV at *
          clear hv
          go_wp2_with fail
          refine (HVx.out _).mono ?_
          rintro e w5 ⟨rfl, hb⟩
          have HB := Lib.hid (HB.out.trans (hb.mono HB.out.size)); have HX := Lib.hid (HX.out.on hb)
          clear hb
          obtain ⟨c0, c1, f0, f1⟩ := HX.out.cells
          have hgr := HX.out.lt
          have HXn := Lib.hid ((HX.out.set0 (x : Int)).set1 (x : Int))
          have HBn := Lib.hid ((HB.out.setCell (p := ⟨g, 0, none⟩) hwg (.int .i64 (x : Int))).setCell (p := ⟨g, 1, none⟩) hwg (.int .i64 (x : Int)))
          go_wp2_with fail
          generalize (w5.setCell _ _).setCell _ _ = w6 at *
          clear c0 c1 f0 f1 hgr HX HB
          refine (HVy.out _).mono ?_
          rintro e w7 ⟨rfl, hb⟩
          have HB := Lib.hid (HBn.out.trans (hb.mono HBn.out.size)); have HX := Lib.hid (HXn.out.on hb)
          clear hb HBn HXn
          obtain ⟨c0, c1, f0, f1⟩ := HX.out.cells
          have hgr := HX.out.lt
          have HXn := Lib.hid (HX.out.set1 (t : Int))
          have HBn := Lib.hid (HB.out.setCell (p := ⟨g, 1, none⟩) hwg (.int .i64 (t : Int)))
          go_upto_region 19 with fail
          generalize w7.setCell _ _ = w77 at *
          clear c0 c1 f0 f1 hgr HX HB
          have HX := HXn; have HB := HBn
          clear HXn HBn
          obtain ⟨c0, c1, f0, f1⟩ := HX.out.cells
          have hgr := HX.out.lt
          have HSp := Lib.hid (fun W => rspan_small x t 1 W (by omega))
          have HIt := Lib.hid (show itemL k l = (spanM x t ((1 : Nat) : Int)).map (fix7 k) by rw [HIL.out, spanL_two HST.out HX1.out HY.out HV1.out]; try rfl)
          cases hs : spanM (x : Nat) (t : Nat) (1 : Nat) with
          | none =>
            have HR : Hid (itemL k l = none) := Lib.hid (by rw [HIt.out, hs]; rfl)
            rw [hs] at HSp
            clear hs
            go_wp2_with fail
            refine (HSp.out _).mono ?_
            rintro e w8 ⟨rfl, hb⟩
            have HB8 := Lib.hid (HB.out.trans (hb.mono HB.out.size))
            clear hb
            unfold maskOk
            go_wp2_with fail
            go_ret2
            exact ⟨by rw [HR.out]; rfl, HB8.out⟩
          | some m =>
            have HR : Hid (itemL k l = some (fix7 k m)) := Lib.hid (by rw [HIt.out, hs]; rfl)
            rw [hs] at HSp
            have HS := Lib.hid hs
            clear hs
            by_cases h4 : k = 4
            · subst h4
              rw [show ((4 : Nat) : Int) = 4 by rfl]
              go_wp2_with fail
              refine (HSp.out _).mono ?_
              rintro e w8 ⟨rfl, hb⟩
              have HB8 := Lib.hid (HB.out.trans (hb.mono HB.out.size))
              clear hb
              unfold maskOk
              go_wp2_with fail
              refine (rhas_any m 7 _).mono ?_
              rintro e w9 ⟨rfl, rfl⟩
              cases h7 : hasB m 7 with
              | false =>
                have HR2 : Hid (itemL 4 l = some m) := Lib.hid (by
                  rw [HR.out, fix7_other]
                  rintro ⟨_, q⟩
                  rw [has7, q] at h7
                  cases h7)
                go_wp2_with fail
                go_ret2
                exact ⟨by rw [HR2.out]; rfl, HB8.out⟩
              | true =>
                have hzs := zero_sub h7
                have hnil : elems m ≠ [] := fun q => by
                  have := mem_elems.2 (by rw [has7] at h7; exact h7)
                  rw [q] at this; cases this
                obtain ⟨hz3, hz4⟩ := hzs
                have hz5 := U_nonneg (fix7 4 m)
                clear h7
                have HB9 := Lib.hid (HB8.out.alloc HB8.out.size (.cells #[.int .i64 0] 3))
                have HNil := Lib.hid hnil
                have HZ3 := Lib.hid hz3
                clear hnil hz3
                go_wp2_with fail
                have HRow0 := Lib.hid (row_zero (w := w8))
                have hsz := HB8.out.size
                have hl64 := elems_64 m
                refine (rall_any m _).mono ?_
                rintro e w10 ⟨av, rfl, hav, hb2⟩
                have HB10 := Lib.hid (HB9.out.trans (hb2.mono HB9.out.size))
                have hrow2 := own_below HRow0.out hb2
                have hsz2 : w8.heap.size + 1 ≤ w10.heap.size := by have := hb2.size; simp at this; omega
                rcases hav.2 with ⟨rfl, h0⟩ | ⟨g2, cap2, cur2, rfl, hbase2, hrest⟩
                · exact absurd (List.length_eq_zero_iff.1 h0) HNil.out
                · have hsrc := hav.cells (g := g2) rfl
                  clear hrest
                  go_wp2_with (at_builtin; refine wpList_append_own _ rfl _ _ 103 rfl w8.heap.size 3 i0 (.int .i64 0) 1 8 Tryz.underlying103 hi hz0 hz1 hz2 rfl (by decide) _ _ _ rfl hrow2 ⟨g2, 0, none⟩ (elems m).length cap2 ((elems m).map ienc) rfl (by simp) hsrc (by intro u hu; obtain ⟨q, _, rfl⟩ := List.mem_map.1 hu; rfl) (by unfold maxLen; omega) (by omega) (by omega) ?_; intro v' w5 hown5 hgrow5 _)
                  have HB11 := Lib.hid (HB10.out.grown hgrow5 (by omega) (fun j e => by have := (hrow2.lt j e).1; omega))
                  have HF := Lib.hid (rof_row (0 :: elems m) (fun q hq => by
                    rcases List.mem_cons.1 hq with rfl | hq
                    · decide
                    · exact elems_lt hq) (by simp; omega) (zeroM m) (fun i hi => zero_bit m i hi) _ _ _ _ (by simp; omega) hown5)
                  rw [HZ3.out] at HF
                  clear hown5 hgrow5 hrow2 hsrc hav
                  refine HF.out.mono ?_
                  rintro e w' ⟨rfl, rfl⟩
                  go_wp2_with fail
                  go_ret2
                  exact ⟨by rw [HR.out]; rfl, HB11.out⟩
            · have e4 : ((k : Int) == 4) = false := by simp; omega
              have HR2 : Hid (itemL k l = some m) := Lib.hid (by rw [HR.out, fix7_other (fun q => h4 q.1)])
              clear h4
              go_wp2_with fail
              refine (HSp.out _).mono ?_
              rintro e w8 ⟨rfl, hb⟩
              have HB8 := Lib.hid (HB.out.trans (hb.mono HB.out.size))
              clear hb
              unfold maskOk
              go_wp2_with fail
              go_ret2
              exact ⟨by rw [HR2.out]; rfl, HB8.out⟩
set_option maxRecDepth 100000 in
set_option maxHeartbeats 8000000 in
theorem ritem_steps (k : Nat) (l : List UInt8) (w : World) (hk : k < 5) (hl : l.length ≤ 1000) (st : List UInt8) (hst2 : (cutB l 47).2 = some st) :
    Calls Tryz.prog 82 #[.int .i64 (k : Int), strV l] w fun e w' => e = .returned (optM (itemL k l)) ∧ Below w.heap.size w w' := by
  obtain ⟨i0, hi, hz0, hz1, hz2⟩ := info_parts info_int
  have HE := Lib.hid (fun W => rends_any k W hk)
  have HK := Lib.hid hk
  have hcl := cut_len l 47
  have hcl2 := cut_len (cutB l 47).1 45
  have HC1 := Lib.hid (fun W => rcut_l l 47 W hl)
  rw [show (((47 : UInt8).toNat : Nat) : Int) = 47 by rfl] at HC1
  obtain ⟨sp, hsp⟩ : ∃ sp, (cutB l 47).1 = sp := ⟨_, rfl⟩
  have HSP := Lib.hid hsp
  rw [hsp] at HC1 hcl hcl2
  have HC2 := Lib.hid (fun W => rcut_l sp 45 W (by omega))
  rw [show (((45 : UInt8).toNat : Nat) : Int) = 45 by rfl] at HC2
  have HVx := Lib.hid (fun W => rvalue_l k (cutB sp 45).1 W hk (by omega))
  have hbd := hi_bd k
  unfold runV at HE
  obtain ⟨a, hae⟩ : ∃ a : Nat, loK k = a := ⟨_, rfl⟩
  obtain ⟨z, hze⟩ : ∃ a : Nat, hiK k = a := ⟨_, rfl⟩
  have HA := Lib.hid hae; have HZ := Lib.hid hze
  rw [hae, hze] at HE hbd
  clear hae hze hsp hk
  have HSt := Lib.hid (fun W => rnumber_l st W (by rw [hst2, Option.getD_some] at hcl; omega))
  rw [hst2] at HC1
  simp only [Option.getD_some, Option.isSome_some] at HC1
  have HS2 := Lib.hid hst2
  have hspl : sp.length ≤ 1000 := by omega
  clear hst2 hcl
  have h1000 := num_1000 st
  cases hn : numL st with
  | none =>
    have HN := Lib.hid (show stepL (some st) = none by simp [stepL, hn])
    rw [hn] at HSt
    simp only [some2, Option.getD_none, Option.isSome_none] at HSt
    clear hn
    go_enter Tryz.func82, Tryz.ntmps82
    go_wp2_with fail
    refine (HE.out _).mono ?_
    rintro e w1 ⟨rfl, hb1⟩
    have HB1 := Lib.hid hb1
    clear hb1
    go_wp2_with fail
    have HB2 := Lib.hid (HB1.out.alloc HB1.out.size (.cells #[.int .i64 (a : Int), .int .i64 (z : Int)] 177))
    have HX := Lib.hid (RunBox.new w1 (a : Int) (z : Int))
    have hwg : w.heap.size ≤ w1.heap.size := HB1.out.size
    clear HB1
    generalize hgw : w1.alloc _ = w2 at *
    generalize w1.heap.size = g at *
    clear hgw
    refine (HC1.out _).mono ?_
    rintro e w3 ⟨rfl, hb⟩
    have HB := Lib.hid (HB2.out.trans (hb.mono HB2.out.size)); have HX := Lib.hid (HX.out.on hb)
    clear hb HB2 HC1 HE
    try unfold strV at *
    go_wp2_with fail
    refine (HSt.out _).mono ?_
    rintro e w4' ⟨rfl, rfl⟩
    have HR : Hid (itemL k l = none) := Lib.hid (by exact itemL_no (by rw [HS2.out]; exact HN.out))
    go_wp2_with fail
    go_ret2
    exact ⟨by rw [HR.out]; rfl, HB.out⟩
  | some n =>
    rw [hn, Option.getD_some] at h1000
    rw [hn] at HSt
    simp only [some2, Option.getD_some, Option.isSome_some] at HSt
    by_cases hn1 : 1 ≤ n
    · have d1 : decide ((n : Int) < 1) = false := by simp; omega
      by_cases hn2 : n ≤ 63
      · have d2 : decide (63 < (n : Int)) = false := by simp; omega
        have HIL : Hid (itemL k l = spanL k sp true n) := Lib.hid (by rw [itemL_of (b := n) HSP.out (by rw [HS2.out]; simp [stepL, hn, hn1, hn2]), HS2.out]; rfl)
        clear hn hn1
        go_enter Tryz.func82, Tryz.ntmps82
        go_wp2_with fail
        refine (HE.out _).mono ?_
        rintro e w1 ⟨rfl, hb1⟩
        have HB1 := Lib.hid hb1
        clear hb1
        go_wp2_with fail
        have HB2 := Lib.hid (HB1.out.alloc HB1.out.size (.cells #[.int .i64 (a : Int), .int .i64 (z : Int)] 177))
        have HX := Lib.hid (RunBox.new w1 (a : Int) (z : Int))
        have hwg : w.heap.size ≤ w1.heap.size := HB1.out.size
        clear HB1
        generalize hgw : w1.alloc _ = w2 at *
        generalize w1.heap.size = g at *
        clear hgw
        refine (HC1.out _).mono ?_
        rintro e w3 ⟨rfl, hb⟩
        have HB := Lib.hid (HB2.out.trans (hb.mono HB2.out.size)); have HX := Lib.hid (HX.out.on hb)
        clear hb HB2 HC1 HE
        try unfold strV at *
        go_wp2_with fail
        refine (HSt.out _).mono ?_
        rintro e w4' ⟨rfl, rfl⟩
        by_cases hst : sp = [42]
        · subst hst
          obtain ⟨c0, c1, f0, f1⟩ := HX.out.cells
          have hgr := HX.out.lt
          have HSp := Lib.hid (fun W => rspan_small a z n W (by omega))
          have HIt := Lib.hid (show itemL k l = spanM a z ((n : Nat) : Int) by rw [HIL.out, spanL_star, HA.out, HZ.out]; try rfl)
          cases hs : spanM (a : Nat) (z : Nat) (n : Nat) with
          | none =>
            have HR : Hid (itemL k l = none) := Lib.hid (by rw [HIt.out, hs])
            rw [hs] at HSp
            clear hs
            go_wp2_with fail
            refine (HSp.out _).mono ?_
            rintro e w8 ⟨rfl, hb⟩
            have HB8 := Lib.hid (HB.out.trans (hb.mono HB.out.size))
            clear hb
            unfold maskOk
            go_wp2_with fail
            go_ret2
            exact ⟨by rw [HR.out]; rfl, HB8.out⟩
          | some m =>
            have HR : Hid (itemL k l = some (m)) := Lib.hid (by rw [HIt.out, hs])
            rw [hs] at HSp
            have HS := Lib.hid hs
            clear hs
            by_cases h4 : k = 4
            · subst h4
              rw [show ((4 : Nat) : Int) = 4 by rfl]
              go_wp2_with fail
              refine (HSp.out _).mono ?_
              rintro e w8 ⟨rfl, hb⟩
              have HB8 := Lib.hid (HB.out.trans (hb.mono HB.out.size))
              clear hb
              unfold maskOk
              go_wp2_with fail
              refine (rhas_any m 7 _).mono ?_
              rintro e w9 ⟨rfl, rfl⟩
              cases h7 : hasB m 7 with
              | false =>
                go_wp2_with fail
                go_ret2
                exact ⟨by rw [HR.out]; rfl, HB8.out⟩
              | true =>
                exfalso
                have := star_no7 (by rw [HA.out, HZ.out]; exact HS.out)
                rw [this] at h7
                cases h7
            · have e4 : ((k : Int) == 4) = false := by simp; omega
              have HR2 := HR
              clear h4
              go_wp2_with fail
              refine (HSp.out _).mono ?_
              rintro e w8 ⟨rfl, hb⟩
              have HB8 := Lib.hid (HB.out.trans (hb.mono HB.out.size))
              clear hb
              unfold maskOk
              go_wp2_with fail
              go_ret2
              exact ⟨by rw [HR2.out]; rfl, HB8.out⟩
        · have hsb : (sp == [42]) = false := by rw [beq_eq_false_iff_ne]; exact hst
          have HST : Hid (sp ≠ [42]) := Lib.hid hst
          clear hst
          go_wp2_with fail
          refine (HC2.out _).mono ?_
          rintro e w4 ⟨rfl, hb⟩
          have HB := Lib.hid (HB.out.trans (hb.mono HB.out.size)); have HX := Lib.hid (HX.out.on hb)
          clear hb
          cases hx : valueL k (cutB sp 45).1 with
          | none =>
            have HX1 := Lib.hid hx
            rw [hx] at HVx
            simp only [some2, Option.getD_none, Option.isSome_none] at HVx
            try unfold strV at *
            clear hx
            go_wp2_with fail
            refine (HVx.out _).mono ?_
            rintro e w5 ⟨rfl, hb⟩
            have HB := Lib.hid (HB.out.trans (hb.mono HB.out.size)); have HX := Lib.hid (HX.out.on hb)
            clear hb
            have HR : Hid (itemL k l = none) := Lib.hid (by rw [HIL.out, spanL_none HST.out HX1.out])
            go_wp2_with fail
            go_ret2
            exact ⟨by rw [HR.out]; rfl, HB.out⟩
          | some x =>
            have HX1 := Lib.hid hx
            have hx64 := value_lt HK.out hx
            rw [hx] at HVx
            simp only [some2, Option.getD_some, Option.isSome_some] at HVx
            clear hx
            cases hy : (cutB sp 45).2 with
            | none =>
              have HY := Lib.hid hy
              simp only [Option.getD_none, Option.isSome_none]
              try unfold strV at *
              clear hy
              go_wp2_with fail
              refine (HVx.out _).mono ?_
              rintro e w5 ⟨rfl, hb⟩
              have HB := Lib.hid (HB.out.trans (hb.mono HB.out.size)); have HX := Lib.hid (HX.out.on hb)
              clear hb
              have HR : Hid (itemL k l = none) := Lib.hid (by rw [HIL.out, spanL_one HST.out HX1.out HY.out]; rfl)
              go_wp2_with fail
              go_ret2
              exact ⟨by rw [HR.out]; rfl, HB.out⟩
            | some y =>
              have HY := Lib.hid hy
              simp only [Option.getD_some, Option.isSome_some]
              have HVy := Lib.hid (fun W => rvalue_l k y W HK.out (by
                rw [hy, Option.getD_some] at hcl2; omega))
              clear hy hcl2
              cases hv : valueL k y with
              | none =>
                have HV1 := Lib.hid hv
                rw [hv] at HVy
                simp only [some2, Option.getD_none, Option.isSome_none] at HVy
                try unfold strV at *
                clear hv
                go_wp2_with fail
                refine (HVx.out _).mono ?_
                rintro e w5 ⟨rfl, hb⟩
                have HB := Lib.hid (HB.out.trans (hb.mono HB.out.size)); have HX := Lib.hid (HX.out.on hb)
                clear hb
                obtain ⟨c0, c1, f0, f1⟩ := HX.out.cells
                have hgr := HX.out.lt
                have HXn := Lib.hid ((HX.out.set0 (x : Int)).set1 (x : Int))
                have HBn := Lib.hid ((HB.out.setCell (p := ⟨g, 0, none⟩) hwg (.int .i64 (x : Int))).setCell (p := ⟨g, 1, none⟩) hwg (.int .i64 (x : Int)))
                go_wp2_with fail
                generalize (w5.setCell _ _).setCell _ _ = w6 at *
                clear c0 c1 f0 f1 hgr HX HB
                refine (HVy.out _).mono ?_
                rintro e w7 ⟨rfl, hb⟩
                have HB := Lib.hid (HBn.out.trans (hb.mono HBn.out.size)); have HX := Lib.hid (HXn.out.on hb)
                clear hb HBn HXn
                obtain ⟨c0, c1, f0, f1⟩ := HX.out.cells
                have hgr := HX.out.lt
                have HR : Hid (itemL k l = none) := Lib.hid (by rw [HIL.out, spanL_half HST.out HX1.out HY.out HV1.out])
                have HB0 := Lib.hid (HB.out.setCell (p := ⟨g, 1, none⟩) hwg (.int .i64 0))
                go_wp2_with fail
                go_ret2
                exact ⟨by rw [HR.out]; rfl, HB0.out⟩
              | some t =>
                have HV1 := Lib.hid hv
                have ht64 := value_lt HK.out hv
                rw [hv] at HVy
                simp only [some2, Option.getD_some, Option.isSome_some] at HVy
                try unfold strV at *
                clear hv
                go_wp2_with fail
                refine (HVx.out _).mono ?_
                rintro e w5 ⟨rfl, hb⟩
                have HB := Lib.hid (HB.out.trans (hb.mono HB.out.size)); have HX := Lib.hid (HX.out.on hb)
                clear hb
                obtain ⟨c0, c1, f0, f1⟩ := HX.out.cells
                have hgr := HX.out.lt
                have HXn := Lib.hid ((HX.out.set0 (x : Int)).set1 (x : Int))
                have HBn := Lib.hid ((HB.out.setCell (p := ⟨g, 0, none⟩) hwg (.int .i64 (x : Int))).setCell (p := ⟨g, 1, none⟩) hwg (.int .i64 (x : Int)))
                go_wp2_with fail
                generalize (w5.setCell _ _).setCell _ _ = w6 at *
                clear c0 c1 f0 f1 hgr HX HB
                refine (HVy.out _).mono ?_
                rintro e w7 ⟨rfl, hb⟩
                have HB := Lib.hid (HBn.out.trans (hb.mono HBn.out.size)); have HX := Lib.hid (HXn.out.on hb)
                clear hb HBn HXn
                obtain ⟨c0, c1, f0, f1⟩ := HX.out.cells
                have hgr := HX.out.lt
                have HXn := Lib.hid (HX.out.set1 (t : Int))
                have HBn := Lib.hid (HB.out.setCell (p := ⟨g, 1, none⟩) hwg (.int .i64 (t : Int)))
                go_upto_region 19 with fail
                generalize w7.setCell _ _ = w77 at *
                clear c0 c1 f0 f1 hgr HX HB
                have HX := HXn; have HB := HBn
                clear HXn HBn
                obtain ⟨c0, c1, f0, f1⟩ := HX.out.cells
                have hgr := HX.out.lt
                have HSp := Lib.hid (fun W => rspan_small x t n W (by omega))
                have HIt := Lib.hid (show itemL k l = (spanM x t ((n : Nat) : Int)).map (fix7 k) by rw [HIL.out, spanL_two HST.out HX1.out HY.out HV1.out]; try rfl)
                cases hs : spanM (x : Nat) (t : Nat) (n : Nat) with
                | none =>
                  have HR : Hid (itemL k l = none) := Lib.hid (by rw [HIt.out, hs]; rfl)
                  rw [hs] at HSp
                  clear hs
                  go_wp2_with fail
                  refine (HSp.out _).mono ?_
                  rintro e w8 ⟨rfl, hb⟩
                  have HB8 := Lib.hid (HB.out.trans (hb.mono HB.out.size))
                  clear hb
                  unfold maskOk
                  go_wp2_with fail
                  go_ret2
                  exact ⟨by rw [HR.out]; rfl, HB8.out⟩
                | some m =>
                  have HR : Hid (itemL k l = some (fix7 k m)) := Lib.hid (by rw [HIt.out, hs]; rfl)
                  rw [hs] at HSp
                  have HS := Lib.hid hs
                  clear hs
                  by_cases h4 : k = 4
                  · subst h4
                    rw [show ((4 : Nat) : Int) = 4 by rfl]
                    go_wp2_with fail
                    refine (HSp.out _).mono ?_
                    rintro e w8 ⟨rfl, hb⟩
                    have HB8 := Lib.hid (HB.out.trans (hb.mono HB.out.size))
                    clear hb
                    unfold maskOk
                    go_wp2_with fail
                    refine (rhas_any m 7 _).mono ?_
                    rintro e w9 ⟨rfl, rfl⟩
                    cases h7 : hasB m 7 with
                    | false =>
                      have HR2 : Hid (itemL 4 l = some m) := Lib.hid (by
                        rw [HR.out, fix7_other]
                        rintro ⟨_, q⟩
                        rw [has7, q] at h7
                        cases h7)
                      go_wp2_with fail
                      go_ret2
                      exact ⟨by rw [HR2.out]; rfl, HB8.out⟩
                    | true =>
                      have hzs := zero_sub h7
                      have hnil : elems m ≠ [] := fun q => by
                        have := mem_elems.2 (by rw [has7] at h7; exact h7)
                        rw [q] at this; cases this
                      obtain ⟨hz3, hz4⟩ := hzs
                      have hz5 := U_nonneg (fix7 4 m)
                      clear h7
                      have HB9 := Lib.hid (HB8.out.alloc HB8.out.size (.cells #[.int .i64 0] 3))
                      have HNil := Lib.hid hnil
                      have HZ3 := Lib.hid hz3
                      clear hnil hz3
                      go_wp2_with fail
                      have HRow0 := Lib.hid (row_zero (w := w8))
                      have hsz := HB8.out.size
                      have hl64 := elems_64 m
                      refine (rall_any m _).mono ?_
                      rintro e w10 ⟨av, rfl, hav, hb2⟩
                      have HB10 := Lib.hid (HB9.out.trans (hb2.mono HB9.out.size))
                      have hrow2 := own_below HRow0.out hb2
                      have hsz2 : w8.heap.size + 1 ≤ w10.heap.size := by have := hb2.size; simp at this; omega
                      rcases hav.2 with ⟨rfl, h0⟩ | ⟨g2, cap2, cur2, rfl, hbase2, hrest⟩
                      · exact absurd (List.length_eq_zero_iff.1 h0) HNil.out
                      · have hsrc := hav.cells (g := g2) rfl
                        clear hrest
                        go_wp2_with (at_builtin; refine wpList_append_own _ rfl _ _ 103 rfl w8.heap.size 3 i0 (.int .i64 0) 1 8 Tryz.underlying103 hi hz0 hz1 hz2 rfl (by decide) _ _ _ rfl hrow2 ⟨g2, 0, none⟩ (elems m).length cap2 ((elems m).map ienc) rfl (by simp) hsrc (by intro u hu; obtain ⟨q, _, rfl⟩ := List.mem_map.1 hu; rfl) (by unfold maxLen; omega) (by omega) (by omega) ?_; intro v' w5 hown5 hgrow5 _)
                        have HB11 := Lib.hid (HB10.out.grown hgrow5 (by omega) (fun j e => by have := (hrow2.lt j e).1; omega))
                        have HF := Lib.hid (rof_row (0 :: elems m) (fun q hq => by
                          rcases List.mem_cons.1 hq with rfl | hq
                          · decide
                          · exact elems_lt hq) (by simp; omega) (zeroM m) (fun i hi => zero_bit m i hi) _ _ _ _ (by simp; omega) hown5)
                        rw [HZ3.out] at HF
                        clear hown5 hgrow5 hrow2 hsrc hav
                        refine HF.out.mono ?_
                        rintro e w' ⟨rfl, rfl⟩
                        go_wp2_with fail
                        go_ret2
                        exact ⟨by rw [HR.out]; rfl, HB11.out⟩
                  · have e4 : ((k : Int) == 4) = false := by simp; omega
                    have HR2 : Hid (itemL k l = some m) := Lib.hid (by rw [HR.out, fix7_other (fun q => h4 q.1)])
                    clear h4
                    go_wp2_with fail
                    refine (HSp.out _).mono ?_
                    rintro e w8 ⟨rfl, hb⟩
                    have HB8 := Lib.hid (HB.out.trans (hb.mono HB.out.size))
                    clear hb
                    unfold maskOk
                    go_wp2_with fail
                    go_ret2
                    exact ⟨by rw [HR2.out]; rfl, HB8.out⟩
      · have d2 : decide (63 < (n : Int)) = true := by simp; omega
        have HN := Lib.hid (show stepL (some st) = none by simp [stepL, hn]; omega)
        clear hn hn1 hn2
        go_enter Tryz.func82, Tryz.ntmps82
        go_wp2_with fail
        refine (HE.out _).mono ?_
        rintro e w1 ⟨rfl, hb1⟩
        have HB1 := Lib.hid hb1
        clear hb1
        go_wp2_with fail
        have HB2 := Lib.hid (HB1.out.alloc HB1.out.size (.cells #[.int .i64 (a : Int), .int .i64 (z : Int)] 177))
        have HX := Lib.hid (RunBox.new w1 (a : Int) (z : Int))
        have hwg : w.heap.size ≤ w1.heap.size := HB1.out.size
        clear HB1
        generalize hgw : w1.alloc _ = w2 at *
        generalize w1.heap.size = g at *
        clear hgw
        refine (HC1.out _).mono ?_
        rintro e w3 ⟨rfl, hb⟩
        have HB := Lib.hid (HB2.out.trans (hb.mono HB2.out.size)); have HX := Lib.hid (HX.out.on hb)
        clear hb HB2 HC1 HE
        try unfold strV at *
        go_wp2_with fail
        refine (HSt.out _).mono ?_
        rintro e w4' ⟨rfl, rfl⟩
        have HR : Hid (itemL k l = none) := Lib.hid (by exact itemL_no (by rw [HS2.out]; exact HN.out))
        go_wp2_with fail
        go_ret2
        exact ⟨by rw [HR.out]; rfl, HB.out⟩
    · have d1 : decide ((n : Int) < 1) = true := by simp; omega
      have HN := Lib.hid (show stepL (some st) = none by simp [stepL, hn]; omega)
      clear hn hn1
      go_enter Tryz.func82, Tryz.ntmps82
      go_wp2_with fail
      refine (HE.out _).mono ?_
      rintro e w1 ⟨rfl, hb1⟩
      have HB1 := Lib.hid hb1
      clear hb1
      go_wp2_with fail
      have HB2 := Lib.hid (HB1.out.alloc HB1.out.size (.cells #[.int .i64 (a : Int), .int .i64 (z : Int)] 177))
      have HX := Lib.hid (RunBox.new w1 (a : Int) (z : Int))
      have hwg : w.heap.size ≤ w1.heap.size := HB1.out.size
      clear HB1
      generalize hgw : w1.alloc _ = w2 at *
      generalize w1.heap.size = g at *
      clear hgw
      refine (HC1.out _).mono ?_
      rintro e w3 ⟨rfl, hb⟩
      have HB := Lib.hid (HB2.out.trans (hb.mono HB2.out.size)); have HX := Lib.hid (HX.out.on hb)
      clear hb HB2 HC1 HE
      try unfold strV at *
      go_wp2_with fail
      refine (HSt.out _).mono ?_
      rintro e w4' ⟨rfl, rfl⟩
      have HR : Hid (itemL k l = none) := Lib.hid (by exact itemL_no (by rw [HS2.out]; exact HN.out))
      go_wp2_with fail
      go_ret2
      exact ⟨by rw [HR.out]; rfl, HB.out⟩
theorem ritem_any (k : Nat) (l : List UInt8) (w : World) (hk : k < 5) (hl : l.length ≤ 1000) :
    Calls Tryz.prog 82 #[.int .i64 (k : Int), strV l] w fun e w' => e = .returned (optM (itemL k l)) ∧ Below w.heap.size w w' := by
  cases h : (cutB l 47).2 with
  | none => exact ritem_plain k l w hk hl h
  | some st => exact ritem_steps k l w hk hl st h
end Go.Proofs.YtbaobjbckabnhaaGreatDoor
/- The document's Read: walked. -/
namespace Go.Proofs.YtbaobjbckabnhaaGreatDoor
open Go.RowKit

theorem info_maskF : (Tryz.prog.info? 29).map (fun i => (i.zero, i.size, i.bytes)) = some (some (.int .u64 0), 1, 8) := by kernel_rfl
def menc (m : BitVec 64) : Value := .int .u64 (U m)
theorem folds_snoc : ∀ (l : List (BitVec 64)) (m x : BitVec 64), folds g_or (l ++ [x]) m = folds g_or l m ||| x
  | [], m, x => rfl
  | a :: l, m, x => by rw [List.cons_append, folds, folds, folds_snoc l]
/-- What is still to be read. -/
def moreL (mb : Bool) (r : List UInt8) : List (List UInt8) := if mb then splitC r else []
theorem more_next (k : Nat) (r : List UInt8) (a : Nat) (m : BitVec 64) : readP k (moreL true r) a m = match itemL k (cutB r 44).1 with
    | none => (0#64, a, 160)
    | some x => readP k (moreL (cutB r 44).2.isSome ((cutB r 44).2.getD [])) (a + (cutB r 44).1.length + 1) (m ||| x) := by
  show readP k (splitC r) a m = _
  rw [split_cut r, readP]
  cases itemL k (cutB r 44).1 with
  | none => rfl
  | some x =>
    cases (cutB r 44).2 with
    | none => rfl
    | some y => rfl
theorem cut_sum (r : List UInt8) (c : UInt8) : (cutB r c).1.length + ((cutB r c).2.getD []).length + (if (cutB r c).2.isSome then 1 else 0) = r.length := by
  obtain ⟨_, h | ⟨y, h1, h2⟩⟩ := cutB_spec r c
  · rw [h.1, h.2]; simp
  · have := congrArg List.length h2
    simp only [List.length_append, List.length_cons] at this
    rw [h1]; simp; omega
def restN : Value → Value → Nat
  | .string s, .bool true => s.size + 1
  | _, _ => 0
theorem menc_row (l : List (BitVec 64)) (k : Nat) (h : k < l.length) : (l.map menc)[k]? = some (.int .u64 (U (nth l k))) := by
  unfold nth
  rw [List.getElem?_map, List.getD_eq_getElem?_getD, List.getElem?_eq_getElem h]; rfl
theorem rread_long (k : Nat) (s : ByteArray) (w : World) (hs : s.size ≤ maxLen) (hl : 256 < s.size) :
    Calls Tryz.prog 49 #[.int .i64 (k : Int), .string s] w fun e w' => e = .returned (readV (readL k s.data.toList)) ∧ Below w.heap.size w w' := by
  unfold maxLen at hs
  have HR : Hid (readL k s.data.toList = (0#64, 0, 3)) := Lib.hid (by unfold readL; rw [if_pos (by rw [len_list]; exact hl)])
  rw [HR.out]
  unfold readV
  rw [U_zero]
  go_enter Tryz.func49, Tryz.ntmps49
  go_wp2_with fail
  go_ret3
  exact ⟨rfl, Below.refl _ _⟩
set_option maxRecDepth 100000 in
set_option maxHeartbeats 4000000 in
theorem rread_short (k : Nat) (s : ByteArray) (w : World) (hk : k < 5) (hl : s.size ≤ 256) :
    Calls Tryz.prog 49 #[.int .i64 (k : Int), .string s] w fun e w' => e = .returned (readV (readL k s.data.toList)) ∧ Below w.heap.size w w' := by
  obtain ⟨i0, hi, hz0, hz1, hz2⟩ := info_parts info_maskF
  have hR : readL k s.data.toList = readP k (moreL true s.data.toList) 0 0#64 := by unfold readL; rw [if_neg (by rw [len_list]; omega)]; rfl
  rw [hR]
  rw [strV_data]
  rw [← len_list] at hl
  have HLn := Lib.hid hl
  generalize s.data.toList = S at *
  clear hR
  have hsz := size_l S
  unfold strV
  have hg : ¬ (256 < ((⟨S.toArray⟩ : ByteArray).size : Int)) := by rw [hsz]; omega
  go_enter Tryz.func49, Tryz.ntmps49
  go_wp2_with fail
  go_loopw [7, 8, 9, 10] (fun v a r m wr => ∃ (done : List (BitVec 64)) (at_ : Nat) (rl : List UInt8) (mb : Bool), a = .int .i64 (at_ : Int) ∧ r = strV rl ∧ m = .bool mb ∧ Below w.heap.size w wr ∧ wr.ownsRow w.heap.size 29 1 v done.length (done.map menc) ∧ readP k (moreL true S) 0 0#64 = readP k (moreL mb rl) at_ (folds g_or done 0#64) ∧ (mb = true → at_ + rl.length ≤ 256 ∧ done.length + rl.length ≤ 256) ∧ at_ ≤ 257 ∧ done.length ≤ 257) (fun _ _ r m _ => restN r m)
  case atStart => exact ⟨[], 0, S, true, rfl, rfl, rfl, Below.refl _ _, World.ownsRow_nil _ _ _ _, rfl, fun _ => by have := HLn.out; simp; omega, by omega, by simp⟩
  case round =>
    obtain ⟨done, at_, rl, mb, rfl, rfl, rfl, hB, hrow, hP, hb, hat, hdn⟩ := hrel
    have HB := Lib.hid hB; have HRow := Lib.hid hrow; have HP := Lib.hid hP
    clear hB hrow hP
    cases mb with
    | true =>
      obtain ⟨hb1, hb2⟩ := hb rfl
      have HMN := Lib.hid (more_next k rl at_ (folds g_or done 0#64))
      have hcs := cut_sum rl 44
      have HC := Lib.hid (fun W => rcut_l rl 44 W (by omega))
      rw [show (((44 : UInt8).toNat : Nat) : Int) = 44 by rfl] at HC
      obtain ⟨x, hx⟩ : ∃ x, (cutB rl 44).1 = x := ⟨_, rfl⟩
      obtain ⟨y, hy⟩ : ∃ x, ((cutB rl 44).2.getD []) = x := ⟨_, rfl⟩
      obtain ⟨mb2, hm2⟩ : ∃ x, (cutB rl 44).2.isSome = x := ⟨_, rfl⟩
      rw [hx, hy, hm2] at HC HMN hcs
      have HI := Lib.hid (fun W => ritem_any k x W hk (by omega))
      have hsx := size_l x
      clear hx hy hm2 hb
      unfold strV at *
      cases hit : itemL k x with
      | none =>
        rw [hit] at HI HMN
        unfold optM at HI
        clear hit
        go_wp2_with fail
        refine (HC.out _).mono ?_
        rintro e w1 ⟨rfl, hb⟩
        have HB1 := Lib.hid (HB.out.trans (hb.mono HB.out.size))
        clear hb
        go_wp2_with fail
        refine (HI.out _).mono ?_
        rintro e w2 ⟨rfl, hb⟩
        have HB2 := Lib.hid (HB1.out.trans (hb.mono HB1.out.size))
        clear hb
        go_wp2_with fail
        go_ret3
        exact ⟨by rw [HP.out, HMN.out]; unfold readV; rw [U_zero]; rfl, HB2.out⟩
      | some z =>
        rw [hit] at HI HMN
        unfold optM at HI
        clear hit
        go_wp2_with fail
        refine (HC.out _).mono ?_
        rintro e w1 ⟨rfl, hb⟩
        have HB1 := Lib.hid (HB.out.trans (hb.mono HB.out.size)); have HRow1 := Lib.hid (own_below HRow.out hb)
        clear hb
        go_wp2_with fail
        refine (HI.out _).mono ?_
        rintro e w2 ⟨rfl, hb⟩
        have HB2 := Lib.hid (HB1.out.trans (hb.mono HB1.out.size)); have HRow2 := Lib.hid (own_below HRow1.out hb)
        have hsz2 := HB2.out.size
        clear hb
        go_wp2_with (at_builtin; refine wpList_append_own _ rfl _ _ 139 rfl w.heap.size 29 i0 (.int .u64 0) 1 8 Tryz.underlying139 hi hz0 hz1 hz2 rfl (by decide) _ _ _ rfl (HRow2.out.alloc _) ⟨w2.heap.size, 0, none⟩ 1 1 [.int .u64 (U z)] rfl rfl (cell_one_new _ _ _) (by simp [Value.oneCell']) (by unfold maxLen; omega) (by omega) (by simp; omega) ?_; intro v' w5 hown5 hgrow5 _)
        have HB5 := Lib.hid ((HB2.out.alloc hsz2 _).grown hgrow5 (by simp; omega) (fun j e => (HRow2.out.lt j e).1))
        have HRow5 := Lib.hid hown5
        clear hown5 hgrow5
        go_roundw
        case rel =>
          refine ⟨done ++ [z], at_ + x.length + 1, y, mb2, by go_num, rfl, rfl, HB5.out, ?_, ?_, ?_, ?_, ?_⟩
          · rw [List.length_append, List.map_append]; exact HRow5.out
          · rw [HP.out, HMN.out, folds_snoc]
          · intro hm; subst hm; simp at hcs ⊢; omega
          · omega
          · simp; omega
        case measure =>
          cases mb2 with
          | true => simp [restN, size_l] at hcs ⊢; omega
          | false => simp [restN]
    | false =>
      have HF : Hid (readP k (moreL true S) 0 0#64 = (folds g_or done 0#64, 0, 0)) := Lib.hid (by rw [HP.out]; rfl)
      obtain ⟨A, c, rfl, ha⟩ := own_arr0 HRow.out (fun k => .int .u64 (U (nth done k))) (fun k hk => menc_row done k hk)
      have HO := Lib.hid (ror_any A done.length c done wr rfl (by omega) ha (fun b o e h0 => by
        have := HRow.out.lt b (by rw [e]; rfl)
        exact this.2))
      clear ha hb
      go_wp2_with fail
      refine HO.out.mono ?_
      rintro e w2 ⟨rfl, hb⟩
      have HB2 := Lib.hid (HB.out.trans (hb.mono HB.out.size))
      clear hb
      go_wp2_with fail
      go_ret3
      exact ⟨by rw [HF.out]; rfl, HB2.out⟩
end Go.Proofs.YtbaobjbckabnhaaGreatDoor
/- The document's digits: walked. -/
namespace Go.Proofs.YtbaobjbckabnhaaGreatDoor
open Go.RowKit

theorem one_conv (W : World) (g c : Nat) (z : Int) (b : UInt8) (h : W.cell? ⟨g, 0, none⟩ = some (.int .u8 z)) (hz : z = (b.toNat : Nat)) : (convert 154 9 (.slice (some ⟨g, 0, none⟩) 1 c)).run Tryz.prog W = .ok (strV [b]) W :=
  run_convert_bytes_back W _ _ _ ⟨g, 0, none⟩ c [b] Tryz.underlying154 Tryz.underlying5 Tryz.underlying9 (fun j hj => by
    obtain rfl : j = 0 := by simpa using hj
    have e : (⟨g, 0, none⟩ : Addr).add 0 = ⟨g, 0, none⟩ := by unfold Addr.add; simp
    rw [e, h, hz]; rfl)
end Go.Proofs.YtbaobjbckabnhaaGreatDoor
/- The document's Text: walked. -/
namespace Go.Proofs.YtbaobjbckabnhaaGreatDoor
open Go.RowKit

def outN (m : BitVec 64) (j : Nat) : List UInt8 := joinC ((runsS m).take j)
theorem joinC_snoc : ∀ (l : List (List UInt8)) (x : List UInt8), joinC (l ++ [x]) = if l = [] then x else joinC l ++ 44 :: x
  | [], x => rfl
  | [p], x => rfl
  | p :: q :: l, x => by
    have h := joinC_snoc (q :: l) x
    rw [if_neg (by simp)] at h
    rw [if_neg (by simp), List.cons_append, List.cons_append, joinC, ← List.cons_append, h, joinC, List.append_assoc]
    rfl
theorem out_next {m : BitVec 64} {j : Nat} {r : Nat × Nat} (h : (runsOf m)[j]? = some r) : outN m (j + 1) = if j = 0 then runL r else outN m j ++ 44 :: runL r := by
  have hlt := (List.getElem?_eq_some_iff.1 h).1
  have h1 : (runsS m)[j]? = some (runL r) := by unfold runsS; rw [List.getElem?_map, h]; rfl
  unfold outN
  rw [List.take_add_one, h1]
  show joinC ((runsS m).take j ++ [runL r]) = _
  rw [joinC_snoc]
  by_cases h0 : j = 0
  · subst h0; rfl
  · rw [if_neg h0, if_neg (fun e => by
      have := congrArg List.length e
      rw [List.length_take, show (runsS m).length = (runsOf m).length by unfold runsS; simp, List.length_nil] at this
      omega)]
theorem out_len (m : BitVec 64) (j : Nat) : (outN m j).length ≤ 6 * j := by
  unfold outN
  have h1 := joinC_len ((runsS m).take j)
  have h2 := sum_six ((runsS m).take j) (fun x hx => by
    have hx2 := List.mem_of_mem_take hx
    unfold runsS at hx2
    rw [List.mem_map] at hx2
    obtain ⟨r, _, rfl⟩ := hx2
    exact (run_len r).2)
  have h3 := List.length_take_le j (runsS m)
  omega
theorem out_all (m : BitVec 64) : outN m (runsOf m).length = runsL m := by
  unfold outN runsL
  rw [show (runsOf m).length = (runsS m).length by unfold runsS; simp, List.take_length]; rfl
theorem run_le {m : BitVec 64} {r : Nat × Nat} (h : r ∈ runsOf m) : r.1 ≤ r.2 ∧ r.2 < 64 := by
  obtain ⟨a, e, rfl, _, h1, _, h2, _⟩ := run_mem h
  exact ⟨h1, BitVec.lt_of_getLsbD (h2 e h1 (Nat.le_refl _))⟩
end Go.Proofs.YtbaobjbckabnhaaGreatDoor
/- wakes, cut: walked. -/
namespace Go.Proofs.YtbaobjbckabnhaaGreatDoor
open Go.RowKit

theorem w_read0 : readL 0 [48, 44, 49, 53, 45, 49, 55, 44, 42, 47, 51, 48] = (1073971201#64, 0, 0) := by decide +kernel
theorem w_text0 : textL 0 1073971201#64 = [48, 44, 49, 53, 45, 49, 55, 44, 51, 48] := by decide +kernel
theorem w_field0 : fieldB 0 1073971201#64 = true := by decide +kernel
theorem w_read4 : readL 4 [102, 114, 105, 45, 55] = (97#64, 0, 0) := by decide +kernel
theorem w_read1 : readL 1 [49, 44, 44, 50] = (0#64, 2, 160) := by decide +kernel
/-- What cut leaves of a text. -/
def cutL (s : List UInt8) : List UInt8 := s.take 260
theorem cut_len260 (s : List UInt8) : (cutL s).length ≤ 260 ∧ (cutL s).length ≤ s.length := by unfold cutL; rw [List.length_take]; omega
end Go.Proofs.YtbaobjbckabnhaaGreatDoor
/- From a walk to the row: what every law of this seat shares. -/
namespace Go.Proofs.YtbaobjbckabnhaaGreatDoor
open Go.ChangeShapes Go.WideShapes Go.ChangeAt Go.WideMaps Go.WideElems Go.RowKit

theorem own : ownKnob Tryz.prog.godebug = none := by kernel_rfl
theorem laidOut : laidOutB Tryz.prog = true := by kernel_rfl
theorem gTab : Tryz.prog.globalNamed "math/bits.deBruijn64tab" = some 6 := by kernel_rfl
theorem tTab : (Tryz.prog.globals[6]?).map (·.type) = some 223 := by kernel_rfl
theorem cU8 : Tryz.prog.cellsOf 5 = 1 := by kernel_rfl
theorem gEnds : Tryz.prog.globalNamed "curfew/field.ends" = some 0 := by kernel_rfl
theorem tEnds : (Tryz.prog.globals[0]?).map (·.type) = some 178 := by kernel_rfl
theorem gNames : Tryz.prog.globalNamed "curfew/field.names" = some 4 := by kernel_rfl
theorem tNames : (Tryz.prog.globals[4]?).map (·.type) = some 217 := by kernel_rfl
theorem cRun : Tryz.prog.cellsOf 177 = 2 := by kernel_rfl
theorem cInt : Tryz.prog.cellsOf 3 = 1 := by kernel_rfl
theorem cStrs : Tryz.prog.cellsOf 112 = 1 := by kernel_rfl
theorem cStr : Tryz.prog.cellsOf 9 = 1 := by kernel_rfl
theorem g32 : Tryz.prog.globalNamed "math/bits.deBruijn32tab" = some 10 := by kernel_rfl
theorem lt_of_var {W : World} {n : String} {g : Nat} {cs : Array Value} (hg : Tryz.prog.globalNamed n = some g) (hv : W.var? Tryz.prog n = some cs) : g < W.heap.size := by
  unfold World.var? at hv
  rw [hg] at hv
  simp only [Option.bind_some] at hv
  rcases Nat.lt_or_ge g W.heap.size with hl | hl
  · exact hl
  · rw [Array.getElem?_eq_none (by simpa using hl)] at hv; cases hv
/-- What the rows list first. -/
def laidF (r : List (String × DataW Unit)) : List (String × DataW Unit) := ("math/bits.deBruijn32tab", Rows.laid_math_bits_deBruijn32tab) :: ("math/bits.deBruijn64tab", Rows.laid_math_bits_deBruijn64tab) :: ("internal/strconv.uint64pow10", Rows.laid_internal_strconv_uint64pow10) ::
  ("unicode/utf8.acceptRanges", Rows.laid_unicode_utf8_acceptRanges) :: ("curfew/field.ends", Rows.laid_curfew_field_ends) :: ("curfew/field.names", Rows.laid_curfew_field_names) :: r
theorem tab_data : (Rows.laid_math_bits_deBruijn64tab : DataW Unit) = .agg (Lib.deBruijn64tab.map fun n : Nat => .lit (.int .u8 (n : Int))) := by rfl
theorem tab_len : Lib.deBruijn64tab.length = 64 := by decide
theorem ends_data : (Rows.laid_curfew_field_ends : DataW Unit) = .agg ((List.range 5).map fun k => .agg [.lit (.int .i64 (loK k : Nat)), .lit (.int .i64 (hiK k : Nat))]) := by rfl
def nameD (l : List (List UInt8)) : DataW Unit := if l = [] then .nil else .slice (l.map fun s => .lit (.string s)) []
theorem names_data : (Rows.laid_curfew_field_names : DataW Unit) = .agg ((List.range 5).map fun k => nameD (namesK k)) := by rfl
theorem at_drop {cs : List Value} {j k : Nat} {v : Value} (h : (cs.drop j).take (k + 1) = v :: [] ∨ ∃ r, (cs.drop j).take (k + 1) = v :: r) : cs[j]? = some v := by
  obtain ⟨r, hr⟩ : ∃ r, (cs.drop j).take (k + 1) = v :: r := h.elim (fun e => ⟨[], e⟩) id
  have := congrArg (fun l => l[0]?) hr
  simpa using this
theorem lt_of_cell {w : World} {b o : Nat} {v : Value} (h : w.cell? ⟨b, o, none⟩ = some v) : b < w.heap.size := by
  rcases Nat.lt_or_ge b w.heap.size with hl | hl
  · exact hl
  · unfold World.cell? at h; rw [Array.getElem?_eq_none (by simpa using hl)] at h; simp at h
theorem tab_cells {W : World} {fuel : Nat} {cs : List Value} {q : List MemPlace} (h : DataW.trod (fun _ => ()) Tryz.prog W 0 (fun _ => true) false fuel 223 cs = some (.agg (Lib.deBruijn64tab.map fun n : Nat => .lit (.int .u8 (n : Int))), q)) (j : Nat) (hj : j < 64) : cs[j]? = some (.int .u8 ((Lib.deBruijn64tab.getD j 0 : Nat) : Int)) := by
  obtain ⟨xs, m1, rfl, hx1, hlen, hn3, hel⟩ := DataW.trod_array Tryz.underlying223 h
  simp only [Prod.mk.injEq, DataW.agg.injEq] at hx1
  have hx := hx1.1
  have h0 := hel j hj
  rw [cU8, Nat.mul_one] at h0
  have hjx : j < xs.length := by omega
  rw [List.getElem?_eq_getElem hjx] at h0
  obtain ⟨k, e1, e2, _⟩ := DataW.trod_int Tryz.underlying5 h0
  have hq : (Lib.deBruijn64tab.map fun n : Nat => (DataW.lit (.int .u8 (n : Int)) : DataW Unit))[j]? = some (.lit (.int .u8 k)) := by
    rw [hx, List.getElem?_map, List.getElem?_eq_getElem hjx, e2]; rfl
  rw [List.getElem?_map, List.getElem?_eq_getElem (by rw [tab_len]; exact hj)] at hq
  simp only [Option.map_some, Option.some.injEq, DataW.lit.injEq, Lit.int.injEq, true_and] at hq
  rw [at_drop (k := 0) (Or.inl e1), ← hq, List.getD_eq_getElem?_getD, List.getElem?_eq_getElem (by rw [tab_len]; exact hj)]; rfl
theorem ends_cells {W : World} {fuel : Nat} {cs : List Value} {q : List MemPlace} (h : DataW.trod (fun _ => ()) Tryz.prog W 0 (fun _ => true) false fuel 178 cs = some (.agg ((List.range 5).map fun k => .agg [.lit (.int .i64 (loK k : Nat)), .lit (.int .i64 (hiK k : Nat))]), q)) (j : Nat) (hj : j < 5) :
    cs[j * 2]? = some (.int .i64 (loK j : Nat)) ∧ cs[j * 2 + 1]? = some (.int .i64 (hiK j : Nat)) := by
  obtain ⟨xs, m1, rfl, hx1, hlen, hn3, hel⟩ := DataW.trod_array Tryz.underlying178 h
  simp only [Prod.mk.injEq, DataW.agg.injEq] at hx1
  have hx := hx1.1
  have h0 := hel j hj
  rw [cRun] at h0
  have hjx : j < xs.length := by omega
  rw [List.getElem?_eq_getElem hjx] at h0
  obtain ⟨ys, m2, rfl, hy1, hylen, hy3, hyel⟩ := DataW.trod_struct Tryz.underlying177 h0
  have hq : ((List.range 5).map fun k => (DataW.agg [.lit (.int .i64 (loK k : Nat)), .lit (.int .i64 (hiK k : Nat))] : DataW Unit))[j]? = some (.agg (ys.map (·.1))) := by
    rw [hx, List.getElem?_map, List.getElem?_eq_getElem hjx, hy1]; rfl
  rw [List.getElem?_map, List.getElem?_range hj] at hq
  simp only [Option.map_some, Option.some.injEq, DataW.agg.injEq] at hq
  have hlen2 : ys.length = 2 := by have := congrArg List.length hq; simpa using this.symm
  have hf : ∀ i, i < 2 → ∀ f : Field, f.type = 3 → f.offset = i → DataW.trod (fun _ => ()) Tryz.prog W 0 (fun _ => true) false m2 f.type ((((cs.drop (j * 2)).take 2).drop f.offset).take (Tryz.prog.cellsOf f.type)) = ys[i]? → ∃ z, cs[j * 2 + i]? = some (.int .i64 z) ∧ (ys.map (·.1))[i]? = some (.lit (.int .i64 z)) := by
    intro i hi f ht ho h
    rw [ht, ho, cInt] at h
    have hiy : i < ys.length := by omega
    rw [List.getElem?_eq_getElem hiy] at h
    obtain ⟨z, e1, e2, _⟩ := DataW.trod_int Tryz.underlying3 h
    refine ⟨z, ?_, by rw [List.getElem?_map, List.getElem?_eq_getElem hiy, e2]; rfl⟩
    have h1 := at_drop (k := 0) (Or.inl e1)
    rw [List.getElem?_take, if_pos hi, List.getElem?_drop] at h1
    rw [← h1]
  obtain ⟨z0, p0, q0⟩ := hf 0 (by omega) _ rfl rfl (hyel 0 _ rfl)
  obtain ⟨z1, p1, q1⟩ := hf 1 (by omega) _ rfl rfl (hyel 1 _ rfl)
  rw [← hq] at q0 q1
  simp only [List.getElem?_cons_zero, List.getElem?_cons_succ, Option.some.injEq, DataW.lit.injEq, Lit.int.injEq, true_and] at q0 q1
  exact ⟨by rw [q0]; exact p0, by rw [q1]; exact p1⟩
theorem spot_none {w : World} {b off : Nat} {spot : Option Nat} {v : Value} (h : w.cell? (((⟨b, off, spot⟩ : Addr).add 0).add 0) = some v) : spot = none := by
  simpa [Addr.add] using World.cell?_spot h
theorem names_cells {W : World} {fuel : Nat} {cs : List Value} {q : List MemPlace} (h : DataW.trod (fun _ => ()) Tryz.prog W 0 (fun _ => true) false fuel 217 cs = some (.agg ((List.range 5).map fun k => nameD (namesK k)), q)) (j : Nat) (hj : j < 5) :
    ∃ A n c, cs[j]? = some (.slice A n c) ∧ ArrL W A n (namesK j) := by
  obtain ⟨xs, m1, rfl, hx1, hlen, hn3, hel⟩ := DataW.trod_array Tryz.underlying217 h
  simp only [Prod.mk.injEq, DataW.agg.injEq] at hx1
  have hx := hx1.1
  have h0 := hel j hj
  rw [cStrs, Nat.mul_one] at h0
  have hjx : j < xs.length := by omega
  rw [List.getElem?_eq_getElem hjx] at h0
  have hq : ((List.range 5).map fun k => nameD (namesK k))[j]? = some xs[j].1 := by
    rw [hx, List.getElem?_map, List.getElem?_eq_getElem hjx]; rfl
  rw [List.getElem?_map, List.getElem?_range hj] at hq
  simp only [Option.map_some, Option.some.injEq] at hq
  rcases DataW.trod_slice Tryz.underlying112 h0 with ⟨e1, e2⟩ | ⟨a, len, cap, elems, rest, m2, rfl, e1, e2, _, hl, hm, hel2, hi, _, _⟩
  · have hnil : namesK j = [] := by
      rw [e2] at hq
      unfold nameD at hq
      split at hq
      · assumption
      · cases hq
    exact ⟨none, 0, 0, at_drop (k := 0) (Or.inl e1), by rw [hnil]; exact ⟨rfl, fun i x h => by simp at h⟩⟩
  · rw [e2] at hq
    unfold nameD at hq
    split at hq
    · cases hq
    · simp only [DataW.slice.injEq] at hq
      have hq1 := hq.1
      have hll : (namesK j).length = len := by have := congrArg List.length hq1; simp at this; omega
      have hi' : ∀ i, i < len → (W.cells? 0 (a.add i) 1).bind (DataW.trod (fun _ => ()) Tryz.prog W 0 (fun _ => true) false m2 9) = elems[i]? := fun i h => by
        have h2 := hi i h
        rw [cStr, Nat.mul_one] at h2
        exact h2
      clear hi
      refine ⟨some a, len, cap, at_drop (k := 0) (Or.inl e1), hll, fun i x hx => ?_⟩
      have hil := (List.getElem?_eq_some_iff.1 hx).1
      have h2 := hi' i (by omega)
      rw [List.getElem?_eq_getElem (by omega)] at h2
      obtain ⟨cs', hc, ht⟩ := Option.bind_eq_some_iff.1 h2
      obtain ⟨_, hlen2, hat⟩ := World.cells?_some hc
      obtain ⟨s, e3, e4, _⟩ := DataW.trod_string Tryz.underlying9 ht
      subst e3
      have k0 := hat 0 (by omega)
      have hx2 : ((namesK j).map fun s => (DataW.lit (.string s) : DataW Unit))[i]? = some (.lit (.string s.data.toList)) := by
        rw [hq1, List.getElem?_map, List.getElem?_eq_getElem (by omega), e4]; rfl
      rw [List.getElem?_map, hx] at hx2
      simp only [Option.map_some, Option.some.injEq, DataW.lit.injEq, Lit.string.injEq] at hx2
      obtain ⟨b, off, rfl⟩ : ∃ b off, a = ⟨b, off, none⟩ := by
        have h20 := hi' 0 (by omega)
        rw [List.getElem?_eq_getElem (by omega)] at h20
        obtain ⟨cs0, hc0, ht0⟩ := Option.bind_eq_some_iff.1 h20
        obtain ⟨_, hlen0, hat0⟩ := World.cells?_some hc0
        obtain ⟨s0, e30, _, _⟩ := DataW.trod_string Tryz.underlying9 ht0
        subst e30
        have k00 := hat0 0 (by omega)
        obtain ⟨b, off, spot⟩ := a
        have hspot : spot = none := spot_none k00
        subst hspot
        exact ⟨b, off, rfl⟩
      rw [Go.WideShapes.add_plain, Go.WideShapes.add_plain] at k0
      exact ⟨b, off, rfl, lt_of_cell k0, by rw [hx2, ← strV_data]; exact k0⟩
/-- What the condition gives the walks. -/
theorem laid_of {W : World} {r : List (String × DataW Unit)} (hh : (laidF r).all (fun x => x.2.handleName?.isNone) = true) (h : laidMetH Tryz.prog (laidF r) W) (hsh : W.ShapedOpen Tryz.prog) : Laid W := by
  rw [MakeChecks.laidMetH_plain _ _ _ hh] at h
  obtain ⟨ps, ⟨g1, t1, cs1, f1, p1, q1, hg1, ht1, hv1, hd1, ⟨g2, t2, cs2, f2, p2, q2, hg2, ht2, hv2, hd2, ⟨g3, t3, cs3, f3, p3, q3, hg3, ht3, hv3, hd3, ⟨g4, t4, cs4, f4, p4, q4, hg4, ht4, hv4, hd4, ⟨g5, t5, cs5, f5, p5, q5, hg5, ht5, hv5, hd5, ⟨g6, t6, cs6, f6, p6, q6, hg6, ht6, hv6, hd6, _, _⟩, _⟩, _⟩, _⟩, _⟩, _⟩, _, _⟩ := h
  obtain rfl := Option.some.inj (gTab.symm.trans hg2)
  obtain rfl := Option.some.inj (tTab.symm.trans ht2)
  obtain rfl := Option.some.inj (gEnds.symm.trans hg5)
  obtain rfl := Option.some.inj (tEnds.symm.trans ht5)
  obtain rfl := Option.some.inj (gNames.symm.trans hg6)
  obtain rfl := Option.some.inj (tNames.symm.trans ht6)
  rw [tab_data] at hd2
  rw [ends_data] at hd5
  rw [names_data] at hd6
  refine ⟨fun j hj => ?_, fun k hk => ?_, fun k hk => ?_, fun k hk => ?_, ?_, ?_⟩
  · rw [tab_len] at hj
    rw [World.var?_cell hg2 hv2 j, ← Array.getElem?_toList]
    exact tab_cells hd2 j hj
  · rw [World.var?_cell hg5 hv5 (k * 2), ← Array.getElem?_toList]
    exact (ends_cells hd5 k hk).1
  · rw [World.var?_cell hg5 hv5 (k * 2 + 1), ← Array.getElem?_toList]
    exact (ends_cells hd5 k hk).2
  · obtain ⟨A, n, c, hc, ha⟩ := names_cells hd6 k hk
    exact ⟨A, n, c, by rw [World.var?_cell hg6 hv6 k, ← Array.getElem?_toList]; exact hc, ha⟩
  · obtain ⟨m, hm⟩ := cell_of_shapedOpen_int (P := Tryz.prog) (g := 5) (t := 3) (zero := #[.int .i64 0]) hsh (of_decide_eq_true (by kernel_rfl)) (by kernel_rfl) rfl (by kernel_rfl) (by kernel_rfl) Tryz.underlying3
    exact ⟨m, hm⟩
  · obtain ⟨m, hm⟩ := cell_of_shapedOpen_int (P := Tryz.prog) (g := 5) (t := 3) (zero := #[.int .i64 0]) hsh (of_decide_eq_true (by kernel_rfl)) (by kernel_rfl) rfl (by kernel_rfl) (by kernel_rfl) Tryz.underlying3
    have h0 := lt_of_cell hm
    have h1 := lt_of_var hg5 hv5
    have h2 := lt_of_var hg6 hv6
    have h3 := lt_of_var hg2 hv2
    omega

/-! behind the walk: nothing that lay has turned -/
theorem below_all {H : Type} {enc : TypeId × Value → H} {P : Program} (hl : laidOutB P = true) {W W' : World} (hb : Below W.heap.size W W') :
    ∀ (ts : List TypeId) (vs : List Value) (ds : List (DataW H)) (ps : List MemPlace), (∀ t ∈ ts, P.readableRec t = true ∧ t < P.types.size) → (∀ x ∈ ps, x.block < W.heap.size) →
      DataW.TrodAll enc P W 0 (fun _ => true) true ts vs ds ps → DataW.TrodAll enc P W' 0 (fun b => decide (b < W.heap.size)) true ts vs ds ps
  | [], [], [], _, _, _, h => h
  | [], _ :: _, _, _, _, _, h => by simp [DataW.TrodAll] at h
  | [], [], _ :: _, _, _, _, h => by simp [DataW.TrodAll] at h
  | t :: ts, vs, ds, ps, ht, hp, h => by
    obtain ⟨v, vs', d, ds', p, q, rfl, rfl, rfl, h1, h2⟩ := trodAll_cons h
    have k1 := hb.trod hl (ht t (by simp)).1 (ht t (by simp)).2 h1 (fun x hx => hp x (by simp [hx]))
    have k2 := below_all hl hb ts vs' ds' q (fun t h => ht t (by simp [h])) (fun x hx => hp x (by simp [hx])) h2
    exact trodAll_cons_mk k1 k2
theorem law_post {H : Type} {enc : TypeId × Value → H} {P : Program} {f : Func} {s : ChangeSpec} {apart : Bool} {W W' : World} {args : Array Value} {ds : List (DataW H)} {before : List MemPlace} {tb : TypeId}
    (hl : laidOutB P = true) (hs : s.fn H ds = { results := [.lit (.bool true)], args := ds }) (hv : s.vars = []) (hr : f.resultTypes = #[tb]) (hb1 : P.underlying tb = some .bool)
    (hall : (f.params.toList.all fun t => P.readableRec t && decide (t < P.types.size)) = true) (hW : DataW.Whole enc P f.params.toList s.vars apart W args.toList ds [] before) (hb : Below W.heap.size W W') :
    s.post enc P f apart true false false W args (.bool true) W' := by
  have ht : ∀ t ∈ f.params.toList, P.readableRec t = true ∧ t < P.types.size := fun t h => by simpa using List.all_eq_true.1 hall t h
  have hlt := hW.lt
  have hW0 := hW
  obtain ⟨p, q, hA, hV, rfl, _, _⟩ := hW0
  rw [hv] at hV
  obtain ⟨_, rfl⟩ := trodVars_none hV
  refine ⟨ds, [], p ++ [], [], p, [], hW, ?_, ?_, ?_, hb.frame _, fun h => by cases h⟩
  · rw [List.append_nil, hs, hr]
    exact trodAll_mk1 (shut_bool hb1 _)
  · rw [List.append_nil, hs]
    exact below_all hl hb _ _ _ _ ht (fun x hx => hlt x (by simp [hx])) hA
  · rw [List.append_nil, hs, hv]
    exact rfl

/-- The wrap that hands over what the row lists, and the world's shape. -/
theorem returns_and_shaped {H : Type} {enc : TypeId × Value → H} {a : Assume} {C : Checked} {os : Os} {f : FuncId} {fn : Func} {s : ChangeSpec} {conds : List PathCond} {apart fresh handsOn again : Bool} {X : World → Array Value → Prop}
    (hX : ∀ (w w' : World) (args : Array Value), w.heap = w'.heap → X w args → X w' args)
    (own : ownKnob C.prog.godebug = none) (started : os.Started) (noInit : C.prog.inits.idxOf? f = none) (hfn : C.prog.funcs[f]? = some fn)
    (witness : ∃ (w : World) (tape : Tape) (i : Input), w.os = os ∧ (w.forCall tape i).Shaped C.prog ∧ i.vars = [] ∧ Input.okWide C.prog (w.forCall tape i) .any w.heap.size f i ∧
      ((s.pre enc C.prog fn conds apart (w.forCall tape i).memory i.args ∧ X (w.forCall tape i).memory i.args) ∧ sizedMet enc C.prog fn (OpenSpec.ofChange s) apart (w.forCall tape i).memory i.args) ∧ a.holds C.prog (lone (Frame.enter C.prog f i.args .normal) [] (w.forCall tape i)))
    (contract : ∀ (W : World) (base : Nat) (args : Array Value) (ds gs : List (DataW H)) (before : List MemPlace),
      (∀ (j : Nat) t v, fn.params[j]? = some t → args[j]? = some v → Value.okWide C.prog W .any base t v) →
      DataW.Whole enc C.prog fn.params.toList s.vars apart W args.toList ds gs before →
      X W args → W.ShapedOpen C.prog →
      Calls C.prog f args W fun e W' => ∃ v, e = .returned v ∧ s.post enc C.prog fn apart fresh handsOn again W args v W') :
    ReturnsInHanded a C os f .any (fun w args => (s.pre enc C.prog fn conds apart w args ∧ X w args) ∧ sizedMet enc C.prog fn (OpenSpec.ofChange s) apart w args) (s.post enc C.prog fn apart fresh handsOn again) := by
  refine returnsInHanded_of_calls own started noInit witness ?_
  intro w tape i _ hsh _ hok hpre _
  obtain ⟨_, _, _, fn', hfn', _, _, _, _, hval⟩ := hok
  have e : fn' = fn := Option.some.inj (hfn'.symm.trans hfn)
  subst e
  obtain ⟨⟨⟨ds, gs, before, hw, _⟩, hx⟩, _⟩ := hpre
  have hw' := DataW.Whole.of_heap (w' := w.forCall tape i) (by rfl) hw
  refine (contract (w.forCall tape i) w.heap.size i.args ds gs before hval hw' (hX _ _ _ (by rfl) hx) hsh).mono fun e W' ⟨v, he, hp⟩ => ?_
  subst he
  exact ChangeSpec.post_blind hp
end Go.Proofs.YtbaobjbckabnhaaGreatDoor
/- FieldReads, FieldTexts: walked. -/
namespace Go.Proofs.YtbaobjbckabnhaaGreatDoor
open Go.RowKit

/-- A row of strings, where it lies. -/
def ArrS (w : World) (B : Nat) (A : Option Addr) (n : Nat) : Prop :=
  ∀ k, k < n → ∃ (b o : Nat) (s : ByteArray), A = some ⟨b, o, none⟩ ∧ b < B ∧ w.cell? ⟨b, o + k, none⟩ = some (.string s) ∧ s.size ≤ maxLen
theorem ArrS.on {w w' : World} {B n : Nat} {A : Option Addr} (h : ArrS w B A n) (hb : Below B w w') : ArrS w' B A n := fun k hk => by
  obtain ⟨b, o, s, e, hl, hc, hs⟩ := h k hk
  exact ⟨b, o, s, e, hl, (hb.cell (p := ⟨b, o + k, none⟩) hl).trans hc, hs⟩
theorem read_l (k : Nat) (l : List UInt8) (w : World) (hL : Laid w) (hk : k < 5) (hl : l.length ≤ maxLen) :
    Calls Tryz.prog 119 #[.int .i64 (k : Int), strV l] w fun e w' => e = .returned (readV (readL k l)) ∧ Below w.heap.size w w' := by
  have hz := size_l l
  have hd : (⟨l.toArray⟩ : ByteArray).data.toList = l := by simp
  by_cases h : 256 < l.length
  · have := read_long k ⟨l.toArray⟩ w hk (by rw [hz]; exact hl) (by rw [hz]; exact h)
    rwa [hd] at this
  · have := read_short k ⟨l.toArray⟩ w hL hk (by rw [hz]; omega)
    rwa [hd] at this
theorem read_lno (z : Int) (l : List UInt8) (w : World) (h : NoKind z) :
    Calls Tryz.prog 119 #[.int .i64 z, strV l] w fun e w' => e = .returned (readV (0#64, 0, 2)) ∧ Below w.heap.size w w' := read_no z ⟨l.toArray⟩ w h
theorem rread_l (k : Nat) (l : List UInt8) (w : World) (hk : k < 5) (hl : l.length ≤ maxLen) :
    Calls Tryz.prog 49 #[.int .i64 (k : Int), strV l] w fun e w' => e = .returned (readV (readL k l)) ∧ Below w.heap.size w w' := by
  have hz := size_l l
  have hd : (⟨l.toArray⟩ : ByteArray).data.toList = l := by simp
  by_cases h : 256 < l.length
  · have := rread_long k ⟨l.toArray⟩ w (by rw [hz]; exact hl) (by rw [hz]; exact h)
    rwa [hd] at this
  · have := rread_short k ⟨l.toArray⟩ w hk (by rw [hz]; omega)
    rwa [hd] at this
theorem kind_case (z : Int) : NoKind z ∨ ∃ k : Nat, z = k ∧ k < 5 := by
  by_cases h : 0 ≤ z ∧ z < 5
  · exact .inr ⟨z.toNat, by omega, by omega⟩
  · exact .inl (by unfold NoKind; omega)
end Go.Proofs.YtbaobjbckabnhaaGreatDoor
