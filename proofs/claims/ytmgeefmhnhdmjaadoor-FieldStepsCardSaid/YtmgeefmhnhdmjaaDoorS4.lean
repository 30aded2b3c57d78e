/- Texts of this seat, one behind the other: FRVal, FRItem, FRRead, FRDig, FRTxt, FWakes, FLift, FReads, FTexts, FTellsW, FMap, FNamesW. -/
import Derived.Test.YtmgeefmhnhdmjaaDoorS3
import Derived.Test.YtmgeefmhnhdmjaaDoorRows
import Derived.Test.YtmgeefmhnhdmjaaDoorTie
import Derived.Test.YtmgeefmhnhdmjaaDoorCards
import Derived.ProofKit
import Derived.LaidMore
import Derived.OpenShut
import Derived.Stop.Joined
import Derived.SevenTiedAt
import Derived.Lay
import Derived.HandedShaped
import Derived.Shelf.Vars
import Derived.Deep.RegionHeld3
import Derived.Maps.RangeWalk
/- The document's Value: walked. -/
namespace Go.Proofs.YtmgeefmhnhdmjaaDoor
open Go.RowKit

/-- A run stands in block g. -/
def RunBox (w : World) (g : Nat) (a b : Int) : Prop := w.heap[g]? = some (.cells #[.int .i64 a, .int .i64 b] 28 (0, 0))
theorem RunBox.lt {w : World} {g : Nat} {a b : Int} (h : RunBox w g a b) : g < w.heap.size := by
  rcases Nat.lt_or_ge g w.heap.size with hlt | hge
  · exact hlt
  · unfold RunBox at h; rw [Array.getElem?_eq_none hge] at h; cases h
theorem RunBox.on {w w' : World} {g : Nat} {a b : Int} (h : RunBox w g a b) (hb : Below w.heap.size w w') : RunBox w' g a b := (hb.block g h.lt).trans h
theorem RunBox.cells {w : World} {g : Nat} {a b : Int} (h : RunBox w g a b) : w.cell? ⟨g, 0, none⟩ = some (.int .i64 a) ∧ w.cell? ⟨g, 1, none⟩ = some (.int .i64 b) ∧ w.frozen? ⟨g, 0, none⟩ = false ∧ w.frozen? ⟨g, 1, none⟩ = false := by
  unfold RunBox at h
  exact ⟨by rw [Go.Joins.cell_of_block h]; rfl, by rw [Go.Joins.cell_of_block h]; rfl, by simp [World.frozen?, h], by simp [World.frozen?, h]⟩
theorem RunBox.new (w : World) (a b : Int) : RunBox (w.alloc (.cells #[.int .i64 a, .int .i64 b] 28)) w.heap.size a b := heap_alloc_new w _
theorem RunBox.set1 {w : World} {g : Nat} {a b : Int} (h : RunBox w g a b) (c : Int) : RunBox (w.setCell ⟨g, 1, none⟩ (.int .i64 c)) g a c := Go.Joins.block_setCell h _
theorem RunBox.set0 {w : World} {g : Nat} {a b : Int} (h : RunBox w g a b) (c : Int) : RunBox (w.setCell ⟨g, 0, none⟩ (.int .i64 c)) g c b := Go.Joins.block_setCell h _
theorem vname_at {k j : Nat} {s x : List UInt8} (hx : (namesK k)[j]? = some x) (hno : ∀ (i : Nat) y, i < j → (namesK k)[i]? = some y → upL s ≠ y) (h : upL s = x) : valueL k s = some (loK k + j) := by
  have hf : (namesK k).findIdx? (fun nm => upL s == nm) = some j := by
    obtain ⟨hlt, hv⟩ := List.getElem?_eq_some_iff.1 hx
    rw [List.findIdx?_eq_some_iff_getElem]
    refine ⟨hlt, by rw [hv, h]; simp, fun i hi => ?_⟩
    have := hno i _ hi (List.getElem?_eq_getElem (by omega))
    simpa using this
  unfold valueL
  rw [hf]
theorem vname_none {k : Nat} {s : List UInt8} (hno : ∀ (i : Nat) y, i < (namesK k).length → (namesK k)[i]? = some y → upL s ≠ y) : valueL k s = match numL s with | some n => if loK k ≤ n ∧ n ≤ topK k then some n else none | none => none := by
  have hf : (namesK k).findIdx? (fun nm => upL s == nm) = none := by
    rw [List.findIdx?_eq_none_iff]
    intro x hx
    obtain ⟨i, hi, e⟩ := List.mem_iff_getElem.1 hx
    have := hno i x hi (by rw [← e]; exact List.getElem?_eq_getElem _)
    simpa using this
  unfold valueL
  rw [hf]
  rfl
theorem num_1000 (l : List UInt8) : (numL l).getD 0 < 1000 := by
  cases h : numL l with
  | none => simp
  | some n => exact num_lt h
set_option maxRecDepth 100000 in
set_option maxHeartbeats 2000000 in
theorem rvalue_any (k : Nat) (s : ByteArray) (w : World) (hk : k < 5) (hs : s.size ≤ 1000) :
    Calls Tryd.prog 20 #[.int .i64 (k : Int), .string s] w fun e w' => e = .returned (some2 (valueL k s.data.toList)) ∧ Below w.heap.size w w' := by
  have HE := Lib.hid (fun W => rends_any k W hk)
  have HT := Lib.hid (show topK k = if k = 4 then 7 else hiK k from rfl)
  have HLH := Lib.hid (hi_bd k)
  have HU := Lib.hid (fun W => rupper_any s W hs)
  have HN := Lib.hid (fun W => rnumber_any s W (by unfold maxLen; omega))
  have h1000 := num_1000 s.data.toList
  unfold runV at HE
  obtain ⟨a, hae⟩ : ∃ a : Int, ((loK k : Nat) : Int) = a := ⟨_, rfl⟩
  obtain ⟨z, hze⟩ : ∃ a : Int, ((hiK k : Nat) : Int) = a := ⟨_, rfl⟩
  have HA := Lib.hid hae; have HZ := Lib.hid hze
  rw [hae, hze] at HE HLH
  have hb := HLH.out
  clear hae hze
  go_enter Tryd.func20, Tryd.ntmps20
  go_wp2_with fail
  refine (HE.out _).mono ?_
  rintro e w1 ⟨rfl, hb1⟩
  have HB1 := Lib.hid hb1
  clear hb1
  -- NAMES
  go_wp2_with fail
  have HB2 := Lib.hid (HB1.out.alloc HB1.out.size (.cells #[.int .i64 a, .int .i64 z] 28))
  have HX := Lib.hid (RunBox.new w1 a z)
  have hwg : w.heap.size ≤ w1.heap.size := HB1.out.size
  clear HB1
  generalize hgw : w1.alloc _ = w2 at *
  generalize w1.heap.size = g at *
  clear hgw
  refine (rnames_any k w2 hk).mono ?_
  rintro e w3 ⟨⟨A, n, c, rfl, hA⟩, hb⟩
  have HB3 := Lib.hid (HB2.out.trans (hb.mono HB2.out.size)); have HX3 := Lib.hid (HX.out.on hb); have HAr := Lib.hid hA
  have hn12 : n ≤ 12 := by rw [← hA.1]; exact (names_size k).1
  clear hb hA HX HB2
  go_wp2_with fail
  go_loopw [16] (fun i wr => ∃ j : Nat, j ≤ n ∧ i = .int .i64 (j : Int) ∧ Below w3.heap.size w3 wr ∧ ∀ (i : Nat) y, i < j → (namesK k)[i]? = some y → upL s.data.toList ≠ y) (fun i _ => n - (intOf i).toNat)
  case atStart => exact ⟨0, Nat.zero_le _, rfl, Below.refl _ _, fun i x h => by omega⟩
  case round =>
    obtain ⟨j, hj, rfl, hB, hno⟩ := hrel
    have HNO := Lib.hid hno; have HBr := Lib.hid hB; have HXr := Lib.hid (HX3.out.on hB); have HBw := Lib.hid (HB3.out.trans (hB.mono HB3.out.size))
    clear hno hB
    by_cases hlt : j < n
    · obtain ⟨x, hx⟩ : ∃ x, (namesK k)[j]? = some x := ⟨_, List.getElem?_eq_getElem (by rw [HAr.out.1]; exact hlt)⟩
      obtain ⟨b, off, rfl, hbl, hc⟩ := (HAr.out.below HBr.out).2 j x hx
      have HX' := Lib.hid hx
      clear hx
      unfold strV at hc
      go_wp2_with fail
      refine (HU.out wr).mono ?_
      rintro e w4 ⟨rfl, hb4⟩
      have HB4 := Lib.hid (HBr.out.trans (hb4.mono HBr.out.size)); have HB4w := Lib.hid (HBw.out.trans (hb4.mono HBw.out.size))
      obtain ⟨c0, c1, f0, f1⟩ := (HXr.out.on hb4).cells
      have hg4 := (HXr.out.on hb4).lt
      clear hb4 hc
      unfold strV
      by_cases he : upL s.data.toList = x
      · have HV := Lib.hid (vname_at HX'.out HNO.out he)
        rw [he]
        go_wp2_with fail
        go_ret2
        refine ⟨?_, HB4w.out⟩
        rw [HV.out]
        simp only [some2, Option.getD_some, Option.isSome_some]
        rw [show (((loK k + j : Nat)) : Int) = (loK k : Nat) + (j : Int) by omega, HA.out]; rfl
      · have hne : (upL s.data.toList == x) = false := by rw [beq_eq_false_iff_ne]; exact he
        have HN2 : Hid (∀ (i : Nat) y, i < j + 1 → (namesK k)[i]? = some y → upL s.data.toList ≠ y) := Lib.hid (by
          intro i y hi hy
          rcases Nat.lt_or_ge i j with h | h
          · exact HNO.out i y h hy
          · obtain rfl : i = j := by omega
            rw [HX'.out] at hy
            cases hy
            exact he)
        clear he c0 c1 f0 f1
        go_wp2_with fail
        go_roundw
        case rel => exact ⟨j + 1, hlt, by go_num, HB4.out, HN2.out⟩
        case measure => simp [intOf]; omega
    · obtain rfl : j = n := by omega
      have HVN := Lib.hid (vname_none (k := k) (s := s.data.toList) (fun i y hi hy => HNO.out i y (by rw [← HAr.out.1]; exact hi) hy))
      obtain ⟨c0, c1, f0, f1⟩ := HXr.out.cells
      have hgr := HXr.out.lt
      clear HNO
      by_cases h4 : k = 4
      · have e4 : ((k : Int) == 4) = true := by rw [h4]; rfl
        rw [if_pos h4] at HT
        clear h4
        cases hn : numL s.data.toList with
        | none =>
          have HV : Hid (valueL k s.data.toList = none) := Lib.hid (by rw [HVN.out, hn])
          rw [hn] at HN
          simp only [some2, Option.getD_none, Option.isSome_none] at HN
          clear hn HVN
          go_wp2_with fail
          refine (HN.out _).mono ?_
          rintro e w5 ⟨rfl, rfl⟩
          go_wp2_with fail
          go_ret2
          exact ⟨by rw [HV.out]; rfl, (HBw.out.setCell (p := ⟨g, 1, none⟩) hwg (.int .i64 7))⟩
        | some m =>
          rw [hn] at HN
          simp only [some2, Option.getD_some, Option.isSome_some] at HN
          rw [hn, Option.getD_some] at h1000
          by_cases h0 : a ≤ (m : Int)
          · by_cases h1 : (m : Int) ≤ 7
            · have HV : Hid (valueL k s.data.toList = some m) := Lib.hid (by
                rw [HVN.out, hn]
                show (if loK k ≤ m ∧ m ≤ topK k then some m else none) = some m
                rw [if_pos (by have := HT.out; have := HA.out; have := HZ.out; omega)])
              have d0 : decide ((m : Int) < a) = false := by simp; omega
              have d1 : decide (7 < (m : Int)) = false := by simp; omega
              clear hn HVN h0 h1
              go_wp2_with fail
              refine (HN.out _).mono ?_
              rintro e w5 ⟨rfl, rfl⟩
              go_wp2_with fail
              go_ret2
              exact ⟨by rw [HV.out]; rfl, (HBw.out.setCell (p := ⟨g, 1, none⟩) hwg (.int .i64 7))⟩
            · have HV : Hid (valueL k s.data.toList = none) := Lib.hid (by
                rw [HVN.out, hn]
                show (if loK k ≤ m ∧ m ≤ topK k then some m else none) = none
                rw [if_neg (by have := HT.out; have := HA.out; have := HZ.out; omega)])
              have d0 : decide ((m : Int) < a) = false := by simp; omega
              have d1 : decide (7 < (m : Int)) = true := by simp; omega
              clear hn HVN h0 h1
              go_wp2_with fail
              refine (HN.out _).mono ?_
              rintro e w5 ⟨rfl, rfl⟩
              go_wp2_with fail
              go_ret2
              exact ⟨by rw [HV.out]; rfl, (HBw.out.setCell (p := ⟨g, 1, none⟩) hwg (.int .i64 7))⟩
          · have HV : Hid (valueL k s.data.toList = none) := Lib.hid (by
              rw [HVN.out, hn]
              show (if loK k ≤ m ∧ m ≤ topK k then some m else none) = none
              rw [if_neg (by have := HA.out; omega)])
            have d0 : decide ((m : Int) < a) = true := by simp; omega
            clear hn HVN h0
            go_wp2_with fail
            refine (HN.out _).mono ?_
            rintro e w5 ⟨rfl, rfl⟩
            go_wp2_with fail
            go_ret2
            exact ⟨by rw [HV.out]; rfl, (HBw.out.setCell (p := ⟨g, 1, none⟩) hwg (.int .i64 7))⟩
      · have e4 : ((k : Int) == 4) = false := by simp; omega
        rw [if_neg h4] at HT
        clear h4
        cases hn : numL s.data.toList with
        | none =>
          have HV : Hid (valueL k s.data.toList = none) := Lib.hid (by rw [HVN.out, hn])
          rw [hn] at HN
          simp only [some2, Option.getD_none, Option.isSome_none] at HN
          clear hn HVN
          go_wp2_with fail
          refine (HN.out _).mono ?_
          rintro e w5 ⟨rfl, rfl⟩
          go_wp2_with fail
          go_ret2
          exact ⟨by rw [HV.out]; rfl, HBw.out⟩
        | some m =>
          rw [hn] at HN
          simp only [some2, Option.getD_some, Option.isSome_some] at HN
          rw [hn, Option.getD_some] at h1000
          by_cases h0 : a ≤ (m : Int)
          · by_cases h1 : (m : Int) ≤ z
            · have HV : Hid (valueL k s.data.toList = some m) := Lib.hid (by
                rw [HVN.out, hn]
                show (if loK k ≤ m ∧ m ≤ topK k then some m else none) = some m
                rw [if_pos (by have := HT.out; have := HA.out; have := HZ.out; omega)])
              have d0 : decide ((m : Int) < a) = false := by simp; omega
              have d1 : decide (z < (m : Int)) = false := by simp; omega
              clear hn HVN h0 h1
              go_wp2_with fail
              refine (HN.out _).mono ?_
              rintro e w5 ⟨rfl, rfl⟩
              go_wp2_with fail
              go_ret2
              exact ⟨by rw [HV.out]; rfl, HBw.out⟩
            · have HV : Hid (valueL k s.data.toList = none) := Lib.hid (by
                rw [HVN.out, hn]
                show (if loK k ≤ m ∧ m ≤ topK k then some m else none) = none
                rw [if_neg (by have := HT.out; have := HA.out; have := HZ.out; omega)])
              have d0 : decide ((m : Int) < a) = false := by simp; omega
              have d1 : decide (z < (m : Int)) = true := by simp; omega
              clear hn HVN h0 h1
              go_wp2_with fail
              refine (HN.out _).mono ?_
              rintro e w5 ⟨rfl, rfl⟩
              go_wp2_with fail
              go_ret2
              exact ⟨by rw [HV.out]; rfl, HBw.out⟩
          · have HV : Hid (valueL k s.data.toList = none) := Lib.hid (by
              rw [HVN.out, hn]
              show (if loK k ≤ m ∧ m ≤ topK k then some m else none) = none
              rw [if_neg (by have := HA.out; omega)])
            have d0 : decide ((m : Int) < a) = true := by simp; omega
            clear hn HVN h0
            go_wp2_with fail
            refine (HN.out _).mono ?_
            rintro e w5 ⟨rfl, rfl⟩
            go_wp2_with fail
            go_ret2
            exact ⟨by rw [HV.out]; rfl, HBw.out⟩
end Go.Proofs.YtmgeefmhnhdmjaaDoor
/- The document's item: walked. -/
namespace Go.Proofs.YtmgeefmhnhdmjaaDoor
open Go.RowKit

theorem rnumber_l (l : List UInt8) (w : World) (hl : l.length ≤ 1000) :
    Calls Tryd.prog 37 #[strV l] w fun e w' => e = .returned (some2 (numL l)) ∧ w' = w := by
  have h := rnumber_any ⟨l.toArray⟩ w (by unfold maxLen; rw [size_l]; omega)
  have h2 : Calls Tryd.prog 37 #[strV l] w fun e w' => e = .returned (some2 (numL l)) ∧ w = w' := by simpa [strV] using h
  exact h2.mono fun _ _ ⟨a, b⟩ => ⟨a, b.symm⟩
theorem rvalue_l (k : Nat) (l : List UInt8) (w : World) (hk : k < 5) (hl : l.length ≤ 1000) :
    Calls Tryd.prog 20 #[.int .i64 (k : Int), strV l] w fun e w' => e = .returned (some2 (valueL k l)) ∧ Below w.heap.size w w' := by
  have h := rvalue_any k ⟨l.toArray⟩ w hk (by rw [size_l]; exact hl)
  simpa [strV] using h
theorem rcut_l (l : List UInt8) (c : UInt8) (w : World) (hl : l.length ≤ 1000) :
    Calls Tryd.prog 40 #[strV l, .int .u8 (c.toNat : Nat)] w fun e w' => e = .returned (.tuple #[strV (cutB l c).1, strV ((cutB l c).2.getD []), .bool (cutB l c).2.isSome]) ∧ Below w.heap.size w w' := by
  have h := rcut_any ⟨l.toArray⟩ c w (by rw [size_l]; exact hl)
  simpa [strV] using h
theorem rspan_small (f t n : Nat) (w : World) (hn : n ≤ 100) : Calls Tryd.prog 31 #[.int .i64 (f : Int), .int .i64 (t : Int), .int .i64 (n : Int)] w fun e w' => e = .returned (maskOk (spanM f t n)) ∧ Below w.heap.size w w' := rspan_any f t n w (by omega)
theorem has7 (m : BitVec 64) : hasB m 7 = m.getLsbD 7 := hasB_nat m 7
theorem star_no7 {n : Nat} {m : BitVec 64} (h : spanM (loK 4 : Nat) (hiK 4 : Nat) n = some m) : hasB m 7 = false := by
  rw [has7]
  cases h7 : m.getLsbD 7 with
  | false => rfl
  | true =>
    have := span_in h h7
    have : hiK 4 = 6 := rfl
    omega
def zeroM (m : BitVec 64) : BitVec 64 := mk (fun i => decide (i = 0) || m.getLsbD i)
theorem zero_bit (m : BitVec 64) (i : Nat) (hi : i < 64) : (zeroM m).getLsbD i = decide (i ∈ 0 :: elems m) := by
  unfold zeroM
  rw [mk_bit, Bool.eq_iff_iff]
  simp [hi, mem_elems]
theorem zero_sub {m : BitVec 64} (h : hasB m 7 = true) : U (zeroM m) = U (fix7 4 m) + 128 ∧ U (fix7 4 m) + 128 ≤ 18446744073709551615 := by
  rw [has7] at h
  have hf : fix7 4 m = mk (fun i => decide (i = 0) || (m.getLsbD i && decide (i ≠ 7))) := by unfold fix7; rw [if_pos ⟨rfl, h⟩]
  have hb : (fix7 4 m).getLsbD 7 = false := by rw [hf, mk_bit]; simp
  have hor : fix7 4 m ||| BitVec.twoPow 64 7 = zeroM m := by
    apply BitVec.eq_of_getLsbD_eq
    intro i hi
    rw [BitVec.getLsbD_or, BitVec.getLsbD_twoPow, hf, mk_bit]
    unfold zeroM
    rw [mk_bit]
    by_cases e : i = 7
    · subst e; simp [h]
    · simp [hi, e, Ne.symm e]
  have hdis : fix7 4 m &&& BitVec.twoPow 64 7 = 0#64 := by
    apply BitVec.eq_of_getLsbD_eq
    intro i hi
    rw [BitVec.getLsbD_and, BitVec.getLsbD_twoPow]
    by_cases e : i = 7
    · subst e; rw [hb]; rfl
    · simp [Ne.symm e]
  have hadd : fix7 4 m + BitVec.twoPow 64 7 = zeroM m := by rw [← hor, BitVec.add_eq_or_of_and_eq_zero _ _ hdis]
  have hlt : (fix7 4 m).toNat + 128 < 2 ^ 64 := by
    have h1 := (fix7 4 m).isLt
    have h2 : (fix7 4 m).toNat.testBit 7 = false := hb
    rw [Nat.testBit_eq_decide_div_mod_eq] at h2
    have h3 : ¬ (fix7 4 m).toNat / 2 ^ 7 % 2 = 1 := by simpa using h2
    omega
  unfold U
  rw [← hadd, BitVec.toNat_add, show (BitVec.twoPow 64 7).toNat = 128 by rfl, Nat.mod_eq_of_lt hlt]
  omega
theorem row_zero {w : World} : (w.alloc (.cells #[.int .i64 0] 3)).ownsRow w.heap.size 3 1 (.slice (some ⟨w.heap.size, 0, none⟩) 1 1) 1 [.int .i64 0] :=
  ⟨rfl, .inr ⟨_, 1, #[.int .i64 0], rfl, Nat.le_refl _, heap_alloc_new w _, by decide, by decide, rfl, rfl⟩⟩
theorem itemL_of {k b : Nat} {l sp : List UInt8} (hsp : (cutB l 47).1 = sp) (h : stepL (cutB l 47).2 = some b) : itemL k l = spanL k sp (cutB l 47).2.isSome b := by
  unfold itemL; rw [h, hsp]
theorem itemL_no {k : Nat} {l : List UInt8} (h : stepL (cutB l 47).2 = none) : itemL k l = none := by
  unfold itemL; rw [h]
theorem spanL_star (k b : Nat) (st : Bool) : spanL k [42] st b = spanM (loK k) (hiK k) b := by unfold spanL; rw [if_pos rfl]
theorem spanL_none {k b : Nat} {st : Bool} {sp : List UInt8} (h : sp ≠ [42]) (hx : valueL k (cutB sp 45).1 = none) : spanL k sp st b = none := by unfold spanL; rw [if_neg h, hx]
theorem spanL_one {k b a : Nat} {st : Bool} {sp : List UInt8} (h : sp ≠ [42]) (hx : valueL k (cutB sp 45).1 = some a) (hy : (cutB sp 45).2 = none) : spanL k sp st b = if st then none else (spanM a a b).map (fix7 k) := by
  rw [span_of k sp st b h hx, hy]
theorem spanL_half {k b a : Nat} {st : Bool} {sp y : List UInt8} (h : sp ≠ [42]) (hx : valueL k (cutB sp 45).1 = some a) (hy : (cutB sp 45).2 = some y) (hv : valueL k y = none) : spanL k sp st b = none := by
  rw [span_of k sp st b h hx, hy]
  show (match valueL k y with | none => none | some t => (spanM (a : Int) (t : Int) (b : Int)).map (fix7 k)) = none
  rw [hv]
theorem spanL_two {k b a t : Nat} {st : Bool} {sp y : List UInt8} (h : sp ≠ [42]) (hx : valueL k (cutB sp 45).1 = some a) (hy : (cutB sp 45).2 = some y) (hv : valueL k y = some t) : spanL k sp st b = (spanM a t b).map (fix7 k) := by
  rw [span_of k sp st b h hx, hy]
  show (match valueL k y with | none => none | some t => (spanM (a : Int) (t : Int) (b : Int)).map (fix7 k)) = _
  rw [hv]
theorem value_lt {k n : Nat} {s : List UInt8} (hk : k < 5) (h : valueL k s = some n) : n < 64 := by
  have h1 := value_in hk h
  have h2 := hi_lt k
  have : topK k ≤ 59 := by unfold topK; split <;> omega
  omega
set_option maxRecDepth 100000 in
set_option maxHeartbeats 8000000 in
theorem ritem_plain (k : Nat) (l : List UInt8) (w : World) (hk : k < 5) (hl : l.length ≤ 1000) (hst2 : (cutB l 47).2 = none) :
    Calls Tryd.prog 41 #[.int .i64 (k : Int), strV l] w fun e w' => e = .returned (optM (itemL k l)) ∧ Below w.heap.size w w' := by
  obtain ⟨i0, hi, hz0, hz1, hz2⟩ := info_parts info_int
  have HE := Lib.hid (fun W => rends_any k W hk)
  have HK := Lib.hid hk
  have hcl := cut_len l 47
  have hcl2 := cut_len (cutB l 47).1 45
  have HC1 := Lib.hid (fun W => rcut_l l 47 W hl)
  rw [show (((47 : UInt8).toNat : Nat) : Int) = 47 by rfl] at HC1
  obtain ⟨sp, hsp⟩ : ∃ sp, (cutB l 47).1 = sp := ⟨_, rfl⟩
  have HSP := Lib.hid hsp
  rw [hsp] at HC1 hcl hcl2
  have HC2 := Lib.hid (fun W => rcut_l sp 45 W (by omega))
  rw [show (((45 : UInt8).toNat : Nat) : Int) = 45 by rfl] at HC2
  have HVx := Lib.hid (fun W => rvalue_l k (cutB sp 45).1 W hk (by omega))
  have hbd := hi_bd k
  unfold runV at HE
  obtain ⟨a, hae⟩ : ∃ a : Nat, loK k = a := ⟨_, rfl⟩
  obtain ⟨z, hze⟩ : ∃ a : Nat, hiK k = a := ⟨_, rfl⟩
  have HA := Lib.hid hae; have HZ := Lib.hid hze
  rw [hae, hze] at HE hbd
  clear hae hze hsp hk
  have HIL : Hid (itemL k l = spanL k sp false 1) := Lib.hid (by rw [itemL_of (b := 1) HSP.out (by rw [hst2]; rfl), hst2]; rfl)
  rw [hst2] at HC1
  simp only [Option.getD_none, Option.isSome_none] at HC1
  clear hst2
  go_enter Tryd.func41, Tryd.ntmps41
  go_wp2_with fail
  refine (HE.out _).mono ?_
  rintro e w1 ⟨rfl, hb1⟩
  have HB1 := Lib.hid hb1
  clear hb1
  go_wp2_with fail
  have HB2 := Lib.hid (HB1.out.alloc HB1.out.size (.cells #[.int .i64 (a : Int), .int .i64 (z : Int)] 28))
  have HX := Lib.hid (RunBox.new w1 (a : Int) (z : Int))
  have hwg : w.heap.size ≤ w1.heap.size := HB1.out.size
  clear HB1
  generalize hgw : w1.alloc _ = w2 at *
  generalize w1.heap.size = g at *
  clear hgw
  refine (HC1.out _).mono ?_
  rintro e w3 ⟨rfl, hb⟩
  have HB := Lib.hid (HB2.out.trans (hb.mono HB2.out.size)); have HX := Lib.hid (HX.out.on hb)
  clear hb HB2 HC1 HE
  unfold strV
  by_cases hst : sp = [42]
  · subst hst
    obtain ⟨c0, c1, f0, f1⟩ := HX.out.cells
    have hgr := HX.out.lt
    have HSp := Lib.hid (fun W => rspan_small a z 1 W (by omega))
    have HIt := Lib.hid (show itemL k l = spanM a z ((1 : Nat) : Int) by rw [HIL.out, spanL_star, HA.out, HZ.out]; try rfl)
    cases hs : spanM (a : Nat) (z : Nat) (1 : Nat) with
    | none =>
      have HR : Hid (itemL k l = none) := Lib.hid (by rw [HIt.out, hs])
      rw [hs] at HSp
      clear hs
      go_wp2_with fail
      refine (HSp.out _).mono ?_
      rintro e w8 ⟨rfl, hb⟩
      have HB8 := Lib.hid (HB.out.trans (hb.mono HB.out.size))
      clear hb
      unfold maskOk
      go_wp2_with fail
      go_ret2
      exact ⟨by rw [HR.out]; rfl, HB8.out⟩
    | some m =>
      have HR : Hid (itemL k l = some (m)) := Lib.hid (by rw [HIt.out, hs])
      rw [hs] at HSp
      have HS := Lib.hid hs
      clear hs
      by_cases h4 : k = 4
      · subst h4
        rw [show ((4 : Nat) : Int) = 4 by rfl]
        go_wp2_with fail
        refine (HSp.out _).mono ?_
        rintro e w8 ⟨rfl, hb⟩
        have HB8 := Lib.hid (HB.out.trans (hb.mono HB.out.size))
        clear hb
        unfold maskOk
        go_wp2_with fail
        refine (rhas_any m 7 _).mono ?_
        rintro e w9 ⟨rfl, rfl⟩
        cases h7 : hasB m 7 with
        | false =>
          go_wp2_with fail
          go_ret2
          exact ⟨by rw [HR.out]; rfl, HB8.out⟩
        | true =>
          exfalso
          have := star_no7 (by rw [HA.out, HZ.out]; exact HS.out)
          rw [this] at h7
          cases h7
      · have e4 : ((k : Int) == 4) = false := by simp; omega
        have HR2 := HR
        clear h4
        go_wp2_with fail
        refine (HSp.out _).mono ?_
        rintro e w8 ⟨rfl, hb⟩
        have HB8 := Lib.hid (HB.out.trans (hb.mono HB.out.size))
        clear hb
        unfold maskOk
        go_wp2_with fail
        go_ret2
        exact ⟨by rw [HR2.out]; rfl, HB8.out⟩
  · have hsb : (sp == [42]) = false := by rw [beq_eq_false_iff_ne]; exact hst
    have HST : Hid (sp ≠ [42]) := Lib.hid hst
    clear hst
    go_wp2_with fail
    refine (HC2.out _).mono ?_
    rintro e w4 ⟨rfl, hb⟩
    have HB := Lib.hid (HB.out.trans (hb.mono HB.out.size)); have HX := Lib.hid (HX.out.on hb)
    clear hb
    cases hx : valueL k (cutB sp 45).1 with
    | none =>
      have HX1 := Lib.hid hx
      rw [hx] at HVx
      simp only [some2, Option.getD_none, Option.isSome_none] at HVx
      try unfold strV at *
      clear hx
      go_wp2_with fail
      refine (HVx.out _).mono ?_
      rintro e w5 ⟨rfl, hb⟩
      have HB := Lib.hid (HB.out.trans (hb.mono HB.out.size)); have HX := Lib.hid (HX.out.on hb)
      clear hb
      have HR : Hid (itemL k l = none) := Lib.hid (by rw [HIL.out, spanL_none HST.out HX1.out])
      go_wp2_with fail
      go_ret2
      exact ⟨by rw [HR.out]; rfl, HB.out⟩
    | some x =>
      have HX1 := Lib.hid hx
      have hx64 := value_lt HK.out hx
      rw [hx] at HVx
      simp only [some2, Option.getD_some, Option.isSome_some] at HVx
      clear hx
      cases hy : (cutB sp 45).2 with
      | none =>
        have HY := Lib.hid hy
        simp only [Option.getD_none, Option.isSome_none]
        try unfold strV at *
        clear hy
        go_wp2_with fail
        refine (HVx.out _).mono ?_
        rintro e w5 ⟨rfl, hb⟩
        have HB := Lib.hid (HB.out.trans (hb.mono HB.out.size)); have HX := Lib.hid (HX.out.on hb)
        clear hb
        obtain ⟨c0, c1, f0, f1⟩ := HX.out.cells
        have hgr := HX.out.lt
        have HXn := Lib.hid ((HX.out.set0 (x : Int)).set1 (x : Int))
        have HBn := Lib.hid ((HB.out.setCell (p := ⟨g, 0, none⟩) hwg (.int .i64 (x : Int))).setCell (p := ⟨g, 1, none⟩) hwg (.int .i64 (x : Int)))
        go_upto_region 19 with fail
        generalize (w5.setCell _ _).setCell _ _ = w6 at *
        clear c0 c1 f0 f1 hgr HX HB
        have HX := HXn; have HB := HBn
        clear HXn HBn
        obtain ⟨c0, c1, f0, f1⟩ := HX.out.cells
        have hgr := HX.out.lt
        have HSp := Lib.hid (fun W => rspan_small x x 1 W (by omega))
        have HIt := Lib.hid (show itemL k l = (spanM x x ((1 : Nat) : Int)).map (fix7 k) by rw [HIL.out, spanL_one HST.out HX1.out HY.out]; rfl)
        cases hs : spanM (x : Nat) (x : Nat) (1 : Nat) with
        | none =>
          have HR : Hid (itemL k l = none) := Lib.hid (by rw [HIt.out, hs]; rfl)
          rw [hs] at HSp
          clear hs
          go_wp2_with fail
          refine (HSp.out _).mono ?_
          rintro e w8 ⟨rfl, hb⟩
          have HB8 := Lib.hid (HB.out.trans (hb.mono HB.out.size))
          clear hb
          unfold maskOk
          go_wp2_with fail
          go_ret2
          exact ⟨by rw [HR.out]; rfl, HB8.out⟩
        | some m =>
          have HR : Hid (itemL k l = some (fix7 k m)) := Lib.hid (by rw [HIt.out, hs]; rfl)
          rw [hs] at HSp
          have HS := Lib.hid hs
          clear hs
          by_cases h4 : k = 4
          · subst h4
            rw [show ((4 : Nat) : Int) = 4 by rfl]
            go_wp2_with fail
            refine (HSp.out _).mono ?_
            rintro e w8 ⟨rfl, hb⟩
            have HB8 := Lib.hid (HB.out.trans (hb.mono HB.out.size))
            clear hb
            unfold maskOk
            go_wp2_with fail
            refine (rhas_any m 7 _).mono ?_
            rintro e w9 ⟨rfl, rfl⟩
            cases h7 : hasB m 7 with
            | false =>
              have HR2 : Hid (itemL 4 l = some m) := Lib.hid (by
                rw [HR.out, fix7_other]
                rintro ⟨_, q⟩
                rw [has7, q] at h7
                cases h7)
              go_wp2_with fail
              go_ret2
              exact ⟨by rw [HR2.out]; rfl, HB8.out⟩
            | true =>
              have hzs := zero_sub h7
              have hnil : elems m ≠ [] := fun q => by
                have := mem_elems.2 (by rw [has7] at h7; exact h7)
                rw [q] at this; cases this
              obtain ⟨hz3, hz4⟩ := hzs
              have hz5 := U_nonneg (fix7 4 m)
              clear h7
              have HB9 := Lib.hid (HB8.out.alloc HB8.out.size (.cells #[.int .i64 0] 3))
              have HNil := Lib.hid hnil
              have HZ3 := Lib.hid hz3
              clear hnil hz3
              go_wp2_with fail
              have HRow0 := Lib.hid (row_zero (w := w8))
              have hsz := HB8.out.size
              have hl64 := elems_64 m
              refine (rall_any m _).mono ?_
              rintro e w10 ⟨av, rfl, hav, hb2⟩
              have HB10 := Lib.hid (HB9.out.trans (hb2.mono HB9.out.size))
              have hrow2 := own_below HRow0.out hb2
              have hsz2 : w8.heap.size + 1 ≤ w10.heap.size := by have := hb2.size; simp at this; omega
              rcases hav.2 with ⟨rfl, h0⟩ | ⟨g2, cap2, cur2, rfl, hbase2, hrest⟩
              · exact absurd (List.length_eq_zero_iff.1 h0) HNil.out
              · have hsrc := hav.cells (g := g2) rfl
                clear hrest
                go_wp2_with (at_builtin; refine wpList_append_own _ rfl _ _ 22 rfl w8.heap.size 3 i0 (.int .i64 0) 1 8 Tryd.underlying22 hi hz0 hz1 hz2 rfl (by decide) _ _ _ rfl hrow2 ⟨g2, 0, none⟩ (elems m).length cap2 ((elems m).map ienc) rfl (by simp) hsrc (by intro u hu; obtain ⟨q, _, rfl⟩ := List.mem_map.1 hu; rfl) (by unfold maxLen; omega) (by omega) (by omega) ?_; intro v' w5 hown5 hgrow5 _)
                have HB11 := Lib.hid (HB10.out.grown hgrow5 (by omega) (fun j e => by have := (hrow2.lt j e).1; omega))
                have HF := Lib.hid (rof_row (0 :: elems m) (fun q hq => by
                  rcases List.mem_cons.1 hq with rfl | hq
                  · decide
                  · exact elems_lt hq) (by simp; omega) (zeroM m) (fun i hi => zero_bit m i hi) _ _ _ _ (by simp; omega) hown5)
                rw [HZ3.out] at HF
                clear hown5 hgrow5 hrow2 hsrc hav
                refine HF.out.mono ?_
                rintro e w' ⟨rfl, rfl⟩
                go_wp2_with fail
                go_ret2
                exact ⟨by rw [HR.out]; rfl, HB11.out⟩
          · have e4 : ((k : Int) == 4) = false := by simp; omega
            have HR2 : Hid (itemL k l = some m) := Lib.hid (by rw [HR.out, fix7_other (fun q => h4 q.1)])
            clear h4
            go_wp2_with fail
            refine (HSp.out _).mono ?_
            rintro e w8 ⟨rfl, hb⟩
            have HB8 := Lib.hid (HB.out.trans (hb.mono HB.out.size))
            clear hb
            unfold maskOk
            go_wp2_with fail
            go_ret2
            exact ⟨by rw [HR2.out]; rfl, HB8.out⟩
      | some y =>
        have HY := Lib.hid hy
        simp only [Option.getD_some, Option.isSome_some]
        have HVy := Lib.hid (fun W => rvalue_l k y W HK.out (by
          rw [hy, Option.getD_some] at hcl2; omega))
        clear hy hcl2
        cases hv : valueL k y with
        | none =>
          have HV1 := Lib.hid hv
          rw [hv] at HVy
          simp only [some2, Option.getD_none, Option.isSome_none] at HVy
          try unfold strV at *
          clear hv
          go_wp2_with fail
          refine (HVx.out _).mono ?_
          rintro e w5 ⟨rfl, hb⟩
          have HB := Lib.hid (HB.out.trans (hb.mono HB.out.size)); have HX := Lib.hid (HX.out.on hb)
          clear hb
          obtain ⟨c0, c1, f0, f1⟩ := HX.out.cells
          have hgr := HX.out.lt
          have HXn := Lib.hid ((HX.out.set0 (x : Int)).set1 (x : Int))
          have HBn := Lib.hid ((HB.out.setCell (p := ⟨g, 0, none⟩) hwg (.int .i64 (x : Int))).setCell (p := ⟨g, 1, none⟩) hwg (.int .i64 (x : Int)))
          go_wp2_with fail
          generalize (w5.setCell _ _).setCell _ _ = w6 at *
          clear c0 c1 f0 f1 hgr HX HB
          refine (HVy.out _).mono ?_
          rintro e w7 ⟨rfl, hb⟩
          have HB := Lib.hid (HBn.out.trans (hb.mono HBn.out.size)); have HX := Lib.hid (HXn.out.on hb)
          clear hb HBn HXn
          obtain ⟨c0, c1, f0, f1⟩ := HX.out.cells
          have hgr := HX.out.lt
          have HR : Hid (itemL k l = none) := Lib.hid (by rw [HIL.out, spanL_half HST.out HX1.out HY.out HV1.out])
          have HB0 := Lib.hid (HB.out.setCell (p := ⟨g, 1, none⟩) hwg (.int .i64 0))
          go_wp2_with fail
          go_ret2
          exact ⟨by rw [HR.out]; rfl, HB0.out⟩
        | some t =>
          have HV1 := Lib.hid hv
          have ht64 := value_lt HK.out hv
          rw [hv] at HVy
          simp only [some2, Option.getD_some, Option.isSome_some] at HVy
          try unfold strV at *
          clear hv
          go_wp2_with fail
          refine (HVx.out _).mono ?_
          rintro e w5 ⟨rfl, hb⟩
          have HB := Lib.hid (HB.out.trans (hb.mono HB.out.size)); have HX := Lib.hid (HX.out.on hb)
          clear hb
          obtain ⟨c0, c1, f0, f1⟩ := HX.out.cells
          have hgr := HX.out.lt
          have HXn := Lib.hid ((HX.out.set0 (x : Int)).set1 (x : Int))
          have HBn := Lib.hid ((HB.out.setCell (p := ⟨g, 0, none⟩) hwg (.int .i64 (x : Int))).setCell (p := ⟨g, 1, none⟩) hwg (.int .i64 (x : Int)))
          go_wp2_with fail
          generalize (w5.setCell _ _).setCell _ _ = w6 at *
          clear c0 c1 f0 f1 hgr HX HB
          refine (HVy.out _).mono ?_
          rintro e w7 ⟨rfl, hb⟩
          have HB := Lib.hid (HBn.out.trans (hb.mono HBn.out.size)); have HX := Lib.hid (HXn.out.on hb)
          clear hb HBn HXn
          obtain ⟨c0, c1, f0, f1⟩ := HX.out.cells
          have hgr := HX.out.lt
          have HXn := Lib.hid (HX.out.set1 (t : Int))
          have HBn := Lib.hid (HB.out.setCell (p := ⟨g, 1, none⟩) hwg (.int .i64 (t : Int)))
          go_upto_region 19 with fail
          generalize w7.setCell _ _ = w77 at *
          clear c0 c1 f0 f1 hgr HX HB
          have HX := HXn; have HB := HBn
          clear HXn HBn
          obtain ⟨c0, c1, f0, f1⟩ := HX.out.cells
          have hgr := HX.out.lt
          have HSp := Lib.hid (fun W => rspan_small x t 1 W (by omega))
          have HIt := Lib.hid (show itemL k l = (spanM x t ((1 : Nat) : Int)).map (fix7 k) by rw [HIL.out, spanL_two HST.out HX1.out HY.out HV1.out]; try rfl)
          cases hs : spanM (x : Nat) (t : Nat) (1 : Nat) with
          | none =>
            have HR : Hid (itemL k l = none) := Lib.hid (by rw [HIt.out, hs]; rfl)
            rw [hs] at HSp
            clear hs
            go_wp2_with fail
            refine (HSp.out _).mono ?_
            rintro e w8 ⟨rfl, hb⟩
            have HB8 := Lib.hid (HB.out.trans (hb.mono HB.out.size))
            clear hb
            unfold maskOk
            go_wp2_with fail
            go_ret2
            exact ⟨by rw [HR.out]; rfl, HB8.out⟩
          | some m =>
            have HR : Hid (itemL k l = some (fix7 k m)) := Lib.hid (by rw [HIt.out, hs]; rfl)
            rw [hs] at HSp
            have HS := Lib.hid hs
            clear hs
            by_cases h4 : k = 4
            · subst h4
              rw [show ((4 : Nat) : Int) = 4 by rfl]
              go_wp2_with fail
              refine (HSp.out _).mono ?_
              rintro e w8 ⟨rfl, hb⟩
              have HB8 := Lib.hid (HB.out.trans (hb.mono HB.out.size))
              clear hb
              unfold maskOk
              go_wp2_with fail
              refine (rhas_any m 7 _).mono ?_
              rintro e w9 ⟨rfl, rfl⟩
              cases h7 : hasB m 7 with
              | false =>
                have HR2 : Hid (itemL 4 l = some m) := Lib.hid (by
                  rw [HR.out, fix7_other]
                  rintro ⟨_, q⟩
                  rw [has7, q] at h7
                  cases h7)
                go_wp2_with fail
                go_ret2
                exact ⟨by rw [HR2.out]; rfl, HB8.out⟩
              | true =>
                have hzs := zero_sub h7
                have hnil : elems m ≠ [] := fun q => by
                  have := mem_elems.2 (by rw [has7] at h7; exact h7)
                  rw [q] at this; cases this
                obtain ⟨hz3, hz4⟩ := hzs
                have hz5 := U_nonneg (fix7 4 m)
                clear h7
                have HB9 := Lib.hid (HB8.out.alloc HB8.out.size (.cells #[.int .i64 0] 3))
                have HNil := Lib.hid hnil
                have HZ3 := Lib.hid hz3
                clear hnil hz3
                go_wp2_with fail
                have HRow0 := Lib.hid (row_zero (w := w8))
                have hsz := HB8.out.size
                have hl64 := elems_64 m
                refine (rall_any m _).mono ?_
                rintro e w10 ⟨av, rfl, hav, hb2⟩
                have HB10 := Lib.hid (HB9.out.trans (hb2.mono HB9.out.size))
                have hrow2 := own_below HRow0.out hb2
                have hsz2 : w8.heap.size + 1 ≤ w10.heap.size := by have := hb2.size; simp at this; omega
                rcases hav.2 with ⟨rfl, h0⟩ | ⟨g2, cap2, cur2, rfl, hbase2, hrest⟩
                · exact absurd (List.length_eq_zero_iff.1 h0) HNil.out
                · have hsrc := hav.cells (g := g2) rfl
                  clear hrest
                  go_wp2_with (at_builtin; refine wpList_append_own _ rfl _ _ 22 rfl w8.heap.size 3 i0 (.int .i64 0) 1 8 Tryd.underlying22 hi hz0 hz1 hz2 rfl (by decide) _ _ _ rfl hrow2 ⟨g2, 0, none⟩ (elems m).length cap2 ((elems m).map ienc) rfl (by simp) hsrc (by intro u hu; obtain ⟨q, _, rfl⟩ := List.mem_map.1 hu; rfl) (by unfold maxLen; omega) (by omega) (by omega) ?_; intro v' w5 hown5 hgrow5 _)
                  have HB11 := Lib.hid (HB10.out.grown hgrow5 (by omega) (fun j e => by have := (hrow2.lt j e).1; omega))
                  have HF := Lib.hid (rof_row (0 :: elems m) (fun q hq => by
                    rcases List.mem_cons.1 hq with rfl | hq
                    · decide
                    · exact elems_lt hq) (by simp; omega) (zeroM m) (fun i hi => zero_bit m i hi) _ _ _ _ (by simp; omega) hown5)
                  rw [HZ3.out] at HF
                  clear hown5 hgrow5 hrow2 hsrc hav
                  refine HF.out.mono ?_
                  rintro e w' ⟨rfl, rfl⟩
                  go_wp2_with fail
                  go_ret2
                  exact ⟨by rw [HR.out]; rfl, HB11.out⟩
            · have e4 : ((k : Int) == 4) = false := by simp; omega
              have HR2 : Hid (itemL k l = some m) := Lib.hid (by rw [HR.out, fix7_other (fun q => h4 q.1)])
              clear h4
              go_wp2_with fail
              refine (HSp.out _).mono ?_
              rintro e w8 ⟨rfl, hb⟩
              have HB8 := Lib.hid (HB.out.trans (hb.mono HB.out.size))
              clear hb
              unfold maskOk
              go_wp2_with fail
              go_ret2
              exact ⟨by rw [HR2.out]; rfl, HB8.out⟩
set_option maxRecDepth 100000 in
set_option maxHeartbeats 8000000 in
theorem ritem_steps (k : Nat) (l : List UInt8) (w : World) (hk : k < 5) (hl : l.length ≤ 1000) (st : List UInt8) (hst2 : (cutB l 47).2 = some st) :
    Calls Tryd.prog 41 #[.int .i64 (k : Int), strV l] w fun e w' => e = .returned (optM (itemL k l)) ∧ Below w.heap.size w w' := by
  obtain ⟨i0, hi, hz0, hz1, hz2⟩ := info_parts info_int
  have HE := Lib.hid (fun W => rends_any k W hk)
  have HK := Lib.hid hk
  have hcl := cut_len l 47
  have hcl2 := cut_len (cutB l 47).1 45
  have HC1 := Lib.hid (fun W => rcut_l l 47 W hl)
  rw [show (((47 : UInt8).toNat : Nat) : Int) = 47 by rfl] at HC1
  obtain ⟨sp, hsp⟩ : ∃ sp, (cutB l 47).1 = sp := ⟨_, rfl⟩
  have HSP := Lib.hid hsp
  rw [hsp] at HC1 hcl hcl2
  have HC2 := Lib.hid (fun W => rcut_l sp 45 W (by omega))
  rw [show (((45 : UInt8).toNat : Nat) : Int) = 45 by rfl] at HC2
  have HVx := Lib.hid (fun W => rvalue_l k (cutB sp 45).1 W hk (by omega))
  have hbd := hi_bd k
  unfold runV at HE
  obtain ⟨a, hae⟩ : ∃ a : Nat, loK k = a := ⟨_, rfl⟩
  obtain ⟨z, hze⟩ : ∃ a : Nat, hiK k = a := ⟨_, rfl⟩
  have HA := Lib.hid hae; have HZ := Lib.hid hze
  rw [hae, hze] at HE hbd
  clear hae hze hsp hk
  have HSt := Lib.hid (fun W => rnumber_l st W (by rw [hst2, Option.getD_some] at hcl; omega))
  rw [hst2] at HC1
  simp only [Option.getD_some, Option.isSome_some] at HC1
  have HS2 := Lib.hid hst2
  have hspl : sp.length ≤ 1000 := by omega
  clear hst2 hcl
  have h1000 := num_1000 st
  cases hn : numL st with
  | none =>
    have HN := Lib.hid (show stepL (some st) = none by simp [stepL, hn])
    rw [hn] at HSt
    simp only [some2, Option.getD_none, Option.isSome_none] at HSt
    clear hn
    go_enter Tryd.func41, Tryd.ntmps41
    go_wp2_with fail
    refine (HE.out _).mono ?_
    rintro e w1 ⟨rfl, hb1⟩
    have HB1 := Lib.hid hb1
    clear hb1
    go_wp2_with fail
    have HB2 := Lib.hid (HB1.out.alloc HB1.out.size (.cells #[.int .i64 (a : Int), .int .i64 (z : Int)] 28))
    have HX := Lib.hid (RunBox.new w1 (a : Int) (z : Int))
    have hwg : w.heap.size ≤ w1.heap.size := HB1.out.size
    clear HB1
    generalize hgw : w1.alloc _ = w2 at *
    generalize w1.heap.size = g at *
    clear hgw
    refine (HC1.out _).mono ?_
    rintro e w3 ⟨rfl, hb⟩
    have HB := Lib.hid (HB2.out.trans (hb.mono HB2.out.size)); have HX := Lib.hid (HX.out.on hb)
    clear hb HB2 HC1 HE
    try unfold strV at *
    go_wp2_with fail
    refine (HSt.out _).mono ?_
    rintro e w4' ⟨rfl, rfl⟩
    have HR : Hid (itemL k l = none) := Lib.hid (by exact itemL_no (by rw [HS2.out]; exact HN.out))
    go_wp2_with fail
    go_ret2
    exact ⟨by rw [HR.out]; rfl, HB.out⟩
  | some n =>
    rw [hn, Option.getD_some] at h1000
    rw [hn] at HSt
    simp only [some2, Option.getD_some, Option.isSome_some] at HSt
    by_cases hn1 : 1 ≤ n
    · have d1 : decide ((n : Int) < 1) = false := by simp; omega
      by_cases hn2 : n ≤ 63
      · have d2 : decide (63 < (n : Int)) = false := by simp; omega
        have HIL : Hid (itemL k l = spanL k sp true n) := Lib.hid (by rw [itemL_of (b := n) HSP.out (by rw [HS2.out]; simp [stepL, hn, hn1, hn2]), HS2.out]; rfl)
        clear hn hn1
        go_enter Tryd.func41, Tryd.ntmps41
        go_wp2_with fail
        refine (HE.out _).mono ?_
        rintro e w1 ⟨rfl, hb1⟩
        have HB1 := Lib.hid hb1
        clear hb1
        go_wp2_with fail
        have HB2 := Lib.hid (HB1.out.alloc HB1.out.size (.cells #[.int .i64 (a : Int), .int .i64 (z : Int)] 28))
        have HX := Lib.hid (RunBox.new w1 (a : Int) (z : Int))
        have hwg : w.heap.size ≤ w1.heap.size := HB1.out.size
        clear HB1
        generalize hgw : w1.alloc _ = w2 at *
        generalize w1.heap.size = g at *
        clear hgw
        refine (HC1.out _).mono ?_
        rintro e w3 ⟨rfl, hb⟩
        have HB := Lib.hid (HB2.out.trans (hb.mono HB2.out.size)); have HX := Lib.hid (HX.out.on hb)
        clear hb HB2 HC1 HE
        try unfold strV at *
        go_wp2_with fail
        refine (HSt.out _).mono ?_
        rintro e w4' ⟨rfl, rfl⟩
        by_cases hst : sp = [42]
        · subst hst
          obtain ⟨c0, c1, f0, f1⟩ := HX.out.cells
          have hgr := HX.out.lt
          have HSp := Lib.hid (fun W => rspan_small a z n W (by omega))
          have HIt := Lib.hid (show itemL k l = spanM a z ((n : Nat) : Int) by rw [HIL.out, spanL_star, HA.out, HZ.out]; try rfl)
          cases hs : spanM (a : Nat) (z : Nat) (n : Nat) with
          | none =>
            have HR : Hid (itemL k l = none) := Lib.hid (by rw [HIt.out, hs])
            rw [hs] at HSp
            clear hs
            go_wp2_with fail
            refine (HSp.out _).mono ?_
            rintro e w8 ⟨rfl, hb⟩
            have HB8 := Lib.hid (HB.out.trans (hb.mono HB.out.size))
            clear hb
            unfold maskOk
            go_wp2_with fail
            go_ret2
            exact ⟨by rw [HR.out]; rfl, HB8.out⟩
          | some m =>
            have HR : Hid (itemL k l = some (m)) := Lib.hid (by rw [HIt.out, hs])
            rw [hs] at HSp
            have HS := Lib.hid hs
            clear hs
            by_cases h4 : k = 4
            · subst h4
              rw [show ((4 : Nat) : Int) = 4 by rfl]
              go_wp2_with fail
              refine (HSp.out _).mono ?_
              rintro e w8 ⟨rfl, hb⟩
              have HB8 := Lib.hid (HB.out.trans (hb.mono HB.out.size))
              clear hb
              unfold maskOk
              go_wp2_with fail
              refine (rhas_any m 7 _).mono ?_
              rintro e w9 ⟨rfl, rfl⟩
              cases h7 : hasB m 7 with
              | false =>
                go_wp2_with fail
                go_ret2
                exact ⟨by rw [HR.out]; rfl, HB8.out⟩
              | true =>
                exfalso
                have := star_no7 (by rw [HA.out, HZ.out]; exact HS.out)
                rw [this] at h7
                cases h7
            · have e4 : ((k : Int) == 4) = false := by simp; omega
              have HR2 := HR
              clear h4
              go_wp2_with fail
              refine (HSp.out _).mono ?_
              rintro e w8 ⟨rfl, hb⟩
              have HB8 := Lib.hid (HB.out.trans (hb.mono HB.out.size))
              clear hb
              unfold maskOk
              go_wp2_with fail
              go_ret2
              exact ⟨by rw [HR2.out]; rfl, HB8.out⟩
        · have hsb : (sp == [42]) = false := by rw [beq_eq_false_iff_ne]; exact hst
          have HST : Hid (sp ≠ [42]) := Lib.hid hst
          clear hst
          go_wp2_with fail
          refine (HC2.out _).mono ?_
          rintro e w4 ⟨rfl, hb⟩
          have HB := Lib.hid (HB.out.trans (hb.mono HB.out.size)); have HX := Lib.hid (HX.out.on hb)
          clear hb
          cases hx : valueL k (cutB sp 45).1 with
          | none =>
            have HX1 := Lib.hid hx
            rw [hx] at HVx
            simp only [some2, Option.getD_none, Option.isSome_none] at HVx
            try unfold strV at *
            clear hx
            go_wp2_with fail
            refine (HVx.out _).mono ?_
            rintro e w5 ⟨rfl, hb⟩
            have HB := Lib.hid (HB.out.trans (hb.mono HB.out.size)); have HX := Lib.hid (HX.out.on hb)
            clear hb
            have HR : Hid (itemL k l = none) := Lib.hid (by rw [HIL.out, spanL_none HST.out HX1.out])
            go_wp2_with fail
            go_ret2
            exact ⟨by rw [HR.out]; rfl, HB.out⟩
          | some x =>
            have HX1 := Lib.hid hx
            have hx64 := value_lt HK.out hx
            rw [hx] at HVx
            simp only [some2, Option.getD_some, Option.isSome_some] at HVx
            clear hx
            cases hy : (cutB sp 45).2 with
            | none =>
              have HY := Lib.hid hy
              simp only [Option.getD_none, Option.isSome_none]
              try unfold strV at *
              clear hy
              go_wp2_with fail
              refine (HVx.out _).mono ?_
              rintro e w5 ⟨rfl, hb⟩
              have HB := Lib.hid (HB.out.trans (hb.mono HB.out.size)); have HX := Lib.hid (HX.out.on hb)
              clear hb
              have HR : Hid (itemL k l = none) := Lib.hid (by rw [HIL.out, spanL_one HST.out HX1.out HY.out]; rfl)
              go_wp2_with fail
              go_ret2
              exact ⟨by rw [HR.out]; rfl, HB.out⟩
            | some y =>
              have HY := Lib.hid hy
              simp only [Option.getD_some, Option.isSome_some]
              have HVy := Lib.hid (fun W => rvalue_l k y W HK.out (by
                rw [hy, Option.getD_some] at hcl2; omega))
              clear hy hcl2
              cases hv : valueL k y with
              | none =>
                have HV1 := Lib.hid hv
                rw [hv] at HVy
                simp only [some2, Option.getD_none, Option.isSome_none] at HVy
                try unfold strV at *
                clear hv
                go_wp2_with fail
                refine (HVx.out _).mono ?_
                rintro e w5 ⟨rfl, hb⟩
                have HB := Lib.hid (HB.out.trans (hb.mono HB.out.size)); have HX := Lib.hid (HX.out.on hb)
                clear hb
                obtain ⟨c0, c1, f0, f1⟩ := HX.out.cells
                have hgr := HX.out.lt
                have HXn := Lib.hid ((HX.out.set0 (x : Int)).set1 (x : Int))
                have HBn := Lib.hid ((HB.out.setCell (p := ⟨g, 0, none⟩) hwg (.int .i64 (x : Int))).setCell (p := ⟨g, 1, none⟩) hwg (.int .i64 (x : Int)))
                go_wp2_with fail
                generalize (w5.setCell _ _).setCell _ _ = w6 at *
                clear c0 c1 f0 f1 hgr HX HB
                refine (HVy.out _).mono ?_
                rintro e w7 ⟨rfl, hb⟩
                have HB := Lib.hid (HBn.out.trans (hb.mono HBn.out.size)); have HX := Lib.hid (HXn.out.on hb)
                clear hb HBn HXn
                obtain ⟨c0, c1, f0, f1⟩ := HX.out.cells
                have hgr := HX.out.lt
                have HR : Hid (itemL k l = none) := Lib.hid (by rw [HIL.out, spanL_half HST.out HX1.out HY.out HV1.out])
                have HB0 := Lib.hid (HB.out.setCell (p := ⟨g, 1, none⟩) hwg (.int .i64 0))
                go_wp2_with fail
                go_ret2
                exact ⟨by rw [HR.out]; rfl, HB0.out⟩
              | some t =>
                have HV1 := Lib.hid hv
                have ht64 := value_lt HK.out hv
                rw [hv] at HVy
                simp only [some2, Option.getD_some, Option.isSome_some] at HVy
                try unfold strV at *
                clear hv
                go_wp2_with fail
                refine (HVx.out _).mono ?_
                rintro e w5 ⟨rfl, hb⟩
                have HB := Lib.hid (HB.out.trans (hb.mono HB.out.size)); have HX := Lib.hid (HX.out.on hb)
                clear hb
                obtain ⟨c0, c1, f0, f1⟩ := HX.out.cells
                have hgr := HX.out.lt
                have HXn := Lib.hid ((HX.out.set0 (x : Int)).set1 (x : Int))
                have HBn := Lib.hid ((HB.out.setCell (p := ⟨g, 0, none⟩) hwg (.int .i64 (x : Int))).setCell (p := ⟨g, 1, none⟩) hwg (.int .i64 (x : Int)))
                go_wp2_with fail
                generalize (w5.setCell _ _).setCell _ _ = w6 at *
                clear c0 c1 f0 f1 hgr HX HB
                refine (HVy.out _).mono ?_
                rintro e w7 ⟨rfl, hb⟩
                have HB := Lib.hid (HBn.out.trans (hb.mono HBn.out.size)); have HX := Lib.hid (HXn.out.on hb)
                clear hb HBn HXn
                obtain ⟨c0, c1, f0, f1⟩ := HX.out.cells
                have hgr := HX.out.lt
                have HXn := Lib.hid (HX.out.set1 (t : Int))
                have HBn := Lib.hid (HB.out.setCell (p := ⟨g, 1, none⟩) hwg (.int .i64 (t : Int)))
                go_upto_region 19 with fail
                generalize w7.setCell _ _ = w77 at *
                clear c0 c1 f0 f1 hgr HX HB
                have HX := HXn; have HB := HBn
                clear HXn HBn
                obtain ⟨c0, c1, f0, f1⟩ := HX.out.cells
                have hgr := HX.out.lt
                have HSp := Lib.hid (fun W => rspan_small x t n W (by omega))
                have HIt := Lib.hid (show itemL k l = (spanM x t ((n : Nat) : Int)).map (fix7 k) by rw [HIL.out, spanL_two HST.out HX1.out HY.out HV1.out]; try rfl)
                cases hs : spanM (x : Nat) (t : Nat) (n : Nat) with
                | none =>
                  have HR : Hid (itemL k l = none) := Lib.hid (by rw [HIt.out, hs]; rfl)
                  rw [hs] at HSp
                  clear hs
                  go_wp2_with fail
                  refine (HSp.out _).mono ?_
                  rintro e w8 ⟨rfl, hb⟩
                  have HB8 := Lib.hid (HB.out.trans (hb.mono HB.out.size))
                  clear hb
                  unfold maskOk
                  go_wp2_with fail
                  go_ret2
                  exact ⟨by rw [HR.out]; rfl, HB8.out⟩
                | some m =>
                  have HR : Hid (itemL k l = some (fix7 k m)) := Lib.hid (by rw [HIt.out, hs]; rfl)
                  rw [hs] at HSp
                  have HS := Lib.hid hs
                  clear hs
                  by_cases h4 : k = 4
                  · subst h4
                    rw [show ((4 : Nat) : Int) = 4 by rfl]
                    go_wp2_with fail
                    refine (HSp.out _).mono ?_
                    rintro e w8 ⟨rfl, hb⟩
                    have HB8 := Lib.hid (HB.out.trans (hb.mono HB.out.size))
                    clear hb
                    unfold maskOk
                    go_wp2_with fail
                    refine (rhas_any m 7 _).mono ?_
                    rintro e w9 ⟨rfl, rfl⟩
                    cases h7 : hasB m 7 with
                    | false =>
                      have HR2 : Hid (itemL 4 l = some m) := Lib.hid (by
                        rw [HR.out, fix7_other]
                        rintro ⟨_, q⟩
                        rw [has7, q] at h7
                        cases h7)
                      go_wp2_with fail
                      go_ret2
                      exact ⟨by rw [HR2.out]; rfl, HB8.out⟩
                    | true =>
                      have hzs := zero_sub h7
                      have hnil : elems m ≠ [] := fun q => by
                        have := mem_elems.2 (by rw [has7] at h7; exact h7)
                        rw [q] at this; cases this
                      obtain ⟨hz3, hz4⟩ := hzs
                      have hz5 := U_nonneg (fix7 4 m)
                      clear h7
                      have HB9 := Lib.hid (HB8.out.alloc HB8.out.size (.cells #[.int .i64 0] 3))
                      have HNil := Lib.hid hnil
                      have HZ3 := Lib.hid hz3
                      clear hnil hz3
                      go_wp2_with fail
                      have HRow0 := Lib.hid (row_zero (w := w8))
                      have hsz := HB8.out.size
                      have hl64 := elems_64 m
                      refine (rall_any m _).mono ?_
                      rintro e w10 ⟨av, rfl, hav, hb2⟩
                      have HB10 := Lib.hid (HB9.out.trans (hb2.mono HB9.out.size))
                      have hrow2 := own_below HRow0.out hb2
                      have hsz2 : w8.heap.size + 1 ≤ w10.heap.size := by have := hb2.size; simp at this; omega
                      rcases hav.2 with ⟨rfl, h0⟩ | ⟨g2, cap2, cur2, rfl, hbase2, hrest⟩
                      · exact absurd (List.length_eq_zero_iff.1 h0) HNil.out
                      · have hsrc := hav.cells (g := g2) rfl
                        clear hrest
                        go_wp2_with (at_builtin; refine wpList_append_own _ rfl _ _ 22 rfl w8.heap.size 3 i0 (.int .i64 0) 1 8 Tryd.underlying22 hi hz0 hz1 hz2 rfl (by decide) _ _ _ rfl hrow2 ⟨g2, 0, none⟩ (elems m).length cap2 ((elems m).map ienc) rfl (by simp) hsrc (by intro u hu; obtain ⟨q, _, rfl⟩ := List.mem_map.1 hu; rfl) (by unfold maxLen; omega) (by omega) (by omega) ?_; intro v' w5 hown5 hgrow5 _)
                        have HB11 := Lib.hid (HB10.out.grown hgrow5 (by omega) (fun j e => by have := (hrow2.lt j e).1; omega))
                        have HF := Lib.hid (rof_row (0 :: elems m) (fun q hq => by
                          rcases List.mem_cons.1 hq with rfl | hq
                          · decide
                          · exact elems_lt hq) (by simp; omega) (zeroM m) (fun i hi => zero_bit m i hi) _ _ _ _ (by simp; omega) hown5)
                        rw [HZ3.out] at HF
                        clear hown5 hgrow5 hrow2 hsrc hav
                        refine HF.out.mono ?_
                        rintro e w' ⟨rfl, rfl⟩
                        go_wp2_with fail
                        go_ret2
                        exact ⟨by rw [HR.out]; rfl, HB11.out⟩
                  · have e4 : ((k : Int) == 4) = false := by simp; omega
                    have HR2 : Hid (itemL k l = some m) := Lib.hid (by rw [HR.out, fix7_other (fun q => h4 q.1)])
                    clear h4
                    go_wp2_with fail
                    refine (HSp.out _).mono ?_
                    rintro e w8 ⟨rfl, hb⟩
                    have HB8 := Lib.hid (HB.out.trans (hb.mono HB.out.size))
                    clear hb
                    unfold maskOk
                    go_wp2_with fail
                    go_ret2
                    exact ⟨by rw [HR2.out]; rfl, HB8.out⟩
      · have d2 : decide (63 < (n : Int)) = true := by simp; omega
        have HN := Lib.hid (show stepL (some st) = none by simp [stepL, hn]; omega)
        clear hn hn1 hn2
        go_enter Tryd.func41, Tryd.ntmps41
        go_wp2_with fail
        refine (HE.out _).mono ?_
        rintro e w1 ⟨rfl, hb1⟩
        have HB1 := Lib.hid hb1
        clear hb1
        go_wp2_with fail
        have HB2 := Lib.hid (HB1.out.alloc HB1.out.size (.cells #[.int .i64 (a : Int), .int .i64 (z : Int)] 28))
        have HX := Lib.hid (RunBox.new w1 (a : Int) (z : Int))
        have hwg : w.heap.size ≤ w1.heap.size := HB1.out.size
        clear HB1
        generalize hgw : w1.alloc _ = w2 at *
        generalize w1.heap.size = g at *
        clear hgw
        refine (HC1.out _).mono ?_
        rintro e w3 ⟨rfl, hb⟩
        have HB := Lib.hid (HB2.out.trans (hb.mono HB2.out.size)); have HX := Lib.hid (HX.out.on hb)
        clear hb HB2 HC1 HE
        try unfold strV at *
        go_wp2_with fail
        refine (HSt.out _).mono ?_
        rintro e w4' ⟨rfl, rfl⟩
        have HR : Hid (itemL k l = none) := Lib.hid (by exact itemL_no (by rw [HS2.out]; exact HN.out))
        go_wp2_with fail
        go_ret2
        exact ⟨by rw [HR.out]; rfl, HB.out⟩
    · have d1 : decide ((n : Int) < 1) = true := by simp; omega
      have HN := Lib.hid (show stepL (some st) = none by simp [stepL, hn]; omega)
      clear hn hn1
      go_enter Tryd.func41, Tryd.ntmps41
      go_wp2_with fail
      refine (HE.out _).mono ?_
      rintro e w1 ⟨rfl, hb1⟩
      have HB1 := Lib.hid hb1
      clear hb1
      go_wp2_with fail
      have HB2 := Lib.hid (HB1.out.alloc HB1.out.size (.cells #[.int .i64 (a : Int), .int .i64 (z : Int)] 28))
      have HX := Lib.hid (RunBox.new w1 (a : Int) (z : Int))
      have hwg : w.heap.size ≤ w1.heap.size := HB1.out.size
      clear HB1
      generalize hgw : w1.alloc _ = w2 at *
      generalize w1.heap.size = g at *
      clear hgw
      refine (HC1.out _).mono ?_
      rintro e w3 ⟨rfl, hb⟩
      have HB := Lib.hid (HB2.out.trans (hb.mono HB2.out.size)); have HX := Lib.hid (HX.out.on hb)
      clear hb HB2 HC1 HE
      try unfold strV at *
      go_wp2_with fail
      refine (HSt.out _).mono ?_
      rintro e w4' ⟨rfl, rfl⟩
      have HR : Hid (itemL k l = none) := Lib.hid (by exact itemL_no (by rw [HS2.out]; exact HN.out))
      go_wp2_with fail
      go_ret2
      exact ⟨by rw [HR.out]; rfl, HB.out⟩
theorem ritem_any (k : Nat) (l : List UInt8) (w : World) (hk : k < 5) (hl : l.length ≤ 1000) :
    Calls Tryd.prog 41 #[.int .i64 (k : Int), strV l] w fun e w' => e = .returned (optM (itemL k l)) ∧ Below w.heap.size w w' := by
  cases h : (cutB l 47).2 with
  | none => exact ritem_plain k l w hk hl h
  | some st => exact ritem_steps k l w hk hl st h
end Go.Proofs.YtmgeefmhnhdmjaaDoor
/- The document's Read: walked. -/
namespace Go.Proofs.YtmgeefmhnhdmjaaDoor
open Go.RowKit

theorem info_maskF : (Tryd.prog.info? 24).map (fun i => (i.zero, i.size, i.bytes)) = some (some (.int .u64 0), 1, 8) := by kernel_rfl
def menc (m : BitVec 64) : Value := .int .u64 (U m)
theorem folds_snoc : ∀ (l : List (BitVec 64)) (m x : BitVec 64), folds g_or (l ++ [x]) m = folds g_or l m ||| x
  | [], m, x => rfl
  | a :: l, m, x => by rw [List.cons_append, folds, folds, folds_snoc l]
/-- What is still to be read. -/
def moreL (mb : Bool) (r : List UInt8) : List (List UInt8) := if mb then splitC r else []
theorem more_next (k : Nat) (r : List UInt8) (a : Nat) (m : BitVec 64) : readP k (moreL true r) a m = match itemL k (cutB r 44).1 with
    | none => (0#64, a, 160)
    | some x => readP k (moreL (cutB r 44).2.isSome ((cutB r 44).2.getD [])) (a + (cutB r 44).1.length + 1) (m ||| x) := by
  show readP k (splitC r) a m = _
  rw [split_cut r, readP]
  cases itemL k (cutB r 44).1 with
  | none => rfl
  | some x =>
    cases (cutB r 44).2 with
    | none => rfl
    | some y => rfl
theorem cut_sum (r : List UInt8) (c : UInt8) : (cutB r c).1.length + ((cutB r c).2.getD []).length + (if (cutB r c).2.isSome then 1 else 0) = r.length := by
  obtain ⟨_, h | ⟨y, h1, h2⟩⟩ := cutB_spec r c
  · rw [h.1, h.2]; simp
  · have := congrArg List.length h2
    simp only [List.length_append, List.length_cons] at this
    rw [h1]; simp; omega
def restN : Value → Value → Nat
  | .string s, .bool true => s.size + 1
  | _, _ => 0
theorem menc_row (l : List (BitVec 64)) (k : Nat) (h : k < l.length) : (l.map menc)[k]? = some (.int .u64 (U (nth l k))) := by
  unfold nth
  rw [List.getElem?_map, List.getD_eq_getElem?_getD, List.getElem?_eq_getElem h]; rfl
theorem rread_long (k : Nat) (s : ByteArray) (w : World) (hs : s.size ≤ maxLen) (hl : 256 < s.size) :
    Calls Tryd.prog 22 #[.int .i64 (k : Int), .string s] w fun e w' => e = .returned (readV (readL k s.data.toList)) ∧ Below w.heap.size w w' := by
  unfold maxLen at hs
  have HR : Hid (readL k s.data.toList = (0#64, 0, 3)) := Lib.hid (by unfold readL; rw [if_pos (by rw [len_list]; exact hl)])
  rw [HR.out]
  unfold readV
  rw [U_zero]
  go_enter Tryd.func22, Tryd.ntmps22
  go_wp2_with fail
  go_ret3
  exact ⟨rfl, Below.refl _ _⟩
set_option maxRecDepth 100000 in
set_option maxHeartbeats 4000000 in
theorem rread_short (k : Nat) (s : ByteArray) (w : World) (hk : k < 5) (hl : s.size ≤ 256) :
    Calls Tryd.prog 22 #[.int .i64 (k : Int), .string s] w fun e w' => e = .returned (readV (readL k s.data.toList)) ∧ Below w.heap.size w w' := by
  obtain ⟨i0, hi, hz0, hz1, hz2⟩ := info_parts info_maskF
  have hR : readL k s.data.toList = readP k (moreL true s.data.toList) 0 0#64 := by unfold readL; rw [if_neg (by rw [len_list]; omega)]; rfl
  rw [hR]
  rw [strV_data]
  rw [← len_list] at hl
  have HLn := Lib.hid hl
  generalize s.data.toList = S at *
  clear hR
  have hsz := size_l S
  unfold strV
  have hg : ¬ (256 < ((⟨S.toArray⟩ : ByteArray).size : Int)) := by rw [hsz]; omega
  go_enter Tryd.func22, Tryd.ntmps22
  go_wp2_with fail
  go_loopw [7, 8, 9, 10] (fun v a r m wr => ∃ (done : List (BitVec 64)) (at_ : Nat) (rl : List UInt8) (mb : Bool), a = .int .i64 (at_ : Int) ∧ r = strV rl ∧ m = .bool mb ∧ Below w.heap.size w wr ∧ wr.ownsRow w.heap.size 24 1 v done.length (done.map menc) ∧ readP k (moreL true S) 0 0#64 = readP k (moreL mb rl) at_ (folds g_or done 0#64) ∧ (mb = true → at_ + rl.length ≤ 256 ∧ done.length + rl.length ≤ 256) ∧ at_ ≤ 257 ∧ done.length ≤ 257) (fun _ _ r m _ => restN r m)
  case atStart => exact ⟨[], 0, S, true, rfl, rfl, rfl, Below.refl _ _, World.ownsRow_nil _ _ _ _, rfl, fun _ => by have := HLn.out; simp; omega, by omega, by simp⟩
  case round =>
    obtain ⟨done, at_, rl, mb, rfl, rfl, rfl, hB, hrow, hP, hb, hat, hdn⟩ := hrel
    have HB := Lib.hid hB; have HRow := Lib.hid hrow; have HP := Lib.hid hP
    clear hB hrow hP
    cases mb with
    | true =>
      obtain ⟨hb1, hb2⟩ := hb rfl
      have HMN := Lib.hid (more_next k rl at_ (folds g_or done 0#64))
      have hcs := cut_sum rl 44
      have HC := Lib.hid (fun W => rcut_l rl 44 W (by omega))
      rw [show (((44 : UInt8).toNat : Nat) : Int) = 44 by rfl] at HC
      obtain ⟨x, hx⟩ : ∃ x, (cutB rl 44).1 = x := ⟨_, rfl⟩
      obtain ⟨y, hy⟩ : ∃ x, ((cutB rl 44).2.getD []) = x := ⟨_, rfl⟩
      obtain ⟨mb2, hm2⟩ : ∃ x, (cutB rl 44).2.isSome = x := ⟨_, rfl⟩
      rw [hx, hy, hm2] at HC HMN hcs
      have HI := Lib.hid (fun W => ritem_any k x W hk (by omega))
      have hsx := size_l x
      clear hx hy hm2 hb
      unfold strV at *
      cases hit : itemL k x with
      | none =>
        rw [hit] at HI HMN
        unfold optM at HI
        clear hit
        go_wp2_with fail
        refine (HC.out _).mono ?_
        rintro e w1 ⟨rfl, hb⟩
        have HB1 := Lib.hid (HB.out.trans (hb.mono HB.out.size))
        clear hb
        go_wp2_with fail
        refine (HI.out _).mono ?_
        rintro e w2 ⟨rfl, hb⟩
        have HB2 := Lib.hid (HB1.out.trans (hb.mono HB1.out.size))
        clear hb
        go_wp2_with fail
        go_ret3
        exact ⟨by rw [HP.out, HMN.out]; unfold readV; rw [U_zero]; rfl, HB2.out⟩
      | some z =>
        rw [hit] at HI HMN
        unfold optM at HI
        clear hit
        go_wp2_with fail
        refine (HC.out _).mono ?_
        rintro e w1 ⟨rfl, hb⟩
        have HB1 := Lib.hid (HB.out.trans (hb.mono HB.out.size)); have HRow1 := Lib.hid (own_below HRow.out hb)
        clear hb
        go_wp2_with fail
        refine (HI.out _).mono ?_
        rintro e w2 ⟨rfl, hb⟩
        have HB2 := Lib.hid (HB1.out.trans (hb.mono HB1.out.size)); have HRow2 := Lib.hid (own_below HRow1.out hb)
        have hsz2 := HB2.out.size
        clear hb
        go_wp2_with (at_builtin; refine wpList_append_own _ rfl _ _ 44 rfl w.heap.size 24 i0 (.int .u64 0) 1 8 Tryd.underlying44 hi hz0 hz1 hz2 rfl (by decide) _ _ _ rfl (HRow2.out.alloc _) ⟨w2.heap.size, 0, none⟩ 1 1 [.int .u64 (U z)] rfl rfl (cell_one_new _ _ _) (by simp [Value.oneCell']) (by unfold maxLen; omega) (by omega) (by simp; omega) ?_; intro v' w5 hown5 hgrow5 _)
        have HB5 := Lib.hid ((HB2.out.alloc hsz2 _).grown hgrow5 (by simp; omega) (fun j e => (HRow2.out.lt j e).1))
        have HRow5 := Lib.hid hown5
        clear hown5 hgrow5
        go_roundw
        case rel =>
          refine ⟨done ++ [z], at_ + x.length + 1, y, mb2, by go_num, rfl, rfl, HB5.out, ?_, ?_, ?_, ?_, ?_⟩
          · rw [List.length_append, List.map_append]; exact HRow5.out
          · rw [HP.out, HMN.out, folds_snoc]
          · intro hm; subst hm; simp at hcs ⊢; omega
          · omega
          · simp; omega
        case measure =>
          cases mb2 with
          | true => simp [restN, size_l] at hcs ⊢; omega
          | false => simp [restN]
    | false =>
      have HF : Hid (readP k (moreL true S) 0 0#64 = (folds g_or done 0#64, 0, 0)) := Lib.hid (by rw [HP.out]; rfl)
      obtain ⟨A, c, rfl, ha⟩ := own_arr0 HRow.out (fun k => .int .u64 (U (nth done k))) (fun k hk => menc_row done k hk)
      have HO := Lib.hid (ror_any A done.length c done wr rfl (by omega) ha (fun b o e h0 => by
        have := HRow.out.lt b (by rw [e]; rfl)
        exact this.2))
      clear ha hb
      go_wp2_with fail
      refine HO.out.mono ?_
      rintro e w2 ⟨rfl, hb⟩
      have HB2 := Lib.hid (HB.out.trans (hb.mono HB.out.size))
      clear hb
      go_wp2_with fail
      go_ret3
      exact ⟨by rw [HF.out]; rfl, HB2.out⟩
end Go.Proofs.YtmgeefmhnhdmjaaDoor
/- The document's digits: walked. -/
namespace Go.Proofs.YtmgeefmhnhdmjaaDoor
open Go.RowKit

theorem one_conv (W : World) (g c : Nat) (z : Int) (b : UInt8) (h : W.cell? ⟨g, 0, none⟩ = some (.int .u8 z)) (hz : z = (b.toNat : Nat)) : (convert 84 9 (.slice (some ⟨g, 0, none⟩) 1 c)).run Tryd.prog W = .ok (strV [b]) W :=
  run_convert_bytes_back W _ _ _ ⟨g, 0, none⟩ c [b] Tryd.underlying84 Tryd.underlying5 Tryd.underlying9 (fun j hj => by
    obtain rfl : j = 0 := by simpa using hj
    have e : (⟨g, 0, none⟩ : Addr).add 0 = ⟨g, 0, none⟩ := by unfold Addr.add; simp
    rw [e, h, hz]; rfl)
set_option maxRecDepth 100000 in
theorem rdigits_any (n : Nat) (w : World) (hn : n < 100) :
    Calls Tryd.prog 45 #[.int .i64 (n : Int)] w fun e w' => e = .returned (strV (dgsN n)) ∧ Below w.heap.size w w' := by
  have h0 : (0 : Int) ≤ (n : Int) := by omega
  have h1 : (n : Int) < 100 := by omega
  by_cases h : n < 10
  · have hd : decide (10 ≤ (n : Int)) = false := by simp; omega
    have hcv := one_conv (w.alloc (.cells #[.int .u8 (48 + (n : Int) % 10)] 5)) w.heap.size 1 (48 + (n : Int) % 10) (dg n) (by go_simp) (by rw [dg_nat]; omega)
    have HS : Hid (dgsN n = [dg n]) := Lib.hid (by unfold dgsN; rw [if_pos h])
    obtain ⟨p, e1, k1, r1⟩ := join_str [] [dg n] 0 1 rfl rfl
    replace e1 : (⟨#[]⟩ : ByteArray) ++ ⟨[dg n].toArray⟩ = ⟨p.toArray⟩ := e1
    have HP : Hid (p = [dg n]) := Lib.hid r1
    have hsz : (⟨[dg n].toArray⟩ : ByteArray).size = 1 := rfl
    clear r1 h
    unfold strV at *
    generalize (⟨[dg n].toArray⟩ : ByteArray) = q at *
    go_enter Tryd.func45, Tryd.ntmps45
    go_wp2_with fail
    go_ret
    refine ⟨?_, (Below.refl _ _).alloc (Nat.le_refl _) _⟩
    rw [HS.out, ← HP.out]; rfl
  · have hd : decide (10 ≤ (n : Int)) = true := by simp; omega
    have hcv := one_conv (w.alloc (.cells #[.int .u8 (48 + (n : Int) / 10)] 5)) w.heap.size 1 (48 + (n : Int) / 10) (dg (n / 10)) (by go_simp) (by rw [dg_nat]; omega)
    have hcv2 := one_conv ((w.alloc (.cells #[.int .u8 (48 + (n : Int) / 10)] 5)).alloc (.cells #[.int .u8 (48 + (n : Int) % 10)] 5)) (w.heap.size + 1) 1 (48 + (n : Int) % 10) (dg n) (by go_simp) (by rw [dg_nat]; omega)
    have HS : Hid (dgsN n = d2 n) := Lib.hid (by unfold dgsN; rw [if_neg h])
    obtain ⟨p, e1, k1, r1⟩ := join_str [dg (n / 10)] [dg n] 1 1 rfl rfl
    have HP : Hid (p = d2 n) := Lib.hid (by rw [r1]; rfl)
    have hsz : (⟨[dg n].toArray⟩ : ByteArray).size = 1 := rfl
    have hsz2 : (⟨[dg (n / 10)].toArray⟩ : ByteArray).size = 1 := rfl
    clear r1 h
    unfold strV at *
    generalize (⟨[dg n].toArray⟩ : ByteArray) = q at *
    generalize (⟨[dg (n / 10)].toArray⟩ : ByteArray) = q2 at *
    go_enter Tryd.func45, Tryd.ntmps45
    go_wp2_with fail
    go_ret
    refine ⟨?_, ((Below.refl _ _).alloc (Nat.le_refl _) _).alloc (by simp) _⟩
    rw [HS.out, ← HP.out]; rfl
end Go.Proofs.YtmgeefmhnhdmjaaDoor
/- The document's Text: walked. -/
namespace Go.Proofs.YtmgeefmhnhdmjaaDoor
open Go.RowKit

def outN (m : BitVec 64) (j : Nat) : List UInt8 := joinC ((runsS m).take j)
theorem joinC_snoc : ∀ (l : List (List UInt8)) (x : List UInt8), joinC (l ++ [x]) = if l = [] then x else joinC l ++ 44 :: x
  | [], x => rfl
  | [p], x => rfl
  | p :: q :: l, x => by
    have h := joinC_snoc (q :: l) x
    rw [if_neg (by simp)] at h
    rw [if_neg (by simp), List.cons_append, List.cons_append, joinC, ← List.cons_append, h, joinC, List.append_assoc]
    rfl
theorem out_next {m : BitVec 64} {j : Nat} {r : Nat × Nat} (h : (runsOf m)[j]? = some r) : outN m (j + 1) = if j = 0 then runL r else outN m j ++ 44 :: runL r := by
  have hlt := (List.getElem?_eq_some_iff.1 h).1
  have h1 : (runsS m)[j]? = some (runL r) := by unfold runsS; rw [List.getElem?_map, h]; rfl
  unfold outN
  rw [List.take_add_one, h1]
  show joinC ((runsS m).take j ++ [runL r]) = _
  rw [joinC_snoc]
  by_cases h0 : j = 0
  · subst h0; rfl
  · rw [if_neg h0, if_neg (fun e => by
      have := congrArg List.length e
      rw [List.length_take, show (runsS m).length = (runsOf m).length by unfold runsS; simp, List.length_nil] at this
      omega)]
theorem out_len (m : BitVec 64) (j : Nat) : (outN m j).length ≤ 6 * j := by
  unfold outN
  have h1 := joinC_len ((runsS m).take j)
  have h2 := sum_six ((runsS m).take j) (fun x hx => by
    have hx2 := List.mem_of_mem_take hx
    unfold runsS at hx2
    rw [List.mem_map] at hx2
    obtain ⟨r, _, rfl⟩ := hx2
    exact (run_len r).2)
  have h3 := List.length_take_le j (runsS m)
  omega
theorem out_all (m : BitVec 64) : outN m (runsOf m).length = runsL m := by
  unfold outN runsL
  rw [show (runsOf m).length = (runsS m).length by unfold runsS; simp, List.take_length]; rfl
theorem run_le {m : BitVec 64} {r : Nat × Nat} (h : r ∈ runsOf m) : r.1 ≤ r.2 ∧ r.2 < 64 := by
  obtain ⟨a, e, rfl, _, h1, _, h2, _⟩ := run_mem h
  exact ⟨h1, BitVec.lt_of_getLsbD (h2 e h1 (Nat.le_refl _))⟩
set_option maxRecDepth 100000 in
set_option maxHeartbeats 4000000 in
theorem rtext_any (k : Nat) (m : BitVec 64) (w : World) (hk : k < 5) :
    Calls Tryd.prog 24 #[.int .i64 (k : Int), .int .u64 (U m)] w fun e w' => e = .returned (strV (textL k m)) ∧ Below w.heap.size w w' := by
  have HK := Lib.hid hk
  have HE := Lib.hid (fun W => rends_any k W hk)
  have HW := Lib.hid (fun W => rwhole_any k W hk)
  have HRuns := Lib.hid (fun W => rruns_any m W)
  have hr64 := runs_64 m
  have he64 := elems_64 m
  unfold runV at HE
  by_cases he : m = wholeM k
  · subst he
    have HT := Lib.hid (textL_whole k)
    go_enter Tryd.func24, Tryd.ntmps24
    go_wp2_with fail
    refine (HW.out _).mono ?_
    rintro e w1 ⟨rfl, hb⟩
    have HB := Lib.hid hb
    clear hb
    go_wp2_with fail
    go_ret
    exact ⟨by rw [HT.out]; rfl, HB.out⟩
  · have hne : (U m == U (wholeM k)) = false := by rw [beq_eq_false_iff_ne, ne_eq, U_inj]; exact he
    have HNE := Lib.hid he
    clear he
    have HAll := Lib.hid (fun W => rall_row m W)
    have hpe : pop m = (elems m).length := (pop_eq m).symm
    have HP := Lib.hid hpe
    obtain ⟨a, hae⟩ : ∃ a : Int, ((loK k : Nat) : Int) = a := ⟨_, rfl⟩
    obtain ⟨z, hze⟩ : ∃ a : Int, ((hiK k : Nat) : Int) = a := ⟨_, rfl⟩
    have HAe := Lib.hid hae; have HZe := Lib.hid hze
    rw [hae, hze] at HE
    clear hae hze hpe
    have hf0 := fun W => (field_run a z W).1
    have hf1 := fun W => (field_run a z W).2
    by_cases h3 : 3 ≤ pop m
    · have h3' : decide (3 ≤ ((elems m).length : Int)) = true := by rw [HP.out] at h3; simp; omega
      have hp3 := Lib.hid h3
      clear h3
      go_enter Tryd.func24, Tryd.ntmps24
      go_wp2_with fail
      refine (HW.out _).mono ?_
      rintro e w1 ⟨rfl, hb⟩
      have HB1 := Lib.hid hb
      clear hb
      go_wp2_with fail
      go_loopw [5] (fun i wr => ∃ n : Nat, 2 ≤ n ∧ n ≤ 64 ∧ i = .int .i64 (n : Int) ∧ Below w.heap.size w wr ∧ ∀ i : Nat, 2 ≤ i → i < n → spanM (loK k) (hiK k) i ≠ some m) (fun i _ => 64 - (intOf i).toNat)
      case atStart => exact ⟨2, by omega, by omega, rfl, HB1.out, fun i h1 h2 => by omega⟩
      case round =>
        obtain ⟨n, hn2, hn64, rfl, hB, hno⟩ := hrel
        have HB := Lib.hid hB; have HNO := Lib.hid hno
        clear hB hno
        by_cases hlt : n ≤ 63
        · have hle : (n : Int) ≤ 63 := by omega
          have hh := hi_lt k
          obtain ⟨x, hx⟩ := span_some (a := loK k) (b := hiK k) (s := (n : Int)) hh.2.1 (by omega) (by omega)
          have HSp := Lib.hid (fun W => rspan_any (loK k : Nat) (hiK k : Nat) n W (by omega))
          rw [hx, HAe.out, HZe.out] at HSp
          have HX := Lib.hid hx
          clear hx hh
          go_wp2_with fail
          refine (HAll.out _).mono ?_
          rintro e w2 ⟨⟨A, c, rfl, hA⟩, hb⟩
          have HB2 := Lib.hid (HB.out.trans (hb.mono HB.out.size))
          clear hA hb
          go_wp2_with fail
          refine (HE.out _).mono ?_
          rintro e w3 ⟨rfl, hb⟩
          have HB3 := Lib.hid (HB2.out.trans (hb.mono HB2.out.size))
          clear hb
          go_wp2_with fail
          refine (HE.out _).mono ?_
          rintro e w4 ⟨rfl, hb⟩
          have HB4 := Lib.hid (HB3.out.trans (hb.mono HB3.out.size))
          clear hb
          go_wp2_with fail
          refine (HSp.out _).mono ?_
          rintro e w5 ⟨rfl, hb⟩
          have HB5 := Lib.hid (HB4.out.trans (hb.mono HB4.out.size))
          clear hb HB4 HB3 HB2
          unfold maskOk
          by_cases heq : x = m
          · subst heq
            have HT := Lib.hid (textL_step (k := k) HNE.out (show stepOfN k x = some n by unfold stepOfN; rw [if_pos hp3.out]; exact steps_some hn2 hlt HNO.out HX.out))
            have hl := dgs_len n
            obtain ⟨p, e1, k1, r1⟩ := join_str [42, 47] (dgsN n) 2 (dgsN n).length rfl rfl
            have g1 : ¬ (9223372036854775807 < 2 + (dgsN n).length) := by omega
            have HPp : Hid (textL k x = p) := Lib.hid (by rw [HT.out, r1]; rfl)
            replace e1 : (⟨#[42, 47]⟩ : ByteArray) ++ ⟨(dgsN n).toArray⟩ = ⟨p.toArray⟩ := e1
            clear HT r1 k1
            go_wp2_with fail
            refine (rdigits_any n _ (by omega)).mono ?_
            rintro e w6 ⟨rfl, hb⟩
            have HB6 := Lib.hid (HB5.out.trans (hb.mono HB5.out.size))
            clear hb
            unfold strV
            go_wp2_with fail
            go_ret
            exact ⟨by rw [HPp.out]; rfl, HB6.out⟩
          · have hne2 : (U x == U m) = false := by rw [beq_eq_false_iff_ne, ne_eq, U_inj]; exact heq
            have HN : Hid (∀ i : Nat, 2 ≤ i → i < n + 1 → spanM (loK k) (hiK k) i ≠ some m) := Lib.hid (by
              intro i h2 hi
              rcases Nat.lt_or_ge i n with h | h
              · exact HNO.out i h2 h
              · obtain rfl : i = n := by omega
                rw [HX.out]
                intro q
                exact heq (Option.some.inj q))
            clear heq
            go_wp2_with fail
            go_roundw
            case rel => exact ⟨n + 1, by omega, by omega, by go_num, HB5.out, HN.out⟩
            case measure => simp [intOf]; omega
        · obtain rfl : n = 64 := by omega
          have HT := Lib.hid (textL_runs (k := k) HNE.out (show stepOfN k m = none by unfold stepOfN; rw [if_pos hp3.out]; exact steps_none HNO.out))
          clear hlt HNO HB1
          rw [show ((64 : Nat) : Int) = 64 by rfl]
          go_wp2_with fail
          refine (HRuns.out _).mono ?_
          rintro e wA ⟨v, rfl, hown, hb⟩
          obtain ⟨A, c, rfl⟩ := own_slice0 hown
          have HO := Lib.hid hown; have HBA := Lib.hid (HB.out.trans (hb.mono HB.out.size))
          clear hown hb HB hf0 hf1
          go_wp2_with fail
          go_loopw [8, 45] (fun v i wr => ∃ j : Nat, j ≤ (runsOf m).length ∧ i = .int .i64 (j : Int) ∧ Below wA.heap.size wA wr ∧ v = strV (outN m j)) (fun _ i _ => (runsOf m).length - (intOf i).toNat)
          case atStart => exact ⟨0, Nat.zero_le _, rfl, Below.refl _ _, rfl⟩
          case round =>
            obtain ⟨j, hj, rfl, hB, rfl⟩ := hrel
            have HBr := Lib.hid hB
            clear hB
            by_cases hlt : j < (runsOf m).length
            · obtain ⟨⟨a, b⟩, hab⟩ : ∃ r, (runsOf m)[j]? = some r := ⟨_, List.getElem?_eq_getElem hlt⟩
              obtain ⟨g, rfl, hg, c0, c1⟩ := run_cells2 HO.out j (a, b) hab hlt
              have d0 := (HBr.out.cell (p := ⟨g, j * 2, none⟩) hg).trans c0
              have d1 := (HBr.out.cell (p := ⟨g, j * 2 + 1, none⟩) hg).trans c1
              have hle := run_le (List.mem_of_getElem? hab)
              have HON := Lib.hid (out_next hab)
              have hol := out_len m j
              have hgr : g < wr.heap.size := Nat.lt_of_lt_of_le hg HBr.out.size
              dsimp only at d0 d1 hle
              clear c0 c1 hab
              have HDa := Lib.hid (fun W => rdigits_any a W (by omega)); have HDb := Lib.hid (fun W => rdigits_any b W (by omega))
              have la := dgs_len a; have lb := dgs_len b
              have hrun : runL (a, b) = if a < b then dgsN a ++ 45 :: dgsN b else dgsN a := rfl
              have HRun := Lib.hid hrun
              obtain ⟨da, hda⟩ : ∃ d, dgsN a = d := ⟨_, rfl⟩
              obtain ⟨db, hdb⟩ : ∃ d, dgsN b = d := ⟨_, rfl⟩
              rw [hda] at HDa HRun la
              rw [hdb] at HDb HRun lb
              obtain ⟨oj, hoj⟩ : ∃ d, outN m j = d := ⟨_, rfl⟩
              rw [hoj] at HON hol ⊢
              clear hda hdb hoj hrun
              have hsz := HBr.out.size
              by_cases h0 : j = 0
              · subst h0
                rw [if_pos rfl] at HON
                have hoe : oj = [] := List.eq_nil_of_length_eq_zero (by omega)
                subst hoe
                rw [show ((0 : Nat) : Int) = 0 by rfl]
                obtain ⟨p2, e2, k2, r2⟩ := join_str [] da 0 da.length rfl rfl
                have g2 : ¬ (9223372036854775807 < 0 + da.length) := by omega
                have g2' : ¬ (9223372036854775807 < da.length) := by omega
                replace e2 : (⟨#[]⟩ : ByteArray) ++ ⟨da.toArray⟩ = ⟨p2.toArray⟩ := e2
                have HR2 := Lib.hid r2
                clear r2
                unfold strV
                go_wp2_with fail
                have HX := Lib.hid (RunBox.new wr (a : Int) (b : Int))
                have HB1 := Lib.hid (HBr.out.alloc HBr.out.size (.cells #[.int .i64 (a : Int), .int .i64 (b : Int)] 28))
                generalize wr.alloc _ = wq at *
                refine (HDa.out _).mono ?_
                rintro e w2 ⟨rfl, hb⟩
                have HB2 := Lib.hid (HB1.out.trans (hb.mono HB1.out.size)); have HX2 := Lib.hid (HX.out.on hb)
                clear hb HX HB1 d0 d1
                obtain ⟨x0, x1, f0, f1⟩ := HX2.out.cells
                have hx2 := HX2.out.lt
                unfold strV
                by_cases hab : a < b
                · have hd : decide (a < b) = true := by simpa using hab
                  obtain ⟨p3, e3, k3, r3⟩ := join_str [45] db 1 db.length rfl rfl
                  obtain ⟨p4, e4, k4, r4⟩ := join_str p2 p3 p2.length p3.length rfl rfl
                  have g3 : ¬ (9223372036854775807 < 1 + db.length) := by omega
                  have g4 : ¬ (9223372036854775807 < p2.length + p3.length) := by omega
                  replace e3 : (⟨#[45]⟩ : ByteArray) ++ ⟨db.toArray⟩ = ⟨p3.toArray⟩ := e3
                  have HS : Hid (outN m (0 + 1) = p4) := Lib.hid (by
                    rw [HON.out, HRun.out, if_pos hab, r4, r3, HR2.out]; try simp)
                  clear hab r3 r4
                  go_wp2_with fail
                  refine (HDb.out _).mono ?_
                  rintro e w3 ⟨rfl, hb⟩
                  have HB3 := Lib.hid (HB2.out.trans (hb.mono HB2.out.size)); have HX3 := Lib.hid (HX2.out.on hb)
                  clear hb HX2 HB2 x0 x1 f0 f1 hx2
                  unfold strV
                  go_wp2_with fail
                  go_roundw
                  case rel => exact ⟨0 + 1, hlt, by rfl, HB3.out, by rw [HS.out]; try rfl⟩
                  case measure => simp [intOf]; omega
                · have hd : decide (a < b) = false := by simpa using hab
                  have HS : Hid (outN m (0 + 1) = p2) := Lib.hid (by
                    rw [HON.out, HRun.out, if_neg hab, HR2.out]; try simp)
                  clear hab
                  go_wp2_with fail
                  go_roundw
                  case rel => exact ⟨0 + 1, hlt, by rfl, HB2.out, by rw [HS.out]; try rfl⟩
                  case measure => simp [intOf]; omega
              · have hp : decide ((0 : Int) < (j : Int)) = true := by simp; omega
                have hj0 : 0 < j := by omega
                rw [if_neg h0] at HON
                clear h0
                obtain ⟨p1, e1, k1, r1⟩ := join_str oj [44] oj.length 1 rfl rfl
                have g1 : ¬ (9223372036854775807 < oj.length + 1) := by omega
                replace e1 : (⟨oj.toArray⟩ : ByteArray) ++ ⟨#[44]⟩ = ⟨p1.toArray⟩ := e1
                have HR1 := Lib.hid r1
                clear r1
                obtain ⟨p2, e2, k2, r2⟩ := join_str p1 da p1.length da.length rfl rfl
                have g2 : ¬ (9223372036854775807 < p1.length + da.length) := by omega
                have HR2 := Lib.hid r2
                clear r2
                unfold strV
                go_wp2_with fail
                have HX := Lib.hid (RunBox.new wr (a : Int) (b : Int))
                have HB1 := Lib.hid (HBr.out.alloc HBr.out.size (.cells #[.int .i64 (a : Int), .int .i64 (b : Int)] 28))
                generalize wr.alloc _ = wq at *
                refine (HDa.out _).mono ?_
                rintro e w2 ⟨rfl, hb⟩
                have HB2 := Lib.hid (HB1.out.trans (hb.mono HB1.out.size)); have HX2 := Lib.hid (HX.out.on hb)
                clear hb HX HB1 d0 d1
                obtain ⟨x0, x1, f0, f1⟩ := HX2.out.cells
                have hx2 := HX2.out.lt
                unfold strV
                by_cases hab : a < b
                · have hd : decide (a < b) = true := by simpa using hab
                  obtain ⟨p3, e3, k3, r3⟩ := join_str [45] db 1 db.length rfl rfl
                  obtain ⟨p4, e4, k4, r4⟩ := join_str p2 p3 p2.length p3.length rfl rfl
                  have g3 : ¬ (9223372036854775807 < 1 + db.length) := by omega
                  have g4 : ¬ (9223372036854775807 < p2.length + p3.length) := by omega
                  replace e3 : (⟨#[45]⟩ : ByteArray) ++ ⟨db.toArray⟩ = ⟨p3.toArray⟩ := e3
                  have HS : Hid (outN m (j + 1) = p4) := Lib.hid (by
                    rw [HON.out, HRun.out, if_pos hab, r4, r3, HR2.out, HR1.out]; try simp)
                  clear hab r3 r4
                  go_wp2_with fail
                  refine (HDb.out _).mono ?_
                  rintro e w3 ⟨rfl, hb⟩
                  have HB3 := Lib.hid (HB2.out.trans (hb.mono HB2.out.size)); have HX3 := Lib.hid (HX2.out.on hb)
                  clear hb HX2 HB2 x0 x1 f0 f1 hx2
                  unfold strV
                  go_wp2_with fail
                  go_roundw
                  case rel => exact ⟨j + 1, hlt, by go_num, HB3.out, by rw [HS.out]; try rfl⟩
                  case measure => simp [intOf]; omega
                · have hd : decide (a < b) = false := by simpa using hab
                  have HS : Hid (outN m (j + 1) = p2) := Lib.hid (by
                    rw [HON.out, HRun.out, if_neg hab, HR2.out, HR1.out]; try simp)
                  clear hab
                  go_wp2_with fail
                  go_roundw
                  case rel => exact ⟨j + 1, hlt, by go_num, HB2.out, by rw [HS.out]; try rfl⟩
                  case measure => simp [intOf]; omega
            · obtain rfl : j = (runsOf m).length := by omega
              unfold strV
              go_wp2_with fail
              go_ret
              exact ⟨by rw [HT.out, ← out_all]; rfl, HBA.out.trans (HBr.out.mono HBA.out.size)⟩
    · have h3' : decide (3 ≤ ((elems m).length : Int)) = false := by rw [HP.out] at h3; simp; omega
      have HT := Lib.hid (textL_runs (k := k) HNE.out (show stepOfN k m = none by unfold stepOfN; rw [if_neg h3]))
      clear h3
      go_enter Tryd.func24, Tryd.ntmps24
      go_wp2_with fail
      refine (HW.out _).mono ?_
      rintro e w1 ⟨rfl, hb⟩
      have HB1 := Lib.hid hb
      clear hb
      go_wp2_with fail
      go_loopw [5] (fun i wr => i = .int .i64 2 ∧ Below w.heap.size w wr) (fun i _ => 64 - (intOf i).toNat)
      case atStart => exact ⟨rfl, HB1.out⟩
      case round =>
        obtain ⟨rfl, hB⟩ := hrel
        have HB0 := Lib.hid hB
        clear hB HB1
        go_wp2_with fail
        refine (HAll.out _).mono ?_
        rintro e w2 ⟨⟨A, c, rfl, hA⟩, hb⟩
        have HB := Lib.hid (HB0.out.trans (hb.mono HB0.out.size))
        clear hA hb HB0
        go_wp2_with fail
        refine (HRuns.out _).mono ?_
        rintro e wA ⟨v, rfl, hown, hb⟩
        obtain ⟨A, c, rfl⟩ := own_slice0 hown
        have HO := Lib.hid hown; have HBA := Lib.hid (HB.out.trans (hb.mono HB.out.size))
        clear hown hb HB hf0 hf1
        go_wp2_with fail
        go_loopw [8, 45] (fun v i wr => ∃ j : Nat, j ≤ (runsOf m).length ∧ i = .int .i64 (j : Int) ∧ Below wA.heap.size wA wr ∧ v = strV (outN m j)) (fun _ i _ => (runsOf m).length - (intOf i).toNat)
        case atStart => exact ⟨0, Nat.zero_le _, rfl, Below.refl _ _, rfl⟩
        case round =>
          obtain ⟨j, hj, rfl, hB, rfl⟩ := hrel
          have HBr := Lib.hid hB
          clear hB
          by_cases hlt : j < (runsOf m).length
          · obtain ⟨⟨a, b⟩, hab⟩ : ∃ r, (runsOf m)[j]? = some r := ⟨_, List.getElem?_eq_getElem hlt⟩
            obtain ⟨g, rfl, hg, c0, c1⟩ := run_cells2 HO.out j (a, b) hab hlt
            have d0 := (HBr.out.cell (p := ⟨g, j * 2, none⟩) hg).trans c0
            have d1 := (HBr.out.cell (p := ⟨g, j * 2 + 1, none⟩) hg).trans c1
            have hle := run_le (List.mem_of_getElem? hab)
            have HON := Lib.hid (out_next hab)
            have hol := out_len m j
            have hgr : g < wr.heap.size := Nat.lt_of_lt_of_le hg HBr.out.size
            dsimp only at d0 d1 hle
            clear c0 c1 hab
            have HDa := Lib.hid (fun W => rdigits_any a W (by omega)); have HDb := Lib.hid (fun W => rdigits_any b W (by omega))
            have la := dgs_len a; have lb := dgs_len b
            have hrun : runL (a, b) = if a < b then dgsN a ++ 45 :: dgsN b else dgsN a := rfl
            have HRun := Lib.hid hrun
            obtain ⟨da, hda⟩ : ∃ d, dgsN a = d := ⟨_, rfl⟩
            obtain ⟨db, hdb⟩ : ∃ d, dgsN b = d := ⟨_, rfl⟩
            rw [hda] at HDa HRun la
            rw [hdb] at HDb HRun lb
            obtain ⟨oj, hoj⟩ : ∃ d, outN m j = d := ⟨_, rfl⟩
            rw [hoj] at HON hol ⊢
            clear hda hdb hoj hrun
            have hsz := HBr.out.size
            by_cases h0 : j = 0
            · subst h0
              rw [if_pos rfl] at HON
              have hoe : oj = [] := List.eq_nil_of_length_eq_zero (by omega)
              subst hoe
              rw [show ((0 : Nat) : Int) = 0 by rfl]
              obtain ⟨p2, e2, k2, r2⟩ := join_str [] da 0 da.length rfl rfl
              have g2 : ¬ (9223372036854775807 < 0 + da.length) := by omega
              have g2' : ¬ (9223372036854775807 < da.length) := by omega
              replace e2 : (⟨#[]⟩ : ByteArray) ++ ⟨da.toArray⟩ = ⟨p2.toArray⟩ := e2
              have HR2 := Lib.hid r2
              clear r2
              unfold strV
              go_wp2_with fail
              have HX := Lib.hid (RunBox.new wr (a : Int) (b : Int))
              have HB1 := Lib.hid (HBr.out.alloc HBr.out.size (.cells #[.int .i64 (a : Int), .int .i64 (b : Int)] 28))
              generalize wr.alloc _ = wq at *
              refine (HDa.out _).mono ?_
              rintro e w2 ⟨rfl, hb⟩
              have HB2 := Lib.hid (HB1.out.trans (hb.mono HB1.out.size)); have HX2 := Lib.hid (HX.out.on hb)
              clear hb HX HB1 d0 d1
              obtain ⟨x0, x1, f0, f1⟩ := HX2.out.cells
              have hx2 := HX2.out.lt
              unfold strV
              by_cases hab : a < b
              · have hd : decide (a < b) = true := by simpa using hab
                obtain ⟨p3, e3, k3, r3⟩ := join_str [45] db 1 db.length rfl rfl
                obtain ⟨p4, e4, k4, r4⟩ := join_str p2 p3 p2.length p3.length rfl rfl
                have g3 : ¬ (9223372036854775807 < 1 + db.length) := by omega
                have g4 : ¬ (9223372036854775807 < p2.length + p3.length) := by omega
                replace e3 : (⟨#[45]⟩ : ByteArray) ++ ⟨db.toArray⟩ = ⟨p3.toArray⟩ := e3
                have HS : Hid (outN m (0 + 1) = p4) := Lib.hid (by
                  rw [HON.out, HRun.out, if_pos hab, r4, r3, HR2.out]; try simp)
                clear hab r3 r4
                go_wp2_with fail
                refine (HDb.out _).mono ?_
                rintro e w3 ⟨rfl, hb⟩
                have HB3 := Lib.hid (HB2.out.trans (hb.mono HB2.out.size)); have HX3 := Lib.hid (HX2.out.on hb)
                clear hb HX2 HB2 x0 x1 f0 f1 hx2
                unfold strV
                go_wp2_with fail
                go_roundw
                case rel => exact ⟨0 + 1, hlt, by rfl, HB3.out, by rw [HS.out]; try rfl⟩
                case measure => simp [intOf]; omega
              · have hd : decide (a < b) = false := by simpa using hab
                have HS : Hid (outN m (0 + 1) = p2) := Lib.hid (by
                  rw [HON.out, HRun.out, if_neg hab, HR2.out]; try simp)
                clear hab
                go_wp2_with fail
                go_roundw
                case rel => exact ⟨0 + 1, hlt, by rfl, HB2.out, by rw [HS.out]; try rfl⟩
                case measure => simp [intOf]; omega
            · have hp : decide ((0 : Int) < (j : Int)) = true := by simp; omega
              have hj0 : 0 < j := by omega
              rw [if_neg h0] at HON
              clear h0
              obtain ⟨p1, e1, k1, r1⟩ := join_str oj [44] oj.length 1 rfl rfl
              have g1 : ¬ (9223372036854775807 < oj.length + 1) := by omega
              replace e1 : (⟨oj.toArray⟩ : ByteArray) ++ ⟨#[44]⟩ = ⟨p1.toArray⟩ := e1
              have HR1 := Lib.hid r1
              clear r1
              obtain ⟨p2, e2, k2, r2⟩ := join_str p1 da p1.length da.length rfl rfl
              have g2 : ¬ (9223372036854775807 < p1.length + da.length) := by omega
              have HR2 := Lib.hid r2
              clear r2
              unfold strV
              go_wp2_with fail
              have HX := Lib.hid (RunBox.new wr (a : Int) (b : Int))
              have HB1 := Lib.hid (HBr.out.alloc HBr.out.size (.cells #[.int .i64 (a : Int), .int .i64 (b : Int)] 28))
              generalize wr.alloc _ = wq at *
              refine (HDa.out _).mono ?_
              rintro e w2 ⟨rfl, hb⟩
              have HB2 := Lib.hid (HB1.out.trans (hb.mono HB1.out.size)); have HX2 := Lib.hid (HX.out.on hb)
              clear hb HX HB1 d0 d1
              obtain ⟨x0, x1, f0, f1⟩ := HX2.out.cells
              have hx2 := HX2.out.lt
              unfold strV
              by_cases hab : a < b
              · have hd : decide (a < b) = true := by simpa using hab
                obtain ⟨p3, e3, k3, r3⟩ := join_str [45] db 1 db.length rfl rfl
                obtain ⟨p4, e4, k4, r4⟩ := join_str p2 p3 p2.length p3.length rfl rfl
                have g3 : ¬ (9223372036854775807 < 1 + db.length) := by omega
                have g4 : ¬ (9223372036854775807 < p2.length + p3.length) := by omega
                replace e3 : (⟨#[45]⟩ : ByteArray) ++ ⟨db.toArray⟩ = ⟨p3.toArray⟩ := e3
                have HS : Hid (outN m (j + 1) = p4) := Lib.hid (by
                  rw [HON.out, HRun.out, if_pos hab, r4, r3, HR2.out, HR1.out]; try simp)
                clear hab r3 r4
                go_wp2_with fail
                refine (HDb.out _).mono ?_
                rintro e w3 ⟨rfl, hb⟩
                have HB3 := Lib.hid (HB2.out.trans (hb.mono HB2.out.size)); have HX3 := Lib.hid (HX2.out.on hb)
                clear hb HX2 HB2 x0 x1 f0 f1 hx2
                unfold strV
                go_wp2_with fail
                go_roundw
                case rel => exact ⟨j + 1, hlt, by go_num, HB3.out, by rw [HS.out]; try rfl⟩
                case measure => simp [intOf]; omega
              · have hd : decide (a < b) = false := by simpa using hab
                have HS : Hid (outN m (j + 1) = p2) := Lib.hid (by
                  rw [HON.out, HRun.out, if_neg hab, HR2.out, HR1.out]; try simp)
                clear hab
                go_wp2_with fail
                go_roundw
                case rel => exact ⟨j + 1, hlt, by go_num, HB2.out, by rw [HS.out]; try rfl⟩
                case measure => simp [intOf]; omega
          · obtain rfl : j = (runsOf m).length := by omega
            unfold strV
            go_wp2_with fail
            go_ret
            exact ⟨by rw [HT.out, ← out_all]; rfl, HBA.out.trans (HBr.out.mono HBA.out.size)⟩
end Go.Proofs.YtmgeefmhnhdmjaaDoor
/- wakes, cut: walked. -/
namespace Go.Proofs.YtmgeefmhnhdmjaaDoor
open Go.RowKit

theorem w_read0 : readL 0 [48, 44, 49, 53, 45, 49, 55, 44, 42, 47, 51, 48] = (1073971201#64, 0, 0) := by decide +kernel
theorem w_text0 : textL 0 1073971201#64 = [48, 44, 49, 53, 45, 49, 55, 44, 51, 48] := by decide +kernel
theorem w_field0 : fieldB 0 1073971201#64 = true := by decide +kernel
theorem w_read4 : readL 4 [102, 114, 105, 45, 55] = (97#64, 0, 0) := by decide +kernel
theorem w_read1 : readL 1 [49, 44, 44, 50] = (0#64, 2, 160) := by decide +kernel
set_option maxRecDepth 100000 in
theorem fwakes_any (w : World) (hL : Laid w) :
    Calls Tryd.prog 10 #[] w fun e w' => e = .returned (.bool true) ∧ Below w.heap.size w w' := by
  have HL := Lib.hid hL
  clear hL
  have H0 := Lib.hid (fun W hW => read_short 0 ⟨#[48, 44, 49, 53, 45, 49, 55, 44, 42, 47, 51, 48]⟩ W hW (by decide) (by decide))
  have H1 := Lib.hid (fun W hW => text_yes 0 1073971201#64 W hW (by decide) w_field0)
  have H2 := Lib.hid (fun W hW => read_short 4 ⟨#[102, 114, 105, 45, 55]⟩ W hW (by decide) (by decide))
  have H3 := Lib.hid (fun W hW => read_short 1 ⟨#[49, 44, 44, 50]⟩ W hW (by decide) (by decide))
  rw [show (⟨#[48, 44, 49, 53, 45, 49, 55, 44, 42, 47, 51, 48]⟩ : ByteArray).data.toList = [48, 44, 49, 53, 45, 49, 55, 44, 42, 47, 51, 48] by rfl, w_read0] at H0
  rw [w_text0] at H1
  rw [show (⟨#[102, 114, 105, 45, 55]⟩ : ByteArray).data.toList = [102, 114, 105, 45, 55] by rfl, w_read4] at H2
  rw [show (⟨#[49, 44, 44, 50]⟩ : ByteArray).data.toList = [49, 44, 44, 50] by rfl, w_read1] at H3
  unfold readV at *
  unfold errT strV at H1
  simp only [show U 1073971201#64 = 1073971201 by rfl, show U 97#64 = 97 by rfl, show U 0#64 = 0 by rfl, show ((0 : Nat) : Int) = 0 by rfl, show ((4 : Nat) : Int) = 4 by rfl, show ((1 : Nat) : Int) = 1 by rfl, show ((2 : Nat) : Int) = 2 by rfl] at H0 H1 H2 H3
  go_enter Tryd.func10, Tryd.ntmps10
  go_wp2_with fail
  refine (H0.out _ HL.out).mono ?_
  rintro e w1 ⟨rfl, hb⟩
  have HB1 := Lib.hid hb; have HL1 := Lib.hid (HL.out.on hb)
  clear hb
  go_wp2_with fail
  refine (H1.out _ HL1.out).mono ?_
  rintro e w2 ⟨rfl, hb⟩
  have HB2 := Lib.hid (HB1.out.trans (hb.mono HB1.out.size)); have HL2 := Lib.hid (HL1.out.on hb)
  clear hb
  go_wp2_with fail
  refine (H2.out _ HL2.out).mono ?_
  rintro e w3 ⟨rfl, hb⟩
  have HB3 := Lib.hid (HB2.out.trans (hb.mono HB2.out.size)); have HL3 := Lib.hid (HL2.out.on hb)
  clear hb
  go_wp2_with fail
  refine (H3.out _ HL3.out).mono ?_
  rintro e w4 ⟨rfl, hb⟩
  have HB4 := Lib.hid (HB3.out.trans (hb.mono HB3.out.size))
  clear hb
  go_wp2_with fail
  go_ret
  exact ⟨rfl, HB4.out⟩
/-- What cut leaves of a text. -/
def cutL (s : List UInt8) : List UInt8 := s.take 260
theorem cut_len260 (s : List UInt8) : (cutL s).length ≤ 260 ∧ (cutL s).length ≤ s.length := by unfold cutL; rw [List.length_take]; omega
theorem lcut_any (s : ByteArray) (w : World) (hs : s.size ≤ maxLen) :
    Calls Tryd.prog 19 #[.string s] w fun e w' => e = .returned (strV (cutL s.data.toList)) ∧ w = w' := by
  unfold maxLen at hs
  have hx : Hid (s.data.toList.take (min (s.size : Int) 260).toNat = cutL s.data.toList) := Lib.hid (by
    unfold cutL
    by_cases h : s.size ≤ 260
    · rw [List.take_of_length_le (by rw [len_list]; omega), List.take_of_length_le (by rw [len_list]; omega)]
    · rw [show (min (s.size : Int) 260).toNat = 260 by omega])
  go_enter Tryd.func19, Tryd.ntmps19
  go_wp2_with fail
  go_ret
  exact ⟨by rw [← hx.out, ← ext_head]; rfl, rfl⟩
end Go.Proofs.YtmgeefmhnhdmjaaDoor
/- From a walk to the row: what every law of this seat shares. -/
namespace Go.Proofs.YtmgeefmhnhdmjaaDoor
open Go.ChangeShapes Go.WideShapes Go.ChangeAt Go.WideMaps Go.WideElems Go.RowKit

theorem own : ownKnob Tryd.prog.godebug = none := by kernel_rfl
theorem laidOut : laidOutB Tryd.prog = true := by kernel_rfl
theorem gTab : Tryd.prog.globalNamed "math/bits.deBruijn64tab" = some 7 := by kernel_rfl
theorem tTab : (Tryd.prog.globals[7]?).map (·.type) = some 146 := by kernel_rfl
theorem cU8 : Tryd.prog.cellsOf 5 = 1 := by kernel_rfl
theorem gEnds : Tryd.prog.globalNamed "curfew/field.ends" = some 0 := by kernel_rfl
theorem tEnds : (Tryd.prog.globals[0]?).map (·.type) = some 61 := by kernel_rfl
theorem gNames : Tryd.prog.globalNamed "curfew/field.names" = some 1 := by kernel_rfl
theorem tNames : (Tryd.prog.globals[1]?).map (·.type) = some 97 := by kernel_rfl
theorem cRun : Tryd.prog.cellsOf 28 = 2 := by kernel_rfl
theorem cInt : Tryd.prog.cellsOf 3 = 1 := by kernel_rfl
theorem cStrs : Tryd.prog.cellsOf 25 = 1 := by kernel_rfl
theorem cStr : Tryd.prog.cellsOf 9 = 1 := by kernel_rfl
theorem g32 : Tryd.prog.globalNamed "math/bits.deBruijn32tab" = some 8 := by kernel_rfl
theorem lt_of_var {W : World} {n : String} {g : Nat} {cs : Array Value} (hg : Tryd.prog.globalNamed n = some g) (hv : W.var? Tryd.prog n = some cs) : g < W.heap.size := by
  unfold World.var? at hv
  rw [hg] at hv
  simp only [Option.bind_some] at hv
  rcases Nat.lt_or_ge g W.heap.size with hl | hl
  · exact hl
  · rw [Array.getElem?_eq_none (by simpa using hl)] at hv; cases hv
/-- What the rows list first. -/
def laidF (r : List (String × DataW Unit)) : List (String × DataW Unit) := ("math/bits.deBruijn32tab", Rows.laid_math_bits_deBruijn32tab) :: ("math/bits.deBruijn64tab", Rows.laid_math_bits_deBruijn64tab) :: ("internal/strconv.uint64pow10", Rows.laid_internal_strconv_uint64pow10) ::
  ("unicode/utf8.acceptRanges", Rows.laid_unicode_utf8_acceptRanges) :: ("curfew/field.ends", Rows.laid_curfew_field_ends) :: ("curfew/field.names", Rows.laid_curfew_field_names) :: r
theorem tab_data : (Rows.laid_math_bits_deBruijn64tab : DataW Unit) = .agg (Lib.deBruijn64tab.map fun n : Nat => .lit (.int .u8 (n : Int))) := by rfl
theorem tab_len : Lib.deBruijn64tab.length = 64 := by decide
theorem ends_data : (Rows.laid_curfew_field_ends : DataW Unit) = .agg ((List.range 5).map fun k => .agg [.lit (.int .i64 (loK k : Nat)), .lit (.int .i64 (hiK k : Nat))]) := by rfl
def nameD (l : List (List UInt8)) : DataW Unit := if l = [] then .nil else .slice (l.map fun s => .lit (.string s)) []
theorem names_data : (Rows.laid_curfew_field_names : DataW Unit) = .agg ((List.range 5).map fun k => nameD (namesK k)) := by rfl
theorem at_drop {cs : List Value} {j k : Nat} {v : Value} (h : (cs.drop j).take (k + 1) = v :: [] ∨ ∃ r, (cs.drop j).take (k + 1) = v :: r) : cs[j]? = some v := by
  obtain ⟨r, hr⟩ : ∃ r, (cs.drop j).take (k + 1) = v :: r := h.elim (fun e => ⟨[], e⟩) id
  have := congrArg (fun l => l[0]?) hr
  simpa using this
theorem lt_of_cell {w : World} {b o : Nat} {v : Value} (h : w.cell? ⟨b, o, none⟩ = some v) : b < w.heap.size := by
  rcases Nat.lt_or_ge b w.heap.size with hl | hl
  · exact hl
  · unfold World.cell? at h; rw [Array.getElem?_eq_none (by simpa using hl)] at h; simp at h
theorem tab_cells {W : World} {fuel : Nat} {cs : List Value} {q : List MemPlace} (h : DataW.trod (fun _ => ()) Tryd.prog W 0 (fun _ => true) false fuel 146 cs = some (.agg (Lib.deBruijn64tab.map fun n : Nat => .lit (.int .u8 (n : Int))), q)) (j : Nat) (hj : j < 64) : cs[j]? = some (.int .u8 ((Lib.deBruijn64tab.getD j 0 : Nat) : Int)) := by
  obtain ⟨xs, m1, rfl, hx1, hlen, hn3, hel⟩ := DataW.trod_array Tryd.underlying146 h
  simp only [Prod.mk.injEq, DataW.agg.injEq] at hx1
  have hx := hx1.1
  have h0 := hel j hj
  rw [cU8, Nat.mul_one] at h0
  have hjx : j < xs.length := by omega
  rw [List.getElem?_eq_getElem hjx] at h0
  obtain ⟨k, e1, e2, _⟩ := DataW.trod_int Tryd.underlying5 h0
  have hq : (Lib.deBruijn64tab.map fun n : Nat => (DataW.lit (.int .u8 (n : Int)) : DataW Unit))[j]? = some (.lit (.int .u8 k)) := by
    rw [hx, List.getElem?_map, List.getElem?_eq_getElem hjx, e2]; rfl
  rw [List.getElem?_map, List.getElem?_eq_getElem (by rw [tab_len]; exact hj)] at hq
  simp only [Option.map_some, Option.some.injEq, DataW.lit.injEq, Lit.int.injEq, true_and] at hq
  rw [at_drop (k := 0) (Or.inl e1), ← hq, List.getD_eq_getElem?_getD, List.getElem?_eq_getElem (by rw [tab_len]; exact hj)]; rfl
theorem ends_cells {W : World} {fuel : Nat} {cs : List Value} {q : List MemPlace} (h : DataW.trod (fun _ => ()) Tryd.prog W 0 (fun _ => true) false fuel 61 cs = some (.agg ((List.range 5).map fun k => .agg [.lit (.int .i64 (loK k : Nat)), .lit (.int .i64 (hiK k : Nat))]), q)) (j : Nat) (hj : j < 5) :
    cs[j * 2]? = some (.int .i64 (loK j : Nat)) ∧ cs[j * 2 + 1]? = some (.int .i64 (hiK j : Nat)) := by
  obtain ⟨xs, m1, rfl, hx1, hlen, hn3, hel⟩ := DataW.trod_array Tryd.underlying61 h
  simp only [Prod.mk.injEq, DataW.agg.injEq] at hx1
  have hx := hx1.1
  have h0 := hel j hj
  rw [cRun] at h0
  have hjx : j < xs.length := by omega
  rw [List.getElem?_eq_getElem hjx] at h0
  obtain ⟨ys, m2, rfl, hy1, hylen, hy3, hyel⟩ := DataW.trod_struct Tryd.underlying28 h0
  have hq : ((List.range 5).map fun k => (DataW.agg [.lit (.int .i64 (loK k : Nat)), .lit (.int .i64 (hiK k : Nat))] : DataW Unit))[j]? = some (.agg (ys.map (·.1))) := by
    rw [hx, List.getElem?_map, List.getElem?_eq_getElem hjx, hy1]; rfl
  rw [List.getElem?_map, List.getElem?_range hj] at hq
  simp only [Option.map_some, Option.some.injEq, DataW.agg.injEq] at hq
  have hlen2 : ys.length = 2 := by have := congrArg List.length hq; simpa using this.symm
  have hf : ∀ i, i < 2 → ∀ f : Field, f.type = 3 → f.offset = i → DataW.trod (fun _ => ()) Tryd.prog W 0 (fun _ => true) false m2 f.type ((((cs.drop (j * 2)).take 2).drop f.offset).take (Tryd.prog.cellsOf f.type)) = ys[i]? → ∃ z, cs[j * 2 + i]? = some (.int .i64 z) ∧ (ys.map (·.1))[i]? = some (.lit (.int .i64 z)) := by
    intro i hi f ht ho h
    rw [ht, ho, cInt] at h
    have hiy : i < ys.length := by omega
    rw [List.getElem?_eq_getElem hiy] at h
    obtain ⟨z, e1, e2, _⟩ := DataW.trod_int Tryd.underlying3 h
    refine ⟨z, ?_, by rw [List.getElem?_map, List.getElem?_eq_getElem hiy, e2]; rfl⟩
    have h1 := at_drop (k := 0) (Or.inl e1)
    rw [List.getElem?_take, if_pos hi, List.getElem?_drop] at h1
    rw [← h1]
  obtain ⟨z0, p0, q0⟩ := hf 0 (by omega) _ rfl rfl (hyel 0 _ rfl)
  obtain ⟨z1, p1, q1⟩ := hf 1 (by omega) _ rfl rfl (hyel 1 _ rfl)
  rw [← hq] at q0 q1
  simp only [List.getElem?_cons_zero, List.getElem?_cons_succ, Option.some.injEq, DataW.lit.injEq, Lit.int.injEq, true_and] at q0 q1
  exact ⟨by rw [q0]; exact p0, by rw [q1]; exact p1⟩
theorem spot_none {w : World} {b off : Nat} {spot : Option Nat} {v : Value} (h : w.cell? (((⟨b, off, spot⟩ : Addr).add 0).add 0) = some v) : spot = none := by
  simpa [Addr.add] using World.cell?_spot h
theorem names_cells {W : World} {fuel : Nat} {cs : List Value} {q : List MemPlace} (h : DataW.trod (fun _ => ()) Tryd.prog W 0 (fun _ => true) false fuel 97 cs = some (.agg ((List.range 5).map fun k => nameD (namesK k)), q)) (j : Nat) (hj : j < 5) :
    ∃ A n c, cs[j]? = some (.slice A n c) ∧ ArrL W A n (namesK j) := by
  obtain ⟨xs, m1, rfl, hx1, hlen, hn3, hel⟩ := DataW.trod_array Tryd.underlying97 h
  simp only [Prod.mk.injEq, DataW.agg.injEq] at hx1
  have hx := hx1.1
  have h0 := hel j hj
  rw [cStrs, Nat.mul_one] at h0
  have hjx : j < xs.length := by omega
  rw [List.getElem?_eq_getElem hjx] at h0
  have hq : ((List.range 5).map fun k => nameD (namesK k))[j]? = some xs[j].1 := by
    rw [hx, List.getElem?_map, List.getElem?_eq_getElem hjx]; rfl
  rw [List.getElem?_map, List.getElem?_range hj] at hq
  simp only [Option.map_some, Option.some.injEq] at hq
  rcases DataW.trod_slice Tryd.underlying25 h0 with ⟨e1, e2⟩ | ⟨a, len, cap, elems, rest, m2, rfl, e1, e2, _, hl, hm, hel2, hi, _, _⟩
  · have hnil : namesK j = [] := by
      rw [e2] at hq
      unfold nameD at hq
      split at hq
      · assumption
      · cases hq
    exact ⟨none, 0, 0, at_drop (k := 0) (Or.inl e1), by rw [hnil]; exact ⟨rfl, fun i x h => by simp at h⟩⟩
  · rw [e2] at hq
    unfold nameD at hq
    split at hq
    · cases hq
    · simp only [DataW.slice.injEq] at hq
      have hq1 := hq.1
      have hll : (namesK j).length = len := by have := congrArg List.length hq1; simp at this; omega
      have hi' : ∀ i, i < len → (W.cells? 0 (a.add i) 1).bind (DataW.trod (fun _ => ()) Tryd.prog W 0 (fun _ => true) false m2 9) = elems[i]? := fun i h => by
        have h2 := hi i h
        rw [cStr, Nat.mul_one] at h2
        exact h2
      clear hi
      refine ⟨some a, len, cap, at_drop (k := 0) (Or.inl e1), hll, fun i x hx => ?_⟩
      have hil := (List.getElem?_eq_some_iff.1 hx).1
      have h2 := hi' i (by omega)
      rw [List.getElem?_eq_getElem (by omega)] at h2
      obtain ⟨cs', hc, ht⟩ := Option.bind_eq_some_iff.1 h2
      obtain ⟨_, hlen2, hat⟩ := World.cells?_some hc
      obtain ⟨s, e3, e4, _⟩ := DataW.trod_string Tryd.underlying9 ht
      subst e3
      have k0 := hat 0 (by omega)
      have hx2 : ((namesK j).map fun s => (DataW.lit (.string s) : DataW Unit))[i]? = some (.lit (.string s.data.toList)) := by
        rw [hq1, List.getElem?_map, List.getElem?_eq_getElem (by omega), e4]; rfl
      rw [List.getElem?_map, hx] at hx2
      simp only [Option.map_some, Option.some.injEq, DataW.lit.injEq, Lit.string.injEq] at hx2
      obtain ⟨b, off, rfl⟩ : ∃ b off, a = ⟨b, off, none⟩ := by
        have h20 := hi' 0 (by omega)
        rw [List.getElem?_eq_getElem (by omega)] at h20
        obtain ⟨cs0, hc0, ht0⟩ := Option.bind_eq_some_iff.1 h20
        obtain ⟨_, hlen0, hat0⟩ := World.cells?_some hc0
        obtain ⟨s0, e30, _, _⟩ := DataW.trod_string Tryd.underlying9 ht0
        subst e30
        have k00 := hat0 0 (by omega)
        obtain ⟨b, off, spot⟩ := a
        have hspot : spot = none := spot_none k00
        subst hspot
        exact ⟨b, off, rfl⟩
      rw [Go.WideShapes.add_plain, Go.WideShapes.add_plain] at k0
      exact ⟨b, off, rfl, lt_of_cell k0, by rw [hx2, ← strV_data]; exact k0⟩
/-- What the condition gives the walks. -/
theorem laid_of {W : World} {r : List (String × DataW Unit)} (hh : (laidF r).all (fun x => x.2.handleName?.isNone) = true) (h : laidMetH Tryd.prog (laidF r) W) (hsh : W.ShapedOpen Tryd.prog) : Laid W := by
  rw [MakeChecks.laidMetH_plain _ _ _ hh] at h
  obtain ⟨ps, ⟨g1, t1, cs1, f1, p1, q1, hg1, ht1, hv1, hd1, ⟨g2, t2, cs2, f2, p2, q2, hg2, ht2, hv2, hd2, ⟨g3, t3, cs3, f3, p3, q3, hg3, ht3, hv3, hd3, ⟨g4, t4, cs4, f4, p4, q4, hg4, ht4, hv4, hd4, ⟨g5, t5, cs5, f5, p5, q5, hg5, ht5, hv5, hd5, ⟨g6, t6, cs6, f6, p6, q6, hg6, ht6, hv6, hd6, _, _⟩, _⟩, _⟩, _⟩, _⟩, _⟩, _, _⟩ := h
  obtain rfl := Option.some.inj (gTab.symm.trans hg2)
  obtain rfl := Option.some.inj (tTab.symm.trans ht2)
  obtain rfl := Option.some.inj (gEnds.symm.trans hg5)
  obtain rfl := Option.some.inj (tEnds.symm.trans ht5)
  obtain rfl := Option.some.inj (gNames.symm.trans hg6)
  obtain rfl := Option.some.inj (tNames.symm.trans ht6)
  rw [tab_data] at hd2
  rw [ends_data] at hd5
  rw [names_data] at hd6
  refine ⟨fun j hj => ?_, fun k hk => ?_, fun k hk => ?_, fun k hk => ?_, ?_, ?_⟩
  · rw [tab_len] at hj
    rw [World.var?_cell hg2 hv2 j, ← Array.getElem?_toList]
    exact tab_cells hd2 j hj
  · rw [World.var?_cell hg5 hv5 (k * 2), ← Array.getElem?_toList]
    exact (ends_cells hd5 k hk).1
  · rw [World.var?_cell hg5 hv5 (k * 2 + 1), ← Array.getElem?_toList]
    exact (ends_cells hd5 k hk).2
  · obtain ⟨A, n, c, hc, ha⟩ := names_cells hd6 k hk
    exact ⟨A, n, c, by rw [World.var?_cell hg6 hv6 k, ← Array.getElem?_toList]; exact hc, ha⟩
  · obtain ⟨m, hm⟩ := cell_of_shapedOpen_int (P := Tryd.prog) (g := 4) (t := 3) (zero := #[.int .i64 0]) hsh (of_decide_eq_true (by kernel_rfl)) (by kernel_rfl) rfl (by kernel_rfl) (by kernel_rfl) Tryd.underlying3
    exact ⟨m, hm⟩
  · obtain rfl := Option.some.inj (g32.symm.trans hg1)
    exact lt_of_var hg1 hv1

/-! behind the walk: nothing that lay has turned -/
theorem below_all {H : Type} {enc : TypeId × Value → H} {P : Program} (hl : laidOutB P = true) {W W' : World} (hb : Below W.heap.size W W') :
    ∀ (ts : List TypeId) (vs : List Value) (ds : List (DataW H)) (ps : List MemPlace), (∀ t ∈ ts, P.readableRec t = true ∧ t < P.types.size) → (∀ x ∈ ps, x.block < W.heap.size) →
      DataW.TrodAll enc P W 0 (fun _ => true) true ts vs ds ps → DataW.TrodAll enc P W' 0 (fun b => decide (b < W.heap.size)) true ts vs ds ps
  | [], [], [], _, _, _, h => h
  | [], _ :: _, _, _, _, _, h => by simp [DataW.TrodAll] at h
  | [], [], _ :: _, _, _, _, h => by simp [DataW.TrodAll] at h
  | t :: ts, vs, ds, ps, ht, hp, h => by
    obtain ⟨v, vs', d, ds', p, q, rfl, rfl, rfl, h1, h2⟩ := trodAll_cons h
    have k1 := hb.trod hl (ht t (by simp)).1 (ht t (by simp)).2 h1 (fun x hx => hp x (by simp [hx]))
    have k2 := below_all hl hb ts vs' ds' q (fun t h => ht t (by simp [h])) (fun x hx => hp x (by simp [hx])) h2
    exact trodAll_cons_mk k1 k2
theorem law_post {H : Type} {enc : TypeId × Value → H} {P : Program} {f : Func} {s : ChangeSpec} {apart : Bool} {W W' : World} {args : Array Value} {ds : List (DataW H)} {before : List MemPlace} {tb : TypeId}
    (hl : laidOutB P = true) (hs : s.fn H ds = { results := [.lit (.bool true)], args := ds }) (hv : s.vars = []) (hr : f.resultTypes = #[tb]) (hb1 : P.underlying tb = some .bool)
    (hall : (f.params.toList.all fun t => P.readableRec t && decide (t < P.types.size)) = true) (hW : DataW.Whole enc P f.params.toList s.vars apart W args.toList ds [] before) (hb : Below W.heap.size W W') :
    s.post enc P f apart true false false W args (.bool true) W' := by
  have ht : ∀ t ∈ f.params.toList, P.readableRec t = true ∧ t < P.types.size := fun t h => by simpa using List.all_eq_true.1 hall t h
  have hlt := hW.lt
  have hW0 := hW
  obtain ⟨p, q, hA, hV, rfl, _, _⟩ := hW0
  rw [hv] at hV
  obtain ⟨_, rfl⟩ := trodVars_none hV
  refine ⟨ds, [], p ++ [], [], p, [], hW, ?_, ?_, ?_, hb.frame _, fun h => by cases h⟩
  · rw [List.append_nil, hs, hr]
    exact trodAll_mk1 (shut_bool hb1 _)
  · rw [List.append_nil, hs]
    exact below_all hl hb _ _ _ _ ht (fun x hx => hlt x (by simp [hx])) hA
  · rw [List.append_nil, hs, hv]
    exact rfl

/-- The wrap that hands over what the row lists, and the world's shape. -/
theorem returns_and_shaped {H : Type} {enc : TypeId × Value → H} {a : Assume} {C : Checked} {os : Os} {f : FuncId} {fn : Func} {s : ChangeSpec} {conds : List PathCond} {apart fresh handsOn again : Bool} {X : World → Array Value → Prop}
    (hX : ∀ (w w' : World) (args : Array Value), w.heap = w'.heap → X w args → X w' args)
    (own : ownKnob C.prog.godebug = none) (started : os.Started) (noInit : C.prog.inits.idxOf? f = none) (hfn : C.prog.funcs[f]? = some fn)
    (witness : ∃ (w : World) (tape : Tape) (i : Input), w.os = os ∧ (w.forCall tape i).Shaped C.prog ∧ i.vars = [] ∧ Input.okWide C.prog (w.forCall tape i) .any w.heap.size f i ∧
      ((s.pre enc C.prog fn conds apart (w.forCall tape i).memory i.args ∧ X (w.forCall tape i).memory i.args) ∧ sizedMet enc C.prog fn (OpenSpec.ofChange s) apart (w.forCall tape i).memory i.args) ∧ a.holds C.prog (lone (Frame.enter C.prog f i.args .normal) [] (w.forCall tape i)))
    (contract : ∀ (W : World) (base : Nat) (args : Array Value) (ds gs : List (DataW H)) (before : List MemPlace),
      (∀ (j : Nat) t v, fn.params[j]? = some t → args[j]? = some v → Value.okWide C.prog W .any base t v) →
      DataW.Whole enc C.prog fn.params.toList s.vars apart W args.toList ds gs before →
      X W args → W.ShapedOpen C.prog →
      Calls C.prog f args W fun e W' => ∃ v, e = .returned v ∧ s.post enc C.prog fn apart fresh handsOn again W args v W') :
    ReturnsInHanded a C os f .any (fun w args => (s.pre enc C.prog fn conds apart w args ∧ X w args) ∧ sizedMet enc C.prog fn (OpenSpec.ofChange s) apart w args) (s.post enc C.prog fn apart fresh handsOn again) := by
  refine returnsInHanded_of_calls own started noInit witness ?_
  intro w tape i _ hsh _ hok hpre _
  obtain ⟨_, _, _, fn', hfn', _, _, _, _, hval⟩ := hok
  have e : fn' = fn := Option.some.inj (hfn'.symm.trans hfn)
  subst e
  obtain ⟨⟨⟨ds, gs, before, hw, _⟩, hx⟩, _⟩ := hpre
  have hw' := DataW.Whole.of_heap (w' := w.forCall tape i) (by rfl) hw
  refine (contract (w.forCall tape i) w.heap.size i.args ds gs before hval hw' (hX _ _ _ (by rfl) hx) hsh).mono fun e W' ⟨v, he, hp⟩ => ?_
  subst he
  exact ChangeSpec.post_blind hp
end Go.Proofs.YtmgeefmhnhdmjaaDoor
/- FieldReads, FieldTexts: walked. -/
namespace Go.Proofs.YtmgeefmhnhdmjaaDoor
open Go.RowKit

/-- A row of strings, where it lies. -/
def ArrS (w : World) (B : Nat) (A : Option Addr) (n : Nat) : Prop :=
  ∀ k, k < n → ∃ (b o : Nat) (s : ByteArray), A = some ⟨b, o, none⟩ ∧ b < B ∧ w.cell? ⟨b, o + k, none⟩ = some (.string s) ∧ s.size ≤ maxLen
theorem ArrS.on {w w' : World} {B n : Nat} {A : Option Addr} (h : ArrS w B A n) (hb : Below B w w') : ArrS w' B A n := fun k hk => by
  obtain ⟨b, o, s, e, hl, hc, hs⟩ := h k hk
  exact ⟨b, o, s, e, hl, (hb.cell (p := ⟨b, o + k, none⟩) hl).trans hc, hs⟩
theorem read_l (k : Nat) (l : List UInt8) (w : World) (hL : Laid w) (hk : k < 5) (hl : l.length ≤ maxLen) :
    Calls Tryd.prog 21 #[.int .i64 (k : Int), strV l] w fun e w' => e = .returned (readV (readL k l)) ∧ Below w.heap.size w w' := by
  have hz := size_l l
  have hd : (⟨l.toArray⟩ : ByteArray).data.toList = l := by simp
  by_cases h : 256 < l.length
  · have := read_long k ⟨l.toArray⟩ w hk (by rw [hz]; exact hl) (by rw [hz]; exact h)
    rwa [hd] at this
  · have := read_short k ⟨l.toArray⟩ w hL hk (by rw [hz]; omega)
    rwa [hd] at this
theorem read_lno (z : Int) (l : List UInt8) (w : World) (h : NoKind z) :
    Calls Tryd.prog 21 #[.int .i64 z, strV l] w fun e w' => e = .returned (readV (0#64, 0, 2)) ∧ Below w.heap.size w w' := read_no z ⟨l.toArray⟩ w h
theorem rread_l (k : Nat) (l : List UInt8) (w : World) (hk : k < 5) (hl : l.length ≤ maxLen) :
    Calls Tryd.prog 22 #[.int .i64 (k : Int), strV l] w fun e w' => e = .returned (readV (readL k l)) ∧ Below w.heap.size w w' := by
  have hz := size_l l
  have hd : (⟨l.toArray⟩ : ByteArray).data.toList = l := by simp
  by_cases h : 256 < l.length
  · have := rread_long k ⟨l.toArray⟩ w (by rw [hz]; exact hl) (by rw [hz]; exact h)
    rwa [hd] at this
  · have := rread_short k ⟨l.toArray⟩ w hk (by rw [hz]; omega)
    rwa [hd] at this
theorem kind_case (z : Int) : NoKind z ∨ ∃ k : Nat, z = k ∧ k < 5 := by
  by_cases h : 0 ≤ z ∧ z < 5
  · exact .inr ⟨z.toNat, by omega, by omega⟩
  · exact .inl (by unfold NoKind; omega)
set_option maxRecDepth 100000 in
set_option maxHeartbeats 2000000 in
theorem reads_walk (z : Int) (A : Option Addr) (n c : Nat) (w : World) (hL : Laid w) (hn : n ≤ maxLen) (hz : ArrS w w.heap.size A n) :
    Calls Tryd.prog 4 #[.int .i64 z, .slice A n c] w fun e w' => e = .returned (.bool true) ∧ Below w.heap.size w w' := by
  unfold maxLen at hn
  have HL := Lib.hid hL; have HC := Lib.hid hz
  have HZ := Lib.hid (kind_case z)
  clear hL hz
  go_enter Tryd.func4, Tryd.ntmps4
  go_wp2_with fail
  refine (fwakes_any w HL.out).mono ?_
  rintro e w2 ⟨rfl, hb⟩
  have HB := Lib.hid hb
  clear hb
  go_wp2_with fail
  go_loopw [17] (fun i wr => ∃ (k : Nat), k ≤ n ∧ i = .int .i64 k ∧ Below w.heap.size w wr) (fun i _ => n - (intOf i).toNat)
  case atStart => exact ⟨0, Nat.zero_le _, rfl, HB.out⟩
  case round =>
    clear HB
    obtain ⟨j, hj, rfl, hb⟩ := hrel
    have HB := Lib.hid hb
    by_cases hgo : j < n ∧ j ≠ 10
    · obtain ⟨hlt, h10⟩ := hgo
      obtain ⟨b, o, s, rfl, hbl, hc, hs⟩ := HC.out.on hb j hlt
      have h10' : ((j : Int) == 10) = false := by simp; omega
      have HLr := Lib.hid (HL.out.on hb)
      have hsz := hb.size
      have HCu := Lib.hid (fun W => lcut_any s W hs)
      have hlen := (cut_len260 s.data.toList).1
      generalize cutL s.data.toList = l at *
      have hlm : l.length ≤ maxLen := by unfold maxLen; omega
      clear hb h10 hs
      rcases HZ.out with hk | ⟨k, rfl, hk⟩
      · have HK := Lib.hid hk
        have HR := Lib.hid (fun W => read_lno z l W HK.out)
        clear hk
        unfold strV readV at *
        simp only [U_zero] at HR
        go_wp2_with fail
        refine (HCu.out _).mono ?_
        rintro e w3 ⟨rfl, rfl⟩
        go_wp2_with fail
        refine (HR.out _).mono ?_
        rintro e w3 ⟨rfl, hb⟩
        have HB2 := Lib.hid (HB.out.trans (hb.mono HB.out.size))
        clear hb
        go_wp2_with fail
        refine (rkind_no z _ HK.out).mono ?_
        rintro e w4 ⟨rfl, rfl⟩
        go_wp2_with fail
        go_roundw
        case rel => exact ⟨j + 1, hlt, by go_num, HB2.out⟩
        case measure => simp [intOf]; omega
      · have HR := Lib.hid (fun W hW => read_l k l W hW hk hlm)
        have HRR := Lib.hid (fun W => rread_l k l W hk hlm)
        unfold strV readV at *
        generalize readL k l = r at *
        obtain ⟨r0, r1, r2⟩ := r
        dsimp only at HR HRR
        go_wp2_with fail
        refine (HCu.out _).mono ?_
        rintro e w3 ⟨rfl, rfl⟩
        go_wp2_with fail
        refine (HR.out _ HLr.out).mono ?_
        rintro e w3 ⟨rfl, hb⟩
        have HB2 := Lib.hid (HB.out.trans (hb.mono HB.out.size))
        have c2 := (hb.cell (p := ⟨b, o + j, none⟩) (by show b < wr.heap.size; omega)).trans hc
        clear hb hc
        go_wp2_with fail
        refine (rkind_yes k _ hk).mono ?_
        rintro e w4 ⟨rfl, rfl⟩
        go_wp2_with fail
        refine (HCu.out _).mono ?_
        rintro e w4 ⟨rfl, rfl⟩
        go_wp2_with fail
        refine (HRR.out _).mono ?_
        rintro e w4 ⟨rfl, hb⟩
        have HB3 := Lib.hid (HB2.out.trans (hb.mono HB2.out.size))
        clear hb
        go_wp2_with fail
        go_roundw
        case rel => exact ⟨j + 1, hlt, by go_num, HB3.out⟩
        case measure => simp [intOf]; omega
    · by_cases hlt : j < n
      · obtain rfl : j = 10 := by omega
        obtain ⟨b, o, s, rfl, hbl, hc, hs⟩ := HC.out.on hb 10 hlt
        have hsz := hb.size
        clear hgo hb
        rw [show ((10 : Nat) : Int) = 10 by rfl]
        go_wp2_with fail
        go_ret
        exact ⟨rfl, HB.out⟩
      · obtain rfl : j = n := by omega
        clear hgo hb
        go_wp2_with fail
        go_ret
        exact ⟨rfl, HB.out⟩
end Go.Proofs.YtmgeefmhnhdmjaaDoor
/- FieldTexts: walked. -/
namespace Go.Proofs.YtmgeefmhnhdmjaaDoor
open Go.RowKit

/-- A row of masks, where it lies. -/
def ArrK (w : World) (B : Nat) (A : Option Addr) (n : Nat) : Prop :=
  ∀ k, k < n → ∃ (b o : Nat) (m : BitVec 64), A = some ⟨b, o, none⟩ ∧ b < B ∧ w.cell? ⟨b, o + k, none⟩ = some (.int .u64 (U m))
theorem ArrK.on {w w' : World} {B n : Nat} {A : Option Addr} (h : ArrK w B A n) (hb : Below B w w') : ArrK w' B A n := fun k hk => by
  obtain ⟨b, o, s, e, hl, hc⟩ := h k hk
  exact ⟨b, o, s, e, hl, (hb.cell (p := ⟨b, o + k, none⟩) hl).trans hc⟩
set_option maxRecDepth 100000 in
set_option maxHeartbeats 2000000 in
theorem texts_walk (z : Int) (A : Option Addr) (n c : Nat) (w : World) (hL : Laid w) (hn : n ≤ maxLen) (hz : ArrK w w.heap.size A n) :
    Calls Tryd.prog 5 #[.int .i64 z, .slice A n c] w fun e w' => e = .returned (.bool true) ∧ Below w.heap.size w w' := by
  unfold maxLen at hn
  have HL := Lib.hid hL; have HC := Lib.hid hz
  have HZ := Lib.hid (kind_case z)
  clear hL hz
  go_enter Tryd.func5, Tryd.ntmps5
  go_wp2_with fail
  refine (fwakes_any w HL.out).mono ?_
  rintro e w2 ⟨rfl, hb⟩
  have HB := Lib.hid hb
  clear hb
  go_wp2_with fail
  go_loopw [15] (fun i wr => ∃ (k : Nat), k ≤ n ∧ i = .int .i64 k ∧ Below w.heap.size w wr) (fun i _ => n - (intOf i).toNat)
  case atStart => exact ⟨0, Nat.zero_le _, rfl, HB.out⟩
  case round =>
    clear HB
    obtain ⟨j, hj, rfl, hb⟩ := hrel
    have HB := Lib.hid hb
    by_cases hgo : j < n ∧ j ≠ 12
    · obtain ⟨hlt, h10⟩ := hgo
      obtain ⟨b, o, m, rfl, hbl, hc⟩ := HC.out.on hb j hlt
      have h10' : ((j : Int) == 12) = false := by simp; omega
      have HLr := Lib.hid (HL.out.on hb)
      have hsz := hb.size
      clear hb h10
      rcases HZ.out with hk | ⟨k, rfl, hk⟩
      · have HK := Lib.hid hk
        have HT := Lib.hid (fun W => text_no z m W HK.out)
        clear hk
        unfold errT strV at HT
        go_wp2_with fail
        refine (HT.out _).mono ?_
        rintro e w3 ⟨rfl, hb⟩
        have HB2 := Lib.hid (HB.out.trans (hb.mono HB.out.size))
        clear hb
        go_wp2_with fail
        refine (rkind_no z _ HK.out).mono ?_
        rintro e w4 ⟨rfl, rfl⟩
        go_wp2_with fail
        go_roundw
        case rel => exact ⟨j + 1, hlt, by go_num, HB2.out⟩
        case measure => simp [intOf]; omega
      · have HRi := Lib.hid (fun W => rright_any k m W hk)
        cases hf : fieldB k m with
        | false =>
          have HT := Lib.hid (fun W hW => text_bad k m W hW hk hf)
          rw [hf] at HRi
          clear hf
          unfold errT strV at HT
          go_wp2_with fail
          refine (HT.out _ HLr.out).mono ?_
          rintro e w3 ⟨rfl, hb⟩
          have HB2 := Lib.hid (HB.out.trans (hb.mono HB.out.size))
          clear hb
          go_wp2_with fail
          refine (rkind_yes k _ hk).mono ?_
          rintro e w4 ⟨rfl, rfl⟩
          go_wp2_with fail
          refine (HRi.out _).mono ?_
          rintro e w4 ⟨rfl, hb⟩
          have HB3 := Lib.hid (HB2.out.trans (hb.mono HB2.out.size))
          clear hb
          go_wp2_with fail
          go_roundw
          case rel => exact ⟨j + 1, hlt, by go_num, HB3.out⟩
          case measure => simp [intOf]; omega
        | true =>
          have HT := Lib.hid (fun W hW => text_yes k m W hW hk hf)
          have HRT := Lib.hid (fun W => rtext_any k m W hk)
          rw [hf] at HRi
          clear hf
          unfold errT strV at *
          generalize textL k m = tx at *
          go_wp2_with fail
          refine (HT.out _ HLr.out).mono ?_
          rintro e w3 ⟨rfl, hb⟩
          have HB2 := Lib.hid (HB.out.trans (hb.mono HB.out.size))
          clear hb
          go_wp2_with fail
          refine (rkind_yes k _ hk).mono ?_
          rintro e w4 ⟨rfl, rfl⟩
          go_wp2_with fail
          refine (HRi.out _).mono ?_
          rintro e w4 ⟨rfl, hb⟩
          have HB3 := Lib.hid (HB2.out.trans (hb.mono HB2.out.size))
          clear hb
          go_wp2_with fail
          refine (HRT.out _).mono ?_
          rintro e w5 ⟨rfl, hb⟩
          have HB4 := Lib.hid (HB3.out.trans (hb.mono HB3.out.size))
          clear hb
          go_wp2_with fail
          go_roundw
          case rel => exact ⟨j + 1, hlt, by go_num, HB4.out⟩
          case measure => simp [intOf]; omega
    · by_cases hlt : j < n
      · obtain rfl : j = 12 := by omega
        obtain ⟨b, o, m, rfl, hbl, hc⟩ := HC.out.on hb 12 hlt
        have hsz := hb.size
        clear hgo hb
        rw [show ((12 : Nat) : Int) = 12 by rfl]
        go_wp2_with fail
        go_ret
        exact ⟨rfl, HB.out⟩
      · obtain rfl : j = n := by omega
        clear hgo hb
        go_wp2_with fail
        go_ret
        exact ⟨rfl, HB.out⟩
end Go.Proofs.YtmgeefmhnhdmjaaDoor
/- FieldTells: walked. -/
namespace Go.Proofs.YtmgeefmhnhdmjaaDoor
open Go.RowKit

/-- A row of numbers, where it lies. -/
def ArrJ (w : World) (B : Nat) (A : Option Addr) (n : Nat) : Prop :=
  ∀ k, k < n → ∃ (b o : Nat) (z : Int), A = some ⟨b, o, none⟩ ∧ b < B ∧ w.cell? ⟨b, o + k, none⟩ = some (.int .i64 z)
theorem ArrJ.on {w w' : World} {B n : Nat} {A : Option Addr} (h : ArrJ w B A n) (hb : Below B w w') : ArrJ w' B A n := fun k hk => by
  obtain ⟨b, o, s, e, hl, hc⟩ := h k hk
  exact ⟨b, o, s, e, hl, (hb.cell (p := ⟨b, o + k, none⟩) hl).trans hc⟩
theorem value_s (k : Nat) (l : List UInt8) (w : World) (hL : Laid w) (hk : k < 5) (hl : l.length ≤ 260) :
    Calls Tryd.prog 18 #[.int .i64 (k : Int), strV l] w fun e w' => e = .returned (some2 (valueL k l)) ∧ Below w.heap.size w w' := by
  have h := value_yes k ⟨l.toArray⟩ w hL hk (by unfold maxLen; rw [size_l]; omega)
  simpa [strV] using h
theorem value_sno (z : Int) (l : List UInt8) (w : World) (h : NoKind z) :
    Calls Tryd.prog 18 #[.int .i64 z, strV l] w fun e w' => e = .returned (some2 none) ∧ Below w.heap.size w w' := value_no z ⟨l.toArray⟩ w h
set_option maxRecDepth 100000 in
set_option maxHeartbeats 8000000 in
theorem tells_walk (A : Option Addr) (n c : Nat) (m : BitVec 64) (A' : Option Addr) (n' c' : Nat) (w : World) (hL : Laid w) (hn : n ≤ maxLen) (hn' : n' ≤ maxLen) (hz : ArrJ w w.heap.size A n) (hz' : ArrS w w.heap.size A' n') :
    Calls Tryd.prog 3 #[.slice A n c, .int .u64 (U m), .slice A' n' c'] w fun e w' => e = .returned (.bool true) ∧ Below w.heap.size w w' := by
  unfold maxLen at hn hn'
  have HL := Lib.hid hL; have HC := Lib.hid hz; have HCt := Lib.hid hz'
  clear hL hz hz'
  go_enter Tryd.func3, Tryd.ntmps3
  go_wp2_with fail
  refine (fwakes_any w HL.out).mono ?_
  rintro e w2 ⟨rfl, hb⟩
  have HB := Lib.hid hb
  clear hb
  go_wp2_with fail
  go_loopw [22] (fun i wr => ∃ (j : Nat), j ≤ n ∧ i = .int .i64 j ∧ Below w.heap.size w wr) (fun i _ => n - (intOf i).toNat)
  case atStart => exact ⟨0, Nat.zero_le _, rfl, HB.out⟩
  case round =>
    clear HB
    obtain ⟨j, hj, rfl, hb⟩ := hrel
    have HB := Lib.hid hb
    by_cases hgo : j < n ∧ j ≠ 8
    · obtain ⟨hlt, h10⟩ := hgo
      obtain ⟨b, o, z, rfl, hbl, hc⟩ := HC.out.on hb j hlt
      have h10' : ((j : Int) == 8) = false := by simp; omega
      have HLr := Lib.hid (HL.out.on hb)
      have hsz := hb.size
      clear hb h10 HC
      rcases kind_case z with hk | ⟨k, rfl, hk⟩
      · have HK := Lib.hid hk
        clear hk
        go_wp2_with fail
        refine (ends_no z wr HK.out).mono ?_
        rintro e w3 ⟨rfl, hb⟩
        have HB0 := Lib.hid (HB.out.trans (hb.mono HB.out.size))
        have HB := Lib.hid (HB0.out.alloc HB0.out.size (.cells #[.int .i64 0, .int .i64 0] 28))
        have HX := Lib.hid (RunBox.new w3 0 0)
        clear hb HB0 hc
        unfold runV
        go_wp2_with fail
        generalize w3.alloc _ = w4 at *
        generalize w3.heap.size = g at *
        refine (rkind_no z _ HK.out).mono ?_
        rintro e w5 ⟨rfl, rfl⟩
        obtain ⟨c0, c1, f0, f1⟩ := HX.out.cells
        have hgr := HX.out.lt
        go_wp2_with fail
        refine (whole_no z _ HK.out).mono ?_
        rintro e w5 ⟨rfl, hb⟩
        have HB := Lib.hid (HB.out.trans (hb.mono HB.out.size))
        clear hb c0 c1 f0 f1 hgr HX
        go_wp2_with fail
        refine (check_no z m _ HK.out).mono ?_
        rintro e w6 ⟨rfl, hb⟩
        have HB := Lib.hid (HB.out.trans (hb.mono HB.out.size))
        clear hb
        go_wp2_with fail
        go_loopw [91] (fun i wr => ∃ (q : Nat), q ≤ n' ∧ i = .int .i64 q ∧ Below w.heap.size w wr) (fun i _ => n' - (intOf i).toNat)
        case atStart => exact ⟨0, Nat.zero_le _, rfl, HB.out⟩
        case round =>
          clear HB
          obtain ⟨q, hq, rfl, hb⟩ := hrel
          have HB := Lib.hid hb
          by_cases hgo2 : q < n' ∧ q ≠ 12
          · obtain ⟨hlt2, h12⟩ := hgo2
            obtain ⟨b2, o2, s, rfl, hbl2, hc2, hs⟩ := HCt.out.on hb q hlt2
            have h12' : ((q : Int) == 12) = false := by simp; omega
            have hsz2 := hb.size
            have HLq := Lib.hid (HL.out.on hb)
            have HCu := Lib.hid (fun W => lcut_any s W hs)
            have hlen := (cut_len260 s.data.toList).1
            generalize cutL s.data.toList = l at *
            clear hb h12 hs
            have HV := Lib.hid (fun W => value_sno z l W HK.out)
            unfold strV at *
            simp only [some2, Option.getD_none, Option.isSome_none] at HV
            go_wp2_with fail
            refine (HCu.out _).mono ?_
            rintro e w5 ⟨rfl, rfl⟩
            go_wp2_with fail
            refine (HV.out _).mono ?_
            rintro e w6 ⟨rfl, hb⟩
            have HB := Lib.hid (HB.out.trans (hb.mono HB.out.size))
            clear hb
            go_wp2_with fail
            refine (rkind_no z _ HK.out).mono ?_
            rintro e w7 ⟨rfl, rfl⟩
            go_wp2_with fail
            go_roundw
            case rel => exact ⟨q + 1, hlt2, by go_num, HB.out⟩
            case measure => simp [intOf]; omega
          · by_cases hlt2 : q < n'
            · obtain rfl : q = 12 := by omega
              obtain ⟨b2, o2, s, rfl, hbl2, hc2, hs⟩ := HCt.out.on hb 12 hlt2
              have hsz2 := hb.size
              clear hgo2 hb
              rw [show ((12 : Nat) : Int) = 12 by rfl]
              go_wp2_with fail
              go_roundw
              case rel => exact ⟨j + 1, hlt, by go_num, HB.out⟩
              case measure => simp [intOf]; omega
            · obtain rfl : q = n' := by omega
              clear hgo2 hb
              go_wp2_with fail
              go_roundw
              case rel => exact ⟨j + 1, hlt, by go_num, HB.out⟩
              case measure => simp [intOf]; omega
      · have HE := Lib.hid (fun W hW => ends_yes k W hW hk)
        have HCh := Lib.hid (fun W hW => check_yes k m W hW hk)
        have HRE := Lib.hid (fun W => rends_any k W hk)
        have HW := Lib.hid (fun W hW => whole_yes k W hW hk)
        have HRW := Lib.hid (fun W => rwhole_any k W hk)
        have HRi := Lib.hid (fun W => rright_any k m W hk)
        unfold runV at HE HRE
        generalize ((loK k : Nat) : Int) = a at *
        generalize ((hiK k : Nat) : Int) = z at *
        generalize wholeM k = wm at *
        go_wp2_with fail
        refine (HE.out wr HLr.out).mono ?_
        rintro e w3 ⟨rfl, hb⟩
        have HB0 := Lib.hid (HB.out.trans (hb.mono HB.out.size))
        have HL0 := Lib.hid (HLr.out.on hb)
        have HB := Lib.hid (HB0.out.alloc HB0.out.size (.cells #[.int .i64 a, .int .i64 z] 28))
        have HL4 := Lib.hid (HL0.out.on ((Below.refl _ _).alloc (Nat.le_refl _) (.cells #[.int .i64 a, .int .i64 z] 28)))
        have HX := Lib.hid (RunBox.new w3 a z)
        clear hb HB0 hc HE HL0
        go_wp2_with fail
        generalize w3.alloc _ = w4 at *
        generalize w3.heap.size = g at *
        refine (rkind_yes k _ hk).mono ?_
        rintro e w5 ⟨rfl, rfl⟩
        go_wp2_with fail
        refine (HCh.out _ HL4.out).mono ?_
        rintro e w5 ⟨rfl, hb⟩
        have HB := Lib.hid (HB.out.trans (hb.mono HB.out.size)); have HX5 := Lib.hid (HX.out.on hb); have HL5 := Lib.hid (HL4.out.on hb)
        have hgr := HX5.out.lt
        have hBE := Below.refl w5.heap.size w5
        have HKK : Hid (∀ w', Below w5.heap.size w5 w' → w'.cell? ⟨g, 0, none⟩ = some (.int .i64 a) ∧ w'.cell? ⟨g, 1, none⟩ = some (.int .i64 z)) := Lib.hid (fun w' hb => ⟨(HX5.out.on hb).cells.1, (HX5.out.on hb).cells.2.1⟩)
        clear hb HX HL4 HCh
        cases hf : fieldB k m with
        | false =>
          rw [hf] at HRi
          clear hf
          rw [if_neg (by decide)]
          go_wp2_with fail
          go_region_held3 (fun w' => w'.cell? ⟨g, 0, none⟩ = some (.int .i64 a) ∧ w'.cell? ⟨g, 1, none⟩ = some (.int .i64 z)) (first | exact HKK.out _ hBE | exact HKK.out _ hBE.drew) (first
            | (go_at_call 15; (with_reducible refine (HRE.out _).mono ?_); rintro e wa ⟨rfl, hb⟩; first | (replace hBE := hBE.drew.trans (hb.mono hBE.size); clear hb) | (replace hBE := hBE.trans (hb.mono hBE.size); clear hb))
            | (go_at_call 13; (first | (with_reducible refine (HW.out _ (HL5.out.on hBE)).mono ?_) | (with_reducible refine (HW.out _ (HL5.out.on hBE.drew)).mono ?_)); rintro e wa ⟨rfl, hb⟩; first | (replace hBE := hBE.drew.trans (hb.mono hBE.size); clear hb) | (replace hBE := hBE.trans (hb.mono hBE.size); clear hb))
            | (go_at_call 16; (with_reducible refine (HRW.out _).mono ?_); rintro e wa ⟨rfl, hb⟩; first | (replace hBE := hBE.drew.trans (hb.mono hBE.size); clear hb) | (replace hBE := hBE.trans (hb.mono hBE.size); clear hb))
            | (go_at_call 17; (with_reducible refine (HRi.out _).mono ?_); rintro e wa ⟨rfl, hb⟩; first | (replace hBE := hBE.drew.trans (hb.mono hBE.size); clear hb) | (replace hBE := hBE.trans (hb.mono hBE.size); clear hb)))
          rename_i hHeld
          have HB := Lib.hid (HB.out.trans (hBE.mono HB.out.size))
          clear hHeld hBE HX5 HKK
          go_wp2_with fail
          go_loopw [91] (fun i wr => ∃ (q : Nat), q ≤ n' ∧ i = .int .i64 q ∧ Below w.heap.size w wr) (fun i _ => n' - (intOf i).toNat)
          case atStart => exact ⟨0, Nat.zero_le _, rfl, HB.out⟩
          case round =>
            clear HB
            obtain ⟨q, hq, rfl, hb⟩ := hrel
            have HB := Lib.hid hb
            by_cases hgo2 : q < n' ∧ q ≠ 12
            · obtain ⟨hlt2, h12⟩ := hgo2
              obtain ⟨b2, o2, s, rfl, hbl2, hc2, hs⟩ := HCt.out.on hb q hlt2
              have h12' : ((q : Int) == 12) = false := by simp; omega
              have hsz2 := hb.size
              have HLq := Lib.hid (HL.out.on hb)
              have HCu := Lib.hid (fun W => lcut_any s W hs)
              have hlen := (cut_len260 s.data.toList).1
              generalize cutL s.data.toList = l at *
              clear hb h12 hs
              have HV := Lib.hid (fun W hW => value_s k l W hW hk hlen)
              have HRV := Lib.hid (fun W => rvalue_l k l W hk (by omega))
              generalize valueL k l = v at *
              unfold strV some2 at *
              go_wp2_with fail
              refine (HCu.out _).mono ?_
              rintro e w5 ⟨rfl, rfl⟩
              go_wp2_with fail
              refine (HV.out _ HLq.out).mono ?_
              rintro e w6 ⟨rfl, hb⟩
              have hc3 := (hb.cell (p := ⟨b2, o2 + q, none⟩) (by show b2 < wr.heap.size; omega)).trans hc2
              have HB := Lib.hid (HB.out.trans (hb.mono HB.out.size))
              clear hb hc2
              go_wp2_with fail
              refine (rkind_yes k _ hk).mono ?_
              rintro e w7 ⟨rfl, rfl⟩
              go_wp2_with fail
              refine (HCu.out _).mono ?_
              rintro e w7 ⟨rfl, rfl⟩
              go_wp2_with fail
              refine (HRV.out _).mono ?_
              rintro e w8 ⟨rfl, hb⟩
              have HB := Lib.hid (HB.out.trans (hb.mono HB.out.size))
              clear hb
              go_wp2_with fail
              go_roundw
              case rel => exact ⟨q + 1, hlt2, by go_num, HB.out⟩
              case measure => simp [intOf]; omega
            · by_cases hlt2 : q < n'
              · obtain rfl : q = 12 := by omega
                obtain ⟨b2, o2, s, rfl, hbl2, hc2, hs⟩ := HCt.out.on hb 12 hlt2
                have hsz2 := hb.size
                clear hgo2 hb
                rw [show ((12 : Nat) : Int) = 12 by rfl]
                go_wp2_with fail
                go_roundw
                case rel => exact ⟨j + 1, hlt, by go_num, HB.out⟩
                case measure => simp [intOf]; omega
              · obtain rfl : q = n' := by omega
                clear hgo2 hb
                go_wp2_with fail
                go_roundw
                case rel => exact ⟨j + 1, hlt, by go_num, HB.out⟩
                case measure => simp [intOf]; omega
        | true =>
          rw [hf] at HRi
          clear hf
          rw [if_pos rfl]
          go_wp2_with fail
          have HK := HKK
          refine wp_region_held_drew (S := (fun w' => w'.cell? ⟨g, 0, none⟩ = some (.int .i64 a) ∧ w'.cell? ⟨g, 1, none⟩ = some (.int .i64 z))) (by kernel_rfl) (HK.out _ hBE.drew) (fun hHeld => ?_)
          replace hBE := hBE.drew
          refine wpAnyH_take (i := 0) (oi := { dst := some 58, op := Op.move (Operand.tmp 10), type := 29, pos := "law.go:36", after := #[], guard := none }) (v := ?v0) rfl (by kernel_rfl) (by kernel_rfl) (by kernel_rfl) (fun _ _ _ h => h) (Or.inl ⟨by rfl, ?h0⟩) (by assumption) ?r0
          case h0 => (intro w hSw; (try dsimp only at hSw); go_simp; (try with_reducible rfl))
          try simp only [Act.put, List.setIfInBounds_toArray, List.set_cons_zero, List.set_cons_succ]
          refine wpAnyH_take (i := 1) (oi := { dst := some 59, op := Op.binOp BinOp.neq 29 (Operand.tmp 58) (Operand.const (Value.int IntKind.i64 0)) 29, type := 4, pos := "law.go:36", after := #[{ on := 0, ground := Ground.data }], guard := none }) (v := ?v1) rfl (by kernel_rfl) (by kernel_rfl) (by kernel_rfl) (fun _ _ _ h => h) (Or.inl ⟨by rfl, ?h1⟩) (by assumption) ?r1
          case h1 => (intro w hSw; (try dsimp only at hSw); go_simp; (try with_reducible rfl))
          try simp only [Act.put, List.setIfInBounds_toArray, List.set_cons_zero, List.set_cons_succ]
          refine wpAnyH_take (i := 2) (oi := { dst := some 60, op := Op.move (Operand.tmp 59), type := 4, pos := "law.go:36", after := #[{ on := 1, ground := Ground.data }], guard := none }) (v := ?v2) rfl (by kernel_rfl) (by kernel_rfl) (by kernel_rfl) (fun _ _ _ h => h) (Or.inl ⟨by rfl, ?h2⟩) (by assumption) ?r2
          case h2 => (intro w hSw; (try dsimp only at hSw); go_simp; (try with_reducible rfl))
          try simp only [Act.put, List.setIfInBounds_toArray, List.set_cons_zero, List.set_cons_succ]
          refine wpAnyH_take (i := 3) (oi := { dst := some 61, op := Op.load 28 (Operand.tmp 9), type := 28, pos := "law.go:36", after := #[{ on := 2, ground := Ground.guard }], guard := some (2, false) }) (v := ?v3) rfl (by kernel_rfl) (by kernel_rfl) (by kernel_rfl) (fun _ _ _ h => h) (Or.inl ⟨by rfl, ?h3⟩) (by assumption) ?r3
          case h3 => (intro w hSw; (try dsimp only at hSw); go_simp; (try with_reducible rfl))
          try simp only [Act.put, List.setIfInBounds_toArray, List.set_cons_zero, List.set_cons_succ]
          refine wpAnyH_take (i := 4) (oi := { dst := some 62, op := Op.move (Operand.tmp 8), type := 3, pos := "law.go:36", after := #[{ on := 2, ground := Ground.guard }], guard := some (2, false) }) (v := ?v4) rfl (by kernel_rfl) (by kernel_rfl) (by kernel_rfl) (fun _ _ _ h => h) (Or.inl ⟨by rfl, ?h4⟩) (by assumption) ?r4
          case h4 => (intro w hSw; (try dsimp only at hSw); go_simp; (try with_reducible rfl))
          try simp only [Act.put, List.setIfInBounds_toArray, List.set_cons_zero, List.set_cons_succ]
          refine wpAnyH_ready (rs := [5]) (by kernel_rfl) (by simp) (AllReadyH.cons (o := { dst := some 63, op := Op.call { callee := Callee.value (Operand.func 15), args := #[Operand.tmp 62], argTypes := #[3] }, type := 28, pos := "law.go:36", after := #[{ on := 4, ground := Ground.data }, { on := 2, ground := Ground.chain }, { on := 2, ground := Ground.guard }], guard := some (2, false) }) rfl (fun K hK => ?_) AllReadyH.nil)
          go_simp
          go_at_call 15; (with_reducible refine (HRE.out _).mono ?_)
          rintro e wa ⟨rfl, hb⟩
          replace hBE := hBE.trans (hb.mono hBE.size)
          clear hb
          refine hK.out _ _ (HK.out _ hBE) (fun hHeld2 => ?_)
          clear hK K hHeld
          have hHeld := hHeld2
          clear hHeld2
          try simp only [Act.put, List.setIfInBounds_toArray, List.set_cons_zero, List.set_cons_succ]
          refine wpAnyH_take (i := 6) (oi := { dst := some 64, op := Op.binOp BinOp.neq 28 (Operand.tmp 61) (Operand.tmp 63) 28, type := 4, pos := "law.go:36", after := #[{ on := 3, ground := Ground.data }, { on := 5, ground := Ground.data }, { on := 2, ground := Ground.guard }], guard := some (2, false) }) (v := ?v6) rfl (by kernel_rfl) (by kernel_rfl) (by kernel_rfl) (fun _ _ _ h => h) (Or.inl ⟨by rfl, ?h6⟩) (by assumption) ?r6
          case h6 => (intro w hSw; (try dsimp only at hSw); go_simp; (try with_reducible rfl))
          try simp only [Act.put, List.setIfInBounds_toArray, List.set_cons_zero, List.set_cons_succ]
          refine wpAnyH_take (i := 7) (oi := { dst := some 65, op := Op.pick (Operand.tmp 60) (Operand.const (Value.bool true)) (Operand.tmp 64), type := 4, pos := "law.go:36", after := #[{ on := 2, ground := Ground.data }, { on := 6, ground := Ground.data }], guard := none }) (v := ?v7) rfl (by kernel_rfl) (by kernel_rfl) (by kernel_rfl) (fun _ _ _ h => h) (Or.inl ⟨by rfl, ?h7⟩) (by assumption) ?r7
          case h7 => (intro w hSw; (try dsimp only at hSw); go_simp; (try with_reducible rfl))
          try simp only [Act.put, List.setIfInBounds_toArray, List.set_cons_zero, List.set_cons_succ]
          refine wpAnyH_take (i := 8) (oi := { dst := some 66, op := Op.move (Operand.tmp 65), type := 4, pos := "law.go:36", after := #[{ on := 7, ground := Ground.data }, { on := 5, ground := Ground.chain }], guard := none }) (v := ?v8) rfl (by kernel_rfl) (by kernel_rfl) (by kernel_rfl) (fun _ _ _ h => h) (Or.inl ⟨by rfl, ?h8⟩) (by assumption) ?r8
          case h8 => (intro w hSw; (try dsimp only at hSw); go_simp; (try with_reducible rfl))
          try simp only [Act.put, List.setIfInBounds_toArray, List.set_cons_zero, List.set_cons_succ]
          refine wpAnyH_take (i := 9) (oi := { dst := some 67, op := Op.move (Operand.tmp 8), type := 3, pos := "law.go:36", after := #[{ on := 8, ground := Ground.guard }], guard := some (8, false) }) (v := ?v9) rfl (by kernel_rfl) (by kernel_rfl) (by kernel_rfl) (fun _ _ _ h => h) (Or.inl ⟨by rfl, ?h9⟩) (by assumption) ?r9
          case h9 => (intro w hSw; (try dsimp only at hSw); go_simp; (try with_reducible rfl))
          try simp only [Act.put, List.setIfInBounds_toArray, List.set_cons_zero, List.set_cons_succ]
          refine wpAnyH_take (i := 11) (oi := { dst := some 69, op := Op.move (Operand.tmp 8), type := 3, pos := "law.go:36", after := #[{ on := 8, ground := Ground.guard }], guard := some (8, false) }) (v := ?v10) rfl (by kernel_rfl) (by kernel_rfl) (by kernel_rfl) (fun _ _ _ h => h) (Or.inl ⟨by rfl, ?h10⟩) (by assumption) ?r10
          case h10 => (intro w hSw; (try dsimp only at hSw); go_simp; (try with_reducible rfl))
          try simp only [Act.put, List.setIfInBounds_toArray, List.set_cons_zero, List.set_cons_succ]
          refine wpAnyH_ready (rs := [10]) (by kernel_rfl) (by simp) (AllReadyH.cons (o := { dst := some 68, op := Op.call { callee := Callee.value (Operand.func 13), args := #[Operand.tmp 67], argTypes := #[3] }, type := 24, pos := "law.go:36", after := #[{ on := 9, ground := Ground.data }, { on := 8, ground := Ground.chain }, { on := 8, ground := Ground.guard }], guard := some (8, false) }) rfl (fun K hK => ?_) AllReadyH.nil)
          go_simp
          go_at_call 13; (with_reducible refine (HW.out _ (HL5.out.on hBE)).mono ?_)
          rintro e wa ⟨rfl, hb⟩
          replace hBE := hBE.trans (hb.mono hBE.size)
          clear hb
          refine hK.out _ _ (HK.out _ hBE) (fun hHeld2 => ?_)
          clear hK K hHeld
          have hHeld := hHeld2
          clear hHeld2
          try simp only [Act.put, List.setIfInBounds_toArray, List.set_cons_zero, List.set_cons_succ]
          refine wpAnyH_ready (rs := [12]) (by kernel_rfl) (by simp) (AllReadyH.cons (o := { dst := some 70, op := Op.call { callee := Callee.value (Operand.func 16), args := #[Operand.tmp 69], argTypes := #[3] }, type := 24, pos := "law.go:36", after := #[{ on := 11, ground := Ground.data }, { on := 10, ground := Ground.chain }, { on := 8, ground := Ground.guard }], guard := some (8, false) }) rfl (fun K hK => ?_) AllReadyH.nil)
          go_simp
          go_at_call 16; (with_reducible refine (HRW.out _).mono ?_)
          rintro e wa ⟨rfl, hb⟩
          replace hBE := hBE.trans (hb.mono hBE.size)
          clear hb
          refine hK.out _ _ (HK.out _ hBE) (fun hHeld2 => ?_)
          clear hK K hHeld
          have hHeld := hHeld2
          clear hHeld2
          try simp only [Act.put, List.setIfInBounds_toArray, List.set_cons_zero, List.set_cons_succ]
          refine wpAnyH_take (i := 13) (oi := { dst := some 71, op := Op.binOp BinOp.neq 24 (Operand.tmp 68) (Operand.tmp 70) 24, type := 4, pos := "law.go:36", after := #[{ on := 10, ground := Ground.data }, { on := 12, ground := Ground.data }, { on := 8, ground := Ground.guard }], guard := some (8, false) }) (v := ?v13) rfl (by kernel_rfl) (by kernel_rfl) (by kernel_rfl) (fun _ _ _ h => h) (Or.inl ⟨by rfl, ?h13⟩) (by assumption) ?r13
          case h13 => (intro w hSw; (try dsimp only at hSw); go_simp; (try with_reducible rfl))
          try simp only [Act.put, List.setIfInBounds_toArray, List.set_cons_zero, List.set_cons_succ]
          refine wpAnyH_take (i := 14) (oi := { dst := some 72, op := Op.pick (Operand.tmp 66) (Operand.const (Value.bool true)) (Operand.tmp 71), type := 4, pos := "law.go:36", after := #[{ on := 8, ground := Ground.data }, { on := 13, ground := Ground.data }], guard := none }) (v := ?v14) rfl (by kernel_rfl) (by kernel_rfl) (by kernel_rfl) (fun _ _ _ h => h) (Or.inl ⟨by rfl, ?h14⟩) (by assumption) ?r14
          case h14 => (intro w hSw; (try dsimp only at hSw); go_simp; (try with_reducible rfl))
          try simp only [Act.put, List.setIfInBounds_toArray, List.set_cons_zero, List.set_cons_succ]
          refine wpAnyH_take (i := 15) (oi := { dst := some 73, op := Op.move (Operand.tmp 72), type := 4, pos := "law.go:36", after := #[{ on := 14, ground := Ground.data }, { on := 12, ground := Ground.chain }], guard := none }) (v := ?v15) rfl (by kernel_rfl) (by kernel_rfl) (by kernel_rfl) (fun _ _ _ h => h) (Or.inl ⟨by rfl, ?h15⟩) (by assumption) ?r15
          case h15 => (intro w hSw; (try dsimp only at hSw); go_simp; (try with_reducible rfl))
          try simp only [Act.put, List.setIfInBounds_toArray, List.set_cons_zero, List.set_cons_succ]
          refine wpAnyH_take (i := 16) (oi := { dst := some 74, op := Op.move (Operand.tmp 11), type := 29, pos := "law.go:36", after := #[{ on := 15, ground := Ground.guard }], guard := some (15, false) }) (v := ?v16) rfl (by kernel_rfl) (by kernel_rfl) (by kernel_rfl) (fun _ _ _ h => h) (Or.inl ⟨by rfl, ?h16⟩) (by assumption) ?r16
          case h16 => (intro w hSw; (try dsimp only at hSw); go_simp; (try with_reducible rfl))
          try simp only [Act.put, List.setIfInBounds_toArray, List.set_cons_zero, List.set_cons_succ]
          refine wpAnyH_take (i := 17) (oi := { dst := some 75, op := Op.binOp BinOp.eql 29 (Operand.tmp 74) (Operand.const (Value.int IntKind.i64 0)) 29, type := 4, pos := "law.go:36", after := #[{ on := 16, ground := Ground.data }, { on := 15, ground := Ground.guard }], guard := some (15, false) }) (v := ?v17) rfl (by kernel_rfl) (by kernel_rfl) (by kernel_rfl) (fun _ _ _ h => h) (Or.inl ⟨by rfl, ?h17⟩) (by assumption) ?r17
          case h17 => (intro w hSw; (try dsimp only at hSw); go_simp; (try with_reducible rfl))
          try simp only [Act.put, List.setIfInBounds_toArray, List.set_cons_zero, List.set_cons_succ]
          refine wpAnyH_take (i := 18) (oi := { dst := some 76, op := Op.move (Operand.tmp 8), type := 3, pos := "law.go:36", after := #[{ on := 15, ground := Ground.guard }], guard := some (15, false) }) (v := ?v18) rfl (by kernel_rfl) (by kernel_rfl) (by kernel_rfl) (fun _ _ _ h => h) (Or.inl ⟨by rfl, ?h18⟩) (by assumption) ?r18
          case h18 => (intro w hSw; (try dsimp only at hSw); go_simp; (try with_reducible rfl))
          try simp only [Act.put, List.setIfInBounds_toArray, List.set_cons_zero, List.set_cons_succ]
          refine wpAnyH_take (i := 19) (oi := { dst := some 77, op := Op.move (Operand.tmp 1), type := 24, pos := "law.go:36", after := #[{ on := 15, ground := Ground.guard }], guard := some (15, false) }) (v := ?v19) rfl (by kernel_rfl) (by kernel_rfl) (by kernel_rfl) (fun _ _ _ h => h) (Or.inl ⟨by rfl, ?h19⟩) (by assumption) ?r19
          case h19 => (intro w hSw; (try dsimp only at hSw); go_simp; (try with_reducible rfl))
          try simp only [Act.put, List.setIfInBounds_toArray, List.set_cons_zero, List.set_cons_succ]
          refine wpAnyH_ready (rs := [20]) (by kernel_rfl) (by simp) (AllReadyH.cons (o := { dst := some 78, op := Op.call { callee := Callee.value (Operand.func 17), args := #[Operand.tmp 76, Operand.tmp 77], argTypes := #[3, 24] }, type := 4, pos := "law.go:36", after := #[{ on := 18, ground := Ground.data }, { on := 19, ground := Ground.data }, { on := 15, ground := Ground.chain }, { on := 15, ground := Ground.guard }], guard := some (15, false) }) rfl (fun K hK => ?_) AllReadyH.nil)
          go_simp
          go_at_call 17; (with_reducible refine (HRi.out _).mono ?_)
          rintro e wa ⟨rfl, hb⟩
          replace hBE := hBE.trans (hb.mono hBE.size)
          clear hb
          refine hK.out _ _ (HK.out _ hBE) (fun hHeld2 => ?_)
          clear hK K hHeld
          have hHeld := hHeld2
          clear hHeld2
          try simp only [Act.put, List.setIfInBounds_toArray, List.set_cons_zero, List.set_cons_succ]
          refine wpAnyH_take (i := 21) (oi := { dst := some 79, op := Op.binOp BinOp.neq 4 (Operand.tmp 75) (Operand.tmp 78) 4, type := 4, pos := "law.go:36", after := #[{ on := 17, ground := Ground.data }, { on := 20, ground := Ground.data }, { on := 15, ground := Ground.guard }], guard := some (15, false) }) (v := ?v21) rfl (by kernel_rfl) (by kernel_rfl) (by kernel_rfl) (fun _ _ _ h => h) (Or.inl ⟨by rfl, ?h21⟩) (by assumption) ?r21
          case h21 => (intro w hSw; (try dsimp only at hSw); go_simp; (try with_reducible rfl))
          try simp only [Act.put, List.setIfInBounds_toArray, List.set_cons_zero, List.set_cons_succ]
          refine wpAnyH_take (i := 22) (oi := { dst := some 80, op := Op.pick (Operand.tmp 73) (Operand.const (Value.bool true)) (Operand.tmp 79), type := 4, pos := "law.go:36", after := #[{ on := 15, ground := Ground.data }, { on := 21, ground := Ground.data }], guard := none }) (v := ?v22) rfl (by kernel_rfl) (by kernel_rfl) (by kernel_rfl) (fun _ _ _ h => h) (Or.inl ⟨by rfl, ?h22⟩) (by assumption) ?r22
          case h22 => (intro w hSw; (try dsimp only at hSw); go_simp; (try with_reducible rfl))
          try simp only [Act.put, List.setIfInBounds_toArray, List.set_cons_zero, List.set_cons_succ]
          refine wpAnyH_take (i := 23) (oi := { dst := some 81, op := Op.move (Operand.tmp 80), type := 4, pos := "law.go:36", after := #[{ on := 22, ground := Ground.data }, { on := 20, ground := Ground.chain }], guard := none }) (v := ?v23) rfl (by kernel_rfl) (by kernel_rfl) (by kernel_rfl) (fun _ _ _ h => h) (Or.inl ⟨by rfl, ?h23⟩) (by assumption) ?r23
          case h23 => (intro w hSw; (try dsimp only at hSw); go_simp; (try with_reducible rfl))
          try simp only [Act.put, List.setIfInBounds_toArray, List.set_cons_zero, List.set_cons_succ]
          refine wpAnyH_take (i := 24) (oi := { dst := some 82, op := Op.move (Operand.tmp 11), type := 29, pos := "law.go:36", after := #[{ on := 23, ground := Ground.guard }], guard := some (23, false) }) (v := ?v24) rfl (by kernel_rfl) (by kernel_rfl) (by kernel_rfl) (fun _ _ _ h => h) (Or.inl ⟨by rfl, ?h24⟩) (by assumption) ?r24
          case h24 => (intro w hSw; (try dsimp only at hSw); go_simp; (try with_reducible rfl))
          try simp only [Act.put, List.setIfInBounds_toArray, List.set_cons_zero, List.set_cons_succ]
          refine wpAnyH_take (i := 25) (oi := { dst := some 83, op := Op.binOp BinOp.neq 29 (Operand.tmp 82) (Operand.const (Value.int IntKind.i64 0)) 29, type := 4, pos := "law.go:36", after := #[{ on := 24, ground := Ground.data }, { on := 23, ground := Ground.guard }], guard := some (23, false) }) (v := ?v25) rfl (by kernel_rfl) (by kernel_rfl) (by kernel_rfl) (fun _ _ _ h => h) (Or.inl ⟨by rfl, ?h25⟩) (by assumption) ?r25
          case h25 => (intro w hSw; (try dsimp only at hSw); go_simp; (try with_reducible rfl))
          try simp only [Act.put, List.setIfInBounds_toArray, List.set_cons_zero, List.set_cons_succ]
          refine wpAnyH_take (i := 26) (oi := { dst := some 84, op := Op.move (Operand.tmp 83), type := 4, pos := "law.go:36", after := #[{ on := 25, ground := Ground.data }, { on := 23, ground := Ground.chain }, { on := 23, ground := Ground.guard }], guard := some (23, false) }) (v := ?v26) rfl (by kernel_rfl) (by kernel_rfl) (by kernel_rfl) (fun _ _ _ h => h) (Or.inl ⟨by rfl, ?h26⟩) (by assumption) ?r26
          case h26 => (intro w hSw; (try dsimp only at hSw); go_simp; (try with_reducible rfl))
          try simp only [Act.put, List.setIfInBounds_toArray, List.set_cons_zero, List.set_cons_succ]
          refine wpAnyH_take (i := 27) (oi := { dst := some 85, op := Op.move (Operand.tmp 11), type := 29, pos := "law.go:36", after := #[{ on := 26, ground := Ground.guard }], guard := some (26, true) }) (v := undef) rfl (by kernel_rfl) (by kernel_rfl) (by kernel_rfl) (fun _ _ _ h => h) (Or.inr ⟨by rfl, rfl⟩) (by assumption) ?_
          try simp only [Act.put, List.setIfInBounds_toArray, List.set_cons_zero, List.set_cons_succ]
          refine wpAnyH_take (i := 28) (oi := { dst := some 86, op := Op.binOp BinOp.neq 29 (Operand.tmp 85) (Operand.const (Value.int IntKind.i64 160)) 29, type := 4, pos := "law.go:36", after := #[{ on := 27, ground := Ground.data }, { on := 26, ground := Ground.guard }], guard := some (26, true) }) (v := undef) rfl (by kernel_rfl) (by kernel_rfl) (by kernel_rfl) (fun _ _ _ h => h) (Or.inr ⟨by rfl, rfl⟩) (by assumption) ?_
          try simp only [Act.put, List.setIfInBounds_toArray, List.set_cons_zero, List.set_cons_succ]
          refine wpAnyH_take (i := 29) (oi := { dst := some 87, op := Op.pick (Operand.tmp 84) (Operand.tmp 86) (Operand.const (Value.bool false)), type := 4, pos := "law.go:36", after := #[{ on := 26, ground := Ground.data }, { on := 28, ground := Ground.data }, { on := 23, ground := Ground.guard }], guard := some (23, false) }) (v := ?v29) rfl (by kernel_rfl) (by kernel_rfl) (by kernel_rfl) (fun _ _ _ h => h) (Or.inl ⟨by rfl, ?h29⟩) (by assumption) ?r29
          case h29 => (intro w hSw; (try dsimp only at hSw); go_simp; (try with_reducible rfl))
          try simp only [Act.put, List.setIfInBounds_toArray, List.set_cons_zero, List.set_cons_succ]
          refine wpAnyH_take (i := 30) (oi := { dst := some 88, op := Op.pick (Operand.tmp 81) (Operand.const (Value.bool true)) (Operand.tmp 87), type := 4, pos := "law.go:36", after := #[{ on := 23, ground := Ground.data }, { on := 29, ground := Ground.data }], guard := none }) (v := ?v30) rfl (by kernel_rfl) (by kernel_rfl) (by kernel_rfl) (fun _ _ _ h => h) (Or.inl ⟨by rfl, ?h30⟩) (by assumption) ?r30
          case h30 => (intro w hSw; (try dsimp only at hSw); go_simp; (try with_reducible rfl))
          try simp only [Act.put, List.setIfInBounds_toArray, List.set_cons_zero, List.set_cons_succ]
          refine wpAnyH_done (by kernel_rfl) ?_ _
          have HB := Lib.hid (HB.out.trans (hBE.mono HB.out.size))
          clear hHeld hBE HX5 HKK HK
          go_wp2_with fail
          go_loopw [91] (fun i wr => ∃ (q : Nat), q ≤ n' ∧ i = .int .i64 q ∧ Below w.heap.size w wr) (fun i _ => n' - (intOf i).toNat)
          case atStart => exact ⟨0, Nat.zero_le _, rfl, HB.out⟩
          case round =>
            clear HB
            obtain ⟨q, hq, rfl, hb⟩ := hrel
            have HB := Lib.hid hb
            by_cases hgo2 : q < n' ∧ q ≠ 12
            · obtain ⟨hlt2, h12⟩ := hgo2
              obtain ⟨b2, o2, s, rfl, hbl2, hc2, hs⟩ := HCt.out.on hb q hlt2
              have h12' : ((q : Int) == 12) = false := by simp; omega
              have hsz2 := hb.size
              have HLq := Lib.hid (HL.out.on hb)
              have HCu := Lib.hid (fun W => lcut_any s W hs)
              have hlen := (cut_len260 s.data.toList).1
              generalize cutL s.data.toList = l at *
              clear hb h12 hs
              have HV := Lib.hid (fun W hW => value_s k l W hW hk hlen)
              have HRV := Lib.hid (fun W => rvalue_l k l W hk (by omega))
              generalize valueL k l = v at *
              unfold strV some2 at *
              go_wp2_with fail
              refine (HCu.out _).mono ?_
              rintro e w5 ⟨rfl, rfl⟩
              go_wp2_with fail
              refine (HV.out _ HLq.out).mono ?_
              rintro e w6 ⟨rfl, hb⟩
              have hc3 := (hb.cell (p := ⟨b2, o2 + q, none⟩) (by show b2 < wr.heap.size; omega)).trans hc2
              have HB := Lib.hid (HB.out.trans (hb.mono HB.out.size))
              clear hb hc2
              go_wp2_with fail
              refine (rkind_yes k _ hk).mono ?_
              rintro e w7 ⟨rfl, rfl⟩
              go_wp2_with fail
              refine (HCu.out _).mono ?_
              rintro e w7 ⟨rfl, rfl⟩
              go_wp2_with fail
              refine (HRV.out _).mono ?_
              rintro e w8 ⟨rfl, hb⟩
              have HB := Lib.hid (HB.out.trans (hb.mono HB.out.size))
              clear hb
              go_wp2_with fail
              go_roundw
              case rel => exact ⟨q + 1, hlt2, by go_num, HB.out⟩
              case measure => simp [intOf]; omega
            · by_cases hlt2 : q < n'
              · obtain rfl : q = 12 := by omega
                obtain ⟨b2, o2, s, rfl, hbl2, hc2, hs⟩ := HCt.out.on hb 12 hlt2
                have hsz2 := hb.size
                clear hgo2 hb
                rw [show ((12 : Nat) : Int) = 12 by rfl]
                go_wp2_with fail
                go_roundw
                case rel => exact ⟨j + 1, hlt, by go_num, HB.out⟩
                case measure => simp [intOf]; omega
              · obtain rfl : q = n' := by omega
                clear hgo2 hb
                go_wp2_with fail
                go_roundw
                case rel => exact ⟨j + 1, hlt, by go_num, HB.out⟩
                case measure => simp [intOf]; omega
    · by_cases hlt : j < n
      · obtain rfl : j = 8 := by omega
        obtain ⟨b, o, m, rfl, hbl, hc⟩ := HC.out.on hb 8 hlt
        have hsz := hb.size
        clear hgo hb
        rw [show ((8 : Nat) : Int) = 8 by rfl]
        go_wp2_with fail
        go_ret
        exact ⟨rfl, HB.out⟩
      · obtain rfl : j = n := by omega
        clear hgo hb
        go_wp2_with fail
        go_ret
        exact ⟨rfl, HB.out⟩
end Go.Proofs.YtmgeefmhnhdmjaaDoor
/- A map of two entries, made and gone over in whatever order. -/
namespace Go.Proofs.YtmgeefmhnhdmjaaDoor
open Go.RowKit Go.ChangeMaps

def mEnt (k : Int) (g n b : Nat) : MapEntry := { key := .int .i64 k, val := .slice (some ⟨g, 0, none⟩) n n, born := b }
def mEs (g3 g4 : Nat) : Array MapEntry := #[mEnt 3 g3 12 0, mEnt 4 g4 7 1]
theorem keyI : Go.Maps.Keyed Tryd.prog 3 := Go.Maps.int_keyed Tryd.underlying3
theorem keyof (x : Int) (h : (Lit.int .i64 x).wf = true) : keyOf Tryd.prog 3 (.int .i64 x) = some (.int .i64 x) := Go.Maps.keyOf_int_mk Tryd.underlying3 h
theorem upd_first {W : World} {b : Nat} (h : W.heap[b]? = some (.map #[] 0)) (v : Value) :
    (Instr.mapUpdate 59 (.map (some b)) (.int .i64 3) v).run Tryd.prog W = .ok () (setBlock W b (.map #[{ key := .int .i64 3, val := v, born := 0 }] 1)) := by
  have hc := keyI.check W false (keyof 3 (by decide))
  rcases keyI.find W (keyof 3 (by decide)) [] (fun e he => by cases he) with ⟨h1, _⟩ | ⟨j, e, _, h2, _⟩
  · simp [Instr.mapUpdate, run_underlying Tryd.underlying59, MapKept.run_getObj_map h, hc, h1, MapKept.run_setObj_map _ h, Result.andThen, setBlock]
  · cases h2
theorem upd_second {W : World} {b : Nat} {u : Value} (h : W.heap[b]? = some (.map #[{ key := .int .i64 3, val := u, born := 0 }] 1)) (v : Value) :
    (Instr.mapUpdate 59 (.map (some b)) (.int .i64 4) v).run Tryd.prog W = .ok () (setBlock W b (.map #[{ key := .int .i64 3, val := u, born := 0 }, { key := .int .i64 4, val := v, born := 1 }] 2)) := by
  have hc := keyI.check W false (keyof 4 (by decide))
  rcases keyI.find W (keyof 4 (by decide)) [{ key := .int .i64 3, val := u, born := 0 }] (fun e he => by
    rcases List.mem_singleton.1 he with rfl
    exact ⟨_, keyof 3 (by decide)⟩) with ⟨h1, _⟩ | ⟨j, e, _, h2, h3⟩
  · simp [Instr.mapUpdate, run_underlying Tryd.underlying59, MapKept.run_getObj_map h, hc, h1, MapKept.run_setObj_map _ h, Result.andThen, setBlock]
  · have := List.mem_of_getElem? h2
    rcases List.mem_singleton.1 this with rfl
    cases h3
/-- A loop over the map in block b is under way, its iterator in block r. -/
def MapAt (w : World) (b r g3 g4 cnt : Nat) : Prop := ∃ (seen : Array Nat) (c0 : Nat), w.heap[b]? = some (.map (mEs g3 g4) 2) ∧ w.heap[r]? = some (.mapIter (some b) 2 seen c0) ∧ 2 ≤ c0 ∧ (_root_.Go.leftOf (mEs g3 g4) seen).size = cnt
theorem MapAt.on {w w' : World} {b r g3 g4 cnt B : Nat} (h : MapAt w b r g3 g4 cnt) (hb : Below B w w') (h1 : b < B) (h2 : r < B) : MapAt w' b r g3 g4 cnt := by
  obtain ⟨seen, c0, a, c, d, e⟩ := h
  exact ⟨seen, c0, (hb.block b h1).trans a, (hb.block r h2).trans c, d, e⟩
theorem MapAt.left {w : World} {b r g3 g4 cnt : Nat} (h : MapAt w b r g3 g4 cnt) : w.rangeLeft b r = cnt := by
  obtain ⟨seen, c0, a, c, d, e⟩ := h
  simp only [World.rangeLeft, a, c]
  exact e
theorem MapAt.next {w : World} {b r g3 g4 cnt : Nat} (h : MapAt w b r g3 g4 cnt) (ty : TypeId) :
    (Instr.next (.pointer (some ⟨r, 0, none⟩)) false ty).run Tryd.prog w = .ok (.tuple #[.bool false]) w ∨
    ∃ (k g n : Nat) (w' : World) (cnt' : Nat), (k = 3 ∧ g = g3 ∧ n = 12 ∨ k = 4 ∧ g = g4 ∧ n = 7) ∧
      (Instr.next (.pointer (some ⟨r, 0, none⟩)) false ty).run Tryd.prog w = .ok (.tuple #[.bool true, .int .i64 (k : Int), .slice (some ⟨g, 0, none⟩) n n]) w' ∧
      (Instr.entry (.pointer (some ⟨r, 0, none⟩))).run Tryd.prog w' = .ok (.tuple #[.int .i64 (k : Int), .slice (some ⟨g, 0, none⟩) n n]) w' ∧
      MapAt w' b r g3 g4 cnt' ∧ cnt' < cnt ∧ Below r w w' ∧ w'.heap.size = w.heap.size ∧ ∀ i, i ≠ r → w'.heap[i]? = w.heap[i]? := by
  obtain ⟨seen, c0, hb, hr, h2, hc⟩ := h
  have hne : r ≠ b := fun e => by rw [e, hb] at hr; cases hr
  have hold : ∀ x ∈ (mEs g3 g4).toList, x.born < 2 := by
    intro x hx
    simp [mEs] at hx
    rcases hx with rfl | rfl <;> simp [mEnt]
  rcases run_next_at (P := Tryd.prog) w ty r b 2 c0 seen (mEs g3 g4) 2 hr hb hold h2 with ⟨_, hrun⟩ | ⟨e, he, w1, hal, hrun⟩
  · exact .inl hrun
  · right
    have hem : e ∈ (mEs g3 g4).toList := by
      unfold _root_.Go.leftOf at he
      simp at he
      simpa using he.1
    have hr1 : w1.heap[r]? = some (.mapIter (some b) 2 seen c0) := by rcases hal with rfl | rfl <;> exact hr
    have hb1 : w1.heap[b]? = some (.map (mEs g3 g4) 2) := by rcases hal with rfl | rfl <;> exact hb
    have hset := MapKept.heap_set (o' := .mapIter (some b) 2 (seen.push e.born) 2) hr1
    have hb' : (setBlock w1 r (.mapIter (some b) 2 (seen.push e.born) 2)).heap[b]? = some (.map (mEs g3 g4) 2) := (hset.2 b (fun e1 => hne e1.symm)).trans hb1
    have hen := run_entry_at (P := Tryd.prog) _ r b 2 seen (mEs g3 g4) 2 e hset.1 hb' hem (by simp [mEs, mEnt])
    have hlt := left_shrinks (mEs g3 g4) seen e he
    have hcase : ∃ (k g n : Nat), (k = 3 ∧ g = g3 ∧ n = 12 ∨ k = 4 ∧ g = g4 ∧ n = 7) ∧ e.key = .int .i64 (k : Int) ∧ e.val = .slice (some ⟨g, 0, none⟩) n n := by
      simp [mEs] at hem
      rcases hem with rfl | rfl
      · exact ⟨3, g3, 12, .inl ⟨rfl, rfl, rfl⟩, rfl, rfl⟩
      · exact ⟨4, g4, 7, .inr ⟨rfl, rfl, rfl⟩, rfl, rfl⟩
    obtain ⟨k, g, n, hk, ek, ev⟩ := hcase
    rw [ek, ev] at hrun hen
    have hother : ∀ i, i ≠ r → (setBlock w1 r (.mapIter (some b) 2 (seen.push e.born) 2)).heap[i]? = w.heap[i]? := fun i hi => (hset.2 i hi).trans (by rcases hal with rfl | rfl <;> rfl)
    have hsz : (setBlock w1 r (.mapIter (some b) 2 (seen.push e.born) 2)).heap.size = w.heap.size := by rcases hal with rfl | rfl <;> simp [setBlock]
    refine ⟨k, g, n, _, _, hk, hrun, hen, ⟨seen.push e.born, 2, hb', hset.1, Nat.le_refl _, rfl⟩, by omega, ?_, hsz, hother⟩
    exact ⟨by rcases hal with rfl | rfl <;> rfl, by rcases hal with rfl | rfl <;> rfl, by rcases hal with rfl | rfl <;> rfl, by omega, fun i hi => hother i (by omega)⟩
end Go.Proofs.YtmgeefmhnhdmjaaDoor
/- FieldNames: walked. -/
namespace Go.Proofs.YtmgeefmhnhdmjaaDoor
open Go.RowKit Go.ChangeMaps
/-- A row of bools, where it lies. -/
def ArrBl (w : World) (B : Nat) (A : Option Addr) (n : Nat) (f : Nat → Bool) : Prop :=
  (∀ q, n ≤ q → f q = false) ∧ ∀ k, k < n → ∃ (b o : Nat), A = some ⟨b, o, none⟩ ∧ b < B ∧ w.cell? ⟨b, o + k, none⟩ = some (.bool (f k))
theorem ArrBl.on {w w' : World} {B n : Nat} {A : Option Addr} {f : Nat → Bool} (h : ArrBl w B A n f) (hb : Below B w w') : ArrBl w' B A n f := ⟨h.1, fun k hk => by
  obtain ⟨b, o, e, hl, hc⟩ := h.2 k hk
  exact ⟨b, o, e, hl, (hb.cell (p := ⟨b, o + k, none⟩) hl).trans hc⟩⟩
theorem ArrL.same {w w' : World} {g n : Nat} {l : List (List UInt8)} (h : ArrL w (some ⟨g, 0, none⟩) n l) (he : w'.heap[g]? = w.heap[g]?) (hs : w.heap.size ≤ w'.heap.size) : ArrL w' (some ⟨g, 0, none⟩) n l :=
  ⟨h.1, fun i x hx => by
    obtain ⟨b, off, e, hlt, hc⟩ := h.2 i x hx
    cases e
    refine ⟨g, 0, rfl, by omega, ?_⟩
    rw [← hc]
    simp only [World.cell?]
    rw [he]⟩
theorem ArrL.at_ {w : World} {g n i : Nat} {l : List (List UInt8)} {x : List UInt8} (h : ArrL w (some ⟨g, 0, none⟩) n l) (hx : l[i]? = some x) : g < w.heap.size ∧ w.cell? ⟨g, i, none⟩ = some (strV x) := by
  obtain ⟨b, off, e, hlt, hc⟩ := h.2 i x hx
  cases e
  rw [Nat.zero_add] at hc
  exact ⟨hlt, hc⟩
theorem pick0 (x : Int) (c : Nat) (h0 : 0 < c) (h1 : c ≤ 100) : ∃ i : Nat, wrap64 ((IntKind.u64.wrap x).tmod (c : Int)) = (i : Int) ∧ i < c := by
  have hu : 0 ≤ IntKind.u64.wrap x := by rw [IntKind.wrap_u64]; omega
  generalize IntKind.u64.wrap x = y at *
  have e : y.tmod (c : Int) = y % (c : Int) := Int.tmod_eq_emod_of_nonneg hu
  have h3 := Int.emod_nonneg y (show (c : Int) ≠ 0 by omega)
  have h4 := Int.emod_lt_of_pos y (show 0 < (c : Int) by omega)
  rw [e]
  generalize y % (c : Int) = r at *
  have w1 : wrap64 r = r := by unfold wrap64; omega
  exact ⟨r.toNat, by rw [w1]; omega, by omega⟩
theorem kind_facts {k g n g3 g4 : Nat} (h : k = 3 ∧ g = g3 ∧ n = 12 ∨ k = 4 ∧ g = g4 ∧ n = 7) : k < 5 ∧ (hiK k : Int) - (loK k : Nat) + 1 = (n : Int) ∧ (namesK k).length = n ∧ 7 ≤ n ∧ n ≤ 12 := by
  rcases h with ⟨rfl, _, rfl⟩ | ⟨rfl, _, rfl⟩ <;> decide
theorem lowN_get : ∀ (l : List UInt8) (f : Nat → Bool) (p q : Nat), (lowN l f p)[q]? = (l[q]?).map (fun b => if f (p + q) then b + 32 else b)
  | [], _, _, _ => by simp [lowN]
  | b :: l, f, p, 0 => by simp [lowN]
  | b :: l, f, p, q + 1 => by
    rw [lowN, List.getElem?_cons_succ, List.getElem?_cons_succ, lowN_get l f (p + 1) q, show p + 1 + q = p + (q + 1) by omega]
theorem enc_small (b : UInt8) (r : Int) (hr : r = (b.toNat : Nat)) (h : b.toNat < 128) : Utf8.encode r = ⟨#[b]⟩ := by
  subst hr
  unfold Utf8.encode
  have hv : Utf8.valid ((b.toNat : Nat) : Int) = true := by unfold Utf8.valid; simp; omega
  rw [hv]
  simp only [if_true]
  rw [show (((b.toNat : Nat) : Int)).toNat = b.toNat by omega, if_pos h, UInt8.ofNat_toNat]
/-- What is read of two names, and of their numbers. -/
theorem read_two {k i j : Nat} {x y : List UInt8} (hx : (namesK k)[i]? = some x) (hy : (namesK k)[j]? = some y) (f : Nat → Bool) (hti : loK k + i ≤ hiK k) (htj : loK k + j ≤ hiK k) :
    ∃ (M : BitVec 64) (E : Int), readL k (lowN x f 0 ++ 45 :: y) = (M, 0, E) ∧ readL k (dgsN (loK k + i) ++ 45 :: dgsN (loK k + j)) = (M, 0, E) ∧ (E == 0) = decide (i ≤ j) := by
  obtain ⟨h1, h2⟩ := read_names hx hy f hti htj
  have hh := hi_lt k
  by_cases hij : i ≤ j
  · obtain ⟨m, hm⟩ := span_some (a := loK k + i) (b := loK k + j) (s := 1) (by omega) (by omega) (by omega)
    rw [hm] at h1 h2
    exact ⟨m, 0, h1, h2, by simp [hij]⟩
  · have hm := span_none' (a := loK k + i) (b := loK k + j) (s := 1) (by omega)
    rw [hm] at h1 h2
    exact ⟨0#64, 160, h1, h2, by simp [hij]⟩
theorem low_small {x : List UInt8} (h : x.all letter = true) (f : Nat → Bool) (q : Nat) (b : UInt8) (hb : (lowN x f 0)[q]? = some b) : 65 ≤ b.toNat ∧ b.toNat ≤ 122 := by
  rw [lowN_get, Nat.zero_add] at hb
  cases hx : x[q]? with
  | none => rw [hx] at hb; cases hb
  | some c =>
    rw [hx] at hb
    rw [List.all_eq_true] at h
    have hl := h c (List.mem_of_getElem? hx)
    have h65 : 65 ≤ c.toNat ∧ c.toNat ≤ 90 := by unfold letter at hl; simpa using hl
    simp only [Option.map_some, Option.some.injEq] at hb
    subst hb
    split
    · rw [UInt8.toNat_add]
      have : (32 : UInt8).toNat = 32 := rfl
      omega
    · omega
theorem toLower_low {x : List UInt8} (h : x.all letter = true) (f : Nat → Bool) : Lib.toLowerA (lowN x f 0) = lowN x (fun _ => true) 0 := by
  unfold Lib.toLowerA
  apply List.ext_getElem?
  intro q
  rw [List.getElem?_map, lowN_get, lowN_get]
  cases hx : x[q]? with
  | none => rfl
  | some c =>
    rw [List.all_eq_true] at h
    have hl := h c (List.mem_of_getElem? hx)
    have h65 : 65 ≤ c.toNat ∧ c.toNat ≤ 90 := by unfold letter at hl; simpa using hl
    simp only [Option.map_some, if_true, Option.some.injEq]
    unfold Lib.lowerB Lib.isUpperB
    have h32 : (c + 32).toNat = c.toNat + 32 := by
      rw [UInt8.toNat_add]
      have : (32 : UInt8).toNat = 32 := rfl
      omega
    split
    · rw [if_neg]
      simp only [Bool.and_eq_true, decide_eq_true_eq, UInt8.le_iff_toNat_le]
      have : (90 : UInt8).toNat = 90 := rfl
      omega
    · rw [if_pos]
      simp only [Bool.and_eq_true, decide_eq_true_eq, UInt8.le_iff_toNat_le]
      have : (90 : UInt8).toNat = 90 := rfl
      have : (65 : UInt8).toNat = 65 := rfl
      omega
theorem str_of (x : List UInt8) : ∃ s : ByteArray, s.data.toList = x ∧ strV x = .string s := ⟨⟨x.toArray⟩, by simp, rfl⟩
set_option maxRecDepth 100000 in
set_option maxHeartbeats 8000000 in
theorem names_walk (n k : Int) (A' : Option Addr) (n' c' : Nat) (f : Nat → Bool) (w : World) (hL : Laid w) (_hn' : n' ≤ maxLen) (hz : ArrBl w w.heap.size A' n' f) :
    Calls Tryd.prog 9 #[.int .i64 n, .int .i64 k, .slice A' n' c'] w fun e w' => e = .returned (.bool true) ∧ Below w.heap.size w w' := by
  unfold maxLen at _hn'
  have HL := Lib.hid hL; have HC := Lib.hid hz
  clear hL hz
  have hmm := @run_makeMap Tryd.prog
  go_enter Tryd.func9, Tryd.ntmps9
  go_wp2_with fail
  refine (fwakes_any w HL.out).mono ?_
  rintro e w2 ⟨rfl, hb⟩
  have HB := Lib.hid hb; have HL2 := Lib.hid (HL.out.on hb)
  clear hb
  go_wp2_with fail
  have hA3 := names_at (w := w2.alloc (.map #[] 0)) (t := 9) (namesK 3)
  have hm0 : ((w2.alloc (.map #[] 0)).alloc (.cells ((namesK 3).map strV).toArray 9)).heap[w2.heap.size]? = some (.map #[] 0) := (((MapKept.heap_alloc (w2.alloc (.map #[] 0)) _).2 _ (by simp)).trans (MapKept.heap_alloc w2 _).1)
  have hB1 := ((Below.refl w2.heap.size w2).alloc (Nat.le_refl _) (.map #[] 0)).alloc (by simp) (.cells ((namesK 3).map strV).toArray 9)
  have hs1 : ((w2.alloc (.map #[] 0)).alloc (.cells ((namesK 3).map strV).toArray 9)).heap.size = w2.heap.size + 2 := by simp
  rw [show (w2.alloc (.map #[] 0)).heap.size = w2.heap.size + 1 by simp] at hA3
  change Oper.upon _ _ _ _ _ ((Sem.run _ _ ((w2.alloc (.map #[] 0)).alloc (.cells ((namesK 3).map strV).toArray 9))).andThen _)
  generalize (w2.alloc (.map #[] 0)).alloc (.cells ((namesK 3).map strV).toArray 9) = W1 at *
  rw [upd_first hm0]
  have hb1 := MapKept.heap_set (o' := .map #[{ key := .int .i64 3, val := .slice (some ⟨w2.heap.size + 1, 0, none⟩) 12 12, born := 0 }] 1) hm0
  have hW2 : ∃ W2, setBlock W1 w2.heap.size (.map #[{ key := .int .i64 3, val := .slice (some ⟨w2.heap.size + 1, 0, none⟩) 12 12, born := 0 }] 1) = W2 := ⟨_, rfl⟩
  obtain ⟨W2, hW2⟩ := hW2
  have k1 : W2.heap[w2.heap.size]? = some (.map #[{ key := .int .i64 3, val := .slice (some ⟨w2.heap.size + 1, 0, none⟩) 12 12, born := 0 }] 1) := by rw [← hW2]; exact hb1.1
  have k2 : ∀ i, i ≠ w2.heap.size → W2.heap[i]? = W1.heap[i]? := fun i hi => by rw [← hW2]; exact hb1.2 i hi
  have k3 : W2.heap.size = w2.heap.size + 2 := by rw [← hW2]; simp [setBlock, hs1]
  have k4 : Below w2.heap.size W1 W2 := by rw [← hW2]; exact ⟨rfl, rfl, rfl, by simp [setBlock], fun i hi => hb1.2 i (by omega)⟩
  rw [hW2]
  clear hW2 hb1 hm0
  have hA3' := hA3.same (k2 _ (by omega)) (by omega)
  have hB2 := hB1.trans k4
  clear hA3 k4 hB1 k2 hs1
  go_wp2_with fail
  have hA4 := names_at (w := W2) (t := 9) (namesK 4)
  rw [k3] at hA4
  have hh := MapKept.heap_alloc W2 (.cells ((namesK 4).map strV).toArray 9)
  have hm1 := (hh.2 w2.heap.size (by omega)).trans k1
  have hA3 := hA3'.same (hh.2 (w2.heap.size + 1) (by omega)) (by simp)
  have hs2 : (W2.alloc (.cells ((namesK 4).map strV).toArray 9)).heap.size = w2.heap.size + 3 := by simp [k3]
  have hB3 := hB2.alloc (by omega) (.cells ((namesK 4).map strV).toArray 9)
  change Oper.upon _ _ _ _ _ ((Sem.run _ _ (W2.alloc (.cells ((namesK 4).map strV).toArray 9))).andThen _)
  generalize W2.alloc (.cells ((namesK 4).map strV).toArray 9) = W3 at *
  rw [upd_second hm1]
  have hb2 := MapKept.heap_set (o' := .map (mEs (w2.heap.size + 1) (w2.heap.size + 2)) 2) hm1
  obtain ⟨W4, hW4⟩ : ∃ W4, setBlock W3 w2.heap.size (.map (mEs (w2.heap.size + 1) (w2.heap.size + 2)) 2) = W4 := ⟨_, rfl⟩
  have m1 : W4.heap[w2.heap.size]? = some (.map (mEs (w2.heap.size + 1) (w2.heap.size + 2)) 2) := by rw [← hW4]; exact hb2.1
  have m2 : ∀ i, i ≠ w2.heap.size → W4.heap[i]? = W3.heap[i]? := fun i hi => by rw [← hW4]; exact hb2.2 i hi
  have m3 : W4.heap.size = w2.heap.size + 3 := by rw [← hW4]; simp [setBlock, hs2]
  have m4 : Below w2.heap.size W3 W4 := by rw [← hW4]; exact ⟨rfl, rfl, rfl, by simp [setBlock], fun i hi => hb2.2 i (by omega)⟩
  change Oper.upon _ _ _ _ _ ((Result.ok () (setBlock W3 w2.heap.size (.map (mEs (w2.heap.size + 1) (w2.heap.size + 2)) 2))).andThen _)
  rw [hW4]
  have hA3' := hA3.same (m2 _ (by omega)) (by omega)
  have hA4' := hA4.same (m2 _ (by omega)) (by omega)
  have hB4 := hB3.trans m4
  have hrange := run_range_map (P := Tryd.prog) W4 59 3 25 w2.heap.size _ 2 Tryd.underlying59 m1
  clear hW4 hb2 hm1 hA3 hA4 m2 m4 hB3 hB2 hh k1 k3 hs2
  rw [m3] at hrange
  have hB5 := hB4.alloc (by omega) (.mapIter (some w2.heap.size) 2 #[] 2)
  have hh := MapKept.heap_alloc W4 (.mapIter (some w2.heap.size) 2 #[] 2)
  have hM : MapAt (W4.alloc (.mapIter (some w2.heap.size) 2 #[] 2)) w2.heap.size (w2.heap.size + 3) (w2.heap.size + 1) (w2.heap.size + 2) 2 := ⟨#[], 2, (hh.2 _ (by omega)).trans m1, by rw [← m3]; exact hh.1, Nat.le_refl _, by simp [_root_.Go.leftOf, mEs]⟩
  have hA3 := hA3'.same (hh.2 _ (by omega)) (by simp)
  have hA4 := hA4'.same (hh.2 _ (by omega)) (by simp)
  have hsz : (W4.alloc (.mapIter (some w2.heap.size) 2 #[] 2)).heap.size = w2.heap.size + 4 := by simp [m3]
  clear hA3' hA4' hh m1 hB4
  go_wp2_with fail
  have HB5 := Lib.hid (HB.out.trans (hB5.mono HB.out.size))
  have hNw := HB.out.size
  have HL5 := Lib.hid (HL2.out.on hB5)
  generalize W4.alloc (.mapIter (some w2.heap.size) 2 #[] 2) = W5 at *
  generalize w2.heap.size = N at *
  rw [show (namesK 3).length = 12 by decide] at hA3
  rw [show (namesK 4).length = 7 by decide] at hA4
  clear hB5 HB HL2 hrange m3 hmm
  go_loopw [7] (fun _ wr => ∃ cnt : Nat, MapAt wr N (N + 3) (N + 1) (N + 2) cnt ∧ ArrL wr (some ⟨N + 1, 0, none⟩) 12 (namesK 3) ∧ ArrL wr (some ⟨N + 2, 0, none⟩) 7 (namesK 4) ∧ Below w.heap.size w wr ∧ N + 4 ≤ wr.heap.size) (fun _ wr => wr.rangeLeft N (N + 3))
  case atStart => exact ⟨2, hM, hA3, hA4, HB5.out, by omega⟩
  case round =>
    obtain ⟨cnt, hM, hA3, hA4, hB, hN4⟩ := hrel
    clear hA3' hsz HB5 HL5
    rcases hM.next 0 with hrun | ⟨kk, g, nn, w1, cnt1, hkk, hrun, hen, hM1, hlt, hb1, hs1, hoth⟩
    · go_wp2_with fail
      go_ret
      exact ⟨rfl, hB⟩
    · have hg1 : g = N + 1 ∨ g = N + 2 := by omega
      have hArr : ArrL w1 (some ⟨g, 0, none⟩) nn (namesK kk) := by
        rcases hkk with ⟨rfl, rfl, rfl⟩ | ⟨rfl, rfl, rfl⟩
        · exact hA3.same (hoth _ (by omega)) (by omega)
        · exact hA4.same (hoth _ (by omega)) (by omega)
      have HM1 := Lib.hid hM1
      have HA3 := Lib.hid (hA3.same (hoth _ (by omega)) (by omega)); have HA4 := Lib.hid (hA4.same (hoth _ (by omega)) (by omega))
      have HB1 := Lib.hid (hB.trans (hb1.mono (by omega)))
      have HMs := Lib.hid (And.intro hM.left hlt)
      obtain ⟨hk, hnn, hlen, h7, h12⟩ := kind_facts hkk
      have HArr := Lib.hid hArr; have HLen := Lib.hid hlen; have HK := Lib.hid hk
      have HG := Lib.hid (Below.refl w1.heap.size w1)
      have HL1 := Lib.hid (HL.out.on HB1.out)
      have hN1 : N + 4 ≤ w1.heap.size := by omega
      clear hM hA3 hA4 hB hb1 hoth hArr hkk hlen hM1 hlt hk
      have HE := Lib.hid (fun W hW => ends_yes kk W hW HK.out)
      unfold runV at HE
      have hbd := hi_bd kk
      obtain ⟨a, hae⟩ : ∃ a : Int, ((loK kk : Nat) : Int) = a := ⟨_, rfl⟩
      obtain ⟨z, hze⟩ : ∃ a : Int, ((hiK kk : Nat) : Int) = a := ⟨_, rfl⟩
      have HAe := Lib.hid hae; have HZe := Lib.hid hze
      rw [hae, hze] at HE hbd hnn
      clear hae hze
      have hne : ((z - a + 1) != (nn : Int)) = false := by simp; omega
      go_wp2_with fail
      refine (HE.out _ HL1.out).mono ?_
      rintro e w3 ⟨rfl, hb⟩
      have HG2 := Lib.hid (hb.alloc hb.size (.cells #[.int .i64 a, .int .i64 z] 28))
      have HX := Lib.hid (RunBox.new w3 a z)
      clear hb hrun hen HE
      go_wp2_with fail
      generalize w3.alloc _ = w4 at *
      generalize w3.heap.size = g2 at *
      obtain ⟨c0, c1, f0, f1⟩ := HX.out.cells
      have hgr := HX.out.lt
      go_wp2_with fail
      go_region
      obtain ⟨i, hi, hil⟩ := pick0 n nn (by omega) (by omega)
      obtain ⟨j, hj, hjl⟩ := pick0 k nn (by omega) (by omega)
      rw [hi, hj]
      clear hi hj
      have HG3 := Lib.hid (bdrewN HG2.out 1)
      have HX := Lib.hid (HX.out.on (bdrewN (Below.refl _ w4) 1))
      change Exit.then _ _ _ _ (w4.drewN 1)
      generalize w4.drewN 1 = w5 at *
      clear c0 c1 f0 f1 hgr HG2 hne
      obtain ⟨x, hx⟩ : ∃ x, (namesK kk)[i]? = some x := ⟨_, List.getElem?_eq_getElem (by rw [HLen.out]; exact hil)⟩
      obtain ⟨y, hy⟩ : ∃ x, (namesK kk)[j]? = some x := ⟨_, List.getElem?_eq_getElem (by rw [HLen.out]; exact hjl)⟩
      obtain ⟨hgl, hcx⟩ := (HArr.out.below HG3.out).at_ hx
      obtain ⟨_, hcy⟩ := (HArr.out.below HG3.out).at_ hy
      obtain ⟨s, hs, hsv⟩ := str_of x
      rw [hsv] at hcx
      clear hsv
      have HXn := Lib.hid hx; have HYn := Lib.hid hy; have HS := Lib.hid hs
      have hlet := names_letters kk x (List.mem_of_getElem? hx)
      have h3 := names_len kk x (List.mem_of_getElem? hx)
      have hs3 : s.size = 3 := by rw [← len_list, hs, h3]
      have HLet := Lib.hid hlet
      have HS3 := Lib.hid hs3
      clear hx hy hs hlet
      go_wp2_with fail
      have hyl : (lowN x f 0).length = s.size := by rw [low_len, h3, HS3.out]
      have HYL := Lib.hid hyl
      have hget : ∀ q (hq : q < s.size), (lowN x f 0)[q]? = some (if f q then s[q] + 32 else s[q]) := fun q hq => by
        rw [lowN_get, ← HS.out, get_list s q hq, Nat.zero_add]; rfl
      have HGet := Lib.hid hget
      generalize hlow : lowN x f 0 = nm at *
      have HLow := Lib.hid hlow
      clear hget hyl hlow hs3
      go_loopw [13] (fun v wr => ∃ q : Nat, wr = w5.iter s q ∧ q ≤ s.size ∧ v = strV (nm.take q)) (fun _ wr => s.size - wr.iterPos w5.heap.size)
      case atStart => exact ⟨0, rfl, Nat.zero_le _, rfl⟩
      case round =>
        obtain ⟨q, rfl, hq, rfl⟩ := hrel
        have hbi := below_iter w5 s q
        by_cases hlt : q < s.size
        · obtain ⟨r, q', hnx, r0, r1, hr⟩ := rune_at w5 s q hlt
          have hlb : letter s[q] = true := by
            have h := HLet.out
            rw [List.all_eq_true] at h
            exact h _ (by rw [← HS.out]; exact List.mem_of_getElem? (get_list s q hlt))
          have h65 : 65 ≤ s[q].toNat ∧ s[q].toNat ≤ 90 := by unfold letter at hlb; simpa using hlb
          obtain ⟨rfl, rfl⟩ : r = (s[q].toNat : Int) ∧ q' = q + 1 := by omega
          have hnq := HGet.out q hlt
          clear hr hlb
          obtain ⟨p5, e5, k5, r5⟩ := join_str (nm.take q) [if f q then s[q] + 32 else s[q]] q 1 (by rw [List.length_take, HYL.out]; omega) rfl
          have HP5 : Hid (nm.take (q + 1) = p5) := Lib.hid (by rw [List.take_add_one, hnq, r5]; rfl)
          have hl5 : (nm.take q).length = q := by rw [List.length_take, HYL.out]; omega
          have g5 : ¬ (9223372036854775807 < q + 1) := by have := HS3.out; omega
          clear hnq r5 k5
          generalize nm.take q = cur at *
          unfold strV at *
          by_cases hin : q < n'
          · obtain ⟨b, o, rfl, hbl, hc⟩ := HC.out.2 q hin
            have hw15 : Below w.heap.size w w5 := HB1.out.trans (HG3.out.mono HB1.out.size)
            have hbl5 : b < w5.heap.size := Nat.lt_of_lt_of_le hbl hw15.size
            have hc5 : w5.cell? ⟨b, o + q, none⟩ = some (.bool (f q)) := (hw15.cell (p := ⟨b, o + q, none⟩) hbl).trans hc
            have hci := ((below_iter w5 s (q + 1)).cell (p := ⟨b, o + q, none⟩) hbl5).trans hc5
            clear hc hw15 hc5
            cases hf : f q with
            | true =>
              rw [hf] at e5 hci
              have hn32 : (s[q] + 32).toNat = s[q].toNat + 32 := by
                rw [UInt8.toNat_add]
                have : (32 : UInt8).toNat = 32 := rfl
                omega
              have hen : Utf8.encode ((s[q].toNat : Int) + 32) = ⟨#[s[q] + 32]⟩ := enc_small (s[q] + 32) _ (by omega) (by omega)
              replace e5 : (⟨cur.toArray⟩ : ByteArray) ++ ⟨#[s[q] + 32]⟩ = ⟨p5.toArray⟩ := e5
              clear hn32
              go_wp2_with fail
              go_roundw
              case rel => exact ⟨q + 1, rfl, hlt, by rw [HP5.out, ← e5]⟩
              case measure => rw [World.iterPos_iter, World.iterPos_iter]; omega
            | false =>
              rw [hf] at e5 hci
              have hen : Utf8.encode (s[q].toNat : Int) = ⟨#[s[q]]⟩ := enc_small s[q] _ rfl (by omega)
              replace e5 : (⟨cur.toArray⟩ : ByteArray) ++ ⟨#[s[q]]⟩ = ⟨p5.toArray⟩ := e5
              go_wp2_with fail
              go_roundw
              case rel => exact ⟨q + 1, rfl, hlt, by rw [HP5.out, ← e5]⟩
              case measure => rw [World.iterPos_iter, World.iterPos_iter]; omega
          · have hf : f q = false := HC.out.1 q (by omega)
            have hd : decide (q < n') = false := by simpa using hin
            rw [hf] at e5
            have hen : Utf8.encode (s[q].toNat : Int) = ⟨#[s[q]]⟩ := enc_small s[q] _ rfl (by omega)
            replace e5 : (⟨cur.toArray⟩ : ByteArray) ++ ⟨#[s[q]]⟩ = ⟨p5.toArray⟩ := e5
            go_wp2_with fail
            go_roundw
            case rel => exact ⟨q + 1, rfl, hlt, by rw [HP5.out, ← e5]⟩
            case measure => rw [World.iterPos_iter, World.iterPos_iter]; omega
        · obtain rfl : q = s.size := by omega
          have hnx := fun ty => run_next_end (P := Tryd.prog) w5 s s.size ty (Nat.lt_irrefl _)
          have htk : nm.take s.size = nm := by rw [← HYL.out, List.take_length]
          rw [htk]
          clear htk
          have HG6 := Lib.hid (HG3.out.trans (hbi.mono HG3.out.size))
          have HX6 := Lib.hid (HX.out.on hbi)
          have hcy6 := (hbi.cell (p := ⟨g, j, none⟩) hgl).trans hcy
          have hgl6 : g < (w5.iter s s.size).heap.size := Nat.lt_of_lt_of_le hgl hbi.size
          have hL6 := HL1.out.on HG6.out
          have HL6 := Lib.hid hL6
          have hnm3 : nm.length = 3 := by rw [HYL.out, HS3.out]
          have HVal := Lib.hid (fun W hW => value_s kk nm W hW HK.out (by omega))
          have hvn := value_name HXn.out f
          rw [HLow.out] at hvn
          rw [hvn] at HVal
          simp only [some2, Option.getD_some, Option.isSome_some] at HVal
          clear hL6 hvn hbi hlt hq hcx hcy hgl
          unfold strV at *
          go_wp2_with fail
          generalize w5.iter s s.size = w6 at *
          obtain ⟨q1b, q2b, q3b, q4b⟩ := hbd
          refine (HVal.out _ HL6.out).mono ?_
          rintro e w7 ⟨rfl, hb⟩
          have HG7 := Lib.hid (HG6.out.trans (hb.mono HG6.out.size)); have HX7 := Lib.hid (HX6.out.on hb); have HL7 := Lib.hid (HL6.out.on hb)
          have hcy7 := (hb.cell (p := ⟨g, j, none⟩) hgl6).trans hcy6
          have hgl7 : g < w7.heap.size := Nat.lt_of_lt_of_le hgl6 hb.size
          obtain ⟨c0, c1, f0, f1⟩ := HX7.out.cells
          have hgr7 := HX7.out.lt
          obtain ⟨M, E, hM1, hM2, hME⟩ := read_two HXn.out HYn.out f (by have := HAe.out; have := HZe.out; omega) (by have := HAe.out; have := HZe.out; omega)
          rw [HLow.out] at hM1
          have hI0 := fun W => itoa_any (loK kk + i) W (by have := HAe.out; omega)
          have hI1 := fun W => itoa_any (loK kk + j) W (by have := HAe.out; omega)
          have eI : ((loK kk + i : Nat) : Int) = a + (i : Int) := by have := HAe.out; omega
          have eJ : ((loK kk + j : Nat) : Int) = a + (j : Int) := by have := HAe.out; omega
          rw [eI] at hI0 ⊢
          rw [eJ] at hI1
          have l0 := dgs_len (loK kk + i); have l1 := dgs_len (loK kk + j)
          have ly := names_len kk y (List.mem_of_getElem? HYn.out)
          generalize dgsN (loK kk + i) = d0 at *
          generalize dgsN (loK kk + j) = d1 at *
          obtain ⟨p1, e1, k1, r1⟩ := join_str nm [45] nm.length 1 rfl rfl
          obtain ⟨p2, e2, k2, r2⟩ := join_str p1 y p1.length y.length rfl rfl
          obtain ⟨q1, e3, k3, r3⟩ := join_str d0 [45] d0.length 1 rfl rfl
          obtain ⟨q2, e4, k4, r4⟩ := join_str q1 d1 q1.length d1.length rfl rfl
          have g1 : ¬ (9223372036854775807 < nm.length + 1) := by omega
          have g2' : ¬ (9223372036854775807 < p1.length + y.length) := by omega
          have g3 : ¬ (9223372036854775807 < d0.length + 1) := by omega
          have g4 : ¬ (9223372036854775807 < q1.length + d1.length) := by omega
          replace e1 : (⟨nm.toArray⟩ : ByteArray) ++ ⟨#[45]⟩ = ⟨p1.toArray⟩ := e1
          replace e3 : (⟨d0.toArray⟩ : ByteArray) ++ ⟨#[45]⟩ = ⟨q1.toArray⟩ := e3
          rw [show nm ++ 45 :: y = p2 by rw [r2, r1]; simp] at hM1
          rw [show d0 ++ 45 :: d1 = q2 by rw [r4, r3]; simp] at hM2
          have HR1 := Lib.hid (fun W hW => read_l kk p2 W hW HK.out (by unfold maxLen; omega))
          have HR2 := Lib.hid (fun W hW => read_l kk q2 W hW HK.out (by unfold maxLen; omega))
          rw [hM1] at HR1
          rw [hM2] at HR2
          have HI0 := Lib.hid hI0; have HI1 := Lib.hid hI1
          have HME := Lib.hid hME
          unfold readV strV at *
          dsimp only at HR1 HR2
          clear hI0 hI1 eI eJ r1 r2 r3 r4 hM1 hM2 hME hb hcy6 hgl6 hnx k1 k2 k3 k4
          go_wp2_with fail
          refine (HR1.out _ HL7.out).mono ?_
          rintro e w8 ⟨rfl, hb⟩
          have HG8 := Lib.hid (HG7.out.trans (hb.mono HG7.out.size)); have HX8 := Lib.hid (HX7.out.on hb); have HL8 := Lib.hid (HL7.out.on hb)
          clear hb hcy7 hgl7 c0 c1 f0 f1 hgr7
          obtain ⟨c0, c1, f0, f1⟩ := HX8.out.cells
          have hgr8 := HX8.out.lt
          have hBE := Below.refl w8.heap.size w8
          have hwI : IntKind.i64.wrap (a + (i : Int)) = a + (i : Int) := by rw [IntKind.wrap_i64]; omega
          have hwJ : IntKind.i64.wrap (a + (j : Int)) = a + (j : Int) := by rw [IntKind.wrap_i64]; omega
          have HKK : Hid (∀ w', Below w8.heap.size w8 w' → w'.cell? ⟨g2, 0, none⟩ = some (.int .i64 a) ∧ w'.cell? ⟨g2, 1, none⟩ = some (.int .i64 z)) := Lib.hid (fun w' hb => ⟨(HX8.out.on hb).cells.1, (HX8.out.on hb).cells.2.1⟩)
          clear c0 c1 f0 f1
          go_wp2_with fail
          go_region_held3 (fun w' => w'.cell? ⟨g2, 0, none⟩ = some (.int .i64 a) ∧ w'.cell? ⟨g2, 1, none⟩ = some (.int .i64 z)) (first | exact HKK.out _ hBE | exact HKK.out _ hBE.drew) (first
            | (go_at_call 26; (first | (with_reducible refine (HI0.out _).mono ?_) | (with_reducible refine (HI1.out _).mono ?_)); rintro e wa ⟨rfl, rfl⟩)
            | (go_at_call 21; (first | (with_reducible refine (HR2.out _ (HL8.out.on hBE)).mono ?_) | (with_reducible refine (HR2.out _ (HL8.out.on hBE.drew)).mono ?_)); rintro e wa ⟨rfl, hb⟩; first | (replace hBE := hBE.drew.trans (hb.mono hBE.size); clear hb) | (replace hBE := hBE.trans (hb.mono hBE.size); clear hb)))
          rename_i hHeld
          have HG9 := Lib.hid (HG8.out.trans (hBE.mono HG8.out.size)); have HX9 := Lib.hid (HX8.out.on hBE); have HL9 := Lib.hid (HL8.out.on hBE)
          clear hHeld hBE HKK
          obtain ⟨c0, c1, f0, f1⟩ := HX9.out.cells
          have hgr9 := HX9.out.lt
          have hlow := toLower_low HLet.out f
          rw [HLow.out] at hlow
          have HTL := Lib.hid (fun W => strings_ToLower_ascii ⟨nm.toArray⟩ W (by rw [size_l]; omega) (fun q b hb => by
            have hm := low_small HLet.out f q b (by rw [HLow.out]; simpa using hb)
            omega))
          rw [show (⟨nm.toArray⟩ : ByteArray).data.toList = nm by simp, hlow] at HTL
          have hl3 : (lowN x (fun _ => true) 0).length = 3 := by rw [low_len, h3]
          have HV1 := Lib.hid (fun W hW => value_s 1 (lowN x (fun _ => true) 0) W hW (by decide) (by omega))
          rw [no_name HXn.out (fun _ => true)] at HV1
          simp only [some2, Option.getD_none, Option.isSome_none, show ((1 : Nat) : Int) = 1 by rfl] at HV1
          unfold strV at HV1
          clear hlow hl3
          generalize lowN x (fun _ => true) 0 = nm2 at *
          have hEE := HME.out
          by_cases hij : i ≤ j
          · have hE0 : (E == 0) = true := by rw [hEE]; simpa using hij
            have hE1 : E = 0 := by simpa using hE0
            have hd1 : decide (i ≤ j) = true := by simpa using hij
            subst hE1
            clear hEE hE0
            go_wp2_with fail
            refine (HTL.out _).mono ?_
            rintro e w10 ⟨rfl, hb⟩
            have HG10 := Lib.hid (HG9.out.trans (hb.mono HG9.out.size)); have HL10 := Lib.hid (HL9.out.on hb)
            clear hb c0 c1 f0 f1 hgr9
            go_wp2_with fail
            refine (HV1.out _ HL10.out).mono ?_
            rintro e w11 ⟨rfl, hb⟩
            have HG11 := Lib.hid (HG10.out.trans (hb.mono HG10.out.size))
            clear hb
            have HMf := Lib.hid (HM1.out.on HG11.out (by omega) (by omega))
            go_wp2_with fail
            go_roundw
            case rel => exact ⟨cnt1, HMf.out, HA3.out.below HG11.out, HA4.out.below HG11.out, HB1.out.trans (HG11.out.mono HB1.out.size), by have := HG11.out.size; omega⟩
            case measure => rw [HMf.out.left, HMs.out.1]; exact HMs.out.2
          · have hE0 : (E == 0) = false := by rw [hEE]; simpa using hij
            have hd1 : decide (i ≤ j) = false := by simpa using hij
            clear hEE
            go_wp2_with fail
            refine (HTL.out _).mono ?_
            rintro e w10 ⟨rfl, hb⟩
            have HG10 := Lib.hid (HG9.out.trans (hb.mono HG9.out.size)); have HL10 := Lib.hid (HL9.out.on hb)
            clear hb c0 c1 f0 f1 hgr9
            go_wp2_with fail
            refine (HV1.out _ HL10.out).mono ?_
            rintro e w11 ⟨rfl, hb⟩
            have HG11 := Lib.hid (HG10.out.trans (hb.mono HG10.out.size))
            clear hb
            have HMf := Lib.hid (HM1.out.on HG11.out (by omega) (by omega))
            go_wp2_with fail
            go_roundw
            case rel => exact ⟨cnt1, HMf.out, HA3.out.below HG11.out, HA4.out.below HG11.out, HB1.out.trans (HG11.out.mono HB1.out.size), by have := HG11.out.size; omega⟩
            case measure => rw [HMf.out.left, HMs.out.1]; exact HMs.out.2
end Go.Proofs.YtmgeefmhnhdmjaaDoor
