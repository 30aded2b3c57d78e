/- Texts of this seat, one behind the other: FLib, FLibM, FSame, FItemM, FCheck, FVal, FValues, FSpan, FPart, FPart2, FEach, FItem, FRead, FStep, FRuns, FOne, FRKind, FRUp, FRText, FRVal, FRItem, FRRead, FRDig, FRTxt, FWakes, FReads. -/
import Derived.Test.YthghcffibljclaaDoorR1
import Derived.Test.YthghcffibljclaaDoorProg
import Derived.WalkKit
import Derived.BigQuiet
import Derived.Lib.ItoaNum
import Derived.Lib.SplitLaws
import Derived.Lib.Join
import Derived.Deep.RegionHeld3
import Derived.Deep.DeepCutAuto
import Derived.Laws.OwnMore
import Derived.Laws.MakeOwn
import Derived.Laws.AppendOwn
import Derived.RangeFuncBox
import Derived.Maps.AppendAt
import Derived.Laws.IdiomStrings
import Derived.Lib.SmallJoins
/- Nothing: the seat has no strings. -/
/- The library's contracts in the words of fields: cut at a byte, split at commas, joined by commas, a number below 100. -/
namespace Go.Proofs.YthghcffibljclaaDoor
open Go.RowKit

theorem index_one (c : UInt8) : ∀ l : List UInt8, (c ∉ l ∧ Lib.index l [c] = -1) ∨ ∃ r, l = (cutB l c).1 ++ c :: r ∧ (cutB l c).2 = some r ∧ Lib.index l [c] = ((cutB l c).1.length : Nat)
  | [] => .inl ⟨by simp, by simp [Lib.index]⟩
  | b :: l => by
    by_cases e : b = c
    · subst e
      refine .inr ⟨l, by simp [cutB], by simp [cutB], ?_⟩
      rw [Lib.index]
      simp [List.isPrefixOf, cutB]
    · have hp : ([c] : List UInt8).isPrefixOf (b :: l) = false := by simp [List.isPrefixOf, Ne.symm e]
      have hix : Lib.index (b :: l) [c] = if Lib.index l [c] == -1 then -1 else Lib.index l [c] + 1 := by rw [Lib.index, hp]; simp
      rcases index_one c l with ⟨h1, h2⟩ | ⟨r, h1, h2, h3⟩
      · refine .inl ⟨by simp [h1]; exact fun q => e q.symm, ?_⟩
        rw [hix, h2]; rfl
      · refine .inr ⟨r, ?_, ?_, ?_⟩
        · rw [cutB, if_neg e]
          show b :: l = b :: ((cutB l c).1 ++ c :: r)
          rw [← h1]
        · rw [cutB, if_neg e]; exact h2
        · rw [hix, h3, if_neg (by simp), cutB, if_neg e]
          simp
theorem cut_one (l : List UInt8) (c : UInt8) : Lib.cut l [c] = ((cutB l c).1, (cutB l c).2.getD [], (cutB l c).2.isSome) := by
  unfold Lib.cut
  rcases index_one c l with ⟨h1, h2⟩ | ⟨r, h1, h2, h3⟩
  · rw [h2, if_neg (by decide), cutB_none h1]; rfl
  · rw [h3, if_pos (by omega), h2, Int.toNat_natCast]
    generalize (cutB l c).1 = a at *
    subst h1
    simp
theorem splitK_one : ∀ (n : Nat) (l : List UInt8), Lib.count l [44] = n → Lib.splitK [44] 0 n l = splitC l
  | 0, l, h => by
    rcases index_one 44 l with ⟨h1, h2⟩ | ⟨r, h1, h2, h3⟩
    · rw [Lib.splitK, split_none h1]
    · rw [Lib.count_hit (by simp) h3] at h; omega
  | n + 1, l, h => by
    rcases index_one 44 l with ⟨h1, h2⟩ | ⟨r, h1, h2, h3⟩
    · rw [Lib.count_miss h2] at h; omega
    · rw [Lib.count_hit (by simp) h3] at h
      have hd : l.drop ((cutB l 44).1.length + [(44 : UInt8)].length) = r := by
        generalize (cutB l 44).1 = a at *
        subst h1
        simp
      have ht : l.take ((cutB l 44).1.length + 0) = (cutB l 44).1 := by
        generalize (cutB l 44).1 = a at *
        subst h1
        simp
      rw [hd] at h
      rw [Lib.splitK, h3, if_neg (by simp), Int.toNat_natCast, hd, ht, splitK_one n r (by omega), split_cut l, h2]
theorem join_c : ∀ ps : List (List UInt8), Lib.join ps [44] = joinC ps
  | [] => rfl
  | [p] => by rw [Lib.join_one]; rfl
  | p :: q :: ps => by
    have h := join_c (q :: ps)
    rw [Lib.join_cons] at h ⊢
    rw [joinC, ← h]
    simp [Lib.joinTail]
theorem dec_dgs {n : Nat} (h : n < 100) : Lib.decDigits n = dgsN n := by
  unfold dgsN
  by_cases h1 : n < 10
  · rw [Lib.decDigits, dif_pos h1, if_pos h1]
    unfold dg
    rw [Nat.mod_eq_of_lt h1]
  · rw [Lib.decDigits, dif_neg h1, if_neg h1, Lib.decDigits, dif_pos (by omega)]
    unfold d2 dg
    rw [Nat.mod_eq_of_lt (show n / 10 < 10 by omega)]; rfl
end Go.Proofs.YthghcffibljclaaDoor
/- same: whether a text is a name; step: walked. -/
namespace Go.Proofs.YthghcffibljclaaDoor
open Go.RowKit

/-- What step comes to. -/
def stepP (l : List UInt8) : Option Nat := stepL (some l)
theorem stepP_of {l : List UInt8} {n : Nat} (h : numS l = some n) (h1 : 1 ≤ n) (h2 : n ≤ 63) : stepP l = some n := by
  unfold stepP stepL
  simp only
  rw [(numS_iff l n (by omega)).1 h]
  simp only
  rw [if_pos ⟨h1, h2⟩]
theorem stepP_no {l : List UInt8} (h : numS l = none ∨ ∃ n, numS l = some n ∧ (n < 1 ∨ 63 < n)) : stepP l = none := by
  unfold stepP stepL
  simp only
  split
  · rename_i n hn
    split
    · rename_i hc
      have := (numS_iff l n (by omega)).2 hn
      rcases h with h | ⟨m, h, h'⟩
      · rw [h] at this; cases this
      · rw [h] at this; cases this; omega
    · rfl
  · rfl
end Go.Proofs.YthghcffibljclaaDoor
/- Items, plain: the program's ways come to the document's. -/
namespace Go.Proofs.YthghcffibljclaaDoor
open Go Go.Op

/-- The program's way with 7. -/
def fixP (k : Nat) (m : BitVec 64) : BitVec 64 := (m &&& ~~~(m &&& ~~~(wholeM k))) ||| ((m &&& ~~~(wholeM k)) >>> 7)
theorem fixP_is {k a t : Nat} {s : Int} {m : BitVec 64} (_hk : k < 5) (ha : loK k ≤ a) (ht : t ≤ topK k) (h : spanM a t s = some m) : fixP k m = fix7 k m := by
  have hin : ∀ i, m.getLsbD i = true → loK k ≤ i ∧ i ≤ topK k := fun i hi => by have := span_in h hi; omega
  have hhi := hi_lt k
  apply BitVec.eq_of_getLsbD_eq
  intro i hi
  unfold fixP
  simp only [BitVec.getLsbD_or, BitVec.getLsbD_and, BitVec.getLsbD_not, BitVec.getLsbD_ushiftRight, whole_bit]
  by_cases hc : k = 4 ∧ m.getLsbD 7 = true
  · obtain ⟨rfl, h7⟩ := hc
    unfold fix7
    rw [if_pos ⟨rfl, h7⟩, mk_bit]
    have e0 : loK 4 = 0 := rfl
    have e1 : hiK 4 = 6 := rfl
    have e2 : topK 4 = 7 := rfl
    rw [e0, e1]
    have hx := hin i
    have hy := hin (7 + i)
    rw [e0, e2] at hx hy
    by_cases h0 : i = 0
    · subst h0
      simp [h7]
    · have hny : m.getLsbD (7 + i) = false := by
        cases hh : m.getLsbD (7 + i) with
        | false => rfl
        | true => have := hy hh; omega
      rw [hny]
      cases hm : m.getLsbD i with
      | false => simp [h0]
      | true =>
        have := hx hm
        by_cases h6 : i = 7
        · subst h6; simp
        · simp [hi, h0, h6]; omega
  · rw [fix7_other hc]
    have hw : ∀ j, m.getLsbD j = true → loK k ≤ j ∧ j ≤ hiK k := fun j hj => by
      have h1 := hin j hj
      refine ⟨h1.1, ?_⟩
      have h2 := h1.2
      unfold topK at h2
      by_cases h4 : k = 4
      · subst h4
        rw [if_pos rfl] at h2
        have : j ≠ 7 := fun e => hc ⟨rfl, by rw [← e]; exact hj⟩
        show j ≤ 6
        omega
      · rw [if_neg h4] at h2; exact h2
    have hn : (m.getLsbD (7 + i) && (decide (7 + i < 64) && !decide (7 + i < 64 ∧ loK k ≤ 7 + i ∧ 7 + i ≤ hiK k))) = false := by
      cases hm : m.getLsbD (7 + i) with
      | false => rfl
      | true =>
        have h1 := hw _ hm
        have h2 := BitVec.lt_of_getLsbD hm
        simp [h1, h2]
    rw [hn]
    cases hm : m.getLsbD i with
    | false => simp
    | true =>
      have h1 := hw _ hm
      simp [h1, hi]
def spanP (k : Nat) (f t n : Int) : Option (BitVec 64) := (spanM f t n).map (fixP k)
theorem spanP_is {k a t : Nat} {s : Int} (hk : k < 5) (ha : loK k ≤ a) (ht : t ≤ topK k) : spanP k a t s = (spanM a t s).map (fix7 k) := by
  unfold spanP
  cases h : spanM a t s with
  | none => rfl
  | some m => simp only [Option.map_some]; rw [fixP_is hk ha ht h]
theorem spanP_hi {k a t : Nat} {s : Int} (hk : k < 5) (ha : loK k ≤ a) (ht : t ≤ hiK k) : spanP k a t s = spanM a t s := by
  rw [spanP_is hk ha (Nat.le_trans ht (top_hi k)), fix_within ht]
def wholeP (k : Nat) (s : List UInt8) : Option (BitVec 64) := if s = [42] then some (wholeM k) else none
def eachP (k : Nat) (s : List UInt8) : Option (BitVec 64) := match (cutB s 47).2 with
  | none => none
  | some b => if (cutB s 47).1 = [42] then match stepP b with
    | none => none
    | some n => spanP k (loK k) (hiK k) n
    else none
def oneP (k : Nat) (s : List UInt8) : Option (BitVec 64) := match valueL k s with
  | none => none
  | some n => spanP k n n 1
def betP (k : Nat) (s : List UInt8) (n : Nat) : Option (BitVec 64) := match (cutB s 45).2 with
  | none => none
  | some b => match valueL k (cutB s 45).1 with
    | none => none
    | some x => match valueL k b with
      | none => none
      | some y => spanP k x y n
def rowByP (k : Nat) (s : List UInt8) : Option (BitVec 64) := match (cutB s 47).2 with
  | none => none
  | some b => match stepP b with
    | none => none
    | some n => betP k (cutB s 47).1 n
def itemP (k : Nat) (s : List UInt8) : Option (BitVec 64) := (wholeP k s).or ((eachP k s).or ((oneP k s).or ((betP k s 1).or (rowByP k s))))
theorem value_not {k : Nat} {s : List UInt8} {c : UInt8} (hc : c.toNat < 48) (h : c ∈ s) : valueL k s = none := by
  unfold valueL
  have h1 : (namesK k).findIdx? (fun nm => upL s == nm) = none := by
    rw [List.findIdx?_eq_none_iff]
    intro nm hnm
    rw [← Bool.not_eq_true, beq_iff_eq]
    intro e
    have hu : upB c = c := by unfold upB; rw [if_neg (by omega)]
    have hm : c ∈ nm := by rw [← e]; unfold upL; rw [List.mem_map]; exact ⟨c, h, hu⟩
    have hl := names_letters k nm hnm
    rw [List.all_eq_true] at hl
    have := hl c hm
    unfold letter at this
    simp at this
    omega
  rw [h1]
  have h2 : numL s = none := by
    unfold numL
    rw [if_pos]
    refine .inr (.inr (.inr ?_))
    rw [← Bool.not_eq_true]
    intro q
    unfold digs at q
    rw [List.all_eq_true] at q
    have := q c h
    unfold isDg at this
    simp at this
    omega
  rw [h2]
theorem bet_spec {k : Nat} {s : List UInt8} {n : Nat} (hk : k < 5) : betP k s n = match valueL k (cutB s 45).1 with
    | none => none
    | some x => match (cutB s 45).2 with
      | none => none
      | some b => match valueL k b with
        | none => none
        | some y => (spanM x y n).map (fix7 k) := by
  unfold betP
  cases (cutB s 45).2 with
  | none => cases valueL k (cutB s 45).1 <;> rfl
  | some b =>
    simp only
    cases hx : valueL k (cutB s 45).1 with
    | none => rfl
    | some x =>
      simp only
      cases hy : valueL k b with
      | none => rfl
      | some y => exact spanP_is hk (value_in hk hx).1 (value_in hk hy).2
theorem itemP_is {k : Nat} (hk : k < 5) (s : List UInt8) : itemP k s = itemL k s := by
  unfold itemP itemL
  obtain ⟨hn47, hA | ⟨b, hB, hs⟩⟩ := cutB_spec s 47
  · obtain ⟨h2, h1⟩ := hA
    have he : eachP k s = none := by unfold eachP; rw [h2]
    have hr : rowByP k s = none := by unfold rowByP; rw [h2]
    rw [he, hr, h2, h1]
    simp only [stepL, Option.isSome_none, Option.none_or, Option.or_none]
    unfold spanL
    by_cases h42 : s = [42]
    · unfold wholeP
      rw [if_pos h42, if_pos h42]
      exact (whole_span k).symm
    · unfold wholeP
      rw [if_neg h42, if_neg h42, Option.none_or, bet_spec hk]
      obtain ⟨_, hC | ⟨d, hD, hs2⟩⟩ := cutB_spec s 45
      · rw [hC.1, hC.2]
        unfold oneP
        cases hv : valueL k s with
        | none => rfl
        | some a =>
          simp only [Option.or_none]
          rw [if_neg (by decide)]
          exact spanP_is hk (value_in hk hv).1 (value_in hk hv).2
      · have hv : valueL k s = none := value_not (c := 45) (by decide) (by rw [hs2]; simp)
        unfold oneP
        rw [hv, hD]
        rfl
  · have h47 : (47 : UInt8) ∈ s := by rw [hs]; simp
    have hw : wholeP k s = none := by
      unfold wholeP
      rw [if_neg]
      rintro rfl
      simp at h47
    have ho : oneP k s = none := by
      unfold oneP
      rw [value_not (c := 47) (by decide) h47]
    have hb : betP k s 1 = none := by
      unfold betP
      obtain ⟨_, hC | ⟨d, hD, hs2⟩⟩ := cutB_spec s 45
      · rw [hC.1]
      · rw [hD]
        simp only
        rw [hs2] at h47
        rcases List.mem_append.1 h47 with h | h
        · rw [value_not (c := 47) (by decide) h]
        · have h' : (47 : UInt8) ∈ d := by
            rcases List.mem_cons.1 h with q | q
            · cases q
            · exact q
          rw [value_not (c := 47) (by decide) h']
          cases valueL k (cutB s 45).1 <;> rfl
    rw [hw, ho, hb, hB]
    unfold eachP rowByP
    rw [hB]
    simp only [Option.none_or, Option.isSome_some]
    show _ = match stepP b with | none => none | some by_ => spanL k (cutB s 47).1 true by_
    generalize (cutB s 47).1 = sp at *
    cases stepP b with
    | none => simp
    | some n =>
      simp only
      unfold spanL
      by_cases h42 : sp = [42]
      · rw [if_pos h42, if_pos h42]
        have hbn : betP k sp n = none := by rw [h42]; rfl
        rw [hbn, Option.or_none]
        exact spanP_hi hk (Nat.le_refl _) (Nat.le_refl _)
      · rw [if_neg h42, if_neg h42, Option.none_or, bet_spec hk]
        cases valueL k (cutB sp 45).1 with
        | none => rfl
        | some x =>
          simp only
          cases (cutB sp 45).2 with
          | none => rfl
          | some d => rfl
end Go.Proofs.YthghcffibljclaaDoor
/- Ends, Whole, Check; the document's Kind, Ends, Whole, Right: walked. -/
namespace Go.Proofs.YthghcffibljclaaDoor
open Go.RowKit

def runV (a b : Int) : Value := .agg #[.int .i64 a, .int .i64 b]
theorem hi_bd (k : Nat) : ((loK k : Nat) : Int) ≤ 1 ∧ ((hiK k : Nat) : Int) ≤ 59 ∧ (0 : Int) ≤ (loK k : Nat) ∧ (0 : Int) ≤ (hiK k : Nat) := by
  have := hi_lt k
  omega
theorem span_whole (k : Nat) (w : World) : Calls Tryd.prog 64 #[.int .i64 (loK k : Nat), .int .i64 (hiK k : Nat), .int .i64 1] w fun e w' => e = .returned (.tuple #[.int .u64 (U (wholeM k)), .int .i64 0]) ∧ w' = w := by
  have h := span_any (loK k : Nat) (hiK k : Nat) 1 w
  rw [whole_span] at h
  exact h.mono fun _ _ ⟨a, b⟩ => ⟨a, b.symm⟩
set_option maxRecDepth 100000 in
theorem whole_yes (k : Nat) (w : World) (hL : Laid w) (h : k < 5) :
    Calls Tryd.prog 58 #[.int .i64 (k : Int)] w fun e w' => e = .returned (.int .u64 (U (wholeM k))) ∧ Below w.heap.size w w' := by
  have h0 := hL.lo k h
  have h1 := hL.hi k h
  have hg : 0 < w.heap.size := by have := hL.lt; show 0 < w.heap.size; omega
  have hk5 : (k : Int) < 5 := by omega
  have HS := Lib.hid (fun W => span_whole k W)
  clear hL
  generalize wholeM k = m at *
  generalize ((loK k : Nat) : Int) = a at *
  generalize ((hiK k : Nat) : Int) = b at *
  go_enter Tryd.func58, Tryd.ntmps58
  go_wp2_with fail
  refine (there_yes k _ h).mono ?_
  rintro e w' ⟨rfl, rfl⟩
  go_wp2_with fail
  go_quiet ((go_at_call 64; with_reducible exact Calls.quiet_of_same (HS.out _)))
  go_wp2_with fail
  go_ret
  exact ⟨rfl, bdrewN (Below.refl _ _) _⟩
theorem whole_no (z : Int) (w : World) (h : NoKind z) :
    Calls Tryd.prog 58 #[.int .i64 z] w fun e w' => e = .returned (.int .u64 0) ∧ Below w.heap.size w w' := by
  have H := Lib.hid h
  clear h
  go_enter Tryd.func58, Tryd.ntmps58
  go_wp2_with fail
  refine (there_no z _ H.out).mono ?_
  rintro e w' ⟨rfl, rfl⟩
  go_wp2_with fail
  go_ret
  exact ⟨rfl, Below.refl _ _⟩
/-- Whether it is a field. -/
def fieldB (k : Nat) (m : BitVec 64) : Bool := m != 0#64 && (m &&& ~~~(wholeM k)) == 0#64
theorem less_whole (k : Nat) (m : BitVec 64) : (m &&& ~~~(wholeM k)) = 0#64 ↔ ∀ i, m.getLsbD i = true → loK k ≤ i ∧ i ≤ hiK k := by
  constructor
  · intro h i hi
    have h64 := BitVec.lt_of_getLsbD hi
    have := congrArg (fun x => x.getLsbD i) h
    simp only [BitVec.getLsbD_and, BitVec.getLsbD_not, hi, whole_bit, h64] at this
    simpa using this
  · intro h
    apply BitVec.eq_of_getLsbD_eq
    intro i hi
    rw [BitVec.getLsbD_and, BitVec.getLsbD_not, whole_bit]
    cases hm : m.getLsbD i with
    | false => simp
    | true => have := h i hm; simp [hi, this]
theorem fieldB_iff (k : Nat) (m : BitVec 64) : fieldB k m = true ↔ FieldM k m := by
  unfold fieldB FieldM
  rw [Bool.and_eq_true, beq_iff_eq, less_whole]
  simp
theorem u_ne (x : BitVec 64) : (U x != 0) = (x != 0#64) := by
  rw [Bool.eq_iff_iff, bne_iff_ne, bne_iff_ne, ← U_zero, ne_eq, U_inj]
theorem u_eq (x : BitVec 64) : (U x == 0) = (x == 0#64) := by
  rw [Bool.eq_iff_iff, beq_iff_eq, beq_iff_eq, ← U_zero, U_inj]
theorem check_no (z : Int) (m : BitVec 64) (w : World) (h : NoKind z) :
    Calls Tryd.prog 43 #[.int .i64 z, .int .u64 (U m)] w fun e w' => e = .returned (.int .i64 2) ∧ Below w.heap.size w w' := by
  have H := Lib.hid h
  clear h
  go_enter Tryd.func43, Tryd.ntmps43
  go_wp2_with fail
  refine (there_no z _ H.out).mono ?_
  rintro e w' ⟨rfl, rfl⟩
  go_wp2_with fail
  go_ret
  exact ⟨rfl, Below.refl _ _⟩
set_option maxRecDepth 100000 in
theorem check_yes (k : Nat) (m : BitVec 64) (w : World) (hL : Laid w) (h : k < 5) :
    Calls Tryd.prog 43 #[.int .i64 (k : Int), .int .u64 (U m)] w fun e w' => e = .returned (.int .i64 (if fieldB k m = true then 0 else 160)) ∧ Below w.heap.size w w' := by
  have HW := Lib.hid (whole_yes k w hL h)
  clear hL
  by_cases h0 : m = 0#64
  · subst h0
    have hz : (U 0#64 == 0) = true := by rw [u_eq]; rfl
    have hf : fieldB k 0#64 = false := rfl
    rw [hf, if_neg (by decide)]
    go_enter Tryd.func43, Tryd.ntmps43
    go_wp2_with fail
    refine (there_yes k _ h).mono ?_
    rintro e w' ⟨rfl, rfl⟩
    go_wp2_with fail
    go_ret
    exact ⟨rfl, Below.refl _ _⟩
  · have hz : (U m == 0) = false := by rw [u_eq]; simpa using h0
    have hq : (U (g_less m (wholeM k)) != 0) = (!fieldB k m) := by
      rw [u_ne]; unfold fieldB g_less
      have : (m != 0#64) = true := by simpa using h0
      rw [this, Bool.true_and]; rfl
    have HL := Lib.hid (fun W => less_any m (wholeM k) W)
    unfold g_less at hq
    cases hf : fieldB k m with
    | true =>
      rw [hf] at hq
      rw [if_pos rfl]
      have hx : (U (m &&& ~~~wholeM k) != 0) = false := hq
      clear hf hq h0
      go_enter Tryd.func43, Tryd.ntmps43
      go_wp2_with fail
      refine (there_yes k _ h).mono ?_
      rintro e w' ⟨rfl, rfl⟩
      go_wp2_with fail
      refine HW.out.mono ?_
      rintro e w2 ⟨rfl, hb⟩
      go_wp2_with fail
      refine (HL.out _).mono ?_
      rintro e w3 ⟨rfl, hb3⟩
      have hB := hb.trans (hb3.mono hb.size)
      go_wp2_with fail
      go_ret
      exact ⟨rfl, hB⟩
    | false =>
      rw [hf] at hq
      rw [if_neg (by decide)]
      have hx : (U (m &&& ~~~wholeM k) != 0) = true := hq
      clear hf hq h0
      go_enter Tryd.func43, Tryd.ntmps43
      go_wp2_with fail
      refine (there_yes k _ h).mono ?_
      rintro e w' ⟨rfl, rfl⟩
      go_wp2_with fail
      refine HW.out.mono ?_
      rintro e w2 ⟨rfl, hb⟩
      go_wp2_with fail
      refine (HL.out _).mono ?_
      rintro e w3 ⟨rfl, hb3⟩
      have hB := hb.trans (hb3.mono hb.size)
      go_wp2_with fail
      go_ret
      exact ⟨rfl, hB⟩
end Go.Proofs.YthghcffibljclaaDoor
/- values, and what it makes: the value of a text: walked. -/
namespace Go.Proofs.YthghcffibljclaaDoor
open Go.RowKit

/-- What a closure of values holds: its three variables. -/
def ValAt (w : World) (k p q r : Nat) : Prop := w.cell? ⟨p, 0, none⟩ = some (.int .i64 (loK k : Nat)) ∧ w.cell? ⟨q, 0, none⟩ = some (.int .i64 (topK k : Nat)) ∧ w.cell? ⟨r, 0, none⟩ = some (.int .i64 (k : Nat)) ∧ p < w.heap.size ∧ q < w.heap.size ∧ r < w.heap.size
theorem ValAt.on {w w' : World} {k p q r : Nat} (h : ValAt w k p q r) (hb : Below w.heap.size w w') : ValAt w' k p q r :=
  ⟨(hb.cell (p := ⟨p, 0, none⟩) h.2.2.2.1).trans h.1, (hb.cell (p := ⟨q, 0, none⟩) h.2.2.2.2.1).trans h.2.1, (hb.cell (p := ⟨r, 0, none⟩) h.2.2.2.2.2).trans h.2.2.1, Nat.lt_of_lt_of_le h.2.2.2.1 hb.size, Nat.lt_of_lt_of_le h.2.2.2.2.1 hb.size, Nat.lt_of_lt_of_le h.2.2.2.2.2 hb.size⟩
theorem names_size (k : Nat) : (namesK k).length ≤ 12 ∧ (∀ x ∈ namesK k, x.length ≤ 1000) := by
  constructor
  · unfold namesK; split
    · decide
    · split <;> decide
  · intro x hx; rw [names_len k x hx]; omega
theorem name_at {k j : Nat} {s x : List UInt8} (hx : (namesK k)[j]? = some x) (hno : ∀ (i : Nat) (x : List UInt8), i < j → (namesK k)[i]? = some x → sameL s x = false) (h : sameL s x = true) : nameP k s = some j := by
  unfold nameP
  obtain ⟨hlt, hv⟩ := List.getElem?_eq_some_iff.1 hx
  rw [List.findIdx?_eq_some_iff_getElem]
  refine ⟨hlt, by rw [hv]; exact h, fun i hi => ?_⟩
  rw [hno i _ hi (List.getElem?_eq_getElem (by omega))]; simp
theorem name_next {k j : Nat} {s x : List UInt8} (hx : (namesK k)[j]? = some x) (hno : ∀ (i : Nat) (x : List UInt8), i < j → (namesK k)[i]? = some x → sameL s x = false) (h : sameL s x = false) : ∀ (i : Nat) (x : List UInt8), i < j + 1 → (namesK k)[i]? = some x → sameL s x = false := by
  intro i y hi hy
  rcases Nat.lt_or_ge i j with h1 | h1
  · exact hno i y h1 hy
  · obtain rfl : i = j := by omega
    rw [hx] at hy; cases hy; exact h
theorem name_none {k : Nat} {s : List UInt8} (hno : ∀ (i : Nat) (x : List UInt8), i < (namesK k).length → (namesK k)[i]? = some x → sameL s x = false) : nameP k s = none := by
  unfold nameP
  rw [List.findIdx?_eq_none_iff]
  intro x hx
  obtain ⟨i, hi⟩ := List.getElem?_of_mem hx
  exact hno i x (List.getElem?_eq_some_iff.1 hi).1 hi
theorem value_none {k : Nat} {s : List UInt8} (h : numS s = none) : valueL k s = (nameP k s).map (loK k + ·) := by rw [← value_is]; unfold valueP; rw [h]
theorem value_out {k n : Nat} {s : List UInt8} (h : numS s = some n) (hn : ¬ (loK k ≤ n ∧ n ≤ topK k)) : valueL k s = (nameP k s).map (loK k + ·) := by rw [← value_is]; unfold valueP; rw [h]; simp only; rw [if_neg hn]
theorem value_in' {k n : Nat} {s : List UInt8} (h : numS s = some n) (h0 : loK k ≤ n) (h1 : n ≤ topK k) : valueL k s = some n := by rw [← value_is]; unfold valueP; rw [h]; simp only; rw [if_pos ⟨h0, h1⟩]
end Go.Proofs.YthghcffibljclaaDoor
/- values: what makes the closure; Value: walked. -/
namespace Go.Proofs.YthghcffibljclaaDoor
open Go.RowKit

theorem top_is (k : Nat) : topK k = if k = 4 then 7 else hiK k := rfl
theorem box3 (w : World) (t : TypeId) (x y z : Value) : ((((w.alloc (.cells #[x] t)).alloc (.cells #[y] t)).alloc (.cells #[z] t)).drew.cell? ⟨w.heap.size, 0, none⟩ = some x ∧ (((w.alloc (.cells #[x] t)).alloc (.cells #[y] t)).alloc (.cells #[z] t)).drew.cell? ⟨w.heap.size + 1, 0, none⟩ = some y ∧
    (((w.alloc (.cells #[x] t)).alloc (.cells #[y] t)).alloc (.cells #[z] t)).drew.cell? ⟨w.heap.size + 1 + 1, 0, none⟩ = some z) ∧ (((w.alloc (.cells #[x] t)).alloc (.cells #[y] t)).alloc (.cells #[z] t)).drew.heap.size = w.heap.size + 3 ∧
    Below w.heap.size w (((w.alloc (.cells #[x] t)).alloc (.cells #[y] t)).alloc (.cells #[z] t)).drew := by
  refine ⟨⟨by go_simp, by go_simp, by go_simp⟩, by go_simp, ?_⟩
  have h := (((Below.refl w.heap.size w).alloc (Nat.le_refl _) (.cells #[x] t)).alloc (by simp) (.cells #[y] t)).alloc (by simp; omega) (.cells #[z] t)
  exact ⟨h.os, h.tape, h.output, h.size, h.block⟩
end Go.Proofs.YthghcffibljclaaDoor
/- part.span, between, each, one, row, rowBy, whole: walked. -/
namespace Go.Proofs.YthghcffibljclaaDoor
open Go.RowKit

def optM : Option (BitVec 64) → Value
  | none => .tuple #[.int .u64 0, .bool false]
  | some m => .tuple #[.int .u64 (U m), .bool true]
theorem shr7 (x : BitVec 64) : U x / (128 : Int) = U (x >>> 7) := by
  unfold U
  simp [BitVec.toNat_ushiftRight, Nat.shiftRight_eq_div_pow]
end Go.Proofs.YthghcffibljclaaDoor
/- between, one, row, rowBy, each, whole, item: walked. -/
namespace Go.Proofs.YthghcffibljclaaDoor
open Go.RowKit

theorem size_l (l : List UInt8) : (⟨l.toArray⟩ : ByteArray).size = l.length := by show l.toArray.size = _; simp
theorem cut_len (l : List UInt8) (c : UInt8) : (cutB l c).1.length ≤ l.length ∧ ((cutB l c).2.getD []).length ≤ l.length := by
  obtain ⟨_, h | ⟨r, h1, h2⟩⟩ := cutB_spec l c
  · rw [h.1, h.2]; simp
  · rw [h1]
    have := congrArg List.length h2
    simp at this
    simp; omega
end Go.Proofs.YthghcffibljclaaDoor
/- The five ways of an item: walked. -/
namespace Go.Proofs.YthghcffibljclaaDoor
open Go.RowKit

theorem strV_eq (l : List UInt8) : strV l = .string ⟨l.toArray⟩ := rfl
theorem star_eq (l : List UInt8) : ((⟨l.toArray⟩ : ByteArray).toList != [42]) = (l != [42]) := by rw [ByteArray.toList_eq]
end Go.Proofs.YthghcffibljclaaDoor
/- each: the item * / step: walked. -/
namespace Go.Proofs.YthghcffibljclaaDoor
open Go.RowKit

end Go.Proofs.YthghcffibljclaaDoor
/- item: what a part has: walked. -/
namespace Go.Proofs.YthghcffibljclaaDoor
open Go.RowKit

def itemsN (k : Nat) (l : List UInt8) (i : Nat) : Option (BitVec 64) := [wholeP k l, eachP k l, oneP k l, betP k l 1, rowByP k l].getD i none
theorem items_first {k : Nat} {l : List UInt8} {j : Nat} {m : BitVec 64} (hj : j < 5) (h : ∀ i, i < j → itemsN k l i = none) (hm : itemsN k l j = some m) : itemP k l = some m := by
  have hc : j = 0 ∨ j = 1 ∨ j = 2 ∨ j = 3 ∨ j = 4 := by omega
  unfold itemP
  rcases hc with rfl | rfl | rfl | rfl | rfl
  · rw [show wholeP k l = some m from hm]; rfl
  · rw [show wholeP k l = none from h 0 (by omega), show eachP k l = some m from hm]; rfl
  · rw [show wholeP k l = none from h 0 (by omega), show eachP k l = none from h 1 (by omega), show oneP k l = some m from hm]; rfl
  · rw [show wholeP k l = none from h 0 (by omega), show eachP k l = none from h 1 (by omega), show oneP k l = none from h 2 (by omega), show betP k l 1 = some m from hm]; rfl
  · rw [show wholeP k l = none from h 0 (by omega), show eachP k l = none from h 1 (by omega), show oneP k l = none from h 2 (by omega), show betP k l 1 = none from h 3 (by omega), show rowByP k l = some m from hm]; rfl
theorem items_none {k : Nat} {l : List UInt8} (h : ∀ i, i < 5 → itemsN k l i = none) : itemP k l = none := by
  unfold itemP
  rw [show wholeP k l = none from h 0 (by omega), show eachP k l = none from h 1 (by omega), show oneP k l = none from h 2 (by omega), show betP k l 1 = none from h 3 (by omega), show rowByP k l = none from h 4 (by omega)]; rfl
theorem items_next {k : Nat} {l : List UInt8} {j : Nat} (h : ∀ i, i < j → itemsN k l i = none) (hm : itemsN k l j = none) : ∀ i, i < j + 1 → itemsN k l i = none := by
  intro i hi
  rcases Nat.lt_or_ge i j with h1 | h1
  · exact h i h1
  · obtain rfl : i = j := by omega
    exact hm
end Go.Proofs.YthghcffibljclaaDoor
/- Read: the field of a text: walked. -/
namespace Go.Proofs.YthghcffibljclaaDoor
open Go.RowKit

def readV (r : BitVec 64 × Nat × Int) : Value := .tuple #[.int .u64 (U r.1), .int .i64 (r.2.1 : Int), .int .i64 r.2.2]
theorem readP_done {k : Nat} {l : List (List UInt8)} {a : Nat} {m : BitVec 64} {j : Nat} {x : List UInt8} (hx : l[j]? = some x) : readP k (l.drop j) a m = match itemL k x with
    | none => (0#64, a, 160)
    | some y => readP k (l.drop (j + 1)) (a + x.length + 1) (m ||| y) := by
  obtain ⟨hlt, hv⟩ := List.getElem?_eq_some_iff.1 hx
  rw [List.drop_eq_getElem_cons hlt, hv, readP]
  cases itemL k x <;> rfl
theorem le_sum : ∀ {l : List Nat} {n : Nat}, n ∈ l → n ≤ l.sum
  | a :: l, n, h => by
    rw [List.sum_cons]
    rcases List.mem_cons.1 h with rfl | h
    · omega
    · have := le_sum h; omega
theorem split_in {l : List UInt8} {j : Nat} {x : List UInt8} (h : (splitC l)[j]? = some x) : x.length + 1 ≤ l.length + 1 := by
  have hs := split_sum l
  have hm : x.length + 1 ∈ (splitC l).map fun s => s.length + 1 := List.mem_map.2 ⟨x, List.mem_of_getElem? h, rfl⟩
  rw [← hs]
  exact le_sum hm
end Go.Proofs.YthghcffibljclaaDoor
/- stepOf, runs, Text: walked. -/
namespace Go.Proofs.YthghcffibljclaaDoor
open Go.RowKit

theorem steps_some {k n : Nat} {m : BitVec 64} (h2 : 2 ≤ n) (h63 : n ≤ 63) (hno : ∀ i : Nat, 2 ≤ i → i < n → spanM (loK k) (hiK k) i ≠ some m) (h : spanM (loK k) (hiK k) n = some m) : stepsN k m = some n := by
  unfold stepsN
  rw [List.find?_eq_some_iff_getElem]
  refine ⟨by simpa using h, n - 2, by simp; omega, by simp; omega, fun j hj => ?_⟩
  have := hno (2 + j) (by omega) (by omega)
  simp only [List.getElem_range', Nat.one_mul, Bool.not_eq_true', beq_eq_false_iff_ne, ne_eq]
  exact this
theorem steps_none {k : Nat} {m : BitVec 64} (hno : ∀ i : Nat, 2 ≤ i → i < 64 → spanM (loK k) (hiK k) i ≠ some m) : stepsN k m = none := by
  unfold stepsN
  rw [List.find?_eq_none]
  intro x hx
  rw [List.mem_range'] at hx
  obtain ⟨i, hi, rfl⟩ := hx
  have := hno (2 + 1 * i) (by omega) (by omega)
  simpa using this
def stepOfN (k : Nat) (m : BitVec 64) : Option Nat := if 3 ≤ pop m then stepsN k m else none
theorem info_str : (Tryd.prog.info? 9).map (fun i => (i.zero, i.size, i.bytes)) = some (some (.string ⟨#[]⟩), 1, 16) := by kernel_rfl
end Go.Proofs.YthghcffibljclaaDoor
/- runs: the runs of a mask as a text: walked. -/
namespace Go.Proofs.YthghcffibljclaaDoor
open Go.RowKit

theorem str_add (a b : List UInt8) : (⟨a.toArray⟩ : ByteArray) ++ ⟨b.toArray⟩ = ⟨(a ++ b).toArray⟩ := by
  apply ByteArray.ext
  simp
def runsS (m : BitVec 64) : List (List UInt8) := (runsOf m).map runL
theorem join_str (a b : List UInt8) (n m : Nat) (ha : a.length = n) (hb : b.length = m) : ∃ p : List UInt8, (⟨a.toArray⟩ : ByteArray) ++ ⟨b.toArray⟩ = ⟨p.toArray⟩ ∧ p.length = n + m ∧ p = a ++ b :=
  ⟨a ++ b, str_add a b, by rw [List.length_append, ha, hb], rfl⟩
theorem runs_next {m : BitVec 64} {j : Nat} {r : Nat × Nat} (h : (runsOf m)[j]? = some r) : ((runsS m).take (j + 1)).map strV = ((runsS m).take j).map strV ++ [.string ⟨(runL r).toArray⟩] := by
  have h1 : (runsS m)[j]? = some (runL r) := by unfold runsS; rw [List.getElem?_map, h]; rfl
  rw [List.take_add_one, h1, List.map_append]; rfl
theorem sum_six : ∀ (l : List (List UInt8)), (∀ x ∈ l, x.length + 1 ≤ 6) → (l.map fun s => s.length + 1).sum ≤ 6 * l.length
  | [], _ => by simp
  | a :: l, h => by
    have h1 := h a (by simp)
    have h2 := sum_six l (fun x hx => h x (by simp [hx]))
    simp only [List.map_cons, List.sum_cons, List.length_cons]
    omega
end Go.Proofs.YthghcffibljclaaDoor
/- Text: the one text of a field: walked. -/
namespace Go.Proofs.YthghcffibljclaaDoor
open Go.RowKit

def errT (l : List UInt8) (e : Int) : Value := .tuple #[strV l, .int .i64 e]
theorem textL_whole (k : Nat) : textL k (wholeM k) = [42] := by unfold textL; rw [if_pos rfl]
theorem textL_step {k n : Nat} {m : BitVec 64} (h : m ≠ wholeM k) (hs : stepOfN k m = some n) : textL k m = 42 :: 47 :: dgsN n := by
  unfold stepOfN at hs
  unfold textL
  rw [if_neg h]
  split at hs
  · rename_i h3
    rw [if_pos h3, hs]
  · cases hs
theorem textL_runs {k : Nat} {m : BitVec 64} (h : m ≠ wholeM k) (hs : stepOfN k m = none) : textL k m = runsL m := by
  unfold stepOfN at hs
  unfold textL
  rw [if_neg h]
  split at hs
  · rename_i h3
    rw [if_pos h3, hs]
  · rename_i h3
    rw [if_neg h3]
theorem runs_64 (m : BitVec 64) : (runsOf m).length ≤ 64 := by
  unfold runsOf; rw [List.length_map, pop_eq]; exact pop_le _
theorem stepOf_lt {k n : Nat} {m : BitVec 64} (hs : stepOfN k m = some n) : n < 100 := by
  unfold stepOfN at hs
  split at hs
  · have := (steps_is hs).2.1; omega
  · cases hs
end Go.Proofs.YthghcffibljclaaDoor
/- The document's Kind, Ends, Whole, Right, names: walked. -/
namespace Go.Proofs.YthghcffibljclaaDoor
open Go.RowKit

theorem five {k : Nat} (h : k < 5) : k = 0 ∨ k = 1 ∨ k = 2 ∨ k = 3 ∨ k = 4 := by omega
def endsA : Array Value := #[.int .i64 0, .int .i64 59, .int .i64 0, .int .i64 23, .int .i64 1, .int .i64 31, .int .i64 1, .int .i64 12, .int .i64 0, .int .i64 6]
theorem index_ends (k : Nat) (hk : k < 5) (w : World) : (Instr.index 115 (.agg endsA) (.int .i64 (k : Int))).run Tryd.prog w = .ok (runV (loK k) (hiK k)) w := by
  rcases five hk with rfl | rfl | rfl | rfl | rfl <;>
  simp [Instr.index, asIntOf, Sem.run_bind, run_underlying Tryd.underlying115, Tryd.sizeOf114, Tryd.isAgg114, Go.part, Result.andThen, endsA, runV, loK, hiK]
theorem field_run (a b : Int) (w : World) : (Instr.field 114 (.agg #[.int .i64 a, .int .i64 b]) 0).run Tryd.prog w = .ok (.int .i64 a) w ∧ (Instr.field 114 (.agg #[.int .i64 a, .int .i64 b]) 1).run Tryd.prog w = .ok (.int .i64 b) w := by
  constructor <;> simp [Instr.field, Sem.run_bind, run_underlying Tryd.underlying114, Tryd.isAgg3, Go.part, Result.andThen, asAgg]
/-! Right -/
theorem field_has (k : Nat) (m : BitVec 64) : fieldB k m = (m != 0#64 && (elems m).all fun n => hasB (wholeM k) n) := by
  unfold fieldB
  rw [Bool.eq_iff_iff, Bool.and_eq_true, Bool.and_eq_true, beq_iff_eq, less_whole, List.all_eq_true]
  refine and_congr_right fun _ => ⟨fun h n hn => ?_, fun h n hn => ?_⟩
  · have := mem_elems.1 hn
    rw [hasB_nat, whole_bit]
    have h64 := BitVec.lt_of_getLsbD this
    have := h n this
    simp; omega
  · have := h n (mem_elems.2 hn)
    rw [hasB_nat, whole_bit] at this
    simp at this; omega
/-- A slice of ints reads l. -/
def ArrN (w : World) (A : Option Addr) (n : Nat) (l : List Nat) : Prop := l.length = n ∧ ∀ (i x : Nat), l[i]? = some x → ∃ b off, A = some ⟨b, off, none⟩ ∧ b < w.heap.size ∧ w.cell? ⟨b, off + i, none⟩ = some (.int .i64 (x : Int))
theorem ArrN.below {w w' : World} {A : Option Addr} {n : Nat} {l : List Nat} (h : ArrN w A n l) (hb : Below w.heap.size w w') : ArrN w' A n l :=
  ⟨h.1, fun i x hx => by
    obtain ⟨b, off, rfl, hlt, hc⟩ := h.2 i x hx
    exact ⟨b, off, rfl, Nat.lt_of_lt_of_le hlt hb.size, (hb.cell (p := ⟨b, off + i, none⟩) hlt).trans hc⟩⟩
theorem elems_64 (x : BitVec 64) : (elems x).length ≤ 64 := by rw [pop_eq]; exact pop_le x
theorem all_no {l : List Nat} {p : Nat → Bool} {j q : Nat} (h : l[j]? = some q) (hp : p q = false) : l.all p = false := by
  rw [← Bool.not_eq_true, List.all_eq_true]
  intro q'
  rw [q' _ (List.mem_of_getElem? h)] at hp
  cases hp
theorem all_yes {l : List Nat} {p : Nat → Bool} (h : ∀ (i : Nat) q, i < l.length → l[i]? = some q → p q = true) : l.all p = true := by
  rw [List.all_eq_true]
  intro q hq
  obtain ⟨i, hi, e⟩ := List.mem_iff_getElem.1 hq
  exact h i q hi (by rw [← e]; exact List.getElem?_eq_getElem _)
theorem names_at {w : World} {t : TypeId} (l : List (List UInt8)) : ArrL (w.alloc (.cells (l.map strV).toArray t)) (some ⟨w.heap.size, 0, none⟩) l.length l := by
  refine ⟨rfl, fun i x hx => ⟨_, _, rfl, by simp, ?_⟩⟩
  simp only [Nat.zero_add]
  rw [World.cell?_alloc_new, List.getElem?_toArray, List.getElem?_map, hx]; rfl
end Go.Proofs.YthghcffibljclaaDoor
/- The document's upper: walked. -/
namespace Go.Proofs.YthghcffibljclaaDoor
open Go.RowKit

/-- The first k letters are great ones. -/
def upto (l : List UInt8) (k : Nat) : List UInt8 := (upL l).take k ++ l.drop k
theorem up_len (l : List UInt8) : (upL l).length = l.length := by unfold upL; simp
theorem upto_len (l : List UInt8) (k : Nat) : (upto l k).length = l.length := by
  unfold upto; rw [List.length_append, List.length_take, List.length_drop, up_len]; omega
theorem upto_get {l : List UInt8} {k : Nat} (h : k < l.length) : (upto l k)[k]? = l[k]? := by
  unfold upto
  rw [List.getElem?_append_right (by rw [List.length_take, up_len]; omega), List.length_take, up_len, List.getElem?_drop]
  congr 1; omega
theorem upto_set {l : List UInt8} {k : Nat} {x : UInt8} (h : l[k]? = some x) : (upto l k).set k (upB x) = upto l (k + 1) := by
  obtain ⟨hlt, hx⟩ := List.getElem?_eq_some_iff.1 h
  unfold upto
  rw [List.set_append_right _ _ (by rw [List.length_take, up_len]; omega), List.length_take, up_len, show k - min k l.length = 0 by omega, List.drop_eq_getElem_cons hlt, hx, List.set_cons_zero,
    List.take_add_one, List.append_assoc]
  congr 1
  have : (upL l)[k]? = some (upB x) := by unfold upL; rw [List.getElem?_map, h]; rfl
  rw [this]; rfl
theorem upto_same {l : List UInt8} {k : Nat} {x : UInt8} (h : l[k]? = some x) (hx : upB x = x) : upto l k = upto l (k + 1) := by
  rw [← upto_set h, hx]
  have hlt := (List.getElem?_eq_some_iff.1 h).1
  have hg := upto_get hlt
  rw [h] at hg
  obtain ⟨h1, h2⟩ := List.getElem?_eq_some_iff.1 hg
  conv => lhs; rw [← List.set_getElem_self h1]
  rw [h2]
theorem upto_all (l : List UInt8) : upto l l.length = upL l := by
  unfold upto
  rw [List.drop_length, List.append_nil, List.take_of_length_le (by rw [up_len]; exact Nat.le_refl _)]
theorem upto_zero (l : List UInt8) : upto l 0 = l := by unfold upto; simp
/-- Block g holds the bytes l. -/
def UpAt (w : World) (g N : Nat) (l : List UInt8) : Prop := ∃ cs : Array Value, w.heap[g]? = some (.cells cs 5 (N, N + 1)) ∧ l.length ≤ N ∧ cs.size = N ∧ ∀ (i : Nat) x, l[i]? = some x → cs[i]? = some (.int .u8 (x.toNat : Nat))
theorem UpAt.cell {w : World} {g N i : Nat} {l : List UInt8} {x : UInt8} (h : UpAt w g N l) (hi : l[i]? = some x) : w.cell? ⟨g, i, none⟩ = some (.int .u8 (x.toNat : Nat)) ∧ w.frozen? ⟨g, i, none⟩ = false := by
  obtain ⟨cs, h1, h2, h3, h4⟩ := h
  have hlt := (List.getElem?_eq_some_iff.1 hi).1
  refine ⟨by rw [Go.Joins.cell_of_block h1, h4 i x hi], ?_⟩
  simp [World.frozen?, h1]; omega
theorem UpAt.lt {w : World} {g N : Nat} {l : List UInt8} (h : UpAt w g N l) : g < w.heap.size := by
  obtain ⟨cs, h1, _⟩ := h
  rcases Nat.lt_or_ge g w.heap.size with hlt | hge
  · exact hlt
  · rw [Array.getElem?_eq_none hge] at h1; cases h1
theorem UpAt.set {w : World} {g N i : Nat} {l : List UInt8} (h : UpAt w g N l) (b : UInt8) : UpAt (w.setCell ⟨g, i, none⟩ (.int .u8 (b.toNat : Nat))) g N (l.set i b) := by
  obtain ⟨cs, h1, h2, h3, h4⟩ := h
  refine ⟨_, Go.Joins.block_setCell h1 _, by rw [List.length_set]; exact h2, by simpa using h3, fun j x hj => ?_⟩
  rw [Array.getElem?_setIfInBounds]
  rw [List.getElem?_set] at hj
  by_cases e : i = j
  · rw [if_pos e] at hj ⊢
    split at hj
    · cases hj; rw [if_pos (by omega)]
    · cases hj
  · rw [if_neg e] at hj ⊢
    exact h4 j x hj
theorem up_no {b : UInt8} (h : (b.toNat : Int) < 97 ∨ 122 < (b.toNat : Int)) : upB b = b := by unfold upB; rw [if_neg (by omega)]
theorem up_yes {b : UInt8} (h0 : 97 ≤ (b.toNat : Int)) (h1 : (b.toNat : Int) ≤ 122) : ((upB b).toNat : Int) = (b.toNat : Int) - 97 + 65 := by
  unfold upB
  rw [if_pos (by omega), UInt8.toNat_sub]
  have : (32 : UInt8).toNat = 32 := rfl
  omega
end Go.Proofs.YthghcffibljclaaDoor
/- The document's number, cut, digits: walked. -/
namespace Go.Proofs.YthghcffibljclaaDoor
open Go.RowKit

theorem take_snoc8 (s : ByteArray) (k : Nat) (h : k < s.size) : s.data.toList.take (k + 1) = s.data.toList.take k ++ [s[k]] := by
  rw [List.take_succ_eq_append_getElem (by simpa using h)]; rfl
theorem digs_snoc (l : List UInt8) (b : UInt8) : digs (l ++ [b]) = (digs l && isDg b) := by unfold digs; simp
theorem empty_is (s : ByteArray) : s.toList.isEmpty = decide (s.size = 0) := by
  rw [ByteArray.toList_eq, ← len_list]
  cases s.data.toList <;> simp
theorem head_is (s : ByteArray) (h : 0 < s.size) : s.data.toList.head? = some s[0] := by
  rw [List.head?_eq_getElem?]; exact get_list s 0 h
theorem val_thou {l : List UInt8} (h : digs l = true) (hl : l.length ≤ 3) : valL l < 1000 := by
  match l, h, hl with
  | [], _, _ => simp [valL]
  | [a], h, _ => simp [digs, isDg] at h; simp [valL]; omega
  | [a, b], h, _ => simp [digs, isDg] at h; simp [valL]; omega
  | [a, b, c], h, _ => simp [digs, isDg] at h; simp [valL]; omega
  | a :: b :: c :: d :: l, _, hl => simp at hl
/-! cut -/
theorem ext_head (s : ByteArray) (k : Nat) : Value.string (s.extract 0 k) = strV (s.data.toList.take k) := by
  rw [strV_data, ByteArray.data_extract, Array.toList_extract]; simp
theorem ext_tail (s : ByteArray) (k : Nat) : Value.string (s.extract k s.size) = strV (s.data.toList.drop k) := by
  rw [strV_data, ByteArray.data_extract, Array.toList_extract]
  congr 1
  show (s.data.toList.drop k).take (s.size - k) = _
  rw [List.take_of_length_le (by rw [List.length_drop, len_list]; exact Nat.le_refl _)]
end Go.Proofs.YthghcffibljclaaDoor
/- The document's Value: walked. -/
namespace Go.Proofs.YthghcffibljclaaDoor
open Go.RowKit

/-- A run stands in block g. -/
def RunBox (w : World) (g : Nat) (a b : Int) : Prop := w.heap[g]? = some (.cells #[.int .i64 a, .int .i64 b] 114 (0, 0))
theorem RunBox.lt {w : World} {g : Nat} {a b : Int} (h : RunBox w g a b) : g < w.heap.size := by
  rcases Nat.lt_or_ge g w.heap.size with hlt | hge
  · exact hlt
  · unfold RunBox at h; rw [Array.getElem?_eq_none hge] at h; cases h
theorem RunBox.on {w w' : World} {g : Nat} {a b : Int} (h : RunBox w g a b) (hb : Below w.heap.size w w') : RunBox w' g a b := (hb.block g h.lt).trans h
theorem RunBox.cells {w : World} {g : Nat} {a b : Int} (h : RunBox w g a b) : w.cell? ⟨g, 0, none⟩ = some (.int .i64 a) ∧ w.cell? ⟨g, 1, none⟩ = some (.int .i64 b) ∧ w.frozen? ⟨g, 0, none⟩ = false ∧ w.frozen? ⟨g, 1, none⟩ = false := by
  unfold RunBox at h
  exact ⟨by rw [Go.Joins.cell_of_block h]; rfl, by rw [Go.Joins.cell_of_block h]; rfl, by simp [World.frozen?, h], by simp [World.frozen?, h]⟩
theorem RunBox.new (w : World) (a b : Int) : RunBox (w.alloc (.cells #[.int .i64 a, .int .i64 b] 114)) w.heap.size a b := heap_alloc_new w _
theorem RunBox.set1 {w : World} {g : Nat} {a b : Int} (h : RunBox w g a b) (c : Int) : RunBox (w.setCell ⟨g, 1, none⟩ (.int .i64 c)) g a c := Go.Joins.block_setCell h _
theorem RunBox.set0 {w : World} {g : Nat} {a b : Int} (h : RunBox w g a b) (c : Int) : RunBox (w.setCell ⟨g, 0, none⟩ (.int .i64 c)) g c b := Go.Joins.block_setCell h _
theorem vname_at {k j : Nat} {s x : List UInt8} (hx : (namesK k)[j]? = some x) (hno : ∀ (i : Nat) y, i < j → (namesK k)[i]? = some y → upL s ≠ y) (h : upL s = x) : valueL k s = some (loK k + j) := by
  have hf : (namesK k).findIdx? (fun nm => upL s == nm) = some j := by
    obtain ⟨hlt, hv⟩ := List.getElem?_eq_some_iff.1 hx
    rw [List.findIdx?_eq_some_iff_getElem]
    refine ⟨hlt, by rw [hv, h]; simp, fun i hi => ?_⟩
    have := hno i _ hi (List.getElem?_eq_getElem (by omega))
    simpa using this
  unfold valueL
  rw [hf]
theorem vname_none {k : Nat} {s : List UInt8} (hno : ∀ (i : Nat) y, i < (namesK k).length → (namesK k)[i]? = some y → upL s ≠ y) : valueL k s = match numL s with | some n => if loK k ≤ n ∧ n ≤ topK k then some n else none | none => none := by
  have hf : (namesK k).findIdx? (fun nm => upL s == nm) = none := by
    rw [List.findIdx?_eq_none_iff]
    intro x hx
    obtain ⟨i, hi, e⟩ := List.mem_iff_getElem.1 hx
    have := hno i x hi (by rw [← e]; exact List.getElem?_eq_getElem _)
    simpa using this
  unfold valueL
  rw [hf]
  rfl
theorem num_1000 (l : List UInt8) : (numL l).getD 0 < 1000 := by
  cases h : numL l with
  | none => simp
  | some n => exact num_lt h
end Go.Proofs.YthghcffibljclaaDoor
/- The document's item: walked. -/
namespace Go.Proofs.YthghcffibljclaaDoor
open Go.RowKit

theorem has7 (m : BitVec 64) : hasB m 7 = m.getLsbD 7 := hasB_nat m 7
theorem star_no7 {n : Nat} {m : BitVec 64} (h : spanM (loK 4 : Nat) (hiK 4 : Nat) n = some m) : hasB m 7 = false := by
  rw [has7]
  cases h7 : m.getLsbD 7 with
  | false => rfl
  | true =>
    have := span_in h h7
    have : hiK 4 = 6 := rfl
    omega
def zeroM (m : BitVec 64) : BitVec 64 := mk (fun i => decide (i = 0) || m.getLsbD i)
theorem zero_bit (m : BitVec 64) (i : Nat) (hi : i < 64) : (zeroM m).getLsbD i = decide (i ∈ 0 :: elems m) := by
  unfold zeroM
  rw [mk_bit, Bool.eq_iff_iff]
  simp [hi, mem_elems]
theorem zero_sub {m : BitVec 64} (h : hasB m 7 = true) : U (zeroM m) = U (fix7 4 m) + 128 ∧ U (fix7 4 m) + 128 ≤ 18446744073709551615 := by
  rw [has7] at h
  have hf : fix7 4 m = mk (fun i => decide (i = 0) || (m.getLsbD i && decide (i ≠ 7))) := by unfold fix7; rw [if_pos ⟨rfl, h⟩]
  have hb : (fix7 4 m).getLsbD 7 = false := by rw [hf, mk_bit]; simp
  have hor : fix7 4 m ||| BitVec.twoPow 64 7 = zeroM m := by
    apply BitVec.eq_of_getLsbD_eq
    intro i hi
    rw [BitVec.getLsbD_or, BitVec.getLsbD_twoPow, hf, mk_bit]
    unfold zeroM
    rw [mk_bit]
    by_cases e : i = 7
    · subst e; simp [h]
    · simp [hi, e, Ne.symm e]
  have hdis : fix7 4 m &&& BitVec.twoPow 64 7 = 0#64 := by
    apply BitVec.eq_of_getLsbD_eq
    intro i hi
    rw [BitVec.getLsbD_and, BitVec.getLsbD_twoPow]
    by_cases e : i = 7
    · subst e; rw [hb]; rfl
    · simp [Ne.symm e]
  have hadd : fix7 4 m + BitVec.twoPow 64 7 = zeroM m := by rw [← hor, BitVec.add_eq_or_of_and_eq_zero _ _ hdis]
  have hlt : (fix7 4 m).toNat + 128 < 2 ^ 64 := by
    have h1 := (fix7 4 m).isLt
    have h2 : (fix7 4 m).toNat.testBit 7 = false := hb
    rw [Nat.testBit_eq_decide_div_mod_eq] at h2
    have h3 : ¬ (fix7 4 m).toNat / 2 ^ 7 % 2 = 1 := by simpa using h2
    omega
  unfold U
  rw [← hadd, BitVec.toNat_add, show (BitVec.twoPow 64 7).toNat = 128 by rfl, Nat.mod_eq_of_lt hlt]
  omega
theorem row_zero {w : World} : (w.alloc (.cells #[.int .i64 0] 3)).ownsRow w.heap.size 3 1 (.slice (some ⟨w.heap.size, 0, none⟩) 1 1) 1 [.int .i64 0] :=
  ⟨rfl, .inr ⟨_, 1, #[.int .i64 0], rfl, Nat.le_refl _, heap_alloc_new w _, by decide, by decide, rfl, rfl⟩⟩
theorem itemL_of {k b : Nat} {l sp : List UInt8} (hsp : (cutB l 47).1 = sp) (h : stepL (cutB l 47).2 = some b) : itemL k l = spanL k sp (cutB l 47).2.isSome b := by
  unfold itemL; rw [h, hsp]
theorem itemL_no {k : Nat} {l : List UInt8} (h : stepL (cutB l 47).2 = none) : itemL k l = none := by
  unfold itemL; rw [h]
theorem spanL_star (k b : Nat) (st : Bool) : spanL k [42] st b = spanM (loK k) (hiK k) b := by unfold spanL; rw [if_pos rfl]
theorem spanL_none {k b : Nat} {st : Bool} {sp : List UInt8} (h : sp ≠ [42]) (hx : valueL k (cutB sp 45).1 = none) : spanL k sp st b = none := by unfold spanL; rw [if_neg h, hx]
theorem spanL_one {k b a : Nat} {st : Bool} {sp : List UInt8} (h : sp ≠ [42]) (hx : valueL k (cutB sp 45).1 = some a) (hy : (cutB sp 45).2 = none) : spanL k sp st b = if st then none else (spanM a a b).map (fix7 k) := by
  rw [span_of k sp st b h hx, hy]
theorem spanL_half {k b a : Nat} {st : Bool} {sp y : List UInt8} (h : sp ≠ [42]) (hx : valueL k (cutB sp 45).1 = some a) (hy : (cutB sp 45).2 = some y) (hv : valueL k y = none) : spanL k sp st b = none := by
  rw [span_of k sp st b h hx, hy]
  show (match valueL k y with | none => none | some t => (spanM (a : Int) (t : Int) (b : Int)).map (fix7 k)) = none
  rw [hv]
theorem spanL_two {k b a t : Nat} {st : Bool} {sp y : List UInt8} (h : sp ≠ [42]) (hx : valueL k (cutB sp 45).1 = some a) (hy : (cutB sp 45).2 = some y) (hv : valueL k y = some t) : spanL k sp st b = (spanM a t b).map (fix7 k) := by
  rw [span_of k sp st b h hx, hy]
  show (match valueL k y with | none => none | some t => (spanM (a : Int) (t : Int) (b : Int)).map (fix7 k)) = _
  rw [hv]
theorem value_lt {k n : Nat} {s : List UInt8} (hk : k < 5) (h : valueL k s = some n) : n < 64 := by
  have h1 := value_in hk h
  have h2 := hi_lt k
  have : topK k ≤ 59 := by unfold topK; split <;> omega
  omega
end Go.Proofs.YthghcffibljclaaDoor
/- The document's Read: walked. -/
namespace Go.Proofs.YthghcffibljclaaDoor
open Go.RowKit

theorem info_maskF : (Tryd.prog.info? 24).map (fun i => (i.zero, i.size, i.bytes)) = some (some (.int .u64 0), 1, 8) := by kernel_rfl
def menc (m : BitVec 64) : Value := .int .u64 (U m)
theorem folds_snoc : ∀ (l : List (BitVec 64)) (m x : BitVec 64), folds g_or (l ++ [x]) m = folds g_or l m ||| x
  | [], m, x => rfl
  | a :: l, m, x => by rw [List.cons_append, folds, folds, folds_snoc l]
/-- What is still to be read. -/
def moreL (mb : Bool) (r : List UInt8) : List (List UInt8) := if mb then splitC r else []
theorem more_next (k : Nat) (r : List UInt8) (a : Nat) (m : BitVec 64) : readP k (moreL true r) a m = match itemL k (cutB r 44).1 with
    | none => (0#64, a, 160)
    | some x => readP k (moreL (cutB r 44).2.isSome ((cutB r 44).2.getD [])) (a + (cutB r 44).1.length + 1) (m ||| x) := by
  show readP k (splitC r) a m = _
  rw [split_cut r, readP]
  cases itemL k (cutB r 44).1 with
  | none => rfl
  | some x =>
    cases (cutB r 44).2 with
    | none => rfl
    | some y => rfl
theorem cut_sum (r : List UInt8) (c : UInt8) : (cutB r c).1.length + ((cutB r c).2.getD []).length + (if (cutB r c).2.isSome then 1 else 0) = r.length := by
  obtain ⟨_, h | ⟨y, h1, h2⟩⟩ := cutB_spec r c
  · rw [h.1, h.2]; simp
  · have := congrArg List.length h2
    simp only [List.length_append, List.length_cons] at this
    rw [h1]; simp; omega
def restN : Value → Value → Nat
  | .string s, .bool true => s.size + 1
  | _, _ => 0
theorem menc_row (l : List (BitVec 64)) (k : Nat) (h : k < l.length) : (l.map menc)[k]? = some (.int .u64 (U (nth l k))) := by
  unfold nth
  rw [List.getElem?_map, List.getD_eq_getElem?_getD, List.getElem?_eq_getElem h]; rfl
end Go.Proofs.YthghcffibljclaaDoor
/- The document's digits: walked. -/
namespace Go.Proofs.YthghcffibljclaaDoor
open Go.RowKit

end Go.Proofs.YthghcffibljclaaDoor
/- The document's Text: walked. -/
namespace Go.Proofs.YthghcffibljclaaDoor
open Go.RowKit

def outN (m : BitVec 64) (j : Nat) : List UInt8 := joinC ((runsS m).take j)
theorem joinC_snoc : ∀ (l : List (List UInt8)) (x : List UInt8), joinC (l ++ [x]) = if l = [] then x else joinC l ++ 44 :: x
  | [], x => rfl
  | [p], x => rfl
  | p :: q :: l, x => by
    have h := joinC_snoc (q :: l) x
    rw [if_neg (by simp)] at h
    rw [if_neg (by simp), List.cons_append, List.cons_append, joinC, ← List.cons_append, h, joinC, List.append_assoc]
    rfl
theorem out_next {m : BitVec 64} {j : Nat} {r : Nat × Nat} (h : (runsOf m)[j]? = some r) : outN m (j + 1) = if j = 0 then runL r else outN m j ++ 44 :: runL r := by
  have hlt := (List.getElem?_eq_some_iff.1 h).1
  have h1 : (runsS m)[j]? = some (runL r) := by unfold runsS; rw [List.getElem?_map, h]; rfl
  unfold outN
  rw [List.take_add_one, h1]
  show joinC ((runsS m).take j ++ [runL r]) = _
  rw [joinC_snoc]
  by_cases h0 : j = 0
  · subst h0; rfl
  · rw [if_neg h0, if_neg (fun e => by
      have := congrArg List.length e
      rw [List.length_take, show (runsS m).length = (runsOf m).length by unfold runsS; simp, List.length_nil] at this
      omega)]
theorem out_len (m : BitVec 64) (j : Nat) : (outN m j).length ≤ 6 * j := by
  unfold outN
  have h1 := joinC_len ((runsS m).take j)
  have h2 := sum_six ((runsS m).take j) (fun x hx => by
    have hx2 := List.mem_of_mem_take hx
    unfold runsS at hx2
    rw [List.mem_map] at hx2
    obtain ⟨r, _, rfl⟩ := hx2
    exact (run_len r).2)
  have h3 := List.length_take_le j (runsS m)
  omega
theorem out_all (m : BitVec 64) : outN m (runsOf m).length = runsL m := by
  unfold outN runsL
  rw [show (runsOf m).length = (runsS m).length by unfold runsS; simp, List.take_length]; rfl
theorem run_le {m : BitVec 64} {r : Nat × Nat} (h : r ∈ runsOf m) : r.1 ≤ r.2 ∧ r.2 < 64 := by
  obtain ⟨a, e, rfl, _, h1, _, h2, _⟩ := run_mem h
  exact ⟨h1, BitVec.lt_of_getLsbD (h2 e h1 (Nat.le_refl _))⟩
end Go.Proofs.YthghcffibljclaaDoor
/- wakes, cut: walked. -/
namespace Go.Proofs.YthghcffibljclaaDoor
open Go.RowKit

theorem w_read0 : readL 0 [48, 44, 49, 53, 45, 49, 55, 44, 42, 47, 51, 48] = (1073971201#64, 0, 0) := by decide +kernel
theorem w_text0 : textL 0 1073971201#64 = [48, 44, 49, 53, 45, 49, 55, 44, 51, 48] := by decide +kernel
theorem w_field0 : fieldB 0 1073971201#64 = true := by decide +kernel
theorem w_read4 : readL 4 [102, 114, 105, 45, 55] = (97#64, 0, 0) := by decide +kernel
theorem w_read1 : readL 1 [49, 44, 44, 50] = (0#64, 2, 160) := by decide +kernel
/-- What cut leaves of a text. -/
def cutL (s : List UInt8) : List UInt8 := s.take 260
theorem cut_len260 (s : List UInt8) : (cutL s).length ≤ 260 ∧ (cutL s).length ≤ s.length := by unfold cutL; rw [List.length_take]; omega
end Go.Proofs.YthghcffibljclaaDoor
/- FieldReads, FieldTexts: walked. -/
namespace Go.Proofs.YthghcffibljclaaDoor
open Go.RowKit

/-- A row of strings, where it lies. -/
def ArrS (w : World) (B : Nat) (A : Option Addr) (n : Nat) : Prop :=
  ∀ k, k < n → ∃ (b o : Nat) (s : ByteArray), A = some ⟨b, o, none⟩ ∧ b < B ∧ w.cell? ⟨b, o + k, none⟩ = some (.string s) ∧ s.size ≤ maxLen
theorem ArrS.on {w w' : World} {B n : Nat} {A : Option Addr} (h : ArrS w B A n) (hb : Below B w w') : ArrS w' B A n := fun k hk => by
  obtain ⟨b, o, s, e, hl, hc, hs⟩ := h k hk
  exact ⟨b, o, s, e, hl, (hb.cell (p := ⟨b, o + k, none⟩) hl).trans hc, hs⟩
theorem kind_case (z : Int) : NoKind z ∨ ∃ k : Nat, z = k ∧ k < 5 := by
  by_cases h : 0 ≤ z ∧ z < 5
  · exact .inr ⟨z.toNat, by omega, by omega⟩
  · exact .inl (by unfold NoKind; omega)
end Go.Proofs.YthghcffibljclaaDoor
