/- Texts of this seat, one behind the other: RunsM, Ref4, Slices, Sets, Joins, Tells, Makes. -/
import Derived.Test.YtbaobjbckabnhaaGreatDoorK1
import Derived.Deep.QuietTactic
import Derived.BigQuiet
import Derived.RegionTactic
import Derived.ChangeAlike
import Derived.Lib.SliceRun
/- The runs as they are gathered one number behind the other: plain facts. -/
namespace Go.Proofs.YtbaobjbckabnhaaGreatDoor
open Go.RowKit

theorem hasB_nat (x : BitVec 64) (i : Nat) : hasB x (i : Int) = x.getLsbD i := by unfold hasB; simp
theorem hasB_pred (x : BitVec 64) (i : Nat) : hasB x ((i : Int) - 1) = (decide (0 < i) && x.getLsbD (i - 1)) := by
  unfold hasB
  by_cases h : 0 < i
  · rw [decide_eq_true h, decide_eq_true (by omega), show ((i : Int) - 1).toNat = i - 1 by omega]
  · rw [decide_eq_false h, decide_eq_false (by omega)]; rfl
theorem begins_elems (x : BitVec 64) : elems (begins x) = (elems x).filter fun n : Nat => !hasB x ((n : Int) - 1) := by
  unfold elems
  rw [List.filter_filter]
  apply List.filter_congr
  intro i hi
  rw [begins_bit x i (by simpa using hi), hasB_pred, Bool.and_comm]
theorem run_unique (x : BitVec 64) (b e : Nat) (hb : b ∈ elems (begins x)) (he : b ≤ e) (hin : ∀ j, b ≤ j → j ≤ e → x.getLsbD j = true) (hout : x.getLsbD (e + 1) = false) : runOf (ends x) b = (b, e) := by
  obtain ⟨e', h1, _, h2, h3, h4, h5⟩ := run_spec x b hb
  have : e = e' := by
    rcases Nat.lt_trichotomy e e' with h | h | h
    · have := h4 (e + 1) (by omega) (by omega); rw [hout] at this; cases this
    · exact h
    · have := hin (e' + 1) (by omega) (by omega); rw [h5] at this; cases this
  rw [h1, this]
/-- k numbers have been; these are the runs so far. -/
structure RInv (x : BitVec 64) (k : Nat) (acc : List (Nat × Nat)) : Prop where
  fst : acc.map (·.1) = ((elems x).take k).filter fun n : Nat => !hasB x ((n : Int) - 1)
  ins : ∀ r ∈ acc, r.1 ≤ r.2 ∧ ∀ j, r.1 ≤ j → j ≤ r.2 → x.getLsbD j = true
  last : ∀ e, k = e + 1 → ∃ pre r, acc = pre ++ [r] ∧ (elems x)[e]? = some r.2
  out : ∀ pre r, acc = pre ++ [r] → ∀ s ∈ pre, x.getLsbD (s.2 + 1) = false
theorem RInv.zero (x : BitVec 64) : RInv x 0 [] := ⟨rfl, by simp, fun e h => by omega, fun pre r h => by simp at h⟩
theorem RInv.push {x : BitVec 64} {k q : Nat} {acc : List (Nat × Nat)} (h : RInv x k acc) (hq : (elems x)[k]? = some q) (hh : hasB x ((q : Int) - 1) = false) : RInv x (k + 1) (acc ++ [(q, q)]) := by
  have hqx := mem_elems.1 (List.mem_of_getElem? hq)
  refine ⟨?_, ?_, ?_, ?_⟩
  · rw [List.map_append, h.fst, List.take_add_one, hq, List.filter_append]
    simp [hh]
  · intro r hr
    rcases List.mem_append.1 hr with hr | hr
    · exact h.ins r hr
    · simp at hr
      subst hr
      exact ⟨Nat.le_refl _, fun j h1 h2 => by obtain rfl : j = q := (by simp at h1 h2; omega); exact hqx⟩
  · intro e he
    obtain rfl : k = e := by omega
    exact ⟨acc, (q, q), rfl, hq⟩
  · intro pre r he s hs
    have := List.append_inj' he rfl
    obtain ⟨rfl, _⟩ := this
    rcases Nat.eq_zero_or_pos k with h0 | h0
    · subst h0
      have : acc = [] := by
        have := h.fst
        simpa using this
      rw [this] at hs
      simp at hs
    · obtain ⟨e, rfl⟩ : ∃ e, k = e + 1 := ⟨k - 1, by omega⟩
      obtain ⟨pre, r', rfl, hr'⟩ := h.last e rfl
      rcases List.mem_append.1 hs with hs | hs
      · exact h.out pre r' rfl s hs
      · simp at hs
        subst hs
        have hlt : s.2 < q := by
          have hl := (List.getElem?_eq_some_iff.1 hq).1
          have := elems_step x e hl
          rw [(List.getElem?_eq_some_iff.1 hr').2, (List.getElem?_eq_some_iff.1 hq).2] at this
          exact this
        rw [hasB_pred, decide_eq_true (by omega), Bool.true_and] at hh
        cases hx : x.getLsbD (s.2 + 1)
        · rfl
        · exfalso
          have hm : s.2 + 1 ∈ elems x := mem_elems.2 hx
          obtain ⟨j, hj, hje⟩ := List.mem_iff_getElem.1 hm
          have hs' := elems_sorted x
          have hl := (List.getElem?_eq_some_iff.1 hq).1
          have e1 := (List.getElem?_eq_some_iff.1 hr').2
          have e2 := (List.getElem?_eq_some_iff.1 hq).2
          have hje' : j = e + 1 := by
            have h1 : e < j := by
              apply Nat.lt_of_not_le
              intro hle
              rcases Nat.eq_or_lt_of_le hle with he2 | he2
              · subst he2; omega
              · have := List.pairwise_iff_getElem.1 hs' j e hj (by omega) he2
                omega
            apply Nat.le_antisymm _ h1
            apply Nat.le_of_not_lt
            intro hlt2
            have := List.pairwise_iff_getElem.1 hs' (e + 1) j hl hj hlt2
            omega
          subst hje'
          have : q = s.2 + 1 := by rw [← e2, ← hje]
          rw [this, Nat.add_sub_cancel] at hh
          have := mem_elems.1 (List.mem_of_getElem? hr')
          rw [hh] at this
          cases this
theorem RInv.grow {x : BitVec 64} {k q : Nat} {acc : List (Nat × Nat)} (h : RInv x k acc) (hq : (elems x)[k]? = some q) (hh : hasB x ((q : Int) - 1) = true) : ∃ pre b e, acc = pre ++ [(b, e)] ∧ RInv x (k + 1) (pre ++ [(b, q)]) := by
  have hqx := mem_elems.1 (List.mem_of_getElem? hq)
  have hh0 := hh
  rw [hasB_pred] at hh
  have hq0 : 0 < q := by
    rcases Nat.eq_zero_or_pos q with h0 | h0
    · subst h0; simp at hh
    · exact h0
  rw [decide_eq_true hq0, Bool.true_and] at hh
  have hm : q - 1 ∈ elems x := mem_elems.2 hh
  obtain ⟨j, hj, hje⟩ := List.mem_iff_getElem.1 hm
  have hs' := elems_sorted x
  have hl := (List.getElem?_eq_some_iff.1 hq).1
  have e2 := (List.getElem?_eq_some_iff.1 hq).2
  have hjk : j + 1 = k := by
    have h1 : j < k := by
      apply Nat.lt_of_not_le
      intro hle
      rcases Nat.eq_or_lt_of_le hle with he2 | he2
      · subst he2; omega
      · have := List.pairwise_iff_getElem.1 hs' k j hl hj he2
        omega
    apply Nat.le_antisymm h1
    apply Nat.le_of_not_lt
    intro hlt2
    have h3 := List.pairwise_iff_getElem.1 hs' j (j + 1) hj (by omega) (by omega)
    have h4 := List.pairwise_iff_getElem.1 hs' (j + 1) k (by omega) hl hlt2
    omega
  subst hjk
  obtain ⟨pre, r, rfl, hr⟩ := h.last j rfl
  obtain ⟨b, e⟩ := r
  have he : e = q - 1 := by rw [← hje]; exact ((List.getElem?_eq_some_iff.1 hr).2).symm
  refine ⟨pre, b, e, rfl, ?_, ?_, ?_, ?_⟩
  · have := h.fst
    rw [List.map_append] at this ⊢
    rw [List.take_add_one, hq, List.filter_append, ← this]
    simp [hh0]
  · intro r hr2
    rcases List.mem_append.1 hr2 with hr2 | hr2
    · exact h.ins r (by simp [hr2])
    · simp at hr2
      subst hr2
      obtain ⟨i1, i2⟩ := h.ins (b, e) (by simp)
      simp only at i1 i2 ⊢
      exact ⟨by omega, fun j' h1 h2 => by
        rcases Nat.lt_or_ge e j' with h3 | h3
        · obtain rfl : j' = q := by omega
          exact hqx
        · exact i2 j' h1 h3⟩
  · intro e' he'
    obtain rfl : e' = j + 1 := by omega
    exact ⟨pre, (b, q), rfl, hq⟩
  · intro pre' r' he' s hs
    obtain ⟨rfl, _⟩ := List.append_inj' he' rfl
    exact h.out pre (b, e) rfl s hs
theorem RInv.fin {x : BitVec 64} {acc : List (Nat × Nat)} (h : RInv x (elems x).length acc) : acc = runsOf x := by
  have hf := h.fst
  rw [List.take_length, ← begins_elems] at hf
  unfold runsOf
  rw [← hf, List.map_map]
  have key : ∀ r ∈ acc, (runOf (ends x) ∘ fun r : Nat × Nat => r.1) r = r := by
    intro r hr
    have hb : r.1 ∈ elems (begins x) := by rw [← hf]; exact List.mem_map.2 ⟨r, hr, rfl⟩
    obtain ⟨i1, i2⟩ := h.ins r hr
    refine run_unique x r.1 r.2 hb i1 i2 ?_
    have hne : 0 < (elems x).length := by
      rcases Nat.eq_zero_or_pos (elems x).length with h0 | h0
      · have : elems (begins x) = [] := by rw [begins_elems, List.length_eq_zero_iff.1 h0]; rfl
        rw [this] at hb; simp at hb
      · exact h0
    obtain ⟨e, he⟩ : ∃ e, (elems x).length = e + 1 := ⟨(elems x).length - 1, by omega⟩
    obtain ⟨pre, r', hacc, hr'⟩ := h.last e he
    rw [hacc] at hr
    rcases List.mem_append.1 hr with hr | hr
    · exact h.out pre r' hacc r hr
    · simp at hr
      subst hr
      cases hx : x.getLsbD (r.2 + 1)
      · rfl
      · exfalso
        obtain ⟨j, hj, hje⟩ := List.mem_iff_getElem.1 (mem_elems.2 hx)
        have e1 := (List.getElem?_eq_some_iff.1 hr').2
        have hl := (List.getElem?_eq_some_iff.1 hr').1
        rcases Nat.eq_or_lt_of_le (show j ≤ e by omega) with h3 | h3
        · subst h3; omega
        · have := List.pairwise_iff_getElem.1 (elems_sorted x) j e hj hl h3
          omega
  exact (List.map_id acc).symm.trans (List.map_congr_left fun r hr => (key r hr).symm)
end Go.Proofs.YtbaobjbckabnhaaGreatDoor
/- The plain answers of layer 1: Runs; and slices.Equal at runs. -/
namespace Go.Proofs.YtbaobjbckabnhaaGreatDoor
open Go.RowKit

theorem flat_at2 (l : List (Nat × Nat)) (k : Nat) (r : Nat × Nat) (h : l[k]? = some r) : (l.flatMap renc)[k * 2]? = some (.int .i64 (r.1 : Int)) ∧ (l.flatMap renc)[k * 2 + 1]? = some (.int .i64 (r.2 : Int)) := by
  induction l generalizing k with
  | nil => simp at h
  | cons a l ih =>
    cases k with
    | zero => simp at h; subst h; simp [renc]
    | succ k =>
      have := ih k (by simpa using h)
      rw [List.flatMap_cons, show renc a = [.int .i64 (a.1 : Int), .int .i64 (a.2 : Int)] from rfl]
      rw [show (k + 1) * 2 = k * 2 + 1 + 1 by omega]
      simpa using this
theorem flat_len2 : ∀ l : List (Nat × Nat), (l.flatMap renc).length = l.length * 2
  | [] => rfl
  | a :: l => by rw [List.flatMap_cons, List.length_append, flat_len2 l, List.length_cons]; simp [renc]; omega
theorem flat_set : ∀ (pre : List (Nat × Nat)) (b e q : Nat), ((pre ++ [(b, e)]).flatMap renc).set (pre.length * 2 + 1) (.int .i64 (q : Int)) = (pre ++ [(b, q)]).flatMap renc
  | [], b, e, q => by simp [renc]
  | a :: pre, b, e, q => by
    rw [List.cons_append, List.flatMap_cons, List.cons_append, List.flatMap_cons, ← flat_set pre b e q, show renc a = [.int .i64 (a.1 : Int), .int .i64 (a.2 : Int)] from rfl, List.length_cons,
      show (pre.length + 1) * 2 + 1 = pre.length * 2 + 1 + 1 + 1 by omega]
    rfl
theorem run_cells2 {w : World} {base : Nat} {A : Option Addr} {c n : Nat} {l : List (Nat × Nat)} (h : w.ownsRow base 177 2 (.slice A n c) n (l.flatMap renc)) (k : Nat) (r : Nat × Nat) (hk : l[k]? = some r) (hn : k < n) :
    ∃ g, A = some ⟨g, 0, none⟩ ∧ g < w.heap.size ∧ w.cell? ⟨g, k * 2, none⟩ = some (.int .i64 (r.1 : Int)) ∧ w.cell? ⟨g, k * 2 + 1, none⟩ = some (.int .i64 (r.2 : Int)) := by
  obtain ⟨f0, f1⟩ := flat_at2 l k r hk
  rcases h.2 with ⟨hv, h0⟩ | ⟨g, cap, cur, hv, hg, hh, _⟩
  · omega
  · injection hv with e1 e2 e3
    subst e1; subst e3
    exact ⟨g, rfl, (Array.getElem?_eq_some_iff.1 hh).1, by rw [h.cellAt _ (by omega), f0], by rw [h.cellAt _ (by omega), f1]⟩

end Go.Proofs.YtbaobjbckabnhaaGreatDoor
/- slices.Equal, Reverse, IsSorted at []int. -/
namespace Go.Proofs.YtbaobjbckabnhaaGreatDoor
open Go.RowKit

def int1 (z : Int) : Value := .int .i64 z
/-- Slice A of n reads f's numbers. -/
def ArrI (w : World) (A : Option Addr) (n : Nat) (f : Nat → Int) : Prop := Arr w A n (fun k => .int .i64 (f k))

theorem grown_drew {a w : World} {row : Option Nat} (h : a.grownBy w row) : a.grownBy w.drew row := ⟨h.os, h.tape, h.output, h.size, h.block⟩
/-! Reverse -/
def nthZ (zs : List Int) (k : Nat) : Int := zs.getD k 0
/-- Behind i rounds: the first i and the last i have changed their places. -/
def rv (zs : List Int) (i : Nat) : List Int := (List.range zs.length).map fun k => if k < i ∨ zs.length - i ≤ k then nthZ zs (zs.length - 1 - k) else nthZ zs k
theorem rv_len (zs : List Int) (i : Nat) : (rv zs i).length = zs.length := by simp [rv]
theorem rv_at (zs : List Int) (i k : Nat) (hk : k < zs.length) : (rv zs i)[k]? = some (if k < i ∨ zs.length - i ≤ k then nthZ zs (zs.length - 1 - k) else nthZ zs k) := by
  unfold rv; rw [List.getElem?_map, List.getElem?_range hk]; rfl
theorem rv_zero (zs : List Int) : rv zs 0 = zs := by
  apply List.ext_getElem?
  intro k
  by_cases hk : k < zs.length
  · rw [rv_at zs 0 k hk, if_neg (by omega)]
    unfold nthZ
    rw [List.getD_eq_getElem?_getD, List.getElem?_eq_getElem hk]; rfl
  · rw [List.getElem?_eq_none (by rw [rv_len]; omega), List.getElem?_eq_none (by omega)]
theorem rv_end (zs : List Int) (i : Nat) (h : zs.length ≤ 2 * i + 1) : rv zs i = zs.reverse := by
  apply List.ext_getElem?
  intro k
  by_cases hk : k < zs.length
  · rw [rv_at zs i k hk, List.getElem?_reverse hk]
    have hq : zs.length - 1 - k < zs.length := by omega
    rw [List.getElem?_eq_getElem hq]
    have e : nthZ zs (zs.length - 1 - k) = zs[zs.length - 1 - k] := by unfold nthZ; rw [List.getD_eq_getElem?_getD, List.getElem?_eq_getElem hq]; rfl
    split
    · rw [e]
    · have : k = zs.length - 1 - k := by omega
      rw [← e, ← this]
  · rw [List.getElem?_eq_none (by rw [rv_len]; omega), List.getElem?_eq_none (by simp; omega)]
theorem rv_step (zs : List Int) (i j : Nat) (hij : i < j) (hj : i + j + 1 = zs.length) : ((rv zs i).set i (nthZ zs j)).set j (nthZ zs i) = rv zs (i + 1) := by
  apply List.ext_getElem?
  intro k
  by_cases hk : k < zs.length
  · rw [List.getElem?_set, List.getElem?_set, rv_at zs _ k hk, rv_at zs _ k hk]
    simp only [List.length_set, rv_len]
    by_cases h1 : j = k
    · subst h1
      rw [if_pos rfl, if_pos hk, if_pos (by omega), show zs.length - 1 - j = i by omega]
    · rw [if_neg h1]
      by_cases h2 : i = k
      · subst h2
        rw [if_pos rfl, if_pos hk, if_pos (by omega), show zs.length - 1 - i = j by omega]
      · rw [if_neg h2]
        by_cases h3 : k < i ∨ zs.length - i ≤ k
        · rw [if_pos h3, if_pos (by omega)]
        · rw [if_neg h3, if_neg (by omega)]
  · rw [List.getElem?_eq_none (by simp [rv_len]; omega), List.getElem?_eq_none (by rw [rv_len]; omega)]
theorem rv_mid (zs : List Int) (i k : Nat) (h1 : i ≤ k) (h2 : k < zs.length - i) : (rv zs i)[k]? = some (nthZ zs k) := by
  rw [rv_at zs i k (by omega), if_neg (by omega)]

set_option maxRecDepth 100000 in
set_option maxHeartbeats 2000000 in
theorem reverse_ints (base n cap g : Nat) (zs : List Int) (w : World) (hz : zs.length = n) (hn : n ≤ maxLen) (ho : w.ownsRow base 3 1 (.slice (some ⟨g, 0, none⟩) n cap) n (zs.map int1)) :
    Calls Tryz.prog 106 #[.slice (some ⟨g, 0, none⟩) n cap] w fun e w' => e = .returned (.tuple #[]) ∧ w'.ownsRow base 3 1 (.slice (some ⟨g, 0, none⟩) n cap) n (zs.reverse.map int1) ∧ w.grownBy w' (some g) := by
  unfold maxLen at hn
  go_enter Tryz.func106, Tryz.ntmps106
  go_wp2
  go_loopw [2, 3] (fun s2 s3 wr => ∃ i : Nat, s2 = .int .i64 i ∧ s3 = .int .i64 ((n : Int) - 1 - i) ∧ 2 * i ≤ n ∧ wr.ownsRow base 3 1 (.slice (some ⟨g, 0, none⟩) n cap) n ((rv zs i).map int1) ∧ w.grownBy wr (some g)) (fun s2 _ _ => n - (intOf s2).toNat)
  case atStart => exact ⟨0, rfl, by simp, by omega, by rw [rv_zero]; exact ho, World.grownBy.refl _ _⟩
  case round =>
    obtain ⟨i, rfl, rfl, hi, hr, hgr⟩ := hrel
    by_cases hlt : (i : Int) < (n : Int) - 1 - i
    · obtain ⟨j, hj⟩ : ∃ j : Nat, (n : Int) - 1 - i = ((j : Nat) : Int) := ⟨n - 1 - i, by omega⟩
      have hij : i < j := by omega
      have c1 := hr.cellAt i (by omega)
      have c2 := hr.cellAt j (by omega)
      rw [List.getElem?_map, rv_mid zs i i (by omega) (by omega)] at c1
      rw [List.getElem?_map, rv_mid zs i j (by omega) (by omega)] at c2
      simp only [Option.map_some, int1] at c1 c2
      have f1 := hr.frozenAt i
      have f2 := hr.frozenAt j
      have Hst := Lib.hid (rv_step zs i j hij (by omega))
      have H1 := Lib.hid hr; clear hr
      have H2 := Lib.hid hgr; clear hgr
      have Hz := Lib.hid hz; clear hz
      have Hj := Lib.hid hj
      rw [hj] at hlt ⊢
      clear hj ho
      generalize nthZ zs i = u at *
      generalize nthZ zs j = v at *
      have h0 : (0 : Int) ≤ (i : Int) := by omega
      have h1 : (i : Int) < (n : Int) := by have := Hj.out; omega
      have h2 : (0 : Int) ≤ (j : Int) := by omega
      have h3 : (j : Int) < (n : Int) := by have := Hj.out; omega
      go_wp2
      go_region
      all_goals
        go_wp2
        go_roundw
        case rel =>
          have s1 := H1.out.stored i (int1 v)
          have s2 := s1.1.stored j (int1 u)
          have Hs := Hst.out
          refine ⟨i + 1, by go_num, congrArg (Value.int .i64) (by have := Hj.out; omega), by have := Hj.out; omega, ?_, grown_drew ((H2.out.trans s1.2).trans s2.2)⟩
          rw [← Hs, List.map_set, List.map_set]
          exact s2.1
        case measure => have := Hj.out; simp [intOf]; omega
    · go_wp2
      go_end0
      exact ⟨rfl, by rw [← List.map_reverse, ← rv_end zs i (by omega)]; exact hr, hgr⟩

theorem reverse_none (c : Nat) (w : World) :
    Calls Tryz.prog 106 #[.slice none 0 c] w fun e w' => e = .returned (.tuple #[]) ∧ w' = w := by
  go_enter Tryz.func106, Tryz.ntmps106
  go_wp2
  go_loopw [2, 3] (fun s2 s3 wr => s2 = .int .i64 0 ∧ s3 = .int .i64 (-1) ∧ wr = w) (fun _ _ _ => 0)
  case atStart => exact ⟨rfl, rfl, rfl⟩
  case round =>
    obtain ⟨rfl, rfl, rfl⟩ := hrel
    go_wp2
    go_end0
    exact ⟨rfl, rfl⟩
theorem reverse_any (base n : Nat) (v : Value) (zs : List Int) (w : World) (hz : zs.length = n) (hn : n ≤ maxLen) (ho : w.ownsRow base 3 1 v n (zs.map int1)) :
    Calls Tryz.prog 106 #[v] w fun e w' => e = .returned (.tuple #[]) ∧ w'.ownsRow base 3 1 v n (zs.reverse.map int1) ∧ w.grownBy w' v.ownBlock := by
  rcases ho.2 with ⟨rfl, rfl⟩ | ⟨g, cap, cur, rfl, _⟩
  · refine (reverse_none 0 w).mono ?_
    rintro e w' ⟨rfl, rfl⟩
    have : zs = [] := List.length_eq_zero_iff.1 hz
    subst this
    exact ⟨rfl, ho, World.grownBy.refl _ _⟩
  · exact reverse_ints base n cap g zs w hz hn ho
end Go.Proofs.YtbaobjbckabnhaaGreatDoor
/- MaskSets: what two masks have alone, and what they have both, is what they have together, and as many. -/
namespace Go.Proofs.YtbaobjbckabnhaaGreatDoor
open Go.RowKit

theorem g_or_eq (x y : BitVec 64) : g_or x y = x ||| y := rfl
theorem or_one (x : BitVec 64) (B : Nat) (w : World) (h0 : w.cell? ⟨B, 0, none⟩ = some (.int .u64 (U x))) :
    Calls Tryz.prog 142 #[.slice (some ⟨B, 0, none⟩) 1 1] w fun e w' => e = .returned (.int .u64 (U x)) ∧ w = w' := by
  have h := or_any (some ⟨B, 0, none⟩) 1 1 [x] w rfl (by decide) (fun k hk => ⟨B, 0, rfl, by match k, hk with | 0, _ => exact h0⟩)
  simpa [folds, g_or_eq] using h
theorem or_two (x y : BitVec 64) (B : Nat) (w : World) (h0 : w.cell? ⟨B, 0, none⟩ = some (.int .u64 (U x))) (h1 : w.cell? ⟨B, 1, none⟩ = some (.int .u64 (U y))) :
    Calls Tryz.prog 142 #[.slice (some ⟨B, 0, none⟩) 2 2] w fun e w' => e = .returned (.int .u64 (U (x ||| y))) ∧ w = w' := by
  have h := or_any (some ⟨B, 0, none⟩) 2 2 [x, y] w rfl (by decide) (fun k hk => ⟨B, 0, rfl, by match k, hk with | 0, _ => exact h0 | 1, _ => exact h1⟩)
  simpa [folds, g_or_eq] using h
theorem or_three (x y z : BitVec 64) (B : Nat) (w : World) (h0 : w.cell? ⟨B, 0, none⟩ = some (.int .u64 (U x))) (h1 : w.cell? ⟨B, 1, none⟩ = some (.int .u64 (U y))) (h2 : w.cell? ⟨B, 2, none⟩ = some (.int .u64 (U z))) :
    Calls Tryz.prog 142 #[.slice (some ⟨B, 0, none⟩) 3 3] w fun e w' => e = .returned (.int .u64 (U ((x ||| y) ||| z))) ∧ w = w' := by
  have h := or_any (some ⟨B, 0, none⟩) 3 3 [x, y, z] w rfl (by decide) (fun k hk => ⟨B, 0, rfl, by match k, hk with | 0, _ => exact h0 | 1, _ => exact h1 | 2, _ => exact h2⟩)
  simpa [folds, g_or_eq] using h
theorem or_none (w : World) :
    Calls Tryz.prog 142 #[.slice none 0 0] w fun e w' => e = .returned (.int .u64 0) ∧ w = w' := by
  have h := or_any none 0 0 [] w rfl (by decide) (fun k hk => absurd hk (by omega))
  simpa [folds, U_zero] using h

/-! the plain facts -/
theorem or_parts (a b : BitVec 64) : ((a &&& ~~~b) ||| (b &&& ~~~a)) ||| (a &&& b) = a ||| b := by
  apply BitVec.eq_of_getLsbD_eq
  intro i hi
  simp only [BitVec.getLsbD_or, BitVec.getLsbD_and, BitVec.getLsbD_not, hi, decide_true, Bool.true_and]
  cases a.getLsbD i <;> cases b.getLsbD i <;> rfl
theorem countP_add (l : List Nat) (p q r s : Nat → Bool) (h : ∀ i ∈ l, (p i).toNat + (q i).toNat + (r i).toNat = (s i).toNat) : l.countP p + l.countP q + l.countP r = l.countP s := by
  induction l with
  | nil => rfl
  | cons a l ih =>
    have h1 := h a (by simp)
    have h2 := ih (fun i hi => h i (by simp [hi]))
    simp only [List.countP_cons]
    revert h1
    cases p a <;> cases q a <;> cases r a <;> cases s a <;> simp <;> omega
theorem pop_parts (a b : BitVec 64) : pop (a &&& ~~~b) + pop (b &&& ~~~a) + pop (a &&& b) = pop (a ||| b) := by
  unfold pop
  apply countP_add
  intro i hi
  simp only [List.mem_range] at hi
  simp only [BitVec.getLsbD_or, BitVec.getLsbD_and, BitVec.getLsbD_not, hi, decide_true, Bool.true_and]
  cases a.getLsbD i <;> cases b.getLsbD i <;> rfl
theorem own_none (a b : BitVec 64) : (a &&& ~~~b) &&& b = 0#64 := by
  apply BitVec.eq_of_getLsbD_eq
  intro i hi
  simp only [BitVec.getLsbD_and, BitVec.getLsbD_not, hi, decide_true, Bool.true_and, BitVec.getLsbD_zero]
  cases a.getLsbD i <;> cases b.getLsbD i <;> rfl
theorem and_or (a b c : BitVec 64) : a &&& (b ||| c) = (a &&& b) ||| (a &&& c) := by
  apply BitVec.eq_of_getLsbD_eq
  intro i hi
  simp only [BitVec.getLsbD_or, BitVec.getLsbD_and]
  cases a.getLsbD i <;> cases b.getLsbD i <;> rfl
theorem less_or (a b c : BitVec 64) : a &&& ~~~(b ||| c) = (a &&& ~~~b) &&& ~~~c := by
  apply BitVec.eq_of_getLsbD_eq
  intro i hi
  simp only [BitVec.getLsbD_or, BitVec.getLsbD_and, BitVec.getLsbD_not, hi, decide_true, Bool.true_and]
  cases a.getLsbD i <;> cases b.getLsbD i <;> cases c.getLsbD i <;> rfl
theorem U_ne {x y : BitVec 64} (h : x = y) : (U x != U y) = false := by subst h; simp
theorem U_eq {x y : BitVec 64} (h : x = y) : (U x == U y) = true := by subst h; simp

theorem gr_trans {w w1 w2 : World} (h : Below w.heap.size w w1) (k : Below w1.heap.size w1 w2) : Below w.heap.size w w2 := h.trans (k.mono h.size)
theorem gr_alloc {w w1 : World} (h : Below w.heap.size w w1) (o : Obj) : Below w.heap.size w (w1.alloc o) := h.alloc h.size o

end Go.Proofs.YtbaobjbckabnhaaGreatDoor
/- MaskJoins walked. -/
namespace Go.Proofs.YtbaobjbckabnhaaGreatDoor
open Go.RowKit

theorem info_msk : (Tryz.prog.info? 29).map (fun i => (i.zero, i.size, i.bytes)) = some (some (.int .u64 0), 1, 8) := by kernel_rfl
def mcell (m : BitVec 64) : Value := .int .u64 (U m)
/-- The slice reads these masks; its block lies below B. -/
def ArrM (w : World) (B : Nat) (A : Option Addr) (n : Nat) (xs : List (BitVec 64)) : Prop := ∀ k, k < n → ∃ b o, A = some ⟨b, o, none⟩ ∧ b < B ∧ w.cell? ⟨b, o + k, none⟩ = some (.int .u64 (U (nth xs k)))
theorem ArrM.below {w w' : World} {B : Nat} {A : Option Addr} {n : Nat} {xs : List (BitVec 64)} (h : ArrM w B A n xs) (hb : Below B w w') : ArrM w' B A n xs := by
  intro k hk
  obtain ⟨b, o, e, hl, hc⟩ := h k hk
  exact ⟨b, o, e, hl, ((below_cell hb).1 b _ hl).trans hc⟩
theorem ArrM.mono {w : World} {B B' : Nat} {A : Option Addr} {n : Nat} {xs : List (BitVec 64)} (h : ArrM w B A n xs) (hb : B ≤ B') : ArrM w B' A n xs := by
  intro k hk
  obtain ⟨b, o, e, hl, hc⟩ := h k hk
  exact ⟨b, o, e, by omega, hc⟩
theorem ArrM.arr {w : World} {B : Nat} {A : Option Addr} {n : Nat} {xs : List (BitVec 64)} (h : ArrM w B A n xs) : Arr w A n (fun k => .int .u64 (U (nth xs k))) := by
  intro k hk
  obtain ⟨b, o, e, hl, hc⟩ := h k hk
  exact ⟨b, o, e, hc⟩

theorem own_arrM {w : World} {base : Nat} {v : Value} {n : Nat} {xs : List (BitVec 64)} (hx : xs.length = n) (h : w.ownsRow base 29 1 v n (xs.map mcell)) : ∃ A c, v = .slice A n c ∧ Arr w A n (fun k => .int .u64 (U (nth xs k))) := by
  refine own_arr0 h _ (fun k hk => ?_)
  rw [List.getElem?_map, List.getElem?_eq_getElem (by omega)]
  unfold nth
  rw [List.getD_eq_getElem?_getD, List.getElem?_eq_getElem (by omega)]
  rfl
theorem ArrM.drewN {w : World} {B : Nat} {A : Option Addr} {n : Nat} {xs : List (BitVec 64)} (h : ArrM w B A n xs) (q : Nat) : ArrM (w.drewN q) B A n xs := fun k hk => h k hk
theorem below_drew {B : Nat} {a w : World} (h : Below B a w) (n : Nat) : Below B a (w.drewN n) := ⟨h.os, h.tape, h.output, h.size, h.block⟩
theorem ArrM.lt {w : World} {B : Nat} {A : Option Addr} {n : Nat} {xs : List (BitVec 64)} (h : ArrM w B A n xs) : ∀ b o, A = some ⟨b, o, none⟩ → 0 < n → b < B := by
  intro b o e h0
  obtain ⟨b', o', e', hl, _⟩ := h 0 h0
  rw [e] at e'
  injection e' with e'
  injection e' with e1 e2
  omega

end Go.Proofs.YtbaobjbckabnhaaGreatDoor
/- MaskTells walked. -/
namespace Go.Proofs.YtbaobjbckabnhaaGreatDoor
open Go.RowKit

def RunsAt (w : World) (A : Option Addr) (n : Nat) (l : List (Nat × Nat)) : Prop := ∀ k, k < n → ∃ g a b, A = some ⟨g, 0, none⟩ ∧ w.cell? ⟨g, k * 2, none⟩ = some (.int .i64 ((a : Nat) : Int)) ∧ w.cell? ⟨g, k * 2 + 1, none⟩ = some (.int .i64 ((b : Nat) : Int)) ∧ l[k]? = some (a, b)
theorem runs_at {w : World} {base : Nat} {A : Option Addr} {c : Nat} {l : List (Nat × Nat)} (h : w.ownsRow base 177 2 (.slice A l.length c) l.length (l.flatMap renc)) : RunsAt w A l.length l := by
  intro k hk
  obtain ⟨g, e, _, h0, h1⟩ := run_cells2 h k l[k] (List.getElem?_eq_getElem hk) hk
  exact ⟨g, _, _, e, h0, h1, List.getElem?_eq_getElem hk⟩
/-- The slice reads these numbers; its block lies below B. -/
def ArrZ (w : World) (B : Nat) (A : Option Addr) (n : Nat) (zs : List Int) : Prop := ∀ k, k < n → ∃ b o, A = some ⟨b, o, none⟩ ∧ b < B ∧ w.cell? ⟨b, o + k, none⟩ = some (.int .i64 (nthI zs k))
theorem ArrZ.below {w w' : World} {B : Nat} {A : Option Addr} {n : Nat} {zs : List Int} (h : ArrZ w B A n zs) (hb : Below B w w') : ArrZ w' B A n zs := by
  intro k hk
  obtain ⟨b, o, e, hl, hc⟩ := h k hk
  exact ⟨b, o, e, hl, ((below_cell hb).1 b _ hl).trans hc⟩
theorem own_arrZ {w : World} {base : Nat} {v : Value} {n : Nat} {l : List Nat} (hn : l.length = n) (h : w.ownsRow base 3 1 v n (l.map ienc)) : ∃ A c, v = .slice A n c ∧ ArrI w A n (fun k => nthI (l.map fun k : Nat => (k : Int)) k) :=
  own_arr0 h _ (fun k hk => nthI_row l k (by omega))
theorem own_runs {w : World} {base : Nat} {v : Value} {l : List (Nat × Nat)} {n : Nat} (hn : l.length = n) (h : w.ownsRow base 177 2 v n (l.flatMap renc)) : ∃ A c, v = .slice A n c ∧ RunsAt w A n l := by
  obtain ⟨A, c, rfl⟩ := own_slice0 h
  subst hn
  exact ⟨A, c, rfl, runs_at h⟩

end Go.Proofs.YtbaobjbckabnhaaGreatDoor
/- MaskMakes walked. -/
namespace Go.Proofs.YtbaobjbckabnhaaGreatDoor
open Go.RowKit

/-- The numbers below k that the span has. -/
def sp (f t s : Int) (k : Nat) : List Nat := (List.range k).filter (spanB f t s)
theorem sp_yes (f t s : Int) (k : Nat) (h : spanB f t s k = true) : sp f t s (k + 1) = sp f t s k ++ [k] := by
  unfold sp; rw [List.range_succ, List.filter_append]; simp [h]
theorem sp_no (f t s : Int) (k : Nat) (h : spanB f t s k = false) : sp f t s (k + 1) = sp f t s k := by
  unfold sp; rw [List.range_succ, List.filter_append]; simp [h]
theorem sp_len (f t s : Int) (k : Nat) : (sp f t s k).length ≤ k := by
  unfold sp; have := List.length_filter_le (spanB f t s) (List.range k); simpa using this
theorem sp_start (f t s : Int) (k : Nat) (h : (k : Int) ≤ f) : sp f t s k = [] := by
  unfold sp
  refine List.filter_eq_nil_iff.2 fun i hi => ?_
  have := List.mem_range.1 hi
  unfold spanB
  simp; omega
theorem sp_mem (f t s : Int) (k i : Nat) (h : t < (k : Int)) : decide (i ∈ sp f t s k) = spanB f t s i := by
  have e : (i ∈ sp f t s k) ↔ spanB f t s i = true := by
    unfold sp
    rw [List.mem_filter, List.mem_range]
    refine ⟨fun h => h.2, fun hb => ⟨?_, hb⟩⟩
    have : (i : Int) ≤ t := by unfold spanB at hb; simp at hb; omega
    omega
  cases hb : spanB f t s i with
  | false => rw [hb] at e; simpa using e
  | true => rw [hb] at e; simpa using e
theorem sp_lt (f t s : Int) (k i : Nat) (hk : k ≤ 64) (h : i ∈ sp f t s k) : i < 64 := by
  unfold sp at h
  have := List.mem_range.1 (List.mem_filter.1 h).1
  omega
theorem span_tmod (f t s : Int) (k : Nat) (h0 : f ≤ (k : Int)) (h1 : (k : Int) ≤ t) : (((k : Int) - f).tmod s == 0) = spanB f t s k := by
  unfold spanB
  rw [Int.tmod_eq_emod_of_nonneg (by omega)]
  have : ((k : Int) - f) % s = 0 ↔ (f ≤ (k : Int) ∧ (k : Int) ≤ t ∧ ((k : Int) - f) % s = 0) := ⟨fun h => ⟨h0, h1, h⟩, fun h => h.2.2⟩
  rw [show ((((k : Int) - f) % s == 0) = decide (((k : Int) - f) % s = 0)) from rfl]
  exact decide_eq_decide.2 this

theorem rspan_no (f t s : Int) (w : World) (h : ¬ spanOk f t s) :
    Calls Tryz.prog 123 #[.int .i64 f, .int .i64 t, .int .i64 s] w fun e w' => e = .returned (maskOk none) ∧ w = w' := by
  by_cases h0 : f < 0
  · clear h
    go_enter Tryz.func123, Tryz.ntmps123
    go_wp2
    go_ret2
    exact ⟨rfl, rfl⟩
  · by_cases h1 : 63 < t
    · clear h
      have d0 : decide (f < 0) = false := by simp; omega
      go_enter Tryz.func123, Tryz.ntmps123
      go_wp2
      go_ret2
      exact ⟨rfl, rfl⟩
    · by_cases h2 : t < f
      · clear h
        have d0 : decide (f < 0) = false := by simp; omega
        have d1 : decide (63 < t) = false := by simp; omega
        go_enter Tryz.func123, Tryz.ntmps123
        go_wp2
        go_ret2
        exact ⟨rfl, rfl⟩
      · have h3 : s < 1 := by unfold spanOk at h; omega
        clear h
        have d0 : decide (f < 0) = false := by simp; omega
        have d1 : decide (63 < t) = false := by simp; omega
        have d2 : decide (t < f) = false := by simp; omega
        go_enter Tryz.func123, Tryz.ntmps123
        go_wp2
        go_ret2
        exact ⟨rfl, rfl⟩

set_option maxRecDepth 100000 in
set_option maxHeartbeats 1000000 in
theorem rspan_yes (f t s : Int) (w : World) (h : spanOk f t s) (hs2 : s ≤ 9223372036854775807) :
    Calls Tryz.prog 123 #[.int .i64 f, .int .i64 t, .int .i64 s] w fun e w' => e = .returned (maskOk (some (mk (spanB f t s)))) ∧ Below w.heap.size w w' := by
  obtain ⟨i0, hi, hz0, hz1, hz2⟩ := info_parts info_int
  obtain ⟨h0, h1, h2, h3⟩ := h
  obtain ⟨F, rfl⟩ := Int.eq_ofNat_of_zero_le h0
  obtain ⟨T, rfl⟩ := Int.eq_ofNat_of_zero_le (show 0 ≤ t by omega)
  have d0 : decide ((F : Int) < 0) = false := by simp
  have d1 : decide (63 < (T : Int)) = false := by simp; omega
  have d2 : decide ((T : Int) < (F : Int)) = false := by simp; omega
  have d3 : decide (s < 1) = false := by simp; omega
  have d4 : decide (T < F) = false := by simp; omega
  have hm0 := Lib.hid (sp_start F T s F (Int.le_refl _))
  have Hm := Lib.hid (fun i (_ : i < 64) => (mk_bit (spanB F T s) i))
  go_enter Tryz.func123, Tryz.ntmps123
  go_wp2
  go_loopw [8, 9] (fun v i wr => ∃ k : Nat, F ≤ k ∧ k ≤ T + 1 ∧ i = .int .i64 k ∧ wr.ownsRow w.heap.size 3 1 v (sp F T s k).length ((sp F T s k).map ienc) ∧ Below w.heap.size w wr) (fun _ i _ => T + 1 - (intOf i).toNat)
  case atStart => exact ⟨F, by omega, by omega, rfl, by rw [hm0.out]; exact World.ownsRow_nil _ _ _ _, Below.refl _ _⟩
  case round =>
    obtain ⟨k, hFk, hk, rfl, hrow, hb⟩ := hrel
    by_cases hlt : k ≤ T
    · have hl := sp_len F T s k
      have hle := hb.size
      have hw : IntKind.i64.wrap ((k : Int) - (F : Int)) = (k : Int) - (F : Int) := by rw [IntKind.wrap_i64]; omega
      have ht := span_tmod F T s k (by omega) (by omega)
      have ht2 := ht
      rw [Int.tmod_eq_emod_of_nonneg (by omega)] at ht2
      have hlt' : decide ((T : Int) < (k : Int)) = false := by simp; omega
      rcases hh : spanB F T s k with _ | _
      · have Hp := Lib.hid (sp_no F T s k hh)
        rw [hh] at ht ht2
        go_wp2
        go_roundw
        case rel => exact ⟨k + 1, by omega, by omega, by go_num, by rw [Hp.out]; exact hrow, hb⟩
        case measure => simp [intOf]; omega
      · have Hp := Lib.hid (sp_yes F T s k hh)
        rw [hh] at ht ht2
        have hk63 : k < 64 := by omega
        go_wp2_with (at_builtin; refine wpList_append_own _ rfl _ _ 103 rfl w.heap.size 3 i0 (.int .i64 0) 1 8 Tryz.underlying103 hi hz0 hz1 hz2 rfl (by decide) _ _ _ rfl (hrow.alloc _) ⟨wr.heap.size, 0, none⟩ 1 1 [.int .i64 (k : Int)] rfl rfl (cell_one_new _ _ _) (by simp [Value.oneCell']) (by unfold maxLen; omega) (by omega) (by simp; omega) ?_; intro v' w5 hown5 hgrow5 _)
        go_roundw
        case rel =>
          refine ⟨k + 1, by omega, by omega, by go_num, by rw [Hp.out]; simpa [ienc] using hown5, (hb.alloc hle (.cells #[.int .i64 (k : Int)] 3)).grown hgrow5 (by simp; omega) (fun j e => (hrow.lt j e).1)⟩
        case measure => simp [intOf]; omega
    · have hkT : k = T + 1 := by omega
      have hgt : (T : Int) < (k : Int) := by omega
      have hl := sp_len F T s k
      go_wp2_with (go_at_call 124; refine (rof_row (sp F T s k) (fun i hi => sp_lt _ _ _ k i (by omega) hi) (by omega) (mk (spanB F T s)) (fun i hi => by rw [Hm.out i hi, sp_mem F T s k i (by omega)]; simp [hi]) _ _ _ _ rfl hrow).mono ?_; rintro e w' ⟨rfl, rfl⟩)
      go_ret2
      exact ⟨rfl, hb⟩

theorem rspan_any (f t s : Int) (w : World) (hs2 : s ≤ 9223372036854775807) :
    Calls Tryz.prog 123 #[.int .i64 f, .int .i64 t, .int .i64 s] w fun e w' => e = .returned (maskOk (spanM f t s)) ∧ Below w.heap.size w w' := by
  unfold spanM
  by_cases h : spanOk f t s
  · rw [if_pos h]; exact rspan_yes f t s w h hs2
  · rw [if_neg h]; exact (rspan_no f t s w h).mono fun e w' ⟨h1, h2⟩ => ⟨h1, h2 ▸ Below.refl _ _⟩

theorem ArrZ.cut {w : World} {B : Nat} {A : Option Addr} {n m : Nat} {zs : List Int} (h : ArrZ w B A n zs) (hm : m ≤ n) : ∃ ys : List Int, ys.length = m ∧ ArrZ w B A m ys := by
  refine ⟨(List.range m).map (nthI zs), by simp, fun k hk => ?_⟩
  obtain ⟨b, o, e, hl, hc⟩ := h k (by omega)
  refine ⟨b, o, e, hl, ?_⟩
  rw [hc]
  unfold nthI
  rw [List.getD_eq_getElem?_getD (l := List.map _ _), List.getElem?_map, List.getElem?_range hk]
  rfl
theorem ArrZ.mono {w : World} {B B' : Nat} {A : Option Addr} {n : Nat} {zs : List Int} (h : ArrZ w B A n zs) (hb : B ≤ B') : ArrZ w B' A n zs := by
  intro k hk
  obtain ⟨b, o, e, hl, hc⟩ := h k hk
  exact ⟨b, o, e, Nat.lt_of_lt_of_le hl hb, hc⟩
theorem ArrZ.arr {w : World} {B : Nat} {A : Option Addr} {n : Nat} {zs : List Int} (h : ArrZ w B A n zs) : ArrI w A n (nthI zs) := by
  intro k hk
  obtain ⟨b, o, e, hl, hc⟩ := h k hk
  exact ⟨b, o, e, hc⟩
/-- The row's own copy holds these numbers. -/
def izs (zs : List Int) (n : Nat) : List Value := (List.range n).map fun k => .int .i64 (nthI zs k)
theorem own_izs {w : World} {base : Nat} {v : Value} {n : Nat} {zs : List Int} (h : w.ownsRow base 3 1 v n (izs zs n)) : ∃ A c, v = .slice A n c ∧ ArrI w A n (nthI zs) :=
  own_arr0 h _ (fun k hk => by unfold izs; rw [List.getElem?_map, List.getElem?_range hk]; rfl)

/-- The value is a row of numbers that lies below B. -/
def RowIn (w : World) (B : Nat) (v : Value) : Prop := ∃ A L C zs, v = .slice A L C ∧ L ≤ C ∧ C ≤ maxLen ∧ (A = none → C = 0) ∧ ArrZ w B A L zs
def RowsIn (w : World) (B : Nat) (A : Option Addr) (n : Nat) : Prop := ∀ k, k < n → ∃ b o v, A = some ⟨b, o, none⟩ ∧ b < B ∧ w.cell? ⟨b, o + k, none⟩ = some v ∧ RowIn w B v
theorem RowIn.below {w w' : World} {B : Nat} {v : Value} (h : RowIn w B v) (hb : Below B w w') : RowIn w' B v := by
  obtain ⟨A, L, C, zs, e, h1, h2, h3, h4⟩ := h
  exact ⟨A, L, C, zs, e, h1, h2, h3, h4.below hb⟩
theorem RowsIn.below {w w' : World} {B : Nat} {A : Option Addr} {n : Nat} (h : RowsIn w B A n) (hb : Below B w w') : RowsIn w' B A n := by
  intro k hk
  obtain ⟨b, o, v, e, hl, hc, hr⟩ := h k hk
  exact ⟨b, o, v, e, hl, ((below_cell hb).1 b _ hl).trans hc, hr.below hb⟩
/-- The slice reads these bounds; its block lies below B. -/
def SpansIn (w : World) (B : Nat) (A : Option Addr) (n : Nat) : Prop := ∀ k, k < n → ∃ b o f t s, A = some ⟨b, o, none⟩ ∧ b < B ∧ w.cell? ⟨b, o + k * 3, none⟩ = some (.int .i64 f) ∧ w.cell? ⟨b, o + k * 3 + 1, none⟩ = some (.int .i64 t) ∧ w.cell? ⟨b, o + k * 3 + 2, none⟩ = some (.int .i64 s) ∧ s ≤ 9223372036854775807
theorem SpansIn.below {w w' : World} {B : Nat} {A : Option Addr} {n : Nat} (h : SpansIn w B A n) (hb : Below B w w') : SpansIn w' B A n := by
  intro k hk
  obtain ⟨b, o, f, t, s, e, hl, c0, c1, c2, hs⟩ := h k hk
  exact ⟨b, o, f, t, s, e, hl, ((below_cell hb).1 b _ hl).trans c0, ((below_cell hb).1 b _ hl).trans c1, ((below_cell hb).1 b _ hl).trans c2, hs⟩
end Go.Proofs.YtbaobjbckabnhaaGreatDoor
