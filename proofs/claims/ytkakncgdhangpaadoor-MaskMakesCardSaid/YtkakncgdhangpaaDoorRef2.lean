/- The plain answers of layer 1: All, Join, Or. -/
import Derived.Test.YtkakncgdhangpaaDoorRef
import Derived.Laws.AppendOwnNone
namespace Go.Proofs.YtkakncgdhangpaaDoor
open Go.RowKit

def pres (x : BitVec 64) (k : Nat) : List Nat := (List.range k).filter x.getLsbD
theorem pres_yes (x : BitVec 64) (k : Nat) (h : hasB x k = true) : pres x (k + 1) = pres x k ++ [k] := by
  have hb : x.getLsbD k = true := by unfold hasB at h; simpa using h
  unfold pres; rw [List.range_succ, List.filter_append]; simp [hb]
theorem pres_no (x : BitVec 64) (k : Nat) (h : hasB x k = false) : pres x (k + 1) = pres x k := by
  have hb : x.getLsbD k = false := by unfold hasB at h; simpa using h
  unfold pres; rw [List.range_succ, List.filter_append]; simp [hb]
theorem pres_len (x : BitVec 64) (k : Nat) : (pres x k).length ≤ k := by
  unfold pres; have := List.length_filter_le x.getLsbD (List.range k); simpa using this

set_option maxRecDepth 100000 in
set_option maxHeartbeats 1000000 in
theorem rall_any (x : BitVec 64) (w : World) :
    Calls Tryd.prog 17 #[.int .u64 (U x)] w fun e w' => ∃ v, e = .returned v ∧ w'.ownsRow w.heap.size 3 1 v (elems x).length ((elems x).map ienc) ∧ Below w.heap.size w w' := by
  obtain ⟨i0, hi, hz0, hz1, hz2⟩ := info_parts info_int
  go_enter Tryd.func17, Tryd.ntmps17
  go_wp2
  go_loopw [3, 5] (fun v i wr => ∃ k : Nat, k ≤ 64 ∧ i = .int .i64 k ∧ wr.ownsRow w.heap.size 3 1 v (pres x k).length ((pres x k).map ienc) ∧ Below w.heap.size w wr) (fun _ i _ => 64 - (intOf i).toNat)
  case atStart => exact ⟨0, by omega, rfl, World.ownsRow_nil _ _ _ _, Below.refl _ _⟩
  case round =>
    obtain ⟨k, hk, rfl, hrow, hb⟩ := hrel
    by_cases hlt : k < 64
    · have hl := pres_len x k
      have hle := hb.size
      rcases hh : hasB x k with _ | _
      · have Hp := Lib.hid (pres_no x k hh)
        go_wp2_with (go_at_call 29; refine (rhas_any x k _).mono ?_; rintro e w' ⟨rfl, rfl⟩)
        go_roundw
        case rel => exact ⟨k + 1, by omega, by go_num, by rw [Hp.out]; exact hrow, hb⟩
        case measure => simp [intOf]; omega
      · have Hp := Lib.hid (pres_yes x k hh)
        go_wp2_with (first
          | (go_at_call 29; refine (rhas_any x k _).mono ?_; rintro e w' ⟨rfl, rfl⟩)
          | (at_builtin; refine wpList_append_own _ rfl _ _ 25 rfl w.heap.size 3 i0 (.int .i64 0) 1 8 Tryd.underlying25 hi hz0 hz1 hz2 rfl (by decide) _ _ _ rfl (hrow.alloc _) ⟨wr.heap.size, 0, none⟩ 1 1 [.int .i64 (k : Int)] rfl rfl (cell_one_new _ _ _) (by simp [Value.oneCell']) (by unfold maxLen; omega) (by omega) (by simp; omega) ?_; intro v' w5 hown5 hgrow5 _))
        go_roundw
        case rel =>
          refine ⟨k + 1, by omega, by go_num, by rw [Hp.out]; simpa [ienc] using hown5, (hb.alloc hle (.cells #[.int .i64 (k : Int)] 3)).grown hgrow5 (by simp; omega) (fun j e => (hrow.lt j e).1)⟩
        case measure => simp [intOf]; omega
    · obtain rfl : k = 64 := by omega
      go_wp2
      go_ret
      exact ⟨_, rfl, hrow, hb⟩

theorem own_arr0 {w : World} {base : Nat} {e : TypeId} {v : Value} {n : Nat} {xs : List Value} (h : w.ownsRow base e 1 v n xs) (f : Nat → Value) (hf : ∀ k, k < n → xs[k]? = some (f k)) : ∃ A c, v = .slice A n c ∧ Arr w A n f := by
  rcases h.2 with ⟨rfl, rfl⟩ | ⟨g, cap, cur, rfl, hg, hh, r⟩
  · exact ⟨_, _, rfl, fun k hk => absurd hk (by omega)⟩
  · refine ⟨_, _, rfl, fun k hk => ⟨g, 0, rfl, ?_⟩⟩
    rw [Nat.zero_add, h.cellAt k (by omega), hf k hk]
theorem own_slice0 {w : World} {base : Nat} {e : TypeId} {size : Nat} {v : Value} {n : Nat} {xs : List Value} (h : w.ownsRow base e size v n xs) : ∃ A c, v = .slice A n c := by
  rcases h.2 with ⟨rfl, rfl⟩ | ⟨g, cap, cur, rfl, _⟩ <;> exact ⟨_, _, rfl⟩
theorem gr_trans' {w w1 w2 : World} (h : Below w.heap.size w w1) (k : Below w1.heap.size w1 w2) : Below w.heap.size w w2 := h.trans (k.mono h.size)
/-! Of of a row -/
theorem ofs_some (l : List Nat) (h : ∀ k ∈ l, k < 64) : ∃ m, ofs (l.map fun k : Nat => (k : Int)) 0#64 = some m ∧ ∀ i, i < 64 → m.getLsbD i = decide (i ∈ l) :=
  ⟨_, ofs_all l 0#64 h, fun i hi => by rw [fold_bit _ _ _ hi]; simp⟩
theorem nthI_row (l : List Nat) (k : Nat) (hk : k < l.length) : (l.map ienc)[k]? = some (.int .i64 (nthI (l.map fun k : Nat => (k : Int)) k)) := by
  unfold nthI
  rw [List.getElem?_map, List.getD_eq_getElem?_getD, List.getElem?_map, List.getElem?_eq_getElem hk]
  rfl
theorem rof_row (l : List Nat) (h : ∀ k ∈ l, k < 64) (hlen : l.length ≤ 100000) (m : BitVec 64) (hm : ∀ i, i < 64 → m.getLsbD i = decide (i ∈ l)) (v : Value) (base n : Nat) (w : World) (hn : l.length = n) (ho : w.ownsRow base 3 1 v n (l.map ienc)) :
    Calls Tryd.prog 13 #[v] w fun e w' => e = .returned (.tuple #[.int .u64 (U m), .bool true]) ∧ w = w' := by
  obtain ⟨m', h1, h2⟩ := ofs_some l h
  have e : m' = m := BitVec.eq_of_getLsbD_eq fun i hi => (h2 i hi).trans (hm i hi).symm
  subst e
  obtain ⟨A, c, rfl, ha⟩ := own_arr0 ho (fun k => .int .i64 (nthI (l.map fun k : Nat => (k : Int)) k)) (fun k hk => nthI_row l k (by omega))
  have := rof_any A n c (l.map fun k : Nat => (k : Int)) w (by simpa using hn) (by unfold maxLen; omega) ha
  rw [h1] at this
  exact this

/-! Join -/
def js (a b : BitVec 64) (t : Bool) (k : Nat) : List Nat := ((elems a).take k).filter fun n => hasB b n == t
theorem js_len (a b : BitVec 64) (t : Bool) (k : Nat) : (js a b t k).length ≤ k := by
  unfold js
  have h1 := List.length_filter_le (fun n : Nat => hasB b n == t) ((elems a).take k)
  have h2 := List.length_take_le k (elems a)
  omega
theorem js_yes (a b : BitVec 64) (t : Bool) (k q : Nat) (hq : (elems a)[k]? = some q) (h : (hasB b q == t) = true) : js a b t (k + 1) = js a b t k ++ [q] := by
  unfold js; rw [List.take_add_one, hq, List.filter_append]; simp [h]
theorem js_no (a b : BitVec 64) (t : Bool) (k q : Nat) (hq : (elems a)[k]? = some q) (h : (hasB b q == t) = false) : js a b t (k + 1) = js a b t k := by
  unfold js; rw [List.take_add_one, hq, List.filter_append]; simp [h]
def joinM (a b : BitVec 64) : Bool → BitVec 64
  | true => a &&& b
  | false => a &&& ~~~b
theorem join_bit (a b : BitVec 64) (t : Bool) (i : Nat) (hi : i < 64) : (joinM a b t).getLsbD i = decide (i ∈ js a b t (elems a).length) := by
  unfold js
  rw [List.take_length, Bool.eq_iff_iff, decide_eq_true_eq, List.mem_filter, mem_elems]
  have hh : hasB b (i : Int) = b.getLsbD i := by unfold hasB; simp
  rw [hh]
  cases t
  · unfold joinM
    rw [BitVec.getLsbD_and, BitVec.getLsbD_not]
    simp [hi]
  · unfold joinM
    rw [BitVec.getLsbD_and]
    simp
set_option maxRecDepth 100000 in
set_option maxHeartbeats 1000000 in
theorem rjoin_any (a b : BitVec 64) (t : Bool) (w : World) :
    Calls Tryd.prog 35 #[.int .u64 (U a), .int .u64 (U b), .bool t] w fun e w' => e = .returned (.int .u64 (U (joinM a b t))) ∧ Below w.heap.size w w' := by
  obtain ⟨i0, hi, hz0, hz1, hz2⟩ := info_parts info_int
  have hlen : (elems a).length ≤ 64 := by rw [pop_eq]; exact pop_le a
  go_enter Tryd.func35, Tryd.ntmps35
  go_wp2_with fail
  refine (rall_any a w).mono ?_; rintro e wA ⟨av, rfl, hav, hbA⟩
  obtain ⟨A, c, rfl⟩ := own_slice0 hav
  have hn : ∃ n, (elems a).length = n := ⟨_, rfl⟩
  go_wp2
  go_loopw [7, 15] (fun v i wr => ∃ k : Nat, k ≤ (elems a).length ∧ i = .int .i64 k ∧ wr.ownsRow wA.heap.size 3 1 v (js a b t k).length ((js a b t k).map ienc) ∧ Below wA.heap.size wA wr) (fun _ i _ => (elems a).length - (intOf i).toNat)
  case atStart => exact ⟨0, by omega, rfl, by simpa [js] using World.ownsRow_nil _ _ _ _, Below.refl _ _⟩
  case round =>
    obtain ⟨k, hk, rfl, hrow, hb⟩ := hrel
    by_cases hlt : k < (elems a).length
    · have hl := js_len a b t k
      have hle := hb.size
      have hq : (elems a)[k]? = some (elems a)[k] := List.getElem?_eq_getElem hlt
      have hcells := own_below hav hb
      obtain ⟨A', c', e1, ha⟩ := own_arr0 hcells (fun k => .int .i64 (nthI ((elems a).map fun k : Nat => (k : Int)) k)) (fun k hk => nthI_row _ k hk)
      cases e1
      obtain ⟨g, o, rfl, hc⟩ := ha k hlt
      dsimp only at hc
      rw [nthI_at a k hlt] at hc
      generalize (elems a)[k] = q at hq hc
      clear ha hcells
      rcases hh : (hasB b q == t) with _ | _
      · have Hp := Lib.hid (js_no a b t k q hq hh)
        have Hq := Lib.hid hq; clear hq
        go_wp2_with (go_at_call 29; refine (rhas_any b q _).mono ?_; rintro e w' ⟨rfl, rfl⟩)
        go_roundw
        case rel => exact ⟨k + 1, by omega, by go_num, by rw [Hp.out]; exact hrow, hb⟩
        case measure => simp [intOf]; omega
      · have Hp := Lib.hid (js_yes a b t k q hq hh)
        have Hq := Lib.hid hq; clear hq
        go_wp2_with (first
          | (go_at_call 29; refine (rhas_any b q _).mono ?_; rintro e w' ⟨rfl, rfl⟩)
          | (at_builtin; refine wpList_append_own _ rfl _ _ 25 rfl wA.heap.size 3 i0 (.int .i64 0) 1 8 Tryd.underlying25 hi hz0 hz1 hz2 rfl (by decide) _ _ _ rfl (hrow.alloc _) ⟨wr.heap.size, 0, none⟩ 1 1 [.int .i64 (q : Int)] rfl rfl (cell_one_new _ _ _) (by simp [Value.oneCell']) (by unfold maxLen; omega) (by omega) (by simp; omega) ?_; intro v' w5 hown5 hgrow5 _))
        go_roundw
        case rel =>
          exact ⟨k + 1, by omega, by go_num, by rw [Hp.out]; simpa [ienc] using hown5, (hb.alloc hle (.cells #[.int .i64 (q : Int)] 3)).grown hgrow5 (by simp; omega) (fun j e => (hrow.lt j e).1)⟩
        case measure => simp [intOf]; omega
    · have hke : k = (elems a).length := by omega
      subst hke
      have hl := js_len a b t (elems a).length
      have HF := Lib.hid (rof_row (js a b t (elems a).length) (fun k hk => by
        unfold js at hk
        rw [List.take_length] at hk
        exact elems_lt (List.mem_filter.1 hk).1) (by omega) (joinM a b t) (join_bit a b t) _ wA.heap.size _ wr rfl hrow)
      go_wp2_with (go_at_call 13; refine HF.out.mono ?_; rintro e w' ⟨rfl, rfl⟩)
      go_ret
      exact ⟨rfl, gr_trans' hbA hb⟩

/-! Or -/
def alls (xs : List (BitVec 64)) (k : Nat) : List Nat := (xs.take k).flatMap elems
theorem alls_succ (xs : List (BitVec 64)) (k : Nat) (h : k < xs.length) : alls xs (k + 1) = alls xs k ++ elems (nth xs k) := by
  unfold alls nth
  rw [List.take_add_one, List.flatMap_append, List.getElem?_eq_getElem h, List.getD_eq_getElem?_getD, List.getElem?_eq_getElem h]
  simp
theorem flat_len : ∀ l : List (BitVec 64), (l.flatMap elems).length ≤ 64 * l.length
  | [] => by simp
  | x :: l => by
    have h1 : (elems x).length ≤ 64 := by rw [pop_eq]; exact pop_le x
    have := flat_len l
    rw [List.flatMap_cons, List.length_append, List.length_cons]
    omega
theorem alls_len (xs : List (BitVec 64)) (k : Nat) : (alls xs k).length ≤ 64 * k := by
  unfold alls
  have h1 := flat_len (xs.take k)
  have h2 := List.length_take_le k xs
  have h3 : 64 * (xs.take k).length ≤ 64 * k := Nat.mul_le_mul_left _ h2
  omega
theorem alls_bit (xs : List (BitVec 64)) (i : Nat) (_hi : i < 64) : (folds g_or xs 0#64).getLsbD i = decide (i ∈ alls xs xs.length) := by
  unfold alls
  rw [List.take_length, folds_or_bit, Bool.eq_iff_iff, decide_eq_true_eq, List.mem_flatMap]
  simp [mem_elems]
set_option maxRecDepth 100000 in
set_option maxHeartbeats 1000000 in
theorem ror_any (A : Option Addr) (n c : Nat) (xs : List (BitVec 64)) (w : World) (hx : xs.length = n) (hn : n ≤ 12) (hc : Arr w A n (fun k => .int .u64 (U (nth xs k)))) (hA : ∀ b o, A = some ⟨b, o, none⟩ → 0 < n → b < w.heap.size) :
    Calls Tryd.prog 32 #[.slice A n c] w fun e w' => e = .returned (.int .u64 (U (folds g_or xs 0#64))) ∧ Below w.heap.size w w' := by
  obtain ⟨i0, hi, hz0, hz1, hz2⟩ := info_parts info_int
  have Hx := Lib.hid hx; clear hx
  go_enter Tryd.func32, Tryd.ntmps32
  go_wp2
  go_loopw [3, 10] (fun v i wr => ∃ k : Nat, k ≤ n ∧ i = .int .i64 k ∧ wr.ownsRow w.heap.size 3 1 v (alls xs k).length ((alls xs k).map ienc) ∧ Below w.heap.size w wr) (fun _ i _ => n - (intOf i).toNat)
  case atStart => exact ⟨0, by omega, rfl, by simpa [alls] using World.ownsRow_nil _ _ _ _, Below.refl _ _⟩
  case round =>
    obtain ⟨k, hk, rfl, hrow, hb⟩ := hrel
    by_cases hlt : k < n
    · have hl := alls_len xs k
      have hl2 : (elems (nth xs k)).length ≤ 64 := by rw [pop_eq]; exact pop_le _
      have hle := hb.size
      obtain ⟨g, o, rfl, hcell⟩ := hc k hlt
      dsimp only at hcell
      have hgl := hA g o rfl (by omega)
      have hcw : wr.cell? ⟨g, o + k, none⟩ = some (.int .u64 (U (nth xs k))) := ((below_cell hb).1 g _ hgl).trans hcell
      have Hp := Lib.hid (alls_succ xs k (by rw [Hx.out]; exact hlt))
      generalize nth xs k = y at *
      clear hc hA hcell
      go_wp2_with fail
      refine (rall_any y wr).mono ?_; rintro e w2 ⟨av, rfl, hav, hb2⟩
      have hrow2 := own_below hrow hb2
      have hbb := hb.trans (hb2.mono hle)
      have hle2 := hbb.size
      rcases hav.2 with ⟨rfl, h0⟩ | ⟨g2, cap2, cur2, rfl, hbase2, hrest⟩
      · have hnil : elems y = [] := List.length_eq_zero_iff.1 h0
        rw [hnil, List.append_nil] at Hp
        clear hav h0 hnil
        go_wp2_with (at_builtin; refine wpList_append_own_none rfl _ _ 25 rfl w.heap.size 3 i0 1 Tryd.underlying25 hi _ _ _ rfl hrow2 rfl ?_)
        go_roundw
        case rel => exact ⟨k + 1, by omega, by go_num, by rw [Hp.out]; exact hrow2, hbb⟩
        case measure => simp [intOf]; omega
      · have hsrc := hav.cells (g := g2) rfl
        clear hrest
        go_wp2_with (at_builtin; refine wpList_append_own _ rfl _ _ 25 rfl w.heap.size 3 i0 (.int .i64 0) 1 8 Tryd.underlying25 hi hz0 hz1 hz2 rfl (by decide) _ _ _ rfl hrow2 ⟨g2, 0, none⟩ (elems y).length cap2 ((elems y).map ienc) rfl (by simp) hsrc (by intro u hu; obtain ⟨q, _, rfl⟩ := List.mem_map.1 hu; rfl) (by unfold maxLen; omega) (by omega) (by omega) ?_; intro v' w5 hown5 hgrow5 _)
        go_roundw
        case rel =>
          exact ⟨k + 1, by omega, by go_num, by rw [Hp.out, List.length_append, List.map_append]; exact hown5, hbb.grown hgrow5 (by omega) (fun j e => (hrow2.lt j e).1)⟩
        case measure => simp [intOf]; omega
    · obtain rfl : k = n := by omega
      have hl := alls_len xs k
      have HF := Lib.hid (rof_row (alls xs k) (fun q hq => by
        unfold alls at hq
        obtain ⟨m, _, hm⟩ := List.mem_flatMap.1 hq
        exact elems_lt hm) (by omega) (folds g_or xs 0#64) (fun i hi => by have := alls_bit xs i hi; rwa [Hx.out] at this) _ w.heap.size _ wr rfl hrow)
      clear hc hA
      go_wp2_with (go_at_call 13; refine HF.out.mono ?_; rintro e w' ⟨rfl, rfl⟩)
      go_ret
      exact ⟨rfl, hb⟩
end Go.Proofs.YtkakncgdhangpaaDoor
