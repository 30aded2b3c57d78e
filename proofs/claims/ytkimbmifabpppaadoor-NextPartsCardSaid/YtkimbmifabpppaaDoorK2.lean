/- Texts of this seat, one behind the other: Makes. -/
import Derived.Test.YtkimbmifabpppaaDoorK1
/- MaskMakes walked. -/
namespace Go.Proofs.YtkimbmifabpppaaDoor
open Go.RowKit

/-- The numbers below k that the span has. -/
def sp (f t s : Int) (k : Nat) : List Nat := (List.range k).filter (spanB f t s)
theorem sp_yes (f t s : Int) (k : Nat) (h : spanB f t s k = true) : sp f t s (k + 1) = sp f t s k ++ [k] := by
  unfold sp; rw [List.range_succ, List.filter_append]; simp [h]
theorem sp_no (f t s : Int) (k : Nat) (h : spanB f t s k = false) : sp f t s (k + 1) = sp f t s k := by
  unfold sp; rw [List.range_succ, List.filter_append]; simp [h]
theorem sp_len (f t s : Int) (k : Nat) : (sp f t s k).length ≤ k := by
  unfold sp; have := List.length_filter_le (spanB f t s) (List.range k); simpa using this
theorem sp_start (f t s : Int) (k : Nat) (h : (k : Int) ≤ f) : sp f t s k = [] := by
  unfold sp
  refine List.filter_eq_nil_iff.2 fun i hi => ?_
  have := List.mem_range.1 hi
  unfold spanB
  simp; omega
theorem sp_mem (f t s : Int) (k i : Nat) (h : t < (k : Int)) : decide (i ∈ sp f t s k) = spanB f t s i := by
  have e : (i ∈ sp f t s k) ↔ spanB f t s i = true := by
    unfold sp
    rw [List.mem_filter, List.mem_range]
    refine ⟨fun h => h.2, fun hb => ⟨?_, hb⟩⟩
    have : (i : Int) ≤ t := by unfold spanB at hb; simp at hb; omega
    omega
  cases hb : spanB f t s i with
  | false => rw [hb] at e; simpa using e
  | true => rw [hb] at e; simpa using e
theorem sp_lt (f t s : Int) (k i : Nat) (hk : k ≤ 64) (h : i ∈ sp f t s k) : i < 64 := by
  unfold sp at h
  have := List.mem_range.1 (List.mem_filter.1 h).1
  omega
theorem span_tmod (f t s : Int) (k : Nat) (h0 : f ≤ (k : Int)) (h1 : (k : Int) ≤ t) : (((k : Int) - f).tmod s == 0) = spanB f t s k := by
  unfold spanB
  rw [Int.tmod_eq_emod_of_nonneg (by omega)]
  have : ((k : Int) - f) % s = 0 ↔ (f ≤ (k : Int) ∧ (k : Int) ≤ t ∧ ((k : Int) - f) % s = 0) := ⟨fun h => ⟨h0, h1, h⟩, fun h => h.2.2⟩
  rw [show ((((k : Int) - f) % s == 0) = decide (((k : Int) - f) % s = 0)) from rfl]
  exact decide_eq_decide.2 this

theorem rspan_no (f t s : Int) (w : World) (h : ¬ spanOk f t s) :
    Calls Tryd.prog 73 #[.int .i64 f, .int .i64 t, .int .i64 s] w fun e w' => e = .returned (maskOk none) ∧ w = w' := by
  by_cases h0 : f < 0
  · clear h
    go_enter Tryd.func73, Tryd.ntmps73
    go_wp2
    go_ret2
    exact ⟨rfl, rfl⟩
  · by_cases h1 : 63 < t
    · clear h
      have d0 : decide (f < 0) = false := by simp; omega
      go_enter Tryd.func73, Tryd.ntmps73
      go_wp2
      go_ret2
      exact ⟨rfl, rfl⟩
    · by_cases h2 : t < f
      · clear h
        have d0 : decide (f < 0) = false := by simp; omega
        have d1 : decide (63 < t) = false := by simp; omega
        go_enter Tryd.func73, Tryd.ntmps73
        go_wp2
        go_ret2
        exact ⟨rfl, rfl⟩
      · have h3 : s < 1 := by unfold spanOk at h; omega
        clear h
        have d0 : decide (f < 0) = false := by simp; omega
        have d1 : decide (63 < t) = false := by simp; omega
        have d2 : decide (t < f) = false := by simp; omega
        go_enter Tryd.func73, Tryd.ntmps73
        go_wp2
        go_ret2
        exact ⟨rfl, rfl⟩

set_option maxRecDepth 100000 in
set_option maxHeartbeats 1000000 in
theorem rspan_yes (f t s : Int) (w : World) (h : spanOk f t s) (hs2 : s ≤ 9223372036854775807) :
    Calls Tryd.prog 73 #[.int .i64 f, .int .i64 t, .int .i64 s] w fun e w' => e = .returned (maskOk (some (mk (spanB f t s)))) ∧ Below w.heap.size w w' := by
  obtain ⟨i0, hi, hz0, hz1, hz2⟩ := info_parts info_int
  obtain ⟨h0, h1, h2, h3⟩ := h
  obtain ⟨F, rfl⟩ := Int.eq_ofNat_of_zero_le h0
  obtain ⟨T, rfl⟩ := Int.eq_ofNat_of_zero_le (show 0 ≤ t by omega)
  have d0 : decide ((F : Int) < 0) = false := by simp
  have d1 : decide (63 < (T : Int)) = false := by simp; omega
  have d2 : decide ((T : Int) < (F : Int)) = false := by simp; omega
  have d3 : decide (s < 1) = false := by simp; omega
  have d4 : decide (T < F) = false := by simp; omega
  have hm0 := Lib.hid (sp_start F T s F (Int.le_refl _))
  have Hm := Lib.hid (fun i (_ : i < 64) => (mk_bit (spanB F T s) i))
  go_enter Tryd.func73, Tryd.ntmps73
  go_wp2
  go_loopw [8, 9] (fun v i wr => ∃ k : Nat, F ≤ k ∧ k ≤ T + 1 ∧ i = .int .i64 k ∧ wr.ownsRow w.heap.size 3 1 v (sp F T s k).length ((sp F T s k).map ienc) ∧ Below w.heap.size w wr) (fun _ i _ => T + 1 - (intOf i).toNat)
  case atStart => exact ⟨F, by omega, by omega, rfl, by rw [hm0.out]; exact World.ownsRow_nil _ _ _ _, Below.refl _ _⟩
  case round =>
    obtain ⟨k, hFk, hk, rfl, hrow, hb⟩ := hrel
    by_cases hlt : k ≤ T
    · have hl := sp_len F T s k
      have hle := hb.size
      have hw : IntKind.i64.wrap ((k : Int) - (F : Int)) = (k : Int) - (F : Int) := by rw [IntKind.wrap_i64]; omega
      have ht := span_tmod F T s k (by omega) (by omega)
      have ht2 := ht
      rw [Int.tmod_eq_emod_of_nonneg (by omega)] at ht2
      have hlt' : decide ((T : Int) < (k : Int)) = false := by simp; omega
      rcases hh : spanB F T s k with _ | _
      · have Hp := Lib.hid (sp_no F T s k hh)
        rw [hh] at ht ht2
        go_wp2
        go_roundw
        case rel => exact ⟨k + 1, by omega, by omega, by go_num, by rw [Hp.out]; exact hrow, hb⟩
        case measure => simp [intOf]; omega
      · have Hp := Lib.hid (sp_yes F T s k hh)
        rw [hh] at ht ht2
        have hk63 : k < 64 := by omega
        go_wp2_with (at_builtin; refine wpList_append_own _ rfl _ _ 33 rfl w.heap.size 3 i0 (.int .i64 0) 1 8 Tryd.underlying33 hi hz0 hz1 hz2 rfl (by decide) _ _ _ rfl (hrow.alloc _) ⟨wr.heap.size, 0, none⟩ 1 1 [.int .i64 (k : Int)] rfl rfl (cell_one_new _ _ _) (by simp [Value.oneCell']) (by unfold maxLen; omega) (by omega) (by simp; omega) ?_; intro v' w5 hown5 hgrow5 _)
        go_roundw
        case rel =>
          refine ⟨k + 1, by omega, by omega, by go_num, by rw [Hp.out]; simpa [ienc] using hown5, (hb.alloc hle (.cells #[.int .i64 (k : Int)] 3)).grown hgrow5 (by simp; omega) (fun j e => (hrow.lt j e).1)⟩
        case measure => simp [intOf]; omega
    · have hkT : k = T + 1 := by omega
      have hgt : (T : Int) < (k : Int) := by omega
      have hl := sp_len F T s k
      go_wp2_with (go_at_call 97; refine (rof_row (sp F T s k) (fun i hi => sp_lt _ _ _ k i (by omega) hi) (by omega) (mk (spanB F T s)) (fun i hi => by rw [Hm.out i hi, sp_mem F T s k i (by omega)]; simp [hi]) _ _ _ _ rfl hrow).mono ?_; rintro e w' ⟨rfl, rfl⟩)
      go_ret2
      exact ⟨rfl, hb⟩

theorem rspan_any (f t s : Int) (w : World) (hs2 : s ≤ 9223372036854775807) :
    Calls Tryd.prog 73 #[.int .i64 f, .int .i64 t, .int .i64 s] w fun e w' => e = .returned (maskOk (spanM f t s)) ∧ Below w.heap.size w w' := by
  unfold spanM
  by_cases h : spanOk f t s
  · rw [if_pos h]; exact rspan_yes f t s w h hs2
  · rw [if_neg h]; exact (rspan_no f t s w h).mono fun e w' ⟨h1, h2⟩ => ⟨h1, h2 ▸ Below.refl _ _⟩

theorem ArrZ.cut {w : World} {B : Nat} {A : Option Addr} {n m : Nat} {zs : List Int} (h : ArrZ w B A n zs) (hm : m ≤ n) : ∃ ys : List Int, ys.length = m ∧ ArrZ w B A m ys := by
  refine ⟨(List.range m).map (nthI zs), by simp, fun k hk => ?_⟩
  obtain ⟨b, o, e, hl, hc⟩ := h k (by omega)
  refine ⟨b, o, e, hl, ?_⟩
  rw [hc]
  unfold nthI
  rw [List.getD_eq_getElem?_getD (l := List.map _ _), List.getElem?_map, List.getElem?_range hk]
  rfl
theorem ArrZ.mono {w : World} {B B' : Nat} {A : Option Addr} {n : Nat} {zs : List Int} (h : ArrZ w B A n zs) (hb : B ≤ B') : ArrZ w B' A n zs := by
  intro k hk
  obtain ⟨b, o, e, hl, hc⟩ := h k hk
  exact ⟨b, o, e, Nat.lt_of_lt_of_le hl hb, hc⟩
theorem ArrZ.arr {w : World} {B : Nat} {A : Option Addr} {n : Nat} {zs : List Int} (h : ArrZ w B A n zs) : ArrI w A n (nthI zs) := by
  intro k hk
  obtain ⟨b, o, e, hl, hc⟩ := h k hk
  exact ⟨b, o, e, hc⟩
/-- The row's own copy holds these numbers. -/
def izs (zs : List Int) (n : Nat) : List Value := (List.range n).map fun k => .int .i64 (nthI zs k)
theorem own_izs {w : World} {base : Nat} {v : Value} {n : Nat} {zs : List Int} (h : w.ownsRow base 3 1 v n (izs zs n)) : ∃ A c, v = .slice A n c ∧ ArrI w A n (nthI zs) :=
  own_arr0 h _ (fun k hk => by unfold izs; rw [List.getElem?_map, List.getElem?_range hk]; rfl)

/-- The value is a row of numbers that lies below B. -/
def RowIn (w : World) (B : Nat) (v : Value) : Prop := ∃ A L C zs, v = .slice A L C ∧ L ≤ C ∧ C ≤ maxLen ∧ (A = none → C = 0) ∧ ArrZ w B A L zs
def RowsIn (w : World) (B : Nat) (A : Option Addr) (n : Nat) : Prop := ∀ k, k < n → ∃ b o v, A = some ⟨b, o, none⟩ ∧ b < B ∧ w.cell? ⟨b, o + k, none⟩ = some v ∧ RowIn w B v
theorem RowIn.below {w w' : World} {B : Nat} {v : Value} (h : RowIn w B v) (hb : Below B w w') : RowIn w' B v := by
  obtain ⟨A, L, C, zs, e, h1, h2, h3, h4⟩ := h
  exact ⟨A, L, C, zs, e, h1, h2, h3, h4.below hb⟩
theorem RowsIn.below {w w' : World} {B : Nat} {A : Option Addr} {n : Nat} (h : RowsIn w B A n) (hb : Below B w w') : RowsIn w' B A n := by
  intro k hk
  obtain ⟨b, o, v, e, hl, hc, hr⟩ := h k hk
  exact ⟨b, o, v, e, hl, ((below_cell hb).1 b _ hl).trans hc, hr.below hb⟩
/-- The slice reads these bounds; its block lies below B. -/
def SpansIn (w : World) (B : Nat) (A : Option Addr) (n : Nat) : Prop := ∀ k, k < n → ∃ b o f t s, A = some ⟨b, o, none⟩ ∧ b < B ∧ w.cell? ⟨b, o + k * 3, none⟩ = some (.int .i64 f) ∧ w.cell? ⟨b, o + k * 3 + 1, none⟩ = some (.int .i64 t) ∧ w.cell? ⟨b, o + k * 3 + 2, none⟩ = some (.int .i64 s) ∧ s ≤ 9223372036854775807
theorem SpansIn.below {w w' : World} {B : Nat} {A : Option Addr} {n : Nat} (h : SpansIn w B A n) (hb : Below B w w') : SpansIn w' B A n := by
  intro k hk
  obtain ⟨b, o, f, t, s, e, hl, c0, c1, c2, hs⟩ := h k hk
  exact ⟨b, o, f, t, s, e, hl, ((below_cell hb).1 b _ hl).trans c0, ((below_cell hb).1 b _ hl).trans c1, ((below_cell hb).1 b _ hl).trans c2, hs⟩
end Go.Proofs.YtkimbmifabpppaaDoor
