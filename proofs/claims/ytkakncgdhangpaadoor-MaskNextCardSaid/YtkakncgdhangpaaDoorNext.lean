/- MaskNext walked. -/
import Derived.Test.YtkakncgdhangpaaDoorNextM
import Derived.Test.YtkakncgdhangpaaDoorSlices
import Derived.Test.YtkakncgdhangpaaDoorWakes
import Derived.Test.YtkakncgdhangpaaDoorSets
import Derived.Test.YtkakncgdhangpaaDoorSpans
namespace Go.Proofs.YtkakncgdhangpaaDoor
open Go.RowKit

theorem own_arrI {w : World} {base : Nat} {e : TypeId} {v : Value} {n : Nat} {xs : List Value} (h : w.ownsRow base e 1 v n xs) (f : Nat → Int) (hf : ∀ k, k < n → xs[k]? = some (.int .i64 (f k))) : ∃ A c, v = .slice A n c ∧ ArrI w A n f := by
  rcases h.2 with ⟨rfl, rfl⟩ | ⟨g, cap, cur, rfl, hg, hh, r⟩
  · exact ⟨_, _, rfl, fun k hk => absurd hk (by omega)⟩
  · refine ⟨_, _, rfl, fun k hk => ⟨g, 0, rfl, ?_⟩⟩
    rw [Nat.zero_add, h.cellAt k (by omega), hf k hk]
/-- Up: k numbers have come; the next one, or none, is at hand. -/
structure UpRel (x : BitVec 64) (wA : World) (k : Nat) (uv : Value) (wr : World) : Prop where
  le : k ≤ (elems x).length
  row : wr.ownsRow wA.heap.size 3 1 uv k (((elems x).take k).map ienc)
  below : Below wA.heap.size wA wr
structure DownRel (x : BitVec 64) (wA : World) (k : Nat) (uv : Value) (wr : World) : Prop where
  le : k ≤ (elems x).length
  row : wr.ownsRow wA.heap.size 3 1 uv k (((elems x).reverse.take k).map ienc)
  below : Below wA.heap.size wA wr
/-- How long a slice is. -/
def lenOf (v : Value) : Nat := match v with | .slice _ k _ => k | _ => 0
theorem own_slice {w : World} {base : Nat} {e : TypeId} {size : Nat} {v : Value} {n : Nat} {xs : List Value} (h : w.ownsRow base e size v n xs) : ∃ A c, v = .slice A n c := by
  rcases h.2 with ⟨rfl, rfl⟩ | ⟨g, cap, cur, rfl, _⟩ <;> exact ⟨_, _, rfl⟩
def nV (o : Option Nat) : Value := .int .i64 ((o.getD 0 : Nat) : Int)
def okV (o : Option Nat) : Value := .bool o.isSome

theorem some2_eq (o : Option Nat) : some2 o = .tuple #[nV o, okV o] := rfl
theorem nV_some (q : Nat) : nV (some q) = .int .i64 (q : Int) := rfl
theorem okV_some (q : Nat) : okV (some q) = .bool true := rfl
theorem nV_none : nV none = .int .i64 0 := rfl
theorem okV_none : okV none = .bool false := rfl

set_option maxRecDepth 100000 in
set_option maxHeartbeats 4000000 in
theorem next_walk (x : BitVec 64) (at_ : Int) (w : World) (hT : Tab w) (hg : 0 < w.heap.size) :
    Calls Tryd.prog 7 #[.int .u64 (U x), .int .i64 at_] w fun e w' => e = .returned (.bool true) ∧ Below w.heap.size w w' := by
  have hlen : (elems x).length ≤ 64 := by rw [pop_eq]; exact pop_le x
  obtain ⟨i0, hi, hz0, hz1, hz2⟩ := info_parts info_int
  go_enter Tryd.func7, Tryd.ntmps7
  go_wp2_with fail
  refine (wakes_any w hT hg).mono ?_; rintro e w1 ⟨rfl, hb1⟩
  have hT1 := hT.below hg hb1
  have hg1 : 0 < w1.heap.size := Nat.lt_of_lt_of_le hg hb1.size
  clear hT hg
  go_wp2_with fail
  have hF0 := first_any x 0 w1 hT1 hg1
  rw [least_zero] at hF0
  refine hF0.mono ?_; rintro e w2 ⟨rfl, hb2⟩
  rw [some2_eq]
  clear hF0
  go_wp2
  go_loopw [5, 7, 8] (fun uv nv ov wr => ∃ k : Nat, nv = nV (elems x)[k]? ∧ ov = okV (elems x)[k]? ∧ UpRel x w1 k uv wr) (fun uv _ _ _ => 64 - lenOf uv)
  case atStart => exact ⟨0, rfl, rfl, Nat.zero_le _, World.ownsRow_nil _ _ _ _, hb2⟩
  case round =>
    obtain ⟨k, rfl, rfl, hU⟩ := hrel
    obtain ⟨hk, hrow, hbw⟩ := hU
    obtain ⟨A, c, rfl⟩ := own_slice hrow
    by_cases hlt : k < (elems x).length
    · have he := List.getElem?_eq_getElem hlt
      generalize (elems x)[k] = q at he
      have hq := elems_lt (List.mem_of_getElem? he)
      have hT2 := hT1.below hg1 hbw
      have hle := hbw.size
      have HN := Lib.hid (least_next x k q he)
      have He := Lib.hid he
      rw [he]
      rw [nV_some, okV_some]
      have hk63 : (k : Int) ≤ 63 := by omega
      clear he hb2
      go_wp2_with (at_builtin; refine wpList_append_own _ rfl _ _ 25 rfl w1.heap.size 3 i0 (.int .i64 0) 1 8 Tryd.underlying25 hi hz0 hz1 hz2 rfl (by decide) _ _ _ rfl (hrow.alloc _) ⟨wr.heap.size, 0, none⟩ 1 1 [.int .i64 (q : Int)] rfl rfl (cell_one_new _ _ _) (by simp [Value.oneCell']) (by unfold maxLen; omega) (by omega) (by simp; omega) ?_; intro v' w5 hown5 hgrow5 _)
      have hb5 : Below w1.heap.size w1 w5 := (hbw.alloc hle (.cells #[.int .i64 (q : Int)] 3)).grown hgrow5 (by simp; omega) (fun j e => (hrow.lt j e).1)
      have hg5 : 0 < w5.heap.size := Nat.lt_of_lt_of_le hg1 hb5.size
      refine (first_any x ((q : Int) + 1) w5 (hT1.below hg1 hb5) hg5).mono ?_; rintro e w6 ⟨rfl, hb6⟩
      rw [HN.out, some2_eq]
      have hr6 := own_below hown5 hb6
      go_wp2
      go_roundw
      case rel =>
        refine ⟨k + 1, rfl, rfl, by omega, ?_, hb5.trans (hb6.mono hb5.size)⟩
        rw [List.take_add_one, He.out]
        simpa [ienc] using hr6
      case measure =>
        obtain ⟨A', c', rfl⟩ := own_slice hr6
        simp [lenOf]; omega
    · have hke : k = (elems x).length := by omega
      have hnone : (elems x)[k]? = none := List.getElem?_eq_none (by omega)
      rw [hnone, nV_none, okV_none]
      rw [List.take_of_length_le (by omega)] at hrow
      have hg2 : 0 < wr.heap.size := Nat.lt_of_lt_of_le hg1 hbw.size
      have hT2 := hT1.below hg1 hbw
      clear hnone hb2 hlt
      go_wp2_with fail
      have hF0 := last_any x 63 wr hT2 hg2
      rw [great_top] at hF0
      refine hF0.mono ?_; rintro e w3 ⟨rfl, hb3⟩
      rw [some2_eq]
      clear hF0
      have hup := own_below hrow hb3
      have hbA : Below w1.heap.size w1 w3 := hbw.trans (hb3.mono hbw.size)
      have hg3 : 0 < w3.heap.size := Nat.lt_of_lt_of_le hg1 hbA.size
      have hT3 := hT1.below hg1 hbA
      clear hrow hT2 hg2
      go_wp2
      go_loopw [6, 9, 10] (fun dv nv ov wr => ∃ k : Nat, nv = nV (elems x).reverse[k]? ∧ ov = okV (elems x).reverse[k]? ∧ DownRel x w3 k dv wr) (fun dv _ _ _ => 64 - lenOf dv)
      case atStart => exact ⟨0, rfl, rfl, Nat.zero_le _, World.ownsRow_nil _ _ _ _, Below.refl _ _⟩
      case round =>
        obtain ⟨j, rfl, rfl, hD⟩ := hrel
        obtain ⟨hj, hrow, hbw2⟩ := hD
        obtain ⟨B, d, rfl⟩ := own_slice hrow
        by_cases hlt : j < (elems x).length
        · obtain ⟨q, he⟩ : ∃ q, (elems x).reverse[j]? = some q := ⟨_, List.getElem?_eq_getElem (by simpa using hlt)⟩
          have hq := elems_lt (List.mem_reverse.1 (List.mem_of_getElem? he))
          have hle := hbw2.size
          have HN := Lib.hid (great_next x j q he)
          have He := Lib.hid he
          rw [he]
          rw [nV_some, okV_some]
          have hj63 : (j : Int) ≤ 63 := by omega
          clear he
          go_wp2_with (at_builtin; refine wpList_append_own _ rfl _ _ 25 rfl w3.heap.size 3 i0 (.int .i64 0) 1 8 Tryd.underlying25 hi hz0 hz1 hz2 rfl (by decide) _ _ _ rfl (hrow.alloc _) ⟨wr.heap.size, 0, none⟩ 1 1 [.int .i64 (q : Int)] rfl rfl (cell_one_new _ _ _) (by simp [Value.oneCell']) (by unfold maxLen; omega) (by omega) (by simp; omega) ?_; intro v' w5 hown5 hgrow5 _)
          have hb5 : Below w3.heap.size w3 w5 := (hbw2.alloc hle (.cells #[.int .i64 (q : Int)] 3)).grown hgrow5 (by simp; omega) (fun j e => (hrow.lt j e).1)
          have hg5 : 0 < w5.heap.size := Nat.lt_of_lt_of_le hg3 hb5.size
          refine (last_any x ((q : Int) - 1) w5 (hT3.below hg3 hb5) hg5).mono ?_; rintro e w6 ⟨rfl, hb6⟩
          rw [HN.out, some2_eq]
          have hr6 := own_below hown5 hb6
          go_wp2
          go_roundw
          case rel =>
            refine ⟨j + 1, rfl, rfl, by omega, ?_, hb5.trans (hb6.mono hb5.size)⟩
            rw [List.take_add_one, He.out]
            simpa [ienc] using hr6
          case measure =>
            obtain ⟨A', c', rfl⟩ := own_slice hr6
            simp [lenOf]; omega
        · have hje : j = (elems x).length := by omega
          have hnone : (elems x).reverse[j]? = none := List.getElem?_eq_none (by simp; omega)
          rw [hnone, nV_none, okV_none]
          rw [List.take_of_length_le (by simp; omega)] at hrow
          have hup3 : w3.ownsRow w1.heap.size 3 1 (.slice A (elems x).length c) (elems x).length ((elems x).map ienc) := by rwa [hke] at hup
          have hdn : wr.ownsRow w3.heap.size 3 1 (.slice B (elems x).length d) (elems x).length (((elems x).reverse.map fun k : Nat => (k : Int)).map int1) := by
            rw [hje] at hrow
            rw [List.map_map]
            exact hrow
          have HR := Lib.hid (reverse_any w3.heap.size (elems x).length (.slice B (elems x).length d) _ wr (by simp) (by unfold maxLen; omega) hdn)
          have hlt4 := fun j e => (hdn.lt j e).1
          subst hje
          clear hnone hlt hrow hup hke hdn
          go_wp2_with fail
          refine HR.out.mono ?_; rintro e w4 ⟨rfl, hrv, hgr⟩
          have hb4 : Below w3.heap.size w3 w4 := hbw2.grown hgr hbw2.size hlt4
          have hup4 := own_below hup3 hb4
          have hg4 : 0 < w4.heap.size := Nat.lt_of_lt_of_le hg3 hb4.size
          have hT4 := hT3.below hg3 hb4
          have hB4 : Below w.heap.size w w4 := gr_trans (gr_trans hb1 hbA) hb4
          have HE0 := Lib.hid (least_zero x)
          clear hlt4 hup3 hgr hT1 hg1 hbw hb3 hbA hb4 hT3 hg3 hbw2 HR hb1
          go_wp2_with fail
          refine (all_any x w4 hT4 hg4).mono ?_; rintro e w5 ⟨av, rfl, hav, hb5⟩
          have hup5 := own_below hup4 hb5
          have hdn5 := own_below hrv hb5
          have hg5 : 0 < w5.heap.size := Nat.lt_of_lt_of_le hg4 hb5.size
          have hT5 := hT4.below hg4 hb5
          have hB5 := gr_trans hB4 hb5
          have hcell : ∀ k, k < (elems x).length → ((elems x).map ienc)[k]? = some (.int .i64 (nthI ((elems x).map fun k : Nat => (k : Int)) k)) := fun k hk => nthI_elems x k hk
          obtain ⟨A1, c1, e1, ha1⟩ := own_arrI hup5 _ hcell
          obtain ⟨A2, c2, e2, ha2⟩ := own_arrI hav _ hcell
          obtain ⟨A3, c3, e3, ha3⟩ := own_arrI hdn5 (fun k => nthI ((elems x).map fun k : Nat => (k : Int)) k) (by
            intro k hk
            rw [← List.map_reverse, List.reverse_reverse, List.map_map]
            exact hcell k hk)
          cases e1; cases e3; subst e2
          have hsrt : ∀ k, k + 1 < (elems x).length → nthI ((elems x).map fun k : Nat => (k : Int)) k ≤ nthI ((elems x).map fun k : Nat => (k : Int)) (k + 1) := by
            intro k hk
            have := elems_step x k hk
            rw [nthI_at x k (by omega), nthI_at x (k + 1) hk]
            omega
          have hfirst : ∀ q : Nat, (elems x)[0]? = some q → ∃ b o, A = some ⟨b, o, none⟩ ∧ w5.cell? ⟨b, o + 0, none⟩ = some (.int .i64 (q : Int)) := by
            intro q hq
            have h0 : 0 < (elems x).length := (List.getElem?_eq_some_iff.1 hq).1
            obtain ⟨b, o, rfl, hc⟩ := ha1 0 h0
            refine ⟨b, o, rfl, ?_⟩
            rw [hc]
            show some (Value.int .i64 (nthI _ 0)) = _
            rw [nthI_at x 0 h0, (List.getElem?_eq_some_iff.1 hq).2]
          have HA1 := Lib.hid ha1
          have HA2 := Lib.hid ha2
          have HA3 := Lib.hid ha3
          have HS := Lib.hid hsrt
          have HF := Lib.hid hfirst
          clear ha1 ha2 ha3 hsrt hfirst hcell hup4 hup5 hav hdn5 hrv hT4 hg4 hb5 hB4
          generalize hn : (elems x).length = n at *
          have Hn := Lib.hid hn; clear hn
          go_wp2_with fail
          refine (equal_ints A A2 n c c2 _ w5 (by unfold maxLen; omega) HA1.out HA2.out).mono ?_; rintro e w6 ⟨rfl, q1, rfl⟩
          go_wp2_with fail
          refine (equal_ints B A n d c _ (w5.drewN q1) (by unfold maxLen; omega) (fun k hk => HA3.out k hk) (fun k hk => HA1.out k hk)).mono ?_; rintro e w6 ⟨rfl, q2, rfl⟩
          go_wp2_with fail
          refine (sorted_ints A n c _ (w5.drewN (q1 + q2)) (by unfold maxLen; omega) (fun k hk => HA1.out k hk) HS.out).mono ?_; rintro e w6 ⟨rfl, q3, hw6⟩
          have hc6 : ∀ p : Addr, w6.cell? p = w5.cell? p := by intro p; rw [hw6]; rfl
          have hT6 : Tab w6 := fun j hj => (hc6 _).trans (hT5 j hj)
          have hg6 : 0 < w6.heap.size := by rw [hw6]; exact hg5
          have hB6 : Below w.heap.size w w6 := by rw [hw6]; exact ⟨hB5.os, hB5.tape, hB5.output, hB5.size, hB5.block⟩
          have hF6 : ∀ q : Nat, (elems x)[0]? = some q → ∃ b o, A = some ⟨b, o, none⟩ ∧ w6.cell? ⟨b, o + 0, none⟩ = some (.int .i64 (q : Int)) := by
            intro q hq
            obtain ⟨b, o, h1, h2⟩ := HF.out q hq
            exact ⟨b, o, h1, (hc6 _).trans h2⟩
          have HF6 := Lib.hid hF6
          clear hw6 hc6 HF HA1 HA2 HA3 HS hT5 hg5 hB5 hF6
          go_wp2_with fail
          refine (round_any x at_ w6 hT6 hg6).mono ?_; rintro e w7 ⟨rfl, hb7⟩
          rw [some2_eq]
          have hT7 := hT6.below hg6 hb7
          have hg7 : 0 < w7.heap.size := Nat.lt_of_lt_of_le hg6 hb7.size
          go_wp2_with fail
          refine (first_any x at_ w7 hT7 hg7).mono ?_; rintro e w8 ⟨rfl, hb8⟩
          rw [some2_eq]
          have hT8 := hT7.below hg7 hb8
          have hg8 : 0 < w8.heap.size := Nat.lt_of_lt_of_le hg7 hb8.size
          go_wp2_with fail
          refine (last_any x at_ w8 hT8 hg8).mono ?_; rintro e w9 ⟨rfl, hb9⟩
          rw [some2_eq]
          have hb69 : Below w6.heap.size w6 w9 := gr_trans (gr_trans hb7 hb8) hb9
          have hB9 : Below w.heap.size w w9 := gr_trans hB6 hb69
          have HF9 : Hid (∀ q : Nat, (elems x)[0]? = some q → ∃ b o, A = some ⟨b, o, none⟩ ∧ w9.cell? ⟨b, o + 0, none⟩ = some (.int .i64 (q : Int))) := Lib.hid (by
            intro q hq
            obtain ⟨b, o, h1, h2⟩ := HF6.out q hq
            refine ⟨b, o, h1, ?_⟩
            have hl : b < w6.heap.size := by
              rcases Nat.lt_or_ge b w6.heap.size with hl | hl
              · exact hl
              · unfold World.cell? at h2; rw [Array.getElem?_eq_none (by simpa using hl)] at h2; simp at h2
            rw [(below_cell hb69).1 b _ hl, h2])
          clear hT6 hT7 hT8 hg6 hg7 hg8 HF6 hB6 hb7 hb8 hb9 hb69
          have HG : Hid (∀ j, great x at_ = some j → (j : Int) ≤ at_) := Lib.hid fun j h => (great_le h).1
          rcases hL : least x at_ with _ | k
          · have hA : around x at_ = (elems x)[0]? := by unfold around; rw [hL]; exact HE0.out
            rw [hA, nV_none, okV_none]
            rcases h0 : (elems x)[0]? with _ | q
            · have hx := elems_nil h0
              have hG : great x at_ = none := by
                unfold great
                rw [hx, elems_zero]; rfl
              have hz : (U x != 0) = false := by rw [hx, U_zero]; rfl
              rw [hG, nV_none, okV_none]
              clear hL hA h0 hx hG
              go_wp2
              go_ret
              exact ⟨rfl, hB9⟩
            · obtain ⟨b, o, rfl, hc⟩ := HF9.out q h0
              rw [Nat.add_zero] at hc
              have hz : (U x != 0) = true := by
                rw [bne_iff_ne, ← U_zero, ne_eq, U_inj]
                intro e
                rw [e, elems_zero] at h0
                simp at h0
              have hn0 : (0 : Int) < (n : Int) := by
                have h1 := (List.getElem?_eq_some_iff.1 h0).1
                have h2 := Hn.out
                omega
              rw [nV_some, okV_some]
              rcases hG : great x at_ with _ | j
              · rw [nV_none, okV_none]
                clear hL hA h0 hG
                go_wp2
                go_ret
                exact ⟨rfl, hB9⟩
              · have hj : (j : Int) ≤ at_ := HG.out j hG
                rw [nV_some, okV_some]
                clear hL hA h0 hG
                go_wp2
                go_ret
                exact ⟨rfl, hB9⟩
          · have hA : around x at_ = some k := by unfold around; rw [hL]
            obtain ⟨hk1, hk2⟩ := least_ge hL
            have hz : (U x != 0) = true := by
              rw [bne_iff_ne, ← U_zero, ne_eq, U_inj]
              intro e
              rw [e] at hk2
              simp at hk2
            have hh : hasB x (k : Int) = true := by unfold hasB; simp [hk2]
            rw [hA, nV_some, okV_some]
            rcases hG : great x at_ with _ | j
            · rw [nV_none, okV_none]
              clear hL hA hk2 hG
              go_wp2_with (go_at_call 28; refine (has_any x k _).mono ?_; rintro e w' ⟨rfl, rfl⟩)
              go_ret
              exact ⟨rfl, hB9⟩
            · have hj : (j : Int) ≤ at_ := HG.out j hG
              rw [nV_some, okV_some]
              clear hL hA hk2 hG
              go_wp2_with (go_at_call 28; refine (has_any x k _).mono ?_; rintro e w' ⟨rfl, rfl⟩)
              go_ret
              exact ⟨rfl, hB9⟩
end Go.Proofs.YtkakncgdhangpaaDoor
