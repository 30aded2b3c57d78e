/- MaskTells walked. -/
import Derived.Test.YtkakncgdhangpaaDoorRef4
import Derived.Test.YtkakncgdhangpaaDoorSlices
import Derived.Test.YtkakncgdhangpaaDoorJoins
import Derived.Test.YtkakncgdhangpaaDoorLast
namespace Go.Proofs.YtkakncgdhangpaaDoor
open Go.RowKit

def RunsAt (w : World) (A : Option Addr) (n : Nat) (l : List (Nat × Nat)) : Prop := ∀ k, k < n → ∃ g a b, A = some ⟨g, 0, none⟩ ∧ w.cell? ⟨g, k * 2, none⟩ = some (.int .i64 ((a : Nat) : Int)) ∧ w.cell? ⟨g, k * 2 + 1, none⟩ = some (.int .i64 ((b : Nat) : Int)) ∧ l[k]? = some (a, b)
theorem runs_at {w : World} {base : Nat} {A : Option Addr} {c : Nat} {l : List (Nat × Nat)} (h : w.ownsRow base 46 2 (.slice A l.length c) l.length (l.flatMap renc)) : RunsAt w A l.length l := by
  intro k hk
  obtain ⟨g, e, _, h0, h1⟩ := run_cells2 h k l[k] (List.getElem?_eq_getElem hk) hk
  exact ⟨g, _, _, e, h0, h1, List.getElem?_eq_getElem hk⟩
set_option maxHeartbeats 1000000 in
theorem equal_runs (A B : Option Addr) (n c d : Nat) (l : List (Nat × Nat)) (w : World) (hn : n ≤ maxLen) (ha : RunsAt w A n l) (hb : RunsAt w B n l) :
    Calls Tryd.prog 20 #[.slice A n c, .slice B n d] w fun e w' => e = .returned (.bool true) ∧ ∃ q, w' = w.drewN q := by
  unfold maxLen at hn
  go_enter Tryd.func20, Tryd.ntmps20
  go_wp2
  go_loopw [13] (fun i wr => ∃ k q : Nat, k ≤ n ∧ i = .int .i64 k ∧ wr = w.drewN q) (fun i _ => n - (intOf i).toNat)
  case atStart => exact ⟨0, 0, Nat.zero_le _, rfl, rfl⟩
  case round =>
    obtain ⟨k, q, hk, rfl, rfl⟩ := hrel
    by_cases hlt : k < n
    · obtain ⟨b1, a, b, rfl, c1, c2, hl1⟩ := ha k hlt
      obtain ⟨b2, a', b', rfl, c3, c4, hl2⟩ := hb k hlt
      rw [hl1] at hl2
      cases hl2
      clear ha hb hl1
      have h0 : (0 : Int) ≤ (k : Int) := by omega
      have h1 : (k : Int) < (n : Int) := by omega
      go_wp2
      go_quiet (fail)
      go_wp2
      go_roundw
      case rel => exact ⟨k + 1, _, by omega, by go_num, rfl⟩
      case measure => simp [intOf]; omega
    · clear ha hb
      go_wp2
      go_ret
      exact ⟨rfl, q, rfl⟩

/-- The slice reads these numbers; its block lies below B. -/
def ArrZ (w : World) (B : Nat) (A : Option Addr) (n : Nat) (zs : List Int) : Prop := ∀ k, k < n → ∃ b o, A = some ⟨b, o, none⟩ ∧ b < B ∧ w.cell? ⟨b, o + k, none⟩ = some (.int .i64 (nthI zs k))
theorem ArrZ.below {w w' : World} {B : Nat} {A : Option Addr} {n : Nat} {zs : List Int} (h : ArrZ w B A n zs) (hb : Below B w w') : ArrZ w' B A n zs := by
  intro k hk
  obtain ⟨b, o, e, hl, hc⟩ := h k hk
  exact ⟨b, o, e, hl, ((below_cell hb).1 b _ hl).trans hc⟩
theorem own_arrZ {w : World} {base : Nat} {v : Value} {n : Nat} {l : List Nat} (hn : l.length = n) (h : w.ownsRow base 3 1 v n (l.map ienc)) : ∃ A c, v = .slice A n c ∧ ArrI w A n (fun k => nthI (l.map fun k : Nat => (k : Int)) k) :=
  own_arr0 h _ (fun k hk => nthI_row l k (by omega))
theorem own_runs {w : World} {base : Nat} {v : Value} {l : List (Nat × Nat)} {n : Nat} (hn : l.length = n) (h : w.ownsRow base 46 2 v n (l.flatMap renc)) : ∃ A c, v = .slice A n c ∧ RunsAt w A n l := by
  obtain ⟨A, c, rfl⟩ := own_slice0 h
  subst hn
  exact ⟨A, c, rfl, runs_at h⟩

set_option maxRecDepth 100000 in
set_option maxHeartbeats 4000000 in
theorem tells_main (A B : Option Addr) (n c m d : Nat) (xs : List (BitVec 64)) (zs : List Int) (w : World) (hT : Tab w) (hg : 0 < w.heap.size) (hn : n ≤ maxLen) (hm : m ≤ maxLen) (ha : ArrM w w.heap.size A n xs) (hz : ArrZ w w.heap.size B m zs) :
    Calls Tryd.prog 4 #[.slice A n c, .slice B m d] w fun e w' => e = .returned (.bool true) ∧ Below w.heap.size w w' := by
  unfold maxLen at hn hm
  have HT := Lib.hid hT
  have HA := Lib.hid ha
  have HZ := Lib.hid hz
  go_enter Tryd.func4, Tryd.ntmps4
  go_wp2_with fail
  refine (wakes_any w hT hg).mono ?_; rintro e w1 ⟨rfl, hb1⟩
  clear hT ha hz
  go_wp2
  go_loopw [24] (fun i wr => ∃ k : Nat, k ≤ n ∧ k ≤ 8 ∧ i = .int .i64 k ∧ Below w.heap.size w wr) (fun i _ => n - (intOf i).toNat)
  case atStart => exact ⟨0, by omega, by omega, rfl, hb1⟩
  case round =>
    obtain ⟨k, hk, hk8, rfl, hbw⟩ := hrel
    by_cases hlt : k < n
    · have hdk : decide ((k : Int) < (n : Int)) = true := by simp; omega
      obtain ⟨b1, o1, rfl, hl1, c1⟩ := (HA.out.below hbw) k hlt
      generalize nth xs k = x at c1
      by_cases h8 : k = 8
      · subst h8
        go_wp2
        go_ret
        exact ⟨rfl, hbw⟩
      · have hne : ((k : Int) == 8) = false := by simp; omega
        have hTr := HT.out.below hg hbw
        have hgr : 0 < wr.heap.size := Nat.lt_of_lt_of_le hg hbw.size
        have hpl := pop_le x
        go_wp2_with fail
        refine (rall_any x wr).mono ?_; rintro e w2 ⟨v1, rfl, hv1, hb2⟩
        rw [pop_eq] at hv1
        obtain ⟨A1, d1, rfl, hr1⟩ := own_arrZ (pop_eq x) hv1
        have hT2 := hTr.below hgr hb2
        have hg2 : 0 < w2.heap.size := Nat.lt_of_lt_of_le hgr hb2.size
        go_wp2_with fail
        refine (count_any x w2).mono ?_; rintro e w3 ⟨rfl, rfl⟩
        go_wp2_with fail
        refine (all_any x w2 hT2 hg2).mono ?_; rintro e w3 ⟨v2, rfl, hv2, hb3⟩
        rw [pop_eq] at hv2
        obtain ⟨A2, d2, rfl, hr2⟩ := own_arrZ (pop_eq x) hv2
        obtain ⟨A1', d1', e1, hr1'⟩ := own_arrZ (pop_eq x) (own_below hv1 hb3)
        cases e1
        have hT3 := hT2.below hg2 hb3
        have hg3 : 0 < w3.heap.size := Nat.lt_of_lt_of_le hg2 hb3.size
        go_wp2_with fail
        refine (equal_ints A2 A1 (pop x) d2 d1 _ w3 (by unfold maxLen; omega) hr2 hr1').mono ?_; rintro e w4 ⟨rfl, q, hw4⟩
        have hB4 : Below w.heap.size w w4 := by rw [hw4]; exact below_drew (gr_trans (gr_trans hbw hb2) hb3) q
        have hT4 := HT.out.below hg hB4
        have hg4 : 0 < w4.heap.size := Nat.lt_of_lt_of_le hg hB4.size
        clear hw4 hr1 hr2 hr1' hv1 hv2 hT2 hT3 hTr hg2 hg3 hgr hb2 hb3 hbw
        go_wp2_with fail
        refine (runs_any x w4 hT4 hg4).mono ?_; rintro e w5 ⟨v3, rfl, hv3, hb5⟩
        obtain ⟨A3, d3, rfl, hr3⟩ := own_runs rfl hv3
        go_wp2_with fail
        refine (rruns_any x w5).mono ?_; rintro e w6 ⟨v4, rfl, hv4, hb6⟩
        obtain ⟨A4, d4, rfl, hr4⟩ := own_runs rfl hv4
        obtain ⟨A3', d3', e3, hr3'⟩ := own_runs rfl (own_below hv3 hb6)
        cases e3
        have hrl : (runsOf x).length ≤ 64 := by unfold runsOf; rw [List.length_map, pop_eq]; exact pop_le _
        go_wp2_with fail
        refine (equal_runs A3 A4 (runsOf x).length d3 d4 (runsOf x) w6 (by unfold maxLen; omega) hr3' hr4).mono ?_; rintro e w7 ⟨rfl, q7, hw7⟩
        have hB7 : Below w.heap.size w w7 := by rw [hw7]; exact below_drew (gr_trans (gr_trans hB4 hb5) hb6) q7
        clear hw7 hr3 hr4 hr3' hv3 hv4 hT4 hg4 hb5 hb6 hB4
        go_wp2
        go_loopw [55] (fun i wr2 => ∃ j : Nat, j ≤ m ∧ j ≤ 12 ∧ i = .int .i64 j ∧ Below w.heap.size w wr2) (fun i _ => m - (intOf i).toNat)
        case atStart => exact ⟨0, by omega, by omega, rfl, hB7⟩
        case round =>
          obtain ⟨j, hj, hj12, rfl, hB8⟩ := hrel
          by_cases hltj : j < m
          · obtain ⟨b2, o2, rfl, hl2, c2⟩ := (HZ.out.below hB8) j hltj
            generalize nthI zs j = y at c2
            by_cases h12 : j = 12
            · subst h12
              go_wp2
              go_roundw
              case rel => exact ⟨k + 1, by omega, by omega, by go_num, hB8⟩
              case measure => simp [intOf]; omega
            · have hnj : ((j : Int) == 12) = false := by simp; omega
              have hTr := HT.out.below hg hB8
              have hgr : 0 < wr.heap.size := Nat.lt_of_lt_of_le hg hB8.size
              clear c1
              go_wp2_with fail
              refine (first_any x y wr hTr hgr).mono ?_; rintro e w9 ⟨rfl, hb9⟩
              have hT9 := hTr.below hgr hb9
              have hg9 : 0 < w9.heap.size := Nat.lt_of_lt_of_le hgr hb9.size
              obtain ⟨vl, hvl⟩ : ∃ o, least x y = o := ⟨_, rfl⟩
              obtain ⟨vg, hvg⟩ : ∃ o, great x y = o := ⟨_, rfl⟩
              rw [hvl, some2_is]
              go_wp2_with fail
              refine (last_any x y w9 hT9 hg9).mono ?_; rintro e w10 ⟨rfl, hb10⟩
              have hT10 := hT9.below hg9 hb10
              have hg10 : 0 < w10.heap.size := Nat.lt_of_lt_of_le hg9 hb10.size
              rw [hvg, some2_is]
              go_wp2_with fail
              refine (round_any x y w10 hT10 hg10).mono ?_; rintro e w11 ⟨rfl, hb11⟩
              rw [some2_is]
              go_wp2_with fail
              refine (rfirst_any x y w11).mono ?_; rintro e w12 ⟨rfl, hb12⟩
              rw [hvl, some2_is]
              go_wp2_with fail
              refine (rlast_any x y w12).mono ?_; rintro e w13 ⟨rfl, hb13⟩
              rw [hvg, some2_is]
              have hB13 : Below w.heap.size w w13 := gr_trans (gr_trans (gr_trans (gr_trans (gr_trans hB8 hb9) hb10) hb11) hb12) hb13
              clear hTr hgr hT9 hg9 hT10 hg10 hb9 hb10 hb11 hb12 hb13 hB8
              obtain ⟨ng, ig, e1, e2⟩ : ∃ (ng : Int) (ig : Bool), numV vg = .int .i64 ng ∧ isV vg = .bool ig := ⟨_, _, rfl, rfl⟩
              rw [e1, e2]
              clear hvg e1 e2
              rcases vl with _ | kl
              · have hA : around x y = least x 0 := by unfold around; rw [hvl]
                rw [hA]
                obtain ⟨nz, iz, e3, e4⟩ : ∃ (nz : Int) (iz : Bool), numV (least x 0) = .int .i64 nz ∧ isV (least x 0) = .bool iz := ⟨_, _, rfl, rfl⟩
                have He3 := Lib.hid e3
                have He4 := Lib.hid e4
                rw [e3, e4, show numV none = .int .i64 0 from rfl, show isV none = .bool false from rfl]
                clear hA hvl e3 e4
                go_wp2_with fail
                refine (has_any x y w13).mono ?_; rintro e w14 ⟨rfl, rfl⟩
                go_wp2_with fail
                refine (rhas_any x y w13).mono ?_; rintro e w14 ⟨rfl, rfl⟩
                generalize hasB x y = hb
                go_wp2_with fail
                refine (rfirst_any x 0 w13).mono ?_; rintro e w14 ⟨rfl, hb14⟩
                rw [some2_is, He3.out, He4.out]
                have hB14 := gr_trans hB13 hb14
                go_wp2
                go_roundw
                case rel => exact ⟨j + 1, by omega, by omega, by go_num, hB14⟩
                case measure => simp [intOf]; omega
              · have hA : around x y = some kl := by unfold around; rw [hvl]
                rw [hA, show numV (some kl) = .int .i64 (kl : Int) from rfl, show isV (some kl) = .bool true from rfl]
                clear hA hvl
                go_wp2_with fail
                refine (has_any x y w13).mono ?_; rintro e w14 ⟨rfl, rfl⟩
                go_wp2_with fail
                refine (rhas_any x y w13).mono ?_; rintro e w14 ⟨rfl, rfl⟩
                generalize hasB x y = hb
                go_wp2
                go_roundw
                case rel => exact ⟨j + 1, by omega, by omega, by go_num, hB13⟩
                case measure => simp [intOf]; omega
          · clear c1
            go_wp2
            go_roundw
            case rel => exact ⟨k + 1, by omega, by omega, by go_num, hB8⟩
            case measure => simp [intOf]; omega
    · go_wp2
      go_ret
      exact ⟨rfl, hbw⟩
end Go.Proofs.YtkakncgdhangpaaDoor
