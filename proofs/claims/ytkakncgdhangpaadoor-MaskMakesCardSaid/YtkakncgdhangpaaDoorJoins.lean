/- MaskJoins walked. -/
import Derived.Test.YtkakncgdhangpaaDoorRef2
import Derived.Test.YtkakncgdhangpaaDoorWakes
import Derived.Test.YtkakncgdhangpaaDoorSets
import Derived.Test.YtkakncgdhangpaaDoorBackM
import Derived.Test.YtkakncgdhangpaaDoorSlices
import Derived.Lib.SliceRun
namespace Go.Proofs.YtkakncgdhangpaaDoor
open Go.RowKit

theorem info_msk : (Tryd.prog.info? 28).map (fun i => (i.zero, i.size, i.bytes)) = some (some (.int .u64 0), 1, 8) := by kernel_rfl
def mcell (m : BitVec 64) : Value := .int .u64 (U m)
/-- The slice reads these masks; its block lies below B. -/
def ArrM (w : World) (B : Nat) (A : Option Addr) (n : Nat) (xs : List (BitVec 64)) : Prop := ∀ k, k < n → ∃ b o, A = some ⟨b, o, none⟩ ∧ b < B ∧ w.cell? ⟨b, o + k, none⟩ = some (.int .u64 (U (nth xs k)))
theorem ArrM.below {w w' : World} {B : Nat} {A : Option Addr} {n : Nat} {xs : List (BitVec 64)} (h : ArrM w B A n xs) (hb : Below B w w') : ArrM w' B A n xs := by
  intro k hk
  obtain ⟨b, o, e, hl, hc⟩ := h k hk
  exact ⟨b, o, e, hl, ((below_cell hb).1 b _ hl).trans hc⟩
theorem ArrM.mono {w : World} {B B' : Nat} {A : Option Addr} {n : Nat} {xs : List (BitVec 64)} (h : ArrM w B A n xs) (hb : B ≤ B') : ArrM w B' A n xs := by
  intro k hk
  obtain ⟨b, o, e, hl, hc⟩ := h k hk
  exact ⟨b, o, e, by omega, hc⟩
theorem ArrM.arr {w : World} {B : Nat} {A : Option Addr} {n : Nat} {xs : List (BitVec 64)} (h : ArrM w B A n xs) : Arr w A n (fun k => .int .u64 (U (nth xs k))) := by
  intro k hk
  obtain ⟨b, o, e, hl, hc⟩ := h k hk
  exact ⟨b, o, e, hc⟩

set_option maxRecDepth 100000 in
set_option maxHeartbeats 1000000 in
theorem clone_masks (A : Option Addr) (n c : Nat) (xs : List (BitVec 64)) (w : World) (hx : xs.length = n) (hn : n ≤ 12) (hnil : A = none → n = 0 ∧ c = 0) (ha : ArrM w w.heap.size A n xs) :
    Calls Tryd.prog 30 #[.slice A n c] w fun e w' => ∃ v, e = .returned v ∧ w'.ownsRow w.heap.size 28 1 v n (xs.map mcell) ∧ Below w.heap.size w w' := by
  obtain ⟨i0, hi, hz0, hz1, hz2⟩ := info_parts info_msk
  cases A with
  | none =>
    obtain ⟨rfl, rfl⟩ := hnil rfl
    have : xs = [] := List.length_eq_zero_iff.1 hx
    subst this
    clear ha hnil
    have heq := fun (W : World) => Lib.run_eql_slice_nil (P := Tryd.prog) W 40 28 none 0 0 0 0 Tryd.underlying40
    go_enter Tryd.func30, Tryd.ntmps30
    go_wp2
    go_ret
    exact ⟨_, rfl, World.ownsRow_nil _ _ _ _, Below.refl _ _⟩
  | some ad =>
    have heq := fun (W : World) => Lib.run_eql_slice_nil (P := Tryd.prog) W 40 28 (some ad) n c 0 0 Tryd.underlying40
    have hsrc : ∀ j u, (xs.map mcell)[j]? = some u → (w.alloc (.cells #[] 28)).cell? (ad.add j) = some u := by
      intro j u hj
      have hjl : j < n := by have := (List.getElem?_eq_some_iff.1 hj).1; simpa [hx] using this
      obtain ⟨b, o, e, hl, hc⟩ := ha j hjl
      injection e with e
      subst e
      have e2 : (⟨b, o, none⟩ : Addr).add j = ⟨b, o + j, none⟩ := by
        unfold Addr.add
        by_cases h0 : j = 0
        · subst h0; simp
        · simp [h0]
      rw [e2, World.cell?_alloc_lt w _ ⟨b, o + j, none⟩ hl, hc]
      rw [List.getElem?_map] at hj
      have hjx : j < xs.length := by omega
      rw [List.getElem?_eq_getElem hjx] at hj
      unfold nth
      rw [List.getD_eq_getElem?_getD, List.getElem?_eq_getElem hjx]
      exact hj
    have hown0 : (w.alloc (.cells #[] 28)).ownsRow w.heap.size 28 1 (.slice (some ⟨w.heap.size, 0, none⟩) 0 0) 0 [] := ⟨rfl, .inr ⟨_, 0, #[], rfl, Nat.le_refl _, World.alloc_heap_new w _, by omega, by unfold maxLen; omega, rfl, rfl⟩⟩
    have Hx := Lib.hid hx
    have hsrc' := Lib.hid hsrc
    clear ha hnil hx hsrc
    go_enter Tryd.func30, Tryd.ntmps30
    go_wp2_with (at_builtin; refine wpList_append_own _ rfl _ _ 40 rfl w.heap.size 28 i0 (.int .u64 0) 1 8 Tryd.underlying40 hi hz0 hz1 hz2 rfl (by decide) _ _ _ rfl hown0 ad n c (xs.map mcell) rfl (by rw [List.length_map, Hx.out, Nat.mul_one]) hsrc'.out (by intro u hu; obtain ⟨q, _, rfl⟩ := List.mem_map.1 hu; rfl) (by unfold maxLen; omega) (by omega) (by simp) ?_; intro v' w5 hown5 hgrow5 _)
    go_ret
    refine ⟨_, rfl, by simpa using hown5, ((Below.refl _ w).alloc (Nat.le_refl _) (.cells #[] 28)).grown hgrow5 (by simp) (fun j e => ?_)⟩
    exact (hown0.lt j e).1

set_option maxHeartbeats 1000000 in
theorem equal_masks (A B : Option Addr) (n c d : Nat) (f : Nat → BitVec 64) (w : World) (hn : n ≤ maxLen) (ha : Arr w A n (fun k => .int .u64 (U (f k)))) (hb : Arr w B n (fun k => .int .u64 (U (f k)))) :
    Calls Tryd.prog 33 #[.slice A n c, .slice B n d] w fun e w' => e = .returned (.bool true) ∧ ∃ q, w' = w.drewN q := by
  unfold maxLen at hn
  go_enter Tryd.func33, Tryd.ntmps33
  go_wp2
  go_loopw [13] (fun i wr => ∃ k q : Nat, k ≤ n ∧ i = .int .i64 k ∧ wr = w.drewN q) (fun i _ => n - (intOf i).toNat)
  case atStart => exact ⟨0, 0, Nat.zero_le _, rfl, rfl⟩
  case round =>
    obtain ⟨k, q, hk, rfl, rfl⟩ := hrel
    by_cases hlt : k < n
    · obtain ⟨b1, o1, rfl, c1⟩ := ha k hlt
      obtain ⟨b2, o2, rfl, c2⟩ := hb k hlt
      clear ha hb
      dsimp only at c1 c2
      generalize f k = v at *
      have h0 : (0 : Int) ≤ (k : Int) := by omega
      have h1 : (k : Int) < (n : Int) := by omega
      go_wp2
      go_quiet (fail)
      go_wp2
      go_roundw
      case rel => exact ⟨k + 1, _, by omega, by go_num, rfl⟩
      case measure => simp [intOf]; omega
    · clear ha hb
      go_wp2
      go_ret
      exact ⟨rfl, q, rfl⟩
theorem own_arrM {w : World} {base : Nat} {v : Value} {n : Nat} {xs : List (BitVec 64)} (hx : xs.length = n) (h : w.ownsRow base 28 1 v n (xs.map mcell)) : ∃ A c, v = .slice A n c ∧ Arr w A n (fun k => .int .u64 (U (nth xs k))) := by
  refine own_arr0 h _ (fun k hk => ?_)
  rw [List.getElem?_map, List.getElem?_eq_getElem (by omega)]
  unfold nth
  rw [List.getD_eq_getElem?_getD, List.getElem?_eq_getElem (by omega)]
  rfl
theorem ArrM.drewN {w : World} {B : Nat} {A : Option Addr} {n : Nat} {xs : List (BitVec 64)} (h : ArrM w B A n xs) (q : Nat) : ArrM (w.drewN q) B A n xs := fun k hk => h k hk
theorem below_drew {B : Nat} {a w : World} (h : Below B a w) (n : Nat) : Below B a (w.drewN n) := ⟨h.os, h.tape, h.output, h.size, h.block⟩
theorem ArrM.lt {w : World} {B : Nat} {A : Option Addr} {n : Nat} {xs : List (BitVec 64)} (h : ArrM w B A n xs) : ∀ b o, A = some ⟨b, o, none⟩ → 0 < n → b < B := by
  intro b o e h0
  obtain ⟨b', o', e', hl, _⟩ := h 0 h0
  rw [e] at e'
  injection e' with e'
  injection e' with e1 e2
  omega

set_option maxRecDepth 100000 in
set_option maxHeartbeats 4000000 in
theorem joins_main (A : Option Addr) (n c n0 : Nat) (xs : List (BitVec 64)) (w : World) (hT : Tab w) (hg : 0 < w.heap.size) (hx : xs.length = n) (hn : n ≤ 12) (hmin : n = min n0 12) (hn0 : n0 ≤ c) (hc : c ≤ maxLen) (hnil : A = none → n = 0 ∧ c = 0) (ha : ArrM w w.heap.size A n xs) :
    Calls Tryd.prog 5 #[.slice A n0 c] w fun e w' => e = .returned (.bool true) ∧ Below w.heap.size w w' := by
  unfold maxLen at hc
  go_enter Tryd.func5, Tryd.ntmps5
  go_wp2_with fail
  refine (wakes_any w hT hg).mono ?_; rintro e w1 ⟨rfl, hb1⟩
  have ha1 := ha.below hb1
  clear hT hg ha
  rcases Nat.lt_or_ge 12 n0 with h12 | h12
  · obtain rfl : n = 12 := by omega
    clear hmin
    go_wp2_with fail
    refine (clone_masks A 12 c xs w1 hx (by omega) hnil (ha1.mono hb1.size)).mono ?_; rintro e w2 ⟨v, rfl, hv, hb2⟩
    have hB2 := gr_trans hb1 hb2
    have ha2 := ha1.below (hb2.mono hb1.size)
    obtain ⟨B, d, rfl, hb⟩ := own_arrM hx hv
    have HO := Lib.hid (or_any B 12 d xs w2 hx (by unfold maxLen; omega) hb)
    clear hv
    go_wp2_with fail
    refine HO.out.mono ?_; rintro e w3 ⟨rfl, rfl⟩
    clear HO
    go_wp2_with fail
    refine (ror_any A 12 c xs w2 hx (by omega) ha2.arr (fun b o e h0 => Nat.lt_of_lt_of_le (ha2.lt b o e h0) hB2.size)).mono ?_; rintro e w3 ⟨rfl, hb3⟩
    have hB3 := gr_trans hB2 hb3
    have ha3 := ha2.below (hb3.mono hB2.size)
    have hbo : Arr w3 B 12 (fun k => .int .u64 (U (nth xs k))) := by
      intro k hk
      obtain ⟨b, o, e, hc⟩ := hb k hk
      refine ⟨b, o, e, ?_⟩
      have hl : b < w2.heap.size := by
        rcases Nat.lt_or_ge b w2.heap.size with hl | hl
        · exact hl
        · unfold World.cell? at hc; rw [Array.getElem?_eq_none (by simpa using hl)] at hc; simp at hc
      rw [(below_cell hb3).1 b _ hl]
      exact hc
    clear hb hb3 hb2 ha2 hb1 ha1 hB2
    go_wp2_with fail
    refine (equal_masks B A 12 d c _ w3 (by unfold maxLen; omega) hbo ha3.arr).mono ?_; rintro e w4 ⟨rfl, q, hw4⟩
    have ha4 : ArrM w4 w.heap.size A 12 xs := by rw [hw4]; exact ha3.drewN q
    have hB4 : Below w.heap.size w w4 := by rw [hw4]; exact below_drew hB3 q
    clear hw4 hbo ha3 hB3 hx hnil
    have HA := Lib.hid ha4; clear ha4
    go_wp2
    go_loopw [30] (fun i wr => ∃ k : Nat, k ≤ 12 ∧ i = .int .i64 k ∧ Below w4.heap.size w4 wr) (fun i _ => 12 - (intOf i).toNat)
    case atStart => exact ⟨0, by omega, rfl, Below.refl _ _⟩
    case round =>
      obtain ⟨k, hk, rfl, hbw⟩ := hrel
      by_cases hlt : k < 12
      · obtain ⟨b1, o1, e1, hl1, c1⟩ := (HA.out.below (hbw.mono hB4.size)) k hlt
        subst e1
        have hbk := Lib.hid hbw; clear hbw
        generalize nth xs k = x at c1
        have hdk : decide ((k : Int) < 12) = true := by simp; omega
        go_wp2
        obtain ⟨wo, hwo⟩ : ∃ wo : World, wo = wr := ⟨_, rfl⟩
        rw [← hwo] at hbk
        go_loopw [7, 36] (fun _ i wr2 => ∃ j : Nat, j ≤ 12 ∧ i = .int .i64 j ∧ Below w4.heap.size w4 wr2) (fun _ i _ => 12 - (intOf i).toNat)
        case atStart => exact ⟨0, by omega, rfl, by rw [← hwo]; exact hbk.out⟩
        case round =>
          obtain ⟨j, hj, rfl, hbw2⟩ := hrel
          by_cases hlt2 : j < 12
          · obtain ⟨b2, o2, e2, hl2, c2⟩ := (HA.out.below (hbw2.mono hB4.size)) j hlt2
            cases e2
            clear c1
            generalize nth xs j = y at c2
            go_wp2_with fail
            refine (and_any x y wr).mono ?_; rintro e w5 ⟨rfl, hb5⟩
            go_wp2_with fail
            refine (rjoin_any x y true w5).mono ?_; rintro e w6 ⟨rfl, hb6⟩
            rw [show joinM x y true = x &&& y from rfl]
            go_wp2_with fail
            refine (less_any x y w6).mono ?_; rintro e w7 ⟨rfl, hb7⟩
            go_wp2_with fail
            refine (rjoin_any x y false w7).mono ?_; rintro e w8 ⟨rfl, hb8⟩
            rw [show joinM x y false = x &&& ~~~y from rfl]
            have hb9 : Below w4.heap.size w4 w8 := gr_trans (gr_trans (gr_trans (gr_trans hbw2 hb5) hb6) hb7) hb8
            clear hb5 hb6 hb7 hb8 hbw2
            go_wp2
            go_roundw
            case rel => exact ⟨j + 1, by omega, by go_num, hb9⟩
            case measure => simp [intOf]; omega
          · clear c1
            go_wp2
            go_roundw
            case rel => exact ⟨k + 1, by omega, by go_num, hbw2⟩
            case measure => simp [intOf]; omega
      · go_wp2
        go_ret
        exact ⟨rfl, gr_trans hB4 hbw⟩
  · obtain rfl : n = n0 := by omega
    clear hmin
    go_wp2_with fail
    refine (clone_masks A n c xs w1 hx (by omega) hnil (ha1.mono hb1.size)).mono ?_; rintro e w2 ⟨v, rfl, hv, hb2⟩
    have hB2 := gr_trans hb1 hb2
    have ha2 := ha1.below (hb2.mono hb1.size)
    obtain ⟨B, d, rfl, hb⟩ := own_arrM hx hv
    have HO := Lib.hid (or_any B n d xs w2 hx (by unfold maxLen; omega) hb)
    clear hv
    go_wp2_with fail
    refine HO.out.mono ?_; rintro e w3 ⟨rfl, rfl⟩
    clear HO
    go_wp2_with fail
    refine (ror_any A n c xs w2 hx (by omega) ha2.arr (fun b o e h0 => Nat.lt_of_lt_of_le (ha2.lt b o e h0) hB2.size)).mono ?_; rintro e w3 ⟨rfl, hb3⟩
    have hB3 := gr_trans hB2 hb3
    have ha3 := ha2.below (hb3.mono hB2.size)
    have hbo : Arr w3 B n (fun k => .int .u64 (U (nth xs k))) := by
      intro k hk
      obtain ⟨b, o, e, hc⟩ := hb k hk
      refine ⟨b, o, e, ?_⟩
      have hl : b < w2.heap.size := by
        rcases Nat.lt_or_ge b w2.heap.size with hl | hl
        · exact hl
        · unfold World.cell? at hc; rw [Array.getElem?_eq_none (by simpa using hl)] at hc; simp at hc
      rw [(below_cell hb3).1 b _ hl]
      exact hc
    clear hb hb3 hb2 ha2 hb1 ha1 hB2
    go_wp2_with fail
    refine (equal_masks B A n d c _ w3 (by unfold maxLen; omega) hbo ha3.arr).mono ?_; rintro e w4 ⟨rfl, q, hw4⟩
    have ha4 : ArrM w4 w.heap.size A n xs := by rw [hw4]; exact ha3.drewN q
    have hB4 : Below w.heap.size w w4 := by rw [hw4]; exact below_drew hB3 q
    clear hw4 hbo ha3 hB3 hx hnil
    have HA := Lib.hid ha4; clear ha4
    go_wp2
    go_loopw [30] (fun i wr => ∃ k : Nat, k ≤ n ∧ i = .int .i64 k ∧ Below w4.heap.size w4 wr) (fun i _ => n - (intOf i).toNat)
    case atStart => exact ⟨0, by omega, rfl, Below.refl _ _⟩
    case round =>
      obtain ⟨k, hk, rfl, hbw⟩ := hrel
      by_cases hlt : k < n
      · obtain ⟨b1, o1, e1, hl1, c1⟩ := (HA.out.below (hbw.mono hB4.size)) k hlt
        subst e1
        have hbk := Lib.hid hbw; clear hbw
        generalize nth xs k = x at c1
        have hdk : decide ((k : Int) < (n : Int)) = true := by simp; omega
        go_wp2
        obtain ⟨wo, hwo⟩ : ∃ wo : World, wo = wr := ⟨_, rfl⟩
        rw [← hwo] at hbk
        go_loopw [7, 36] (fun _ i wr2 => ∃ j : Nat, j ≤ n ∧ i = .int .i64 j ∧ Below w4.heap.size w4 wr2) (fun _ i _ => n - (intOf i).toNat)
        case atStart => exact ⟨0, by omega, rfl, by rw [← hwo]; exact hbk.out⟩
        case round =>
          obtain ⟨j, hj, rfl, hbw2⟩ := hrel
          by_cases hlt2 : j < n
          · obtain ⟨b2, o2, e2, hl2, c2⟩ := (HA.out.below (hbw2.mono hB4.size)) j hlt2
            cases e2
            clear c1
            generalize nth xs j = y at c2
            go_wp2_with fail
            refine (and_any x y wr).mono ?_; rintro e w5 ⟨rfl, hb5⟩
            go_wp2_with fail
            refine (rjoin_any x y true w5).mono ?_; rintro e w6 ⟨rfl, hb6⟩
            rw [show joinM x y true = x &&& y from rfl]
            go_wp2_with fail
            refine (less_any x y w6).mono ?_; rintro e w7 ⟨rfl, hb7⟩
            go_wp2_with fail
            refine (rjoin_any x y false w7).mono ?_; rintro e w8 ⟨rfl, hb8⟩
            rw [show joinM x y false = x &&& ~~~y from rfl]
            have hb9 : Below w4.heap.size w4 w8 := gr_trans (gr_trans (gr_trans (gr_trans hbw2 hb5) hb6) hb7) hb8
            clear hb5 hb6 hb7 hb8 hbw2
            go_wp2
            go_roundw
            case rel => exact ⟨j + 1, by omega, by go_num, hb9⟩
            case measure => simp [intOf]; omega
          · clear c1
            go_wp2
            go_roundw
            case rel => exact ⟨k + 1, by omega, by go_num, hbw2⟩
            case measure => simp [intOf]; omega
      · go_wp2
        go_ret
        exact ⟨rfl, gr_trans hB4 hbw⟩
end Go.Proofs.YtkakncgdhangpaaDoor
