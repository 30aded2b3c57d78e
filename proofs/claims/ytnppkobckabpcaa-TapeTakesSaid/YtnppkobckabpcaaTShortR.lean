/- What the document says of a short number that bytes begin with. -/
import Derived.Test.YtnppkobckabpcaaTShort
namespace Go.Proofs.Ytnppkobckabpcaa
open Go.RowKit

theorem val_drop_le (l : List Nat) (j : Nat) : val (l.drop j) ≤ val l := by
  induction l generalizing j with
  | nil => simp
  | cons b l ih =>
    cases j with
    | zero => simp
    | succ j =>
      have := ih j
      simp only [List.drop_succ_cons, val]
      omega
theorem val_drop {l : List Nat} {j : Nat} (h : j < l.length) : val (l.drop j) = 128 * val (l.drop (j + 1)) + nthB l j % 128 := by
  rw [List.drop_eq_getElem_cons h, val]
  unfold nthB
  rw [List.getD_eq_getElem?_getD, List.getElem?_eq_getElem h]
  simp only [Option.getD_some]
  omega
/-- The digits from the last one down. -/
def Down (l : List Nat) (L : Nat) (s6 s7 : Value) : Prop := ∃ j : Nat, j ≤ L + 1 ∧ s7 = .int .i64 ((j : Int) - 1) ∧ s6 = .int .u64 ((val ((l.take (L + 1)).drop j) : Nat) : Int)
set_option maxRecDepth 100000 in
set_option maxHeartbeats 8000000 in
theorem rshort_any (A : Option Addr) (n c B : Nat) (bs : List Nat) (w : World) (h : RowB w B A n c bs) :
    Calls Try.prog 58 #[.slice A n c] w (ShortIs bs w) := by
  have hn : n ≤ 9223372036854775807 := by have := h.cap; have := h.top; unfold maxLen at this; omega
  have Hl := Lib.hid h.len; have Hb := Lib.hid h.byte; have Hc := Lib.hid h.at_
  clear h
  go_enter Try.func58, Try.ntmps58
  go_wp2
  go_loop [5] (fun s5 => ∃ i : Nat, i ≤ n ∧ i ≤ lead bs ∧ s5 = .int .i64 (i : Int)) (fun s5 => n - (intOf s5).toNat)
  case atStart => exact ⟨0, by omega, by omega, rfl⟩
  case round =>
    obtain ⟨i, hi, hle, rfl⟩ := hrel
    by_cases hlt : i < n
    · have hil : i < bs.length := by rw [Hl.out]; exact hlt
      obtain ⟨b1, o1, rfl, _, c1⟩ := Hc.out i hlt
      have hx := Hb.out _ (nth_mem hil)
      obtain ⟨x, hxe⟩ : ∃ x, nthB bs i = x := ⟨_, rfl⟩
      unfold bv at c1
      rw [hxe] at c1 hx
      have dlt : decide ((i : Int) < (n : Int)) = true := by simp; omega
      by_cases hge : 128 ≤ x
      · have hls := lead_succ hle hil (by rw [hxe]; exact hge)
        have dge : decide ((128 : Int) ≤ (x : Int)) = true := by simp; omega
        clear hle hxe hil hi
        go_wp2_with fail
        go_round
        case rel => exact ⟨i + 1, by omega, hls, by go_num⟩
        case measure => simp [intOf]; omega
      · have hld := lead_eq hle (by rw [hxe]; omega)
        have dge : decide ((128 : Int) ≤ (x : Int)) = false := by simp; omega
        have Hx := Lib.hid hxe; have Hld := Lib.hid hld
        by_cases h10 : 10 ≤ i
        · have hr : Hid (rdS bs = (0, 0, 120)) := rdS_ten (by omega) (by omega) (by
            have := nth_lead (l := bs) (k := 9) (by omega); omega)
          have d10 : decide ((10 : Int) ≤ (i : Int)) = true := by simp; omega
          clear hle hxe hil hi hld hge h10
          go_wp2_with fail
          go_ret3
          exact shortIs_of hr.out
        · have d10 : decide ((10 : Int) ≤ (i : Int)) = false := by simp; omega
          by_cases h9 : i = 9 ∧ 1 < x
          · obtain ⟨rfl, h1⟩ := h9
            have hr : Hid (rdS bs = (0, 0, 120)) := rdS_ten (by omega) (by omega) (by rw [hxe]; exact h1)
            have d1 : decide ((1 : Int) < (x : Int)) = true := by simp; omega
            rw [show ((9 : Nat) : Int) = 9 from rfl] at *
            clear hle hxe hil hi hld hge h10 Hld Hx
            go_wp2_with fail
            go_ret3
            exact shortIs_of hr.out
          · have hcase : (((i : Int) == 9) = true ∧ decide ((1 : Int) < (x : Int)) = false ∧ i = 9) ∨ ((i : Int) == 9) = false := by
              by_cases h : i = 9
              · have h1 : ¬ 1 < x := fun h1 => h9 ⟨h, h1⟩
                left; exact ⟨by simp; omega, by simp; omega, h⟩
              · right; simp; omega
            have c9 : i = 9 → w.cell? ⟨b1, o1 + 9, none⟩ = some (.int .u8 (x : Int)) := fun e => by rw [← e]; exact c1
            have dne : ((i : Int) == (n : Int)) = false := by simp; omega
            by_cases hz : 0 < i ∧ x = 0
            · obtain ⟨h0, rfl⟩ := hz
              have hr : Hid (rdS bs = (0, 0, 120)) := rdS_no (by omega) (by omega) (by omega) (by rw [hld]; exact hxe)
              have d0 : decide ((0 : Int) < (i : Int)) = true := by simp; omega
              rw [show ((0 : Nat) : Int) = 0 from rfl] at *
              rcases hcase with ⟨e9, e1, ei⟩ | e9
              · have c9' := c9 ei
                have h9n : (9 : Int) < (n : Int) := by omega
                have Hi := Lib.hid ei
                clear hle hxe hil hi hld hge h10 c9 ei h9
                go_wp2_with fail
                go_ret3
                exact shortIs_of hr.out
              · clear hle hxe hil hi hld hge h10 c9 h9
                go_wp2_with fail
                go_ret3
                exact shortIs_of hr.out
            · have hr : Hid (rdS bs = (val (bs.take (i + 1)), i + 1, 0)) := by
                have := rdS_yes (l := bs) (by omega) (by omega) (fun h => by rw [hld] at h; subst h; rw [hxe]; omega) (by rw [hld, hxe]; omega)
                rw [hld] at this; exact this
              have Hn0 := Lib.hid hz
              have hu : Hid (val (bs.take (i + 1)) ≤ 18446744073709551615) := by
                have := val_u64 (l := bs) (by omega) (by omega) (fun h => by rw [hld] at h; subst h; rw [hxe]; omega)
                rw [hld] at this
                show _ ≤ _
                omega
              have dz : (0 < i ∧ ((x : Int) == 0) = false) ∨ ¬ 0 < i := by
                by_cases h : 0 < i
                · left
                  have : ¬ x = 0 := fun e => hz ⟨h, e⟩
                  exact ⟨h, by simp; omega⟩
                · right; exact h
              have h9n : i = 9 → (9 : Int) < (n : Int) := fun e => by omega
              have hi10 : i ≤ 9 := by omega
              clear hle hxe hil hi hld hge h10 h9 hz
              rcases hcase with ⟨e9, e1, ei⟩ | e9
              · have c9' := c9 ei
                have h9n' := h9n ei
                have Hi := Lib.hid ei
                clear c9 h9n ei
                have c9x := True.intro
                rcases dz with ⟨z1, z2⟩ | z1
                all_goals
                  go_wp2_with fail
                  go_loop [6, 7] (Down bs i) (fun _ s7 => (intOf s7 + 1).toNat)
                  case atStart => exact ⟨i + 1, Nat.le_refl _, congrArg (Value.int .i64) (by omega), by rw [List.drop_of_length_le (by simp; omega)]; rfl⟩
                  case round =>
                    obtain ⟨j, hj, rfl, rfl⟩ := hrel
                    have hll : (bs.take (i + 1)).length = i + 1 := by rw [List.length_take, Hl.out]; omega
                    have hV := val_drop_le (bs.take (i + 1))
                    have hVu := hu.out
                    rcases Nat.eq_zero_or_pos j with rfl | hj0
                    · have hr2 := hr
                      rw [show (((0 : Nat) : Int) - 1) = -1 from rfl, List.drop_zero]
                      clear hV hVu hll c1 c9x
                      go_wp2_with fail
                      go_ret3
                      exact shortIs_of hr2.out
                    · obtain ⟨q, rfl⟩ : ∃ q, j = q + 1 := ⟨j - 1, by omega⟩
                      have hvd := val_drop (l := bs.take (i + 1)) (j := q) (by omega)
                      rw [nthB_take bs (i + 1) q (by omega)] at hvd
                      have hVq := hV q
                      obtain ⟨b2, o2, e2, _, c2⟩ := Hc.out q (by omega)
                      cases e2
                      unfold bv at c2
                      have Hvd := Lib.hid hvd
                      rw [show (((q + 1 : Nat) : Int) - 1) = (q : Int) by omega]
                      generalize val ((bs.take (i + 1)).drop (q + 1)) = v1 at *
                      generalize nthB bs q = y at *
                      have k1 : 128 * (v1 : Int) ≤ 18446744073709551615 := by omega
                      have k2 : 128 * (v1 : Int) + (y : Int) % 128 ≤ 18446744073709551615 := by omega
                      have hqn : q < n := by omega
                      clear hV hVu hll c1 c9x hvd hVq
                      go_wp2_with fail
                      go_round
                      case rel => exact ⟨q, by omega, rfl, congrArg (Value.int .u64) (by have := Hvd.out; omega)⟩
                      case measure => simp [intOf]
              · clear c9 h9n
                have c9x := True.intro
                rcases dz with ⟨z1, z2⟩ | z1
                all_goals
                  go_wp2_with fail
                  go_loop [6, 7] (Down bs i) (fun _ s7 => (intOf s7 + 1).toNat)
                  case atStart => exact ⟨i + 1, Nat.le_refl _, congrArg (Value.int .i64) (by omega), by rw [List.drop_of_length_le (by simp; omega)]; rfl⟩
                  case round =>
                    obtain ⟨j, hj, rfl, rfl⟩ := hrel
                    have hll : (bs.take (i + 1)).length = i + 1 := by rw [List.length_take, Hl.out]; omega
                    have hV := val_drop_le (bs.take (i + 1))
                    have hVu := hu.out
                    rcases Nat.eq_zero_or_pos j with rfl | hj0
                    · have hr2 := hr
                      rw [show (((0 : Nat) : Int) - 1) = -1 from rfl, List.drop_zero]
                      clear hV hVu hll c1 c9x
                      go_wp2_with fail
                      go_ret3
                      exact shortIs_of hr2.out
                    · obtain ⟨q, rfl⟩ : ∃ q, j = q + 1 := ⟨j - 1, by omega⟩
                      have hvd := val_drop (l := bs.take (i + 1)) (j := q) (by omega)
                      rw [nthB_take bs (i + 1) q (by omega)] at hvd
                      have hVq := hV q
                      obtain ⟨b2, o2, e2, _, c2⟩ := Hc.out q (by omega)
                      cases e2
                      unfold bv at c2
                      have Hvd := Lib.hid hvd
                      rw [show (((q + 1 : Nat) : Int) - 1) = (q : Int) by omega]
                      generalize val ((bs.take (i + 1)).drop (q + 1)) = v1 at *
                      generalize nthB bs q = y at *
                      have k1 : 128 * (v1 : Int) ≤ 18446744073709551615 := by omega
                      have k2 : 128 * (v1 : Int) + (y : Int) % 128 ≤ 18446744073709551615 := by omega
                      have hqn : q < n := by omega
                      clear hV hVu hll c1 c9x hvd hVq
                      go_wp2_with fail
                      go_round
                      case rel => exact ⟨q, by omega, rfl, congrArg (Value.int .u64) (by have := Hvd.out; omega)⟩
                      case measure => simp [intOf]
    · have e : i = n := by omega
      subst e
      have hL := lead_le bs
      have hl2 := Hl.out
      have hld : lead bs = i := by omega
      have dlt : decide ((i : Int) < (i : Int)) = false := by simp
      by_cases h10 : 10 ≤ i
      · have hr : Hid (rdS bs = (0, 0, 120)) := rdS_ten (by omega) (by omega) (by
          have := nth_lead (l := bs) (k := 9) (by omega); omega)
        have d10 : decide ((10 : Int) ≤ (i : Int)) = true := by simp; omega
        clear hle hlt hld hL hl2
        go_wp2_with fail
        go_ret3
        exact shortIs_of hr.out
      · have hr : Hid (rdS bs = (0, 0, 7)) := rdS_end (by omega) (by omega)
        have d10 : decide ((10 : Int) ≤ (i : Int)) = false := by simp; omega
        by_cases h9 : i = 9
        · subst h9
          rw [show ((9 : Nat) : Int) = 9 from rfl] at *
          clear hle hlt hld hL hl2 hi
          go_wp2_with fail
          go_ret3
          exact shortIs_of hr.out
        · have e9 : ((i : Int) == 9) = false := by simp; omega
          clear hle hlt hld hL hl2 h9
          go_wp2_with fail
          go_ret3
          exact shortIs_of hr.out
end Go.Proofs.Ytnppkobckabpcaa
