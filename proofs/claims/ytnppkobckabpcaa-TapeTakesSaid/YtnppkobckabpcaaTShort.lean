/- short: the short number that bytes begin with. -/
import Derived.Test.YtnppkobckabpcaaTBytes
import Derived.WalkMore
import Derived.Outline
namespace Go.Proofs.Ytnppkobckabpcaa
open Go.RowKit

def ShortIs (bs : List Nat) (w : World) (e : Ending) (w' : World) : Prop := e = .returned (.tuple #[.int .u64 ((rdS bs).1 : Int), .int .i64 ((rdS bs).2.1 : Int), .int .i64 ((rdS bs).2.2 : Int)]) ∧ w = w'
theorem shortIs_of {bs : List Nat} {w : World} {a b c : Nat} (h : rdS bs = (a, b, c)) : ShortIs bs w (.returned (.tuple #[.int .u64 (a : Int), .int .i64 (b : Int), .int .i64 (c : Int)])) w := by
  unfold ShortIs; rw [h]; exact ⟨rfl, rfl⟩
theorem p128 (i : Nat) : (128 : Nat) ^ i = 2 ^ (7 * i) := by rw [Nat.pow_mul]
theorem and_127 (x : Nat) (h : x < 256) : bits .and .u8 (x : Int) 127 = ((x % 128 : Nat) : Int) := by
  rw [show (127 : Int) = ((127 : Nat) : Int) by rfl, u8_and_nat x 127 h (by omega), nat_mask7]
theorem step_val {bs : List Nat} {i x : Nat} (hx : x < 256) (hi : i < bs.length) (hxe : nthB bs i = x) (h9 : i < 9 ∨ i = 9 ∧ x ≤ 1) :
    bits .or .u64 ((val (bs.take i) : Nat) : Int) (IntKind.u64.wrap (IntKind.u64.wrap (bits .and .u8 (x : Int) 127) * 2 ^ (7 * i))) = ((val (bs.take (i + 1)) : Nat) : Int) := by
  have hv := val_take hi
  have h1 := val_take_lt (l := bs) (k := i) (by omega)
  rw [hxe] at hv
  rw [and_127 x hx, IntKind.wrap_u64, IntKind.wrap_u64, show ((x % 128 : Nat) : Int) % 18446744073709551616 = ((x % 128 : Nat) : Int) by omega]
  have hp : ((x % 128 : Nat) : Int) * 2 ^ (7 * i) = ((x % 128 * 2 ^ (7 * i) : Nat) : Int) := by rw [Int.natCast_mul, Int.natCast_pow]; rfl
  have hb : x % 128 * 2 ^ (7 * i) < 18446744073709551616 := by
    rcases h9 with h | ⟨rfl, h⟩
    · have e : (2 : Nat) ^ (7 * i) ≤ 2 ^ 56 := Nat.pow_le_pow_right (by omega) (by omega)
      have e2 : x % 128 * 2 ^ (7 * i) ≤ 127 * 2 ^ 56 := Nat.mul_le_mul (by omega) e
      omega
    · omega
  rw [hp, show ((x % 128 * 2 ^ (7 * i) : Nat) : Int) % 18446744073709551616 = ((x % 128 * 2 ^ (7 * i) : Nat) : Int) by omega]
  rw [p128] at h1
  have hV : val (bs.take i) < 18446744073709551616 := by
    have e : (2 : Nat) ^ (7 * i) ≤ 2 ^ 63 := Nat.pow_le_pow_right (by omega) (by rcases h9 with h | ⟨h, _⟩ <;> omega)
    omega
  rw [u64_or_nat _ _ hV hb, Nat.or_comm, nat_join (7 * i) _ _ (Nat.mul_mod_left _ _) h1, hv, p128, Nat.mul_comm (2 ^ (7 * i))]
  congr 1
  omega
set_option maxRecDepth 100000 in
set_option maxHeartbeats 4000000 in
theorem short_any (A : Option Addr) (n c B : Nat) (bs : List Nat) (w : World) (h : RowB w B A n c bs) :
    Calls Try.prog 50 #[.slice A n c] w (ShortIs bs w) := by
  have hn : n ≤ 9223372036854775807 := by have := h.cap; have := h.top; unfold maxLen at this; omega
  have hl := h.len
  have hb := h.byte
  have hc := h.at_
  have Hl := Lib.hid hl; have Hb := Lib.hid hb; have Hc := Lib.hid hc
  clear h hl hb hc
  go_enter Try.func50, Try.ntmps50
  go_wp2
  go_step3
  go_wp2
  go_step3
  go_wp2
  go_loop [5, 6, 11] (fun s5 s6 s11 => ∃ i : Nat, i ≤ n ∧ i ≤ 9 ∧ i ≤ lead bs ∧ s11 = .int .i64 (i : Int) ∧ s6 = .int .i64 0 ∧ s5 = .int .u64 ((val (bs.take i) : Nat) : Int)) (fun _ _ s11 => n - (intOf s11).toNat)
  case atStart => exact ⟨0, by omega, by omega, by omega, rfl, rfl, by simp [val]⟩
  case round =>
    obtain ⟨i, hi, hi9, hle, rfl, rfl, rfl⟩ := hrel
    by_cases hlt : i < n
    · obtain ⟨b1, o1, rfl, _, c1⟩ := Hc.out i hlt
      have hx := Hb.out _ (nth_mem (l := bs) (i := i) (by rw [Hl.out]; exact hlt))
      have hv := Lib.hid (val_take (l := bs) (k := i) (by rw [Hl.out]; exact hlt))
      unfold bv at c1
      obtain ⟨x, hxe⟩ : ∃ x, nthB bs i = x := ⟨_, rfl⟩
      rw [hxe] at c1 hx hv
      have Hx := Lib.hid hxe
      clear hxe
      have hil : i < bs.length := by rw [Hl.out]; exact hlt
      by_cases h10 : i = 9 ∧ 1 < x
      · obtain ⟨rfl, h1⟩ := h10
        have hr := Lib.hid (rdS_ten (l := bs) hle hil (by rw [Hx.out]; exact h1))
        clear hv Hx hle hi9 hi hil
        rw [show ((9 : Nat) : Int) = 9 from rfl] at *
        go_wp2_with fail
        go_ret3
        exact shortIs_of hr.out
      · have hst := step_val hx hil Hx.out (by omega)
        have hc : (((i : Int) == 9) = true ∧ decide ((1 : Int) < (x : Int)) = false) ∨ ((i : Int) == 9) = false := by
          by_cases h : i = 9
          · have h1 : ¬ 1 < x := fun h1 => h10 ⟨h, h1⟩
            left; exact ⟨by simp; omega, by simp; omega⟩
          · right; simp; omega
        by_cases h127 : x ≤ 127
        · have hld := Lib.hid (lead_eq (l := bs) (k := i) hle (by rw [Hx.out]; omega))
          have hsv := Lib.hid (sh_val (l := bs) (k := i) hil (by rw [Hx.out]; omega))
          have hu := Lib.hid (val_u64 (l := bs) (by rw [hld.out]; exact hil) (by rw [hld.out]; omega) (fun h => by
            have e : i = 9 := by rw [← hld.out]; exact h
            have := Hx.out; rw [e] at this; rw [this]; omega))
          have hu' : Hid (val (bs.take (i + 1)) < 18446744073709551616) := by have := hu.out; rw [hld.out] at this; exact this
          have hr : Hid (rdS bs = if i = 0 ∨ x ≠ 0 then (val (bs.take (i + 1)), i + 1, 0) else (0, 0, 120)) := by
            have hd := hld.out
            have hx2 := Hx.out
            show rdS bs = _
            by_cases hz : i = 0 ∨ x ≠ 0
            · rw [if_pos hz, ← hd]
              exact rdS_yes (by omega) (by omega) (fun h => by rw [hd] at h; subst h; rw [hx2]; omega) (by rw [hd, hx2]; exact hz)
            · rw [if_neg hz]
              exact rdS_no (by omega) (by omega) (by omega) (by rw [hd, hx2]; omega)
          rw [Hx.out] at hsv
          clear hv hle hil h10 hu hld
          generalize val (bs.take (i + 1)) = V1 at *
          by_cases hz : i = 0 ∨ x ≠ 0
          · have hL := Lib.hid (hsv.out.2 hz)
            have hr2 : Hid (rdS bs = (V1, i + 1, 0)) := by have := hr.out; rw [if_pos hz] at this; exact this
            clear hsv hr hz Hx
            rcases hc with ⟨de, dx⟩ | de
            all_goals
              go_wp2_with fail
              refine (size_any V1 w hu'.out).mono ?_; rintro e w' ⟨rfl, rfl⟩
              rw [hL.out]
              go_wp2_with fail
              go_ret3
              exact shortIs_of hr2.out
          · have hL := Lib.hid (show ¬ (sh V1).length = i + 1 from fun h => hz (hsv.out.1 h))
            have hr2 : Hid (rdS bs = (0, 0, 120)) := by have := hr.out; rw [if_neg hz] at this; exact this
            clear hsv hr hz Hx
            rcases hc with ⟨de, dx⟩ | de
            all_goals
              go_wp2_with fail
              refine (size_any V1 w hu'.out).mono ?_; rintro e w' ⟨rfl, rfl⟩
              have hd : ((i : Int) + 1 == ((sh V1).length : Int)) = false := by have := hL.out; simp; omega
              go_wp2_with fail
              go_ret3
              exact shortIs_of hr2.out
        · have hls := lead_succ (l := bs) (k := i) hle hil (by rw [Hx.out]; omega)
          have h9 : i + 1 ≤ 9 := by
            rcases Nat.lt_or_ge i 9 with h | h
            · omega
            · exact absurd ⟨by omega, by omega⟩ h10
          clear hv Hx hle hi9 hi hil h10 hc
          have de : ((i : Int) == 9) = false := by simp; omega
          go_wp2_with fail
          go_round
          case rel => exact ⟨i + 1, by omega, by omega, hls, by go_num, rfl, rfl⟩
          case measure => simp [intOf]; omega
    · have e : i = n := by omega
      have hL := lead_le bs
      have Hl2 := Hl.out
      have hend := Lib.hid (rdS_end (l := bs) (by omega) (by omega))
      clear Hl2 hL
      subst e
      go_wp2
      go_ret3
      exact shortIs_of hend.out
end Go.Proofs.Ytnppkobckabpcaa
