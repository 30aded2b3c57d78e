/- The document's Place: walked. -/
import Derived.Test.YtidgiohjgkfjcaaDoorQRef
import Derived.Test.YtidgiohjgkfjcaaDoorQBits
namespace Go.Proofs.YtidgiohjgkfjcaaDoor
open Go.RowKit

theorem div64_step (x j : Nat) : x / 64 ^ (j + 1) / 64 = x / 64 ^ (j + 2) := by rw [Nat.div_div_eq_div_mul, ← Nat.pow_succ]
theorem div64_big {x j : Nat} (h : x ≤ 253402300799) (hj : 6 ≤ j) : x / 64 ^ (j + 1) = 0 :=
  Nat.div_eq_of_lt (Nat.lt_of_lt_of_le (show x < 64 ^ 7 by omega) (Nat.pow_le_pow_right (by decide) (by omega)))
/-- The loop's end tells the level. -/
theorem levQ_end {a b j : Nat} (hab : a < b) (hb : b ≤ 253402300799) (h : a / 64 ^ (j + 1) = b / 64 ^ (j + 1)) (hn : ∀ i, i < j → a / 64 ^ (i + 1) ≠ b / 64 ^ (i + 1)) : levQ 6 a b = j := by
  refine levQ_one (by omega) (by omega) (by omega) h ?_
  cases j with
  | zero => simpa using (show a ≠ b by omega)
  | succ j => exact hn j (by omega)

set_option maxRecDepth 100000 in
set_option maxHeartbeats 1000000 in
theorem rplace_any (a b : Nat) (w : World) (hab : a < b) (hb : b ≤ 253402300799) :
    Calls Tryd.prog 45 #[.int .i64 a, .int .i64 b] w fun e w' => e = .returned (.tuple #[.int .i64 (placeQ a b).1, .int .i64 (placeQ a b).2]) ∧ ∃ q, w' = w.drewN q := by
  have HAB := Lib.hid hab; have HBM := Lib.hid hb
  have ha : a ≤ 253402300799 := by omega
  clear hab
  go_enter Tryd.func45, Tryd.ntmps45
  go_wp2_with fail
  go_loopw [6, 7, 8] (fun lv av bv wr => ∃ j q x y : Nat, j ≤ 6 ∧ lv = .int .i64 j ∧ av = .int .i64 (x : Int) ∧ bv = .int .i64 (y : Int) ∧ Hid (x = a / 64 ^ (j + 1)) ∧ Hid (y = b / 64 ^ (j + 1)) ∧ Hid (∀ i, i < j → a / 64 ^ (i + 1) ≠ b / 64 ^ (i + 1)) ∧ wr = w.drewN q) (fun _ av bv _ => (intOf av).toNat + (intOf bv).toNat)
  case atStart => exact ⟨0, 0, a / 64, b / 64, by omega, rfl, by simp, by simp, Lib.hid (by simp), Lib.hid (by simp), Lib.hid (by simp), rfl⟩
  case round =>
    obtain ⟨j, q, x, y, hj, rfl, rfl, rfl, HX, HY, HN, rfl⟩ := hrel
    have hxb : x ≤ 253402300799 := by rw [HX.out]; exact Nat.le_trans (Nat.div_le_self _ _) ha
    have hyb : y ≤ 253402300799 := by rw [HY.out]; exact Nat.le_trans (Nat.div_le_self _ _) hb
    by_cases he : x = y
    · have hl := levQ_end HAB.out HBM.out (by rw [← HX.out, ← HY.out, he]) HN.out
      have hd : ((x : Int) != (y : Int)) = false := by simp [he]
      clear he
      by_cases h4 : 4 ≤ j
      · have hp : placeQ a b = (4, 0) := by unfold placeQ; simp only [Int.toNat_natCast]; rw [hl, if_pos h4]
        have HP := Lib.hid hp; clear hp hl
        have hd4 : decide (4 ≤ (j : Int)) = true := by simp; omega
        go_wp2_with fail
        refine bodyPost_ret (v := .tuple #[.int .i64 4, .int .i64 0]) (by simp [results, Tryd.results45, go_sem]) rfl ⟨by rw [HP.out], q, rfl⟩
      · have hp : placeQ a b = ((j : Int), (slotQ j b : Int)) := by unfold placeQ; simp only [Int.toNat_natCast]; rw [hl, if_neg h4]
        have HP := Lib.hid hp; clear hp hl
        have hd4 : decide (4 ≤ (j : Int)) = false := by simp; omega
        go_wp2_with fail
        go_loopw [9, 27] (fun xv iv wr => ∃ k q2 z : Nat, k ≤ j ∧ iv = .int .i64 k ∧ xv = .int .i64 (z : Int) ∧ Hid (z = b / 64 ^ k) ∧ wr = w.drewN q2) (fun _ iv _ => j - (intOf iv).toNat)
        case atStart => exact ⟨0, q, b, by omega, rfl, rfl, Lib.hid (by simp), rfl⟩
        case round =>
          obtain ⟨k, q2, z, hk, rfl, rfl, HZ, rfl⟩ := hrel
          have hzb : z ≤ 253402300799 := by rw [HZ.out]; exact Nat.le_trans (Nat.div_le_self _ _) hb
          by_cases hlt : k < j
          · go_wp2_with fail
            go_roundw
            case rel => exact ⟨k + 1, _, z / 64, by omega, by go_num, by simp, Lib.hid (by rw [HZ.out, Nat.div_div_eq_div_mul, ← Nat.pow_succ]), rfl⟩
            case measure => simp [intOf]; omega
          · have hkj : k = j := by omega
            have HS : Hid ((slotQ j b : Int) = (z : Int) % 64) := Lib.hid (by unfold slotQ; rw [HZ.out, hkj]; omega)
            clear hkj
            go_wp2_with fail
            refine bodyPost_ret (v := .tuple #[.int .i64 (j : Int), .int .i64 ((z : Int) % 64)]) (by simp [results, Tryd.results45, go_sem]) rfl ⟨by rw [HP.out, HS.out], q2, rfl⟩
    · have hj6 : j < 6 := by
        apply Nat.lt_of_not_le
        intro h
        apply he
        rw [HX.out, HY.out, div64_big ha h, div64_big hb h]
      have hd : ((x : Int) != (y : Int)) = true := by simp; omega
      have HN2 : Hid (∀ i, i < j + 1 → a / 64 ^ (i + 1) ≠ b / 64 ^ (i + 1)) := Lib.hid (fun i hi => by
        rcases Nat.lt_or_ge i j with h | h
        · exact HN.out i h
        · obtain rfl : i = j := by omega
          rw [← HX.out, ← HY.out]; exact he)
      have hpos : 0 < x + y := by omega
      clear he
      go_wp2_with fail
      have hx2 : x / 64 = a / 64 ^ (j + 1 + 1) := by rw [HX.out]; exact div64_step a j
      have hy2 : y / 64 = b / 64 ^ (j + 1 + 1) := by rw [HY.out]; exact div64_step b j
      go_roundw
      case rel => exact ⟨j + 1, _, x / 64, y / 64, by omega, by go_num, by simp, by simp, Lib.hid hx2, Lib.hid hy2, HN2, rfl⟩
      case measure => simp [intOf]; omega
end Go.Proofs.YtidgiohjgkfjcaaDoor
