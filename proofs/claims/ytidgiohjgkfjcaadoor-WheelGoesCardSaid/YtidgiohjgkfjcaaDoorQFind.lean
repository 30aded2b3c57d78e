/- Whether there is a due of a number: slices.ContainsFunc as the law asks. -/
import Derived.Test.YtidgiohjgkfjcaaDoorQRef
namespace Go.Proofs.YtidgiohjgkfjcaaDoor
open Go.RowKit

set_option maxHeartbeats 1000000 in
theorem goes1_any (d : Int × Int) (gx : Nat) (num : Int) (w : World) (hl : gx < w.heap.size) (hc : w.cell? ⟨gx, 2, none⟩ = some (.int .u64 num)) :
    Calls Tryd.prog 22 #[dueV d, .pointer (some ⟨gx, 0, none⟩)] w fun e w' => e = .returned (.bool (decide (d.2 = num))) ∧ Below w.heap.size w w' := by
  unfold dueV
  have hc2 : (w.alloc (.cells #[.int .i64 d.1, .int .u64 d.2] 39)).cell? ⟨gx, 2, none⟩ = some (.int .u64 num) := ((qbelow_cell ((Below.refl _ w).alloc (Nat.le_refl _) _)).1 gx 2 hl).trans hc
  have hB : ∀ o, Below w.heap.size w (w.alloc o) := fun o => (Below.refl _ _).alloc (Nat.le_refl _) _
  have he : (d.2 == num) = decide (d.2 = num) := by rw [Bool.eq_iff_iff]; simp
  rw [← he]
  clear hc he
  go_enter Tryd.func22, Tryd.ntmps22
  go_wp2_with fail
  go_ret
  exact ⟨rfl, hB _⟩
set_option maxHeartbeats 1000000 in
theorem index_any9 (A : Option Addr) (n c gx : Nat) (num : Int) (l : List (Int × Int)) (w : World) (hr : DuesR w w.heap.size A n c l) (hl : gx < w.heap.size) (hc : w.cell? ⟨gx, 2, none⟩ = some (.int .u64 num)) :
    Calls Tryd.prog 46 #[.slice A n c, .func (.func 22) #[] #[.pointer (some ⟨gx, 0, none⟩)]] w fun e w' => (∃ k : Int, e = .returned (.int .i64 k) ∧ decide (0 ≤ k) = hasQ num l) ∧ Below w.heap.size w w' := by
  have hcap := hr.cap
  have htop := hr.top
  unfold maxLen at htop
  have HR := Lib.hid hr; have HC := Lib.hid hc; have HL := Lib.hid hl
  clear hr hc hl
  go_enter Tryd.func46, Tryd.ntmps46
  go_wp2_with fail
  go_loopw [8] (fun i wr => ∃ k : Nat, k ≤ n ∧ i = .int .i64 k ∧ Hid (hasQ num (l.take k) = false) ∧ Below w.heap.size w wr) (fun i _ => n - (intOf i).toNat)
  case atStart => exact ⟨0, by omega, rfl, Lib.hid (by simp [hasQ]), Below.refl _ _⟩
  case round =>
    obtain ⟨k, hk, rfl, HF, hb⟩ := hrel
    by_cases hlt : k < n
    · have hkl : k < l.length := by rw [HR.out.len]; exact hlt
      obtain ⟨b1, o1, rfl, hlb, c1, c2⟩ := (HR.out.below hb).at_ k l[k] (List.getElem?_eq_getElem hkl)
      have Hk : hasQ num (l.take (k + 1)) = (hasQ num (l.take k) || decide (l[k].2 = num)) := by
        unfold hasQ; rw [List.take_succ_eq_append_getElem hkl, List.any_append]; simp
      rw [HF.out, Bool.false_or] at Hk
      have HE : Hid (l[k].2 = num → hasQ num l = true) := Lib.hid (fun he => hasQ_iff.2 ⟨l[k], List.getElem_mem hkl, he⟩)
      have HK := Lib.hid Hk
      have HCR := Lib.hid (((qbelow_cell hb).1 gx 2 HL.out).trans HC.out)
      have HLR := Lib.hid (Nat.lt_of_lt_of_le HL.out hb.size)
      have HB := Lib.hid hb
      clear Hk hb
      generalize l[k] = x at *
      obtain ⟨x0, x1⟩ := x
      by_cases he : x1 = num
      · have hd : decide ((x0, x1).2 = num) = true := decide_eq_true he
        have e1 := HE.out he
        clear he
        go_wp2_with (go_at_call 22; refine (goes1_any (x0, x1) gx num _ HLR.out HCR.out).mono ?_; rintro e w' ⟨rfl, hb2⟩; rw [hd])
        go_ret
        exact ⟨⟨k, rfl, by rw [e1]; simp⟩, HB.out.trans (hb2.mono HB.out.size)⟩
      · have hd : decide ((x0, x1).2 = num) = false := decide_eq_false he
        have hf := Lib.hid (HK.out.trans hd)
        clear he
        go_wp2_with (go_at_call 22; refine (goes1_any (x0, x1) gx num _ HLR.out HCR.out).mono ?_; rintro e w' ⟨rfl, hb2⟩; rw [hd])
        go_roundw
        case rel => exact ⟨k + 1, by omega, by go_num, hf, HB.out.trans (hb2.mono HB.out.size)⟩
        case measure => simp [intOf]; omega
    · have e1 : hasQ num l = false := by
        have := HF.out
        rwa [List.take_of_length_le (by have := HR.out.len; omega)] at this
      go_wp2_with fail
      go_ret
      exact ⟨⟨-1, rfl, by rw [e1]; rfl⟩, hb⟩
set_option maxHeartbeats 1000000 in
theorem contains_any9 (A : Option Addr) (n c gx : Nat) (num : Int) (l : List (Int × Int)) (w : World) (hr : DuesR w w.heap.size A n c l) (hl : gx < w.heap.size) (hc : w.cell? ⟨gx, 2, none⟩ = some (.int .u64 num)) :
    Calls Tryd.prog 21 #[.slice A n c, .func (.func 22) #[] #[.pointer (some ⟨gx, 0, none⟩)]] w fun e w' => e = .returned (.bool (hasQ num l)) ∧ Below w.heap.size w w' := by
  go_enter Tryd.func21, Tryd.ntmps21
  go_wp2_with fail
  refine (index_any9 A n c gx num l w hr hl hc).mono ?_; rintro e w' ⟨⟨k, rfl, hk⟩, hb⟩
  have HK := Lib.hid hk; clear hk
  go_wp2_with fail
  refine bodyPost_ret (v := .bool (decide (0 ≤ k))) (by simp [results, Tryd.results21, go_sem]) rfl ⟨by rw [HK.out], hb⟩
end Go.Proofs.YtidgiohjgkfjcaaDoor
