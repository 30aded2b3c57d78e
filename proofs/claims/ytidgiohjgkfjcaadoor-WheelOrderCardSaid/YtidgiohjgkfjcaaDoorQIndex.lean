/- slices.IndexFunc as find asks: which due of a slot has a number. -/
import Derived.Test.YtidgiohjgkfjcaaDoorQRow
import Derived.Deep.QuietTactic
namespace Go.Proofs.YtidgiohjgkfjcaaDoor
open Go.RowKit

set_option maxHeartbeats 1000000 in
theorem find1_any (d : Int × Int) (gx : Nat) (num : Int) (w : World) (hl : gx < w.heap.size) (hc : w.cell? ⟨gx, 0, none⟩ = some (.int .u64 num)) :
    Calls Tryd.prog 49 #[dueV d, .pointer (some ⟨gx, 0, none⟩)] w fun e w' => e = .returned (.bool (decide (d.2 = num))) ∧ Below w.heap.size w w' := by
  unfold dueV
  have hc2 : (w.alloc (.cells #[.int .i64 d.1, .int .u64 d.2] 39)).cell? ⟨gx, 0, none⟩ = some (.int .u64 num) := ((qbelow_cell ((Below.refl _ w).alloc (Nat.le_refl _) _)).1 gx 0 hl).trans hc
  have hB : ∀ o, Below w.heap.size w (w.alloc o) := fun o => (Below.refl _ _).alloc (Nat.le_refl _) _
  have he : (d.2 == num) = decide (d.2 = num) := by rw [Bool.eq_iff_iff]; simp
  rw [← he]
  clear hc he
  go_enter Tryd.func49, Tryd.ntmps49
  go_wp2_with fail
  go_ret
  exact ⟨rfl, hB _⟩
/-- Where a number stands. -/
def FoundAt (l : List (Int × Int)) (num k : Int) : Prop := (∃ (i : Nat) (d : Int × Int), k = i ∧ l[i]? = some d ∧ d.2 = num) ∨ (k = -1 ∧ ∀ d ∈ l, d.2 ≠ num)
set_option maxHeartbeats 1000000 in
theorem index_find (A : Option Addr) (n c gx : Nat) (num : Int) (l : List (Int × Int)) (w : World) (hr : DuesR w w.heap.size A n c l) (hl : gx < w.heap.size) (hc : w.cell? ⟨gx, 0, none⟩ = some (.int .u64 num)) :
    Calls Tryd.prog 46 #[.slice A n c, .func (.func 49) #[] #[.pointer (some ⟨gx, 0, none⟩)]] w fun e w' => (∃ k : Int, e = .returned (.int .i64 k) ∧ FoundAt l num k) ∧ Below w.heap.size w w' := by
  have hcap := hr.cap
  have htop := hr.top
  unfold maxLen at htop
  have HR := Lib.hid hr; have HC := Lib.hid hc; have HL := Lib.hid hl
  clear hr hc hl
  go_enter Tryd.func46, Tryd.ntmps46
  go_wp2_with fail
  go_loopw [8] (fun i wr => ∃ k : Nat, k ≤ n ∧ i = .int .i64 k ∧ Hid (∀ d ∈ l.take k, d.2 ≠ num) ∧ Below w.heap.size w wr) (fun i _ => n - (intOf i).toNat)
  case atStart => exact ⟨0, by omega, rfl, Lib.hid (by simp), Below.refl _ _⟩
  case round =>
    obtain ⟨k, hk, rfl, HF, hb⟩ := hrel
    by_cases hlt : k < n
    · have hkl : k < l.length := by rw [HR.out.len]; exact hlt
      obtain ⟨y, hy⟩ : ∃ y, l[k]? = some y := ⟨_, List.getElem?_eq_getElem hkl⟩
      obtain ⟨b1, o1, rfl, hlb, c1, c2⟩ := (HR.out.below hb).at_ k y hy
      have HK := Lib.hid (show l.take (k + 1) = l.take k ++ [y] by rw [List.take_add_one, hy]; rfl)
      have HY := Lib.hid hy
      have HCR := Lib.hid (((qbelow_cell hb).1 gx 0 HL.out).trans HC.out)
      have HLR := Lib.hid (Nat.lt_of_lt_of_le HL.out hb.size)
      have HB := Lib.hid hb
      clear hb hy
      obtain ⟨x0, x1⟩ := y
      by_cases he : x1 = num
      · have hd : decide ((x0, x1).2 = num) = true := decide_eq_true he
        have HE := Lib.hid he
        clear he
        go_wp2_with (go_at_call 49; refine (find1_any (x0, x1) gx num _ HLR.out HCR.out).mono ?_; rintro e w' ⟨rfl, hb2⟩; rw [hd])
        go_ret
        exact ⟨⟨k, rfl, .inl ⟨k, _, rfl, HY.out, HE.out⟩⟩, HB.out.trans (hb2.mono HB.out.size)⟩
      · have hd : decide ((x0, x1).2 = num) = false := decide_eq_false he
        have HE := Lib.hid he
        clear he
        go_wp2_with (go_at_call 49; refine (find1_any (x0, x1) gx num _ HLR.out HCR.out).mono ?_; rintro e w' ⟨rfl, hb2⟩; rw [hd])
        go_roundw
        case rel => exact ⟨k + 1, by omega, by go_num, Lib.hid (fun d hd => by
          rw [HK.out] at hd
          rcases List.mem_append.1 hd with hd | hd
          · exact HF.out d hd
          · rw [List.mem_singleton] at hd; rw [hd]; exact HE.out), HB.out.trans (hb2.mono HB.out.size)⟩
        case measure => simp [intOf]; omega
    · have HE := Lib.hid (show ∀ d ∈ l, d.2 ≠ num from by
        have := HF.out
        rwa [List.take_of_length_le (by have := HR.out.len; omega)] at this)
      go_wp2_with fail
      go_ret
      exact ⟨⟨-1, rfl, .inr ⟨rfl, HE.out⟩⟩, hb⟩
end Go.Proofs.YtidgiohjgkfjcaaDoor
