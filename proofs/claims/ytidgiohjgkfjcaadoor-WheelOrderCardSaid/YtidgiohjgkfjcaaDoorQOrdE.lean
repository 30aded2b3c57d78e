/- slices.IsSortedFunc of dues: walked. -/
import Derived.Test.YtidgiohjgkfjcaaDoorQRef
import Derived.Test.YtidgiohjgkfjcaaDoorQLevel
namespace Go.Proofs.YtidgiohjgkfjcaaDoor
open Go.RowKit

set_option maxHeartbeats 1000000 in
theorem ord3_any (a b : Int × Int) (w : World) (h : befQ a b = false) :
    Calls Tryd.prog 34 #[dueV a, dueV b] w fun e w' => e = .returned (.int .i64 1) ∧ Below w.heap.size w w' := by
  obtain ⟨a0, a1⟩ := a
  obtain ⟨b0, b1⟩ := b
  rw [befQ_not] at h
  unfold dueV
  dsimp only at h ⊢
  have hB : Below w.heap.size w ((w.alloc (.cells #[.int .i64 a0, .int .u64 a1] 39)).alloc (.cells #[.int .i64 b0, .int .u64 b1] 39)) := ((Below.refl _ _).alloc (Nat.le_refl _) _).alloc (by simp) _
  rcases h with h | ⟨rfl, h⟩
  · have d1 : decide (a0 < b0) = false := decide_eq_false (by omega)
    have d2 : (a0 == b0) = false := by simp; omega
    clear h
    go_enter Tryd.func34, Tryd.ntmps34
    go_wp2_with fail
    go_ret
    exact ⟨rfl, hB⟩
  · have d1 : decide (a0 < a0) = false := by simp
    have d3 : decide (a1 < b1) = false := decide_eq_false (by omega)
    clear h
    go_enter Tryd.func34, Tryd.ntmps34
    go_wp2_with fail
    go_ret
    exact ⟨rfl, hB⟩
set_option maxRecDepth 100000 in
set_option maxHeartbeats 2000000 in
theorem sorted_any (A : Option Addr) (n c : Nat) (l : List (Int × Int)) (w : World) (hr : DuesR w w.heap.size A n c l) (hs : SortQ l) (hn : n ≤ 100) :
    Calls Tryd.prog 33 #[.slice A n c, .func (.func 34) #[] #[]] w fun e w' => e = .returned (.bool true) ∧ Below w.heap.size w w' := by
  have hcap := hr.cap
  have htop := hr.top
  unfold maxLen at htop
  have HR := Lib.hid hr; have HS := Lib.hid hs
  have hw1 : IntKind.i64.wrap ((n : Int) - 1) = (n : Int) - 1 := by rw [IntKind.wrap_i64]; omega
  clear hr hs
  go_enter Tryd.func33, Tryd.ntmps33
  go_wp2_with fail
  go_loopw [5] (fun iv wr => ∃ i : Int, -1 ≤ i ∧ i ≤ (n : Int) - 1 ∧ iv = .int .i64 i ∧ Below w.heap.size w wr) (fun iv _ => (intOf iv).toNat)
  case atStart => exact ⟨(n : Int) - 1, by omega, by omega, rfl, Below.refl _ _⟩
  case round =>
    obtain ⟨i, h0, h1, rfl, hb⟩ := hrel
    by_cases hlt : 0 < i
    · obtain ⟨j, rfl⟩ : ∃ j : Nat, i = (j : Int) + 1 := ⟨(i - 1).toNat, by omega⟩
      have hjn : j + 1 < l.length := by rw [HR.out.len]; omega
      have hbf := befQ_asym (List.pairwise_iff_getElem.1 HS.out j (j + 1) (by omega) hjn (by omega))
      obtain ⟨b1, o1, rfl, hl1, x0, x1⟩ := (HR.out.below hb).at_ (j + 1) _ (List.getElem?_eq_getElem hjn)
      obtain ⟨b2, o2, e2, hl2, x2, x3⟩ := (HR.out.below hb).at_ j _ (List.getElem?_eq_getElem (show j < l.length by omega))
      cases e2
      generalize l[j + 1] = x at *
      generalize l[j] = y at *
      obtain ⟨p0, p1⟩ := x
      obtain ⟨r0, r1⟩ := y
      dsimp only at x0 x1 x2 x3
      have HC3 := Lib.hid (fun (Z : World) => ord3_any (p0, p1) (r0, r1) Z hbf)
      unfold dueV at HC3
      have hw2 : IntKind.i64.wrap ((j : Int) + 1 - 1) = (j : Int) := by rw [IntKind.wrap_i64]; omega
      have hw3 : IntKind.i64.wrap (j : Int) = (j : Int) := by rw [IntKind.wrap_i64]; omega
      have hi0 : (0 : Int) ≤ (j : Int) + 1 := by omega
      have hi1 : (j : Int) + 1 < (n : Int) := by omega
      have hi2 : (0 : Int) ≤ (j : Int) := by omega
      have hi3 : (j : Int) < (n : Int) := by omega
      have hnat : ((j : Int) + 1).toNat = j + 1 := by omega
      have hb1w : b1 < wr.heap.size := by have := hb.size; omega
      have HB := Lib.hid hb
      have hBE := Below.refl wr.heap.size wr
      have HH := Lib.hid (fun (W' : World) (hW : Below wr.heap.size wr W') => (⟨⟨((qbelow_cell hW).1 b1 _ hb1w).trans x0, ((qbelow_cell hW).1 b1 _ hb1w).trans x1, ((qbelow_cell hW).1 b1 _ hb1w).trans x2, ((qbelow_cell hW).1 b1 _ hb1w).trans x3⟩⟩ : PLift (W'.cell? ⟨b1, o1 + (j + 1) * 2, none⟩ = some (.int .i64 p0) ∧ W'.cell? ⟨b1, o1 + (j + 1) * 2 + 1, none⟩ = some (.int .u64 p1) ∧ W'.cell? ⟨b1, o1 + j * 2, none⟩ = some (.int .i64 r0) ∧ W'.cell? ⟨b1, o1 + j * 2 + 1, none⟩ = some (.int .u64 r1))).down)
      clear hbf hb
      go_wp2_with fail
      go_region_held3 (fun W' => W'.cell? ⟨b1, o1 + (j + 1) * 2, none⟩ = some (.int .i64 p0) ∧ W'.cell? ⟨b1, o1 + (j + 1) * 2 + 1, none⟩ = some (.int .u64 p1) ∧ W'.cell? ⟨b1, o1 + j * 2, none⟩ = some (.int .i64 r0) ∧ W'.cell? ⟨b1, o1 + j * 2 + 1, none⟩ = some (.int .u64 r1)) (first | exact HH.out _ hBE | exact HH.out _ hBE.drew) (first
        | (go_at_call 34; (with_reducible refine (HC3.out _).mono ?_); rintro e w5 ⟨rfl, hb5⟩; replace hBE := hBE.drew.trans (hb5.mono (show wr.heap.size ≤ wr.drew.heap.size from Nat.le_refl _))))
      go_wp2_with fail
      go_roundw
      case rel => exact ⟨(j : Int), by omega, by omega, by go_num, HB.out.trans (hBE.mono HB.out.size)⟩
      case measure => simp [intOf]
    · go_wp2_with fail
      go_ret
      exact ⟨rfl, hb⟩
end Go.Proofs.YtidgiohjgkfjcaaDoor
