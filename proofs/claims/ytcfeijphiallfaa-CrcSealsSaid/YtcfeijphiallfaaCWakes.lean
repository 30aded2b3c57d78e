/- wakes: the layer does something. -/
import Derived.Test.YtcfeijphiallfaaCRSame
namespace Go.Proofs.Ytcfeijphiallfaa
open Go.RowKit

def nineB : List Nat := [49, 50, 51, 52, 53, 54, 55, 56, 57]
def sealedB : List Nat := [49, 50, 51, 52, 53, 54, 55, 56, 57, 131, 146, 6, 227]
theorem nine_sum : sumOf nineB = 3808858755 := by decide +kernel
theorem sealed_opens : opens sealedB := by
  unfold opens
  exact ⟨by decide, by decide +kernel⟩
theorem one_not : ¬ opens [1, 0, 0, 0] := by
  unfold opens
  rintro ⟨_, h⟩
  revert h
  decide +kernel
theorem table_one : eN 8 1 = 4067132163 := by decide +kernel
/-- A new block that a literal made. -/
theorem RowB.lit (w : World) (bs : List Nat) (hb : ∀ x ∈ bs, x < 256) (hn : bs.length ≤ 100) : RowB (w.alloc (.cells (bs.map bv).toArray 5)) (w.heap.size + 1) (some ⟨w.heap.size, 0, none⟩) bs.length bs.length bs :=
  ⟨rfl, hb, Nat.le_refl _, by unfold maxLen; omega, (fun e => by cases e), fun k hk => ⟨w.heap.size, 0, rfl, by omega, by
    rw [Nat.zero_add, cell_of_row _ w.heap.size k _ _ _ (heap_alloc_new w _), List.getElem?_toArray]
    exact bv_at bs k hk⟩⟩
theorem nine_string (w : World) (B : Nat) (A : Option Addr) (c : Nat) (h : RowB w B A 9 c nineB) : (convert 24 9 (.slice A 9 c)).run Try.prog w = .ok (.string ⟨#[49, 50, 51, 52, 53, 54, 55, 56, 57]⟩) w := by
  rw [run_convert_bytes_string w _ _ _ A 9 c Try.underlying24 Try.underlying5 Try.underlying9]
  obtain ⟨b, o, rfl, _, _⟩ := h.at_ 0 (by omega)
  refine (run_bytesToString w _ 9 c [49, 50, 51, 52, 53, 54, 55, 56, 57] ?_).trans (by rfl)
  refine run_loadCells_list (P := Try.prog) w _ (nineB.map bv) (fun j v hj => ?_)
  have hjl : j < 9 := by have := (List.getElem?_eq_some_iff.1 hj).1; simpa [nineB] using this
  obtain ⟨b2, o2, e, _, hc⟩ := h.at_ j hjl
  cases e
  rw [add_none, hc, ← hj, bv_at _ _ (by simpa [nineB] using hjl)]
theorem index_one (w : World) : (Instr.index 30 (.agg (tabK 256)) (.int .i64 1)).run Try.prog w = .ok (.int .u32 4067132163) w := by
  have hone : (tabK 256)[1]? = some (.int .u32 4067132163) := by rw [tabK_at (by omega), if_pos (by omega), table_one]; rfl
  simp [Instr.index, asIntOf, Sem.run_bind, run_underlying Try.underlying30, Try.sizeOf25, Try.isAgg25, part, hone, Result.andThen]
set_option maxRecDepth 100000 in
set_option maxHeartbeats 1000000 in
theorem wakes_any (w : World) :
    Calls Try.prog 8 #[] w fun e w' => e = .returned (.bool true) ∧ Below w.heap.size w w' := by
  have r1 := RowB.lit w sealedB (by decide) (by decide)
  have hb1 : Below w.heap.size w (w.alloc (.cells (sealedB.map bv).toArray 5)) := (Below.refl _ w).alloc (Nat.le_refl _) _
  have hs1 : (w.alloc (.cells (sealedB.map bv).toArray 5)).heap.size = w.heap.size + 1 := by simp
  rw [← hs1] at r1
  have R1 := Lib.hid r1; have HB1 := Lib.hid hb1; have HS1 := Lib.hid hs1
  clear r1 hb1 hs1
  go_enter Try.func8, Try.ntmps8
  go_wp2_with fail
  refine (open_any _ 13 13 sealedB _ R1.out (by omega)).mono ?_
  rintro e w2 ⟨hb2, h2⟩
  have hsz2 : w.heap.size ≤ w2.heap.size := by have := hb2.size; simp at this; omega
  have hbw2 : Below w.heap.size w w2 := HB1.out.trans (hb2.mono (by simp))
  rcases h2 with ⟨h, _⟩ | ⟨_, h, _⟩ | ⟨_, v, rfl, hown⟩
  · exact absurd h (by decide)
  · exact absurd sealed_opens h
  rw [show sealedB.take (sealedB.length - 4) = nineB by rfl] at hown
  obtain ⟨A, c, rfl, hr⟩ := hown.row
  rw [show nineB.length = 9 by rfl] at hr ⊢
  have r2 := RowB.lit w2 [1, 0, 0, 0] (by decide) (by decide)
  have hb3 : Below w2.heap.size w2 (w2.alloc (.cells ([1, 0, 0, 0].map bv).toArray 5)) := (Below.refl _ w2).alloc (Nat.le_refl _) _
  have hs2 : (w2.alloc (.cells ([1, 0, 0, 0].map bv).toArray 5)).heap.size = w2.heap.size + 1 := by simp
  rw [← hs2] at r2
  have R2 := Lib.hid r2; have HB3 := Lib.hid hb3; have HR := Lib.hid hr; have HBW2 := Lib.hid hbw2; have HSZ2 := Lib.hid hsz2
  clear r2 hb3 hs2 hown hr hbw2 hsz2 hb2 R1 HB1 HS1
  go_wp2_with fail
  refine (open_any _ 4 4 [1, 0, 0, 0] _ R2.out (by omega)).mono ?_
  rintro e w3 ⟨hb4, h3⟩
  have hb5 : Below w2.heap.size w2 w3 := HB3.out.trans (hb4.mono (by simp))
  rcases h3 with ⟨h, _⟩ | ⟨_, _, rfl⟩ | ⟨h, _⟩
  · exact absurd h (by decide)
  case _ =>
    have hr3 := HR.out.below hb5
    have HR3 := Lib.hid (hr3.mono hb5.size); have HB5 := Lib.hid (HBW2.out.trans (hb5.mono HSZ2.out))
    clear hr3 hb5 hb4 HR HB3 R2 HBW2 HSZ2
    have hcv := nine_string w3 _ A c HR3.out
    go_wp2_with fail
    refine (sum_any A 9 c nineB w3 HR3.out).mono ?_; rintro e w4 ⟨rfl, hb6⟩
    rw [nine_sum]
    have HB6 := Lib.hid (HB5.out.trans (hb6.mono HB5.out.size))
    clear hcv hb6
    go_wp2_with fail
    refine (table_any w4).mono ?_; rintro e w5 ⟨rfl, hb7⟩
    have HB7 := Lib.hid (HB6.out.trans (hb7.mono HB6.out.size))
    clear hb7
    have hone := index_one w5
    go_wp2_with fail
    go_ret
    exact ⟨rfl, HB7.out⟩
  · exact absurd h one_not
end Go.Proofs.Ytcfeijphiallfaa
