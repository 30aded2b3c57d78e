/- Table: what eight steps make of each number from 0 to 255. -/
import Derived.Test.YtcfeijphiallfaaCEight
import Derived.Deep.WholeRow
namespace Go.Proofs.Ytcfeijphiallfaa
open Go.RowKit

/-- The table, of which the first k stand. -/
def tabL (k : Nat) : List Nat := (List.range 256).map fun j => if j < k then eN 8 j else 0
def u32v (x : Nat) : Value := .int .u32 (x : Int)
def tabK (k : Nat) : Array Value := ((tabL k).map u32v).toArray
theorem tabK_size (k : Nat) : (tabK k).size = 256 := by unfold tabK tabL; simp
theorem tabK_at {k j : Nat} (h : j < 256) : (tabK k)[j]? = some (u32v (if j < k then eN 8 j else 0)) := by
  unfold tabK tabL
  simp [h]
theorem tabK_zero : tabK 0 = Array.replicate 256 (.int .u32 0) := by
  apply Array.ext_getElem?
  intro i
  by_cases h : i < 256
  · rw [tabK_at h, Array.getElem?_replicate, if_pos h]; rfl
  · rw [Array.getElem?_eq_none (by rw [tabK_size]; omega), Array.getElem?_eq_none (by simp; omega)]
theorem tabK_set {k : Nat} (_ : k < 256) : (tabK k).setIfInBounds k (u32v (eN 8 k)) = tabK (k + 1) := by
  apply Array.ext_getElem?
  intro i
  by_cases hi : i < 256
  · rw [Array.getElem?_setIfInBounds, tabK_at hi, tabK_at hi]
    by_cases hk : k = i
    · subst hk; rw [if_pos rfl, if_pos (by rw [tabK_size]; omega), if_pos (by omega)]
    · rw [if_neg hk]
      by_cases h3 : i < k
      · rw [if_pos h3, if_pos (by omega)]
      · rw [if_neg h3, if_neg (by omega)]
  · rw [Array.getElem?_eq_none (by simp [tabK_size]; omega), Array.getElem?_eq_none (by rw [tabK_size]; omega)]

theorem tabK_one (k : Nat) : (tabK k).all (·.oneCell') = true := by
  unfold tabK
  exact all_oneCell_toArray (fun v hv => by obtain ⟨x, _, rfl⟩ := List.mem_map.1 hv; rfl)
theorem step_bits (y : Nat) (h : y < 4294967296) : bits .xor .u32 ((y : Int) / 2) (bits .and .u32 2197175160 (IntKind.u32.wrap (-bits .and .u32 (y : Int) 1))) = (e1 y : Nat) := by
  rw [show (1 : Int) = ((1 : Nat) : Int) from rfl, u32_and_nat y 1 h (by omega), Nat.and_one_is_mod]
  rcases Nat.mod_two_eq_zero_or_one y with h2 | h2
  · rw [h2, e1_ev h2, show IntKind.u32.wrap (-((0 : Nat) : Int)) = ((0 : Nat) : Int) by simp [IntKind.wrap_u32], show (2197175160 : Int) = ((2197175160 : Nat) : Int) from rfl, u32_and_nat _ _ (by omega) (by omega), Nat.and_zero]
    exact (u32_xor_nat (y / 2) 0 (by omega) (by omega)).trans (by rw [Nat.xor_zero])
  · rw [h2, e1_odd h2, show IntKind.u32.wrap (-((1 : Nat) : Int)) = ((4294967295 : Nat) : Int) by simp [IntKind.wrap_u32], show (2197175160 : Int) = ((2197175160 : Nat) : Int) from rfl, u32_and_nat _ _ (by omega) (by omega), show (2197175160 &&& 4294967295 : Nat) = 2197175160 by decide]
    exact u32_xor_nat (y / 2) 2197175160 (by omega) (by omega)

theorem results_cell_one {fn : Func} {p : Tmp} {ty : TypeId} (h : fn.results = #[.cell p ty]) (tmps : Array Value) (P : Program) (w : World) :
    (results fn tmps).run P w = ((asAddr (tmps.getD p undef)).run P w).andThen fun a w₁ => (loadVar ty a).run P w₁ := by
  simp only [results, h]
  simp [Sem.run_bind, Result.andThen]

set_option maxHeartbeats 1000000 in
set_option maxRecDepth 100000 in
theorem table_any (w : World) :
    Calls Try.prog 14 #[] w fun e w' => e = .returned (.agg (tabK 256)) ∧ Below w.heap.size w w' := by
  obtain ⟨hz, hi⟩ := zero_of_info (P := Try.prog) (t := 30) (v := .agg (Array.replicate 256 (.int .u32 0))) (n := 256) (by kernel_rfl)
  have hu := Try.underlying30
  rw [← tabK_zero] at hz
  have Hi := Lib.hid hi
  clear hi
  have hbs := step_bits
  go_enter Try.func14, Try.ntmps14
  go_wp2_with fail
  obtain ⟨g0, e0⟩ : ∃ g0, g0 = w.heap.size := ⟨_, rfl⟩
  have hw1 : Below w.heap.size w ((w.alloc (.cells (tabK 0) 30)).alloc (.cells (tabK 0) 30)) := ((Below.refl _ w).alloc (Nat.le_refl _) _).alloc (by simp) _
  have b0 : Box ((w.alloc (.cells (tabK 0) 30)).alloc (.cells (tabK 0) 30)) w.heap.size 30 (tabK 0) := (Box.new _ _ _).alloc _
  have b1 : Box ((w.alloc (.cells (tabK 0) 30)).alloc (.cells (tabK 0) 30)) (w.heap.size + 1) 30 (tabK 0) := by
    have := Box.new (w.alloc (.cells (tabK 0) 30)) 30 (tabK 0)
    simpa using this
  go_loopw [4] (fun i wr => ∃ k : Nat, k ≤ 256 ∧ i = .int .i64 k ∧ Below w.heap.size w wr ∧ Box wr w.heap.size 30 (tabK 0) ∧ Box wr (w.heap.size + 1) 30 (tabK k)) (fun i _ => 256 - (intOf i).toNat)
  case atStart => exact ⟨0, by omega, rfl, hw1, b0, b1⟩
  case round =>
    obtain ⟨k, hk, rfl, hB, h0, h1⟩ := hrel
    have HB := Lib.hid hB; have H0 := Lib.hid h0; have H1 := Lib.hid h1
    clear hB h0 h1 hw1 b0 b1
    by_cases hk8 : k < 256
    · have i0 : (0 : Int) ≤ (k : Int) := by omega
      have i1 : (k : Int) < 256 := by omega
      have hlt : ∀ j, eN j k < 4294967296 := fun j => eN_lt (n := j) (show k < 2 ^ 32 by omega)
      go_wp2_with fail
      go_loopw [3, 9] (fun y i wr' => ∃ j : Nat, j ≤ 8 ∧ i = .int .i64 j ∧ y = .int .u32 (eN j k : Nat) ∧ wr' = wr) (fun _ i _ => 8 - (intOf i).toNat)
      case atStart => exact ⟨0, by omega, rfl, rfl, rfl⟩
      case round =>
        obtain ⟨j, hj, rfl, rfl, rfl⟩ := hrel
        by_cases hj8 : j < 8
        · have hy := hlt j
          have hn := eN_next j k
          have hs := hbs (eN j k) hy
          have Hn := Lib.hid hn; have Hs := Lib.hid hs
          clear hn hlt hbs hs
          generalize eN j k = y at *
          have j0 : (0 : Int) ≤ (j : Int) := by omega
          have j1 : (j : Int) < 8 := by omega
          go_wp2_with fail
          go_roundw
          case rel => exact ⟨j + 1, by omega, by go_num, by rw [Hn.out, ← Hs.out, IntKind.wrap_u32], trivial⟩
          case measure => simp [intOf]; omega
        · obtain rfl : j = 8 := by omega
          have Hl := Lib.hid hlt
          clear hlt
          have hf := H1.out.frozen k
          have hc := H1.out.cell k
          rw [tabK_at hk8] at hc
          have Hk := Lib.hid hk8
          clear hk8
          generalize hye : eN 8 k = y at *
          have Hye := Lib.hid hye
          clear hye
          go_wp2_with fail
          refine ⟨⟨k + 1, by omega, by go_num, HB.out.setCell (show w.heap.size ≤ w.heap.size + 1 by omega) _, H0.out.far (by omega) _, ?_⟩, by simp [intOf]; omega⟩
          have := H1.out.set k (u32v (eN 8 k))
          rw [tabK_set Hk.out, Hye.out] at this
          exact this
    · obtain rfl : k = 256 := by omega
      clear hbs
      go_wp2_with fail
      refine wp_load_box 30 _ rfl (w.heap.size + 1) 30 rfl (tabK 256) _ H1.out hu rfl (by rw [tabK_size]; exact Hi.out) ?_
      go_wp2_with fail
      simp only [run_storeCells_box H0.out (show (tabK 0).size = (tabK 256).size by rw [tabK_size, tabK_size]) (tabK_one 256), Result.andThen_ok]
      rw [Oper.upon_skip]
      go_wp2_with fail
      refine bodyPost_ret (v := .agg (tabK 256)) ?_ rfl ⟨rfl, below_setRow HB.out (Nat.le_refl _) _⟩
      have hld := run_loadVar_row (P := Try.prog) (wr.setRow w.heap.size (tabK 256)) w.heap.size 30 30 (tabK 256) (0, 0) _ (H0.out.setRow _) hu rfl (by rw [tabK_size]; exact Hi.out)
      have hr := results_cell_one (fn := Try.f14) (p := 0) (ty := 30) rfl
      rw [hr]
      simp [Act.put, asAddr, Result.andThen, hld]
end Go.Proofs.Ytcfeijphiallfaa
