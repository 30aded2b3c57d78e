/- slices.Concat of three rows of bytes. -/
import Derived.Test.YtcfeijphiallfaaCGrow
namespace Go.Proofs.Ytcfeijphiallfaa
open Go.RowKit

/-- The first k rows, one behind the other. -/
def catB (L : Nat → List Nat) : Nat → List Nat
  | 0 => []
  | k + 1 => catB L k ++ L k
theorem catB_succ (L : Nat → List Nat) (k : Nat) : catB L (k + 1) = catB L k ++ L k := rfl
theorem catB_len {L : Nat → List Nat} (h : ∀ k, k < 3 → (L k).length ≤ 3000) : ∀ k, k ≤ 3 → (catB L k).length ≤ 3000 * k
  | 0, _ => by simp [catB]
  | k + 1, hk => by
    have h1 := catB_len h k (by omega)
    have h2 := h k (by omega)
    rw [catB_succ, List.length_append]; omega
set_option maxRecDepth 100000 in
set_option maxHeartbeats 1000000 in
theorem concat_any (g B : Nat) (As : Nat → Option Addr) (cs : Nat → Nat) (L : Nat → List Nat) (w : World) (hB : B ≤ w.heap.size) (hg : g < B) (hc : ∀ k, k < 3 → w.cell? ⟨g, k, none⟩ = some (.slice (As k) (L k).length (cs k)) ∧ RowB w B (As k) (L k).length (cs k) (L k) ∧ (L k).length ≤ 3000) :
    Calls Try.prog 20 #[.slice (some ⟨g, 0, none⟩) 3 3] w fun e w' => ∃ v, e = .returned v ∧ OwnB w' w.heap.size v (catB L 3) ∧ Below w.heap.size w w' := by
  have hlen := catB_len (fun k hk => (hc k hk).2.2)
  have HC := Lib.hid hc; have HL := Lib.hid hlen
  clear hc hlen
  go_enter Try.func20, Try.ntmps20
  go_wp2_with fail
  go_loopw [3, 11] (fun s i wr => ∃ k : Nat, k ≤ 3 ∧ i = .int .i64 k ∧ s = .int .i64 ((catB L k).length : Nat) ∧ wr = w) (fun _ i _ => 3 - (intOf i).toNat)
  case atStart => exact ⟨0, by omega, rfl, rfl, rfl⟩
  case round =>
    obtain ⟨k, hk, rfl, rfl, hwr⟩ := hrel
    have hwr2 := hwr.symm
    subst hwr2
    clear hwr
    by_cases hlt : k < 3
    · obtain ⟨h1, _, h3⟩ := HC.out k hlt
      have h4 := HL.out k (by omega)
      have hn : (catB L (k + 1)).length = (catB L k).length + (L k).length := by rw [catB_succ, List.length_append]
      have HN := Lib.hid hn
      clear hn
      have k0 : (0 : Int) ≤ (k : Int) := by omega
      have k1 : (k : Int) < 3 := by omega
      generalize (catB L k).length = x at *
      generalize (L k).length = y at *
      have hw : IntKind.i64.wrap ((x : Int) + (y : Int)) = (x : Int) + (y : Int) := by rw [IntKind.wrap_i64]; omega
      have hp : ¬ ((x : Int) + (y : Int) < 0) := by omega
      go_wp2_with fail
      go_roundw
      case rel => exact ⟨k + 1, by omega, by go_num, by rw [HN.out]; first | rfl | simp, trivial⟩
      case measure => simp [intOf]; omega
    · obtain rfl : k = 3 := by omega
      have h4 := HL.out 3 (by omega)
      generalize (catB L 3).length = x at *
      have k1 : (0 : Int) ≤ (x : Int) := by omega
      go_wp2_with fail
      refine (grow_any x w (by omega)).mono ?_; rintro e w2 ⟨v2, rfl, ho2, hb2⟩
      have HO2 := Lib.hid ho2; have HB2 := Lib.hid hb2
      clear ho2 hb2
      go_wp2_with fail
      go_loopw [6, 27] (fun v i w' => ∃ k : Nat, k ≤ 3 ∧ i = .int .i64 k ∧ OwnB w' w.heap.size v (catB L k) ∧ Below w.heap.size w w') (fun _ i _ => 3 - (intOf i).toNat)
      case atStart => exact ⟨0, by omega, rfl, HO2.out, HB2.out⟩
      case round =>
        obtain ⟨k, hk, rfl, ho, hb⟩ := hrel
        have HO := Lib.hid ho
        have HBB := Lib.hid hb
        clear HO2 HB2
        by_cases hlt : k < 3
        · obtain ⟨h1, h2, h3⟩ := HC.out k hlt
          have hl := HL.out k (by omega)
          have h1' := ((below_cell (hb.mono hB)).1 g k hg).trans h1
          have h2' := h2.below (hb.mono hB)
          have hsz := hb.size
          have H2 := Lib.hid h2'; have H3 := Lib.hid h3; have HL' := Lib.hid hl; have HSZ := Lib.hid hsz
          clear h1 h2 h2' ho hb h3 hl hsz
          have k0 : (0 : Int) ≤ (k : Int) := by omega
          have k1 : (k : Int) < 3 := by omega
          go_wp2_with (at_builtin; refine append_row rfl _ _ rfl w.heap.size _ (catB L k) rfl HO.out B (As k) _ (cs k) (L k) rfl H2.out (by have := H3.out; have := HL'.out; omega) HSZ.out ?_; intro v5 w5 hown5 hgrow5)
          have hb5 := below_grown HBB.out HO.out hgrow5 HSZ.out
          have HO5 := Lib.hid hown5; have HB5 := Lib.hid hb5
          clear hown5 hb5 hgrow5
          go_wp2_with fail
          go_roundw
          case rel => exact ⟨k + 1, by omega, by go_num, HO5.out, HB5.out⟩
          case measure => simp [intOf]; omega
        · obtain rfl : k = 3 := by omega
          clear ho hb
          go_wp2_with fail
          go_ret
          exact ⟨_, rfl, HO.out, HBB.out⟩
end Go.Proofs.Ytcfeijphiallfaa
