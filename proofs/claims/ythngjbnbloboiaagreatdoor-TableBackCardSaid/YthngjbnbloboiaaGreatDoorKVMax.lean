/- The greatest of some times: walked. -/
import Derived.Test.YthngjbnbloboiaaGreatDoorKVRise
namespace Go.Proofs.YthngjbnbloboiaaGreatDoor
open Go.RowKit

/-- The greatest of these. -/
def Greatest (q : List Int) (m : Int) : Prop := m ∈ q ∧ ∀ x ∈ q, x ≤ m
def TopIs (q : List Int) (x : Ending) : Prop := ∃ m, x = .returned (.int .i64 m) ∧ Greatest q m
set_option maxRecDepth 100000 in
set_option maxHeartbeats 1000000 in
theorem max_any (y : Value) (q : List Int) (w : World) (hq : QR w y q) (hl : q.length ≤ 1000) (hn : 0 < q.length) :
    Calls Tryz.prog 88 #[y] w fun e w' => TopIs q e ∧ ∃ d, w' = w.drewN d := by
  obtain ⟨A, c, rfl, h1, h2, h3, h4⟩ := hq
  obtain ⟨n, hnn⟩ : ∃ n, q.length = n := ⟨_, rfl⟩
  rw [hnn] at h1 hl hn ⊢
  have HN := Lib.hid hnn; have HR := Lib.hid h4
  unfold maxLen at h2
  obtain ⟨x0, hx0⟩ : ∃ x, q[0]? = some x := ⟨_, List.getElem?_eq_getElem (by omega)⟩
  obtain ⟨bl, of, rfl, _, c0⟩ := qr_at h4 hx0
  have HX0 := Lib.hid hx0
  have g0 : (0 : Int) < (n : Int) := by omega
  have g1 : ¬ (n : Int) < 1 := by omega
  rw [Nat.add_zero] at c0
  clear hnn h4 h3 hx0
  go_enter Tryz.func88, Tryz.ntmps88
  go_wp2_with fail
  go_loopw [3, 4] (fun m i wr => ∃ (k d : Nat) (u : Int), 1 ≤ k ∧ k ≤ n ∧ m = .int .i64 u ∧ i = .int .i64 (k : Int) ∧ Hid (u ∈ q ∧ ∀ (j : Nat) (x : Int), j < k → q[j]? = some x → x ≤ u) ∧ wr = w.drewN d) (fun _ i _ => n - (intOf i).toNat)
  case atStart => exact ⟨1, 0, x0, Nat.le_refl _, by omega, rfl, rfl, Lib.hid ⟨List.mem_of_getElem? HX0.out, fun j x hj hx => by
    obtain rfl : j = 0 := by omega
    rw [HX0.out] at hx; cases hx; exact Int.le_refl _⟩, rfl⟩
  case round =>
    clear c0
    obtain ⟨k, d, u, hk1, hk, rfl, rfl, HU, rfl⟩ := hrel
    by_cases hlt : k < n
    · obtain ⟨x, hx⟩ : ∃ x, q[k]? = some x := ⟨_, List.getElem?_eq_getElem (by have := HN.out; omega)⟩
      obtain ⟨b1, o1, e1, _, c1⟩ := qr_at HR.out hx
      cases e1
      have HX := Lib.hid hx
      clear hx
      have g2 : (0 : Int) ≤ (k : Int) := by omega
      have g3 : (k : Int) < (n : Int) := by omega
      by_cases hux : u < x
      · have HV : Hid (x ∈ q ∧ ∀ (j : Nat) (z : Int), j < k + 1 → q[j]? = some z → z ≤ x) := Lib.hid ⟨List.mem_of_getElem? HX.out, fun j z hj hz => by
          by_cases e : j = k
          · subst e; rw [HX.out] at hz; cases hz; exact Int.le_refl _
          · have := HU.out.2 j z (by omega) hz; omega⟩
        have hm : max u x = x := by omega
        go_wp2_with fail
        all_goals
          go_roundw
          case rel => exact ⟨k + 1, d, x, by omega, by omega, by first | rfl | simp [hm], by go_num, HV, rfl⟩
          case measure => simp [intOf]; omega
      · have HV : Hid (u ∈ q ∧ ∀ (j : Nat) (z : Int), j < k + 1 → q[j]? = some z → z ≤ u) := Lib.hid ⟨HU.out.1, fun j z hj hz => by
          by_cases e : j = k
          · subst e; rw [HX.out] at hz; cases hz; omega
          · exact HU.out.2 j z (by omega) hz⟩
        have hm : max u x = u := by omega
        go_wp2_with fail
        all_goals
          go_roundw
          case rel => exact ⟨k + 1, d, u, by omega, by omega, by first | rfl | simp [hm], by go_num, HV, rfl⟩
          case measure => simp [intOf]; omega
    · go_wp2_with fail
      go_ret
      exact ⟨⟨u, rfl, HU.out.1, fun x hx => by
        obtain ⟨j, hj⟩ := List.mem_iff_getElem?.1 hx
        exact HU.out.2 j x (by have := (List.getElem?_eq_some_iff.1 hj).1; have := HN.out; omega) hj⟩, d, rfl⟩
end Go.Proofs.YthngjbnbloboiaaGreatDoor
