/- cmp.Compare, cmp.Or; the order of dues: walked, of the program. -/
import Derived.Test.YthngjbnbloboiaaGreatDoorK2
import Derived.Deep.RegionHeld3
import Derived.Deep.RegionWith
namespace Go.Proofs.YthngjbnbloboiaaGreatDoor
open Go.RowKit

def cmpZ (a b : Int) : Int := if a < b then -1 else if b < a then 1 else 0
def ordQ (a b : Int × Int) : Int := if cmpZ a.1 b.1 ≠ 0 then cmpZ a.1 b.1 else cmpZ a.2 b.2
theorem ordQ_neg (a b : Int × Int) : decide (ordQ a b < 0) = befQ a b := by
  unfold ordQ cmpZ
  cases h : befQ a b with
  | true =>
    rw [befQ_iff] at h
    simp only [decide_eq_true_eq]
    split <;> (repeat (first | omega | split))
  | false =>
    rw [befQ_not] at h
    simp only [decide_eq_false_iff_not]
    split <;> (repeat (first | omega | split))
theorem dnan_i (a : Int) (w : World) : Calls Tryz.prog 63 #[.int .i64 a] w fun e w' => e = .returned (.bool false) ∧ w' = w := by
  have hd : (a != a) = false := by simp
  go_enter Tryz.func63, Tryz.ntmps63
  go_wp2_with fail
  go_ret
  exact ⟨rfl, rfl⟩
theorem dnan_u (a : Int) (w : World) : Calls Tryz.prog 64 #[.int .u64 a] w fun e w' => e = .returned (.bool false) ∧ w' = w := by
  have hd : (a != a) = false := by simp
  go_enter Tryz.func64, Tryz.ntmps64
  go_wp2_with fail
  go_ret
  exact ⟨rfl, rfl⟩
theorem dcmp_i (a b : Int) (w : World) : Calls Tryz.prog 41 #[.int .i64 a, .int .i64 b] w fun e w' => e = .returned (.int .i64 (cmpZ a b)) ∧ w' = w := by
  rcases Int.lt_trichotomy a b with h | h | h
  · rw [show cmpZ a b = -1 by unfold cmpZ; rw [if_pos h]]
    have d1 : decide (a < b) = true := decide_eq_true h
    clear h
    go_enter Tryz.func41, Tryz.ntmps41
    go_wp2_with (go_at_call 63; refine (dnan_i _ _).mono ?_; rintro e w' ⟨rfl, rfl⟩)
    go_ret
    exact ⟨rfl, rfl⟩
  · subst h
    rw [show cmpZ a a = 0 by unfold cmpZ; simp]
    have d1 : decide (a < a) = false := by simp
    go_enter Tryz.func41, Tryz.ntmps41
    go_wp2_with (go_at_call 63; refine (dnan_i _ _).mono ?_; rintro e w' ⟨rfl, rfl⟩)
    go_ret
    exact ⟨rfl, rfl⟩
  · rw [show cmpZ a b = 1 by unfold cmpZ; rw [if_neg (by omega), if_pos h]]
    have d1 : decide (a < b) = false := decide_eq_false (by omega)
    have d2 : decide (b < a) = true := decide_eq_true h
    clear h
    go_enter Tryz.func41, Tryz.ntmps41
    go_wp2_with (go_at_call 63; refine (dnan_i _ _).mono ?_; rintro e w' ⟨rfl, rfl⟩)
    go_ret
    exact ⟨rfl, rfl⟩
theorem dcmp_u (a b : Int) (w : World) : Calls Tryz.prog 42 #[.int .u64 a, .int .u64 b] w fun e w' => e = .returned (.int .i64 (cmpZ a b)) ∧ w' = w := by
  rcases Int.lt_trichotomy a b with h | h | h
  · rw [show cmpZ a b = -1 by unfold cmpZ; rw [if_pos h]]
    have d1 : decide (a < b) = true := decide_eq_true h
    clear h
    go_enter Tryz.func42, Tryz.ntmps42
    go_wp2_with (go_at_call 64; refine (dnan_u _ _).mono ?_; rintro e w' ⟨rfl, rfl⟩)
    go_ret
    exact ⟨rfl, rfl⟩
  · subst h
    rw [show cmpZ a a = 0 by unfold cmpZ; simp]
    have d1 : decide (a < a) = false := by simp
    go_enter Tryz.func42, Tryz.ntmps42
    go_wp2_with (go_at_call 64; refine (dnan_u _ _).mono ?_; rintro e w' ⟨rfl, rfl⟩)
    go_ret
    exact ⟨rfl, rfl⟩
  · rw [show cmpZ a b = 1 by unfold cmpZ; rw [if_neg (by omega), if_pos h]]
    have d1 : decide (a < b) = false := decide_eq_false (by omega)
    have d2 : decide (b < a) = true := decide_eq_true h
    clear h
    go_enter Tryz.func42, Tryz.ntmps42
    go_wp2_with (go_at_call 64; refine (dnan_u _ _).mono ?_; rintro e w' ⟨rfl, rfl⟩)
    go_ret
    exact ⟨rfl, rfl⟩
theorem dor_two (a b r : Int) (g : Nat) (w : World) (HR : Hid (r = if a ≠ 0 then a else b)) (h0 : w.cell? ⟨g, 0, none⟩ = some (.int .i64 a)) (h1 : w.cell? ⟨g, 1, none⟩ = some (.int .i64 b)) :
    Calls Tryz.prog 40 #[.slice (some ⟨g, 0, none⟩) 2 2] w fun e w' => e = .returned (.int .i64 r) ∧ w' = w := by
  have H0 := Lib.hid h0; have H1 := Lib.hid h1
  clear h0 h1
  go_enter Tryz.func40, Tryz.ntmps40
  go_wp2_with fail
  go_loop [8] (fun i => ∃ k : Nat, k ≤ 2 ∧ i = .int .i64 k ∧ Hid ((1 ≤ k → a = 0) ∧ (2 ≤ k → b = 0))) (fun i => 2 - (intOf i).toNat)
  case atStart => exact ⟨0, by omega, rfl, Lib.hid ⟨fun h => by omega, fun h => by omega⟩⟩
  case round =>
    obtain ⟨k, hk, rfl, HK⟩ := hrel
    have h0 := H0.out; have h1 := H1.out
    match k, hk with
    | 0, _ =>
      by_cases ha : a = 0
      · have hd : (a != 0) = false := by simp [ha]
        have HA := Lib.hid ha; clear ha
        go_wp2_with fail
        go_round
        case rel => exact ⟨1, by omega, by go_num, Lib.hid ⟨fun _ => HA.out, fun h => by omega⟩⟩
        case measure => simp [intOf]
      · have hd : (a != 0) = true := by simp [ha]
        have HA := Lib.hid (HR.out.trans (if_pos ha)); clear ha
        go_wp2_with fail
        go_ret
        exact ⟨by rw [HA.out]; rfl, rfl⟩
    | 1, _ =>
      have ha := HK.out.1 (by omega)
      have HA := Lib.hid (HR.out.trans (if_neg (by simpa using ha)))
      clear ha
      by_cases hb : b = 0
      · have hd : (b != 0) = false := by simp [hb]
        have HB := Lib.hid hb; clear hb
        go_wp2_with fail
        go_round
        case rel => exact ⟨2, by omega, by go_num, Lib.hid ⟨fun _ => HK.out.1 (by omega), fun h => HB.out⟩⟩
        case measure => simp [intOf]
      · have hd : (b != 0) = true := by simp [hb]
        clear hb
        go_wp2_with fail
        go_ret
        exact ⟨by rw [HA.out]; rfl, rfl⟩
    | 2, _ =>
      have ha := HK.out.1 (by omega)
      have hb := HK.out.2 (by omega)
      have HA := Lib.hid (show r = 0 by rw [HR.out, if_neg (by simpa using ha), hb])
      clear ha hb
      go_wp2_with fail
      go_ret
      exact ⟨by rw [HA.out]; rfl, rfl⟩
set_option maxHeartbeats 1000000 in
theorem due_order (a b : Int × Int) (w : World) :
    Calls Tryz.prog 39 #[dueV a, dueV b] w fun e w' => e = .returned (.int .i64 (ordQ a b)) ∧ Below w.heap.size w w' := by
  obtain ⟨a0, a1⟩ := a
  obtain ⟨b0, b1⟩ := b
  unfold dueV
  dsimp only
  obtain ⟨W, hW⟩ : ∃ W, W = ((w.alloc (.cells #[.int .i64 a0, .int .u64 a1] 55)).alloc (.cells #[.int .i64 b0, .int .u64 b1] 55)) := ⟨_, rfl⟩
  have hB : Below w.heap.size w W := by rw [hW]; exact ((Below.refl _ _).alloc (Nat.le_refl _) _).alloc (by simp) _
  have bA : QBox W w.heap.size 55 #[.int .i64 a0, .int .u64 a1] := by rw [hW]; exact (QBox.new _ _ _).alloc _
  have bB : QBox W (w.heap.size + 1) 55 #[.int .i64 b0, .int .u64 b1] := by
    rw [hW]
    have := QBox.new (w.alloc (.cells #[.int .i64 a0, .int .u64 a1] 55)) 55 #[.int .i64 b0, .int .u64 b1]
    rwa [World.size_alloc] at this
  have hsz : W.heap.size = w.heap.size + 2 := by rw [hW]; simp
  obtain ⟨c0, c1, _, _⟩ := bA.two
  obtain ⟨c2, c3, _, _⟩ := bB.two
  obtain ⟨r, hr⟩ : ∃ r : Int, r = ordQ (a0, a1) (b0, b1) := ⟨_, rfl⟩
  rw [← hr]
  have HR := Lib.hid (hr.trans (show ordQ (a0, a1) (b0, b1) = if cmpZ a0 b0 ≠ 0 then cmpZ a0 b0 else cmpZ a1 b1 from rfl))
  clear hr
  go_enter Tryz.func39, Tryz.ntmps39
  go_wp2_with fail
  rw [← hW]
  have hBE := Below.refl W.heap.size W
  have HB := Lib.hid hB
  have HSZ := Lib.hid hsz
  have HQA := Lib.hid bA; have HQB := Lib.hid bB
  clear hW bA bB hB hsz
  have HS := Lib.hid (fun (W' : World) (hW : Below W.heap.size W W') => (⟨by
    obtain ⟨d0, d1, _, _⟩ := (HQA.out.belowAll hW).two
    obtain ⟨d2, d3, _, _⟩ := (HQB.out.belowAll hW).two
    exact ⟨d0, d1, d2, d3⟩⟩ : PLift (W'.cell? ⟨w.heap.size, 0, none⟩ = some (.int .i64 a0) ∧ W'.cell? ⟨w.heap.size, 1, none⟩ = some (.int .u64 a1) ∧ W'.cell? ⟨w.heap.size + 1, 0, none⟩ = some (.int .i64 b0) ∧ W'.cell? ⟨w.heap.size + 1, 1, none⟩ = some (.int .u64 b1))).down)
  go_region_held3 (fun W' => W'.cell? ⟨w.heap.size, 0, none⟩ = some (.int .i64 a0) ∧ W'.cell? ⟨w.heap.size, 1, none⟩ = some (.int .u64 a1) ∧ W'.cell? ⟨w.heap.size + 1, 0, none⟩ = some (.int .i64 b0) ∧ W'.cell? ⟨w.heap.size + 1, 1, none⟩ = some (.int .u64 b1)) ((refine HS.out _ ?_; repeat (first | exact hBE | refine Below.drew ?_ | refine Below.alloc ?_ (by have := hBE.size; first | omega | (simp; done) | (simp; omega)) _))) (first
    | (go_at_call 41; (with_reducible refine (dcmp_i a0 b0 _).mono ?_); rintro e w' ⟨rfl, rfl⟩)
    | (go_at_call 42; (with_reducible refine (dcmp_u a1 b1 _).mono ?_); rintro e w' ⟨rfl, rfl⟩)
    | (go_at_call 40; (with_reducible refine (dor_two (cmpZ a0 b0) (cmpZ a1 b1) r W.heap.size _ HR ?_ ?_).mono ?_); (· go_simp); (· go_simp); rintro e w' ⟨rfl, rfl⟩))
  go_wp2_with fail
  go_ret
  refine ⟨by rw [HR.out]; rfl, HB.out.trans (((hBE.alloc (Nat.le_refl _) _).drew).mono (by have := HSZ.out; omega))⟩
end Go.Proofs.YthngjbnbloboiaaGreatDoor
