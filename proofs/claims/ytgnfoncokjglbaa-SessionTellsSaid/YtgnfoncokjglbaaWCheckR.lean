/- Whether a reply may be (program and document), and who may ask: walked. -/
import Derived.Test.YtgnfoncokjglbaaWHold
import Derived.Deep.DeepCutAuto
namespace Go.Proofs.Ytgnfoncokjglbaa
open Go.RowKit

/-- The number of a reply's fault. -/
noncomputable def repE (r : RepZ) : Int := if r.ok = true then 0 else 2
theorem repE_no {r : RepZ} (h : ¬ r.May) : repE r = 2 := by unfold repE; rw [RepZ.ok_no h]; rfl
theorem repE_yes {r : RepZ} (h : r.May) : repE r = 0 := by unfold repE; rw [RepZ.ok_yes.2 h]; rfl
set_option maxRecDepth 100000 in
set_option maxHeartbeats 1000000 in
theorem checkr_any (e : Int) (v : Value) (q : List Int) (w : World) (h : NR w v q) :
    Calls Try.prog 14 #[repV ⟨e, q⟩ v] w fun x w' => x = .returned (.int .i64 (repE ⟨e, q⟩)) ∧ Below w.heap.size w w' := by
  obtain ⟨A, c, rfl, h⟩ := h
  have hn : q.length ≤ maxLen := Nat.le_trans h.cap h.top
  unfold maxLen at hn
  have HNO : Hid (¬ (RepZ.mk e q).May → repE ⟨e, q⟩ = 2) := Lib.hid repE_no
  have HYES : Hid ((RepZ.mk e q).May → repE ⟨e, q⟩ = 0) := Lib.hid repE_yes
  have HMAY : Hid ((RepZ.mk e q).May ↔ 0 ≤ e ∧ (e = 0 ∨ q.length = 0) ∧ q.length ≤ 12 ∧ RiseW 1 4294967295 q) := Lib.hid (by unfold RepZ.May; simp)
  have HHD := Lib.hid (fun W (hb : Below w.heap.size w W) => hold_u32 1 4294967295 A q.length c q W (h.on hb))
  have HRI : Hid (holdW 1 4294967295 q = true ↔ RiseW 1 4294967295 q) := Lib.hid holdW_yes
  generalize holdW 1 4294967295 q = HB at *
  generalize RiseW 1 4294967295 q = RI at *
  generalize (RepZ.mk e q).May = MAY at *
  generalize repE ⟨e, q⟩ = EE at *
  unfold repV
  simp only
  have hB := Lib.hid (new_below w (.cells #[.int .i64 e, .slice A q.length c] 35))
  generalize q.length = n at *
  clear h
  go_enter Try.func14, Try.ntmps14
  by_cases h1 : e < 0
  · have HZ := Lib.hid (HNO.out (fun h => by have := (HMAY.out.1 h).1; omega))
    have hd : decide (e < 0) = true := decide_eq_true h1
    go_wp2_with fail
    go_ret
    exact ⟨by rw [HZ.out]; try rfl, hB.out⟩
  have hd : decide (e < 0) = false := decide_eq_false h1
  by_cases h2 : e = 0
  · have hd2 : (e != 0) = false := by simp [h2]
    have H2 := Lib.hid h2
    clear h2
    by_cases h3 : 12 < n
    · have HZ := Lib.hid (HNO.out (fun h => by have := (HMAY.out.1 h).2.2.1; omega))
      have hd3 : decide ((12 : Int) < (n : Int)) = true := decide_eq_true (by omega)
      have hd4 : decide (12 < n) = true := decide_eq_true (by omega)
      go_wp2_with fail
      go_ret
      exact ⟨by rw [HZ.out]; try rfl, hB.out⟩
    · have hd3 : decide ((12 : Int) < (n : Int)) = false := decide_eq_false (by omega)
      have hd4 : decide (12 < n) = false := decide_eq_false (by omega)
      go_wp2_with fail
      refine (HHD.out _ hB.out).mono ?_
      rintro x w1 ⟨rfl, rfl⟩
      cases HB with
      | true =>
        have HZ := Lib.hid (HYES.out (HMAY.out.2 ⟨by have := H2.out; omega, .inl H2.out, by omega, HRI.out.1 rfl⟩))
        clear h3
        go_wp2_with fail
        go_ret
        exact ⟨by rw [HZ.out]; try rfl, hB.out⟩
      | false =>
        have HZ := Lib.hid (HNO.out (fun h => absurd (HRI.out.2 (HMAY.out.1 h).2.2.2) (by simp)))
        clear h3
        go_wp2_with fail
        go_ret
        exact ⟨by rw [HZ.out]; try rfl, hB.out⟩
  · have hd2 : (e != 0) = true := by simp [h2]
    by_cases h3 : 0 < n
    · have HZ := Lib.hid (HNO.out (fun h => by have := (HMAY.out.1 h).2.1; omega))
      have hd3 : decide ((0 : Int) < (n : Int)) = true := decide_eq_true (by omega)
      have hd4 : decide (0 < n) = true := decide_eq_true (by omega)
      go_wp2_with fail
      go_ret
      exact ⟨by rw [HZ.out]; try rfl, hB.out⟩
    · have hd3 : decide ((0 : Int) < (n : Int)) = false := decide_eq_false (by omega)
      have hd4 : decide (0 < n) = false := decide_eq_false (by omega)
      have hd5 : decide ((12 : Int) < (n : Int)) = false := decide_eq_false (by omega)
      have hd6 : decide (12 < n) = false := decide_eq_false (by omega)
      go_wp2_with fail
      refine (HHD.out _ hB.out).mono ?_
      rintro x w1 ⟨rfl, rfl⟩
      cases HB with
      | true =>
        have HZ := Lib.hid (HYES.out (HMAY.out.2 ⟨by omega, .inr (by omega), by omega, HRI.out.1 rfl⟩))
        clear h3
        go_wp2_with fail
        go_ret
        exact ⟨by rw [HZ.out]; try rfl, hB.out⟩
      | false =>
        have HZ := Lib.hid (HNO.out (fun h => absurd (HRI.out.2 (HMAY.out.1 h).2.2.2) (by simp)))
        clear h3
        go_wp2_with fail
        go_ret
        exact ⟨by rw [HZ.out]; try rfl, hB.out⟩
set_option maxRecDepth 100000 in
theorem asked_any (c s : Int) (w : World) : Calls Try.prog 18 #[.int .i64 c, .int .u64 s] w fun x w' => x = .returned (.bool (decide (Asked c s))) ∧ w' = w := by
  have HD : ∀ b, (Asked c s ↔ b = true) → decide (Asked c s) = b := fun b h => by
    cases b with
    | true => exact decide_eq_true (h.2 rfl)
    | false => exact decide_eq_false (fun hh => absurd (h.1 hh) (by simp))
  have HZ := Lib.hid HD
  have HA : Hid (Asked c s ↔ 1 ≤ c ∧ c ≤ 3 ∧ 1 ≤ s ∧ s ≤ 1099511627776) := Lib.hid (by unfold Asked maxQ; exact Iff.rfl)
  clear HD
  go_enter Try.func18, Try.ntmps18
  by_cases h1 : 1 ≤ c
  · have d1 : decide (1 ≤ c) = true := decide_eq_true h1
    by_cases h2 : c ≤ 3
    · have d2 : decide (c ≤ 3) = true := decide_eq_true h2
      by_cases h3 : 1 ≤ s
      · have d3 : decide (1 ≤ s) = true := decide_eq_true h3
        by_cases h4 : s ≤ 1099511627776
        · have d4 : decide (s ≤ 1099511627776) = true := decide_eq_true h4
          have HE := Lib.hid (HZ.out true ⟨fun _ => rfl, fun _ => HA.out.2 ⟨h1, h2, h3, h4⟩⟩)
          go_wp2_with fail
          go_ret
          exact ⟨by rw [HE.out]; try rfl, rfl⟩
        · have d4 : decide (s ≤ 1099511627776) = false := decide_eq_false h4
          have HE := Lib.hid (HZ.out false ⟨fun h => absurd (HA.out.1 h).2.2.2 h4, fun h => by cases h⟩)
          go_wp2_with fail
          go_ret
          exact ⟨by rw [HE.out]; try rfl, rfl⟩
      · have d3 : decide (1 ≤ s) = false := decide_eq_false h3
        have HE := Lib.hid (HZ.out false ⟨fun h => absurd (HA.out.1 h).2.2.1 h3, fun h => by cases h⟩)
        go_wp2_with fail
        go_ret
        exact ⟨by rw [HE.out]; try rfl, rfl⟩
    · have d2 : decide (c ≤ 3) = false := decide_eq_false h2
      have HE := Lib.hid (HZ.out false ⟨fun h => absurd (HA.out.1 h).2.1 h2, fun h => by cases h⟩)
      go_wp2_with fail
      go_ret
      exact ⟨by rw [HE.out]; try rfl, rfl⟩
  · have d1 : decide (1 ≤ c) = false := decide_eq_false h1
    have HE := Lib.hid (HZ.out false ⟨fun h => absurd (HA.out.1 h).1 h1, fun h => by cases h⟩)
    go_wp2_with fail
    go_ret
    exact ⟨by rw [HE.out]; try rfl, rfl⟩
end Go.Proofs.Ytgnfoncokjglbaa
