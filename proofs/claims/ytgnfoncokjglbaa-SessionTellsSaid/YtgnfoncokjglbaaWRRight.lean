/- Whether a reply may be: walked, of the document. -/
import Derived.Test.YtgnfoncokjglbaaWCheckR
namespace Go.Proofs.Ytgnfoncokjglbaa
open Go.RowKit

set_option maxRecDepth 100000 in
set_option maxHeartbeats 2000000 in
theorem rreply_any (e : Int) (v : Value) (q : List Int) (w : World) (h : NR w v q) (hf : ∀ x ∈ q, 0 ≤ x ∧ x ≤ 4294967295) :
    Calls Try.prog 15 #[repV ⟨e, q⟩ v] w fun x w' => x = .returned (.bool (RepZ.ok ⟨e, q⟩)) ∧ Below w.heap.size w w' := by
  obtain ⟨A, c, rfl, h⟩ := h
  have hn : q.length ≤ maxLen := Nat.le_trans h.cap h.top
  unfold maxLen at hn
  have HNO : Hid (¬ (RepZ.mk e q).May → RepZ.ok ⟨e, q⟩ = false) := Lib.hid RepZ.ok_no
  have HYES : Hid ((RepZ.mk e q).May → RepZ.ok ⟨e, q⟩ = true) := Lib.hid RepZ.ok_yes.2
  have HMAY : Hid ((RepZ.mk e q).May ↔ 0 ≤ e ∧ (e = 0 ∨ q.length = 0) ∧ q.length ≤ 12 ∧ RiseW 1 4294967295 q) := Lib.hid (by unfold RepZ.May; simp)
  have HF := Lib.hid hf
  generalize (RepZ.mk e q).May = MAY at *
  generalize RepZ.ok ⟨e, q⟩ = EE at *
  have HH := Lib.hid h; have HM : Hid (q.length = q.length) := Lib.hid rfl
  unfold repV
  simp only
  have hx0 := SBox.new w 35 #[.int .i64 e, .slice A q.length c]
  have HB := Lib.hid (new_below w (.cells #[.int .i64 e, .slice A q.length c] 35))
  have HR := Lib.hid (h.on (new_below w (.cells #[.int .i64 e, .slice A q.length c] 35)))
  generalize hn' : q.length = n at *
  have HL := Lib.hid hn'
  clear h hn' hf HM
  obtain ⟨W0, hW0⟩ : ∃ W0 : World, W0 = w.alloc (.cells #[.int .i64 e, .slice A n c] 35) := ⟨_, rfl⟩
  obtain ⟨c0, c1⟩ := hx0.two
  rw [← hW0] at HB HR c0 c1
  clear hx0
  go_enter Try.func15, Try.ntmps15
  go_wp2_with fail
  rw [← hW0]
  clear hW0
  go_loopw [8] (fun i wr => ∃ k : Nat, k ≤ n ∧ i = .int .i64 (k : Int) ∧ wr = W0 ∧ Hid (RiseW 1 4294967295 (q.take k))) (fun i _ => n - (intOf i).toNat)
  case atStart => exact ⟨0, by omega, rfl, rfl, Lib.hid ⟨fun q x hq => by simp at hq, fun q x y hq => by simp at hq⟩⟩
  case round =>
    obtain ⟨k, hk, rfl, rfl, HA⟩ := hrel
    by_cases hlt : k < n
    · obtain ⟨x, hx⟩ : ∃ x, q[k]? = some x := ⟨_, List.getElem?_eq_getElem (by have := HL.out; omega)⟩
      obtain ⟨g, o, rfl, hg, c2⟩ := HR.out.at_ hx
      have HX := Lib.hid hx
      have HX32 := Lib.hid (HF.out x (List.mem_of_getElem? hx))
      clear hx
      have HNO' : Hid (¬ RiseW 1 4294967295 (q.take (k + 1)) → EE = false) := Lib.hid (fun hn => HNO.out (fun hr => hn (rise_take (HMAY.out.1 hr).2.2.2 _)))
      have HST : Hid (1 ≤ x → x ≤ 4294967295 → (∀ y, 0 < k → q[k - 1]? = some y → y < x) → RiseW 1 4294967295 (q.take (k + 1))) := Lib.hid (fun h1 h2 h3 => rise_next HA.out HX.out h1 h2 h3)
      have HOF : Hid (RiseW 1 4294967295 (q.take (k + 1)) → 1 ≤ x ∧ x ≤ 4294967295 ∧ (∀ y, 0 < k → q[k - 1]? = some y → y < x)) := Lib.hid (fun h => rise_last h HX.out)
      have i0 : (0 : Int) ≤ (k : Int) := by omega
      have i1 : (k : Int) < (n : Int) := by omega
      by_cases h1 : x = 0
      · have hd : (x == 0) = true := by simp [h1]
        have HZ := Lib.hid (HNO'.out (fun h => by have := (HOF.out h).1; omega))
        clear h1
        go_wp2_with fail
        go_ret
        exact ⟨by rw [HZ.out]; try rfl, HB.out⟩
      · have hd : (x == 0) = false := by simp [h1]
        have H1 : Hid (1 ≤ x) := Lib.hid (by have := HX32.out; omega)
        clear h1
        by_cases hk0 : 0 < k
        · obtain ⟨y, hy⟩ : ∃ y, q[k - 1]? = some y := ⟨_, List.getElem?_eq_getElem (by have := HL.out; omega)⟩
          obtain ⟨g', o', he, _, c3⟩ := HR.out.at_ hy
          cases he
          have HY := Lib.hid hy
          clear hy
          have hz1 : decide ((0 : Int) < (k : Int)) = true := decide_eq_true (by omega)
          have hz2 : decide (0 < k) = true := decide_eq_true (by omega)
          obtain ⟨j, rfl⟩ : ∃ j, k = j + 1 := ⟨k - 1, by omega⟩
          rw [Nat.add_sub_cancel] at c3
          have e1 : (((j + 1 : Nat) : Int) - 1) = (j : Int) := by omega
          have e2 : wrap64 (((j + 1 : Nat) : Int) - 1) = (j : Int) := by unfold wrap64; omega
          have e3 : wrap64 ((j : Int) + 1 - 1) = (j : Int) := by unfold wrap64; omega
          have j0 : (0 : Int) ≤ (j : Int) := by omega
          have j1 : (j : Int) < (n : Int) := by omega
          by_cases h3 : x ≤ y
          · have hd3 : decide (x ≤ y) = true := decide_eq_true h3
            have HZ := Lib.hid (HNO'.out (fun h => by have := (HOF.out h).2.2 y (by omega) HY.out; omega))
            go_wp2_with fail
            go_ret
            exact ⟨by rw [HZ.out]; try rfl, HB.out⟩
          · have hd3 : decide (x ≤ y) = false := decide_eq_false h3
            have HN := Lib.hid (HST.out H1.out HX32.out.2 (fun y' _ hy' => by
              have := HY.out.symm.trans hy'
              cases this
              omega))
            go_wp2_with fail
            go_roundw
            case rel => exact ⟨j + 1 + 1, by omega, by go_num, by first | trivial | rfl, HN⟩
            case measure => simp [intOf]; omega
        · have hz1 : decide ((0 : Int) < (k : Int)) = false := decide_eq_false (by omega)
          have hz2 : decide (0 < k) = false := decide_eq_false (by omega)
          have HN := Lib.hid (HST.out H1.out HX32.out.2 (fun y' h _ => absurd h hk0))
          go_wp2_with fail
          go_roundw
          case rel => exact ⟨k + 1, by omega, by go_num, by first | trivial | rfl, HN⟩
          case measure => simp [intOf]; omega
    · have HRI : Hid (RiseW 1 4294967295 q) := Lib.hid (by
        have := HA.out
        rwa [List.take_of_length_le (by have := HL.out; omega)] at this)
      by_cases h1 : 0 ≤ e
      · have d1 : decide (0 ≤ e) = true := decide_eq_true h1
        by_cases h2 : n ≤ 12
        · have d2 : decide ((n : Int) ≤ 12) = true := decide_eq_true (by omega)
          have d3 : decide (n ≤ 12) = true := decide_eq_true h2
          by_cases h3 : e = 0
          · have d4 : (e == 0) = true := by simp [h3]
            have HZ := Lib.hid (HYES.out (HMAY.out.2 ⟨h1, .inl h3, h2, HRI.out⟩))
            clear h3 h1
            go_wp2_with fail
            go_ret
            exact ⟨by rw [HZ.out]; try rfl, HB.out⟩
          · have d4 : (e == 0) = false := by simp [h3]
            by_cases h4 : n = 0
            · have HZ := Lib.hid (HYES.out (HMAY.out.2 ⟨h1, .inr h4, h2, HRI.out⟩))
              subst h4
              clear h3 h2 hlt hk
              go_wp2_with fail
              go_ret
              exact ⟨by rw [HZ.out]; try rfl, HB.out⟩
            · have d5 : ((n : Int) == 0) = false := by simp [h4]
              have d6 : (n == 0) = false := by simp [h4]
              have HZ := Lib.hid (HNO.out (fun h => by have := (HMAY.out.1 h).2.1; omega))
              clear h3 h4
              go_wp2_with fail
              go_ret
              exact ⟨by rw [HZ.out]; try rfl, HB.out⟩
        · have d2 : decide ((n : Int) ≤ 12) = false := decide_eq_false (by omega)
          have d3 : decide (n ≤ 12) = false := decide_eq_false h2
          have HZ := Lib.hid (HNO.out (fun h => by have := (HMAY.out.1 h).2.2.1; omega))
          go_wp2_with fail
          go_ret
          exact ⟨by rw [HZ.out]; try rfl, HB.out⟩
      · have d1 : decide (0 ≤ e) = false := decide_eq_false h1
        have HZ := Lib.hid (HNO.out (fun h => by have := (HMAY.out.1 h).1; omega))
        go_wp2_with fail
        go_ret
        exact ⟨by rw [HZ.out]; try rfl, HB.out⟩
end Go.Proofs.Ytgnfoncokjglbaa
