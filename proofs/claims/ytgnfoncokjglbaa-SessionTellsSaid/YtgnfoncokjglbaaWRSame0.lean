/- Whether replies and sessions are the same: walked, of the document. -/
import Derived.Test.YtgnfoncokjglbaaWSame
namespace Go.Proofs.Ytgnfoncokjglbaa
open Go.RowKit

set_option maxRecDepth 100000 in
set_option maxHeartbeats 2000000 in
theorem rsamer_any (e1 e2 : Int) (v1 v2 : Value) (q1 q2 : List Int) (w : World) (h1 : NR w v1 q1) (h2 : NR w v2 q2) :
    Calls Try.prog 17 #[.agg #[.int .i64 e1, v1], .agg #[.int .i64 e2, v2]] w fun e w' => e = .returned (.bool (decide ((RepZ.mk e1 q1) = ⟨e2, q2⟩))) ∧ Below w.heap.size w w' := by
  obtain ⟨A1, c1, rfl, h1⟩ := h1
  obtain ⟨A2, c2, rfl, h2⟩ := h2
  have hn1 : q1.length ≤ 9223372036854775807 := by have := h1.cap; have := h1.top; unfold maxLen at this; omega
  have hn2 : q2.length ≤ 9223372036854775807 := by have := h2.cap; have := h2.top; unfold maxLen at this; omega
  have hb0 : Below w.heap.size w ((w.alloc (.cells #[.int .i64 e1, .slice A1 q1.length c1] 35)).alloc (.cells #[.int .i64 e2, .slice A2 q2.length c2] 35)) := (new_below w _).alloc (by simp) _
  have hx1 := (SBox.new w 35 #[.int .i64 e1, .slice A1 q1.length c1]).alloc (.cells #[.int .i64 e2, .slice A2 q2.length c2] 35)
  have hx2 : SBox ((w.alloc (.cells #[.int .i64 e1, .slice A1 q1.length c1] 35)).alloc (.cells #[.int .i64 e2, .slice A2 q2.length c2] 35)) (w.heap.size + 1) 35 #[.int .i64 e2, .slice A2 q2.length c2] := by
    have := SBox.new (w.alloc (.cells #[.int .i64 e1, .slice A1 q1.length c1] 35)) 35 #[.int .i64 e2, .slice A2 q2.length c2]
    rwa [World.size_alloc] at this
  have HEE : Hid (decide ((RepZ.mk e1 q1) = ⟨e2, q2⟩) = true ↔ e1 = e2 ∧ q1 = q2) := Lib.hid (by simp)
  generalize decide ((RepZ.mk e1 q1) = ⟨e2, q2⟩) = EE at *
  have HNO : Hid (¬ (e1 = e2 ∧ q1 = q2) → EE = false) := Lib.hid (fun h => by
    cases EE with
    | false => rfl
    | true => exact absurd (HEE.out.1 rfl) h)
  have HA := Lib.hid (h1.on hb0); have HB2 := Lib.hid (h2.on hb0)
  generalize hl1 : q1.length = n1 at *
  generalize hl2 : q2.length = n2 at *
  have HB := Lib.hid hb0
  have HX := Lib.hid hl1; have HY := Lib.hid hl2
  obtain ⟨a0, a1⟩ := hx1.two
  obtain ⟨b0, b1⟩ := hx2.two
  clear h1 h2 hx1 hx2 hb0 hl1 hl2
  obtain ⟨W0, hW0⟩ : ∃ W0 : World, W0 = (w.alloc (.cells #[.int .i64 e1, .slice A1 n1 c1] 35)).alloc (.cells #[.int .i64 e2, .slice A2 n2 c2] 35) := ⟨_, rfl⟩
  rw [← hW0] at HB HA HB2 a0 a1 b0 b1
  go_enter Try.func17, Try.ntmps17
  by_cases he : e1 = e2
  · have hd : (e1 != e2) = false := by simp [he]
    have HE := Lib.hid he
    clear he
    by_cases hnm : n1 = n2
    · subst hnm
      go_wp2_with fail
      rw [← hW0]
      clear hW0
      go_loopw [24] (fun i wr => ∃ k : Nat, k ≤ n1 ∧ i = .int .i64 k ∧ wr = W0 ∧ Hid (q1.take k = q2.take k)) (fun i _ => n1 - (intOf i).toNat)
      case atStart => exact ⟨0, Nat.zero_le _, rfl, rfl, Lib.hid (by simp)⟩
      case round =>
        obtain ⟨k, hk, rfl, rfl, Heq⟩ := hrel
        by_cases hlt : k < n1
        · obtain ⟨x, hx⟩ : ∃ x, q1[k]? = some x := ⟨_, List.getElem?_eq_getElem (by have := HX.out; omega)⟩
          obtain ⟨y, hy⟩ : ∃ y, q2[k]? = some y := ⟨_, List.getElem?_eq_getElem (by have := HY.out; omega)⟩
          obtain ⟨g1, o1, rfl, _, d1⟩ := HA.out.at_ hx
          obtain ⟨g2, o2, rfl, _, d2⟩ := HB2.out.at_ hy
          have T1 := Lib.hid (take_snoc hx); have T2 := Lib.hid (take_snoc hy)
          have X1 := Lib.hid hx; have X2 := Lib.hid hy
          have i0 : (0 : Int) ≤ (k : Int) := by omega
          have i1 : (k : Int) < (n1 : Int) := by omega
          clear hx hy
          by_cases hxy : x = y
          · have hd2 : (x != y) = false := by simp [hxy]
            have Hxy := Lib.hid hxy
            clear hxy
            go_wp2_with fail
            go_roundw
            case rel => exact ⟨k + 1, by omega, by go_num, by first | trivial | rfl, Lib.hid (by rw [T1.out, T2.out, Heq.out, Hxy.out])⟩
            case measure => simp [intOf]; omega
          · have hd2 : (x != y) = true := by simp [hxy]
            have HZ := Lib.hid (HNO.out (fun h => by
              have h3 := X1.out
              rw [h.2, X2.out] at h3
              cases h3
              exact absurd rfl hxy))
            clear hxy
            go_wp2_with fail
            go_ret
            exact ⟨by rw [HZ.out]; try rfl, HB.out⟩
        · have HZ : Hid (EE = true) := Lib.hid (HEE.out.2 ⟨HE.out, by
            have := Heq.out
            rwa [List.take_of_length_le (by have := HX.out; omega), List.take_of_length_le (by have := HY.out; omega)] at this⟩)
          go_wp2_with fail
          go_ret
          exact ⟨by rw [HZ.out]; try rfl, HB.out⟩
    · have hd3 : ((n1 : Int) != (n2 : Int)) = true := by simp; omega
      have hd4 : (n1 != n2) = true := by simp; omega
      have HZ := Lib.hid (HNO.out (fun h => hnm (by rw [← HX.out, ← HY.out, h.2])))
      clear hnm
      go_wp2_with fail
      rw [← hW0]
      go_ret
      exact ⟨by rw [HZ.out]; try rfl, HB.out⟩
  · have hd : (e1 != e2) = true := by simp [he]
    have HZ := Lib.hid (HNO.out (fun h => he h.1))
    clear he
    go_wp2_with fail
    rw [← hW0]
    go_ret
    exact ⟨by rw [HZ.out]; try rfl, HB.out⟩
end Go.Proofs.Ytgnfoncokjglbaa
