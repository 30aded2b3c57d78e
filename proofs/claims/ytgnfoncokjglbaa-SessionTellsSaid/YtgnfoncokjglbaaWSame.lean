/- Whether replies and sessions are the same: walked, of program and document. -/
import Derived.Test.YtgnfoncokjglbaaWVar
namespace Go.Proofs.Ytgnfoncokjglbaa
open Go.RowKit

theorem take_snoc {l : List Int} {k : Nat} {x : Int} (h : l[k]? = some x) : l.take (k + 1) = l.take k ++ [x] := by rw [List.take_add_one, h]; rfl
set_option maxHeartbeats 1000000 in
theorem equal_nums (A B : Option Addr) (n m c d : Nat) (xs ys : List Int) (w : World) (ha : NumR w .u32 A n c xs) (hb : NumR w .u32 B m d ys) :
    Calls Try.prog 32 #[.slice A n c, .slice B m d] w fun e w' => e = .returned (.bool (decide (xs = ys))) ∧ ∃ q, w' = w.drewN q := by
  have hn : n ≤ 9223372036854775807 := by have := ha.cap; have := ha.top; unfold maxLen at this; omega
  have hm : m ≤ 9223372036854775807 := by have := hb.cap; have := hb.top; unfold maxLen at this; omega
  have HX := Lib.hid ha.len; have HY := Lib.hid hb.len
  have HA := Lib.hid ha; have HB := Lib.hid hb
  have HE : Hid (decide (xs = ys) = true ↔ xs = ys) := Lib.hid (by simp)
  generalize decide (xs = ys) = EE at *
  clear ha hb
  go_enter Try.func32, Try.ntmps32
  by_cases hnm : n = m
  · subst hnm
    go_wp2_with fail
    go_loopw [13] (fun i wr => ∃ k q : Nat, k ≤ n ∧ i = .int .i64 k ∧ wr = w.drewN q ∧ Hid (xs.take k = ys.take k)) (fun i _ => n - (intOf i).toNat)
    case atStart => exact ⟨0, 0, Nat.zero_le _, rfl, rfl, Lib.hid (by simp)⟩
    case round =>
      obtain ⟨k, q, hk, rfl, rfl, Heq⟩ := hrel
      by_cases hlt : k < n
      · obtain ⟨x, hx⟩ : ∃ x, xs[k]? = some x := ⟨_, List.getElem?_eq_getElem (by have := HX.out; omega)⟩
        obtain ⟨y, hy⟩ : ∃ y, ys[k]? = some y := ⟨_, List.getElem?_eq_getElem (by have := HY.out; omega)⟩
        obtain ⟨b1, o1, rfl, _, c1⟩ := HA.out.at_ hx
        obtain ⟨b2, o2, rfl, _, c2⟩ := HB.out.at_ hy
        have T1 := Lib.hid (take_snoc hx); have T2 := Lib.hid (take_snoc hy)
        have X1 := Lib.hid hx; have X2 := Lib.hid hy
        have h0 : (0 : Int) ≤ (k : Int) := by omega
        have h1 : (k : Int) < (n : Int) := by omega
        clear hx hy
        by_cases hxy : x = y
        · have hd : (x != y) = false := by simp [hxy]
          have Hxy := Lib.hid hxy
          clear hxy
          go_wp2
          go_quiet (fail)
          go_wp2
          go_roundw
          case rel => exact ⟨k + 1, _, by omega, by go_num, rfl, Lib.hid (by rw [T1.out, T2.out, Heq.out, Hxy.out])⟩
          case measure => simp [intOf]; omega
        · have hd : (x != y) = true := by simp [hxy]
          have HZ : Hid (EE = false) := Lib.hid (by
            cases EE with
            | false => rfl
            | true =>
              have h2 := HE.out.1 rfl
              have h3 := X1.out
              rw [h2, X2.out] at h3
              cases h3
              exact absurd rfl hxy)
          clear hxy
          go_wp2
          go_quiet (fail)
          go_wp2
          go_ret
          exact ⟨by rw [HZ.out]; try rfl, _, World.drewN_drewN _ _ _⟩
      · have HZ : Hid (EE = true) := Lib.hid (HE.out.2 (by
          have := Heq.out
          rwa [List.take_of_length_le (by have := HX.out; omega), List.take_of_length_le (by have := HY.out; omega)] at this))
        go_wp2
        go_ret
        exact ⟨by rw [HZ.out]; try rfl, _, rfl⟩
  · have hd : ((n : Int) != (m : Int)) = true := by simp; omega
    have hd2 : (n != m) = true := by simp; omega
    have HZ : Hid (EE = false) := Lib.hid (by
      cases EE with
      | false => rfl
      | true =>
        have h2 := HE.out.1 rfl
        have h3 := HX.out
        rw [h2, HY.out] at h3
        exact absurd h3.symm hnm)
    clear hnm
    go_wp2_with fail
    go_ret
    exact ⟨by rw [HZ.out]; try rfl, 0, rfl⟩
theorem drewN_on {w : World} (q : Nat) : Below w.heap.size w (w.drewN q) := ⟨rfl, rfl, rfl, Nat.le_refl _, fun _ _ => rfl⟩
set_option maxRecDepth 100000 in
set_option maxHeartbeats 1000000 in
theorem samer_any (e1 e2 : Int) (v1 v2 : Value) (q1 q2 : List Int) (w : World) (h1 : NR w v1 q1) (h2 : NR w v2 q2) :
    Calls Try.prog 16 #[.agg #[.int .i64 e1, v1], .agg #[.int .i64 e2, v2]] w fun e w' => e = .returned (.bool (decide ((RepZ.mk e1 q1) = ⟨e2, q2⟩))) ∧ Below w.heap.size w w' := by
  obtain ⟨A1, c1, rfl, h1⟩ := h1
  obtain ⟨A2, c2, rfl, h2⟩ := h2
  have hb0 : Below w.heap.size w ((w.alloc (.cells #[.int .i64 e1, .slice A1 q1.length c1] 35)).alloc (.cells #[.int .i64 e2, .slice A2 q2.length c2] 35)) := (new_below w _).alloc (by simp) _
  have HB := Lib.hid hb0
  have HEQ := Lib.hid (equal_nums A1 A2 q1.length q2.length c1 c2 q1 q2 _ (h1.on hb0) (h2.on hb0))
  have HEE : Hid (decide ((RepZ.mk e1 q1) = ⟨e2, q2⟩) = (decide (e1 = e2) && decide (q1 = q2))) := Lib.hid (by rw [← Bool.decide_and]; simp)
  generalize decide ((RepZ.mk e1 q1) = ⟨e2, q2⟩) = EE at *
  generalize decide (q1 = q2) = QQ at *
  generalize q1.length = n1 at *
  generalize q2.length = n2 at *
  clear h1 h2 hb0
  go_enter Try.func16, Try.ntmps16
  by_cases he : e1 = e2
  · have hd : (e1 == e2) = true := by simp [he]
    have HZ : Hid (EE = QQ) := Lib.hid (by rw [HEE.out, decide_eq_true he, Bool.true_and])
    clear he
    go_wp2_with fail
    refine HEQ.out.mono ?_
    rintro e w1 ⟨rfl, q, rfl⟩
    go_wp2_with fail
    go_ret
    exact ⟨by rw [HZ.out]; try rfl, HB.out.trans ((drewN_on q).mono HB.out.size)⟩
  · have hd : (e1 == e2) = false := by simp [he]
    have HZ : Hid (EE = false) := Lib.hid (by rw [HEE.out, decide_eq_false he, Bool.false_and])
    clear he
    go_wp2_with fail
    go_ret
    exact ⟨by rw [HZ.out]; try rfl, HB.out⟩
set_option maxRecDepth 100000 in
set_option maxHeartbeats 1000000 in
theorem same1_any (c1 s1 e1 c2 s2 e2 : Int) (v1 v2 : Value) (q1 q2 : List Int) (w : World) (h1 : NR w v1 q1) (h2 : NR w v2 q2) :
    Calls Try.prog 29 #[.agg #[.int .i64 c1, .int .u64 s1, .int .i64 e1, v1], .agg #[.int .i64 c2, .int .u64 s2, .int .i64 e2, v2]] w fun e w' => e = .returned (.bool (decide ((SesZ.mk c1 s1 ⟨e1, q1⟩) = ⟨c2, s2, ⟨e2, q2⟩⟩))) ∧ Below w.heap.size w w' := by
  have hb0 : Below w.heap.size w ((w.alloc (.cells #[.int .i64 c1, .int .u64 s1, .int .i64 e1, v1] 42)).alloc (.cells #[.int .i64 c2, .int .u64 s2, .int .i64 e2, v2] 42)) := (new_below w _).alloc (by simp) _
  have HB := Lib.hid hb0
  have HSM := Lib.hid (samer_any e1 e2 v1 v2 q1 q2 _ (h1.on hb0) (h2.on hb0))
  have HEE : Hid (decide ((SesZ.mk c1 s1 ⟨e1, q1⟩) = ⟨c2, s2, ⟨e2, q2⟩⟩) = (decide (c1 = c2) && (decide (s1 = s2) && decide ((RepZ.mk e1 q1) = ⟨e2, q2⟩)))) := Lib.hid (by rw [← Bool.decide_and, ← Bool.decide_and]; simp)
  generalize decide ((SesZ.mk c1 s1 ⟨e1, q1⟩) = ⟨c2, s2, ⟨e2, q2⟩⟩) = EE at *
  generalize decide ((RepZ.mk e1 q1) = ⟨e2, q2⟩) = QQ at *
  clear h1 h2 hb0
  go_enter Try.func29, Try.ntmps29
  by_cases hc : c1 = c2
  · have hd : (c1 == c2) = true := by simp [hc]
    by_cases hs : s1 = s2
    · have hd2 : (s1 == s2) = true := by simp [hs]
      have HZ : Hid (EE = QQ) := Lib.hid (by rw [HEE.out, decide_eq_true hc, decide_eq_true hs, Bool.true_and, Bool.true_and])
      clear hc hs
      go_wp2_with fail
      refine HSM.out.mono ?_
      rintro e w1 ⟨rfl, hb⟩
      have HB1 := Lib.hid (HB.out.trans (hb.mono HB.out.size))
      clear hb
      go_wp2_with fail
      go_ret
      exact ⟨by rw [HZ.out]; try rfl, HB1.out⟩
    · have hd2 : (s1 == s2) = false := by simp [hs]
      have HZ : Hid (EE = false) := Lib.hid (by rw [HEE.out, decide_eq_false hs, Bool.false_and, Bool.and_false])
      clear hc hs
      go_wp2_with fail
      go_ret
      exact ⟨by rw [HZ.out]; try rfl, HB.out⟩
  · have hd : (c1 == c2) = false := by simp [hc]
    have HZ : Hid (EE = false) := Lib.hid (by rw [HEE.out, decide_eq_false hc, Bool.false_and])
    clear hc
    go_wp2_with fail
    go_ret
    exact ⟨by rw [HZ.out]; try rfl, HB.out⟩
theorem list_take_eq {l1 l2 : List SesZ} {k : Nat} {x y : SesZ} (h : l1.take k = l2.take k) (h1 : l1[k]? = some x) (h2 : l2[k]? = some y) (e : x = y) : l1.take (k + 1) = l2.take (k + 1) := by
  rw [List.take_add_one, List.take_add_one, h, h1, h2, e]
set_option maxRecDepth 100000 in
set_option maxHeartbeats 4000000 in
theorem equalf_any (A1 A2 : Option Addr) (n1 n2 c1 c2 : Nat) (ms1 ms2 : List SesM) (w : World) (h1 : SR w A1 n1 c1 ms1) (h2 : SR w A2 n2 c2 ms2) :
    Calls Try.prog 28 #[.slice A1 n1 c1, .slice A2 n2 c2, .func (.func 29) #[] #[]] w fun e w' => e = .returned (.bool (decide (ms1.map (·.1) = ms2.map (·.1)))) ∧ Below w.heap.size w w' := by
  have hn1 : n1 ≤ 9223372036854775807 := by have := h1.cap; have := h1.top; unfold maxLen at this; omega
  have hn2 : n2 ≤ 9223372036854775807 := by have := h2.cap; have := h2.top; unfold maxLen at this; omega
  have HL1 := Lib.hid h1.len; have HL2 := Lib.hid h2.len
  have HA := Lib.hid h1; have HB := Lib.hid h2
  generalize hl1 : ms1.map (·.1) = l1 at *
  generalize hl2 : ms2.map (·.1) = l2 at *
  have HX := Lib.hid hl1; have HY := Lib.hid hl2
  have HXL : Hid (l1.length = n1) := Lib.hid (by rw [← hl1, List.length_map, h1.len])
  have HYL : Hid (l2.length = n2) := Lib.hid (by rw [← hl2, List.length_map, h2.len])
  have HE : Hid (decide (l1 = l2) = true ↔ l1 = l2) := Lib.hid (by simp)
  generalize decide (l1 = l2) = EE at *
  clear h1 h2 hl1 hl2
  go_enter Try.func28, Try.ntmps28
  by_cases hnm : n1 = n2
  · subst hnm
    go_wp2_with fail
    go_loopw [17] (fun i wr => ∃ k : Nat, k ≤ n1 ∧ i = .int .i64 (k : Int) ∧ Below w.heap.size w wr ∧ Hid (l1.take k = l2.take k)) (fun i _ => n1 - (intOf i).toNat)
    case atStart => exact ⟨0, Nat.zero_le _, rfl, Below.refl _ _, Lib.hid (by simp)⟩
    case round =>
      obtain ⟨k, hk, rfl, hb, HT⟩ := hrel
      have HBB := Lib.hid hb
      clear hb
      by_cases hlt : k < n1
      · obtain ⟨m1, hm1⟩ : ∃ m, ms1[k]? = some m := ⟨_, List.getElem?_eq_getElem (by have := HL1.out; omega)⟩
        obtain ⟨m2, hm2⟩ : ∃ m, ms2[k]? = some m := ⟨_, List.getElem?_eq_getElem (by have := HL2.out; omega)⟩
        obtain ⟨⟨xc, xq, xe, xn⟩, xv⟩ := m1
        obtain ⟨⟨yc, yq, ye, yn⟩, yv⟩ := m2
        have ht1 := HA.out.on HBB.out
        have hok1 := ht1.ok _ (List.mem_of_getElem? hm1)
        obtain ⟨b1, o1, rfl, hj1⟩ := ht1.at_ hm1
        clear hj1
        have HLD1 := Lib.hid (ses_load ht1 hm1)
        obtain ⟨W1, hs1, hx1, hb1, hz1⟩ := ses_var wr ⟨xc, xq, xe, xn⟩ xv hok1.2.one
        have hb1' := HBB.out.trans (hb1.mono HBB.out.size)
        have ht2 := HB.out.on hb1'
        have hok2 := ht2.ok _ (List.mem_of_getElem? hm2)
        obtain ⟨b2, o2, rfl, hj2⟩ := ht2.at_ hm2
        clear hj2
        have HLD2 := Lib.hid (ses_load ht2 hm2)
        obtain ⟨W2, hs2, hx2, hb2, hz2⟩ := ses_var W1 ⟨yc, yq, ye, yn⟩ yv hok2.2.one
        have HS1 := Lib.hid hs1; have HS2 := Lib.hid hs2
        have HLX1 := Lib.hid (hx1.on hb2).load; have HLX2 := Lib.hid hx2.load
        have HB2 := Lib.hid (hb1'.trans (hb2.mono hb1'.size))
        have HSM := Lib.hid (same1_any xc xq xe yc yq ye xv yv xn yn W2 ((hok1.2.on hb1).on hb2) (hok2.2.on hb2))
        have HX1 : Hid (l1[k]? = some ⟨xc, xq, xe, xn⟩) := Lib.hid (by rw [← HX.out, List.getElem?_map, hm1]; rfl)
        have HX2 : Hid (l2[k]? = some ⟨yc, yq, ye, yn⟩) := Lib.hid (by rw [← HY.out, List.getElem?_map, hm2]; rfl)
        have HQ : Hid (decide ((SesZ.mk xc xq ⟨xe, xn⟩) = ⟨yc, yq, ⟨ye, yn⟩⟩) = true ↔ (SesZ.mk xc xq ⟨xe, xn⟩) = ⟨yc, yq, ⟨ye, yn⟩⟩) := Lib.hid (by simp)
        generalize decide ((SesZ.mk xc xq ⟨xe, xn⟩) = ⟨yc, yq, ⟨ye, yn⟩⟩) = QQ at *
        have HZ1 := Lib.hid hz1
        have g1 : (0 : Int) ≤ (k : Int) := by omega
        have g2 : (k : Int) < (n1 : Int) := by omega
        unfold sesV at *
        simp only at HLD1 HLD2 HS1 HS2 HLX1 HLX2
        clear hm1 hm2 ht1 hok1 hs1 hx1 hb1 hz1 hb1' ht2 hok2 hs2 hx2 hb2 hz2
        go_wp2_with (first | refine list_load rfl _ rfl rfl HLD1.out ?_ | refine list_load rfl _ rfl rfl HLD2.out ?_ | refine list_store0 rfl rfl _ _ rfl rfl rfl HS1.out ?_ | refine list_store0 rfl rfl _ _ rfl rfl rfl HS2.out ?_ | refine list_load rfl _ rfl rfl HLX1.out ?_ | refine list_load rfl _ rfl rfl HLX2.out ?_)
        refine HSM.out.mono ?_
        rintro e w3 ⟨rfl, hb⟩
        have HB3 := Lib.hid (HB2.out.trans (hb.mono HB2.out.size))
        clear hb
        cases QQ with
        | true =>
          go_wp2_with fail
          go_roundw
          case rel => exact ⟨k + 1, by omega, by go_num, HB3.out, Lib.hid (list_take_eq HT.out HX1.out HX2.out (HQ.out.1 (by first | trivial | rfl)))⟩
          case measure => simp [intOf]; omega
        | false =>
          have HZ : Hid (EE = false) := Lib.hid (by
            cases EE with
            | false => rfl
            | true =>
              have h2 := HE.out.1 rfl
              have h3 := HX1.out
              rw [h2, HX2.out] at h3
              have := HQ.out.2 (Option.some.inj h3).symm
              cases this)
          go_wp2_with fail
          go_ret
          exact ⟨by rw [HZ.out]; try rfl, HB3.out⟩
      · have HZ : Hid (EE = true) := Lib.hid (HE.out.2 (by
          have := HT.out
          rwa [List.take_of_length_le (by have := HXL.out; omega), List.take_of_length_le (by have := HYL.out; omega)] at this))
        go_wp2_with fail
        go_ret
        exact ⟨by rw [HZ.out]; try rfl, HBB.out⟩
  · have hd : ((n1 : Int) != (n2 : Int)) = true := by simp; omega
    have hd2 : (n1 != n2) = true := by simp; omega
    have HZ : Hid (EE = false) := Lib.hid (by
      cases EE with
      | false => rfl
      | true =>
        have h2 := HE.out.1 rfl
        have h3 := HXL.out
        rw [h2, HYL.out] at h3
        exact absurd h3.symm hnm)
    clear hnm
    go_wp2_with fail
    go_ret
    exact ⟨by rw [HZ.out]; try rfl, Below.refl _ _⟩
set_option maxRecDepth 100000 in
set_option maxHeartbeats 1000000 in
theorem same_any (A1 A2 : Option Addr) (n1 n2 c1 c2 : Nat) (ms1 ms2 : List SesM) (w : World) (h1 : SR w A1 n1 c1 ms1) (h2 : SR w A2 n2 c2 ms2) :
    Calls Try.prog 11 #[.agg #[.slice A1 n1 c1], .agg #[.slice A2 n2 c2]] w fun e w' => e = .returned (.bool (decide (ms1.map (·.1) = ms2.map (·.1)))) ∧ Below w.heap.size w w' := by
  have hb0 : Below w.heap.size w ((w.alloc (.cells #[.slice A1 n1 c1] 24)).alloc (.cells #[.slice A2 n2 c2] 24)) := (new_below w _).alloc (by simp) _
  have HB := Lib.hid hb0
  have HE := Lib.hid (equalf_any A1 A2 n1 n2 c1 c2 ms1 ms2 _ (h1.on hb0) (h2.on hb0))
  generalize decide (ms1.map (·.1) = ms2.map (·.1)) = EE at *
  clear h1 h2 hb0
  go_enter Try.func11, Try.ntmps11
  go_wp2_with fail
  refine HE.out.mono ?_
  rintro e w1 ⟨rfl, hb⟩
  have HB1 := Lib.hid (HB.out.trans (hb.mono HB.out.size))
  clear hb
  go_wp2_with fail
  go_ret
  exact ⟨rfl, HB1.out⟩
end Go.Proofs.Ytgnfoncokjglbaa
