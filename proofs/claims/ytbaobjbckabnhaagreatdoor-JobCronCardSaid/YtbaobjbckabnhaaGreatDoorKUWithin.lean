/- From one time to the next one; Times and Idle: walked, of the program. -/
import Derived.Test.YtbaobjbckabnhaaGreatDoorK8
import Derived.Test.YtbaobjbckabnhaaGreatDoorKUFirst
import Derived.WalkMore
namespace Go.Proofs.YtbaobjbckabnhaaGreatDoor
open Go.RowKit

theorem PlanIs.on {T : Int → Prop} {w w' : World} {v : Value} (h : PlanIs T w v) (hb : Below w.heap.size w w') : PlanIs T w' v := by
  obtain ⟨f, g, l, l', e, hf, hg⟩ := h
  exact ⟨f, g, l, l', e, hf.on hb, hg.on hb⟩
theorem plan_span (w : World) (u v : Value) (s0 s1 : Int) : ∃ W : World, W = (w.alloc (.cells #[u, v] 68)).alloc (.cells #[.int .i64 s0, .int .i64 s1] 40) ∧ Below w.heap.size w W ∧ D.Box W w.heap.size 68 #[u, v] ∧ D.Box W (w.heap.size + 1) 40 #[.int .i64 s0, .int .i64 s1] ∧ W.heap.size = w.heap.size + 2 := by
  refine ⟨_, rfl, ((Below.refl _ w).alloc (Nat.le_refl _) _).alloc (by simp) _, (D.Box.new _ _ _).alloc _, ?_, by simp⟩
  have := D.Box.new (w.alloc (.cells #[u, v] 68)) 40 #[.int .i64 s0, .int .i64 s1]
  rwa [World.size_alloc] at this
set_option maxRecDepth 100000 in
set_option maxHeartbeats 1000000 in
theorem within_any (T : Int → Prop) (u v : Value) (s0 s1 : Int) (mm : Nat) (w : World) (hm : mm ≤ 64) (hp : PlanIs T w (.agg #[u, v])) :
    Calls Tryz.prog 35 #[.agg #[u, v], spanV s0 s1, .int .i64 (mm : Int)] w fun x w' => ∃ (y : Value) (l : List Int), x = .returned y ∧ w'.ownsRow w.heap.size 2 1 y l.length (l.map int1) ∧ Chain T s0 s1 mm l ∧ Below w.heap.size w w' := by
  obtain ⟨f, g, lb, lb', e0, hf, hg⟩ := hp
  have e0 := congrArg (fun v : Value => v.cells.toList) e0
  simp only [Value.cells, List.cons.injEq, and_true] at e0
  obtain ⟨rfl, rfl⟩ := e0
  obtain ⟨WB, hWB, hb0, hx0, hy0, hs0⟩ := plan_span w (.func (.func f) #[] lb) (.func (.func g) #[] lb') s0 s1
  have HB := Lib.hid hb0; have HX := Lib.hid hx0; have HY := Lib.hid hy0
  have hE := hf.1
  have HF := Lib.hid ((hf.on hb0).2)
  obtain ⟨x0, x1, _⟩ := box_two hx0
  obtain ⟨e0, e1⟩ := two_box hy0
  unfold spanV
  clear hf hg hb0 hx0 hy0
  go_enter Tryz.func35, Tryz.ntmps35
  go_wp2_with fail
  go_step3
  go_wp2_with fail
  go_step3
  go_wp2_with fail
  rw [← hWB]
  clear hWB x0 x1 e0 e1
  obtain ⟨i0, hi, hz0, hz1, hz2⟩ := info_parts info_i64
  go_loopw [7, 8, 14] (fun v at_ i wr => ∃ (k : Nat) (l : List Int) (u : Int), k ≤ mm ∧ i = .int .i64 (k : Int) ∧ at_ = .int .i64 u ∧ l.length = k ∧ wr.ownsRow WB.heap.size 2 1 v l.length (l.map int1) ∧ Hid (∀ r, Chain T u s1 (mm - k) r → Chain T s0 s1 mm (l ++ r)) ∧ Below WB.heap.size WB wr) (fun _ _ i _ => mm - (intOf i).toNat)
  case atStart => exact ⟨0, [], s0, Nat.zero_le _, rfl, rfl, rfl, World.ownsRow_nil _ _ _ _, Lib.hid (fun r h => h), Below.refl _ _⟩
  case round =>
    obtain ⟨k, l, u, hk, rfl, rfl, hlen, hrow, HCH, hb⟩ := hrel
    have HROW := Lib.hid hrow; have HBR := Lib.hid hb
    by_cases hlt : k < mm
    · obtain ⟨x0, x1, _⟩ := box_two (D.Box.belowAll HX.out hb)
      have HN := Lib.hid (HF.out u wr hb)
      clear hrow hb
      go_wp2_with fail
      refine HN.out.mono ?_
      rintro x w2 ⟨⟨t, ok, rfl, ht⟩, hb⟩
      have HB2 := Lib.hid (HBR.out.trans (hb.mono HBR.out.size))
      have HROW2 := Lib.hid (own_below HROW.out hb)
      clear hb HROW HBR HN x0 x1
      obtain ⟨e0, e1⟩ := two_box (D.Box.belowAll HY.out HB2.out)
      obtain ⟨j, hj⟩ : ∃ j, mm - k = j + 1 := ⟨mm - k - 1, by omega⟩
      cases ok with
      | false =>
        have HFI := Lib.hid (HCH.out [] (by rw [hj]; exact chainT_stop ht))
        clear ht HCH
        go_wp2_with fail
        rw [Exit.noGoto_ret]
        go_ret
        exact ⟨_, l, rfl, own_low HROW2.out (by omega), by simpa using HFI.out, HB.out.trans (HB2.out.mono HB.out.size)⟩
      | true =>
        by_cases hts : s1 < t
        · have hd : decide (s1 < t) = true := decide_eq_true hts
          have HFI := Lib.hid (HCH.out [] (by rw [hj]; exact chainT_past ht hts))
          clear ht HCH
          go_wp2_with fail
          rw [Exit.noGoto_ret]
          go_ret
          exact ⟨_, l, rfl, own_low HROW2.out (by omega), by simpa using HFI.out, HB.out.trans (HB2.out.mono HB.out.size)⟩
        · have hd : decide (s1 < t) = false := decide_eq_false hts
          have HFI : Hid (∀ r, Chain T t s1 (mm - (k + 1)) r → Chain T s0 s1 mm ((l ++ [t]) ++ r)) := Lib.hid (fun r hr => by
            rw [List.append_assoc]
            refine HCH.out _ ?_
            rw [hj]
            exact chainT_next ht (by omega) (by rw [show mm - (k + 1) = j by omega] at hr; exact hr))
          clear ht HCH
          have hrow := HROW2.out
          have hle := HB2.out.size
          have hll : l.length ≤ 64 := by omega
          go_wp2_with (at_builtin; refine wpList_append_own _ rfl _ _ 43 rfl WB.heap.size 2 i0 (.int .i64 0) 1 8 Tryz.underlying43 hi hz0 hz1 hz2 rfl (by decide) _ _ _ rfl (hrow.alloc _) ⟨w2.heap.size, 0, none⟩ 1 1 [.int .i64 t] rfl rfl (cell_one_new _ _ _) (by simp [Value.oneCell']) (by unfold maxLen; omega) (by omega) (by simp; omega) ?_; intro v' w5 hown5 hgrow5 _)
          go_roundw
          case rel =>
            exact ⟨k + 1, l ++ [t], t, by omega, by go_num, rfl, by simp; omega, by simpa [int1] using hown5, HFI, (HB2.out.alloc hle (.cells #[.int .i64 t] 2)).grown hgrow5 (by simp; omega) (fun j e => (hrow.lt j e).1)⟩
          case measure => simp [intOf]; omega
    · have hkm : k = mm := by omega
      have HFI : Hid (Chain T s0 s1 mm l) := Lib.hid (by
        have := HCH.out [] (by rw [hkm, Nat.sub_self]; exact chainT_zero _ _ _)
        simpa using this)
      clear HCH hrow hb
      go_wp2_with fail
      rw [Exit.noGoto_ret]
      go_ret
      exact ⟨_, l, rfl, own_low HROW.out (by omega), by simpa using HFI.out, HB.out.trans (HBR.out.mono HB.out.size)⟩
/-- What Times comes to. -/
def TimesIs (ev : List (BitVec 64) → Bool) (j : JobZ) (s0 s1 most : Int) (B : Nat) (x : Ending) (w' : World) : Prop :=
  (j.err ev ≠ 0 ∧ x = .returned (.tuple #[.slice none 0 0, .int .i64 (j.err ev)])) ∨
  (j.err ev = 0 ∧ (most < 0 ∨ 64 < most) ∧ x = .returned (.tuple #[.slice none 0 0, .int .i64 2])) ∨
  (j.err ev = 0 ∧ 0 ≤ most ∧ most ≤ 64 ∧ ∃ (y : Value) (l : List Int), x = .returned (.tuple #[y, .int .i64 0]) ∧ w'.ownsRow B 2 1 y l.length (l.map int1) ∧ Chain j.T s0 s1 most.toNat l)
theorem lim_new {W : World} {ty : TypeId} {g : Nat} (n lo hi : Int) (hg : g = W.heap.size) : LimsAt (W.alloc (.cells #[.int .i64 n, .int .i64 lo, .int .i64 hi] ty)) (some ⟨g, 0, none⟩) [(n, lo, hi)] := by
  subst hg
  have hb := D.Box.new W ty #[.int .i64 n, .int .i64 lo, .int .i64 hi]
  intro k x hx
  have hk := (List.getElem?_eq_some_iff.1 hx).1
  have hk0 : k = 0 := by simpa using hk
  subst hk0
  cases hx
  exact ⟨_, rfl, D.Box.lt hb, D.Box.cell hb 0, D.Box.cell hb 1, D.Box.cell hb 2⟩
theorem job_span (w : World) (n : Int) (o : Bool) (a b c d e : BitVec 64) (t ov ca re s0 s1 : Int) : ∃ W : World, W = (w.alloc (.cells #[.int .u32 n, .bool o, .int .u64 (U a), .int .u64 (U b), .int .u64 (U c), .int .u64 (U d), .int .u64 (U e), .int .i64 t, .int .i64 ov, .int .i64 ca, .int .i64 re] 33)).alloc (.cells #[.int .i64 s0, .int .i64 s1] 40) ∧ Below w.heap.size w W ∧ JobAt W w.heap.size ⟨n, o, [a, b, c, d, e], t, ov, ca, re⟩ ∧ D.Box W (w.heap.size + 1) 40 #[.int .i64 s0, .int .i64 s1] ∧ W.heap.size = w.heap.size + 2 := by
  refine ⟨_, rfl, ((Below.refl _ w).alloc (Nat.le_refl _) _).alloc (by simp) _, (JobAt.new w n o a b c d e t ov ca re).alloc _, ?_, by simp⟩
  have := D.Box.new (w.alloc (.cells #[.int .u32 n, .bool o, .int .u64 (U a), .int .u64 (U b), .int .u64 (U c), .int .u64 (U d), .int .u64 (U e), .int .i64 t, .int .i64 ov, .int .i64 ca, .int .i64 re] 33)) 40 #[.int .i64 s0, .int .i64 s1]
  rwa [World.size_alloc] at this
set_option maxRecDepth 100000 in
set_option maxHeartbeats 1000000 in
theorem jtimes_any (ev : List (BitVec 64) → Bool) (hev : EvIs ev) (j : JobZ) (s0 s1 most : Int) (w : World) (hL : LaidC w) (hj : j.Fit) :
    Calls Tryz.prog 15 #[jobV j, spanV s0 s1, .int .i64 most] w fun x w' => TimesIs ev j s0 s1 most w.heap.size x w' ∧ Below w.heap.size w w' := by
  have HPL := Lib.hid (fun W hW => planOf_any ev hev j W hW hj)
  have hT1 : Hid (j.err ev ≠ 0 → ∀ x w', x = .returned (.tuple #[.slice none 0 0, .int .i64 (j.err ev)]) → TimesIs ev j s0 s1 most w.heap.size x w') := Lib.hid (fun h x w' hx => .inl ⟨h, hx⟩)
  have hT2 : Hid (j.err ev = 0 → (most < 0 ∨ 64 < most) → ∀ x w', x = .returned (.tuple #[.slice none 0 0, .int .i64 2]) → TimesIs ev j s0 s1 most w.heap.size x w') := Lib.hid (fun h hm x w' hx => .inr (.inl ⟨h, hm, hx⟩))
  have hT3 : Hid (j.err ev = 0 → 0 ≤ most → most ≤ 64 → ∀ x w' (y : Value) (l : List Int), x = .returned (.tuple #[y, .int .i64 0]) → w'.ownsRow w.heap.size 2 1 y l.length (l.map int1) → Chain j.T s0 s1 most.toNat l → TimesIs ev j s0 s1 most w.heap.size x w') := Lib.hid (fun h m0 m1 x w' y l hx hr hc => .inr (.inr ⟨h, m0, m1, y, l, hx, hr, hc⟩))
  clear hev
  generalize TimesIs ev j s0 s1 most w.heap.size = TI at *
  generalize j.err ev = z at *
  generalize j.T = TJ at *
  obtain ⟨n, o, L, t, ov, ca, re⟩ := j
  obtain ⟨n0, n1, hl5⟩ := hj
  simp only at hl5
  obtain ⟨a, b, c, d, e, rfl⟩ := list_five hl5
  obtain ⟨W0, hW0, hb0, hj0, hx0, hs0⟩ := job_span w n o a b c d e t ov ca re s0 s1
  have HB0 := Lib.hid hb0; have HL := Lib.hid (hL.on hb0); have HX0 := Lib.hid hx0
  rw [jobV_five] at *
  unfold spanV
  obtain ⟨c0, c1, c2, c3, c4, c5, c6, c7, c8, c9, c10⟩ := hj0.cells
  clear hL hb0 hj0 hl5 n0 n1 hx0
  go_enter Tryz.func15, Tryz.ntmps15
  go_wp2_with fail
  rw [← hW0]
  clear hW0
  refine (HPL.out _ HL.out).mono ?_
  rintro x w2 ⟨u, v, rfl, ⟨hp, hno⟩, hb⟩
  have HB2 := Lib.hid (HB0.out.trans (hb.mono HB0.out.size)); have HP := Lib.hid hp; have HX2 := Lib.hid (D.Box.belowAll HX0.out hb)
  clear hb hp HPL HL HB0 HX0 c0 c1 c2 c3 c4 c5 c6 c7 c8 c9 c10
  by_cases hz : z = 0
  · subst hz
    have HPI := Lib.hid (HP.out rfl)
    obtain ⟨f, g, lb, lb', e0, _⟩ := HP.out rfl
    have e0 := congrArg (fun v : Value => v.cells.toList) e0
    simp only [Value.cells, List.cons.injEq, and_true] at e0
    obtain ⟨rfl, rfl⟩ := e0
    clear HP hno hT1
    obtain ⟨W3, hW3, hb3, hx3, hs3⟩ : ∃ W : World, W = w2.alloc (.cells #[.func (.func f) #[] lb, .func (.func g) #[] lb'] 68) ∧ Below w2.heap.size w2 W ∧ D.Box W w2.heap.size 68 #[.func (.func f) #[] lb, .func (.func g) #[] lb'] ∧ W.heap.size = w2.heap.size + 1 := ⟨_, rfl, (Below.refl _ w2).alloc (Nat.le_refl _) _, D.Box.new _ _ _, by simp⟩
    have HB3 := Lib.hid (HB2.out.trans (hb3.mono HB2.out.size)); have HP3 := Lib.hid hx3; have HX3 := Lib.hid (D.Box.belowAll HX2.out hb3)
    have HPL3 : Hid (PlanIs TJ W3 (.agg #[.func (.func f) #[] lb, .func (.func g) #[] lb'])) := Lib.hid (HPI.out.on hb3)
    obtain ⟨W4, hW4, hb4⟩ : ∃ W : World, W = W3.alloc (.cells #[.int .i64 most, .int .i64 0, .int .i64 64] 72) ∧ Below W3.heap.size W3 W := ⟨_, rfl, (Below.refl _ W3).alloc (Nat.le_refl _) _⟩
    have HLM : Hid (LimsAt W4 (some ⟨w2.heap.size + 1, 0, none⟩) [(most, 0, 64)]) := Lib.hid (by rw [hW4]; exact lim_new most 0 64 hs3.symm)
    have HB4 := Lib.hid (HB3.out.trans (hb4.mono HB3.out.size)); have HP4 := Lib.hid (D.Box.belowAll HP3.out hb4); have HX4 := Lib.hid (D.Box.belowAll HX3.out hb4)
    have HPL4 : Hid (PlanIs TJ W4 (.agg #[.func (.func f) #[] lb, .func (.func g) #[] lb'])) := Lib.hid (HPL3.out.on hb4)
    clear hb3 hx3 hb4 HB2 HX2 HB3 HX3 HP3 HPL3
    have HH := Lib.hid (hold_any (some ⟨w2.heap.size + 1, 0, none⟩) 1 [(most, 0, 64)] 1 W4 rfl (by omega) HLM.out)
    by_cases hm : 0 ≤ most ∧ most ≤ 64
    · have hh : holdB [(most, 0, 64)] = true := by unfold holdB; simp [hm]
      rw [hh] at HH
      obtain ⟨m0, m1⟩ := hm
      have HT := Lib.hid (fun x w' y l => hT3.out rfl m0 m1 x w' y l)
      obtain ⟨mm, rfl⟩ : ∃ mm : Nat, most = (mm : Int) := ⟨most.toNat, by omega⟩
      have hmm : mm ≤ 64 := by omega
      clear hT2 hT3 hh m0 m1
      go_wp2_with fail
      rw [← hW3, ← hW4]
      clear hW3 hW4
      refine HH.out.mono ?_
      rintro x w5 ⟨rfl, hb⟩
      have HB5 := Lib.hid (HB4.out.trans (hb.mono HB4.out.size)); have HP5 := Lib.hid (D.Box.belowAll HP4.out hb); have HX5 := Lib.hid (D.Box.belowAll HX4.out hb)
      have HW := Lib.hid (within_any TJ (.func (.func f) #[] lb) (.func (.func g) #[] lb') s0 s1 mm w5 hmm (HPL4.out.on hb))
      unfold spanV at HW
      clear hb HB4 HP4 HX4 HPL4 HLM HH HPI
      obtain ⟨p0, p1, _⟩ := box_two HP5.out
      obtain ⟨e0, e1⟩ := two_box HX5.out
      go_wp2_with fail
      refine HW.out.mono ?_
      rintro x w6 ⟨y, l, rfl, hrow, hch, hb⟩
      have HR := Lib.hid (own_low hrow HB5.out.size); have HC := Lib.hid hch; have HB6 := Lib.hid (HB5.out.trans (hb.mono HB5.out.size))
      clear hrow hch hb HW p0 p1 e0 e1
      go_wp2_with fail
      exact bodyPost_ret (v := .tuple #[y, .int .i64 0]) (by simp [results, Tryz.results15, go_sem]) rfl ⟨HT.out _ _ _ _ rfl HR.out (by rw [Int.toNat_natCast]; exact HC.out), HB6.out⟩
    · have hh : holdB [(most, 0, 64)] = false := by
        unfold holdB
        simp only [List.all_cons, List.all_nil, Bool.and_true, decide_eq_false_iff_not]
        exact hm
      rw [hh] at HH
      have HT := Lib.hid (fun x w' => hT2.out rfl (by omega) x w')
      clear hT2 hT3 hh hm
      go_wp2_with fail
      rw [← hW3, ← hW4]
      clear hW3 hW4
      refine HH.out.mono ?_
      rintro x w5 ⟨rfl, hb⟩
      have HB5 := Lib.hid (HB4.out.trans (hb.mono HB4.out.size))
      clear hb
      go_wp2_with fail
      exact bodyPost_ret (v := .tuple #[.slice none 0 0, .int .i64 2]) (by simp [results, Tryz.results15, go_sem]) rfl ⟨HT.out _ _ rfl, HB5.out⟩
  · have hz1 : (z != 0) = true := by simpa using hz
    obtain ⟨rfl, rfl⟩ := hno hz
    have HF := Lib.hid (hT1.out hz)
    clear hT1 hT2 hT3
    go_wp2_with fail
    exact bodyPost_ret (v := .tuple #[.slice none 0 0, .int .i64 z]) (by simp [results, Tryz.results15, go_sem]) rfl ⟨HF.out _ _ rfl, HB2.out.alloc HB2.out.size _⟩
/-- What Idle comes to. -/
def IdleIs (ev : List (BitVec 64) → Bool) (j : JobZ) (s0 s1 : Int) (z : Bool) : Prop := (j.err ev ≠ 0 ∧ z = false) ∨ (j.err ev = 0 ∧ ∃ l, Chain j.T s0 s1 1 l ∧ z = decide (l.length = 0))
set_option maxRecDepth 100000 in
set_option maxHeartbeats 1000000 in
theorem jidle_any (ev : List (BitVec 64) → Bool) (hev : EvIs ev) (j : JobZ) (s0 s1 : Int) (w : World) (hL : LaidC w) (hj : j.Fit) :
    Calls Tryz.prog 20 #[jobV j, spanV s0 s1] w fun x w' => ∃ z : Bool, x = .returned (.bool z) ∧ IdleIs ev j s0 s1 z ∧ Below w.heap.size w w' := by
  have HT := Lib.hid (fun W hW => jtimes_any ev hev j s0 s1 1 W hW hj)
  have h1 : Hid (j.err ev ≠ 0 → IdleIs ev j s0 s1 false) := Lib.hid (fun h => .inl ⟨h, rfl⟩)
  have h2 : Hid (j.err ev = 0 → ∀ l, Chain j.T s0 s1 1 l → IdleIs ev j s0 s1 (decide (l.length = 0))) := Lib.hid (fun h l hl => .inr ⟨h, l, hl, rfl⟩)
  clear hev
  unfold TimesIs at HT
  generalize IdleIs ev j s0 s1 = II at *
  generalize j.err ev = z at *
  generalize j.T = TJ at *
  obtain ⟨n, o, L, t, ov, ca, re⟩ := j
  obtain ⟨n0, n1, hl5⟩ := hj
  simp only at hl5
  obtain ⟨a, b, c, d, e, rfl⟩ := list_five hl5
  obtain ⟨W0, hW0, hb0, hj0, hx0, hs0⟩ := job_span w n o a b c d e t ov ca re s0 s1
  have HB0 := Lib.hid hb0; have HL := Lib.hid (hL.on hb0)
  rw [jobV_five] at *
  unfold spanV at *
  obtain ⟨c0, c1, c2, c3, c4, c5, c6, c7, c8, c9, c10⟩ := hj0.cells
  obtain ⟨e0, e1⟩ := two_box hx0
  clear hL hb0 hj0 hl5 n0 n1 hx0
  go_enter Tryz.func20, Tryz.ntmps20
  go_wp2_with fail
  rw [← hW0]
  clear hW0
  refine (HT.out _ HL.out).mono ?_
  rintro x w2 ⟨hx, hb⟩
  have HB2 := Lib.hid (HB0.out.trans (hb.mono HB0.out.size))
  clear hb HL HB0 c0 c1 c2 c3 c4 c5 c6 c7 c8 c9 c10 e0 e1
  rcases hx with ⟨hz, rfl⟩ | ⟨hz, hm, rfl⟩ | ⟨hz, _, _, y, l, rfl, hrow, hch⟩
  · have hz1 : (z == 0) = false := by simpa using hz
    have HF := Lib.hid (h1.out hz)
    go_wp2_with fail
    go_ret
    exact ⟨false, rfl, HF.out, HB2.out⟩
  · omega
  · subst hz
    have HF := Lib.hid (h2.out rfl l hch)
    obtain ⟨A, cp, rfl⟩ := own_slice0 hrow
    clear hrow hch h1 h2
    go_wp2_with fail
    go_ret
    have e : ((l.length : Int) == 0) = decide (l.length = 0) := by rw [Bool.eq_iff_iff]; simp
    exact ⟨_, rfl, by rw [e]; exact HF.out, HB2.out⟩
end Go.Proofs.YtbaobjbckabnhaaGreatDoor
