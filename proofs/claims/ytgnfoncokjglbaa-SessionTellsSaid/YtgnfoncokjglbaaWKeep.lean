/- The sessions in which a client has asked that last: walked. -/
import Derived.Test.YtgnfoncokjglbaaWJudge
namespace Go.Proofs.Ytgnfoncokjglbaa
open Go.RowKit

/-- Sessions of one's own memory, and an error. -/
def KeepIs (w : World) (E : Int) (l : List SesZ) (e : Ending) (w' : World) : Prop := (∃ A c ms, e = .returned (.tuple #[.agg #[.slice A ms.length c], .int .i64 E]) ∧ OwnS w' w.heap.size (.slice A ms.length c) ms ∧ ms.map (·.1) = l) ∧ Below w.heap.size w w'
theorem keepIs_none {w w' : World} {E : Int} {l : List SesZ} (a : Int) (h1 : E = a) (h2 : l = []) (hb : Below w.heap.size w w') : KeepIs w E l (.returned (.tuple #[.agg #[.slice none 0 0], .int .i64 a])) w' := by
  subst h1 h2
  exact ⟨⟨none, 0, [], rfl, .nil _ _, rfl⟩, hb⟩
theorem keep_cases (l : List SesZ) (a q : Int) (r : RepZ) :
    (judgeE l a q ≠ 0 → keepE l a q r = judgeE l a q ∧ keepS l a q r = []) ∧
    (judgeE l a q = 0 → ¬ r.May → keepE l a q r = 2 ∧ keepS l a q r = []) ∧
    (judgeE l a q = 0 → r.May → judgeH l a q ≠ 1 → keepE l a q r = 221 ∧ keepS l a q r = []) ∧
    (judgeE l a q = 0 → r.May → judgeH l a q = 1 → keepE l a q r = 0 ∧ keepS l a q r = putS l ⟨a, q, r⟩) := by
  refine ⟨fun h => ?_, fun h h2 => ?_, fun h h2 h3 => ?_, fun h h2 h3 => ?_⟩
  · have : keepE l a q r = judgeE l a q := by unfold keepE; rw [if_pos h]
    exact ⟨this, by unfold keepS; rw [if_neg (by rw [this]; exact h)]⟩
  · have : keepE l a q r = 2 := by unfold keepE; rw [if_neg (fun hh => hh h), if_neg (fun hh => h2 (RepZ.ok_yes.1 hh))]
    exact ⟨this, by unfold keepS; rw [if_neg (by rw [this]; decide)]⟩
  · have : keepE l a q r = 221 := by unfold keepE; rw [if_neg (fun hh => hh h), if_pos (RepZ.ok_yes.2 h2), if_neg h3]
    exact ⟨this, by unfold keepS; rw [if_neg (by rw [this]; decide)]⟩
  · have : keepE l a q r = 0 := by unfold keepE; rw [if_neg (fun hh => hh h), if_pos (RepZ.ok_yes.2 h2), if_pos h3]
    exact ⟨this, by unfold keepS; rw [if_pos this]⟩
theorem judge_zero {l : List SesZ} {a q : Int} (h : judgeE l a q = 0) : MayS l ∧ Asked a q := by
  unfold judgeE at h
  split at h
  · rename_i h1
    split at h
    · rename_i h2
      exact ⟨okS_yes.1 h1, h2⟩
    · exact absurd h (by decide)
  · exact absurd h (by decide)
set_option maxRecDepth 100000 in
set_option maxHeartbeats 4000000 in
theorem keep_any (A : Option Addr) (n c : Nat) (a q e : Int) (v : Value) (xn : List Int) (ms : List SesM) (w : World) (h : SR w A n c ms) (ha : -9223372036854775808 ≤ a ∧ a ≤ 9223372036854775807) (hv : NR w v xn) (hf : RepZ.Fit ⟨e, xn⟩) :
    Calls Try.prog 23 #[.agg #[.slice A n c], .int .i64 a, .int .u64 q, .agg #[.int .i64 e, v]] w (KeepIs w (keepE (ms.map (·.1)) a q ⟨e, xn⟩) (keepS (ms.map (·.1)) a q ⟨e, xn⟩)) := by
  obtain ⟨V0, hV0⟩ : ∃ V0 : World, V0 = (w.alloc (.cells #[.slice A n c] 24)).alloc (.cells #[.int .i64 e, v] 35) := ⟨_, rfl⟩
  have hb0 : Below w.heap.size w (V0.alloc (.cells #[.slice none 0 0] 24)) := by rw [hV0]; exact ((new_below w _).alloc (by simp) _).alloc (by simp; omega) _
  have hx0 : SBox (V0.alloc (.cells #[.slice none 0 0] 24)) w.heap.size 24 #[.slice A n c] := by rw [hV0]; exact ((SBox.new w _ _).alloc _).alloc _
  have hx1 : SBox (V0.alloc (.cells #[.slice none 0 0] 24)) (w.heap.size + 1) 35 #[.int .i64 e, v] := by
    have := SBox.new (w.alloc (.cells #[.slice A n c] 24)) 35 #[.int .i64 e, v]
    rw [World.size_alloc, ← hV0] at this
    exact this.alloc _
  have hx2 : SBox (V0.alloc (.cells #[.slice none 0 0] 24)) (w.heap.size + 1 + 1) 24 #[.slice none 0 0] := by
    have := SBox.new V0 24 #[.slice none 0 0]
    rwa [show V0.heap.size = w.heap.size + 1 + 1 by rw [hV0]; simp] at this
  have hsz : (V0.alloc (.cells #[.slice none 0 0] 24)).heap.size = w.heap.size + 3 := by rw [hV0]; simp
  obtain ⟨W0, hW0⟩ : ∃ W0 : World, W0 = V0.alloc (.cells #[.slice none 0 0] 24) := ⟨_, rfl⟩
  rw [← hW0] at hb0 hx0 hx1 hx2 hsz
  rw [hV0] at hW0
  have HB0 := Lib.hid hb0; have HX0 := Lib.hid hx0; have HX1 := Lib.hid hx1; have HX2 := Lib.hid hx2; have HSZ := Lib.hid hsz
  have hc := hx0.one
  have HJ := Lib.hid (judge_any A n c a q ms W0 (h.on hb0) ha)
  have HCR := Lib.hid (fun W (hb : Below W0.heap.size W0 W) => checkr_any e v xn W ((hv.on hb0).on hb))
  obtain ⟨k1, k2, k3, k4⟩ := keep_cases (ms.map (·.1)) a q ⟨e, xn⟩
  have K1 := Lib.hid k1; have K2 := Lib.hid k2; have K3 := Lib.hid k3; have K4 := Lib.hid k4
  have HJZ : Hid (judgeE (ms.map (·.1)) a q = 0 → MayS (ms.map (·.1)) ∧ Asked a q) := Lib.hid judge_zero
  have HRN : Hid (¬ (RepZ.mk e xn).May → repE ⟨e, xn⟩ = 2) := Lib.hid repE_no
  have HRY : Hid ((RepZ.mk e xn).May → repE ⟨e, xn⟩ = 0) := Lib.hid repE_yes
  have HPUT : Hid (MayS (ms.map (·.1)) → Asked a q → (RepZ.mk e xn).May → ∀ W, Below W0.heap.size W0 W → Calls Try.prog 36 #[.agg #[.slice A n c], .agg #[.int .i64 a, .int .u64 q, .int .i64 e, v]] W (FewIs W (putS (ms.map (·.1)) ⟨a, q, ⟨e, xn⟩⟩))) := Lib.hid (fun hm hk hr W hb => by
    have hl := hm.len
    rw [List.length_map, h.len] at hl
    refine put_any A n c ms ⟨a, q, ⟨e, xn⟩⟩ v W ((h.on hb0).on hb) (by omega) (fun m hmm => ?_) ((hv.on hb0).on hb) ⟨ha, ?_, hf⟩ ?_ hk.1 hk.2.1
    · have := ((hm.1 m.1 (List.mem_map_of_mem hmm)).2).2.2.1
      omega
    · have h3 := hk.2.2.1; have h4 := hk.2.2.2
      unfold maxQ at h4
      show 0 ≤ q ∧ q ≤ 18446744073709551615
      omega
    · have := hr.2.2.1
      simp only at this ⊢
      omega)
  generalize keepE (ms.map (·.1)) a q ⟨e, xn⟩ = KE at *
  generalize keepS (ms.map (·.1)) a q ⟨e, xn⟩ = KS at *
  generalize judgeE (ms.map (·.1)) a q = JE at *
  generalize judgeH (ms.map (·.1)) a q = JH at *
  generalize putS (ms.map (·.1)) ⟨a, q, ⟨e, xn⟩⟩ = PS at *
  generalize repE ⟨e, xn⟩ = RE at *
  generalize MayS (ms.map (·.1)) = MAY at *
  generalize (RepZ.mk e xn).May = RM at *
  have HFIN : Hid (∀ w5 y, Below W0.heap.size W0 w5 → SBox (w5.setCell ⟨w.heap.size + 1 + 1, 0, none⟩ y) (w.heap.size + 1 + 1) 24 #[y] ∧ Below w.heap.size w (w5.setCell ⟨w.heap.size + 1 + 1, 0, none⟩ y)) := Lib.hid (fun w5 y hb => ⟨(HX2.out.on hb).set 0 _, (HB0.out.trans (hb.mono HB0.out.size)).setCell (by show w.heap.size ≤ w.heap.size + 1 + 1; omega) _⟩)
  clear hb0 hx0 hx1 hx2 hsz h ha hv hf k1 k2 k3 k4 hV0
  go_enter Try.func23, Try.ntmps23
  go_wp2_with fail
  rw [← hW0]
  clear hW0
  refine HJ.out.mono ?_
  rintro y w1 ⟨rfl, hb1⟩
  have HB1 := Lib.hid hb1
  have hx21 := HX2.out.on hb1
  have hf1 := hx21.frozen 0
  have hc1 := hx21.one
  obtain ⟨d0, d1⟩ := (HX1.out.on hb1).two
  have hc0 := (HX0.out.on hb1).one
  clear hb1 hc hx21
  by_cases hj : JE = 0
  · subst hj
    by_cases hr : RM
    · obtain rfl := HRY.out hr
      have HR := Lib.hid hr
      clear hr
      have HCR1 := Lib.hid (HCR.out _ HB1.out)
      unfold repV at HCR1
      simp only at HCR1
      go_wp2_with fail
      refine HCR1.out.mono ?_
      rintro y w2 ⟨rfl, hb2⟩
      have HB2 := Lib.hid (HB1.out.trans (hb2.mono HB1.out.size))
      have hx22 := HX2.out.on HB2.out
      clear hf1 hc1 d0 d1 hc0 hb2
      have hf1 := hx22.frozen 0
      have hc1 := hx22.one
      obtain ⟨d0, d1⟩ := (HX1.out.on HB2.out).two
      have hc0 := (HX0.out.on HB2.out).one
      clear hx22
      by_cases hh : JH = 1
      · subst hh
        obtain ⟨k1, k2⟩ := K4.out (by first | trivial | rfl) HR.out (by first | trivial | rfl)
        obtain ⟨j1, j2⟩ := HJZ.out (by first | trivial | rfl)
        have HK1 := Lib.hid k1; have HK2 := Lib.hid k2
        have HP2 := Lib.hid (HPUT.out j1 j2 HR.out w2 HB2.out)
        clear k1 k2 j1 j2
        go_wp2_with fail
        refine HP2.out.mono ?_
        rintro y w3 ⟨⟨A5, c5, ms5, rfl, ho, hl⟩, hb3⟩
        have HB3 := Lib.hid (HB2.out.trans (hb3.mono HB2.out.size))
        have HO := Lib.hid ho; have HL5 := Lib.hid hl
        have HZ2 := Lib.hid HB2.out.size
        clear hf1 hc1 d0 d1 hc0
        have hx23 := HX2.out.on HB3.out
        have hf1 := hx23.frozen 0
        have hc1 := hx23.one
        generalize hlen : ms5.length = len at *
        have HLEN := Lib.hid hlen
        clear hx23 hb3 ho hl hlen
        go_wp2_with fail
        obtain ⟨r, hb⟩ := HFIN.out w3 (.slice A5 len c5) HB3.out
        have r0 := r.one
        exact bodyPost_ret (v := .tuple #[.agg #[.slice A5 len c5], .int .i64 0]) (by simp [results, Try.results23, go_sem, r0]) rfl ⟨⟨A5, c5, ms5, by rw [HLEN.out, HK1.out], by rw [HLEN.out]; exact (HO.out.setLow (by have := HSZ.out; have := HZ2.out; omega) _).mono (by have := HSZ.out; have := HZ2.out; omega), by rw [HL5.out, HK2.out]⟩, hb⟩
      · have hd : (JH != 1) = true := by simp [hh]
        obtain ⟨k1, k2⟩ := K3.out (by first | trivial | rfl) HR.out hh
        have HK1 := Lib.hid k1; have HK2 := Lib.hid k2
        clear k1 k2 hh
        go_wp2_with fail
        obtain ⟨r, hb⟩ := HFIN.out w2 (.slice none 0 0) HB2.out
        have r0 := r.one
        exact bodyPost_ret (v := .tuple #[.agg #[.slice none 0 0], .int .i64 221]) (by simp [results, Try.results23, go_sem, r0]) rfl (keepIs_none 221 (by rw [HK1.out]) (by rw [HK2.out]) hb)
    · obtain rfl := HRN.out hr
      obtain ⟨k1, k2⟩ := K2.out (by first | trivial | rfl) hr
      have HK1 := Lib.hid k1; have HK2 := Lib.hid k2
      clear hr k1 k2
      have HCR1 := Lib.hid (HCR.out _ HB1.out)
      unfold repV at HCR1
      simp only at HCR1
      go_wp2_with fail
      refine HCR1.out.mono ?_
      rintro y w2 ⟨rfl, hb2⟩
      have HB2 := Lib.hid (HB1.out.trans (hb2.mono HB1.out.size))
      have hx22 := HX2.out.on HB2.out
      clear hf1 hc1 d0 d1 hc0 hb2
      have hf1 := hx22.frozen 0
      have hc1 := hx22.one
      clear hx22
      go_wp2_with fail
      obtain ⟨r, hb⟩ := HFIN.out w2 (.slice none 0 0) HB2.out
      have r0 := r.one
      exact bodyPost_ret (v := .tuple #[.agg #[.slice none 0 0], .int .i64 2]) (by simp [results, Try.results23, go_sem, r0]) rfl (keepIs_none 2 (by rw [HK1.out]) (by rw [HK2.out]) hb)
  · have hd : (JE != 0) = true := by simp [hj]
    obtain ⟨k1, k2⟩ := K1.out hj
    have HK1 := Lib.hid k1; have HK2 := Lib.hid k2
    clear k1 k2 hj
    go_wp2_with fail
    obtain ⟨r, hb⟩ := HFIN.out w1 (.slice none 0 0) HB1.out
    have r0 := r.one
    exact bodyPost_ret (v := .tuple #[.agg #[.slice none 0 0], .int .i64 JE]) (by simp [results, Try.results23, go_sem, r0]) rfl (keepIs_none JE (by rw [HK1.out]) (by rw [HK2.out]) hb)
end Go.Proofs.Ytgnfoncokjglbaa
