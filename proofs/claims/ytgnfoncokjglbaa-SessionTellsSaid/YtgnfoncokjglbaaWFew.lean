/- What can be gone through, in memory of its own: Clone, reply, anew: walked. -/
import Derived.Test.YtgnfoncokjglbaaWVar
import Derived.Deep.DeepCutAuto
namespace Go.Proofs.Ytgnfoncokjglbaa
open Go.RowKit

theorem made_own (w : World) (base : Nat) (hb : base ≤ w.heap.size) : OwnN (w.alloc (.cells #[] 64)) base (.slice (some ⟨w.heap.size, 0, none⟩) 0 0) [] :=
  ⟨rfl, .inr ⟨w.heap.size, 0, #[], rfl, hb, heap_alloc_new w _, Nat.le_refl _, by decide, rfl, rfl⟩⟩
set_option maxHeartbeats 1000000 in
theorem clone_any (A : Option Addr) (n c : Nat) (q : List Int) (w : World) (h : NumR w .u32 A n c q) (hn : n ≤ 100000) :
    Calls Try.prog 30 #[.slice A n c] w fun e w' => ∃ v, e = .returned v ∧ OwnN w' w.heap.size v q ∧ Below w.heap.size w w' := by
  cases A with
  | none =>
    obtain rfl : c = 0 := h.non rfl
    obtain rfl : n = 0 := by have := h.cap; omega
    have : q = [] := List.length_eq_zero_iff.1 h.len
    subst this
    have heq := fun (W : World) => Lib.run_eql_slice_nil (P := Try.prog) W 33 64 none 0 0 0 0 Try.underlying33
    clear h hn
    go_enter Try.func30, Try.ntmps30
    go_wp2
    go_ret
    exact ⟨_, rfl, OwnK.nil _ _ _ _, Below.refl _ _⟩
  | some ad =>
    have heq := fun (W : World) => Lib.run_eql_slice_nil (P := Try.prog) W 33 64 (some ad) n c 0 0 Try.underlying33
    have hb0 := new_below w (.cells #[] 64)
    have H1 := Lib.hid (h.on hb0)
    have HO := Lib.hid (made_own w w.heap.size (Nat.le_refl _))
    have HB := Lib.hid hb0
    have HL := Lib.hid h.len
    have HN := Lib.hid hn
    clear h hb0 hn
    go_enter Try.func30, Try.ntmps30
    go_wp2_with (at_builtin; refine list_nums rfl _ _ rfl rfl rfl HO.out H1.out HB.out.size (by have := HL.out; have := HN.out; simp; omega) w HB.out ?_; intro v5 w5 ho5 hb5 _)
    go_ret
    exact ⟨_, rfl, by simpa using ho5, hb5⟩
set_option maxRecDepth 100000 in
set_option maxHeartbeats 2000000 in
theorem anew_any (x : SesZ) (v : Value) (w : World) (h : NR w v x.rep.names) (hn : x.rep.names.length ≤ 100000) :
    Calls Try.prog 34 #[sesV x v] w fun y w' => ∃ u, y = .returned (sesV x u) ∧ OwnN w' w.heap.size u x.rep.names ∧ Below w.heap.size w w' := by
  obtain ⟨A, c, rfl, h⟩ := h
  obtain ⟨xc, xq, xe, q⟩ := x
  unfold sesV
  simp only at h hn ⊢
  have hb0 : Below w.heap.size w ((w.alloc (.cells #[.int .i64 xc, .int .u64 xq, .int .i64 xe, .slice A q.length c] 42)).alloc (.cells #[.int .i64 0, .int .u64 0, .int .i64 0, .slice none 0 0] 42)) := (new_below w _).alloc (by simp) _
  have hx1 := (SBox.new w 42 #[.int .i64 xc, .int .u64 xq, .int .i64 xe, .slice A q.length c]).alloc (.cells #[.int .i64 0, .int .u64 0, .int .i64 0, .slice none 0 0] 42)
  have hx2 : SBox ((w.alloc (.cells #[.int .i64 xc, .int .u64 xq, .int .i64 xe, .slice A q.length c] 42)).alloc (.cells #[.int .i64 0, .int .u64 0, .int .i64 0, .slice none 0 0] 42)) (w.heap.size + 1) 42 #[.int .i64 0, .int .u64 0, .int .i64 0, .slice none 0 0] := by
    have := SBox.new (w.alloc (.cells #[.int .i64 xc, .int .u64 xq, .int .i64 xe, .slice A q.length c] 42)) 42 #[.int .i64 0, .int .u64 0, .int .i64 0, .slice none 0 0]
    rwa [World.size_alloc] at this
  have HT := Lib.hid (h.on hb0)
  have HLQ := Lib.hid hn
  generalize hqn : q.length = n at *
  have HQN := Lib.hid hqn
  clear h hn hqn
  obtain ⟨W0, hW0⟩ : ∃ W0 : World, W0 = (w.alloc (.cells #[.int .i64 xc, .int .u64 xq, .int .i64 xe, .slice A n c] 42)).alloc (.cells #[.int .i64 0, .int .u64 0, .int .i64 0, .slice none 0 0] 42) := ⟨_, rfl⟩
  have HSZ : Hid (W0.heap.size = w.heap.size + 2) := Lib.hid (by rw [hW0]; simp)
  rw [← hW0] at hb0 hx1 hx2 HT
  have HB := Lib.hid hb0; have HX1 := Lib.hid hx1; have HX2 := Lib.hid hx2
  obtain ⟨a0, a1, a2, a3⟩ := hx1.four
  clear hb0 hx1 hx2
  have HF : Hid (∀ w5, Below W0.heap.size W0 w5 → SBox w5 (w.heap.size + 1) 42 #[.int .i64 0, .int .u64 0, .int .i64 0, .slice none 0 0] ∧ SBox w5 w.heap.size 42 #[.int .i64 xc, .int .u64 xq, .int .i64 xe, .slice A n c]) := Lib.hid (fun w5 hb => ⟨HX2.out.on hb, HX1.out.on hb⟩)
  go_enter Try.func34, Try.ntmps34
  go_upto_region 1 with fail
  rw [← hW0]
  clear hW0
  go_wp2_with (at_builtin; refine list_nums (l := []) rfl _ _ rfl rfl rfl (OwnK.nil W0 .u32 64 W0.heap.size) HT.out (Nat.le_refl _) (by have := HQN.out; have := HLQ.out; simp; omega) W0 (Below.refl _ _) ?_; intro v5 w5 ho5 hb5 _; replace ho5 : OwnN w5 W0.heap.size v5 q := ho5; obtain ⟨A5, c5, rfl, _⟩ := ho5.nr; have HO := Lib.hid ho5; have HB5 := Lib.hid hb5; clear a0 a1 a2 a3; obtain ⟨hz, hy⟩ := HF.out w5 hb5; have hfy := hy.frozen 3; have hf0 := hz.frozen 0; have hf1 := hz.frozen 1; have hf2 := hz.frozen 2; have hf3 := hz.frozen 3; obtain ⟨a0, a1, a2, a3⟩ := hy.four; obtain ⟨z0, z1, z2, z3⟩ := hz.four; have HZ := Lib.hid hz; clear hy hz ho5 hb5)
  have hs0 := HSZ.out
  have hz' : SBox (((((w5.setCell ⟨w.heap.size, 3, none⟩ (.slice A5 q.length c5)).setCell ⟨w.heap.size + 1, 0, none⟩ (.int .i64 xc)).setCell ⟨w.heap.size + 1, 1, none⟩ (.int .u64 xq)).setCell ⟨w.heap.size + 1, 2, none⟩ (.int .i64 xe)).setCell ⟨w.heap.size + 1, 3, none⟩ (.slice A5 q.length c5)) (w.heap.size + 1) 42 #[.int .i64 xc, .int .u64 xq, .int .i64 xe, .slice A5 q.length c5] := ((((HZ.out.far (p := w.heap.size) (by omega) _).set 0 _).set 1 _).set 2 _).set 3 _
  obtain ⟨r0, r1, r2, r3⟩ := hz'.four
  exact bodyPost_ret (v := .agg #[.int .i64 xc, .int .u64 xq, .int .i64 xe, .slice A5 q.length c5]) (by simp [results, Try.results34, go_sem, r0, r1, r2, r3]) rfl ⟨_, rfl, owns_mono (ownsRow_setCell_below (ownsRow_setCell_below (ownsRow_setCell_below (ownsRow_setCell_below (ownsRow_setCell_below HO.out (by show w.heap.size < _; omega) _) (by show w.heap.size + 1 < _; omega) _) (by show w.heap.size + 1 < _; omega) _) (by show w.heap.size + 1 < _; omega) _) (by show w.heap.size + 1 < _; omega) _) (by omega), (((((HB.out.trans (HB5.out.mono (by omega))).setCell (by show w.heap.size ≤ w.heap.size; omega) _).setCell (by show w.heap.size ≤ w.heap.size + 1; omega) _).setCell (by show w.heap.size ≤ w.heap.size + 1; omega) _).setCell (by show w.heap.size ≤ w.heap.size + 1; omega) _).setCell (by show w.heap.size ≤ w.heap.size + 1; omega) _⟩
theorem min14 (n : Nat) : (min (n : Int) 14).toNat = min n 14 := by omega
set_option maxRecDepth 100000 in
set_option maxHeartbeats 2000000 in
theorem reply_any (e : Int) (v : Value) (q : List Int) (w : World) (h : NR w v q) :
    Calls Try.prog 13 #[.agg #[.int .i64 e, v]] w fun x w' => ∃ u, x = .returned (.agg #[.int .i64 e, u]) ∧ OwnN w' w.heap.size u (q.take 14) ∧ Below w.heap.size w w' := by
  obtain ⟨A, c, rfl, h⟩ := h
  have hb0 : Below w.heap.size w ((w.alloc (.cells #[.int .i64 e, .slice A q.length c] 35)).alloc (.cells #[.int .i64 0, .slice none 0 0] 35)) := (new_below w _).alloc (by simp) _
  have hx1 := (SBox.new w 35 #[.int .i64 e, .slice A q.length c]).alloc (.cells #[.int .i64 0, .slice none 0 0] 35)
  have hx2 : SBox ((w.alloc (.cells #[.int .i64 e, .slice A q.length c] 35)).alloc (.cells #[.int .i64 0, .slice none 0 0] 35)) (w.heap.size + 1) 35 #[.int .i64 0, .slice none 0 0] := by
    have := SBox.new (w.alloc (.cells #[.int .i64 e, .slice A q.length c] 35)) 35 #[.int .i64 0, .slice none 0 0]
    rwa [World.size_alloc] at this
  obtain ⟨m, hm⟩ : ∃ m : Nat, m = min q.length 14 := ⟨_, rfl⟩
  have hmq : m ≤ q.length := by omega
  have hm14 : m ≤ 14 := by omega
  have htk : (h.on hb0).take hmq = (h.on hb0).take hmq := rfl
  have HT := Lib.hid ((h.on hb0).take hmq)
  have hqt : q.take m = q.take 14 := by
    rcases Nat.le_total q.length 14 with h1 | h1
    · rw [hm, Nat.min_eq_left h1, List.take_of_length_le (Nat.le_refl _), List.take_of_length_le h1]
    · rw [hm, Nat.min_eq_right h1]
  rw [hqt] at HT
  have hcap := h.cap
  have htop := h.top
  unfold maxLen at htop
  have hmz : (min (q.length : Int) 14).toNat = m := by omega
  have hmi : min (q.length : Int) 14 = (m : Int) := by omega
  generalize q.length = n at *
  generalize q.take 14 = q' at *
  have HM14 := Lib.hid hm14
  have HMQ := Lib.hid hmq
  clear h htk hqt hm
  obtain ⟨W0, hW0⟩ : ∃ W0 : World, W0 = (w.alloc (.cells #[.int .i64 e, .slice A n c] 35)).alloc (.cells #[.int .i64 0, .slice none 0 0] 35) := ⟨_, rfl⟩
  rw [← hW0] at hb0 hx1 hx2 HT
  have HB := Lib.hid hb0; have HX1 := Lib.hid hx1; have HX2 := Lib.hid hx2
  obtain ⟨a0, a1⟩ := hx1.two
  have HCL := Lib.hid (clone_any A m c q' W0 HT.out (by omega))
  clear hb0 hx1 hx2 hm14 hmz hmq
  have i0 : (0 : Int) ≤ (m : Int) := by omega
  have i1 : (m : Int) ≤ (c : Int) := by have := HMQ.out; omega
  have FIN : ∀ w5 v5, OwnN w5 W0.heap.size v5 q' → Below W0.heap.size W0 w5 → SBox w5 (w.heap.size + 1) 35 #[.int .i64 0, .slice none 0 0] ∧ SBox w5 w.heap.size 35 #[.int .i64 e, .slice A n c] := fun w5 v5 ho hb => ⟨HX2.out.on hb, HX1.out.on hb⟩
  have HF := Lib.hid FIN
  clear FIN
  have HSZ : Hid (W0.heap.size = w.heap.size + 2) := Lib.hid (by rw [hW0]; simp)
  by_cases h14 : n ≤ 14
  · obtain rfl : m = n := by omega
    by_cases h13 : (m : Int) < 14
    · have h13' : ¬ (14 : Int) ≤ (m : Int) := by omega
      clear hmi htop
      go_enter Try.func13, Try.ntmps13
      go_wp2_with fail
      rw [← hW0]
      clear hW0
      refine HCL.out.mono ?_
      rintro x w5 ⟨v5, rfl, ho5, hb5⟩
      obtain ⟨hz, hy⟩ := HF.out w5 v5 ho5 hb5
      obtain ⟨A5, c5, rfl, _⟩ := ho5.nr
      have HO := Lib.hid ho5; have HB5 := Lib.hid hb5
      have hfy := hy.frozen 1
      have hfz0 := hz.frozen 0
      have hfz1 := hz.frozen 1
      obtain ⟨a0, a1⟩ := hy.two
      obtain ⟨z0, z1⟩ := hz.two
      have HY := Lib.hid hy; have HZ := Lib.hid hz
      clear hy hz ho5 hb5
      go_wp2_with fail
      have hs0 := HSZ.out
      have hz' : SBox (((w5.setCell ⟨w.heap.size, 1, none⟩ (.slice A5 q'.length c5)).setCell ⟨w.heap.size + 1, 0, none⟩ (.int .i64 e)).setCell ⟨w.heap.size + 1, 1, none⟩ (.slice A5 q'.length c5)) (w.heap.size + 1) 35 #[.int .i64 e, .slice A5 q'.length c5] := ((HZ.out.far (p := w.heap.size) (by omega) _).set 0 _).set 1 _
      obtain ⟨r0, r1⟩ := hz'.two
      exact bodyPost_ret (v := .agg #[.int .i64 e, .slice A5 q'.length c5]) (by simp [results, Try.results13, go_sem, r0, r1]) rfl ⟨_, rfl, owns_mono (ownsRow_setCell_below (ownsRow_setCell_below (ownsRow_setCell_below HO.out (by show w.heap.size < _; omega) _) (by show w.heap.size + 1 < _; omega) _) (by show w.heap.size + 1 < _; omega) _) (by omega), (((HB.out.trans (HB5.out.mono (by omega))).setCell (by show w.heap.size ≤ w.heap.size; omega) _).setCell (by show w.heap.size ≤ w.heap.size + 1; omega) _).setCell (by show w.heap.size ≤ w.heap.size + 1; omega) _⟩
    · obtain rfl : m = 14 := by omega
      clear hmi htop h13 h14
      have i0 : (0 : Int) ≤ 14 := by omega
      have i1 : (14 : Int) ≤ (c : Int) := by omega
      go_enter Try.func13, Try.ntmps13
      go_wp2_with fail
      rw [← hW0]
      clear hW0
      refine HCL.out.mono ?_
      rintro x w5 ⟨v5, rfl, ho5, hb5⟩
      obtain ⟨hz, hy⟩ := HF.out w5 v5 ho5 hb5
      obtain ⟨A5, c5, rfl, _⟩ := ho5.nr
      have HO := Lib.hid ho5; have HB5 := Lib.hid hb5
      have hfy := hy.frozen 1
      have hfz0 := hz.frozen 0
      have hfz1 := hz.frozen 1
      obtain ⟨a0, a1⟩ := hy.two
      obtain ⟨z0, z1⟩ := hz.two
      have HY := Lib.hid hy; have HZ := Lib.hid hz
      clear hy hz ho5 hb5
      go_wp2_with fail
      have hs0 := HSZ.out
      have hz' : SBox (((w5.setCell ⟨w.heap.size, 1, none⟩ (.slice A5 q'.length c5)).setCell ⟨w.heap.size + 1, 0, none⟩ (.int .i64 e)).setCell ⟨w.heap.size + 1, 1, none⟩ (.slice A5 q'.length c5)) (w.heap.size + 1) 35 #[.int .i64 e, .slice A5 q'.length c5] := ((HZ.out.far (p := w.heap.size) (by omega) _).set 0 _).set 1 _
      obtain ⟨r0, r1⟩ := hz'.two
      exact bodyPost_ret (v := .agg #[.int .i64 e, .slice A5 q'.length c5]) (by simp [results, Try.results13, go_sem, r0, r1]) rfl ⟨_, rfl, owns_mono (ownsRow_setCell_below (ownsRow_setCell_below (ownsRow_setCell_below HO.out (by show w.heap.size < _; omega) _) (by show w.heap.size + 1 < _; omega) _) (by show w.heap.size + 1 < _; omega) _) (by omega), (((HB.out.trans (HB5.out.mono (by omega))).setCell (by show w.heap.size ≤ w.heap.size; omega) _).setCell (by show w.heap.size ≤ w.heap.size + 1; omega) _).setCell (by show w.heap.size ≤ w.heap.size + 1; omega) _⟩
  · obtain rfl : m = 14 := by omega
    have h13 : ¬ (n : Int) < 14 := by omega
    have h12 : (14 : Int) ≤ (n : Int) := by omega
    have h11 : (14 : Int) < (n : Int) := by omega
    have h10 : ¬ (n : Int) ≤ 14 := by omega
    have i2 : (14 : Int) ≤ (c : Int) := by omega
    clear hmi htop i1 i0
    go_enter Try.func13, Try.ntmps13
    go_wp2_with fail
    rw [← hW0]
    clear hW0
    refine HCL.out.mono ?_
    rintro x w5 ⟨v5, rfl, ho5, hb5⟩
    obtain ⟨hz, hy⟩ := HF.out w5 v5 ho5 hb5
    obtain ⟨A5, c5, rfl, _⟩ := ho5.nr
    have HO := Lib.hid ho5; have HB5 := Lib.hid hb5
    have hfy := hy.frozen 1
    have hfz0 := hz.frozen 0
    have hfz1 := hz.frozen 1
    obtain ⟨a0, a1⟩ := hy.two
    obtain ⟨z0, z1⟩ := hz.two
    have HY := Lib.hid hy; have HZ := Lib.hid hz
    clear hy hz ho5 hb5
    go_wp2_with fail
    have hs0 := HSZ.out
    have hz' : SBox (((w5.setCell ⟨w.heap.size, 1, none⟩ (.slice A5 q'.length c5)).setCell ⟨w.heap.size + 1, 0, none⟩ (.int .i64 e)).setCell ⟨w.heap.size + 1, 1, none⟩ (.slice A5 q'.length c5)) (w.heap.size + 1) 35 #[.int .i64 e, .slice A5 q'.length c5] := ((HZ.out.far (p := w.heap.size) (by omega) _).set 0 _).set 1 _
    obtain ⟨r0, r1⟩ := hz'.two
    exact bodyPost_ret (v := .agg #[.int .i64 e, .slice A5 q'.length c5]) (by simp [results, Try.results13, go_sem, r0, r1]) rfl ⟨_, rfl, owns_mono (ownsRow_setCell_below (ownsRow_setCell_below (ownsRow_setCell_below HO.out (by show w.heap.size < _; omega) _) (by show w.heap.size + 1 < _; omega) _) (by show w.heap.size + 1 < _; omega) _) (by omega), (((HB.out.trans (HB5.out.mono (by omega))).setCell (by show w.heap.size ≤ w.heap.size; omega) _).setCell (by show w.heap.size ≤ w.heap.size + 1; omega) _).setCell (by show w.heap.size ≤ w.heap.size + 1; omega) _⟩
end Go.Proofs.Ytgnfoncokjglbaa
