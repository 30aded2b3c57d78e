/- find: walked. -/
import Derived.Test.YtidgiohjgkfjcaaDoorQAll
import Derived.Test.YtidgiohjgkfjcaaDoorQIndex
namespace Go.Proofs.YtidgiohjgkfjcaaDoor
open Go.RowKit

attribute [local go_sem] Oper.semAt_some

/-- What find answers. -/
def FindIs (S : Nat → List (Int × Int)) (num : Int) (v : Value) : Prop :=
  (∃ (j i : Nat) (d : Int × Int), j < 320 ∧ (S j)[i]? = some d ∧ d.2 = num ∧ v = .tuple #[plV j, .int .i64 i, .bool true]) ∨
  ((∀ j, j < 320 → ∀ d ∈ S j, d.2 ≠ num) ∧ v = .tuple #[.agg #[.int .i64 0, .int .i64 0], .int .i64 0, .bool false])
theorem box_three {w : World} {g : Nat} {t : TypeId} {a : Value} (h : QBox w g t #[a]) : w.cell? ⟨g, 0, none⟩ = some a ∧ w.frozen? ⟨g, 0, none⟩ = false := ⟨h.cell 0, h.frozen 0⟩
/-- The boxes that find lays. -/
structure FindB (H p : Nat) (num : Int) (a b c d : Value) (W : World) : Prop where
  b0 : QBox W H 32 #[.int .u64 num]
  b1 : QBox W (H + 1) 80 #[a, b]
  b2 : QBox W (H + 1 + 1) 3 #[c]
  b3 : QBox W (H + 1 + 1 + 1) 4 #[d]
  b4 : QBox W (H + 1 + 1 + 1 + 1) 24 #[.pointer (some ⟨p, 0, none⟩)]
theorem FindB.turned {w w' : World} {H p : Nat} {num : Int} {a b c d : Value} (h : FindB H p num a b c d w) {row : Option Nat} (hg : w.grownBy w' row) (hr : ∀ r, row = some r → ∃ o : Obj, w.heap[r]? = some o ∧ o.isCells = false) : FindB H p num a b c d w' :=
  ⟨h.b0.turned hg hr, h.b1.turned hg hr, h.b2.turned hg hr, h.b3.turned hg hr, h.b4.turned hg hr⟩
theorem FindB.belowAll {w w' : World} {H p : Nat} {num : Int} {a b c d : Value} (h : FindB H p num a b c d w) (hb : Below w.heap.size w w') : FindB H p num a b c d w' :=
  ⟨h.b0.belowAll hb, h.b1.belowAll hb, h.b2.belowAll hb, h.b3.belowAll hb, h.b4.belowAll hb⟩
theorem FindB.new (w : World) (p : Nat) (num : Int) : FindB w.heap.size p num (.int .i64 0) (.int .i64 0) (.int .i64 0) (.bool false) (((((w.alloc (.cells #[.int .u64 num] 32)).alloc (.cells #[.int .i64 0, .int .i64 0] 80)).alloc (.cells #[.int .i64 0] 3)).alloc (.cells #[.bool false] 4)).alloc (.cells #[.pointer (some ⟨p, 0, none⟩)] 24)) := by
  have h0 := QBox.new w 32 #[.int .u64 num]
  have h1 := QBox.new (w.alloc (.cells #[.int .u64 num] 32)) 80 #[.int .i64 0, .int .i64 0]
  have h2 := QBox.new ((w.alloc (.cells #[.int .u64 num] 32)).alloc (.cells #[.int .i64 0, .int .i64 0] 80)) 3 #[.int .i64 0]
  have h3 := QBox.new (((w.alloc (.cells #[.int .u64 num] 32)).alloc (.cells #[.int .i64 0, .int .i64 0] 80)).alloc (.cells #[.int .i64 0] 3)) 4 #[.bool false]
  have h4 := QBox.new ((((w.alloc (.cells #[.int .u64 num] 32)).alloc (.cells #[.int .i64 0, .int .i64 0] 80)).alloc (.cells #[.int .i64 0] 3)).alloc (.cells #[.bool false] 4)) 24 #[.pointer (some ⟨p, 0, none⟩)]
  simp only [World.size_alloc] at h1 h2 h3 h4
  exact ⟨(((h0.alloc _).alloc _).alloc _).alloc _, ((h1.alloc _).alloc _).alloc _, (h2.alloc _).alloc _, h3.alloc _, h4⟩
/-- The answer is laid. -/
theorem FindB.set {W : World} {H p : Nat} {num : Int} {a b c d : Value} (h : FindB H p num a b c d W) (a' b' c' d' : Value) :
    FindB H p num a' b' c' d' ((((W.setCell ⟨H + 1, 0, none⟩ a').setCell ⟨H + 1, 1, none⟩ b').setCell ⟨H + 1 + 1, 0, none⟩ c').setCell ⟨H + 1 + 1 + 1, 0, none⟩ d') :=
  ⟨(((h.b0.far (by omega) _).far (by omega) _).far (by omega) _).far (by omega) _, ((h.b1.set2 a' b').far (by omega) _).far (by omega) _,
   (((h.b2.far (by omega) _).far (by omega) _).set 0 c').far (by omega) _, ((((h.b3.far (by omega) _).far (by omega) _).far (by omega) _).set 0 d'), (((h.b4.far (by omega) _).far (by omega) _).far (by omega) _).far (by omega) _⟩
theorem below_set4 {B H : Nat} {w W : World} (h : Below B w W) (hg : B ≤ H) (a b c d : Value) : Below B w ((((W.setCell ⟨H + 1, 0, none⟩ a).setCell ⟨H + 1, 1, none⟩ b).setCell ⟨H + 1 + 1, 0, none⟩ c).setCell ⟨H + 1 + 1 + 1, 0, none⟩ d) :=
  (((h.setCell (p := ⟨H + 1, 0, none⟩) (by show B ≤ H + 1; omega) _).setCell (p := ⟨H + 1, 1, none⟩) (by show B ≤ H + 1; omega) _).setCell (p := ⟨H + 1 + 1, 0, none⟩) (by show B ≤ H + 1 + 1; omega) _).setCell (p := ⟨H + 1 + 1 + 1, 0, none⟩) (by show B ≤ H + 1 + 1 + 1; omega) _
set_option maxRecDepth 100000 in
set_option maxHeartbeats 2000000 in
theorem find_in9 (n : Nat) (hn : 3 ≤ n) (p : Nat) (t num : Int) (S : Nat → List (Int × Int)) (V : Nat → Option Addr × Nat) (w : World) (hW : WhAt w w.heap.size p t S V) (hT : Tab w) (hg : 0 < w.heap.size) :
    CallsIn Fence.wide n Tryd.prog 35 #[.pointer (some ⟨p, 0, none⟩), .int .u64 num] w fun e w' => (∃ v, e = .returned v ∧ FindIs S num v) ∧ Below w.heap.size w w' := by
  have h1 : 1 ≤ n := by omega
  have HW := Lib.hid hW
  have HFI := Lib.hid (fun W => filled_any (.pointer (some ⟨p, 0, none⟩)) W ⟨_, rfl⟩)
  have HIX := Lib.hid (fun A n c gx l w hr hl hc => index_find A n c gx num l w hr hl hc)
  clear hW
  refine callsIn_of_wp_marks Tryd.func35 rfl trivial ?_ rfl
  simp only [Tryd.ntmps35, List.size_toArray, List.length_cons, List.length_nil, Nat.reduceAdd, Nat.reduceSub, Array.replicate_succ, Array.replicate_zero, List.push_toArray, List.append_toArray, List.nil_append, List.cons_append]
  gi_wp2_with fail
  refine ⟨trivial, (callsIn_wide.2 (HFI.out _)).mono ?_⟩
  rintro e w1 ⟨rfl, rfl⟩
  gi_wp2_with fail
  obtain ⟨W, hWe⟩ : ∃ W, W = ((((w.alloc (.cells #[.int .u64 num] 32)).alloc (.cells #[.int .i64 0, .int .i64 0] 80)).alloc (.cells #[.int .i64 0] 3)).alloc (.cells #[.bool false] 4)).alloc (.cells #[.pointer (some ⟨p, 0, none⟩)] 24) := ⟨_, rfl⟩
  have hB : Below w.heap.size w W := by rw [hWe]; exact (((((Below.refl _ _).alloc (Nat.le_refl _) _).alloc (by simp) _).alloc (by simp; omega) _).alloc (by simp; omega) _).alloc (by simp; omega) _
  have hFB : FindB w.heap.size p num (.int .i64 0) (.int .i64 0) (.int .i64 0) (.bool false) W := by rw [hWe]; exact FindB.new w p num
  have hsz : W.heap.size = w.heap.size + 5 := by rw [hWe]; simp
  rw [← hWe]
  clear hWe
  refine wpIn_rangeSt (σ := WSt) (α := WX) rfl h1 (gf := 56) (lb := #[.pointer (some ⟨w.heap.size + 1 + 1 + 1 + 1, 0, none⟩)]) rfl trivial (enters_of Tryd.func56 (by kernel_rfl) rfl)
    (filled_st (n - 1) (by omega) p (w.heap.size + 1 + 1 + 1 + 1)) (fun _ => rfl)
    (fun s W' => (s.S = S ∧ s.V = V ∧ s.k ≤ 320 ∧ ∀ j, j < s.k → ∀ d ∈ S j, d.2 ≠ num) ∧ FindB w.heap.size p num (.int .i64 0) (.int .i64 0) (.int .i64 0) (.bool false) W' ∧ Below w.heap.size w W')
    (fun c W' => (c = .ret ∧ ∃ (j i : Nat) (d : Int × Int), j < 320 ∧ (S j)[i]? = some d ∧ d.2 = num ∧ ∃ a b : Int, plV j = .agg #[.int .i64 a, .int .i64 b] ∧ FindB w.heap.size p num (.int .i64 a) (.int .i64 b) (.int .i64 i) (.bool true) W') ∧ Below w.heap.size w W') ⟨0, S, V⟩ rfl
    (fun s W' h => by
      obtain ⟨⟨rfl, rfl, _⟩, h2, h3⟩ := h
      exact ⟨⟨_, _, HW.out.below h3⟩, h2.b4, hT.below hg h3, Nat.lt_of_lt_of_le hg h3.size⟩)
    (fun s => (bears_const _ _).and (Bears.and (fun A B row h hg hr => h.turned hg (fun r e => (hr r e).2)) (bears_below (Nat.le_refl _) (by omega))))
    (fun c => Bears.and (fun A B row h hg hr => by
      obtain ⟨h0, j, i, d, h1, h2, h3, a, b, h5, h4⟩ := h
      exact ⟨h0, j, i, d, h1, h2, h3, a, b, h5, h4.turned hg (fun r e => (hr r e).2)⟩) (bears_below (Nat.le_refl _) (by omega))) ⟨⟨rfl, rfl, Nat.zero_le _, fun j hj => by cases hj⟩, hFB, hB⟩ ?round ?done ?stop
  case round =>
    rintro l s ⟨j, A, m, c⟩ W' hl hlo ⟨⟨rfl, rfl, hk, hno⟩, hf, hb⟩ ⟨g1, g2, g3, g4, g5, g6, g7⟩
    dsimp only at g1 g2 g3 g4 g5 g6 g7
    unfold wenc
    dsimp only
    have HNO := Lib.hid (fun (i : Nat) (hi : i < j) (d : Int × Int) (hd : d ∈ s.S i) => (by
      by_cases h : i < s.k
      · exact hno i h d hd
      · rw [g4 i (by omega) hi] at hd; exact absurd hd (List.not_mem_nil) : d.2 ≠ num))
    have HDU := Lib.hid ((HW.out.below hb).due j g2)
    rw [← g5, ← g6, ← g7] at HDU
    have hcap := HDU.out.row.cap
    obtain ⟨a, b, hab⟩ : ∃ a b : Int, plV j = .agg #[.int .i64 a, .int .i64 b] := ⟨_, _, rfl⟩
    rw [hab]
    have HAB := Lib.hid hab
    clear hno g4 g3 g5 g6 g7 hab
    gi_wp2_with fail
    refine ⟨KeepsOthers.alloc _ _, fun o => ?_⟩
    have hlo1 : ∃ o : Obj, (W'.alloc (.cells #[.int .i64 a, .int .i64 b] 80)).heap[l]? = some o ∧ o.isCells = false := by
      obtain ⟨o, h1, h2⟩ := hlo
      exact ⟨o, (Below.heap_alloc _ _ _ (Array.getElem?_eq_some_iff.1 h1).1).trans h1, h2⟩
    have hal : Below W'.heap.size W' (W'.alloc (.cells #[.int .i64 a, .int .i64 b] 80)) := (Below.refl _ _).alloc (Nat.le_refl _) _
    have hf2 := (hf.belowAll hal).turned (grownBy_putObj' _ l o) (fun r e => by cases e; exact hlo1)
    have hp2 := (QBox.new W' 80 #[.int .i64 a, .int .i64 b]).put hlo1 o
    have hb2 := below_put (hb.trans (hal.mono hb.size)) (Nat.le_refl _) (show w.heap.size ≤ l by omega) o
    have hd2 := HDU.out.below (show Below w.heap.size W' ((W'.alloc (.cells #[.int .i64 a, .int .i64 b] 80)).putObj l o) from (hal.mono hb.size).grown (grownBy_putObj' _ l o) (by have := hb.size; simp; omega) (fun k e => by cases e; omega))
    have hgt : w.heap.size + 4 < W'.heap.size := hf.b4.lt
    have HF2 := Lib.hid hf2; have HP2 := Lib.hid hp2; have HB2 := Lib.hid hb2; have HD2 := Lib.hid hd2; have HGT := Lib.hid hgt
    clear hf hb hf2 hp2 hb2 hd2 HDU hal hlo1 hgt
    generalize hWW : (W'.alloc (.cells #[.int .i64 a, .int .i64 b] 80)).putObj l o = W2 at *
    clear hWW
    obtain ⟨c0, c1, _, _⟩ := HP2.out.two
    have c2 := HF2.out.b0.cell 0
    have c2 : W2.cell? ⟨w.heap.size, 0, none⟩ = some (.int .u64 num) := c2
    gi_wp2_with fail
    refine ⟨trivial, (fun _ => by omega), (CallsIn.inRound l (callsIn_wide.2 (HIX.out A m c w.heap.size (s.S j) W2 (HD2.out.row.mono HB2.out.size) HF2.out.b0.lt c2))).mono ?_⟩
    rintro e W3 ⟨⟨k, rfl, hk3⟩, hb3⟩
    have hko : KeepsOthers W2 W3 := keepsOthers_of hb3
    have hf3 := HF2.out.belowAll hb3
    have hp3 := HP2.out.belowAll hb3
    have hb33 := HB2.out.trans (hb3.mono HB2.out.size)
    have HF3 := Lib.hid hf3; have HB3 := Lib.hid hb33; have HK3 := Lib.hid hko
    obtain ⟨c0, c1, _, _⟩ := hp3.two
    obtain ⟨d0, d1, f0, f1⟩ := hf3.b1.two
    obtain ⟨d2, f2⟩ := box_three hf3.b2
    obtain ⟨d3, f3⟩ := box_three hf3.b3
    have hne : w.heap.size + 1 ≠ W'.heap.size := by have := HGT.out; omega
    have hne2 : w.heap.size + 1 + 1 ≠ W'.heap.size := by have := HGT.out; omega
    have hne3 : w.heap.size + 1 + 1 + 1 ≠ W'.heap.size := by have := HGT.out; omega
    rcases hk3 with ⟨i, d, rfl, hi, hdn⟩ | ⟨rfl, hno⟩
    · have hi0 : (0 : Int) ≤ (i : Int) := by omega
      have HI := Lib.hid hi; have HDN := Lib.hid hdn
      clear hf3 hp3 hb33 hko hb3 hi hdn c2
      gi_wp2_with fail
      refine ⟨HK3.out.trans ((((KeepsOthers.setCell _ _ _).trans (KeepsOthers.setCell _ _ _)).trans (KeepsOthers.setCell _ _ _)).trans (KeepsOthers.setCell _ _ _)), ⟨rfl, j, i, d, g2, HI.out, HDN.out, a, b, HAB.out, HF3.out.set _ _ _ _⟩, below_set4 HB3.out (Nat.le_refl _) _ _ _ _⟩
    · have HNO2 := Lib.hid hno
      clear hf3 hp3 hb33 hko hb3 hno c2
      gi_wp2_with fail
      refine ⟨HK3.out, ⟨j + 1, s.S, s.V⟩, rfl, ⟨rfl, rfl, by show j + 1 ≤ 320; omega, fun i hi d hd => ?_⟩, HF3.out, HB3.out⟩
      by_cases e : i = j
      · subst e; exact HNO2.out d hd
      · exact HNO.out i (by have : i < j + 1 := hi; omega) d hd
  case done =>
    rintro B s W' hB2 hE ⟨⟨rfl, rfl, hk, hno⟩, hf, hb⟩ hD
    have HNO := Lib.hid (show ∀ j, j < 320 → ∀ d ∈ s.S j, d.2 ≠ num from fun j hj d hd => by
      by_cases h : j < s.k
      · exact hno j h d hd
      · rw [hE j (by omega) hj] at hd; exact absurd hd (List.not_mem_nil))
    have HF3 := Lib.hid hf; have HB3 := Lib.hid hb; have HD := Lib.hid hD
    obtain ⟨d0, d1, f0, f1⟩ := hf.b1.two
    obtain ⟨d2, f2⟩ := box_three hf.b2
    obtain ⟨d3, f3⟩ := box_three hf.b3
    clear hf hb hD hno hE
    gi_wp2_with fail
    have hf4 := HF3.out.set (.int .i64 0) (.int .i64 0) (.int .i64 0) (.bool false)
    have hb4 := below_set4 HB3.out (Nat.le_refl _) (.int .i64 0) (.int .i64 0) (.int .i64 0) (.bool false)
    have hd4 := ((((KeepsOthers.setCell W' ⟨w.heap.size + 1, 0, none⟩ (.int .i64 0)).trans (KeepsOthers.setCell _ ⟨w.heap.size + 1, 1, none⟩ (.int .i64 0))).trans (KeepsOthers.setCell _ ⟨w.heap.size + 1 + 1, 0, none⟩ (.int .i64 0))).trans (KeepsOthers.setCell _ ⟨w.heap.size + 1 + 1 + 1, 0, none⟩ (.bool false))).same B _ HD.out rfl
    clear d0 d1 d2 d3 f0 f1 f2 f3
    generalize ((((W'.setCell ⟨w.heap.size + 1, 0, none⟩ (.int .i64 0)).setCell ⟨w.heap.size + 1, 1, none⟩ (.int .i64 0)).setCell ⟨w.heap.size + 1 + 1, 0, none⟩ (.int .i64 0)).setCell ⟨w.heap.size + 1 + 1 + 1, 0, none⟩ (.bool false)) = W4 at *
    refine ⟨by simp, .inl ⟨_, _, rfl, run_takeDeferred hd4, ?_⟩⟩
    have hf5 := hf4.turned (grownBy_putObj' W4 B (.deferred none)) (fun r e => by cases e; exact ⟨_, hd4, rfl⟩)
    obtain ⟨d0, d1, _, _⟩ := hf5.b1.two
    obtain ⟨d2, _⟩ := box_three hf5.b2
    obtain ⟨d3, _⟩ := box_three hf5.b3
    refine ⟨.tuple #[.agg #[.int .i64 0, .int .i64 0], .int .i64 0, .bool false], by simp [results, Tryd.f35, go_sem, d0, d1, d2, d3], ⟨_, rfl, .inr ⟨HNO.out, rfl⟩⟩, hb4.trans (belowK_b (w := w) (Nat.le_refl _) W4 B _ _ (by omega) hd4 rfl rfl)⟩
  case stop =>
    rintro B c W' hB2 ⟨⟨rfl, j, i, d, h1, h2, h3, a, b, hab, hf⟩, hb⟩ hD
    have HF3 := Lib.hid hf; have HB3 := Lib.hid hb; have HD := Lib.hid hD; have H2 := Lib.hid h2; have H3 := Lib.hid h3; have HAB := Lib.hid hab
    clear hf hb hD h2 h3 hab
    gi_wp2_with fail
    refine ⟨by simp, .inl ⟨_, _, rfl, run_takeDeferred HD.out, ?_⟩⟩
    have hf5 := HF3.out.turned (grownBy_putObj' W' B (.deferred none)) (fun r e => by cases e; exact ⟨_, HD.out, rfl⟩)
    obtain ⟨d0, d1, _, _⟩ := hf5.b1.two
    obtain ⟨d2, _⟩ := box_three hf5.b2
    obtain ⟨d3, _⟩ := box_three hf5.b3
    refine ⟨.tuple #[.agg #[.int .i64 a, .int .i64 b], .int .i64 i, .bool true], by simp [results, Tryd.f35, go_sem, d0, d1, d2, d3], ⟨_, rfl, .inl ⟨j, i, d, h1, H2.out, H3.out, by rw [HAB.out]⟩⟩, HB3.out.trans (belowK_b (w := w) (Nat.le_refl _) W' B _ _ (by omega) HD.out rfl rfl)⟩
theorem find_any9 (p : Nat) (t num : Int) (S : Nat → List (Int × Int)) (V : Nat → Option Addr × Nat) (w : World) (hW : WhAt w w.heap.size p t S V) (hT : Tab w) (hg : 0 < w.heap.size) :
    Calls Tryd.prog 35 #[.pointer (some ⟨p, 0, none⟩), .int .u64 num] w fun e w' => (∃ v, e = .returned v ∧ FindIs S num v) ∧ Below w.heap.size w w' :=
  callsIn_wide.1 (find_in9 3 (by omega) p t num S V w hW hT hg)
end Go.Proofs.YtidgiohjgkfjcaaDoor
