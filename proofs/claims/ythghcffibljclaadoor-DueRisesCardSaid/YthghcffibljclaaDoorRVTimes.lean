/- What a row asks of itself: how many may wait, its times, whether they rise, whether one is none of its job: walked. -/
import Derived.Test.YthghcffibljclaaDoorR7
import Derived.Test.YthghcffibljclaaDoorRVSmall
import Derived.Test.YthghcffibljclaaDoorRVApp
namespace Go.Proofs.YthghcffibljclaaDoor
open Go.RowKit

theorem box18 {W : World} {g : Nat} {t : TypeId} {x0 x1 x2 x3 x4 x5 x6 x7 x8 x9 x10 x11 x12 x13 x14 x15 x16 x17 : Value} (h : D.Box W g t #[x0, x1, x2, x3, x4, x5, x6, x7, x8, x9, x10, x11, x12, x13, x14, x15, x16, x17]) : W.cell? ⟨g, 0, none⟩ = some x0 ∧ W.cell? ⟨g, 1, none⟩ = some x1 ∧ W.cell? ⟨g, 2, none⟩ = some x2 ∧ W.cell? ⟨g, 3, none⟩ = some x3 ∧ W.cell? ⟨g, 4, none⟩ = some x4 ∧ W.cell? ⟨g, 5, none⟩ = some x5 ∧ W.cell? ⟨g, 6, none⟩ = some x6 ∧ W.cell? ⟨g, 7, none⟩ = some x7 ∧ W.cell? ⟨g, 8, none⟩ = some x8 ∧ W.cell? ⟨g, 9, none⟩ = some x9 ∧ W.cell? ⟨g, 10, none⟩ = some x10 ∧ W.cell? ⟨g, 11, none⟩ = some x11 ∧ W.cell? ⟨g, 12, none⟩ = some x12 ∧ W.cell? ⟨g, 13, none⟩ = some x13 ∧ W.cell? ⟨g, 14, none⟩ = some x14 ∧ W.cell? ⟨g, 15, none⟩ = some x15 ∧ W.cell? ⟨g, 16, none⟩ = some x16 ∧ W.cell? ⟨g, 17, none⟩ = some x17 := ⟨D.Box.cell h 0, D.Box.cell h 1, D.Box.cell h 2, D.Box.cell h 3, D.Box.cell h 4, D.Box.cell h 5, D.Box.cell h 6, D.Box.cell h 7, D.Box.cell h 8, D.Box.cell h 9, D.Box.cell h 10, D.Box.cell h 11, D.Box.cell h 12, D.Box.cell h 13, D.Box.cell h 14, D.Box.cell h 15, D.Box.cell h 16, D.Box.cell h 17⟩
theorem rown_new (w : World) (n : Int) (o : Bool) (a b c d e : BitVec 64) (t ov ca re : Int) (pa : Bool) (nx num due tr : Int) (qv : Value) (now : Int) : ∃ W : World, W = w.alloc (.cells #[.int .u32 n, .bool o, .int .u64 (U a), .int .u64 (U b), .int .u64 (U c), .int .u64 (U d), .int .u64 (U e), .int .i64 t, .int .i64 ov, .int .i64 ca, .int .i64 re, .bool pa, .int .i64 nx, .int .u64 num, .int .i64 due, .int .i64 tr, qv, .int .i64 now] 64) ∧ Below w.heap.size w W ∧ D.Box W w.heap.size 64 #[.int .u32 n, .bool o, .int .u64 (U a), .int .u64 (U b), .int .u64 (U c), .int .u64 (U d), .int .u64 (U e), .int .i64 t, .int .i64 ov, .int .i64 ca, .int .i64 re, .bool pa, .int .i64 nx, .int .u64 num, .int .i64 due, .int .i64 tr, qv, .int .i64 now] ∧ W.heap.size = w.heap.size + 1 :=
  ⟨_, rfl, (Below.refl _ w).alloc (Nat.le_refl _) _, D.Box.new _ _ _, by simp⟩
theorem qr_one (W : World) (x : Int) : QR (W.alloc (.cells #[.int .i64 x] 2)) (.slice (some ⟨W.heap.size, 0, none⟩) 1 1) [x] := by
  have hx := D.Box.new W 2 #[.int .i64 x]
  refine ⟨_, 1, rfl, Nat.le_refl _, by decide, fun h => by (cases h), fun j u hj => ⟨_, 0, rfl, D.Box.lt hx, ?_⟩⟩
  rw [Nat.zero_add, D.Box.cell hx j]
  rw [show (#[Value.int .i64 x] : Array Value) = ([x].map int1).toArray from rfl, List.getElem?_toArray]
  exact hj
theorem OwnT.below {w w' : World} {base : Nat} {v : Value} {l : List Int} (h : OwnT w base v l) (hb : Below w.heap.size w w') : OwnT w' base v l := own_below h hb
theorem OwnT.low {w : World} {base base' : Nat} {v : Value} {l : List Int} (h : OwnT w base' v l) (hb : base ≤ base') : OwnT w base v l := own_low h hb
set_option maxRecDepth 100000 in
set_option maxHeartbeats 1000000 in
theorem room_any (r : RowZ) (v : Value) (now : Int) (w : World) (hf : r.Fit) :
    Calls Tryd.prog 34 #[rowNV r v now] w fun e w' => e = .returned (.int .i64 (r.room : Int)) ∧ Below w.heap.size w w' := by
  have HR := Lib.hid (fun W => rowruns_any r v now W hf)
  have hroom : r.room = if decide r.runs = true ∧ r.j.ov ≠ 0 then 3 else 0 := by unfold RowZ.room; simp
  generalize decide r.runs = B at *
  generalize r.room = m at *
  obtain ⟨n, o, a, b, c, d, e, t, ov, ca, re, pa, nx, num, due, tr, qv, q, rfl, rfl⟩ := row_letters hf v
  rw [rowNV_all] at HR
  rw [rowNV_all]
  simp only at hroom
  have HM := Lib.hid hroom
  obtain ⟨W0, hW0, hb0, hx0, hs0⟩ := rown_new w n o a b c d e t ov ca re pa nx num due tr qv now
  have HB0 := Lib.hid hb0; have HX0 := Lib.hid hx0
  obtain ⟨c0, c1, c2, c3, c4, c5, c6, c7, c8, c9, c10, c11, c12, c13, c14, c15, c16, c17⟩ := box18 hx0
  clear hroom hb0 hx0 hf
  go_enter Tryd.func34, Tryd.ntmps34
  go_wp2_with fail
  rw [← hW0]
  clear hW0
  refine (HR.out _).mono ?_
  rintro x w2 ⟨rfl, hb⟩
  have HB2 := Lib.hid (HB0.out.trans (hb.mono HB0.out.size)); have HX2 := Lib.hid (D.Box.belowAll HX0.out hb)
  clear hb HB0 HX0 c0 c1 c2 c3 c4 c5 c6 c7 c8 c9 c10 c11 c12 c13 c14 c15 c16 c17 HR
  obtain ⟨c0, c1, c2, c3, c4, c5, c6, c7, c8, c9, c10, c11, c12, c13, c14, c15, c16, c17⟩ := box18 HX2.out
  cases B with
  | false =>
    have hm := HM.out
    rw [if_neg (by simp)] at hm
    subst hm
    go_wp2_with fail
    go_ret
    exact ⟨rfl, HB2.out⟩
  | true =>
    by_cases h : ov = 0
    · subst h
      have hm := HM.out
      rw [if_neg (by simp)] at hm
      subst hm
      go_wp2_with fail
      go_ret
      exact ⟨rfl, HB2.out⟩
    · have h0 : (ov == 0) = false := by simpa using h
      have hm := HM.out
      rw [if_pos ⟨rfl, h⟩] at hm
      subst hm
      clear h
      go_wp2_with fail
      go_ret
      exact ⟨rfl, HB2.out⟩
theorem strange_iff {T : Int → Prop} {s t : Int} {ok : Bool} (h : LastT T s t ok) : (!ok || t != s) = false ↔ T s := by
  rcases h with ⟨rfl, h⟩ | ⟨rfl, rfl, h⟩
  · constructor
    · intro e
      have e : t = s := by simpa using e
      rw [← e]; exact h.1
    · intro hT
      have h1 := h.2.2 s hT (Int.le_refl _)
      have h2 := h.2.1
      have e : t = s := by omega
      simp [e]
  · constructor
    · intro e; simp at e
    · intro hT
      have := h s hT
      omega
set_option maxRecDepth 100000 in
set_option maxHeartbeats 1000000 in
theorem strange_any (ev : List (BitVec 64) → Bool) (hev : EvIs ev) (r : RowZ) (v : Value) (now s : Int) (w : World) (hL : LaidC w) (hf : r.Fit) :
    Calls Tryd.prog 38 #[rowNV r v now, .int .i64 s] w fun e w' => (∃ B, e = .returned (.bool B) ∧ (B = false ↔ r.j.TT ev s)) ∧ Below w.heap.size w w' := by
  have HR := Lib.hid (fun W hW => jlatest_any ev hev r.j s W hW hf.1)
  have HI := Lib.hid (fun t ok h => @strange_iff (r.j.TT ev) s t ok h)
  unfold TimeIs at HR
  generalize r.j.TT ev = TT at *
  obtain ⟨n, o, a, b, c, d, e, t, ov, ca, re, pa, nx, num, due, tr, qv, q, rfl, rfl⟩ := row_letters hf v
  simp only at HR
  rw [jobV_five] at HR
  rw [rowNV_all]
  obtain ⟨W0, hW0, hb0, hx0, hs0⟩ := rown_new w n o a b c d e t ov ca re pa nx num due tr qv now
  have HB0 := Lib.hid hb0; have HL0 := Lib.hid (hL.on hb0)
  obtain ⟨c0, c1, c2, c3, c4, c5, c6, c7, c8, c9, c10, c11, c12, c13, c14, c15, c16, c17⟩ := box18 hx0
  clear hb0 hx0 hf hL hev
  go_enter Tryd.func38, Tryd.ntmps38
  go_wp2_with fail
  rw [← hW0]
  clear hW0
  refine (HR.out _ HL0.out).mono ?_
  rintro x w2 ⟨⟨u, ok, rfl, hu⟩, hb⟩
  have HB2 := Lib.hid (HB0.out.trans (hb.mono HB0.out.size)); have HU := Lib.hid (HI.out _ _ hu)
  clear hb HB0 HL0 HR HI hu c0 c1 c2 c3 c4 c5 c6 c7 c8 c9 c10 c11 c12 c13 c14 c15 c16 c17
  cases ok with
  | false =>
    go_wp2_with fail
    go_ret
    exact ⟨⟨_, rfl, HU.out⟩, HB2.out⟩
  | true =>
    go_wp2_with fail
    go_ret
    exact ⟨⟨_, rfl, HU.out⟩, HB2.out⟩
end Go.Proofs.YthghcffibljclaaDoor
