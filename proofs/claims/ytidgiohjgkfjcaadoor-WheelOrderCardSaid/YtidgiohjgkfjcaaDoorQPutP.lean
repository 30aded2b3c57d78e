/- Put: walked. -/
import Derived.Test.YtidgiohjgkfjcaaDoorQCutP
import Derived.Test.YtidgiohjgkfjcaaDoorQLay
namespace Go.Proofs.YtidgiohjgkfjcaaDoor
open Go.RowKit
variable [Rows]

omit [Rows] in
theorem upto_all {t : Int} {l : List (Int × Int)} (h : RightQ t l) : upto (stQ t l) 320 = l := stQ_all h
theorem len_wh (p : Nat) (t : Int) (l : List (Int × Int)) (w : World) (hW : Wh w w.heap.size p t l) (hT : Tab w) (hg : 0 < w.heap.size) :
    Calls Tryd.prog 24 #[.pointer (some ⟨p, 0, none⟩)] w fun e w' => e = .returned (.int .i64 (l.length : Int)) ∧ Below w.heap.size w w' := by
  obtain ⟨V, hV, _⟩ := hW.at_
  have h := len_any p t _ V w hV hT hg (by rw [upto_all hW.right]; exact hW.right.len)
  rwa [upto_all hW.right] at h
theorem all_wh (p : Nat) (t : Int) (l : List (Int × Int)) (w : World) (hW : Wh w w.heap.size p t l) (hT : Tab w) (hg : 0 < w.heap.size) :
    Calls Tryd.prog 23 #[.pointer (some ⟨p, 0, none⟩)] w fun e w' => ∃ v, e = .returned v ∧ OwnD w' w.heap.size v l ∧ Below w.heap.size w w' := by
  obtain ⟨V, hV, _⟩ := hW.at_
  have h := all_any9 p t _ V w hV hT hg (by rw [upto_all hW.right]; exact hW.right.len)
  rwa [upto_all hW.right] at h
theorem now_wh (p : Nat) (t : Int) (l : List (Int × Int)) (w : World) (hW : Wh w w.heap.size p t l) :
    Calls Tryd.prog 26 #[.pointer (some ⟨p, 0, none⟩)] w fun e w' => e = .returned (.int .i64 t) ∧ w' = w := by
  obtain ⟨V, hV, _⟩ := hW.at_
  exact now_any9 p t w hV.now
theorem new_wh (t : Int) (w : World) (h : timeQ t) :
    Calls Tryd.prog 9 #[.int .i64 t] w fun e w' => e = .returned (.tuple #[.pointer (some ⟨w.heap.size, 0, none⟩), .int .i64 0]) ∧ Wh w' w'.heap.size w.heap.size t [] ∧ Below w.heap.size w w' := by
  refine (new_yes t w h).mono ?_
  rintro e w' ⟨rfl, h1, h2⟩
  exact ⟨rfl, ⟨.empty h, ⟨fun _ => (none, 0), h1, fun j b o s hn e => by cases e⟩, fun d hd => by cases hd⟩, h2⟩
theorem lay_wh (p : Nat) (t : Int) (d : Int × Int) (l : List (Int × Int)) (w : World) (hW : Wh w w.heap.size p t l) (he : putE t l d = 0) (hp : 0 ≤ d.2) (hX : ∀ b, w.heap.size ≤ b → Rows.ok b) :
    Calls Tryd.prog 36 #[.pointer (some ⟨p, 0, none⟩), dueV d] w fun e w' => (∃ v, e = .returned v) ∧ Wh w' w'.heap.size p t (putQ t l d) ∧ Only p w w' := by
  obtain ⟨V, hV, hok⟩ := hW.at_
  obtain ⟨h1, h2, h3, h4⟩ := putE_zero.1 he
  have hr := hW.right.put d
  have hq : putQ t l d = insQ d l := by unfold putQ; rw [if_pos he]
  obtain ⟨d0, d1⟩ := d
  have ht0 := hW.right.time.1
  dsimp only at h1 h2
  obtain ⟨t, rfl⟩ := Int.eq_ofNat_of_zero_le ht0
  obtain ⟨d0, rfl⟩ := Int.eq_ofNat_of_zero_le h2.1
  have htop := h2.2
  unfold topQ at htop
  refine (lay_any9 p t d0 d1 _ V w hV (by omega) (by omega) (hW.right.slot _).sort (hW.right.slot _).len (fun x hx => h3 x (stQ_mem.1 hx).1)).mono ?_
  rintro e w' ⟨hv, ⟨V', hV', hf'⟩, ho⟩
  refine ⟨hv, ⟨hr, ⟨V', ?_, ?_⟩, fun x hx => ?_⟩, ho⟩
  · rw [hq, ← put_stQ hW.right h3]
    exact hV'
  · rw [hq, ← put_stQ hW.right h3]
    exact hok.from_ hf' hX
  · rcases putQ_mem.1 hx with hx | ⟨rfl, _⟩
    · exact hW.pos x hx
    · exact hp
set_option maxRecDepth 100000 in
set_option maxHeartbeats 1000000 in
theorem put_any (p : Nat) (t : Int) (d : Int × Int) (l : List (Int × Int)) (w : World) (hp : 0 ≤ d.2) (hW : Wh w w.heap.size p t l) (hT : Tab w) (hg : 0 < w.heap.size) (hX : ∀ b, w.heap.size ≤ b → Rows.ok b) :
    Calls Tryd.prog 12 #[.pointer (some ⟨p, 0, none⟩), dueV d] w fun e w' => e = .returned (.int .i64 (putE t l d)) ∧ Wh w' w'.heap.size p t (putQ t l d) ∧ Only p w w' := by
  obtain ⟨V, hV, _⟩ := hW.at_
  obtain ⟨r, hr⟩ : ∃ r : Int, r = putE t l d := ⟨_, rfl⟩
  rw [← hr]
  have HQ := Lib.hid hr
  have HPP := Lib.hid hp
  have HX := Lib.hid hX
  clear hp hX
  obtain ⟨W, hWe⟩ : ∃ W, W = w.alloc (.cells #[.int .i64 d.1, .int .u64 d.2] 39) := ⟨_, rfl⟩
  have hB : Below w.heap.size w W := by rw [hWe]; exact (Below.refl _ _).alloc (Nat.le_refl _) _
  have bD : QBox W w.heap.size 39 #[.int .i64 d.1, .int .u64 d.2] := by rw [hWe]; exact QBox.new _ _ _
  have hsz : W.heap.size = w.heap.size + 1 := by rw [hWe]; simp
  have HW := Lib.hid hW
  have hTW := hT.below hg hB
  have HWW := Lib.hid (hW.on hB)
  obtain ⟨VW, hVW, _⟩ := HWW.out.at_
  have HF := Lib.hid (find_any9 p t d.2 _ VW W hVW hTW (by omega))
  have HTAB := Lib.hid hTW
  have HB := Lib.hid hB; have HD := Lib.hid bD; have HSZ := Lib.hid hsz
  have hln := Nat.ne_of_lt hW.lt
  have hlt := hW.lt
  obtain ⟨d0, d1⟩ := d
  unfold dueV
  obtain ⟨e0, e1, _, _⟩ := bD.two
  clear hr hW hV hT hB bD hsz hTW hVW
  go_enter Tryd.func12, Tryd.ntmps12
  go_wp2_with fail
  rw [← hWe]
  clear hWe
  refine HF.out.mono ?_
  rintro e w1 ⟨⟨v, rfl, hv⟩, hb1⟩
  have key : ∃ (a b i : Int), v = .tuple #[.agg #[.int .i64 a, .int .i64 b], .int .i64 i, .bool (hasQ d1 l)] := by
    rcases find_wh hv with ⟨i, d, h1, h2, _, rfl⟩ | ⟨h1, rfl⟩
    · rw [show hasQ d1 l = true from hasQ_iff.2 ⟨d, h1, h2⟩]
      exact ⟨_, _, _, rfl⟩
    · have hh : hasQ d1 l = false := by
        rw [← Bool.not_eq_true, hasQ_iff]; rintro ⟨d, hd, e⟩; exact h1 d hd e
      rw [hh]
      exact ⟨_, _, _, rfl⟩
  obtain ⟨a, b, i, rfl⟩ := key
  obtain ⟨f, hf⟩ : ∃ f, f = hasQ d1 l := ⟨_, rfl⟩
  rw [← hf]
  have HHF := Lib.hid hf
  obtain ⟨W1, hW1e⟩ : ∃ W1, W1 = w1.alloc (.cells #[.int .i64 a, .int .i64 b] 80) := ⟨_, rfl⟩
  have hb2 : Below W.heap.size W W1 := by rw [hW1e]; exact hb1.alloc hb1.size _
  have HB1 := Lib.hid (HB.out.trans (hb2.mono HB.out.size))
  have HW1 := Lib.hid (HWW.out.on hb2)
  have HD1 := Lib.hid (HD.out.belowAll hb2)
  have HG := Lib.hid (show 0 < W.heap.size by have := HSZ.out; omega)
  have HT1 := Lib.hid (HTAB.out.below HG.out hb2)
  have HG1 := Lib.hid (Nat.lt_of_lt_of_le HG.out hb2.size)
  obtain ⟨e0, e1, _, _⟩ := HD1.out.two
  obtain ⟨V1, hV1, _⟩ := HW1.out.at_
  have c0 := hV1.now
  clear hv hf hV1 hb1 hb2 HWW HTAB HD HF HB
  by_cases h1 : d0 ≤ t
  · have HE := Lib.hid (show r = 2 by rw [HQ.out]; unfold putE; rw [if_pos (.inl h1)])
    have HE2 := Lib.hid (show putQ t l (d0, d1) = l by unfold putQ; rw [← HQ.out, HE.out]; rfl)
    have hd : decide (d0 ≤ t) = true := decide_eq_true h1
    clear h1
    go_wp2_with fail
    rw [← hW1e]
    clear hW1e
    have hBE := Below.refl W1.heap.size W1
    have hwl : w.heap.size < W1.heap.size := HD1.out.lt
    have hpl := HW1.out.lt
    have HK := Lib.hid (fun (W' : World) (hb : Below W1.heap.size W1 W') => (⟨⟨((qbelow_cell hb).1 _ 0 hwl).trans e0, ((qbelow_cell hb).1 _ 0 hpl).trans c0⟩⟩ : PLift (W'.cell? ⟨w.heap.size, 0, none⟩ = some (.int .i64 d0) ∧ W'.cell? ⟨p, 0, none⟩ = some (.int .i64 t))).down)
    refine wp_region_held_drew (S := (fun W' => W'.cell? ⟨w.heap.size, 0, none⟩ = some (.int .i64 d0) ∧ W'.cell? ⟨p, 0, none⟩ = some (.int .i64 t))) (by kernel_rfl) (HK.out _ hBE.drew) (fun hHeld => ?_)
    replace hBE := hBE.drew
    refine wpAnyH_take (i := 0) (oi := { dst := some 19, op := Op.fieldAddr 39 (Operand.tmp 3) 0, type := 0, pos := "wheel.go:39", after := #[], guard := none }) (v := ?v0) rfl (by kernel_rfl) (by kernel_rfl) (by kernel_rfl) (fun _ _ _ h => h) (Or.inl ⟨by rfl, ?h0⟩) (by assumption) ?r0
    case h0 => (intro w hSw; (try dsimp only at hSw); go_simp; (try with_reducible rfl))
    try simp only [Act.put, List.setIfInBounds_toArray, List.set_cons_zero, List.set_cons_succ]
    refine wpAnyH_take (i := 1) (oi := { dst := some 20, op := Op.load 2 (Operand.tmp 19), type := 2, pos := "wheel.go:39", after := #[{ on := 0, ground := Ground.data }], guard := none }) (v := ?v1) rfl (by kernel_rfl) (by kernel_rfl) (by kernel_rfl) (fun _ _ _ h => h) (Or.inl ⟨by rfl, ?h1⟩) (by assumption) ?r1
    case h1 => (intro w hSw; (try dsimp only at hSw); go_simp; (try with_reducible rfl))
    try simp only [Act.put, List.setIfInBounds_toArray, List.set_cons_zero, List.set_cons_succ]
    refine wpAnyH_take (i := 2) (oi := { dst := some 21, op := Op.move (Operand.tmp 0), type := 24, pos := "wheel.go:39", after := #[], guard := none }) (v := ?v2) rfl (by kernel_rfl) (by kernel_rfl) (by kernel_rfl) (fun _ _ _ h => h) (Or.inl ⟨by rfl, ?h2⟩) (by assumption) ?r2
    case h2 => (intro w hSw; (try dsimp only at hSw); go_simp; (try with_reducible rfl))
    try simp only [Act.put, List.setIfInBounds_toArray, List.set_cons_zero, List.set_cons_succ]
    refine wpAnyH_take (i := 3) (oi := { dst := some 22, op := Op.nilCheck (Operand.tmp 21), type := 0, pos := "wheel.go:39", after := #[{ on := 2, ground := Ground.data }], guard := none }) (v := ?v3) rfl (by kernel_rfl) (by kernel_rfl) (by kernel_rfl) (fun _ _ _ h => h) (Or.inl ⟨by rfl, ?h3⟩) (by assumption) ?r3
    case h3 => (intro w hSw; (try dsimp only at hSw); go_simp; (try with_reducible rfl))
    try simp only [Act.put, List.setIfInBounds_toArray, List.set_cons_zero, List.set_cons_succ]
    refine wpAnyH_take (i := 4) (oi := { dst := some 23, op := Op.fieldAddr 78 (Operand.tmp 22) 0, type := 0, pos := "wheel.go:39", after := #[{ on := 3, ground := Ground.data }], guard := none }) (v := ?v4) rfl (by kernel_rfl) (by kernel_rfl) (by kernel_rfl) (fun _ _ _ h => h) (Or.inl ⟨by rfl, ?h4⟩) (by assumption) ?r4
    case h4 => (intro w hSw; (try dsimp only at hSw); go_simp; (try with_reducible rfl))
    try simp only [Act.put, List.setIfInBounds_toArray, List.set_cons_zero, List.set_cons_succ]
    refine wpAnyH_take (i := 5) (oi := { dst := some 24, op := Op.load 2 (Operand.tmp 23), type := 2, pos := "wheel.go:39", after := #[{ on := 4, ground := Ground.data }], guard := none }) (v := ?v5) rfl (by kernel_rfl) (by kernel_rfl) (by kernel_rfl) (fun _ _ _ h => h) (Or.inl ⟨by rfl, ?h5⟩) (by assumption) ?r5
    case h5 => (intro w hSw; (try dsimp only at hSw); go_simp; (try with_reducible rfl))
    try simp only [Act.put, List.setIfInBounds_toArray, List.set_cons_zero, List.set_cons_succ]
    refine wpAnyH_take (i := 6) (oi := { dst := some 25, op := Op.binOp BinOp.leq 2 (Operand.tmp 20) (Operand.tmp 24) 2, type := 4, pos := "wheel.go:39", after := #[{ on := 1, ground := Ground.data }, { on := 5, ground := Ground.data }], guard := none }) (v := ?v6) rfl (by kernel_rfl) (by kernel_rfl) (by kernel_rfl) (fun _ _ _ h => h) (Or.inl ⟨by rfl, ?h6⟩) (by assumption) ?r6
    case h6 => (intro w hSw; (try dsimp only at hSw); go_simp; (try with_reducible rfl))
    try simp only [Act.put, List.setIfInBounds_toArray, List.set_cons_zero, List.set_cons_succ]
    refine wpAnyH_take (i := 7) (oi := { dst := some 26, op := Op.move (Operand.tmp 25), type := 4, pos := "wheel.go:39", after := #[{ on := 6, ground := Ground.data }], guard := none }) (v := ?v7) rfl (by kernel_rfl) (by kernel_rfl) (by kernel_rfl) (fun _ _ _ h => h) (Or.inl ⟨by rfl, ?h7⟩) (by assumption) ?r7
    case h7 => (intro w hSw; (try dsimp only at hSw); go_simp; (try with_reducible rfl))
    try simp only [Act.put, List.setIfInBounds_toArray, List.set_cons_zero, List.set_cons_succ]
    refine wpAnyH_take (i := 8) (oi := { dst := some 27, op := Op.fieldAddr 39 (Operand.tmp 3) 0, type := 0, pos := "wheel.go:39", after := #[{ on := 7, ground := Ground.guard }], guard := some (7, false) }) (v := undef) rfl (by kernel_rfl) (by kernel_rfl) (by kernel_rfl) (fun _ _ _ h => h) (Or.inr ⟨by rfl, rfl⟩) (by assumption) ?_
    try simp only [Act.put, List.setIfInBounds_toArray, List.set_cons_zero, List.set_cons_succ]
    refine wpAnyH_take (i := 9) (oi := { dst := some 28, op := Op.load 2 (Operand.tmp 27), type := 2, pos := "wheel.go:39", after := #[{ on := 8, ground := Ground.data }, { on := 7, ground := Ground.guard }], guard := some (7, false) }) (v := undef) rfl (by kernel_rfl) (by kernel_rfl) (by kernel_rfl) (fun _ _ _ h => h) (Or.inr ⟨by rfl, rfl⟩) (by assumption) ?_
    try simp only [Act.put, List.setIfInBounds_toArray, List.set_cons_zero, List.set_cons_succ]
    refine wpAnyH_take (i := 10) (oi := { dst := some 29, op := Op.binOp BinOp.gtr 2 (Operand.tmp 28) (Operand.const (Value.int IntKind.i64 253402300799)) 2, type := 4, pos := "wheel.go:39", after := #[{ on := 9, ground := Ground.data }, { on := 7, ground := Ground.guard }], guard := some (7, false) }) (v := undef) rfl (by kernel_rfl) (by kernel_rfl) (by kernel_rfl) (fun _ _ _ h => h) (Or.inr ⟨by rfl, rfl⟩) (by assumption) ?_
    try simp only [Act.put, List.setIfInBounds_toArray, List.set_cons_zero, List.set_cons_succ]
    refine wpAnyH_take (i := 11) (oi := { dst := some 30, op := Op.pick (Operand.tmp 26) (Operand.const (Value.bool true)) (Operand.tmp 29), type := 4, pos := "wheel.go:39", after := #[{ on := 7, ground := Ground.data }, { on := 10, ground := Ground.data }], guard := none }) (v := ?v11) rfl (by kernel_rfl) (by kernel_rfl) (by kernel_rfl) (fun _ _ _ h => h) (Or.inl ⟨by rfl, ?h11⟩) (by assumption) ?r11
    case h11 => (intro w hSw; (try dsimp only at hSw); go_simp; (try with_reducible rfl))
    try simp only [Act.put, List.setIfInBounds_toArray, List.set_cons_zero, List.set_cons_succ]
    refine wpAnyH_take (i := 12) (oi := { dst := some 18, op := Op.assign (Operand.tmp 30), type := 4, pos := "wheel.go:39", after := #[{ on := 11, ground := Ground.data }, { on := 7, ground := Ground.chain }], guard := none }) (v := ?v12) rfl (by kernel_rfl) (by kernel_rfl) (by kernel_rfl) (fun _ _ _ h => h) (Or.inl ⟨by rfl, ?h12⟩) (by assumption) ?r12
    case h12 => (intro w hSw; (try dsimp only at hSw); go_simp; (try with_reducible rfl))
    try simp only [Act.put, List.setIfInBounds_toArray, List.set_cons_zero, List.set_cons_succ]
    refine wpAnyH_done (by kernel_rfl) ?_ _
    go_wp2_with fail
    go_ret
    rw [HE2.out]
    exact ⟨by rw [HE.out]; rfl, HW1.out.on hBE, Only.of (HB1.out.trans (hBE.mono HB1.out.size))⟩
  · have hd : decide (d0 ≤ t) = false := decide_eq_false h1
    by_cases h2 : topQ < d0
    · have HE := Lib.hid (show r = 2 by rw [HQ.out]; unfold putE; rw [if_pos (.inr (fun h => by have := h.2; omega))])
      have HE2 := Lib.hid (show putQ t l (d0, d1) = l by unfold putQ; rw [← HQ.out, HE.out]; rfl)
      unfold topQ at h2
      have hd2 : decide (253402300799 < d0) = true := decide_eq_true h2
      clear h1 h2
      go_wp2_with fail
      rw [← hW1e]
      clear hW1e
      go_region
      go_wp2_with fail
      go_ret
      rw [HE2.out]
      exact ⟨by rw [HE.out]; rfl, HW1.out.on (Below.refl _ _).drew, Only.of HB1.out.drew⟩
    · have HTQ := Lib.hid (show timeQ d0 from ⟨by have := HW.out.right.time.1; omega, by omega⟩)
      have H1 := Lib.hid h1
      unfold topQ at h2
      have hd2 : decide (253402300799 < d0) = false := decide_eq_false h2
      clear h1 h2
      cases f with
      | true =>
        have HE := Lib.hid (show r = 5 by rw [HQ.out]; unfold putE; rw [if_neg (by have := H1.out; have := HTQ.out; rintro (h | h) <;> contradiction), if_pos HHF.out.symm])
        have HE2 := Lib.hid (show putQ t l (d0, d1) = l by unfold putQ; rw [← HQ.out, HE.out]; rfl)
        go_wp2_with fail
        rw [← hW1e]
        clear hW1e
        go_region
        go_wp2_with fail
        go_ret
        rw [HE2.out]
        exact ⟨by rw [HE.out]; rfl, HW1.out.on (Below.refl _ _).drew, Only.of HB1.out.drew⟩
      | false =>
        have HLEN := Lib.hid (len_wh p t l W1.drew (HW1.out.on (Below.refl _ _).drew) (HT1.out.below HG1.out (Below.refl _ _).drew) HG1.out)
        by_cases h64 : l.length = 64
        · have HE := Lib.hid (show r = 6 by rw [HQ.out]; unfold putE; rw [if_neg (by have := H1.out; have := HTQ.out; rintro (h | h) <;> contradiction), if_neg (by rw [← HHF.out]; simp), if_pos h64])
          have HE2 := Lib.hid (show putQ t l (d0, d1) = l by unfold putQ; rw [← HQ.out, HE.out]; rfl)
          have HD64 := Lib.hid (show decide (64 ≤ (l.length : Int)) = true by simp; omega)
          clear h64
          generalize hll : (l.length : Int) = N at *
          clear hll
          go_wp2_with fail
          rw [← hW1e]
          clear hW1e
          go_region
          go_wp2_with fail
          refine HLEN.out.mono ?_
          rintro e w2 ⟨rfl, hb2⟩
          have HB2 := Lib.hid hb2
          have hd64 := HD64.out
          clear hb2
          go_wp2_with fail
          go_ret
          rw [HE2.out]
          exact ⟨by rw [HE.out]; rfl, (HW1.out.on (Below.refl _ _).drew).on HB2.out, Only.of ((HB1.out.drew).trans (HB2.out.mono HB1.out.size))⟩
        · have HE := Lib.hid (show r = 0 by rw [HQ.out]; unfold putE; rw [if_neg (by have := H1.out; have := HTQ.out; rintro (h | h) <;> contradiction), if_neg (by rw [← HHF.out]; simp), if_neg h64])
          have HD64 := Lib.hid (show decide (64 ≤ (l.length : Int)) = false by have := HW.out.right.len; simp; omega)
          have HLAY := Lib.hid (fun (W : World) (hsz : w.heap.size ≤ W.heap.size) (hW : Wh W W.heap.size p t l) => lay_wh p t (d0, d1) l W hW (by rw [← HQ.out, HE.out]) HPP.out (fun b hb => HX.out b (Nat.le_trans hsz hb)))
          unfold dueV at HLAY
          clear h64
          generalize hll : (l.length : Int) = N at *
          clear hll
          go_wp2_with fail
          rw [← hW1e]
          clear hW1e
          go_region
          go_wp2_with fail
          refine HLEN.out.mono ?_
          rintro e w2 ⟨rfl, hb2⟩
          have HB2 := Lib.hid hb2
          have HD2 := Lib.hid ((HD1.out.drewN 1).belowAll hb2)
          obtain ⟨e0, e1, _, _⟩ := ((HD1.out.drewN 1).belowAll hb2).two
          have hd64 := HD64.out
          clear hb2
          go_wp2_with fail
          refine (HLAY.out _ (by have h1 := HB1.out.size; have h2 : W1.heap.size ≤ _ := HB2.out.size; omega) ((HW1.out.on (Below.refl _ _).drew).on HB2.out)).mono ?_
          rintro e w3 ⟨⟨v, rfl⟩, hw3, ho3⟩
          have HW3 := Lib.hid hw3; have HO3 := Lib.hid ho3
          clear hw3 ho3
          go_wp2_with fail
          go_ret
          exact ⟨by rw [HE.out]; rfl, HW3.out, (Only.of ((HB1.out.drew).trans (HB2.out.mono HB1.out.size))).trans HO3.out⟩
end Go.Proofs.YtidgiohjgkfjcaaDoor
