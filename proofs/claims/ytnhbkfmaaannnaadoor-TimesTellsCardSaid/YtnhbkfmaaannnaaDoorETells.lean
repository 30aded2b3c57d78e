/- TimesTells, walked. -/
import Derived.Test.YtnhbkfmaaannnaaDoorERead
import Derived.Test.YtnhbkfmaaannnaaDoorERefs
namespace Go.Proofs.YtnhbkfmaaannnaaDoor
open Go.RowKit

/-- A row of civil times, where it lies. -/
def ArrC (w : World) (B : Nat) (A : Option Addr) (n : Nat) : Prop :=
  ∀ k, k < n → ∃ b o y m d h mi s, A = some ⟨b, o, none⟩ ∧ b < B ∧ w.cell? ⟨b, o + k * 6, none⟩ = some (.int .i64 y) ∧ w.cell? ⟨b, o + k * 6 + 1, none⟩ = some (.int .i64 m) ∧ w.cell? ⟨b, o + k * 6 + 2, none⟩ = some (.int .i64 d) ∧ w.cell? ⟨b, o + k * 6 + 3, none⟩ = some (.int .i64 h) ∧ w.cell? ⟨b, o + k * 6 + 4, none⟩ = some (.int .i64 mi) ∧ w.cell? ⟨b, o + k * 6 + 5, none⟩ = some (.int .i64 s)
theorem ArrC.on {w w' : World} {B n : Nat} {A : Option Addr} (h : ArrC w B A n) (hb : Below B w w') : ArrC w' B A n := fun k hk => by
  obtain ⟨b, o, y, m, d, hh, mi, s, e, hl, h0, h1, h2, h3, h4, h5⟩ := h k hk
  have g := fun j => hb.cell (p := ⟨b, j, none⟩) hl
  exact ⟨b, o, y, m, d, hh, mi, s, e, hl, (g _).trans h0, (g _).trans h1, (g _).trans h2, (g _).trans h3, (g _).trans h4, (g _).trans h5⟩
set_option maxRecDepth 100000 in
set_option maxHeartbeats 2000000 in
theorem tells_walk (A : Option Addr) (n c : Nat) (zs : List Int) (A' : Option Addr) (n' c' : Nat) (w : World) (hL : Laid w) (hn : n ≤ maxLen) (hn' : n' ≤ maxLen) (hz : ArrT w w.heap.size A n zs) (hz' : ArrC w w.heap.size A' n') :
    Calls Tryd.prog 3 #[.slice A n c, .slice A' n' c'] w fun e w' => e = .returned (.bool true) ∧ Below w.heap.size w w' := by
  unfold maxLen at hn hn'
  have HL := Lib.hid hL; have HZ := Lib.hid hz; have HC := Lib.hid hz'
  clear hL hz hz'
  go_enter Tryd.func3, Tryd.ntmps3
  go_wp2_with fail
  refine (wakes_any w HL.out).mono ?_
  rintro e w2 ⟨rfl, hb⟩
  have HB := Lib.hid hb
  clear hb
  go_wp2_with fail
  go_loopw [21] (fun i wr => ∃ (k : Nat), k ≤ n ∧ i = .int .i64 k ∧ Below w.heap.size w wr) (fun i _ => n - (intOf i).toNat)
  case atStart => exact ⟨0, Nat.zero_le _, rfl, HB.out⟩
  case round =>
    clear HB
    obtain ⟨k, hk, rfl, hb⟩ := hrel
    have HB := Lib.hid hb
    by_cases hgo : k < n ∧ k ≠ 10
    · obtain ⟨hlt, h10⟩ := hgo
      obtain ⟨b, o, rfl, hbl, hc, hi⟩ := HZ.out.on hb k hlt
      generalize nthI zs k = t at *
      have h10' : ((k : Int) == 10) = false := by simp; omega
      have HLr := Lib.hid (HL.out.on hb)
      clear hb h10 hi
      by_cases ht : TimeZ t
      · have q1 := timeB_yes ht
        have HT := Lib.hid ht
        clear ht
        go_wp2_with fail
        refine (timeR_any t _).mono ?_
        rintro e w3 ⟨rfl, rfl⟩
        go_wp2_with fail
        refine (tat_ok t _ HLr.out HT.out).mono ?_
        rintro e w3 ⟨y, m, d, h, mi, s, rfl, hcv, hb⟩
        obtain ⟨b0, bB, bs⟩ := box_civ w3 y m d h mi s
        have HB4 := Lib.hid (HB.out.trans ((hb.trans (bB.mono hb.size)).mono HB.out.size)); have HX := Lib.hid b0; have HCV := Lib.hid hcv
        unfold civO civV at *
        clear hb bB b0 bs hcv
        have HW1 := Lib.hid (fun W => tweek_ok t W HT.out); have HW2 := Lib.hid (fun W => tweekR_ok t W HT.out)
        go_wp2_with fail
        generalize w3.alloc _ = w4 at *
        generalize w3.heap.size = g at *
        generalize (t / 86400 + 4) % 7 = v at *
        refine (HW1.out _).mono ?_
        rintro e w5 ⟨rfl, rfl⟩
        go_wp2_with fail
        refine (may_any t _).mono ?_
        rintro e w5 ⟨rfl, rfl⟩
        go_wp2_with fail
        have hKX : ∀ w', Below w4.heap.size w4 w' → w'.cell? ⟨g, 0, none⟩ = some (.int .i64 y) ∧ w'.cell? ⟨g, 1, none⟩ = some (.int .i64 m) ∧ w'.cell? ⟨g, 2, none⟩ = some (.int .i64 d) ∧ w'.cell? ⟨g, 3, none⟩ = some (.int .i64 h) ∧ w'.cell? ⟨g, 4, none⟩ = some (.int .i64 mi) ∧ w'.cell? ⟨g, 5, none⟩ = some (.int .i64 s) := fun w' hb => by
          obtain ⟨x0, x1, x2, x3, x4, x5, _⟩ := (HX.out.belowAll hb).six
          exact ⟨x0, x1, x2, x3, x4, x5⟩
        have hBE := Below.refl w4.heap.size w4
        have HK := Lib.hid hKX
        have HAT := Lib.hid (fun W => tatR_is t y m d h mi s W HCV.out)
        have HWB := Lib.hid (show ∀ W, Calls Tryd.prog 15 #[.int .i64 t] W fun e w' => e = .returned (.int .i64 v) ∧ Below W.heap.size W w' from fun W => (HW2.out W).mono fun e w' ⟨a, b⟩ => ⟨a, b ▸ Below.refl _ _⟩)
        clear hKX
        refine wp_region_held_drew (S := (fun w' => w'.cell? ⟨g, 0, none⟩ = some (.int .i64 y) ∧ w'.cell? ⟨g, 1, none⟩ = some (.int .i64 m) ∧ w'.cell? ⟨g, 2, none⟩ = some (.int .i64 d) ∧ w'.cell? ⟨g, 3, none⟩ = some (.int .i64 h) ∧ w'.cell? ⟨g, 4, none⟩ = some (.int .i64 mi) ∧ w'.cell? ⟨g, 5, none⟩ = some (.int .i64 s))) (by kernel_rfl) (HK.out _ hBE.drew) (fun hHeld => ?_)
        replace hBE := hBE.drew
        refine wpAnyH_take (i := 0) (oi := { dst := some 56, op := Op.move (Operand.tmp 7), type := 4, pos := "law.go:32", after := #[], guard := none }) (v := ?v0) rfl (by kernel_rfl) (by kernel_rfl) (by kernel_rfl) (fun _ _ _ h => h) (Or.inl ⟨by rfl, ?h0⟩) (by assumption) ?r0
        case h0 => (intro w hSw; (try dsimp only at hSw); go_simp; (try with_reducible rfl))
        try simp only [Act.put, List.setIfInBounds_toArray, List.set_cons_zero, List.set_cons_succ]
        refine wpAnyH_take (i := 1) (oi := { dst := some 57, op := Op.unOp UnOp.not 4 (Operand.tmp 56), type := 4, pos := "law.go:32", after := #[{ on := 0, ground := Ground.data }], guard := none }) (v := ?v1) rfl (by kernel_rfl) (by kernel_rfl) (by kernel_rfl) (fun _ _ _ h => h) (Or.inl ⟨by rfl, ?h1⟩) (by assumption) ?r1
        case h1 => (intro w hSw; (try dsimp only at hSw); go_simp; (try with_reducible rfl))
        try simp only [Act.put, List.setIfInBounds_toArray, List.set_cons_zero, List.set_cons_succ]
        refine wpAnyH_take (i := 2) (oi := { dst := some 58, op := Op.move (Operand.tmp 57), type := 4, pos := "law.go:32", after := #[{ on := 1, ground := Ground.data }], guard := none }) (v := ?v2) rfl (by kernel_rfl) (by kernel_rfl) (by kernel_rfl) (fun _ _ _ h => h) (Or.inl ⟨by rfl, ?h2⟩) (by assumption) ?r2
        case h2 => (intro w hSw; (try dsimp only at hSw); go_simp; (try with_reducible rfl))
        try simp only [Act.put, List.setIfInBounds_toArray, List.set_cons_zero, List.set_cons_succ]
        refine wpAnyH_take (i := 3) (oi := { dst := some 59, op := Op.move (Operand.tmp 9), type := 30, pos := "law.go:32", after := #[{ on := 2, ground := Ground.guard }], guard := some (2, true) }) (v := undef) rfl (by kernel_rfl) (by kernel_rfl) (by kernel_rfl) (fun _ _ _ h => h) (Or.inr ⟨by rfl, rfl⟩) (by assumption) ?_
        try simp only [Act.put, List.setIfInBounds_toArray, List.set_cons_zero, List.set_cons_succ]
        refine wpAnyH_take (i := 4) (oi := { dst := some 60, op := Op.binOp BinOp.neq 30 (Operand.tmp 59) (Operand.const (Value.int IntKind.i64 2)) 30, type := 4, pos := "law.go:32", after := #[{ on := 3, ground := Ground.data }, { on := 2, ground := Ground.guard }], guard := some (2, true) }) (v := undef) rfl (by kernel_rfl) (by kernel_rfl) (by kernel_rfl) (fun _ _ _ h => h) (Or.inr ⟨by rfl, rfl⟩) (by assumption) ?_
        try simp only [Act.put, List.setIfInBounds_toArray, List.set_cons_zero, List.set_cons_succ]
        refine wpAnyH_take (i := 5) (oi := { dst := some 61, op := Op.move (Operand.tmp 60), type := 4, pos := "law.go:32", after := #[{ on := 4, ground := Ground.data }, { on := 2, ground := Ground.chain }, { on := 2, ground := Ground.guard }], guard := some (2, true) }) (v := undef) rfl (by kernel_rfl) (by kernel_rfl) (by kernel_rfl) (fun _ _ _ h => h) (Or.inr ⟨by rfl, rfl⟩) (by assumption) ?_
        try simp only [Act.put, List.setIfInBounds_toArray, List.set_cons_zero, List.set_cons_succ]
        refine wpAnyH_take (i := 6) (oi := { dst := some 62, op := Op.move (Operand.tmp 11), type := 30, pos := "law.go:32", after := #[{ on := 5, ground := Ground.guard }], guard := some (5, false) }) (v := undef) rfl (by kernel_rfl) (by kernel_rfl) (by kernel_rfl) (fun _ _ _ h => h) (Or.inr ⟨by rfl, rfl⟩) (by assumption) ?_
        try simp only [Act.put, List.setIfInBounds_toArray, List.set_cons_zero, List.set_cons_succ]
        refine wpAnyH_take (i := 7) (oi := { dst := some 63, op := Op.binOp BinOp.neq 30 (Operand.tmp 62) (Operand.const (Value.int IntKind.i64 2)) 30, type := 4, pos := "law.go:32", after := #[{ on := 6, ground := Ground.data }, { on := 5, ground := Ground.guard }], guard := some (5, false) }) (v := undef) rfl (by kernel_rfl) (by kernel_rfl) (by kernel_rfl) (fun _ _ _ h => h) (Or.inr ⟨by rfl, rfl⟩) (by assumption) ?_
        try simp only [Act.put, List.setIfInBounds_toArray, List.set_cons_zero, List.set_cons_succ]
        refine wpAnyH_take (i := 8) (oi := { dst := some 64, op := Op.pick (Operand.tmp 61) (Operand.const (Value.bool true)) (Operand.tmp 63), type := 4, pos := "law.go:32", after := #[{ on := 5, ground := Ground.data }, { on := 7, ground := Ground.data }, { on := 2, ground := Ground.guard }], guard := some (2, true) }) (v := undef) rfl (by kernel_rfl) (by kernel_rfl) (by kernel_rfl) (fun _ _ _ h => h) (Or.inr ⟨by rfl, rfl⟩) (by assumption) ?_
        try simp only [Act.put, List.setIfInBounds_toArray, List.set_cons_zero, List.set_cons_succ]
        refine wpAnyH_take (i := 9) (oi := { dst := some 65, op := Op.move (Operand.tmp 64), type := 4, pos := "law.go:32", after := #[{ on := 8, ground := Ground.data }, { on := 5, ground := Ground.chain }, { on := 2, ground := Ground.guard }], guard := some (2, true) }) (v := undef) rfl (by kernel_rfl) (by kernel_rfl) (by kernel_rfl) (fun _ _ _ h => h) (Or.inr ⟨by rfl, rfl⟩) (by assumption) ?_
        try simp only [Act.put, List.setIfInBounds_toArray, List.set_cons_zero, List.set_cons_succ]
        refine wpAnyH_take (i := 10) (oi := { dst := some 66, op := Op.load 29 (Operand.tmp 8), type := 29, pos := "law.go:32", after := #[{ on := 9, ground := Ground.guard }], guard := some (9, false) }) (v := undef) rfl (by kernel_rfl) (by kernel_rfl) (by kernel_rfl) (fun _ _ _ h => h) (Or.inr ⟨by rfl, rfl⟩) (by assumption) ?_
        try simp only [Act.put, List.setIfInBounds_toArray, List.set_cons_zero, List.set_cons_succ]
        refine wpAnyH_take (i := 11) (oi := { dst := some 67, op := Op.build 29 #[], type := 29, pos := "law.go:32", after := #[{ on := 9, ground := Ground.guard }], guard := some (9, false) }) (v := undef) rfl (by kernel_rfl) (by kernel_rfl) (by kernel_rfl) (fun _ _ _ h => h) (Or.inr ⟨by rfl, rfl⟩) (by assumption) ?_
        try simp only [Act.put, List.setIfInBounds_toArray, List.set_cons_zero, List.set_cons_succ]
        refine wpAnyH_take (i := 12) (oi := { dst := some 68, op := Op.binOp BinOp.neq 29 (Operand.tmp 66) (Operand.tmp 67) 29, type := 4, pos := "law.go:32", after := #[{ on := 10, ground := Ground.data }, { on := 11, ground := Ground.data }, { on := 9, ground := Ground.guard }], guard := some (9, false) }) (v := undef) rfl (by kernel_rfl) (by kernel_rfl) (by kernel_rfl) (fun _ _ _ h => h) (Or.inr ⟨by rfl, rfl⟩) (by assumption) ?_
        try simp only [Act.put, List.setIfInBounds_toArray, List.set_cons_zero, List.set_cons_succ]
        refine wpAnyH_take (i := 13) (oi := { dst := some 69, op := Op.pick (Operand.tmp 65) (Operand.const (Value.bool true)) (Operand.tmp 68), type := 4, pos := "law.go:32", after := #[{ on := 9, ground := Ground.data }, { on := 12, ground := Ground.data }, { on := 2, ground := Ground.guard }], guard := some (2, true) }) (v := undef) rfl (by kernel_rfl) (by kernel_rfl) (by kernel_rfl) (fun _ _ _ h => h) (Or.inr ⟨by rfl, rfl⟩) (by assumption) ?_
        try simp only [Act.put, List.setIfInBounds_toArray, List.set_cons_zero, List.set_cons_succ]
        refine wpAnyH_take (i := 14) (oi := { dst := some 70, op := Op.move (Operand.tmp 69), type := 4, pos := "law.go:32", after := #[{ on := 13, ground := Ground.data }, { on := 9, ground := Ground.chain }, { on := 2, ground := Ground.guard }], guard := some (2, true) }) (v := undef) rfl (by kernel_rfl) (by kernel_rfl) (by kernel_rfl) (fun _ _ _ h => h) (Or.inr ⟨by rfl, rfl⟩) (by assumption) ?_
        try simp only [Act.put, List.setIfInBounds_toArray, List.set_cons_zero, List.set_cons_succ]
        refine wpAnyH_take (i := 15) (oi := { dst := some 71, op := Op.move (Operand.tmp 10), type := 3, pos := "law.go:32", after := #[{ on := 14, ground := Ground.guard }], guard := some (14, false) }) (v := undef) rfl (by kernel_rfl) (by kernel_rfl) (by kernel_rfl) (fun _ _ _ h => h) (Or.inr ⟨by rfl, rfl⟩) (by assumption) ?_
        try simp only [Act.put, List.setIfInBounds_toArray, List.set_cons_zero, List.set_cons_succ]
        refine wpAnyH_take (i := 16) (oi := { dst := some 72, op := Op.binOp BinOp.neq 3 (Operand.tmp 71) (Operand.const (Value.int IntKind.i64 0)) 3, type := 4, pos := "law.go:32", after := #[{ on := 15, ground := Ground.data }, { on := 14, ground := Ground.guard }], guard := some (14, false) }) (v := undef) rfl (by kernel_rfl) (by kernel_rfl) (by kernel_rfl) (fun _ _ _ h => h) (Or.inr ⟨by rfl, rfl⟩) (by assumption) ?_
        try simp only [Act.put, List.setIfInBounds_toArray, List.set_cons_zero, List.set_cons_succ]
        refine wpAnyH_take (i := 17) (oi := { dst := some 73, op := Op.pick (Operand.tmp 70) (Operand.const (Value.bool true)) (Operand.tmp 72), type := 4, pos := "law.go:32", after := #[{ on := 14, ground := Ground.data }, { on := 16, ground := Ground.data }, { on := 2, ground := Ground.guard }], guard := some (2, true) }) (v := undef) rfl (by kernel_rfl) (by kernel_rfl) (by kernel_rfl) (fun _ _ _ h => h) (Or.inr ⟨by rfl, rfl⟩) (by assumption) ?_
        try simp only [Act.put, List.setIfInBounds_toArray, List.set_cons_zero, List.set_cons_succ]
        refine wpAnyH_take (i := 18) (oi := { dst := some 74, op := Op.pick (Operand.tmp 58) (Operand.tmp 73) (Operand.const (Value.bool false)), type := 4, pos := "law.go:32", after := #[{ on := 2, ground := Ground.data }, { on := 17, ground := Ground.data }], guard := none }) (v := ?v18) rfl (by kernel_rfl) (by kernel_rfl) (by kernel_rfl) (fun _ _ _ h => h) (Or.inl ⟨by rfl, ?h18⟩) (by assumption) ?r18
        case h18 => (intro w hSw; (try dsimp only at hSw); go_simp; (try with_reducible rfl))
        try simp only [Act.put, List.setIfInBounds_toArray, List.set_cons_zero, List.set_cons_succ]
        refine wpAnyH_take (i := 19) (oi := { dst := some 75, op := Op.move (Operand.tmp 74), type := 4, pos := "law.go:32", after := #[{ on := 18, ground := Ground.data }, { on := 14, ground := Ground.chain }], guard := none }) (v := ?v19) rfl (by kernel_rfl) (by kernel_rfl) (by kernel_rfl) (fun _ _ _ h => h) (Or.inl ⟨by rfl, ?h19⟩) (by assumption) ?r19
        case h19 => (intro w hSw; (try dsimp only at hSw); go_simp; (try with_reducible rfl))
        try simp only [Act.put, List.setIfInBounds_toArray, List.set_cons_zero, List.set_cons_succ]
        refine wpAnyH_take (i := 20) (oi := { dst := some 76, op := Op.move (Operand.tmp 7), type := 4, pos := "law.go:32", after := #[{ on := 19, ground := Ground.guard }], guard := some (19, false) }) (v := ?v20) rfl (by kernel_rfl) (by kernel_rfl) (by kernel_rfl) (fun _ _ _ h => h) (Or.inl ⟨by rfl, ?h20⟩) (by assumption) ?r20
        case h20 => (intro w hSw; (try dsimp only at hSw); go_simp; (try with_reducible rfl))
        try simp only [Act.put, List.setIfInBounds_toArray, List.set_cons_zero, List.set_cons_succ]
        refine wpAnyH_take (i := 21) (oi := { dst := some 77, op := Op.move (Operand.tmp 76), type := 4, pos := "law.go:32", after := #[{ on := 20, ground := Ground.data }, { on := 19, ground := Ground.chain }, { on := 19, ground := Ground.guard }], guard := some (19, false) }) (v := ?v21) rfl (by kernel_rfl) (by kernel_rfl) (by kernel_rfl) (fun _ _ _ h => h) (Or.inl ⟨by rfl, ?h21⟩) (by assumption) ?r21
        case h21 => (intro w hSw; (try dsimp only at hSw); go_simp; (try with_reducible rfl))
        try simp only [Act.put, List.setIfInBounds_toArray, List.set_cons_zero, List.set_cons_succ]
        refine wpAnyH_take (i := 22) (oi := { dst := some 78, op := Op.load 29 (Operand.tmp 8), type := 29, pos := "law.go:32", after := #[{ on := 21, ground := Ground.guard }], guard := some (21, true) }) (v := ?v22) rfl (by kernel_rfl) (by kernel_rfl) (by kernel_rfl) (fun _ _ _ h => h) (Or.inl ⟨by rfl, ?h22⟩) (by assumption) ?r22
        case h22 => (intro w hSw; (try dsimp only at hSw); go_simp; (try with_reducible rfl))
        try simp only [Act.put, List.setIfInBounds_toArray, List.set_cons_zero, List.set_cons_succ]
        refine wpAnyH_take (i := 23) (oi := { dst := some 79, op := Op.move (Operand.tmp 6), type := 2, pos := "law.go:32", after := #[{ on := 21, ground := Ground.guard }], guard := some (21, true) }) (v := ?v23) rfl (by kernel_rfl) (by kernel_rfl) (by kernel_rfl) (fun _ _ _ h => h) (Or.inl ⟨by rfl, ?h23⟩) (by assumption) ?r23
        case h23 => (intro w hSw; (try dsimp only at hSw); go_simp; (try with_reducible rfl))
        try simp only [Act.put, List.setIfInBounds_toArray, List.set_cons_zero, List.set_cons_succ]
        refine wpAnyH_ready (rs := [24]) (by kernel_rfl) (by simp) (AllReadyH.cons (o := { dst := some 80, op := Op.call { callee := Callee.value (Operand.func 14), args := #[Operand.tmp 79], argTypes := #[2] }, type := 29, pos := "law.go:32", after := #[{ on := 23, ground := Ground.data }, { on := 21, ground := Ground.chain }, { on := 21, ground := Ground.guard }], guard := some (21, true) }) rfl (fun K hK => ?_) AllReadyH.nil)
        go_simp
        go_at_call 14; (with_reducible refine (HAT.out _).mono ?_)
        rintro e wa ⟨rfl, hb⟩
        replace hBE := hBE.trans (hb.mono hBE.size)
        clear hb
        refine hK.out _ _ (HK.out _ hBE) (fun hHeld2 => ?_)
        clear hK K hHeld
        have hHeld := hHeld2
        clear hHeld2
        try simp only [Act.put, List.setIfInBounds_toArray, List.set_cons_zero, List.set_cons_succ]
        refine wpAnyH_take (i := 25) (oi := { dst := some 81, op := Op.binOp BinOp.neq 29 (Operand.tmp 78) (Operand.tmp 80) 29, type := 4, pos := "law.go:32", after := #[{ on := 22, ground := Ground.data }, { on := 24, ground := Ground.data }, { on := 21, ground := Ground.guard }], guard := some (21, true) }) (v := ?v25) rfl (by kernel_rfl) (by kernel_rfl) (by kernel_rfl) (fun _ _ _ h => h) (Or.inl ⟨by rfl, ?h25⟩) (by assumption) ?r25
        case h25 => (intro w hSw; (try dsimp only at hSw); go_simp; (try with_reducible rfl))
        try simp only [Act.put, List.setIfInBounds_toArray, List.set_cons_zero, List.set_cons_succ]
        refine wpAnyH_take (i := 26) (oi := { dst := some 82, op := Op.move (Operand.tmp 81), type := 4, pos := "law.go:32", after := #[{ on := 25, ground := Ground.data }, { on := 24, ground := Ground.chain }, { on := 21, ground := Ground.guard }], guard := some (21, true) }) (v := ?v26) rfl (by kernel_rfl) (by kernel_rfl) (by kernel_rfl) (fun _ _ _ h => h) (Or.inl ⟨by rfl, ?h26⟩) (by assumption) ?r26
        case h26 => (intro w hSw; (try dsimp only at hSw); go_simp; (try with_reducible rfl))
        try simp only [Act.put, List.setIfInBounds_toArray, List.set_cons_zero, List.set_cons_succ]
        refine wpAnyH_take (i := 27) (oi := { dst := some 83, op := Op.move (Operand.tmp 10), type := 3, pos := "law.go:32", after := #[{ on := 26, ground := Ground.guard }], guard := some (26, false) }) (v := ?v27) rfl (by kernel_rfl) (by kernel_rfl) (by kernel_rfl) (fun _ _ _ h => h) (Or.inl ⟨by rfl, ?h27⟩) (by assumption) ?r27
        case h27 => (intro w hSw; (try dsimp only at hSw); go_simp; (try with_reducible rfl))
        try simp only [Act.put, List.setIfInBounds_toArray, List.set_cons_zero, List.set_cons_succ]
        refine wpAnyH_take (i := 28) (oi := { dst := some 84, op := Op.move (Operand.tmp 6), type := 2, pos := "law.go:32", after := #[{ on := 26, ground := Ground.guard }], guard := some (26, false) }) (v := ?v28) rfl (by kernel_rfl) (by kernel_rfl) (by kernel_rfl) (fun _ _ _ h => h) (Or.inl ⟨by rfl, ?h28⟩) (by assumption) ?r28
        case h28 => (intro w hSw; (try dsimp only at hSw); go_simp; (try with_reducible rfl))
        try simp only [Act.put, List.setIfInBounds_toArray, List.set_cons_zero, List.set_cons_succ]
        refine wpAnyH_ready (rs := [29]) (by kernel_rfl) (by simp) (AllReadyH.cons (o := { dst := some 85, op := Op.call { callee := Callee.value (Operand.func 15), args := #[Operand.tmp 84], argTypes := #[2] }, type := 3, pos := "law.go:32", after := #[{ on := 28, ground := Ground.data }, { on := 26, ground := Ground.chain }, { on := 26, ground := Ground.guard }], guard := some (26, false) }) rfl (fun K hK => ?_) AllReadyH.nil)
        go_simp
        go_at_call 15; (with_reducible refine (HWB.out _).mono ?_)
        rintro e wa ⟨rfl, hb⟩
        replace hBE := hBE.trans (hb.mono hBE.size)
        clear hb
        refine hK.out _ _ (HK.out _ hBE) (fun hHeld2 => ?_)
        clear hK K hHeld
        have hHeld := hHeld2
        clear hHeld2
        try simp only [Act.put, List.setIfInBounds_toArray, List.set_cons_zero, List.set_cons_succ]
        refine wpAnyH_take (i := 30) (oi := { dst := some 86, op := Op.binOp BinOp.neq 3 (Operand.tmp 83) (Operand.tmp 85) 3, type := 4, pos := "law.go:32", after := #[{ on := 27, ground := Ground.data }, { on := 29, ground := Ground.data }, { on := 26, ground := Ground.guard }], guard := some (26, false) }) (v := ?v30) rfl (by kernel_rfl) (by kernel_rfl) (by kernel_rfl) (fun _ _ _ h => h) (Or.inl ⟨by rfl, ?h30⟩) (by assumption) ?r30
        case h30 => (intro w hSw; (try dsimp only at hSw); go_simp; (try with_reducible rfl))
        try simp only [Act.put, List.setIfInBounds_toArray, List.set_cons_zero, List.set_cons_succ]
        refine wpAnyH_take (i := 31) (oi := { dst := some 87, op := Op.pick (Operand.tmp 82) (Operand.const (Value.bool true)) (Operand.tmp 86), type := 4, pos := "law.go:32", after := #[{ on := 26, ground := Ground.data }, { on := 30, ground := Ground.data }, { on := 21, ground := Ground.guard }], guard := some (21, true) }) (v := ?v31) rfl (by kernel_rfl) (by kernel_rfl) (by kernel_rfl) (fun _ _ _ h => h) (Or.inl ⟨by rfl, ?h31⟩) (by assumption) ?r31
        case h31 => (intro w hSw; (try dsimp only at hSw); go_simp; (try with_reducible rfl))
        try simp only [Act.put, List.setIfInBounds_toArray, List.set_cons_zero, List.set_cons_succ]
        refine wpAnyH_take (i := 32) (oi := { dst := some 88, op := Op.pick (Operand.tmp 77) (Operand.tmp 87) (Operand.const (Value.bool false)), type := 4, pos := "law.go:32", after := #[{ on := 21, ground := Ground.data }, { on := 31, ground := Ground.data }, { on := 19, ground := Ground.guard }], guard := some (19, false) }) (v := ?v32) rfl (by kernel_rfl) (by kernel_rfl) (by kernel_rfl) (fun _ _ _ h => h) (Or.inl ⟨by rfl, ?h32⟩) (by assumption) ?r32
        case h32 => (intro w hSw; (try dsimp only at hSw); go_simp; (try with_reducible rfl))
        try simp only [Act.put, List.setIfInBounds_toArray, List.set_cons_zero, List.set_cons_succ]
        refine wpAnyH_take (i := 33) (oi := { dst := some 89, op := Op.pick (Operand.tmp 75) (Operand.const (Value.bool true)) (Operand.tmp 88), type := 4, pos := "law.go:32", after := #[{ on := 19, ground := Ground.data }, { on := 32, ground := Ground.data }], guard := none }) (v := ?v33) rfl (by kernel_rfl) (by kernel_rfl) (by kernel_rfl) (fun _ _ _ h => h) (Or.inl ⟨by rfl, ?h33⟩) (by assumption) ?r33
        case h33 => (intro w hSw; (try dsimp only at hSw); go_simp; (try with_reducible rfl))
        try simp only [Act.put, List.setIfInBounds_toArray, List.set_cons_zero, List.set_cons_succ]
        refine wpAnyH_done (by kernel_rfl) ?_ _
        have HB6 := Lib.hid (HB4.out.trans (hBE.mono HB4.out.size))
        clear hHeld hBE
        go_wp2_with fail
        go_roundw
        case rel => exact ⟨k + 1, by omega, by go_num, HB6.out⟩
        case measure => simp [intOf]; omega
      · have q1 := timeB_no ht
        have HT := Lib.hid ht
        clear ht
        go_wp2_with fail
        refine (timeR_any t _).mono ?_
        rintro e w3 ⟨rfl, rfl⟩
        go_wp2_with fail
        refine (tat_no t _ HT.out).mono ?_
        rintro e w3 ⟨rfl, hb⟩
        obtain ⟨b0, bB, bs⟩ := box_civ w3 0 0 0 0 0 0
        have HB4 := Lib.hid (HB.out.trans ((hb.trans (bB.mono hb.size)).mono HB.out.size)); have HX := Lib.hid b0
        unfold civO civV at *
        clear hb bB b0 bs
        have HW1 := Lib.hid (fun W => tweek_no t W HT.out)
        go_wp2_with fail
        generalize w3.alloc _ = w4 at *
        generalize w3.heap.size = g at *
        refine (HW1.out _).mono ?_
        rintro e w5 ⟨rfl, rfl⟩
        go_wp2_with fail
        refine (may_any t _).mono ?_
        rintro e w5 ⟨rfl, rfl⟩
        obtain ⟨x0, x1, x2, x3, x4, x5, _⟩ := HX.out.six
        go_wp2_with fail
        go_quiet (fail)
        go_wp2_with fail
        go_roundw
        case rel => exact ⟨k + 1, by omega, by go_num, bdrewN HB4.out _⟩
        case measure => simp [intOf]; omega
    · have hend : k = n ∨ k < n ∧ k = 10 := by omega
      clear hb hgo
      rcases hend with rfl | ⟨hlt, h10⟩
      rotate_left
      · obtain ⟨b, o, rfl, hbl, hc, hi⟩ := HZ.out.on HB.out k hlt
        have h10' : ((k : Int) == 10) = true := by simp; omega
        clear h10 hi
        have hlt2 : decide ((k : Int) < (n : Int)) = true := by simp; omega
        go_wp2_with fail
        go_loopw [93] (fun i wr => ∃ (k : Nat), k ≤ n' ∧ i = .int .i64 k ∧ Below w.heap.size w wr) (fun i _ => n' - (intOf i).toNat)
        case atStart => exact ⟨0, Nat.zero_le _, rfl, HB.out⟩
        case round =>
          clear HB
          obtain ⟨k, hk, rfl, hb⟩ := hrel
          have HB := Lib.hid hb
          by_cases hlt : k < n'
          · obtain ⟨b', o', y, m, d, h, mi, s, rfl, hbl', c0, c1, c2, c3, c4, c5⟩ := HC.out.on hb k hlt
            obtain ⟨b0, bB, bs⟩ := box_civ wr y m d h mi s
            have HBA := Lib.hid (HB.out.trans (bB.mono hb.size)); have HX := Lib.hid b0; have HLA := Lib.hid ((HL.out.on hb).on bB); have HSZ := Lib.hid hb.size
            unfold civO at *
            clear hb b0 bB bs
            by_cases h10 : k = 10
            · subst h10
              go_wp2_with fail
              go_ret
              exact ⟨rfl, HBA.out⟩
            · have h10' : ((k : Int) == 10) = false := by simp; omega
              clear h10
              by_cases hcv : CivR y m d h mi s
              · have HCV := Lib.hid hcv
                clear hcv
                go_wp2_with fail
                generalize wr.alloc _ = w4 at *
                generalize wr.heap.size = g at *
                refine (tof_ok y m d h mi s _ HLA.out HCV.out).mono ?_
                rintro e w5 ⟨rfl, hb⟩
                have HB5 := Lib.hid (HBA.out.trans (hb.mono HBA.out.size)); have HL5 := Lib.hid (HLA.out.on hb); have HX5 := Lib.hid (HX.out.belowAll hb)
                obtain ⟨x0, x1, x2, x3, x4, x5, _⟩ := HX5.out.six
                clear hb HX HLA HBA c0 c1 c2 c3 c4 c5
                have HCO := Lib.hid HCV.out.of
                generalize timeZ y m d h mi s = t at *
                go_wp2_with fail
                refine (tcheck_any y m d h mi s _ HL5.out).mono ?_
                rintro e w6 ⟨hr, hb⟩
                rcases hr with ⟨_, rfl⟩ | ⟨hn, _⟩
                rotate_left
                · exact absurd HCV.out hn
                have HB6 := Lib.hid (HB5.out.trans (hb.mono HB5.out.size)); have HX6 := Lib.hid (HX5.out.belowAll hb)
                clear hb HX5 HL5 HB5 x0 x1 x2 x3 x4 x5
                obtain ⟨x0, x1, x2, x3, x4, x5, _⟩ := HX6.out.six
                go_wp2_with fail
                refine (cright_ok y m d h mi s _ HCV.out).mono ?_
                rintro e w7 ⟨rfl, hb⟩
                have HB7 := Lib.hid (HB6.out.trans (hb.mono HB6.out.size)); have HX7 := Lib.hid (HX6.out.belowAll hb)
                clear hb HX6 HB6 x0 x1 x2 x3 x4 x5
                obtain ⟨x0, x1, x2, x3, x4, x5, _⟩ := HX7.out.six
                go_wp2_with fail
                refine (cofR_ok t y m d h mi s _ HCO.out).mono ?_
                rintro e w8 ⟨rfl, hb⟩
                have HB8 := Lib.hid (HB7.out.trans (hb.mono HB7.out.size))
                clear hb HX7 HB7 x0 x1 x2 x3 x4 x5
                go_wp2_with fail
                go_roundw
                case rel => exact ⟨k + 1, by omega, by go_num, HB8.out⟩
                case measure => simp [intOf]; omega
              · have HCV := Lib.hid hcv
                clear hcv
                go_wp2_with fail
                generalize wr.alloc _ = w4 at *
                generalize wr.heap.size = g at *
                refine (tof_no y m d h mi s _ HLA.out HCV.out).mono ?_
                rintro e w5 ⟨rfl, hb⟩
                have HB5 := Lib.hid (HBA.out.trans (hb.mono HBA.out.size)); have HL5 := Lib.hid (HLA.out.on hb); have HX5 := Lib.hid (HX.out.belowAll hb)
                obtain ⟨x0, x1, x2, x3, x4, x5, _⟩ := HX5.out.six
                clear hb HX HLA HBA c0 c1 c2 c3 c4 c5
                go_wp2_with fail
                refine (tcheck_any y m d h mi s _ HL5.out).mono ?_
                rintro e w6 ⟨hr, hb⟩
                rcases hr with ⟨hn, _⟩ | ⟨_, rfl⟩
                · exact absurd hn HCV.out
                have HB6 := Lib.hid (HB5.out.trans (hb.mono HB5.out.size)); have HX6 := Lib.hid (HX5.out.belowAll hb)
                clear hb HX5 HL5 HB5 x0 x1 x2 x3 x4 x5
                obtain ⟨x0, x1, x2, x3, x4, x5, _⟩ := HX6.out.six
                go_wp2_with fail
                refine (cright_no y m d h mi s _ HCV.out).mono ?_
                rintro e w7 ⟨rfl, hb⟩
                have HB7 := Lib.hid (HB6.out.trans (hb.mono HB6.out.size))
                clear hb HX6 HB6 x0 x1 x2 x3 x4 x5
                go_wp2_with fail
                go_roundw
                case rel => exact ⟨k + 1, by omega, by go_num, HB7.out⟩
                case measure => simp [intOf]; omega
          · obtain rfl : k = n' := by omega
            clear hb
            go_wp2_with fail
            go_ret
            exact ⟨rfl, HB.out⟩
      · go_wp2_with fail
        go_loopw [93] (fun i wr => ∃ (k : Nat), k ≤ n' ∧ i = .int .i64 k ∧ Below w.heap.size w wr) (fun i _ => n' - (intOf i).toNat)
        case atStart => exact ⟨0, Nat.zero_le _, rfl, HB.out⟩
        case round =>
          clear HB
          obtain ⟨k, hk, rfl, hb⟩ := hrel
          have HB := Lib.hid hb
          by_cases hlt : k < n'
          · obtain ⟨b', o', y, m, d, h, mi, s, rfl, hbl', c0, c1, c2, c3, c4, c5⟩ := HC.out.on hb k hlt
            obtain ⟨b0, bB, bs⟩ := box_civ wr y m d h mi s
            have HBA := Lib.hid (HB.out.trans (bB.mono hb.size)); have HX := Lib.hid b0; have HLA := Lib.hid ((HL.out.on hb).on bB); have HSZ := Lib.hid hb.size
            unfold civO at *
            clear hb b0 bB bs
            by_cases h10 : k = 10
            · subst h10
              go_wp2_with fail
              go_ret
              exact ⟨rfl, HBA.out⟩
            · have h10' : ((k : Int) == 10) = false := by simp; omega
              clear h10
              by_cases hcv : CivR y m d h mi s
              · have HCV := Lib.hid hcv
                clear hcv
                go_wp2_with fail
                generalize wr.alloc _ = w4 at *
                generalize wr.heap.size = g at *
                refine (tof_ok y m d h mi s _ HLA.out HCV.out).mono ?_
                rintro e w5 ⟨rfl, hb⟩
                have HB5 := Lib.hid (HBA.out.trans (hb.mono HBA.out.size)); have HL5 := Lib.hid (HLA.out.on hb); have HX5 := Lib.hid (HX.out.belowAll hb)
                obtain ⟨x0, x1, x2, x3, x4, x5, _⟩ := HX5.out.six
                clear hb HX HLA HBA c0 c1 c2 c3 c4 c5
                have HCO := Lib.hid HCV.out.of
                generalize timeZ y m d h mi s = t at *
                go_wp2_with fail
                refine (tcheck_any y m d h mi s _ HL5.out).mono ?_
                rintro e w6 ⟨hr, hb⟩
                rcases hr with ⟨_, rfl⟩ | ⟨hn, _⟩
                rotate_left
                · exact absurd HCV.out hn
                have HB6 := Lib.hid (HB5.out.trans (hb.mono HB5.out.size)); have HX6 := Lib.hid (HX5.out.belowAll hb)
                clear hb HX5 HL5 HB5 x0 x1 x2 x3 x4 x5
                obtain ⟨x0, x1, x2, x3, x4, x5, _⟩ := HX6.out.six
                go_wp2_with fail
                refine (cright_ok y m d h mi s _ HCV.out).mono ?_
                rintro e w7 ⟨rfl, hb⟩
                have HB7 := Lib.hid (HB6.out.trans (hb.mono HB6.out.size)); have HX7 := Lib.hid (HX6.out.belowAll hb)
                clear hb HX6 HB6 x0 x1 x2 x3 x4 x5
                obtain ⟨x0, x1, x2, x3, x4, x5, _⟩ := HX7.out.six
                go_wp2_with fail
                refine (cofR_ok t y m d h mi s _ HCO.out).mono ?_
                rintro e w8 ⟨rfl, hb⟩
                have HB8 := Lib.hid (HB7.out.trans (hb.mono HB7.out.size))
                clear hb HX7 HB7 x0 x1 x2 x3 x4 x5
                go_wp2_with fail
                go_roundw
                case rel => exact ⟨k + 1, by omega, by go_num, HB8.out⟩
                case measure => simp [intOf]; omega
              · have HCV := Lib.hid hcv
                clear hcv
                go_wp2_with fail
                generalize wr.alloc _ = w4 at *
                generalize wr.heap.size = g at *
                refine (tof_no y m d h mi s _ HLA.out HCV.out).mono ?_
                rintro e w5 ⟨rfl, hb⟩
                have HB5 := Lib.hid (HBA.out.trans (hb.mono HBA.out.size)); have HL5 := Lib.hid (HLA.out.on hb); have HX5 := Lib.hid (HX.out.belowAll hb)
                obtain ⟨x0, x1, x2, x3, x4, x5, _⟩ := HX5.out.six
                clear hb HX HLA HBA c0 c1 c2 c3 c4 c5
                go_wp2_with fail
                refine (tcheck_any y m d h mi s _ HL5.out).mono ?_
                rintro e w6 ⟨hr, hb⟩
                rcases hr with ⟨hn, _⟩ | ⟨_, rfl⟩
                · exact absurd hn HCV.out
                have HB6 := Lib.hid (HB5.out.trans (hb.mono HB5.out.size)); have HX6 := Lib.hid (HX5.out.belowAll hb)
                clear hb HX5 HL5 HB5 x0 x1 x2 x3 x4 x5
                obtain ⟨x0, x1, x2, x3, x4, x5, _⟩ := HX6.out.six
                go_wp2_with fail
                refine (cright_no y m d h mi s _ HCV.out).mono ?_
                rintro e w7 ⟨rfl, hb⟩
                have HB7 := Lib.hid (HB6.out.trans (hb.mono HB6.out.size))
                clear hb HX6 HB6 x0 x1 x2 x3 x4 x5
                go_wp2_with fail
                go_roundw
                case rel => exact ⟨k + 1, by omega, by go_num, HB7.out⟩
                case measure => simp [intOf]; omega
          · obtain rfl : k = n' := by omega
            clear hb
            go_wp2_with fail
            go_ret
            exact ⟨rfl, HB.out⟩
end Go.Proofs.YtnhbkfmaaannnaaDoor
