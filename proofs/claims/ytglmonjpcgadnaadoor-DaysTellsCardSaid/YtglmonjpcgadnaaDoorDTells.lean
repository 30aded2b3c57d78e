/- DaysTells: which dates may be, and how they stand; leap years, and how long months are. -/
import Derived.Test.YtglmonjpcgadnaaDoorDNumbers
import Derived.Test.YtglmonjpcgadnaaDoorDCmpR
namespace Go.Proofs.YtglmonjpcgadnaaDoor
open Go.RowKit

theorem compareR_raw (y m d y' m' d' : Int) (w : World) :
    Calls Tryd.prog 13 #[.agg #[.int .i64 y, .int .i64 m, .int .i64 d], .agg #[.int .i64 y', .int .i64 m', .int .i64 d']] w fun e w' => e = .returned (.int .i64 (cmpZ y m d y' m' d')) ∧ Below w.heap.size w w' := compareR_any y m d y' m' d' w
set_option maxHeartbeats 4000000 in
set_option maxRecDepth 100000 in
theorem tells_walk (A : Option Addr) (n c : Nat) (B : Option Addr) (p q : Nat) (C : Option Addr) (r s : Nat) (zs us : List Int) (w : World) (hL : Laid w) (hn : n ≤ maxLen) (hp : p ≤ maxLen) (hr : r ≤ maxLen) (hd : DatesIn w w.heap.size A n) (hz : ArrZ w w.heap.size B p zs) (hu : ArrZ w w.heap.size C r us) :
    Calls Tryd.prog 3 #[.slice A n c, .slice B p q, .slice C r s] w fun e w' => e = .returned (.bool true) ∧ Below w.heap.size w w' := by
  unfold maxLen at hn hp hr
  have hwk := wakes_any _ hL
  have HW := Lib.hid hwk
  have HL := Lib.hid hL; have HD := Lib.hid hd; have HZ := Lib.hid hz; have HU := Lib.hid hu
  clear hwk hL hd hz hu
  go_enter Tryd.func3, Tryd.ntmps3
  go_wp2_with fail
  refine HW.out.mono ?_
  rintro e w2 ⟨rfl, hb⟩
  have HB2 := Lib.hid hb
  clear HW hb
  go_wp2_with fail
  go_loopw [18] (fun i wr => ∃ k : Nat, k ≤ n ∧ k ≤ 12 ∧ i = .int .i64 k ∧ Below w.heap.size w wr) (fun i _ => n - (intOf i).toNat)
  case atStart => exact ⟨0, by omega, by omega, rfl, HB2.out⟩
  case round =>
    clear HB2
    obtain ⟨k, hk, hk6, rfl, hB⟩ := hrel
    have HB := Lib.hid hB
    clear hB
    by_cases hkn : k < n
    · obtain ⟨b0, o0, y0, m0, d0, hA0, hbB0, h00, h01, h02⟩ := (HD.out.below HB.out) 0 (by omega)
      obtain ⟨b, o, y, m, d, hA1, hbB, hc0, hc1, hc2⟩ := (HD.out.below HB.out) k hkn
      rw [hA0] at hA1
      cases hA1
      subst hA0
      have i0 : (0 : Int) ≤ (k : Int) := by omega
      have n0 : 0 < n := by omega
      by_cases hks : k = 12
      · have hk6' : ((k : Int) == 12) = true := by simp; omega
        have HBy := Lib.hid (HB.out.alloc HB.out.size (dateO y m d))
        unfold dateO at HBy
        clear hks HB h00 h01 h02
        have HB := HBy
        clear HBy
        go_wp2_with fail
        go_loopw [69] (fun i wr => ∃ k : Nat, k ≤ p ∧ k ≤ 12 ∧ i = .int .i64 k ∧ Below w.heap.size w wr) (fun i _ => p - (intOf i).toNat)
        case atStart => exact ⟨0, by omega, by omega, rfl, HB.out⟩
        case round =>
          clear HB
          clear hc0 hc1 hc2 i0 hk hk6 hkn n0 hbB0 hbB
          obtain ⟨k, hk, hk6, rfl, hB⟩ := hrel
          have HB := Lib.hid hB
          clear hB
          by_cases hkn : k < p
          · obtain ⟨b, o, rfl, hbB, hc, _, _⟩ := (HZ.out.below HB.out) k hkn
            generalize nthI zs k = z at *
            have i0 : (0 : Int) ≤ (k : Int) := by omega
            by_cases hks : k = 12
            · have hk6' : ((k : Int) == 12) = true := by simp; omega
              clear hks
              go_wp2_with fail
              go_ret
              exact ⟨rfl, HB.out⟩
            · have hk6' : ((k : Int) == 12) = false := by simp; omega
              have hk5 : k + 1 ≤ 12 := by omega
              have HLr := Lib.hid (HL.out.on HB.out)
              clear hks
              go_wp2_with fail
              refine (leap_any z _).mono ?_
              rintro e w3 ⟨rfl, rfl⟩
              go_wp2_with fail
              refine (leapR_any z _).mono ?_
              rintro e w3 ⟨rfl, rfl⟩
              generalize leapZ z = lp at *
              go_wp2_with fail
              go_loopw [83] (fun i wr' => ∃ j : Nat, j ≤ r ∧ i = .int .i64 j ∧ wr' = wr) (fun i _ => r - (intOf i).toNat)
              case atStart => exact ⟨0, by omega, rfl, rfl⟩
              case round =>
                obtain ⟨j, hj, rfl, rfl⟩ := hrel
                by_cases hjr : j < r
                · obtain ⟨b2, o2, rfl, hbB2, hc2, _, _⟩ := (HU.out.below HB.out) j hjr
                  generalize nthI us j = u at *
                  have j0 : (0 : Int) ≤ (j : Int) := by omega
                  by_cases hj12 : (j : Int) < 12
                  · have hj12' : decide ((j : Int) < 12) = true := by simpa using hj12
                    go_wp2_with fail
                    refine (long_any z u _ HLr.out).mono ?_
                    rintro e w3 ⟨rfl, rfl⟩
                    go_wp2_with fail
                    refine (longR_any z u _).mono ?_
                    rintro e w3 ⟨rfl, rfl⟩
                    generalize mlZ z u = ml at *
                    go_wp2_with fail
                    go_roundw
                    case rel => exact ⟨j + 1, by omega, by go_num, trivial⟩
                    case measure => simp [intOf]; omega
                  · have hj12' : decide ((j : Int) < 12) = false := by simpa using hj12
                    go_wp2_with fail
                    go_roundw
                    case rel => exact ⟨j + 1, by omega, by go_num, trivial⟩
                    case measure => simp [intOf]; omega
                · have hjr' : j = r := by omega
                  subst hjr'
                  go_wp2_with fail
                  go_roundw
                  case rel => exact ⟨k + 1, by omega, by omega, by go_num, HB.out⟩
                  case measure => simp [intOf]; omega
          · have hkn' : k = p := by omega
            subst hkn'
            go_wp2_with fail
            go_ret
            exact ⟨rfl, HB.out⟩
      · have hk6' : ((k : Int) == 12) = false := by simp; omega
        have hk5 : k + 1 ≤ 12 := by omega
        have HLr := Lib.hid (HL.out.on HB.out)
        have hX := DateAt.new wr y m d
        have HBa := Lib.hid (HB.out.alloc HB.out.size (dateO y m d))
        have HLa := Lib.hid (HLr.out.alloc (dateO y m d))
        unfold dateO at *
        have HX := Lib.hid hX
        have hbr : o0 + 0 * 3 = o0 := by omega
        rw [hbr] at h00 h01 h02
        have hB0 : b0 < wr.heap.size := Nat.lt_of_lt_of_le hbB0 HB.out.size
        have HF := Lib.hid (And.intro h00 (And.intro h01 h02))
        clear hks HB HLr hX hbr h00 h01 h02
        go_wp2_with fail
        by_cases hR : RightZ y m d
        · refine (check_ok y m d _ HLa.out hR).mono ?_
          rintro e w3 ⟨rfl, hb⟩
          have hX3 := HX.out.on hb
          have hB3 := HBa.out.trans (hb.mono HBa.out.size)
          have hbw : Below wr.heap.size wr w3 := ((Below.refl _ wr).alloc (Nat.le_refl _) _).trans (hb.mono (by simp))
          have hl0 : w3.cell? ⟨b0, o0, none⟩ = some (.int .i64 y0) ∧ w3.cell? ⟨b0, o0 + 1, none⟩ = some (.int .i64 m0) ∧ w3.cell? ⟨b0, o0 + 2, none⟩ = some (.int .i64 d0) :=
            ⟨(hbw.cell (p := ⟨b0, o0, none⟩) hB0).trans HF.out.1, (hbw.cell (p := ⟨b0, o0 + 1, none⟩) hB0).trans HF.out.2.1, (hbw.cell (p := ⟨b0, o0 + 2, none⟩) hB0).trans HF.out.2.2⟩
          have hB03 : b0 < w3.heap.size := Nat.lt_of_lt_of_le hB0 hbw.size
          have hKX : ∀ w', Below w3.heap.size w3 w' → (w'.cell? ⟨wr.heap.size, 0, none⟩ = some (.int .i64 y) ∧ w'.cell? ⟨wr.heap.size, 1, none⟩ = some (.int .i64 m) ∧ w'.cell? ⟨wr.heap.size, 2, none⟩ = some (.int .i64 d)) ∧ w'.cell? ⟨b0, o0, none⟩ = some (.int .i64 y0) ∧ w'.cell? ⟨b0, o0 + 1, none⟩ = some (.int .i64 m0) ∧ w'.cell? ⟨b0, o0 + 2, none⟩ = some (.int .i64 d0) := fun w' hb =>
            ⟨(hX3.on hb).cells, (hb.cell (p := ⟨b0, o0, none⟩) hB03).trans hl0.1, (hb.cell (p := ⟨b0, o0 + 1, none⟩) hB03).trans hl0.2.1, (hb.cell (p := ⟨b0, o0 + 2, none⟩) hB03).trans hl0.2.2⟩
          have hright := fun w => right_raw_ok y m d w hR
          have hcmp := fun y m d y' m' d' w => compare_raw y m d y' m' d' w
          have hcmpR := fun y m d y' m' d' w => compareR_raw y m d y' m' d' w
          have hBE := Below.refl w3.heap.size w3
          have HK := Lib.hid hKX; have HRI := Lib.hid hright; have HB3 := Lib.hid hB3
          have HC := Lib.hid hcmp; have HCR := Lib.hid hcmpR
          clear hKX hright hcmp hcmpR hl0 hbw hX3 hb HX HF hB3 HBa HLa hR hc0 hc1 hc2 hB03
          go_wp2_with fail
          refine wp_region_held_drew (S := (fun w' => (w'.cell? ⟨wr.heap.size, 0, none⟩ = some (.int .i64 y) ∧ w'.cell? ⟨wr.heap.size, 1, none⟩ = some (.int .i64 m) ∧ w'.cell? ⟨wr.heap.size, 2, none⟩ = some (.int .i64 d)) ∧ w'.cell? ⟨b0, o0, none⟩ = some (.int .i64 y0) ∧ w'.cell? ⟨b0, o0 + 1, none⟩ = some (.int .i64 m0) ∧ w'.cell? ⟨b0, o0 + 2, none⟩ = some (.int .i64 d0))) (by kernel_rfl) (HK.out _ hBE.drew) (fun hHeld => ?_)
          replace hBE := hBE.drew
          refine wpAnyH_take (i := 0) (oi := { dst := some 27, op := Op.move (Operand.tmp 9), type := 27, pos := "law.go:29", after := #[], guard := none }) (v := ?v1) rfl (by kernel_rfl) (by kernel_rfl) (by kernel_rfl) (fun _ _ _ h => h) (Or.inl ⟨by rfl, ?h1⟩) (by assumption) ?r1
          case h1 => (intro w hSw; (try dsimp only at hSw); go_simp; (try with_reducible rfl))
          try simp only [Act.put, List.setIfInBounds_toArray, List.set_cons_zero, List.set_cons_succ]
          refine wpAnyH_take (i := 1) (oi := { dst := some 28, op := Op.binOp BinOp.eql 27 (Operand.tmp 27) (Operand.const (Value.int IntKind.i64 0)) 27, type := 4, pos := "law.go:29", after := #[{ on := 0, ground := Ground.data }], guard := none }) (v := ?v2) rfl (by kernel_rfl) (by kernel_rfl) (by kernel_rfl) (fun _ _ _ h => h) (Or.inl ⟨by rfl, ?h2⟩) (by assumption) ?r2
          case h2 => (intro w hSw; (try dsimp only at hSw); go_simp; (try with_reducible rfl))
          try simp only [Act.put, List.setIfInBounds_toArray, List.set_cons_zero, List.set_cons_succ]
          refine wpAnyH_take (i := 2) (oi := { dst := some 29, op := Op.load 26 (Operand.tmp 8), type := 26, pos := "law.go:29", after := #[], guard := none }) (v := ?v3) rfl (by kernel_rfl) (by kernel_rfl) (by kernel_rfl) (fun _ _ _ h => h) (Or.inl ⟨by rfl, ?h3⟩) (by assumption) ?r3
          case h3 => (intro w hSw; (try dsimp only at hSw); go_simp; (try with_reducible rfl))
          try simp only [Act.put, List.setIfInBounds_toArray, List.set_cons_zero, List.set_cons_succ]
          refine wpAnyH_ready (rs := [3]) (by kernel_rfl) (by simp) (AllReadyH.cons (o := { dst := some 30, op := Op.call { callee := Callee.value (Operand.func 11), args := #[Operand.tmp 29], argTypes := #[26] }, type := 4, pos := "law.go:29", after := #[{ on := 2, ground := Ground.data }], guard := none }) rfl (fun K hK => ?_) AllReadyH.nil)
          go_simp
          go_at_call 11; (with_reducible refine (HRI.out _).mono ?_)
          rintro e wa ⟨rfl, hb⟩
          replace hBE := hBE.trans (hb.mono hBE.size)
          clear hb
          refine hK.out _ _ (HK.out _ hBE) (fun hHeld2 => ?_)
          clear hK K hHeld
          have hHeld := hHeld2
          clear hHeld2
          try simp only [Act.put, List.setIfInBounds_toArray, List.set_cons_zero, List.set_cons_succ]
          refine wpAnyH_take (i := 4) (oi := { dst := some 31, op := Op.binOp BinOp.neq 4 (Operand.tmp 28) (Operand.tmp 30) 4, type := 4, pos := "law.go:29", after := #[{ on := 1, ground := Ground.data }, { on := 3, ground := Ground.data }], guard := none }) (v := ?v5) rfl (by kernel_rfl) (by kernel_rfl) (by kernel_rfl) (fun _ _ _ h => h) (Or.inl ⟨by rfl, ?h5⟩) (by assumption) ?r5
          case h5 => (intro w hSw; (try dsimp only at hSw); go_simp; (try with_reducible rfl))
          try simp only [Act.put, List.setIfInBounds_toArray, List.set_cons_zero, List.set_cons_succ]
          refine wpAnyH_take (i := 5) (oi := { dst := some 32, op := Op.move (Operand.tmp 31), type := 4, pos := "law.go:29", after := #[{ on := 4, ground := Ground.data }, { on := 3, ground := Ground.chain }], guard := none }) (v := ?v6) rfl (by kernel_rfl) (by kernel_rfl) (by kernel_rfl) (fun _ _ _ h => h) (Or.inl ⟨by rfl, ?h6⟩) (by assumption) ?r6
          case h6 => (intro w hSw; (try dsimp only at hSw); go_simp; (try with_reducible rfl))
          try simp only [Act.put, List.setIfInBounds_toArray, List.set_cons_zero, List.set_cons_succ]
          refine wpAnyH_take (i := 6) (oi := { dst := some 33, op := Op.move (Operand.tmp 9), type := 27, pos := "law.go:29", after := #[{ on := 5, ground := Ground.guard }], guard := some (5, false) }) (v := ?v7) rfl (by kernel_rfl) (by kernel_rfl) (by kernel_rfl) (fun _ _ _ h => h) (Or.inl ⟨by rfl, ?h7⟩) (by assumption) ?r7
          case h7 => (intro w hSw; (try dsimp only at hSw); go_simp; (try with_reducible rfl))
          try simp only [Act.put, List.setIfInBounds_toArray, List.set_cons_zero, List.set_cons_succ]
          refine wpAnyH_take (i := 7) (oi := { dst := some 34, op := Op.binOp BinOp.neq 27 (Operand.tmp 33) (Operand.const (Value.int IntKind.i64 0)) 27, type := 4, pos := "law.go:29", after := #[{ on := 6, ground := Ground.data }, { on := 5, ground := Ground.guard }], guard := some (5, false) }) (v := ?v8) rfl (by kernel_rfl) (by kernel_rfl) (by kernel_rfl) (fun _ _ _ h => h) (Or.inl ⟨by rfl, ?h8⟩) (by assumption) ?r8
          case h8 => (intro w hSw; (try dsimp only at hSw); go_simp; (try with_reducible rfl))
          try simp only [Act.put, List.setIfInBounds_toArray, List.set_cons_zero, List.set_cons_succ]
          refine wpAnyH_take (i := 8) (oi := { dst := some 35, op := Op.move (Operand.tmp 34), type := 4, pos := "law.go:29", after := #[{ on := 7, ground := Ground.data }, { on := 5, ground := Ground.chain }, { on := 5, ground := Ground.guard }], guard := some (5, false) }) (v := ?v9) rfl (by kernel_rfl) (by kernel_rfl) (by kernel_rfl) (fun _ _ _ h => h) (Or.inl ⟨by rfl, ?h9⟩) (by assumption) ?r9
          case h9 => (intro w hSw; (try dsimp only at hSw); go_simp; (try with_reducible rfl))
          try simp only [Act.put, List.setIfInBounds_toArray, List.set_cons_zero, List.set_cons_succ]
          refine wpAnyH_take (i := 9) (oi := { dst := some 36, op := Op.move (Operand.tmp 9), type := 27, pos := "law.go:29", after := #[{ on := 8, ground := Ground.guard }], guard := some (8, true) }) (v := undef) rfl (by kernel_rfl) (by kernel_rfl) (by kernel_rfl) (fun _ _ _ h => h) (Or.inr ⟨by rfl, rfl⟩) (by assumption) ?_
          try simp only [Act.put, List.setIfInBounds_toArray, List.set_cons_zero, List.set_cons_succ]
          refine wpAnyH_take (i := 10) (oi := { dst := some 37, op := Op.binOp BinOp.neq 27 (Operand.tmp 36) (Operand.const (Value.int IntKind.i64 140)) 27, type := 4, pos := "law.go:29", after := #[{ on := 9, ground := Ground.data }, { on := 8, ground := Ground.guard }], guard := some (8, true) }) (v := undef) rfl (by kernel_rfl) (by kernel_rfl) (by kernel_rfl) (fun _ _ _ h => h) (Or.inr ⟨by rfl, rfl⟩) (by assumption) ?_
          try simp only [Act.put, List.setIfInBounds_toArray, List.set_cons_zero, List.set_cons_succ]
          refine wpAnyH_take (i := 11) (oi := { dst := some 38, op := Op.pick (Operand.tmp 35) (Operand.tmp 37) (Operand.const (Value.bool false)), type := 4, pos := "law.go:29", after := #[{ on := 8, ground := Ground.data }, { on := 10, ground := Ground.data }, { on := 5, ground := Ground.guard }], guard := some (5, false) }) (v := ?v12) rfl (by kernel_rfl) (by kernel_rfl) (by kernel_rfl) (fun _ _ _ h => h) (Or.inl ⟨by rfl, ?h12⟩) (by assumption) ?r12
          case h12 => (intro w hSw; (try dsimp only at hSw); go_simp; (try with_reducible rfl))
          try simp only [Act.put, List.setIfInBounds_toArray, List.set_cons_zero, List.set_cons_succ]
          refine wpAnyH_take (i := 12) (oi := { dst := some 39, op := Op.pick (Operand.tmp 32) (Operand.const (Value.bool true)) (Operand.tmp 38), type := 4, pos := "law.go:29", after := #[{ on := 5, ground := Ground.data }, { on := 11, ground := Ground.data }], guard := none }) (v := ?v13) rfl (by kernel_rfl) (by kernel_rfl) (by kernel_rfl) (fun _ _ _ h => h) (Or.inl ⟨by rfl, ?h13⟩) (by assumption) ?r13
          case h13 => (intro w hSw; (try dsimp only at hSw); go_simp; (try with_reducible rfl))
          try simp only [Act.put, List.setIfInBounds_toArray, List.set_cons_zero, List.set_cons_succ]
          refine wpAnyH_take (i := 13) (oi := { dst := some 40, op := Op.move (Operand.tmp 39), type := 4, pos := "law.go:29", after := #[{ on := 12, ground := Ground.data }, { on := 8, ground := Ground.chain }], guard := none }) (v := ?v14) rfl (by kernel_rfl) (by kernel_rfl) (by kernel_rfl) (fun _ _ _ h => h) (Or.inl ⟨by rfl, ?h14⟩) (by assumption) ?r14
          case h14 => (intro w hSw; (try dsimp only at hSw); go_simp; (try with_reducible rfl))
          try simp only [Act.put, List.setIfInBounds_toArray, List.set_cons_zero, List.set_cons_succ]
          refine wpAnyH_take (i := 14) (oi := { dst := some 41, op := Op.load 26 (Operand.tmp 8), type := 26, pos := "law.go:29", after := #[{ on := 13, ground := Ground.guard }], guard := some (13, false) }) (v := ?v15) rfl (by kernel_rfl) (by kernel_rfl) (by kernel_rfl) (fun _ _ _ h => h) (Or.inl ⟨by rfl, ?h15⟩) (by assumption) ?r15
          case h15 => (intro w hSw; (try dsimp only at hSw); go_simp; (try with_reducible rfl))
          try simp only [Act.put, List.setIfInBounds_toArray, List.set_cons_zero, List.set_cons_succ]
          refine wpAnyH_take (i := 15) (oi := { dst := some 42, op := Op.move (Operand.tmp 0), type := 22, pos := "law.go:29", after := #[{ on := 13, ground := Ground.guard }], guard := some (13, false) }) (v := ?v16) rfl (by kernel_rfl) (by kernel_rfl) (by kernel_rfl) (fun _ _ _ h => h) (Or.inl ⟨by rfl, ?h16⟩) (by assumption) ?r16
          case h16 => (intro w hSw; (try dsimp only at hSw); go_simp; (try with_reducible rfl))
          try simp only [Act.put, List.setIfInBounds_toArray, List.set_cons_zero, List.set_cons_succ]
          refine wpAnyH_take (i := 16) (oi := { dst := some 43, op := Op.indexAddr 22 (Operand.tmp 42) (Operand.const (Value.int IntKind.i64 0)), type := 0, pos := "law.go:29", after := #[{ on := 15, ground := Ground.data }, { on := 13, ground := Ground.guard }], guard := some (13, false) }) (v := ?v17) rfl (by kernel_rfl) (by kernel_rfl) (by kernel_rfl) (fun _ _ _ h => h) (Or.inl ⟨by rfl, ?h17⟩) (by assumption) ?r17
          case h17 => (intro w hSw; (try dsimp only at hSw); go_simp; (try with_reducible rfl))
          try simp only [Act.put, List.setIfInBounds_toArray, List.set_cons_zero, List.set_cons_succ]
          refine wpAnyH_take (i := 17) (oi := { dst := some 44, op := Op.load 26 (Operand.tmp 43), type := 26, pos := "law.go:29", after := #[{ on := 16, ground := Ground.data }, { on := 13, ground := Ground.guard }], guard := some (13, false) }) (v := ?v18) rfl (by kernel_rfl) (by kernel_rfl) (by kernel_rfl) (fun _ _ _ h => h) (Or.inl ⟨by rfl, ?h18⟩) (by assumption) ?r18
          case h18 => (intro w hSw; (try dsimp only at hSw); go_simp; (try with_reducible rfl))
          try simp only [Act.put, List.setIfInBounds_toArray, List.set_cons_zero, List.set_cons_succ]
          refine wpAnyH_take (i := 19) (oi := { dst := some 46, op := Op.load 26 (Operand.tmp 8), type := 26, pos := "law.go:29", after := #[{ on := 13, ground := Ground.guard }], guard := some (13, false) }) (v := ?v19) rfl (by kernel_rfl) (by kernel_rfl) (by kernel_rfl) (fun _ _ _ h => h) (Or.inl ⟨by rfl, ?h19⟩) (by assumption) ?r19
          case h19 => (intro w hSw; (try dsimp only at hSw); go_simp; (try with_reducible rfl))
          try simp only [Act.put, List.setIfInBounds_toArray, List.set_cons_zero, List.set_cons_succ]
          refine wpAnyH_take (i := 20) (oi := { dst := some 47, op := Op.move (Operand.tmp 0), type := 22, pos := "law.go:29", after := #[{ on := 13, ground := Ground.guard }], guard := some (13, false) }) (v := ?v20) rfl (by kernel_rfl) (by kernel_rfl) (by kernel_rfl) (fun _ _ _ h => h) (Or.inl ⟨by rfl, ?h20⟩) (by assumption) ?r20
          case h20 => (intro w hSw; (try dsimp only at hSw); go_simp; (try with_reducible rfl))
          try simp only [Act.put, List.setIfInBounds_toArray, List.set_cons_zero, List.set_cons_succ]
          refine wpAnyH_take (i := 21) (oi := { dst := some 48, op := Op.indexAddr 22 (Operand.tmp 47) (Operand.const (Value.int IntKind.i64 0)), type := 0, pos := "law.go:29", after := #[{ on := 20, ground := Ground.data }, { on := 13, ground := Ground.guard }], guard := some (13, false) }) (v := ?v21) rfl (by kernel_rfl) (by kernel_rfl) (by kernel_rfl) (fun _ _ _ h => h) (Or.inl ⟨by rfl, ?h21⟩) (by assumption) ?r21
          case h21 => (intro w hSw; (try dsimp only at hSw); go_simp; (try with_reducible rfl))
          try simp only [Act.put, List.setIfInBounds_toArray, List.set_cons_zero, List.set_cons_succ]
          refine wpAnyH_take (i := 22) (oi := { dst := some 49, op := Op.load 26 (Operand.tmp 48), type := 26, pos := "law.go:29", after := #[{ on := 21, ground := Ground.data }, { on := 13, ground := Ground.guard }], guard := some (13, false) }) (v := ?v22) rfl (by kernel_rfl) (by kernel_rfl) (by kernel_rfl) (fun _ _ _ h => h) (Or.inl ⟨by rfl, ?h22⟩) (by assumption) ?r22
          case h22 => (intro w hSw; (try dsimp only at hSw); go_simp; (try with_reducible rfl))
          try simp only [Act.put, List.setIfInBounds_toArray, List.set_cons_zero, List.set_cons_succ]
          refine wpAnyH_ready (rs := [18]) (by kernel_rfl) (by simp) (AllReadyH.cons (o := { dst := some 45, op := Op.call { callee := Callee.value (Operand.func 12), args := #[Operand.tmp 41, Operand.tmp 44], argTypes := #[26, 26] }, type := 3, pos := "law.go:29", after := #[{ on := 14, ground := Ground.data }, { on := 17, ground := Ground.data }, { on := 13, ground := Ground.chain }, { on := 13, ground := Ground.guard }], guard := some (13, false) }) rfl (fun K hK => ?_) AllReadyH.nil)
          go_simp
          go_at_call 12; (with_reducible refine (HC.out _ _ _ _ _ _ _).mono ?_)
          rintro e wa ⟨rfl, hb⟩
          replace hBE := hBE.trans (hb.mono hBE.size)
          clear hb
          refine hK.out _ _ (HK.out _ hBE) (fun hHeld2 => ?_)
          clear hK K hHeld
          have hHeld := hHeld2
          clear hHeld2
          try simp only [Act.put, List.setIfInBounds_toArray, List.set_cons_zero, List.set_cons_succ]
          refine wpAnyH_ready (rs := [23]) (by kernel_rfl) (by simp) (AllReadyH.cons (o := { dst := some 50, op := Op.call { callee := Callee.value (Operand.func 13), args := #[Operand.tmp 46, Operand.tmp 49], argTypes := #[26, 26] }, type := 3, pos := "law.go:29", after := #[{ on := 19, ground := Ground.data }, { on := 22, ground := Ground.data }, { on := 18, ground := Ground.chain }, { on := 13, ground := Ground.guard }], guard := some (13, false) }) rfl (fun K hK => ?_) AllReadyH.nil)
          go_simp
          go_at_call 13; (with_reducible refine (HCR.out _ _ _ _ _ _ _).mono ?_)
          rintro e wa ⟨rfl, hb⟩
          replace hBE := hBE.trans (hb.mono hBE.size)
          clear hb
          refine hK.out _ _ (HK.out _ hBE) (fun hHeld2 => ?_)
          clear hK K hHeld
          have hHeld := hHeld2
          clear hHeld2
          try simp only [Act.put, List.setIfInBounds_toArray, List.set_cons_zero, List.set_cons_succ]
          refine wpAnyH_take (i := 24) (oi := { dst := some 51, op := Op.binOp BinOp.neq 3 (Operand.tmp 45) (Operand.tmp 50) 3, type := 4, pos := "law.go:29", after := #[{ on := 18, ground := Ground.data }, { on := 23, ground := Ground.data }, { on := 13, ground := Ground.guard }], guard := some (13, false) }) (v := ?v25) rfl (by kernel_rfl) (by kernel_rfl) (by kernel_rfl) (fun _ _ _ h => h) (Or.inl ⟨by rfl, ?h25⟩) (by assumption) ?r25
          case h25 => (intro w hSw; (try dsimp only at hSw); go_simp; (try with_reducible rfl))
          try simp only [Act.put, List.setIfInBounds_toArray, List.set_cons_zero, List.set_cons_succ]
          refine wpAnyH_take (i := 25) (oi := { dst := some 52, op := Op.pick (Operand.tmp 40) (Operand.const (Value.bool true)) (Operand.tmp 51), type := 4, pos := "law.go:29", after := #[{ on := 13, ground := Ground.data }, { on := 24, ground := Ground.data }], guard := none }) (v := ?v26) rfl (by kernel_rfl) (by kernel_rfl) (by kernel_rfl) (fun _ _ _ h => h) (Or.inl ⟨by rfl, ?h26⟩) (by assumption) ?r26
          case h26 => (intro w hSw; (try dsimp only at hSw); go_simp; (try with_reducible rfl))
          try simp only [Act.put, List.setIfInBounds_toArray, List.set_cons_zero, List.set_cons_succ]
          refine wpAnyH_take (i := 26) (oi := { dst := some 53, op := Op.move (Operand.tmp 52), type := 4, pos := "law.go:29", after := #[{ on := 25, ground := Ground.data }, { on := 23, ground := Ground.chain }], guard := none }) (v := ?v27) rfl (by kernel_rfl) (by kernel_rfl) (by kernel_rfl) (fun _ _ _ h => h) (Or.inl ⟨by rfl, ?h27⟩) (by assumption) ?r27
          case h27 => (intro w hSw; (try dsimp only at hSw); go_simp; (try with_reducible rfl))
          try simp only [Act.put, List.setIfInBounds_toArray, List.set_cons_zero, List.set_cons_succ]
          refine wpAnyH_take (i := 27) (oi := { dst := some 54, op := Op.move (Operand.tmp 0), type := 22, pos := "law.go:29", after := #[{ on := 26, ground := Ground.guard }], guard := some (26, false) }) (v := ?v28) rfl (by kernel_rfl) (by kernel_rfl) (by kernel_rfl) (fun _ _ _ h => h) (Or.inl ⟨by rfl, ?h28⟩) (by assumption) ?r28
          case h28 => (intro w hSw; (try dsimp only at hSw); go_simp; (try with_reducible rfl))
          try simp only [Act.put, List.setIfInBounds_toArray, List.set_cons_zero, List.set_cons_succ]
          refine wpAnyH_take (i := 28) (oi := { dst := some 55, op := Op.indexAddr 22 (Operand.tmp 54) (Operand.const (Value.int IntKind.i64 0)), type := 0, pos := "law.go:29", after := #[{ on := 27, ground := Ground.data }, { on := 26, ground := Ground.guard }], guard := some (26, false) }) (v := ?v29) rfl (by kernel_rfl) (by kernel_rfl) (by kernel_rfl) (fun _ _ _ h => h) (Or.inl ⟨by rfl, ?h29⟩) (by assumption) ?r29
          case h29 => (intro w hSw; (try dsimp only at hSw); go_simp; (try with_reducible rfl))
          try simp only [Act.put, List.setIfInBounds_toArray, List.set_cons_zero, List.set_cons_succ]
          refine wpAnyH_take (i := 29) (oi := { dst := some 56, op := Op.load 26 (Operand.tmp 55), type := 26, pos := "law.go:29", after := #[{ on := 28, ground := Ground.data }, { on := 26, ground := Ground.guard }], guard := some (26, false) }) (v := ?v30) rfl (by kernel_rfl) (by kernel_rfl) (by kernel_rfl) (fun _ _ _ h => h) (Or.inl ⟨by rfl, ?h30⟩) (by assumption) ?r30
          case h30 => (intro w hSw; (try dsimp only at hSw); go_simp; (try with_reducible rfl))
          try simp only [Act.put, List.setIfInBounds_toArray, List.set_cons_zero, List.set_cons_succ]
          refine wpAnyH_take (i := 30) (oi := { dst := some 57, op := Op.load 26 (Operand.tmp 8), type := 26, pos := "law.go:29", after := #[{ on := 26, ground := Ground.guard }], guard := some (26, false) }) (v := ?v31) rfl (by kernel_rfl) (by kernel_rfl) (by kernel_rfl) (fun _ _ _ h => h) (Or.inl ⟨by rfl, ?h31⟩) (by assumption) ?r31
          case h31 => (intro w hSw; (try dsimp only at hSw); go_simp; (try with_reducible rfl))
          try simp only [Act.put, List.setIfInBounds_toArray, List.set_cons_zero, List.set_cons_succ]
          refine wpAnyH_take (i := 32) (oi := { dst := some 59, op := Op.move (Operand.tmp 0), type := 22, pos := "law.go:29", after := #[{ on := 26, ground := Ground.guard }], guard := some (26, false) }) (v := ?v32) rfl (by kernel_rfl) (by kernel_rfl) (by kernel_rfl) (fun _ _ _ h => h) (Or.inl ⟨by rfl, ?h32⟩) (by assumption) ?r32
          case h32 => (intro w hSw; (try dsimp only at hSw); go_simp; (try with_reducible rfl))
          try simp only [Act.put, List.setIfInBounds_toArray, List.set_cons_zero, List.set_cons_succ]
          refine wpAnyH_take (i := 33) (oi := { dst := some 60, op := Op.indexAddr 22 (Operand.tmp 59) (Operand.const (Value.int IntKind.i64 0)), type := 0, pos := "law.go:29", after := #[{ on := 32, ground := Ground.data }, { on := 26, ground := Ground.guard }], guard := some (26, false) }) (v := ?v33) rfl (by kernel_rfl) (by kernel_rfl) (by kernel_rfl) (fun _ _ _ h => h) (Or.inl ⟨by rfl, ?h33⟩) (by assumption) ?r33
          case h33 => (intro w hSw; (try dsimp only at hSw); go_simp; (try with_reducible rfl))
          try simp only [Act.put, List.setIfInBounds_toArray, List.set_cons_zero, List.set_cons_succ]
          refine wpAnyH_take (i := 34) (oi := { dst := some 61, op := Op.load 26 (Operand.tmp 60), type := 26, pos := "law.go:29", after := #[{ on := 33, ground := Ground.data }, { on := 26, ground := Ground.guard }], guard := some (26, false) }) (v := ?v34) rfl (by kernel_rfl) (by kernel_rfl) (by kernel_rfl) (fun _ _ _ h => h) (Or.inl ⟨by rfl, ?h34⟩) (by assumption) ?r34
          case h34 => (intro w hSw; (try dsimp only at hSw); go_simp; (try with_reducible rfl))
          try simp only [Act.put, List.setIfInBounds_toArray, List.set_cons_zero, List.set_cons_succ]
          refine wpAnyH_take (i := 35) (oi := { dst := some 62, op := Op.load 26 (Operand.tmp 8), type := 26, pos := "law.go:29", after := #[{ on := 26, ground := Ground.guard }], guard := some (26, false) }) (v := ?v35) rfl (by kernel_rfl) (by kernel_rfl) (by kernel_rfl) (fun _ _ _ h => h) (Or.inl ⟨by rfl, ?h35⟩) (by assumption) ?r35
          case h35 => (intro w hSw; (try dsimp only at hSw); go_simp; (try with_reducible rfl))
          try simp only [Act.put, List.setIfInBounds_toArray, List.set_cons_zero, List.set_cons_succ]
          refine wpAnyH_ready (rs := [31]) (by kernel_rfl) (by simp) (AllReadyH.cons (o := { dst := some 58, op := Op.call { callee := Callee.value (Operand.func 12), args := #[Operand.tmp 56, Operand.tmp 57], argTypes := #[26, 26] }, type := 3, pos := "law.go:29", after := #[{ on := 29, ground := Ground.data }, { on := 30, ground := Ground.data }, { on := 26, ground := Ground.chain }, { on := 26, ground := Ground.guard }], guard := some (26, false) }) rfl (fun K hK => ?_) AllReadyH.nil)
          go_simp
          go_at_call 12; (with_reducible refine (HC.out _ _ _ _ _ _ _).mono ?_)
          rintro e wa ⟨rfl, hb⟩
          replace hBE := hBE.trans (hb.mono hBE.size)
          clear hb
          refine hK.out _ _ (HK.out _ hBE) (fun hHeld2 => ?_)
          clear hK K hHeld
          have hHeld := hHeld2
          clear hHeld2
          try simp only [Act.put, List.setIfInBounds_toArray, List.set_cons_zero, List.set_cons_succ]
          refine wpAnyH_ready (rs := [36]) (by kernel_rfl) (by simp) (AllReadyH.cons (o := { dst := some 63, op := Op.call { callee := Callee.value (Operand.func 13), args := #[Operand.tmp 61, Operand.tmp 62], argTypes := #[26, 26] }, type := 3, pos := "law.go:29", after := #[{ on := 34, ground := Ground.data }, { on := 35, ground := Ground.data }, { on := 31, ground := Ground.chain }, { on := 26, ground := Ground.guard }], guard := some (26, false) }) rfl (fun K hK => ?_) AllReadyH.nil)
          go_simp
          go_at_call 13; (with_reducible refine (HCR.out _ _ _ _ _ _ _).mono ?_)
          rintro e wa ⟨rfl, hb⟩
          replace hBE := hBE.trans (hb.mono hBE.size)
          clear hb
          refine hK.out _ _ (HK.out _ hBE) (fun hHeld2 => ?_)
          clear hK K hHeld
          have hHeld := hHeld2
          clear hHeld2
          try simp only [Act.put, List.setIfInBounds_toArray, List.set_cons_zero, List.set_cons_succ]
          refine wpAnyH_take (i := 37) (oi := { dst := some 64, op := Op.binOp BinOp.neq 3 (Operand.tmp 58) (Operand.tmp 63) 3, type := 4, pos := "law.go:29", after := #[{ on := 31, ground := Ground.data }, { on := 36, ground := Ground.data }, { on := 26, ground := Ground.guard }], guard := some (26, false) }) (v := ?v38) rfl (by kernel_rfl) (by kernel_rfl) (by kernel_rfl) (fun _ _ _ h => h) (Or.inl ⟨by rfl, ?h38⟩) (by assumption) ?r38
          case h38 => (intro w hSw; (try dsimp only at hSw); go_simp; (try with_reducible rfl))
          try simp only [Act.put, List.setIfInBounds_toArray, List.set_cons_zero, List.set_cons_succ]
          refine wpAnyH_take (i := 38) (oi := { dst := some 65, op := Op.pick (Operand.tmp 53) (Operand.const (Value.bool true)) (Operand.tmp 64), type := 4, pos := "law.go:29", after := #[{ on := 26, ground := Ground.data }, { on := 37, ground := Ground.data }], guard := none }) (v := ?v39) rfl (by kernel_rfl) (by kernel_rfl) (by kernel_rfl) (fun _ _ _ h => h) (Or.inl ⟨by rfl, ?h39⟩) (by assumption) ?r39
          case h39 => (intro w hSw; (try dsimp only at hSw); go_simp; (try with_reducible rfl))
          try simp only [Act.put, List.setIfInBounds_toArray, List.set_cons_zero, List.set_cons_succ]
          refine wpAnyH_done (by kernel_rfl) ?_ _
          have HB6 := Lib.hid (HB3.out.trans (hBE.mono HB3.out.size))
          clear hHeld hBE
          go_wp2_with fail
          go_roundw
          case rel => exact ⟨k + 1, by omega, by omega, by go_num, HB6.out⟩
          case measure => simp [intOf]; omega
        · refine (check_no y m d _ HLa.out hR).mono ?_
          rintro e w3 ⟨rfl, hb⟩
          have hX3 := HX.out.on hb
          have hB3 := HBa.out.trans (hb.mono HBa.out.size)
          have hbw : Below wr.heap.size wr w3 := ((Below.refl _ wr).alloc (Nat.le_refl _) _).trans (hb.mono (by simp))
          have hl0 : w3.cell? ⟨b0, o0, none⟩ = some (.int .i64 y0) ∧ w3.cell? ⟨b0, o0 + 1, none⟩ = some (.int .i64 m0) ∧ w3.cell? ⟨b0, o0 + 2, none⟩ = some (.int .i64 d0) :=
            ⟨(hbw.cell (p := ⟨b0, o0, none⟩) hB0).trans HF.out.1, (hbw.cell (p := ⟨b0, o0 + 1, none⟩) hB0).trans HF.out.2.1, (hbw.cell (p := ⟨b0, o0 + 2, none⟩) hB0).trans HF.out.2.2⟩
          have hB03 : b0 < w3.heap.size := Nat.lt_of_lt_of_le hB0 hbw.size
          have hKX : ∀ w', Below w3.heap.size w3 w' → (w'.cell? ⟨wr.heap.size, 0, none⟩ = some (.int .i64 y) ∧ w'.cell? ⟨wr.heap.size, 1, none⟩ = some (.int .i64 m) ∧ w'.cell? ⟨wr.heap.size, 2, none⟩ = some (.int .i64 d)) ∧ w'.cell? ⟨b0, o0, none⟩ = some (.int .i64 y0) ∧ w'.cell? ⟨b0, o0 + 1, none⟩ = some (.int .i64 m0) ∧ w'.cell? ⟨b0, o0 + 2, none⟩ = some (.int .i64 d0) := fun w' hb =>
            ⟨(hX3.on hb).cells, (hb.cell (p := ⟨b0, o0, none⟩) hB03).trans hl0.1, (hb.cell (p := ⟨b0, o0 + 1, none⟩) hB03).trans hl0.2.1, (hb.cell (p := ⟨b0, o0 + 2, none⟩) hB03).trans hl0.2.2⟩
          have hright := fun w => right_raw_no y m d w hR
          have hcmp := fun y m d y' m' d' w => compare_raw y m d y' m' d' w
          have hcmpR := fun y m d y' m' d' w => compareR_raw y m d y' m' d' w
          have hBE := Below.refl w3.heap.size w3
          have HK := Lib.hid hKX; have HRI := Lib.hid hright; have HB3 := Lib.hid hB3
          have HC := Lib.hid hcmp; have HCR := Lib.hid hcmpR
          clear hKX hright hcmp hcmpR hl0 hbw hX3 hb HX HF hB3 HBa HLa hR hc0 hc1 hc2 hB03
          go_wp2_with fail
          go_region_held3 (fun w' => (w'.cell? ⟨wr.heap.size, 0, none⟩ = some (.int .i64 y) ∧ w'.cell? ⟨wr.heap.size, 1, none⟩ = some (.int .i64 m) ∧ w'.cell? ⟨wr.heap.size, 2, none⟩ = some (.int .i64 d)) ∧ w'.cell? ⟨b0, o0, none⟩ = some (.int .i64 y0) ∧ w'.cell? ⟨b0, o0 + 1, none⟩ = some (.int .i64 m0) ∧ w'.cell? ⟨b0, o0 + 2, none⟩ = some (.int .i64 d0)) (first | exact HK.out _ hBE | exact HK.out _ hBE.drew) (first
            | (go_at_call 11; (with_reducible refine (HRI.out _).mono ?_); rintro e wa ⟨rfl, hb⟩; first | (replace hBE := hBE.drew.trans (hb.mono hBE.size); clear hb) | (replace hBE := hBE.trans (hb.mono hBE.size); clear hb))
            | (go_at_call 12; (with_reducible refine (HC.out _ _ _ _ _ _ _).mono ?_); rintro e wa ⟨rfl, hb⟩; first | (replace hBE := hBE.drew.trans (hb.mono hBE.size); clear hb) | (replace hBE := hBE.trans (hb.mono hBE.size); clear hb))
            | (go_at_call 13; (with_reducible refine (HCR.out _ _ _ _ _ _ _).mono ?_); rintro e wa ⟨rfl, hb⟩; first | (replace hBE := hBE.drew.trans (hb.mono hBE.size); clear hb) | (replace hBE := hBE.trans (hb.mono hBE.size); clear hb)))
          rename_i hHeld
          have HB6 := Lib.hid (HB3.out.trans (hBE.mono HB3.out.size))
          clear hHeld hBE
          go_wp2_with fail
          go_roundw
          case rel => exact ⟨k + 1, by omega, by omega, by go_num, HB6.out⟩
          case measure => simp [intOf]; omega
    · have hkn' : k = n := by omega
      subst hkn'
      go_wp2_with fail
      go_loopw [69] (fun i wr => ∃ k : Nat, k ≤ p ∧ k ≤ 12 ∧ i = .int .i64 k ∧ Below w.heap.size w wr) (fun i _ => p - (intOf i).toNat)
      case atStart => exact ⟨0, by omega, by omega, rfl, HB.out⟩
      case round =>
        clear HB
        clear hk hk6 hkn
        obtain ⟨k, hk, hk6, rfl, hB⟩ := hrel
        have HB := Lib.hid hB
        clear hB
        by_cases hkn : k < p
        · obtain ⟨b, o, rfl, hbB, hc, _, _⟩ := (HZ.out.below HB.out) k hkn
          generalize nthI zs k = z at *
          have i0 : (0 : Int) ≤ (k : Int) := by omega
          by_cases hks : k = 12
          · have hk6' : ((k : Int) == 12) = true := by simp; omega
            clear hks
            go_wp2_with fail
            go_ret
            exact ⟨rfl, HB.out⟩
          · have hk6' : ((k : Int) == 12) = false := by simp; omega
            have hk5 : k + 1 ≤ 12 := by omega
            have HLr := Lib.hid (HL.out.on HB.out)
            clear hks
            go_wp2_with fail
            refine (leap_any z _).mono ?_
            rintro e w3 ⟨rfl, rfl⟩
            go_wp2_with fail
            refine (leapR_any z _).mono ?_
            rintro e w3 ⟨rfl, rfl⟩
            generalize leapZ z = lp at *
            go_wp2_with fail
            go_loopw [83] (fun i wr' => ∃ j : Nat, j ≤ r ∧ i = .int .i64 j ∧ wr' = wr) (fun i _ => r - (intOf i).toNat)
            case atStart => exact ⟨0, by omega, rfl, rfl⟩
            case round =>
              obtain ⟨j, hj, rfl, rfl⟩ := hrel
              by_cases hjr : j < r
              · obtain ⟨b2, o2, rfl, hbB2, hc2, _, _⟩ := (HU.out.below HB.out) j hjr
                generalize nthI us j = u at *
                have j0 : (0 : Int) ≤ (j : Int) := by omega
                by_cases hj12 : (j : Int) < 12
                · have hj12' : decide ((j : Int) < 12) = true := by simpa using hj12
                  go_wp2_with fail
                  refine (long_any z u _ HLr.out).mono ?_
                  rintro e w3 ⟨rfl, rfl⟩
                  go_wp2_with fail
                  refine (longR_any z u _).mono ?_
                  rintro e w3 ⟨rfl, rfl⟩
                  generalize mlZ z u = ml at *
                  go_wp2_with fail
                  go_roundw
                  case rel => exact ⟨j + 1, by omega, by go_num, trivial⟩
                  case measure => simp [intOf]; omega
                · have hj12' : decide ((j : Int) < 12) = false := by simpa using hj12
                  go_wp2_with fail
                  go_roundw
                  case rel => exact ⟨j + 1, by omega, by go_num, trivial⟩
                  case measure => simp [intOf]; omega
              · have hjr' : j = r := by omega
                subst hjr'
                go_wp2_with fail
                go_roundw
                case rel => exact ⟨k + 1, by omega, by omega, by go_num, HB.out⟩
                case measure => simp [intOf]; omega
        · have hkn' : k = p := by omega
          subst hkn'
          go_wp2_with fail
          go_ret
          exact ⟨rfl, HB.out⟩
end Go.Proofs.YtglmonjpcgadnaaDoor
