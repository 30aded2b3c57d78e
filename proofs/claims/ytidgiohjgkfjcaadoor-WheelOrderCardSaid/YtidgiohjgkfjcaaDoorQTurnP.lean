/- Turn: walked. -/
import Derived.Test.YtidgiohjgkfjcaaDoorQEmptyP
namespace Go.Proofs.YtidgiohjgkfjcaaDoor
open Go.RowKit
variable [Rows]

omit [Rows] in
/-- The boxes that Turn lays first. -/
theorem two_boxes (w : World) (p : Nat) (u : Int) : ∃ W, W = (w.alloc (.cells #[.pointer (some ⟨p, 0, none⟩)] 24)).alloc (.cells #[.int .i64 u] 2) ∧ Below w.heap.size w W ∧ QBox W w.heap.size 24 #[.pointer (some ⟨p, 0, none⟩)] ∧ QBox W (w.heap.size + 1) 2 #[.int .i64 u] ∧ W.heap.size = w.heap.size + 2 := by
  refine ⟨_, rfl, ((Below.refl _ _).alloc (Nat.le_refl _) _).alloc (by simp) _, (QBox.new _ _ _).alloc _, ?_, by simp⟩
  have := QBox.new (w.alloc (.cells #[.pointer (some ⟨p, 0, none⟩)] 24)) 2 #[.int .i64 u]
  rwa [World.size_alloc] at this
omit [Rows] in
theorem WhAt.turnEnd {t u : Int} {l : List (Int × Int)} {V0 : Nat → Option Addr × Nat} {C p B tb : Nat} {W : World} (h : TurnEnd t u l V0 C p B tb W) : ∃ A n c V, QBox W tb 29 #[.slice A n c] ∧ OwnD W B (.slice A n c) (dueQ u l) ∧ WhAt W W.heap.size p u (stQ u (leftQ u l)) V ∧ RowsFrom C (stQ u (leftQ u l)) V (stQ t l) V0 := by
  obtain ⟨v, V, h1, h2, h3⟩ := h
  obtain ⟨A, n, c, rfl, _⟩ := h2.rowN
  exact ⟨A, n, c, V, h1, h2, h3⟩
set_option maxRecDepth 100000 in
set_option maxHeartbeats 1000000 in
theorem turn_no (p : Nat) (t u : Int) (l : List (Int × Int)) (w : World) (hW : Wh w w.heap.size p t l) (hno : u < t ∨ topQ < u) :
    Calls Tryd.prog 16 #[.pointer (some ⟨p, 0, none⟩), .int .i64 u] w fun e w' => e = .returned (.tuple #[.slice none 0 0, .int .i64 2]) ∧ Below w.heap.size w w' := by
  obtain ⟨V, hV, _⟩ := hW.at_
  obtain ⟨W, hWe, hB, bW, bN, hsz⟩ := two_boxes w p u
  have hnow := (hV.below hB).now
  obtain ⟨c0, _⟩ := box_three bW
  obtain ⟨c1, _⟩ := box_three bN
  have HB := Lib.hid hB; have HSZ := Lib.hid hsz
  have hpl := hV.lt
  have hpn := Nat.ne_of_lt hpl
  have hpW : p < W.heap.size := by omega
  have h1W : w.heap.size < W.heap.size := by omega
  have h2W : w.heap.size + 1 < W.heap.size := by omega
  unfold topQ at hno
  clear hV hW hB bW bN hsz
  by_cases h1 : u < t
  · have d1 : decide (u < t) = true := decide_eq_true h1
    clear h1 hno
    go_enter Tryd.func16, Tryd.ntmps16
    go_wp2_with fail
    rw [← hWe]
    clear hWe
    have hBE := Below.refl W.heap.size W
    have HK := Lib.hid (fun (Z : World) (hb : Below W.heap.size W Z) => (⟨⟨((qbelow_cell hb).1 _ 0 h1W).trans c0, ((qbelow_cell hb).1 _ 0 h2W).trans c1, ((qbelow_cell hb).1 _ 0 hpW).trans hnow⟩⟩ : PLift (Z.cell? ⟨w.heap.size, 0, none⟩ = some (.pointer (some ⟨p, 0, none⟩)) ∧ Z.cell? ⟨w.heap.size + 1, 0, none⟩ = some (.int .i64 u) ∧ Z.cell? ⟨p, 0, none⟩ = some (.int .i64 t))).down)
    refine wp_region_held_drew (S := (fun Z => Z.cell? ⟨w.heap.size, 0, none⟩ = some (.pointer (some ⟨p, 0, none⟩)) ∧ Z.cell? ⟨w.heap.size + 1, 0, none⟩ = some (.int .i64 u) ∧ Z.cell? ⟨p, 0, none⟩ = some (.int .i64 t))) (by kernel_rfl) (HK.out _ hBE.drew) (fun hHeld => ?_)
    replace hBE := hBE.drew
    refine wpAnyH_take (i := 0) (oi := { dst := some 12, op := Op.load 2 (Operand.tmp 3), type := 2, pos := "wheel.go:68", after := #[], guard := none }) (v := ?v0) rfl (by kernel_rfl) (by kernel_rfl) (by kernel_rfl) (fun _ _ _ h => h) (Or.inl ⟨by rfl, ?h0⟩) (by assumption) ?r0
    case h0 => (intro w hSw; (try dsimp only at hSw); go_simp; (try with_reducible rfl))
    try simp only [Act.put, List.setIfInBounds_toArray, List.set_cons_zero, List.set_cons_succ]
    refine wpAnyH_take (i := 1) (oi := { dst := some 13, op := Op.load 24 (Operand.tmp 2), type := 24, pos := "wheel.go:68", after := #[], guard := none }) (v := ?v1) rfl (by kernel_rfl) (by kernel_rfl) (by kernel_rfl) (fun _ _ _ h => h) (Or.inl ⟨by rfl, ?h1⟩) (by assumption) ?r1
    case h1 => (intro w hSw; (try dsimp only at hSw); go_simp; (try with_reducible rfl))
    try simp only [Act.put, List.setIfInBounds_toArray, List.set_cons_zero, List.set_cons_succ]
    refine wpAnyH_take (i := 2) (oi := { dst := some 14, op := Op.nilCheck (Operand.tmp 13), type := 0, pos := "wheel.go:68", after := #[{ on := 1, ground := Ground.data }], guard := none }) (v := ?v2) rfl (by kernel_rfl) (by kernel_rfl) (by kernel_rfl) (fun _ _ _ h => h) (Or.inl ⟨by rfl, ?h2⟩) (by assumption) ?r2
    case h2 => (intro w hSw; (try dsimp only at hSw); go_simp; (try with_reducible rfl))
    try simp only [Act.put, List.setIfInBounds_toArray, List.set_cons_zero, List.set_cons_succ]
    refine wpAnyH_take (i := 3) (oi := { dst := some 15, op := Op.fieldAddr 78 (Operand.tmp 14) 0, type := 0, pos := "wheel.go:68", after := #[{ on := 2, ground := Ground.data }], guard := none }) (v := ?v3) rfl (by kernel_rfl) (by kernel_rfl) (by kernel_rfl) (fun _ _ _ h => h) (Or.inl ⟨by rfl, ?h3⟩) (by assumption) ?r3
    case h3 => (intro w hSw; (try dsimp only at hSw); go_simp; (try with_reducible rfl))
    try simp only [Act.put, List.setIfInBounds_toArray, List.set_cons_zero, List.set_cons_succ]
    refine wpAnyH_take (i := 4) (oi := { dst := some 16, op := Op.load 2 (Operand.tmp 15), type := 2, pos := "wheel.go:68", after := #[{ on := 3, ground := Ground.data }], guard := none }) (v := ?v4) rfl (by kernel_rfl) (by kernel_rfl) (by kernel_rfl) (fun _ _ _ h => h) (Or.inl ⟨by rfl, ?h4⟩) (by assumption) ?r4
    case h4 => (intro w hSw; (try dsimp only at hSw); go_simp; (try with_reducible rfl))
    try simp only [Act.put, List.setIfInBounds_toArray, List.set_cons_zero, List.set_cons_succ]
    refine wpAnyH_take (i := 5) (oi := { dst := some 17, op := Op.binOp BinOp.lss 2 (Operand.tmp 12) (Operand.tmp 16) 2, type := 4, pos := "wheel.go:68", after := #[{ on := 0, ground := Ground.data }, { on := 4, ground := Ground.data }], guard := none }) (v := ?v5) rfl (by kernel_rfl) (by kernel_rfl) (by kernel_rfl) (fun _ _ _ h => h) (Or.inl ⟨by rfl, ?h5⟩) (by assumption) ?r5
    case h5 => (intro w hSw; (try dsimp only at hSw); go_simp; (try with_reducible rfl))
    try simp only [Act.put, List.setIfInBounds_toArray, List.set_cons_zero, List.set_cons_succ]
    refine wpAnyH_take (i := 6) (oi := { dst := some 18, op := Op.move (Operand.tmp 17), type := 4, pos := "wheel.go:68", after := #[{ on := 5, ground := Ground.data }], guard := none }) (v := ?v6) rfl (by kernel_rfl) (by kernel_rfl) (by kernel_rfl) (fun _ _ _ h => h) (Or.inl ⟨by rfl, ?h6⟩) (by assumption) ?r6
    case h6 => (intro w hSw; (try dsimp only at hSw); go_simp; (try with_reducible rfl))
    try simp only [Act.put, List.setIfInBounds_toArray, List.set_cons_zero, List.set_cons_succ]
    refine wpAnyH_take (i := 7) (oi := { dst := some 19, op := Op.load 2 (Operand.tmp 3), type := 2, pos := "wheel.go:68", after := #[{ on := 6, ground := Ground.guard }], guard := some (6, false) }) (v := undef) rfl (by kernel_rfl) (by kernel_rfl) (by kernel_rfl) (fun _ _ _ h => h) (Or.inr ⟨by rfl, rfl⟩) (by assumption) ?_
    try simp only [Act.put, List.setIfInBounds_toArray, List.set_cons_zero, List.set_cons_succ]
    refine wpAnyH_take (i := 8) (oi := { dst := some 20, op := Op.binOp BinOp.gtr 2 (Operand.tmp 19) (Operand.const (Value.int IntKind.i64 253402300799)) 2, type := 4, pos := "wheel.go:68", after := #[{ on := 7, ground := Ground.data }, { on := 6, ground := Ground.guard }], guard := some (6, false) }) (v := undef) rfl (by kernel_rfl) (by kernel_rfl) (by kernel_rfl) (fun _ _ _ h => h) (Or.inr ⟨by rfl, rfl⟩) (by assumption) ?_
    try simp only [Act.put, List.setIfInBounds_toArray, List.set_cons_zero, List.set_cons_succ]
    refine wpAnyH_take (i := 9) (oi := { dst := some 21, op := Op.pick (Operand.tmp 18) (Operand.const (Value.bool true)) (Operand.tmp 20), type := 4, pos := "wheel.go:68", after := #[{ on := 6, ground := Ground.data }, { on := 8, ground := Ground.data }], guard := none }) (v := ?v9) rfl (by kernel_rfl) (by kernel_rfl) (by kernel_rfl) (fun _ _ _ h => h) (Or.inl ⟨by rfl, ?h9⟩) (by assumption) ?r9
    case h9 => (intro w hSw; (try dsimp only at hSw); go_simp; (try with_reducible rfl))
    try simp only [Act.put, List.setIfInBounds_toArray, List.set_cons_zero, List.set_cons_succ]
    refine wpAnyH_take (i := 10) (oi := { dst := some 11, op := Op.assign (Operand.tmp 21), type := 4, pos := "wheel.go:68", after := #[{ on := 9, ground := Ground.data }, { on := 6, ground := Ground.chain }], guard := none }) (v := ?v10) rfl (by kernel_rfl) (by kernel_rfl) (by kernel_rfl) (fun _ _ _ h => h) (Or.inl ⟨by rfl, ?h10⟩) (by assumption) ?r10
    case h10 => (intro w hSw; (try dsimp only at hSw); go_simp; (try with_reducible rfl))
    try simp only [Act.put, List.setIfInBounds_toArray, List.set_cons_zero, List.set_cons_succ]
    refine wpAnyH_done (by kernel_rfl) ?_ _
    go_wp2_with fail
    refine bodyPost_ret (v := .tuple #[.slice none 0 0, .int .i64 2]) (by simp [results, Tryd.results16, go_sem]) rfl ⟨rfl, HB.out.drew⟩
  · have d1 : decide (u < t) = false := decide_eq_false h1
    have d2 : decide (253402300799 < u) = true := decide_eq_true (by omega)
    clear h1 hno
    go_enter Tryd.func16, Tryd.ntmps16
    go_wp2_with fail
    rw [← hWe]
    clear hWe
    go_region
    go_wp2_with fail
    refine bodyPost_ret (v := .tuple #[.slice none 0 0, .int .i64 2]) (by simp [results, Tryd.results16, go_sem]) rfl ⟨rfl, HB.out.drew⟩
set_option maxRecDepth 100000 in
set_option maxHeartbeats 1000000 in
theorem turn_yes (p t u : Nat) (l : List (Int × Int)) (w : World) (hW : Wh w w.heap.size p t l) (htu : t ≤ u) (hu : u ≤ 253402300799) (hT : Tab w) (hg : 0 < w.heap.size) (hgp : 0 ≠ p) (hX : ∀ b, w.heap.size ≤ b → Rows.ok b) :
    Calls Tryd.prog 16 #[.pointer (some ⟨p, 0, none⟩), .int .i64 u] w fun e w' => (∃ v, e = .returned (.tuple #[v, .int .i64 0]) ∧ OwnD w' w.heap.size v (dueQ u l)) ∧ Wh w' w'.heap.size p u (leftQ u l) ∧ Only p w w' := by
  obtain ⟨V, hV, hok⟩ := hW.at_
  have HOK := Lib.hid hok; have HXX := Lib.hid hX
  clear hok hX
  obtain ⟨W, hWe, hB, bW, bN, hsz⟩ := two_boxes w p u
  have hnow := (hV.below hB).now
  obtain ⟨c0, _⟩ := box_three bW
  obtain ⟨c1, _⟩ := box_three bN
  have HB := Lib.hid hB; have HSZ := Lib.hid hsz; have HBW := Lib.hid bW; have HBN := Lib.hid bN; have HV := Lib.hid (hV.below hB)
  have HWH := Lib.hid hW
  have HPO := Lib.hid (fun W => place_any9 t u W htu hu)
  have hpl := hV.lt
  have hpn := Nat.ne_of_lt hpl
  have hpW : p < W.heap.size := by omega
  have h1W : w.heap.size < W.heap.size := by omega
  have h2W : w.heap.size + 1 < W.heap.size := by omega
  have d1 : decide ((u : Int) < (t : Int)) = false := by simp; omega
  have d1' : decide (u < t) = false := by simp; omega
  have d2 : decide (253402300799 < (u : Int)) = false := by simp; omega
  have HTU := Lib.hid htu; have HU := Lib.hid hu
  clear hV hW hB bW bN hsz htu hu
  go_enter Tryd.func16, Tryd.ntmps16
  go_wp2_with fail
  rw [← hWe]
  clear hWe
  go_region
  go_wp2_with fail
  obtain ⟨a, b, hab⟩ : ∃ a b : Int, plV (plQ (t : Int) (u : Int)) = .agg #[.int .i64 a, .int .i64 b] := ⟨_, _, rfl⟩
  have HEM := Lib.hid (fun (X : World) (nb tb wb : Nat) h1 h2 h3 h4 h5 h6 h7 => callsIn_wide.1 (empty_in 3 (by omega) p nb tb wb t u l V w X HWH.out.right HWH.out.pos HTU.out (by have := HU.out; unfold topQ; omega) h1 h2 h3 h4 h5 h6 h7 hg hgp))
  rw [hab] at HPO HEM
  clear hab
  have HB1 := Lib.hid HB.out.drew
  have HBW1 := Lib.hid (HBW.out.drewN 1); have HBN1 := Lib.hid (HBN.out.drewN 1); have HV1 := Lib.hid (HV.out.drewN 1)
  have c0' : W.drew.cell? ⟨w.heap.size, 0, none⟩ = some (.pointer (some ⟨p, 0, none⟩)) := c0
  have c1' : W.drew.cell? ⟨w.heap.size + 1, 0, none⟩ = some (.int .i64 (u : Int)) := c1
  have hnow' : W.drew.cell? ⟨p, 0, none⟩ = some (.int .i64 (t : Int)) := hnow
  have hpW' : p < W.drew.heap.size := hpW
  have h1W' : w.heap.size < W.drew.heap.size := h1W
  have h2W' : w.heap.size + 1 < W.drew.heap.size := h2W
  have HB1 : Hid (Below w.heap.size w W.drew) := HB1
  have HBW1 : Hid (QBox W.drew w.heap.size 24 #[.pointer (some ⟨p, 0, none⟩)]) := HBW1
  have HBN1 : Hid (QBox W.drew (w.heap.size + 1) 2 #[.int .i64 (u : Int)]) := HBN1
  have HV1 : Hid (WhAt W.drew w.heap.size p t (stQ t l) V) := HV1
  clear HB HBW HBN HV c0 c1 hnow hpW h1W h2W HSZ
  generalize W.drew = W1 at *
  go_cut [6] from 22 to 27 (fun s6 wx => ∃ g : Nat, s6 = .pointer (some ⟨g, 0, none⟩) ∧ QBox wx g 80 #[.int .i64 a, .int .i64 b] ∧ Below W1.heap.size W1 wx)
  case first =>
    have hBE := Below.refl W1.heap.size W1
    have HH := Lib.hid (fun (W' : World) (hb : Below W1.heap.size W1 W') => (⟨⟨((qbelow_cell hb).1 _ 0 h1W').trans c0', ((qbelow_cell hb).1 _ 0 h2W').trans c1', ((qbelow_cell hb).1 _ 0 hpW').trans hnow'⟩⟩ : PLift (W'.cell? ⟨w.heap.size, 0, none⟩ = some (.pointer (some ⟨p, 0, none⟩)) ∧ W'.cell? ⟨w.heap.size + 1, 0, none⟩ = some (.int .i64 (u : Int)) ∧ W'.cell? ⟨p, 0, none⟩ = some (.int .i64 (t : Int)))).down)
    have n1 := Nat.ne_of_lt hpW'
    have n2 := Nat.ne_of_lt h1W'
    have n3 := Nat.ne_of_lt h2W'
    go_region_held3 (fun W' => W'.cell? ⟨w.heap.size, 0, none⟩ = some (.pointer (some ⟨p, 0, none⟩)) ∧ W'.cell? ⟨w.heap.size + 1, 0, none⟩ = some (.int .i64 (u : Int)) ∧ W'.cell? ⟨p, 0, none⟩ = some (.int .i64 (t : Int))) ((refine HH.out _ ?_; repeat (first | exact hBE | refine Below.drew ?_ | refine Below.setCell ?_ (by have := hBE.size; first | omega | (simp; done) | (simp; omega)) _ | refine Below.alloc ?_ (by have := hBE.size; first | omega | (simp; done) | (simp; omega)) _))) (first
      | (go_at_call 40; (with_reducible refine (HPO.out _).mono ?_); rintro e w1 ⟨rfl, hb1⟩; (have hq := hBE.trans (show Below W1.heap.size W1 w1 from (by first | exact (hBE.alloc hBE.size _).drew.trans (hb1.mono (by simp)) | exact hBE.drew.trans hb1))); replace hBE := hq; first | (have hx0 := bx1d9 hb1; obtain ⟨q0, q1, q2, q3⟩ := hx0.two; have l0 := hx0.lt) | skip))
    all_goals
      go_wp2_with fail
      go_meet
      refine ⟨_, rfl, ?_⟩
      first
        | exact ⟨QBox.new _ _ _, hBE.alloc hBE.size _⟩
        | exact ⟨hx0.set2 _ _, below_set2 hBE (Nat.le_refl _) _ _⟩
  case rest =>
    obtain ⟨g, rfl, hgb, hb⟩ := hcut
    have hbw := hb.mono (show w.heap.size ≤ W1.heap.size by omega)
    have HBC := Lib.hid (HB1.out.trans hbw)
    have HVC := Lib.hid (HV1.out.below hbw)
    have bW2 := HBW1.out.belowAll hb
    have bN2 := HBN1.out.belowAll hb
    have HG := Lib.hid hgb
    have HBW2 := Lib.hid bW2; have HBN2 := Lib.hid bN2
    have hgp2 : g ≠ p := HVC.out.ne hgb (by decide)
    have hc0 := HVC.out.now
    have hf0 := HVC.out.frozen 0
    obtain ⟨e0, _⟩ := box_three bW2
    obtain ⟨e1, _⟩ := box_three bN2
    obtain ⟨g0, g1, _, _⟩ := hgb.two
    have hpwc := HVC.out.lt
    have l1 := hgb.lt
    have l2 := bW2.lt
    have l3 := bN2.lt
    have n0 := Nat.ne_of_lt hpwc
    have n1 := Nat.ne_of_lt l1
    have n2 := Nat.ne_of_lt l2
    have n3 := Nat.ne_of_lt l3
    have n4 : w.heap.size ≠ p := Ne.symm hpn
    have n5 : w.heap.size + 1 ≠ p := by omega
    clear c0' c1' hnow' hb hgb bW2 bN2 hbw HPO
    go_wp2_with fail
    have hson : Only p w (wc.setCell ⟨p, 0, none⟩ (.int .i64 (u : Int))) := (Only.of HBC.out).trans (Only.set p 0 wc _)
    have hal : Below (wc.setCell ⟨p, 0, none⟩ (.int .i64 (u : Int))).heap.size (wc.setCell ⟨p, 0, none⟩ (.int .i64 (u : Int))) ((wc.setCell ⟨p, 0, none⟩ (.int .i64 (u : Int))).alloc (.cells #[.slice none 0 0] 29)) := (Below.refl _ _).alloc (Nat.le_refl _) _
    have hon := hson.trans (Only.of (p := p) hal)
    have hwX : WhAt ((wc.setCell ⟨p, 0, none⟩ (.int .i64 (u : Int))).alloc (.cells #[.slice none 0 0] 29)) w.heap.size p u (stQ t l) V := (HVC.out.setNow u).below (hal.mono (by have := HBC.out.size; simp; omega))
    have hbN := (HBN2.out.far (p := p) (i := 0) n5 (.int .i64 (u : Int))).belowAll hal
    have hbW := (HBW2.out.far (p := p) (i := 0) n4 (.int .i64 (u : Int))).belowAll hal
    have hbT := QBox.new (wc.setCell ⟨p, 0, none⟩ (.int .i64 (u : Int))) 29 #[.slice none 0 0]
    rw [World.size_setCell] at hbT
    have hTX : Tab ((wc.setCell ⟨p, 0, none⟩ (.int .i64 (u : Int))).alloc (.cells #[.slice none 0 0] 29)) := fun j hj => by
      rw [← hT j hj]
      unfold World.cell?
      dsimp only
      rw [hon.block _ hg hgp]
    refine (HEM.out _ (w.heap.size + 1) wc.heap.size w.heap.size hwX hon hbN hbW hbT HBC.out.size hTX).mono ?_
    rintro e w5 ⟨⟨v5, rfl⟩, hend, hon5⟩
    obtain ⟨A, n, c, V5, x1, x2, x3, x4⟩ := WhAt.turnEnd hend
    have HX4 := Lib.hid x4
    clear x4
    obtain ⟨y0, _⟩ := box_three x1
    have HX2 := Lib.hid x2; have HX3 := Lib.hid x3; have HO5 := Lib.hid hon5
    clear x1 x2 x3 hend hon5 hwX hon hbN hbW hbT hTX hal hson e0 e1 g0 g1 hc0
    go_wp2_with fail
    refine bodyPost_ret (v := .tuple #[.slice A n c, .int .i64 0]) (by simp [results, Tryd.results16, go_sem]) rfl ⟨⟨_, rfl, HX2.out⟩, ⟨HWH.out.right.turn ⟨by have := HWH.out.right.time.1; omega, by have := HU.out; unfold topQ; omega⟩, ⟨V5, HX3.out, HOK.out.from_ HX4.out HXX.out⟩, fun d hd => HWH.out.pos d (List.mem_filter.1 hd).1⟩, HO5.out⟩
end Go.Proofs.YtidgiohjgkfjcaaDoor
