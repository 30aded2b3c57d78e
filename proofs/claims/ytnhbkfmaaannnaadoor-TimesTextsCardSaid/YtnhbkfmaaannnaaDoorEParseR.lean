/- Parse of the document. -/
import Derived.Test.YtnhbkfmaaannnaaDoorEValue
namespace Go.Proofs.YtnhbkfmaaannnaaDoor
open Go.RowKit

/-- Part p of a row. -/
def stC (p : Nat) : Nat := [0, 5, 8, 11, 14, 17].getD p 0
def lnC (p : Nat) : Nat := [4, 2, 2, 2, 2, 2].getD p 0
def partL (l : List UInt8) (p : Nat) : List UInt8 := (l.drop (stC p)).take (lnC p)
def fV (l : List UInt8) (p : Nat) : Nat := valL (partL l p)
def vK (l : List UInt8) : Nat → List Nat
  | 0 => [0, 0, 0, 0, 0, 0]
  | 1 => [fV l 0, 0, 0, 0, 0, 0]
  | 2 => [fV l 0, fV l 1, 0, 0, 0, 0]
  | 3 => [fV l 0, fV l 1, fV l 2, 0, 0, 0]
  | 4 => [fV l 0, fV l 1, fV l 2, fV l 3, 0, 0]
  | 5 => [fV l 0, fV l 1, fV l 2, fV l 3, fV l 4, 0]
  | _ => [fV l 0, fV l 1, fV l 2, fV l 3, fV l 4, fV l 5]
/-- What a text says of its parts. -/
theorem says_parts {l : List UInt8} {t : Int} (h : Says l t) : ∃ y m d hh mi s : Int, CivOf t y m d hh mi s ∧ l = textZ y m d hh mi s ∧ (fV l 0 : Int) = y ∧ (fV l 1 : Int) = m ∧ (fV l 2 : Int) = d ∧ (fV l 3 : Int) = hh ∧ (fV l 4 : Int) = mi ∧ (fV l 5 : Int) = s ∧ ∀ p, p < 6 → digs (partL l p) = true := by
  obtain ⟨y, m, d, hh, mi, s, c, rfl⟩ := h
  obtain ⟨a0, a1, b0, b1, c0, c1, d0, d1, e0, e1, f0, f1⟩ := c.bounds
  obtain ⟨e0, e1, e2, e3, e4, e5⟩ := fields y.toNat m.toNat d.toNat hh.toNat mi.toNat s.toNat
  have p0 : partL (textZ y m d hh mi s) 0 = d4 y.toNat := e0
  have p1 : partL (textZ y m d hh mi s) 1 = d2 m.toNat := e1
  have p2 : partL (textZ y m d hh mi s) 2 = d2 d.toNat := e2
  have p3 : partL (textZ y m d hh mi s) 3 = d2 hh.toNat := e3
  have p4 : partL (textZ y m d hh mi s) 4 = d2 mi.toNat := e4
  have p5 : partL (textZ y m d hh mi s) 5 = d2 s.toNat := e5
  refine ⟨y, m, d, hh, mi, s, c, rfl, ?_, ?_, ?_, ?_, ?_, ?_, fun p hp => ?_⟩
  · unfold fV; rw [p0, valL_d4 (by omega)]; omega
  · unfold fV; rw [p1, valL_d2 (by omega)]; omega
  · unfold fV; rw [p2, valL_d2 (by omega)]; omega
  · unfold fV; rw [p3, valL_d2 (by omega)]; omega
  · unfold fV; rw [p4, valL_d2 (by omega)]; omega
  · unfold fV; rw [p5, valL_d2 (by omega)]; omega
  · have hc : p = 0 ∨ p = 1 ∨ p = 2 ∨ p = 3 ∨ p = 4 ∨ p = 5 := by omega
    rcases hc with rfl | rfl | rfl | rfl | rfl | rfl
    · rw [p0]; exact digs_d4 _
    · rw [p1]; exact digs_d2 _
    · rw [p2]; exact digs_d2 _
    · rw [p3]; exact digs_d2 _
    · rw [p4]; exact digs_d2 _
    · rw [p5]; exact digs_d2 _
def CivV (l : List UInt8) : Prop := CivR (fV l 0 : Nat) (fV l 1 : Nat) (fV l 2 : Nat) (fV l 3 : Nat) (fV l 4 : Nat) (fV l 5 : Nat)
theorem no_civ {l : List UInt8} (h : ¬ CivV l) (t : Int) : ¬ Says l t := fun q => by
  obtain ⟨y, m, d, hh, mi, s, c, _, rfl, rfl, rfl, rfl, rfl, rfl, _⟩ := says_parts q
  exact h c.r
theorem no_text {l : List UInt8} (h : textZ (fV l 0 : Nat) (fV l 1 : Nat) (fV l 2 : Nat) (fV l 3 : Nat) (fV l 4 : Nat) (fV l 5 : Nat) ≠ l) (t : Int) : ¬ Says l t := fun q => by
  obtain ⟨y, m, d, hh, mi, s, c, e, h0, h1, h2, h3, h4, h5, _⟩ := says_parts q
  exact h (by rw [h0, h1, h2, h3, h4, h5]; exact e.symm)
theorem no_part {l : List UInt8} {p : Nat} (hp : p < 6) (h : ¬ digs (partL l p) = true) (t : Int) : ¬ Says l t := fun q => by
  obtain ⟨y, m, d, hh, mi, s, c, e, _, _, _, _, _, _, g⟩ := says_parts q
  exact h (g p hp)
def ParseRIs (l : List UInt8) (w : World) (e : Ending) (w' : World) : Prop :=
  ((∃ t, Says l t ∧ e = .returned (.tuple #[.int .i64 t, .bool true])) ∨ ((∀ t, ¬ Says l t) ∧ e = .returned (.tuple #[.int .i64 0, .bool false]))) ∧ Below w.heap.size w w'
theorem index_at (w : World) (j : Nat) (hj : j < 6) : (Instr.index 72 (.agg #[.int .i64 0, .int .i64 5, .int .i64 8, .int .i64 11, .int .i64 14, .int .i64 17]) (.int .i64 (j : Int))).run Tryd.prog w = .ok (.int .i64 (stC j : Nat)) w := by
  have hc : j = 0 ∨ j = 1 ∨ j = 2 ∨ j = 3 ∨ j = 4 ∨ j = 5 := by omega
  rcases hc with rfl | rfl | rfl | rfl | rfl | rfl <;>
    simp [Instr.index, asIntOf, Sem.run_bind, run_underlying Tryd.underlying72, Tryd.sizeOf3, Tryd.isAgg3, part, Result.andThen, stC]
/-- The part's bytes, cut out of the string. -/
theorem cut_part (l : List UInt8) (a b p : Nat) (ha : a = stC p) (hb : b = stC p + lnC p) : ((⟨l.toArray⟩ : ByteArray).extract a b).data.toList = partL l p := by
  subst ha hb
  unfold partL
  simp
theorem part_len (l : List UInt8) (p : Nat) : (partL l p).length ≤ 4 := by
  unfold partL lnC
  rw [List.length_take]
  have hc : p = 0 ∨ 0 < p := by omega
  have : [4, 2, 2, 2, 2, 2].getD p 0 ≤ 4 := by
    match p with
    | 0 => decide
    | 1 => decide
    | 2 => decide
    | 3 => decide
    | 4 => decide
    | 5 => decide
    | n + 6 => simp
  omega
set_option maxRecDepth 100000 in
set_option maxHeartbeats 2000000 in
theorem parseR_any (l : List UInt8) (w : World) (_hll : l.length ≤ maxLen) : Calls Tryd.prog 28 #[strV l] w (ParseRIs l w) := by
  unfold maxLen at _hll
  unfold strV
  by_cases h19 : l.length = 19
  · have hsz : (⟨l.toArray⟩ : ByteArray).size = 19 := by rw [← h19]; rfl
    have H19 := Lib.hid h19
    have HSZ := Lib.hid hsz
    clear h19
    go_enter Tryd.func28, Tryd.ntmps28
    go_wp2_with fail
    have b0 := Box.new w 72 #[.int .i64 0, .int .i64 0, .int .i64 0, .int .i64 0, .int .i64 0, .int .i64 0]
    have bB : Below w.heap.size w (w.alloc (.cells #[.int .i64 0, .int .i64 0, .int .i64 0, .int .i64 0, .int .i64 0, .int .i64 0] 72)) := (Below.refl _ w).alloc (Nat.le_refl _) _
    have B0 := Lib.hid b0; have BB := Lib.hid bB
    clear b0 bB
    go_loopw [15] (fun i wr => ∃ k : Nat, k ≤ 6 ∧ i = .int .i64 k ∧ Box wr w.heap.size 72 (sixA (vK l k)) ∧ Below w.heap.size w wr) (fun i _ => 6 - (intOf i).toNat)
    case atStart => exact ⟨0, by omega, rfl, B0.out, BB.out⟩
    case round =>
      clear B0 BB
      obtain ⟨k, hk, rfl, hx, hb⟩ := hrel
      have HX := Lib.hid hx; have HB := Lib.hid hb
      have hc6 : k = 0 ∨ k = 1 ∨ k = 2 ∨ k = 3 ∨ k = 4 ∨ k = 5 ∨ k = 6 := by omega
      clear hx hb hk
      rcases hc6 with rfl | rfl | rfl | rfl | rfl | rfl | rfl
      · have hix := fun W => index_at W 0 (by decide)
        rw [show ((0 : Nat) : Int) = 0 by rfl, show ((stC 0 : Nat) : Int) = 0 by rfl] at hix
        rw [show ((0 : Nat) : Int) = 0 by rfl]
        have hcut := cut_part l 0 4 0 rfl rfl
        by_cases hd : digs (partL l 0) = true
        · have hv := fun W => value_yes ((⟨l.toArray⟩ : ByteArray).extract 0 4) W (by simp; omega) (by rw [hcut]; exact hd)
          rw [hcut] at hv
          have HV := Lib.hid hv
          clear hv hcut hd
          obtain ⟨x0, x1, x2, x3, x4, x5, u0, u1, u2, u3, u4, u5⟩ := HX.out.six
          go_wp2_with fail
          refine (HV.out _).mono ?_
          rintro e w' ⟨rfl, rfl⟩
          go_wp2_with fail
          go_roundw
          case rel => exact ⟨1, by omega, by go_num, HX.out.set 0 _, HB.out.setCell (Nat.le_refl _) _⟩
          case measure => simp [intOf]
        · have hv := fun W => value_no ((⟨l.toArray⟩ : ByteArray).extract 0 4) W (by simp; omega) (by rw [hcut]; exact hd)
          have HN := Lib.hid (no_part (by decide) hd)
          have HV := Lib.hid hv
          clear hv hcut hd
          go_wp2_with fail
          refine (HV.out _).mono ?_
          rintro e w' ⟨rfl, rfl⟩
          go_wp2_with fail
          go_ret2
          exact ⟨.inr ⟨HN.out, rfl⟩, HB.out⟩
      · have hix := fun W => index_at W 1 (by decide)
        rw [show ((1 : Nat) : Int) = 1 by rfl, show ((stC 1 : Nat) : Int) = 5 by rfl] at hix
        rw [show ((1 : Nat) : Int) = 1 by rfl]
        have hcut := cut_part l 5 7 1 rfl rfl
        by_cases hd : digs (partL l 1) = true
        · have hv := fun W => value_yes ((⟨l.toArray⟩ : ByteArray).extract 5 7) W (by simp; omega) (by rw [hcut]; exact hd)
          rw [hcut] at hv
          have HV := Lib.hid hv
          clear hv hcut hd
          obtain ⟨x0, x1, x2, x3, x4, x5, u0, u1, u2, u3, u4, u5⟩ := HX.out.six
          go_wp2_with fail
          refine (HV.out _).mono ?_
          rintro e w' ⟨rfl, rfl⟩
          go_wp2_with fail
          go_roundw
          case rel => exact ⟨2, by omega, by go_num, HX.out.set 1 _, HB.out.setCell (Nat.le_refl _) _⟩
          case measure => simp [intOf]
        · have hv := fun W => value_no ((⟨l.toArray⟩ : ByteArray).extract 5 7) W (by simp; omega) (by rw [hcut]; exact hd)
          have HN := Lib.hid (no_part (by decide) hd)
          have HV := Lib.hid hv
          clear hv hcut hd
          go_wp2_with fail
          refine (HV.out _).mono ?_
          rintro e w' ⟨rfl, rfl⟩
          go_wp2_with fail
          go_ret2
          exact ⟨.inr ⟨HN.out, rfl⟩, HB.out⟩
      · have hix := fun W => index_at W 2 (by decide)
        rw [show ((2 : Nat) : Int) = 2 by rfl, show ((stC 2 : Nat) : Int) = 8 by rfl] at hix
        rw [show ((2 : Nat) : Int) = 2 by rfl]
        have hcut := cut_part l 8 10 2 rfl rfl
        by_cases hd : digs (partL l 2) = true
        · have hv := fun W => value_yes ((⟨l.toArray⟩ : ByteArray).extract 8 10) W (by simp; omega) (by rw [hcut]; exact hd)
          rw [hcut] at hv
          have HV := Lib.hid hv
          clear hv hcut hd
          obtain ⟨x0, x1, x2, x3, x4, x5, u0, u1, u2, u3, u4, u5⟩ := HX.out.six
          go_wp2_with fail
          refine (HV.out _).mono ?_
          rintro e w' ⟨rfl, rfl⟩
          go_wp2_with fail
          go_roundw
          case rel => exact ⟨3, by omega, by go_num, HX.out.set 2 _, HB.out.setCell (Nat.le_refl _) _⟩
          case measure => simp [intOf]
        · have hv := fun W => value_no ((⟨l.toArray⟩ : ByteArray).extract 8 10) W (by simp; omega) (by rw [hcut]; exact hd)
          have HN := Lib.hid (no_part (by decide) hd)
          have HV := Lib.hid hv
          clear hv hcut hd
          go_wp2_with fail
          refine (HV.out _).mono ?_
          rintro e w' ⟨rfl, rfl⟩
          go_wp2_with fail
          go_ret2
          exact ⟨.inr ⟨HN.out, rfl⟩, HB.out⟩
      · have hix := fun W => index_at W 3 (by decide)
        rw [show ((3 : Nat) : Int) = 3 by rfl, show ((stC 3 : Nat) : Int) = 11 by rfl] at hix
        rw [show ((3 : Nat) : Int) = 3 by rfl]
        have hcut := cut_part l 11 13 3 rfl rfl
        by_cases hd : digs (partL l 3) = true
        · have hv := fun W => value_yes ((⟨l.toArray⟩ : ByteArray).extract 11 13) W (by simp; omega) (by rw [hcut]; exact hd)
          rw [hcut] at hv
          have HV := Lib.hid hv
          clear hv hcut hd
          obtain ⟨x0, x1, x2, x3, x4, x5, u0, u1, u2, u3, u4, u5⟩ := HX.out.six
          go_wp2_with fail
          refine (HV.out _).mono ?_
          rintro e w' ⟨rfl, rfl⟩
          go_wp2_with fail
          go_roundw
          case rel => exact ⟨4, by omega, by go_num, HX.out.set 3 _, HB.out.setCell (Nat.le_refl _) _⟩
          case measure => simp [intOf]
        · have hv := fun W => value_no ((⟨l.toArray⟩ : ByteArray).extract 11 13) W (by simp; omega) (by rw [hcut]; exact hd)
          have HN := Lib.hid (no_part (by decide) hd)
          have HV := Lib.hid hv
          clear hv hcut hd
          go_wp2_with fail
          refine (HV.out _).mono ?_
          rintro e w' ⟨rfl, rfl⟩
          go_wp2_with fail
          go_ret2
          exact ⟨.inr ⟨HN.out, rfl⟩, HB.out⟩
      · have hix := fun W => index_at W 4 (by decide)
        rw [show ((4 : Nat) : Int) = 4 by rfl, show ((stC 4 : Nat) : Int) = 14 by rfl] at hix
        rw [show ((4 : Nat) : Int) = 4 by rfl]
        have hcut := cut_part l 14 16 4 rfl rfl
        by_cases hd : digs (partL l 4) = true
        · have hv := fun W => value_yes ((⟨l.toArray⟩ : ByteArray).extract 14 16) W (by simp; omega) (by rw [hcut]; exact hd)
          rw [hcut] at hv
          have HV := Lib.hid hv
          clear hv hcut hd
          obtain ⟨x0, x1, x2, x3, x4, x5, u0, u1, u2, u3, u4, u5⟩ := HX.out.six
          go_wp2_with fail
          refine (HV.out _).mono ?_
          rintro e w' ⟨rfl, rfl⟩
          go_wp2_with fail
          go_roundw
          case rel => exact ⟨5, by omega, by go_num, HX.out.set 4 _, HB.out.setCell (Nat.le_refl _) _⟩
          case measure => simp [intOf]
        · have hv := fun W => value_no ((⟨l.toArray⟩ : ByteArray).extract 14 16) W (by simp; omega) (by rw [hcut]; exact hd)
          have HN := Lib.hid (no_part (by decide) hd)
          have HV := Lib.hid hv
          clear hv hcut hd
          go_wp2_with fail
          refine (HV.out _).mono ?_
          rintro e w' ⟨rfl, rfl⟩
          go_wp2_with fail
          go_ret2
          exact ⟨.inr ⟨HN.out, rfl⟩, HB.out⟩
      · have hix := fun W => index_at W 5 (by decide)
        rw [show ((5 : Nat) : Int) = 5 by rfl, show ((stC 5 : Nat) : Int) = 17 by rfl] at hix
        rw [show ((5 : Nat) : Int) = 5 by rfl]
        have hcut := cut_part l 17 19 5 rfl rfl
        by_cases hd : digs (partL l 5) = true
        · have hv := fun W => value_yes ((⟨l.toArray⟩ : ByteArray).extract 17 19) W (by simp; omega) (by rw [hcut]; exact hd)
          rw [hcut] at hv
          have HV := Lib.hid hv
          clear hv hcut hd
          obtain ⟨x0, x1, x2, x3, x4, x5, u0, u1, u2, u3, u4, u5⟩ := HX.out.six
          go_wp2_with fail
          refine (HV.out _).mono ?_
          rintro e w' ⟨rfl, rfl⟩
          go_wp2_with fail
          go_roundw
          case rel => exact ⟨6, by omega, by go_num, HX.out.set 5 _, HB.out.setCell (Nat.le_refl _) _⟩
          case measure => simp [intOf]
        · have hv := fun W => value_no ((⟨l.toArray⟩ : ByteArray).extract 17 19) W (by simp; omega) (by rw [hcut]; exact hd)
          have HN := Lib.hid (no_part (by decide) hd)
          have HV := Lib.hid hv
          clear hv hcut hd
          go_wp2_with fail
          refine (HV.out _).mono ?_
          rintro e w' ⟨rfl, rfl⟩
          go_wp2_with fail
          go_ret2
          exact ⟨.inr ⟨HN.out, rfl⟩, HB.out⟩
      · rw [show ((6 : Nat) : Int) = 6 by rfl]
        have hx : Box wr w.heap.size 72 #[.int .i64 (fV l 0 : Nat), .int .i64 (fV l 1 : Nat), .int .i64 (fV l 2 : Nat), .int .i64 (fV l 3 : Nat), .int .i64 (fV l 4 : Nat), .int .i64 (fV l 5 : Nat)] := HX.out
        obtain ⟨x0, x1, x2, x3, x4, x5, _⟩ := hx.six
        have HNC := Lib.hid (fun (q : ¬ CivV l) => no_civ q); have HNT := Lib.hid (fun q => @no_text l q)
        have hcv : CivV l ∨ ¬ CivV l := Classical.em _
        have HCV := Lib.hid hcv
        unfold CivV at HNC HCV
        clear hx HX hcv
        generalize ((fV l 0 : Nat) : Int) = y at *
        generalize ((fV l 1 : Nat) : Int) = m at *
        generalize ((fV l 2 : Nat) : Int) = d at *
        generalize ((fV l 3 : Nat) : Int) = h at *
        generalize ((fV l 4 : Nat) : Int) = mi at *
        generalize ((fV l 5 : Nat) : Int) = sc at *
        obtain ⟨c0, cB, cs⟩ := box_civ wr y m d h mi sc
        have HBA := Lib.hid (HB.out.trans (cB.mono HB.out.size)); have HXA := Lib.hid c0
        unfold civO at *
        clear c0 cB cs
        rcases HCV.out with hc | hc
        · have HC := Lib.hid hc; have HCO := Lib.hid hc.of
          clear hc HCV HNC
          go_wp2_with fail
          generalize wr.alloc _ = w4 at *
          generalize wr.heap.size = g at *
          refine (cright_ok y m d h mi sc _ HC.out).mono ?_
          rintro e w5 ⟨rfl, hb⟩
          have HB5 := Lib.hid (HBA.out.trans (hb.mono HBA.out.size)); have HX5 := Lib.hid (HXA.out.belowAll hb)
          clear hb HBA HXA HB x0 x1 x2 x3 x4 x5
          obtain ⟨x0, x1, x2, x3, x4, x5, _⟩ := HX5.out.six
          generalize timeZ y m d h mi sc = t at *
          go_wp2_with fail
          refine (cofR_ok t y m d h mi sc _ HCO.out).mono ?_
          rintro e w6 ⟨rfl, hb⟩
          have HB6 := Lib.hid (HB5.out.trans (hb.mono HB5.out.size)); have HX6 := Lib.hid (HX5.out.belowAll hb)
          clear hb HB5 HX5 x0 x1 x2 x3 x4 x5
          go_wp2_with fail
          refine (textR_is t y m d h mi sc _ HCO.out).mono ?_
          rintro e w7 ⟨rfl, hb⟩
          have HB7 := Lib.hid (HB6.out.trans (hb.mono HB6.out.size)); have HX7 := Lib.hid (HX6.out.belowAll hb)
          clear hb HB6 HX6
          obtain ⟨x0, x1, x2, x3, x4, x5, _⟩ := HX7.out.six
          by_cases hq : textZ y m d h mi sc = l
          · have HSY := Lib.hid (show Says l t from ⟨_, _, _, _, _, _, HCO.out, hq.symm⟩)
            rw [hq]
            clear hq HNT
            unfold strV
            go_wp2_with fail
            refine (cofR_ok t y m d h mi sc _ HCO.out).mono ?_
            rintro e w8 ⟨rfl, hb⟩
            have HB8 := Lib.hid (HB7.out.trans (hb.mono HB7.out.size))
            clear hb HB7 HX7 x0 x1 x2 x3 x4 x5
            go_wp2_with fail
            go_ret2
            exact ⟨.inl ⟨t, HSY.out, rfl⟩, HB8.out⟩
          · have HSY := Lib.hid (HNT.out hq)
            have hq1 : (textZ y m d h mi sc == l) = false := by simpa using hq
            have hq2 : (textZ y m d h mi sc != l) = true := by simpa using hq
            clear hq HNT HX7 x0 x1 x2 x3 x4 x5
            generalize textZ y m d h mi sc = tx at *
            unfold strV
            go_wp2_with fail
            go_ret2
            exact ⟨.inr ⟨HSY.out, rfl⟩, HB7.out⟩
        · have HC := Lib.hid hc; have HSY := Lib.hid (HNC.out hc)
          clear hc HCV HNC HNT
          go_wp2_with fail
          generalize wr.alloc _ = w4 at *
          generalize wr.heap.size = g at *
          refine (cright_no y m d h mi sc _ HC.out).mono ?_
          rintro e w5 ⟨rfl, hb⟩
          have HB5 := Lib.hid (HBA.out.trans (hb.mono HBA.out.size))
          clear hb HBA HXA HB x0 x1 x2 x3 x4 x5
          go_wp2_with fail
          go_ret2
          exact ⟨.inr ⟨HSY.out, rfl⟩, HB5.out⟩
  · have HN := Lib.hid (fun t (q : Says l t) => h19 (says_fits q).1)
    have hsz : (⟨l.toArray⟩ : ByteArray).size ≠ 19 := h19
    have hs2 : (((⟨l.toArray⟩ : ByteArray).size : Int) != 19) = true := by simp; omega
    have hs3 : ((l.length : Int) != 19) = true := by simp; omega
    clear h19 hsz
    go_enter Tryd.func28, Tryd.ntmps28
    go_wp2_with fail
    go_ret2
    exact ⟨.inr ⟨HN.out, rfl⟩, Below.refl _ _⟩
end Go.Proofs.YtnhbkfmaaannnaaDoor
