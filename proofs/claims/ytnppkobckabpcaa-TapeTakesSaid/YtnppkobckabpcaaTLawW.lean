/- TapeTakes walked. -/
import Derived.Test.YtnppkobckabpcaaTPair2
import Derived.Test.YtnppkobckabpcaaTBackW
import Derived.Deep.RegionWith
import Derived.Deep.RegionHeld3
import Derived.Deep.DeepCutAuto
import Derived.Deep.Light
namespace Go.Proofs.Ytnppkobckabpcaa
open Go.RowKit

theorem RowB.drew1 {w : World} {A : Option Addr} {n c : Nat} {bs : List Nat} (h : RowB w w.heap.size A n c bs) : RowB w.drew w.drew.heap.size A n c bs := ⟨h.len, h.byte, h.cap, h.top, h.nil, h.at_⟩
/-- What is asked in turn: the tape stands somewhere, its bytes are the same. -/
def TakesAt (w0 : World) (X T : Nat) (xc : Array Value) (bs : List Nat) (n : Nat) (s24 : Value) (wr : World) : Prop :=
  ∃ (j : Nat) (A : Option Addr) (c : Nat) (t err : Int), j ≤ n ∧ s24 = .int .i64 (j : Int) ∧ Box wr X 40 xc ∧ Box wr T 40 #[.slice A bs.length c, .int .i64 t, .int .i64 err] ∧ RowB wr wr.heap.size A bs.length c bs ∧ Below w0.heap.size w0 wr
set_option maxRecDepth 100000 in
set_option maxHeartbeats 32000000 in
theorem takes_walk (A0 L : Option Addr) (n0 c0 n cap : Nat) (t0 err0 : Int) (x0 : List Nat) (l : List AskE) (w : World) (htop : n ≤ 9223372036854775807)
    (h0 : RowB w w.heap.size A0 n0 c0 x0) (hi : AsksAt w w.heap.size L n l) :
    Calls Try.prog 4 #[tv A0 n0 c0 t0 err0, .slice L n cap] w fun e w' => e = .returned (.bool true) ∧ Below w.heap.size w w' := by
  have HI := Lib.hid hi; have HR0 := Lib.hid h0
  have BX := Lib.hid (Box.new w 40 #[.slice A0 n0 c0, .int .i64 t0, .int .i64 err0])
  have HB0 := Lib.hid (b_alloc w (.cells #[.slice A0 n0 c0, .int .i64 t0, .int .i64 err0] 40))
  clear hi h0
  unfold tv
  go_enter Try.func4, Try.ntmps4
  go_wp2_with fail
  refine (wakes_any _).mono ?_; rintro e w1 ⟨rfl, hb1⟩
  have HB1 := Lib.hid (gr_trans HB0.out hb1)
  have bx1 := BX.out.belowAll hb1
  obtain ⟨x0', x1', x2', _, _, _⟩ := bx1.three
  have BX1 := Lib.hid bx1
  have ow := own_any A0 n0 c0 t0 err0 x0 w1 ((HR0.out.below HB1.out).mono HB1.out.size)
  have a1 : (x0.take 16385).length ≤ 16385 := by rw [List.length_take]; omega
  have fw := fun (W : World) (hW : Below w.heap.size w W) => few_any A0 n0 c0 16385 x0 W ((HR0.out.below hW).mono hW.size) (by omega)
  rw [show ((16385 : Nat) : Int) = 16385 from rfl] at fw
  generalize x0.take 16385 = bs at *
  have FW := Lib.hid fw
  clear fw
  have OW := Lib.hid ow
  clear ow hb1 BX HB0 bx1
  unfold tv at *
  go_wp2_with fail
  refine OW.out.mono ?_; rintro e w2 ⟨A3, c3, rfl, ho3, hb2⟩
  obtain ⟨A3', c3', e3, r3⟩ := ho3.row
  cases e3
  have ba := b_alloc w2 (.cells #[.slice A3 bs.length c3, .int .i64 t0, .int .i64 err0] 40)
  have BT2 := Lib.hid (Box.new w2 40 #[.slice A3 bs.length c3, .int .i64 t0, .int .i64 err0])
  have BX2 := Lib.hid ((BX1.out.belowAll hb2).belowAll ba)
  have HB2 := Lib.hid (gr_trans (gr_trans HB1.out hb2) ba)
  have R2 := Lib.hid ((r3.below ba).mono ba.size)
  have hT : w.heap.size < w2.heap.size := by have := BX1.out.lt; have := hb2.size; omega
  have hT0 : w.heap.size ≤ w2.heap.size := by omega
  clear ho3 hb2 r3 ba OW BX1 HB1 x0' x1' x2'
  go_wp2_with fail
  go_loopw [24] (TakesAt w w.heap.size w2.heap.size #[.slice A0 n0 c0, .int .i64 t0, .int .i64 err0] bs n) (fun s24 _ => n - (intOf s24).toNat)
  case atStart => exact ⟨0, A3, c3, t0, err0, by omega, rfl, BX2.out, BT2.out, R2.out, HB2.out⟩
  case round =>
    obtain ⟨j, A5, c5, t, err, hj, rfl, hbx, hbt, hrw, hb⟩ := hrel
    have HB := Lib.hid hb
    have hz := hb.size
    have hTl := hbt.lt
    clear BX2 BT2 R2 HB2
    by_cases hmain : j < n ∧ j ≠ 30
    · obtain ⟨hlt, hne⟩ := hmain
      obtain ⟨g, o, x, e1, rfl, hg, hM, q0, q1, q2⟩ := (HI.out.below hb).at_ j hlt
      have d30 : ((j : Int) == 30) = false := by simp; omega
      have ba := b_alloc wr (.cells #[.int .i64 x.k, .int .u64 (x.N : Int), .int .i64 x.M] 44)
      have BA := Lib.hid (Box.new wr 44 #[.int .i64 x.k, .int .u64 (x.N : Int), .int .i64 x.M])
      have BT := Lib.hid (hbt.alloc (.cells #[.int .i64 x.k, .int .u64 (x.N : Int), .int .i64 x.M] 44))
      have BX := Lib.hid (hbx.alloc (.cells #[.int .i64 x.k, .int .u64 (x.N : Int), .int .i64 x.M] 44))
      have ra := (hrw.below ba).mono ba.size
      have ow := own_any A5 bs.length c5 t err bs _ ra
      rw [List.take_of_length_le a1] at ow
      have OW := Lib.hid ow
      have RA := Lib.hid ra
      have HBA := Lib.hid (gr_trans hb ba)
      obtain ⟨d0, d1, d2, f0, f1, f2⟩ := hbt.three
      have HM := Lib.hid hM
      clear ow ra ba hrw hb hM e1 hbx hbt
      unfold tv at *
      go_wp2_with fail
      refine OW.out.mono ?_; rintro e w5 ⟨A6, c6, rfl, ho6, hb5⟩
      obtain ⟨A6', c6', e6, r6⟩ := ho6.row
      cases e6
      have ba := b_alloc w5 (.cells #[.slice A6 bs.length c6, .int .i64 t, .int .i64 err] 40)
      have bw := Box.new w5 40 #[.slice A6 bs.length c6, .int .i64 t, .int .i64 err]
      have R6 := Lib.hid ((r6.below ba).mono ba.size)
      have R5 := Lib.hid ((((RA.out.below hb5).mono hb5.size).below ba).mono ba.size)
      have BA5 := Lib.hid ((BA.out.belowAll hb5).belowAll ba)
      have BT5 := Lib.hid ((BT.out.belowAll hb5).belowAll ba)
      have BX5 := Lib.hid ((BX.out.belowAll hb5).belowAll ba)
      have HB5 := Lib.hid (gr_trans (gr_trans HBA.out hb5) ba)
      have rg := right_any A6 bs.length c6 t err (w5.alloc (.cells #[.slice A6 bs.length c6, .int .i64 t, .int .i64 err] 40))
      have RG := Lib.hid rg
      have BW5 := Lib.hid bw
      clear ho6 hb5 r6 ba bw rg OW RA BA BT BX HBA HB d0 d1 d2 f0 f1 f2 q0 q1 q2
      unfold tv at *
      go_wp2_with fail
      refine RG.out.mono ?_; rintro e w6 ⟨rfl, hb6⟩
      have R66 := Lib.hid ((R6.out.below hb6).mono hb6.size)
      have R56 := Lib.hid ((R5.out.below hb6).mono hb6.size)
      have BA6 := Lib.hid (BA5.out.belowAll hb6)
      have BT6 := Lib.hid (BT5.out.belowAll hb6)
      have BX6 := Lib.hid (BX5.out.belowAll hb6)
      have BW6 := Lib.hid (BW5.out.belowAll hb6)
      have HB6 := Lib.hid (gr_trans HB5.out hb6)
      obtain ⟨y0, y1, y2, _, _, _⟩ := BW6.out.three
      clear hb6 R6 R5 BA5 BT5 BX5 HB5 RG BW5
      go_upto_region 10 with (fail)
      go_cut [10, 11] from 35 to 38 (fun s10 s11 wx => s10 = .int .i64 err ∧ s11 = .int .i64 err ∧ Below w6.heap.size w6 wx)
      case first =>
        go_region
        go_wp2_with fail
        go_meet
        exact ⟨rfl, rfl, (Below.refl _ w6).drew⟩
      case rest =>
        obtain ⟨rfl, rfl, hb7⟩ := hcut
        have R67 := Lib.hid ((R66.out.below hb7).mono hb7.size)
        have R57 := Lib.hid ((R56.out.below hb7).mono hb7.size)
        have BA7 := Lib.hid (BA6.out.belowAll hb7)
        have BT7 := Lib.hid (BT6.out.belowAll hb7)
        have BX7 := Lib.hid (BX6.out.belowAll hb7)
        have BW7 := Lib.hid (BW6.out.belowAll hb7)
        have HB7 := Lib.hid (gr_trans HB6.out hb7)
        obtain ⟨v0, v1, v2, _, _, _⟩ := BW7.out.three
        clear hb7 R66 R56 BA6 BT6 BX6 BW6 HB6 y0 y1 y2
        go_upto_region 11 with (fail)
        go_cut [48] from 39 to 48 (fun s48 wx => s48 = .bool ((err == 0) && decide (t < (bs.length : Int))) ∧ wx = wc)
        case first =>
          rcases hq : (err == 0) with _ | _
          all_goals
            go_wp2_with fail
            go_meet
            exact ⟨by rw [hq]; simp, rfl⟩
        case rest =>
          obtain ⟨rfl, rfl⟩ := hcut
          have hov : overT bs.length t err = if badT bs.length t then 120 else if (err == 0) && decide (t < (bs.length : Int)) then 3 else err := by
            unfold overT checkT
            cases badT bs.length t
            · by_cases he : err = 0
              · subst he
                by_cases ht : t < (bs.length : Int) <;> simp [ht]
              · simp [he]
            · simp
          obtain ⟨q, hq⟩ : ∃ q, ((err == 0) && decide (t < (bs.length : Int))) = q := ⟨_, rfl⟩
          rw [hq] at hov
          simp only [hq]
          have HOV := Lib.hid hov
          clear hov hq
          go_upto_if 48 with (fail)
          go_cut [11] from 39 to 48 (fun s11 wx => s11 = .int .i64 (if q then 3 else err) ∧ wx = wc)
          case first =>
            cases q
            all_goals
              go_wp2_with fail
              go_meet
              exact ⟨rfl, rfl⟩
          case rest =>
            obtain ⟨rfl, rfl⟩ := hcut
            generalize (if q then (3 : Int) else err) = ov at *
            obtain ⟨b, hb⟩ : ∃ b, badT bs.length t = b := ⟨_, rfl⟩
            have hck : checkT bs.length t err = if b then 120 else err := by unfold checkT; rw [hb]
            rw [hb] at HOV
            simp only [hb]
            have HCK := Lib.hid hck
            have HB' := Lib.hid hb
            clear hck hb
            go_upto_region 13 with (fail)
            go_upto_if 50 with (fail)
            go_cut [10, 11] from 49 to 50 (fun s10 s11 wx => s10 = .int .i64 (if b then 120 else err) ∧ s11 = .int .i64 (if b then 120 else ov) ∧ wx = wc)
            case first =>
              cases b
              all_goals
                go_wp2_with fail
                go_meet
                exact ⟨rfl, rfl, rfl⟩
            case rest =>
              obtain ⟨rfl, rfl, rfl⟩ := hcut
              rw [← HCK.out, ← HOV.out]
              have CK := Lib.hid (fun W => check_any A5 bs.length c5 t err W)
              have OV := Lib.hid (fun W => over_any A5 bs.length c5 t err W)
              obtain ⟨u0, u1, u2, _, _, _⟩ := BT7.out.three
              generalize checkT bs.length t err = ck at *
              generalize overT bs.length t err = ovt at *
              unfold tv at *
              go_wp2_with fail
              refine (CK.out _).mono ?_; rintro e w8 ⟨rfl, hb8⟩
              have BT8 := Lib.hid (BT7.out.belowAll hb8)
              have HB8 := Lib.hid hb8
              clear u0 u1 u2
              obtain ⟨u0, u1, u2, _, _, _⟩ := BT8.out.three
              clear hb8
              go_wp2_with fail
              refine (OV.out _).mono ?_; rintro e w9 ⟨rfl, hb9⟩
              have hb79 := gr_trans HB8.out hb9
              have R69 := Lib.hid ((R67.out.below hb79).mono hb79.size)
              have R59 := Lib.hid ((R57.out.below hb79).mono hb79.size)
              have BA9 := Lib.hid (BA7.out.belowAll hb79)
              have BT9 := Lib.hid (BT7.out.belowAll hb79)
              have BX9 := Lib.hid (BX7.out.belowAll hb79)
              have BW9 := Lib.hid (BW7.out.belowAll hb79)
              have HB9 := Lib.hid (gr_trans HB7.out hb79)
              clear hb79 hb9 HB8 BT8 u0 u1 u2 v0 v1 v2 R67 R57 BA7 BT7 BX7 BW7 HB7 HCK HOV HB' CK OV
              go_upto_region 17 with (fail)
              have ct := fun (W' : World) (hW : Below w9.heap.size w9 W') => ask_any x.k x.N x.M A5 bs.length c5 t err bs W' ((R59.out.below hW).mono hW.size) (by omega) HM.out
              have cs := fun (W' : World) (A' : Option Addr) (c' : Nat) (hR : RowB W' W'.heap.size A' bs.length c' bs) => say_any x.k x.N x.M A' bs.length c' t err bs W' hR HM.out
              have co := fun (W' : World) (hW : Below w9.heap.size w9 W') => own_any A5 bs.length c5 t err bs W' ((R59.out.below hW).mono hW.size)
              rw [List.take_of_length_le a1] at co
              unfold AskOf at ct
              generalize (askG (askK x.k) x.N x.M bs.length bs t err).1 = t2 at *
              generalize (askG (askK x.k) x.N x.M bs.length bs t err).2.1 = err2 at *
              generalize askT (askK x.k) x.N x.M bs.length bs t err = TT at *
              unfold tv at *
              have CT := Lib.hid ct; have CS := Lib.hid cs; have CO := Lib.hid co
              have hS : ∀ w' : World, Below w9.heap.size w9 w' → w'.cell? ⟨w2.heap.size, 0, none⟩ = some (.slice A5 bs.length c5) ∧ w'.cell? ⟨w2.heap.size, 1, none⟩ = some (.int .i64 t) ∧ w'.cell? ⟨w2.heap.size, 2, none⟩ = some (.int .i64 err) ∧ w'.cell? ⟨wr.heap.size, 0, none⟩ = some (.int .i64 x.k) ∧ w'.cell? ⟨wr.heap.size, 1, none⟩ = some (.int .u64 (x.N : Int)) ∧ w'.cell? ⟨wr.heap.size, 2, none⟩ = some (.int .i64 x.M) := fun w' h => by
                have b := BT9.out.belowAll h
                have a := BA9.out.belowAll h
                exact ⟨b.cell 0, b.cell 1, b.cell 2, a.cell 0, a.cell 1, a.cell 2⟩
              have HS := Lib.hid hS
              have hB0 := Below.refl w9.heap.size w9
              clear ct cs co hS
              go_cut [12, 13] from 61 to 67 (fun s12 s13 wx => ∃ (g0 g1 : Nat) (a0 b0 a1 b1 : Value), s12 = .pointer (some ⟨g0, 0, none⟩) ∧ s13 = .pointer (some ⟨g1, 0, none⟩) ∧ Pair w9 wx bs t2 err2 TT g0 g1 a0 b0 a1 b1)
              case first =>
                go_region_held3 (fun w' => w'.cell? ⟨w2.heap.size, 0, none⟩ = some (.slice A5 bs.length c5) ∧ w'.cell? ⟨w2.heap.size, 1, none⟩ = some (.int .i64 t) ∧ w'.cell? ⟨w2.heap.size, 2, none⟩ = some (.int .i64 err) ∧ w'.cell? ⟨wr.heap.size, 0, none⟩ = some (.int .i64 x.k) ∧ w'.cell? ⟨wr.heap.size, 1, none⟩ = some (.int .u64 (x.N : Int)) ∧ w'.cell? ⟨wr.heap.size, 2, none⟩ = some (.int .i64 x.M)) ((refine HS.out _ ?_; (repeat (with_reducible first | exact hBS | exact hBO | exact hBT | exact hB0 | refine Below.drew ?_ | refine gr_alloc ?_ _ | (refine below_set ?_ (by first | exact Nat.le_refl _ | exact Nat.le_add_right _ _ | exact hBT.size | exact Nat.le_add_right_of_le hBT.size | exact hBO.size | exact Nat.le_add_right_of_le hBO.size | exact hBS.size | exact Nat.le_add_right_of_le hBS.size) _))))) (first
                  | (go_at_call 24
                     (with_reducible refine (CT.out _ (by (repeat (with_reducible first | exact hBS | exact hBO | exact hBT | exact hB0 | refine Below.drew ?_ | refine gr_alloc ?_ _ | (refine below_set ?_ (by first | exact Nat.le_refl _ | exact Nat.le_add_right _ _ | exact hBT.size | exact Nat.le_add_right_of_le hBT.size | exact hBO.size | exact Nat.le_add_right_of_le hBO.size | exact hBS.size | exact Nat.le_add_right_of_le hBS.size) _))))).mono ?_)

                     rintro e wT ⟨vT, rfl, ⟨sT, bT, rfl, hsT, hqT⟩, hbT⟩
                     unfold toldV
                     obtain ⟨AT, cT, rfl, _⟩ := hsT.row
                     obtain ⟨QT, dT, rfl, _⟩ := hqT.row
                     have hBT : Below w9.heap.size w9 wT := (show Below w9.heap.size w9 _ by (repeat (with_reducible first | exact hBS | exact hBO | exact hBT | exact hB0 | refine Below.drew ?_ | refine gr_alloc ?_ _ | (refine below_set ?_ (by first | exact Nat.le_refl _ | exact Nat.le_add_right _ _ | exact hBT.size | exact Nat.le_add_right_of_le hBT.size | exact hBO.size | exact Nat.le_add_right_of_le hBO.size | exact hBS.size | exact Nat.le_add_right_of_le hBS.size) _)))).trans (hbT.mono (Below.size (show Below w9.heap.size w9 _ by (repeat (with_reducible first | exact hBS | exact hBO | exact hBT | exact hB0 | refine Below.drew ?_ | refine gr_alloc ?_ _ | (refine below_set ?_ (by first | exact Nat.le_refl _ | exact Nat.le_add_right _ _ | exact hBT.size | exact Nat.le_add_right_of_le hBT.size | exact hBO.size | exact Nat.le_add_right_of_le hBO.size | exact hBS.size | exact Nat.le_add_right_of_le hBS.size) _)))))))
                  | (go_at_call 20
                     (with_reducible refine (CO.out _ (by (repeat (with_reducible first | exact hBS | exact hBO | exact hBT | exact hB0 | refine Below.drew ?_ | refine gr_alloc ?_ _ | (refine below_set ?_ (by first | exact Nat.le_refl _ | exact Nat.le_add_right _ _ | exact hBT.size | exact Nat.le_add_right_of_le hBT.size | exact hBO.size | exact Nat.le_add_right_of_le hBO.size | exact hBS.size | exact Nat.le_add_right_of_le hBS.size) _))))).mono ?_)

                     rintro e wO ⟨AO, cO, rfl, hoO, hbO⟩
                     have hBO : Below w9.heap.size w9 wO := (show Below w9.heap.size w9 _ by (repeat (with_reducible first | exact hBS | exact hBO | exact hBT | exact hB0 | refine Below.drew ?_ | refine gr_alloc ?_ _ | (refine below_set ?_ (by first | exact Nat.le_refl _ | exact Nat.le_add_right _ _ | exact hBT.size | exact Nat.le_add_right_of_le hBT.size | exact hBO.size | exact Nat.le_add_right_of_le hBO.size | exact hBS.size | exact Nat.le_add_right_of_le hBS.size) _)))).trans (hbO.mono (Below.size (show Below w9.heap.size w9 _ by (repeat (with_reducible first | exact hBS | exact hBO | exact hBT | exact hB0 | refine Below.drew ?_ | refine gr_alloc ?_ _ | (refine below_set ?_ (by first | exact Nat.le_refl _ | exact Nat.le_add_right _ _ | exact hBT.size | exact Nat.le_add_right_of_le hBT.size | exact hBO.size | exact Nat.le_add_right_of_le hBO.size | exact hBS.size | exact Nat.le_add_right_of_le hBS.size) _)))))))
                  | (go_at_call 25
                     (with_reducible refine (CS.out _ _ _ (rowB_up hoO.rowOf (by (repeat (with_reducible first | exact Below.refl _ _ | refine Below.drew ?_ | refine gr_alloc ?_ _))))).mono ?_)

                     rintro e wS ⟨bS, rfl, hqS, hbS⟩
                     unfold toldV
                     obtain ⟨QS, dS, rfl, _⟩ := hqS.row
                     have hBS : Below w9.heap.size w9 wS := (show Below w9.heap.size w9 _ by (repeat (with_reducible first | exact hBS | exact hBO | exact hBT | exact hB0 | refine Below.drew ?_ | refine gr_alloc ?_ _ | (refine below_set ?_ (by first | exact Nat.le_refl _ | exact Nat.le_add_right _ _ | exact hBT.size | exact Nat.le_add_right_of_le hBT.size | exact hBO.size | exact Nat.le_add_right_of_le hBO.size | exact hBS.size | exact Nat.le_add_right_of_le hBS.size) _)))).trans (hbS.mono (Below.size (show Below w9.heap.size w9 _ by (repeat (with_reducible first | exact hBS | exact hBO | exact hBT | exact hB0 | refine Below.drew ?_ | refine gr_alloc ?_ _ | (refine below_set ?_ (by first | exact Nat.le_refl _ | exact Nat.le_add_right _ _ | exact hBT.size | exact Nat.le_add_right_of_le hBT.size | exact hBO.size | exact Nat.le_add_right_of_le hBO.size | exact hBS.size | exact Nat.le_add_right_of_le hBS.size) _))))))

                     have zT := hbT.size; have zO := hbO.size; have zS := hbS.size
                     simp at zT zO zS
                     (try (have kne : ¬ w9.heap.size = wT.heap.size := by omega
                           have knf : ¬ wT.heap.size = w9.heap.size := by omega))
                     (try (have kne : ¬ w9.heap.size + 1 = wT.heap.size := by omega
                           have knf : ¬ wT.heap.size = w9.heap.size + 1 := by omega))
                     (try (have kne : ¬ w9.heap.size = wO.heap.size := by omega
                           have knf : ¬ wO.heap.size = w9.heap.size := by omega))
                     (try (have kne : ¬ w9.heap.size + 1 = wO.heap.size := by omega
                           have knf : ¬ wO.heap.size = w9.heap.size + 1 := by omega))
                     (try (have kne : ¬ w9.heap.size = wS.heap.size := by omega
                           have knf : ¬ wS.heap.size = w9.heap.size := by omega))
                     (try (have kne : ¬ w9.heap.size + 1 = wS.heap.size := by omega
                           have knf : ¬ wS.heap.size = w9.heap.size + 1 := by omega))
                     (try (have kne : ¬ wT.heap.size = wO.heap.size := by omega
                           have knf : ¬ wO.heap.size = wT.heap.size := by omega))
                     (try (have kne : ¬ wT.heap.size + 1 = wO.heap.size := by omega
                           have knf : ¬ wO.heap.size = wT.heap.size + 1 := by omega))
                     (try (have kne : ¬ wT.heap.size = wS.heap.size := by omega
                           have knf : ¬ wS.heap.size = wT.heap.size := by omega))
                     (try (have kne : ¬ wT.heap.size + 1 = wS.heap.size := by omega
                           have knf : ¬ wS.heap.size = wT.heap.size + 1 := by omega))
                     (try (have kne : ¬ wO.heap.size = wS.heap.size := by omega
                           have knf : ¬ wS.heap.size = wO.heap.size := by omega))
                     (try (have kne : ¬ wO.heap.size + 1 = wS.heap.size := by omega
                           have knf : ¬ wS.heap.size = wO.heap.size + 1 := by omega))

                     have ZT := Lib.hid zT; have ZO := Lib.hid zO; have ZS := Lib.hid zS
                     clear zT zO zS

                     (try (have bxk : Box wS (w9.heap.size) 48 #[.slice none 0 0, .int .i64 0, .int .i64 0, .int .u64 0, .int .i64 0, .bool false, .slice none 0 0] := by (repeat (with_reducible first | (refine Box.new' ?_; (simp; done)) | refine Box.alloc ?_ _ | refine Box.belowAll ?_ hbS | refine Box.belowAll ?_ hbO | refine Box.belowAll ?_ hbT | refine Box.drew1' ?_))
                           obtain ⟨kk0, kk1, kk2, kk3, kk4, kk5, kk6⟩ := bxk.seven
                           have kf0 := bxk.frozen 0; have kf1 := bxk.frozen 1; have kf2 := bxk.frozen 2; have kf3 := bxk.frozen 3; have kf4 := bxk.frozen 4; have kf5 := bxk.frozen 5; have kf6 := bxk.frozen 6
                           have klt := bxk.lt
                           clear bxk))
                     (try (have bxk : Box wS (w9.heap.size + 1) 48 #[.slice none 0 0, .int .i64 0, .int .i64 0, .int .u64 0, .int .i64 0, .bool false, .slice none 0 0] := by (repeat (with_reducible first | (refine Box.new' ?_; (simp; done)) | refine Box.alloc ?_ _ | refine Box.belowAll ?_ hbS | refine Box.belowAll ?_ hbO | refine Box.belowAll ?_ hbT | refine Box.drew1' ?_))
                           obtain ⟨kk0, kk1, kk2, kk3, kk4, kk5, kk6⟩ := bxk.seven
                           have kf0 := bxk.frozen 0; have kf1 := bxk.frozen 1; have kf2 := bxk.frozen 2; have kf3 := bxk.frozen 3; have kf4 := bxk.frozen 4; have kf5 := bxk.frozen 5; have kf6 := bxk.frozen 6
                           have klt := bxk.lt
                           clear bxk))
                     (try (have bxk : Box wS (wT.heap.size) 48 #[.slice none 0 0, .int .i64 0, .int .i64 0, .int .u64 0, .int .i64 0, .bool false, .slice none 0 0] := by (repeat (with_reducible first | (refine Box.new' ?_; (simp; done)) | refine Box.alloc ?_ _ | refine Box.belowAll ?_ hbS | refine Box.belowAll ?_ hbO | refine Box.belowAll ?_ hbT | refine Box.drew1' ?_))
                           obtain ⟨kk0, kk1, kk2, kk3, kk4, kk5, kk6⟩ := bxk.seven
                           have kf0 := bxk.frozen 0; have kf1 := bxk.frozen 1; have kf2 := bxk.frozen 2; have kf3 := bxk.frozen 3; have kf4 := bxk.frozen 4; have kf5 := bxk.frozen 5; have kf6 := bxk.frozen 6
                           have klt := bxk.lt
                           clear bxk))
                     (try (have bxk : Box wS (wT.heap.size + 1) 48 #[.slice none 0 0, .int .i64 0, .int .i64 0, .int .u64 0, .int .i64 0, .bool false, .slice none 0 0] := by (repeat (with_reducible first | (refine Box.new' ?_; (simp; done)) | refine Box.alloc ?_ _ | refine Box.belowAll ?_ hbS | refine Box.belowAll ?_ hbO | refine Box.belowAll ?_ hbT | refine Box.drew1' ?_))
                           obtain ⟨kk0, kk1, kk2, kk3, kk4, kk5, kk6⟩ := bxk.seven
                           have kf0 := bxk.frozen 0; have kf1 := bxk.frozen 1; have kf2 := bxk.frozen 2; have kf3 := bxk.frozen 3; have kf4 := bxk.frozen 4; have kf5 := bxk.frozen 5; have kf6 := bxk.frozen 6
                           have klt := bxk.lt
                           clear bxk))
                     (try (have bxk : Box wS (wO.heap.size) 48 #[.slice none 0 0, .int .i64 0, .int .i64 0, .int .u64 0, .int .i64 0, .bool false, .slice none 0 0] := by (repeat (with_reducible first | (refine Box.new' ?_; (simp; done)) | refine Box.alloc ?_ _ | refine Box.belowAll ?_ hbS | refine Box.belowAll ?_ hbO | refine Box.belowAll ?_ hbT | refine Box.drew1' ?_))
                           obtain ⟨kk0, kk1, kk2, kk3, kk4, kk5, kk6⟩ := bxk.seven
                           have kf0 := bxk.frozen 0; have kf1 := bxk.frozen 1; have kf2 := bxk.frozen 2; have kf3 := bxk.frozen 3; have kf4 := bxk.frozen 4; have kf5 := bxk.frozen 5; have kf6 := bxk.frozen 6
                           have klt := bxk.lt
                           clear bxk))
                     (try (have bxk : Box wS (wO.heap.size + 1) 48 #[.slice none 0 0, .int .i64 0, .int .i64 0, .int .u64 0, .int .i64 0, .bool false, .slice none 0 0] := by (repeat (with_reducible first | (refine Box.new' ?_; (simp; done)) | refine Box.alloc ?_ _ | refine Box.belowAll ?_ hbS | refine Box.belowAll ?_ hbO | refine Box.belowAll ?_ hbT | refine Box.drew1' ?_))
                           obtain ⟨kk0, kk1, kk2, kk3, kk4, kk5, kk6⟩ := bxk.seven
                           have kf0 := bxk.frozen 0; have kf1 := bxk.frozen 1; have kf2 := bxk.frozen 2; have kf3 := bxk.frozen 3; have kf4 := bxk.frozen 4; have kf5 := bxk.frozen 5; have kf6 := bxk.frozen 6
                           have klt := bxk.lt
                           clear bxk))
                     skip))
                all_goals
                  go_wp2_with fail
                  go_meet
                  go_light
                  have zT := hbT.size; have zO := hbO.size; have zS := hbS.size
                  simp at zT zO zS
                  have hwO : Below wT.heap.size wT wO := by (repeat (with_reducible first | exact Below.refl _ _ | refine Below.drew ?_ | refine gr_alloc ?_ _ | refine gr_trans ?_ hbO))
                  have hwS : Below wO.heap.size wO wS := by (repeat (with_reducible first | exact Below.refl _ _ | refine Below.drew ?_ | refine gr_alloc ?_ _ | refine gr_trans ?_ hbS))
                  have HV := halves_mk hsT hqT hoO hqS (by first | exact Nat.le_refl _ | (simp; done) | omega | (simp; omega)) (by first | exact Nat.le_refl _ | (simp; done) | omega | (simp; omega)) (by first | exact Nat.le_refl _ | (simp; done) | omega | (simp; omega)) (by first | exact Nat.le_refl _ | (simp; done) | omega | (simp; omega)) (by first | exact Nat.le_refl _ | (simp; done) | omega | (simp; omega)) hwO hwS hBS
                · with_reducible exact ⟨_, _, _, _, _, _, rfl, rfl, pair_aa HV⟩
                · with_reducible exact ⟨_, _, _, _, _, _, rfl, rfl, pair_aa' HV⟩
                · ((with_reducible refine ⟨_, _, _, _, _, _, rfl, rfl, pair_sa (a0 := .slice none 0 0) (a1 := .int .i64 0) (a2 := .int .i64 0) (a3 := .int .u64 0) (a4 := .int .i64 0) (a5 := .bool false) (a6 := .slice none 0 0) HV ?_ ?_ ?_⟩); all_goals (first | ((with_reducible refine off_mk hsT hqT hoO hqS ?_); (simp; omega)) | ((with_reducible exact Nat.le_refl _)) | omega | (repeat (with_reducible first | (refine Box.new' ?_; (simp; done)) | refine Box.alloc ?_ _ | refine Box.belowAll ?_ hbS | refine Box.belowAll ?_ hbO | refine Box.belowAll ?_ hbT | refine Box.drew1' ?_))))
                · ((with_reducible refine ⟨_, _, _, _, _, _, rfl, rfl, pair_ss (a0 := .slice none 0 0) (a1 := .int .i64 0) (a2 := .int .i64 0) (a3 := .int .u64 0) (a4 := .int .i64 0) (a5 := .bool false) (a6 := .slice none 0 0) (c0 := .slice none 0 0) (c1 := .int .i64 0) (c2 := .int .i64 0) (c3 := .int .u64 0) (c4 := .int .i64 0) (c5 := .bool false) (c6 := .slice none 0 0) HV ?_ ?_ ?_ ?_ ?_ ?_ ?_⟩); all_goals (first | ((with_reducible refine off_mk hsT hqT hoO hqS ?_); (simp; omega)) | ((with_reducible exact Nat.le_refl _)) | omega | (repeat (with_reducible first | (refine Box.new' ?_; (simp; done)) | refine Box.alloc ?_ _ | refine Box.belowAll ?_ hbS | refine Box.belowAll ?_ hbO | refine Box.belowAll ?_ hbT | refine Box.drew1' ?_))))
                · ((with_reducible refine ⟨_, _, _, _, _, _, rfl, rfl, pair_sa' (a0 := .slice none 0 0) (a1 := .int .i64 0) (a2 := .int .i64 0) (a3 := .int .u64 0) (a4 := .int .i64 0) (a5 := .bool false) (a6 := .slice none 0 0) HV ?_ ?_ ?_⟩); all_goals (first | ((with_reducible refine off_mk hsT hqT hoO hqS ?_); (simp; omega)) | ((with_reducible exact Nat.le_refl _)) | omega | (repeat (with_reducible first | (refine Box.new' ?_; (simp; done)) | refine Box.alloc ?_ _ | refine Box.belowAll ?_ hbS | refine Box.belowAll ?_ hbO | refine Box.belowAll ?_ hbT | refine Box.drew1' ?_))))
                · ((with_reducible refine ⟨_, _, _, _, _, _, rfl, rfl, pair_ss (a0 := .slice none 0 0) (a1 := .int .i64 0) (a2 := .int .i64 0) (a3 := .int .u64 0) (a4 := .int .i64 0) (a5 := .bool false) (a6 := .slice none 0 0) (c0 := .slice none 0 0) (c1 := .int .i64 0) (c2 := .int .i64 0) (c3 := .int .u64 0) (c4 := .int .i64 0) (c5 := .bool false) (c6 := .slice none 0 0) HV ?_ ?_ ?_ ?_ ?_ ?_ ?_⟩); all_goals (first | ((with_reducible refine off_mk hsT hqT hoO hqS ?_); (simp; omega)) | ((with_reducible exact Nat.le_refl _)) | omega | (repeat (with_reducible first | (refine Box.new' ?_; (simp; done)) | refine Box.alloc ?_ _ | refine Box.belowAll ?_ hbS | refine Box.belowAll ?_ hbO | refine Box.belowAll ?_ hbT | refine Box.drew1' ?_))))
                · ((with_reducible refine ⟨_, _, _, _, _, _, rfl, rfl, pair_sa (a0 := .slice none 0 0) (a1 := .int .i64 0) (a2 := .int .i64 0) (a3 := .int .u64 0) (a4 := .int .i64 0) (a5 := .bool false) (a6 := .slice none 0 0) HV ?_ ?_ ?_⟩); all_goals (first | ((with_reducible refine off_mk hsT hqT hoO hqS ?_); (simp; omega)) | ((with_reducible exact Nat.le_refl _)) | omega | (repeat (with_reducible first | (refine Box.new' ?_; (simp; done)) | refine Box.alloc ?_ _ | refine Box.belowAll ?_ hbS | refine Box.belowAll ?_ hbO | refine Box.belowAll ?_ hbT | refine Box.drew1' ?_))))
                · ((with_reducible refine ⟨_, _, _, _, _, _, rfl, rfl, pair_ss (a0 := .slice none 0 0) (a1 := .int .i64 0) (a2 := .int .i64 0) (a3 := .int .u64 0) (a4 := .int .i64 0) (a5 := .bool false) (a6 := .slice none 0 0) (c0 := .slice none 0 0) (c1 := .int .i64 0) (c2 := .int .i64 0) (c3 := .int .u64 0) (c4 := .int .i64 0) (c5 := .bool false) (c6 := .slice none 0 0) HV ?_ ?_ ?_ ?_ ?_ ?_ ?_⟩); all_goals (first | ((with_reducible refine off_mk hsT hqT hoO hqS ?_); (simp; omega)) | ((with_reducible exact Nat.le_refl _)) | omega | (repeat (with_reducible first | (refine Box.new' ?_; (simp; done)) | refine Box.alloc ?_ _ | refine Box.belowAll ?_ hbS | refine Box.belowAll ?_ hbO | refine Box.belowAll ?_ hbT | refine Box.drew1' ?_))))
                · ((with_reducible refine ⟨_, _, _, _, _, _, rfl, rfl, pair_ss (a0 := .slice none 0 0) (a1 := .int .i64 0) (a2 := .int .i64 0) (a3 := .int .u64 0) (a4 := .int .i64 0) (a5 := .bool false) (a6 := .slice none 0 0) (c0 := .slice none 0 0) (c1 := .int .i64 0) (c2 := .int .i64 0) (c3 := .int .u64 0) (c4 := .int .i64 0) (c5 := .bool false) (c6 := .slice none 0 0) HV ?_ ?_ ?_ ?_ ?_ ?_ ?_⟩); all_goals (first | ((with_reducible refine off_mk hsT hqT hoO hqS ?_); (simp; omega)) | ((with_reducible exact Nat.le_refl _)) | omega | (repeat (with_reducible first | (refine Box.new' ?_; (simp; done)) | refine Box.alloc ?_ _ | refine Box.belowAll ?_ hbS | refine Box.belowAll ?_ hbO | refine Box.belowAll ?_ hbT | refine Box.drew1' ?_))))
                · ((with_reducible refine ⟨_, _, _, _, _, _, rfl, rfl, pair_sa' (a0 := .slice none 0 0) (a1 := .int .i64 0) (a2 := .int .i64 0) (a3 := .int .u64 0) (a4 := .int .i64 0) (a5 := .bool false) (a6 := .slice none 0 0) HV ?_ ?_ ?_⟩); all_goals (first | ((with_reducible refine off_mk hsT hqT hoO hqS ?_); (simp; omega)) | ((with_reducible exact Nat.le_refl _)) | omega | (repeat (with_reducible first | (refine Box.new' ?_; (simp; done)) | refine Box.alloc ?_ _ | refine Box.belowAll ?_ hbS | refine Box.belowAll ?_ hbO | refine Box.belowAll ?_ hbT | refine Box.drew1' ?_))))
                · ((with_reducible refine ⟨_, _, _, _, _, _, rfl, rfl, pair_ss (a0 := .slice none 0 0) (a1 := .int .i64 0) (a2 := .int .i64 0) (a3 := .int .u64 0) (a4 := .int .i64 0) (a5 := .bool false) (a6 := .slice none 0 0) (c0 := .slice none 0 0) (c1 := .int .i64 0) (c2 := .int .i64 0) (c3 := .int .u64 0) (c4 := .int .i64 0) (c5 := .bool false) (c6 := .slice none 0 0) HV ?_ ?_ ?_ ?_ ?_ ?_ ?_⟩); all_goals (first | ((with_reducible refine off_mk hsT hqT hoO hqS ?_); (simp; omega)) | ((with_reducible exact Nat.le_refl _)) | omega | (repeat (with_reducible first | (refine Box.new' ?_; (simp; done)) | refine Box.alloc ?_ _ | refine Box.belowAll ?_ hbS | refine Box.belowAll ?_ hbO | refine Box.belowAll ?_ hbT | refine Box.drew1' ?_))))
                · ((with_reducible refine ⟨_, _, _, _, _, _, rfl, rfl, pair_ss (a0 := .slice none 0 0) (a1 := .int .i64 0) (a2 := .int .i64 0) (a3 := .int .u64 0) (a4 := .int .i64 0) (a5 := .bool false) (a6 := .slice none 0 0) (c0 := .slice none 0 0) (c1 := .int .i64 0) (c2 := .int .i64 0) (c3 := .int .u64 0) (c4 := .int .i64 0) (c5 := .bool false) (c6 := .slice none 0 0) HV ?_ ?_ ?_ ?_ ?_ ?_ ?_⟩); all_goals (first | ((with_reducible refine off_mk hsT hqT hoO hqS ?_); (simp; omega)) | ((with_reducible exact Nat.le_refl _)) | omega | (repeat (with_reducible first | (refine Box.new' ?_; (simp; done)) | refine Box.alloc ?_ _ | refine Box.belowAll ?_ hbS | refine Box.belowAll ?_ hbO | refine Box.belowAll ?_ hbT | refine Box.drew1' ?_))))
                · ((with_reducible refine ⟨_, _, _, _, _, _, rfl, rfl, pair_sa (a0 := .slice none 0 0) (a1 := .int .i64 0) (a2 := .int .i64 0) (a3 := .int .u64 0) (a4 := .int .i64 0) (a5 := .bool false) (a6 := .slice none 0 0) HV ?_ ?_ ?_⟩); all_goals (first | ((with_reducible refine off_mk hsT hqT hoO hqS ?_); (simp; omega)) | ((with_reducible exact Nat.le_refl _)) | omega | (repeat (with_reducible first | (refine Box.new' ?_; (simp; done)) | refine Box.alloc ?_ _ | refine Box.belowAll ?_ hbS | refine Box.belowAll ?_ hbO | refine Box.belowAll ?_ hbT | refine Box.drew1' ?_))))
                · ((with_reducible refine ⟨_, _, _, _, _, _, rfl, rfl, pair_ss (a0 := .slice none 0 0) (a1 := .int .i64 0) (a2 := .int .i64 0) (a3 := .int .u64 0) (a4 := .int .i64 0) (a5 := .bool false) (a6 := .slice none 0 0) (c0 := .slice none 0 0) (c1 := .int .i64 0) (c2 := .int .i64 0) (c3 := .int .u64 0) (c4 := .int .i64 0) (c5 := .bool false) (c6 := .slice none 0 0) HV ?_ ?_ ?_ ?_ ?_ ?_ ?_⟩); all_goals (first | ((with_reducible refine off_mk hsT hqT hoO hqS ?_); (simp; omega)) | ((with_reducible exact Nat.le_refl _)) | omega | (repeat (with_reducible first | (refine Box.new' ?_; (simp; done)) | refine Box.alloc ?_ _ | refine Box.belowAll ?_ hbS | refine Box.belowAll ?_ hbO | refine Box.belowAll ?_ hbT | refine Box.drew1' ?_))))
                · ((with_reducible refine ⟨_, _, _, _, _, _, rfl, rfl, pair_ss (a0 := .slice none 0 0) (a1 := .int .i64 0) (a2 := .int .i64 0) (a3 := .int .u64 0) (a4 := .int .i64 0) (a5 := .bool false) (a6 := .slice none 0 0) (c0 := .slice none 0 0) (c1 := .int .i64 0) (c2 := .int .i64 0) (c3 := .int .u64 0) (c4 := .int .i64 0) (c5 := .bool false) (c6 := .slice none 0 0) HV ?_ ?_ ?_ ?_ ?_ ?_ ?_⟩); all_goals (first | ((with_reducible refine off_mk hsT hqT hoO hqS ?_); (simp; omega)) | ((with_reducible exact Nat.le_refl _)) | omega | (repeat (with_reducible first | (refine Box.new' ?_; (simp; done)) | refine Box.alloc ?_ _ | refine Box.belowAll ?_ hbS | refine Box.belowAll ?_ hbO | refine Box.belowAll ?_ hbT | refine Box.drew1' ?_))))
                · ((with_reducible refine ⟨_, _, _, _, _, _, rfl, rfl, pair_ss (a0 := .slice none 0 0) (a1 := .int .i64 0) (a2 := .int .i64 0) (a3 := .int .u64 0) (a4 := .int .i64 0) (a5 := .bool false) (a6 := .slice none 0 0) (c0 := .slice none 0 0) (c1 := .int .i64 0) (c2 := .int .i64 0) (c3 := .int .u64 0) (c4 := .int .i64 0) (c5 := .bool false) (c6 := .slice none 0 0) HV ?_ ?_ ?_ ?_ ?_ ?_ ?_⟩); all_goals (first | ((with_reducible refine off_mk hsT hqT hoO hqS ?_); (simp; omega)) | ((with_reducible exact Nat.le_refl _)) | omega | (repeat (with_reducible first | (refine Box.new' ?_; (simp; done)) | refine Box.alloc ?_ _ | refine Box.belowAll ?_ hbS | refine Box.belowAll ?_ hbO | refine Box.belowAll ?_ hbT | refine Box.drew1' ?_))))
                · ((with_reducible refine ⟨_, _, _, _, _, _, rfl, rfl, pair_sa' (a0 := .slice none 0 0) (a1 := .int .i64 0) (a2 := .int .i64 0) (a3 := .int .u64 0) (a4 := .int .i64 0) (a5 := .bool false) (a6 := .slice none 0 0) HV ?_ ?_ ?_⟩); all_goals (first | ((with_reducible refine off_mk hsT hqT hoO hqS ?_); (simp; omega)) | ((with_reducible exact Nat.le_refl _)) | omega | (repeat (with_reducible first | (refine Box.new' ?_; (simp; done)) | refine Box.alloc ?_ _ | refine Box.belowAll ?_ hbS | refine Box.belowAll ?_ hbO | refine Box.belowAll ?_ hbT | refine Box.drew1' ?_))))
                · ((with_reducible refine ⟨_, _, _, _, _, _, rfl, rfl, pair_ss (a0 := .slice none 0 0) (a1 := .int .i64 0) (a2 := .int .i64 0) (a3 := .int .u64 0) (a4 := .int .i64 0) (a5 := .bool false) (a6 := .slice none 0 0) (c0 := .slice none 0 0) (c1 := .int .i64 0) (c2 := .int .i64 0) (c3 := .int .u64 0) (c4 := .int .i64 0) (c5 := .bool false) (c6 := .slice none 0 0) HV ?_ ?_ ?_ ?_ ?_ ?_ ?_⟩); all_goals (first | ((with_reducible refine off_mk hsT hqT hoO hqS ?_); (simp; omega)) | ((with_reducible exact Nat.le_refl _)) | omega | (repeat (with_reducible first | (refine Box.new' ?_; (simp; done)) | refine Box.alloc ?_ _ | refine Box.belowAll ?_ hbS | refine Box.belowAll ?_ hbO | refine Box.belowAll ?_ hbT | refine Box.drew1' ?_))))
                · ((with_reducible refine ⟨_, _, _, _, _, _, rfl, rfl, pair_ss (a0 := .slice none 0 0) (a1 := .int .i64 0) (a2 := .int .i64 0) (a3 := .int .u64 0) (a4 := .int .i64 0) (a5 := .bool false) (a6 := .slice none 0 0) (c0 := .slice none 0 0) (c1 := .int .i64 0) (c2 := .int .i64 0) (c3 := .int .u64 0) (c4 := .int .i64 0) (c5 := .bool false) (c6 := .slice none 0 0) HV ?_ ?_ ?_ ?_ ?_ ?_ ?_⟩); all_goals (first | ((with_reducible refine off_mk hsT hqT hoO hqS ?_); (simp; omega)) | ((with_reducible exact Nat.le_refl _)) | omega | (repeat (with_reducible first | (refine Box.new' ?_; (simp; done)) | refine Box.alloc ?_ _ | refine Box.belowAll ?_ hbS | refine Box.belowAll ?_ hbO | refine Box.belowAll ?_ hbT | refine Box.drew1' ?_))))
                · ((with_reducible refine ⟨_, _, _, _, _, _, rfl, rfl, pair_ss (a0 := .slice none 0 0) (a1 := .int .i64 0) (a2 := .int .i64 0) (a3 := .int .u64 0) (a4 := .int .i64 0) (a5 := .bool false) (a6 := .slice none 0 0) (c0 := .slice none 0 0) (c1 := .int .i64 0) (c2 := .int .i64 0) (c3 := .int .u64 0) (c4 := .int .i64 0) (c5 := .bool false) (c6 := .slice none 0 0) HV ?_ ?_ ?_ ?_ ?_ ?_ ?_⟩); all_goals (first | ((with_reducible refine off_mk hsT hqT hoO hqS ?_); (simp; omega)) | ((with_reducible exact Nat.le_refl _)) | omega | (repeat (with_reducible first | (refine Box.new' ?_; (simp; done)) | refine Box.alloc ?_ _ | refine Box.belowAll ?_ hbS | refine Box.belowAll ?_ hbO | refine Box.belowAll ?_ hbT | refine Box.drew1' ?_))))
              case rest =>
                obtain ⟨g0, g1, a0, b0, a1, b1, rfl, rfl, hP⟩ := hcut
                clear CT CS CO HS hB0 BA9 HM
                rcases TT with ⟨tz, ti, tf, xs⟩
                obtain ⟨S0, e0, rfl, rs0⟩ := hP.o0.row
                obtain ⟨S1, f1, rfl, rs1⟩ := hP.o1.row
                obtain ⟨Q0, d0, rfl, rq0⟩ := hP.q0.row
                obtain ⟨Q1, d1, rfl, rq1⟩ := hP.q1.row
                have x0 := hP.x0; have x1 := hP.x1
                dsimp only at x0 x1 rq0 rq1
                have hmx : xs.length ≤ 9223372036854775807 := by have := rq0.cap; have := rq0.top; unfold maxLen at this; omega
                obtain ⟨y0, y1, y2, y3, y4, y5, y6⟩ := x0.seven
                obtain ⟨z0, z1, z2, z3, z4, z5, z6⟩ := x1.seven
                have sm := same_told S0 S1 Q0 Q1 bs.length e0 f1 xs.length d0 d1 t2 err2 tz ti tf bs xs wc rs0 rs1 rq0 rq1
                unfold toldV at sm
                have SM := Lib.hid sm; have PP := Lib.hid hP; have X0 := Lib.hid x0; have X1 := Lib.hid x1; have HMX := Lib.hid hmx
                clear sm hP x0 x1 rs0 rs1 rq0 rq1 hmx
                go_wp2_with fail
                refine SM.out.mono ?_; rintro e w10 ⟨rfl, hb10⟩
                clear y0 y1 y2 y3 y4 y5 y6 z0 z1 z2 z3 z4 z5 z6 SM
                have hB10 := gr_trans PP.out.bel hb10
                obtain ⟨u0, u1, u2, _, _, _⟩ := (BT9.out.belowAll hB10).three
                obtain ⟨v0, v1, v2, _, _, _⟩ := (BW9.out.belowAll hB10).three
                have sa := same_tape A5 A6 bs.length c5 c6 t err bs w10 ((R59.out.below hB10).mono hB10.size) ((R69.out.below hB10).mono hB10.size)
                unfold tv at sa
                have SA := Lib.hid sa; have HB10 := Lib.hid hb10
                clear sa hb10 hB10
                go_wp2_with fail
                refine SA.out.mono ?_; rintro e w11 ⟨rfl, hb11⟩
                clear u0 u1 u2 v0 v1 v2 SA
                have hbc := gr_trans HB10.out hb11
                have hx0 := X0.out.belowAll hbc
                have hx1 := X1.out.belowAll hbc
                have hq0 := PP.out.q0.below hbc
                have ho0 := PP.out.o0.below hbc
                have ho1 := PP.out.o1.below hbc
                have hB11 := gr_trans PP.out.bel hbc
                have hmu : Muts w11 w11 w9.heap.size (.slice Q0 xs.length d0) (.slice S0 bs.length e0) xs.length bs.length := ⟨⟨xs, rfl, hq0⟩, ⟨bs, rfl, ho0⟩, Apart.refl _ _⟩
                have hlo : ∀ g, Blk (.slice Q0 xs.length d0) (.slice S0 bs.length e0) g → w9.heap.size ≤ g := fun g h => h.elim (fun h => (hq0.lt g h).1) (fun h => (ho0.lt g h).1)
                have hn0 : ¬ Blk (.slice Q0 xs.length d0) (.slice S0 bs.length e0) g0 := fun h => (PP.out.n0 g0 h).1 rfl
                have hn1 : ¬ Blk (.slice Q0 xs.length d0) (.slice S0 bs.length e0) g1 := fun h => (PP.out.n0 g1 h).2 rfl
                have hns : ∀ g, (Value.slice S1 bs.length f1).ownBlock = some g → ¬ Blk (.slice Q0 xs.length d0) (.slice S0 bs.length e0) g := fun g e h => PP.out.n1 g h e
                obtain ⟨_, _, _, _, _, _, y6⟩ := hx0.seven
                have HX0 := Lib.hid hx0; have HX1 := Lib.hid hx1; have HO1 := Lib.hid ho1; have HB11 := Lib.hid hB11
                have MU := Lib.hid hmu; have HLO := Lib.hid hlo; have HN0 := Lib.hid hn0; have HN1 := Lib.hid hn1; have HNS := Lib.hid hns
                have hT9 := BT9.out.lt
                clear hx0 hx1 hq0 ho0 ho1 hB11 hbc hb11 hmu hlo hn0 hn1 hns HB10 PP X0 X1
                go_wp2_with fail
                clear y6
                have hmx := HMX.out
                go_loopw [14, 81] (fun _ s81 wq => ∃ k : Nat, k ≤ xs.length ∧ s81 = .int .i64 (k : Int) ∧ Muts w11 wq w9.heap.size (.slice Q0 xs.length d0) (.slice S0 bs.length e0) xs.length bs.length) (fun _ s81 _ => xs.length - (intOf s81).toNat)
                case atStart => exact ⟨0, by omega, rfl, MU.out⟩
                case round =>
                  obtain ⟨k, hk, rfl, hmu⟩ := hrel
                  clear MU
                  obtain ⟨y0, _, _, _, _, _, y6⟩ := (hmu.ap.box HX0.out HN0.out).seven
                  by_cases hkN : k < xs.length
                  · obtain ⟨cs, hcs, hown⟩ := hmu.o1
                    obtain ⟨p, b, rfl, hbb, ck, fk⟩ := own_at hown hcs hkN
                    have hw : IntKind.u8.wrap (((b : Nat) : Int) + 1) = (((b + 1) % 256 : Nat) : Int) := by rw [IntKind.wrap_u8]; omega
                    have hw2 : (((b : Nat) : Int) + 1) % 256 = (((b + 1) % 256 : Nat) : Int) := by omega
                    have MU := Lib.hid (hmu.poke (g := p) (k := k) (z := (b + 1) % 256) (by omega) (.inl (by simp [Value.ownBlock])))
                    have HW := Lib.hid hw; have HW2 := Lib.hid hw2
                    clear hw hw2 hmu hcs hown y0
                    go_wp2_with fail
                    go_roundw
                    case rel =>
                      refine ⟨k + 1, by omega, by go_num, ?_⟩
                      have := MU.out; unfold bv at this; rw [← HW2.out] at this; exact this
                    case measure => simp [intOf]; omega
                  · have hke : k = xs.length := by omega
                    subst hke
                    have MU := Lib.hid hmu
                    clear hmu y6 hkN hk
                    go_wp2_with fail
                    clear y0
                    go_loopw [15, 96] (fun _ s96 wq => ∃ k : Nat, k ≤ bs.length ∧ s96 = .int .i64 (k : Int) ∧ Muts w11 wq w9.heap.size (.slice Q0 xs.length d0) (.slice S0 bs.length e0) xs.length bs.length) (fun _ s96 _ => bs.length - (intOf s96).toNat)
                    case atStart => exact ⟨0, by omega, rfl, MU.out⟩
                    case round =>
                      obtain ⟨k, hk, rfl, hmu⟩ := hrel
                      clear MU
                      obtain ⟨y0, _, _, _, _, _, _⟩ := (hmu.ap.box HX0.out HN0.out).seven
                      by_cases hkN : k < bs.length
                      · obtain ⟨cs, hcs, hown⟩ := hmu.o2
                        obtain ⟨p, b, rfl, hbb, ck, fk⟩ := own_at hown hcs hkN
                        have hw : IntKind.u8.wrap (((b : Nat) : Int) + 1) = (((b + 1) % 256 : Nat) : Int) := by rw [IntKind.wrap_u8]; omega
                        have hw2 : (((b : Nat) : Int) + 1) % 256 = (((b + 1) % 256 : Nat) : Int) := by omega
                        have MU := Lib.hid (hmu.poke (g := p) (k := k) (z := (b + 1) % 256) (by omega) (.inr (by simp [Value.ownBlock])))
                        have HW := Lib.hid hw; have HW2 := Lib.hid hw2
                        clear hw hw2 hmu hcs hown
                        go_wp2_with fail
                        go_roundw
                        case rel =>
                          refine ⟨k + 1, by omega, by go_num, ?_⟩
                          have := MU.out; unfold bv at this; rw [← HW2.out] at this; exact this
                        case measure => simp [intOf]; omega
                      · have hke : k = bs.length := by omega
                        subst hke
                        have hb12 := hmu.ap.below HLO.out HB11.out.size
                        have hB12 := HB11.out.trans hb12
                        have hx1 := hmu.ap.box HX1.out HN1.out
                        have ho1 := hmu.ap.own HO1.out HNS.out
                        obtain ⟨u0, u1, u2, _, _, _⟩ := (BT9.out.belowAll hB12).three
                        obtain ⟨v0, v1, v2, _, _, _⟩ := (BW9.out.belowAll hB12).three
                        have sa := same_tape A5 A6 bs.length c5 c6 t err bs _ ((R59.out.below hB12).mono hB12.size) ((R69.out.below hB12).mono hB12.size)
                        unfold tv at sa
                        have SA := Lib.hid sa; have HB12 := Lib.hid hB12; have HX12 := Lib.hid hx1; have HO12 := Lib.hid ho1
                        clear sa hB12 hb12 hx1 ho1 hmu hkN hk y0 HX0 HX1 HO1 HN0 HN1 HNS HLO HB11
                        go_wp2_with fail
                        refine SA.out.mono ?_; rintro e w14 ⟨rfl, hb14⟩
                        clear u0 u1 u2 v0 v1 v2 SA
                        have hB14 := gr_trans HB12.out hb14
                        obtain ⟨z0, z1, z2, _, _, _, _⟩ := (HX12.out.belowAll hb14).seven
                        have hbt := BT9.out.belowAll hB14
                        obtain ⟨_, _, _, q0, q1, q2⟩ := hbt.three
                        have HBT := Lib.hid hbt; have HBX := Lib.hid (BX9.out.belowAll hB14); have HO14 := Lib.hid (HO12.out.below hb14); have HBW := Lib.hid (gr_trans HB9.out hB14)
                        clear hbt hb14 hB14 HX12 HO12 HB12 BT9 BX9 BW9 R59 R69 HB9
                        go_wp2_with fail
                        go_roundw
                        case rel =>
                          refine ⟨j + 1, S1, f1, t2, err2, by omega, by go_num, ((HBX.out.far (by omega) _).far (by omega) _).far (by omega) _, HBT.out.set3 _ _ _, (HO14.out.set3 hT9 _ _ _).rowOf, below_set3 HBW.out hT0 _ _ _⟩
                        case measure => simp [intOf]; omega
    · have hor : j = n ∨ (j < n ∧ j = 30) := by omega
      clear hmain hrw hbt
      rcases hor with hjn | ⟨hlt, h30⟩
      have HBX := Lib.hid hbx; have HBW := Lib.hid hb
      have hlt : ¬ j < n := by omega
      clear hbx hb HB
      focus (go_upto_region 34 with (fail))
      clear hlt hjn hj HI hz hTl
      rotate_left 1
      obtain ⟨g, o, x, e1, rfl, hg, hM, q0, q1, q2⟩ := (HI.out.below hb).at_ j hlt
      have d30 : ((j : Int) == 30) = true := by simp; omega
      have HBX := Lib.hid (hbx.alloc (.cells #[.int .i64 x.k, .int .u64 (x.N : Int), .int .i64 x.M] 44)); have HBW := Lib.hid (gr_alloc hb (.cells #[.int .i64 x.k, .int .u64 (x.N : Int), .int .i64 x.M] 44))
      clear hbx hb HB h30
      focus (go_upto_region 34 with (fail))
      clear q0 q1 q2 d30 hlt hj HI hM hg e1 hz hTl
      generalize wr.alloc (.cells #[.int .i64 x.k, .int .u64 (x.N : Int), .int .i64 x.M] 44) = wz at HBX HBW ⊢
      all_goals
        obtain ⟨z0, z1, z2, _, _, _⟩ := HBX.out.three
        have fw := FW.out _ HBW.out
        clear FW HR0 hT hT0
        go_wp2_with fail
        refine fw.mono ?_; rintro e w15 ⟨v, rfl, ho, hb15⟩
        obtain ⟨A7, c7, rfl, r7⟩ := ho.row
        have HBZ := Lib.hid (gr_trans HBW.out hb15); have R7 := Lib.hid r7
        clear z0 z1 z2 fw ho hb15 r7 HBX HBW
        by_cases hlong : 16384 < bs.length
        · have hd : decide ((16384 : Int) < (bs.length : Int)) = true := by simp; omega
          go_upto_region 38 with (fail)
          have BN := Lib.hid (Box.new w15 40 #[.slice none 0 0, .int .i64 0, .int .i64 3])
          have RV := Lib.hid (R7.out.below (b_alloc w15 (.cells #[.slice none 0 0, .int .i64 0, .int .i64 3] 40)) |>.mono (b_alloc w15 (.cells #[.slice none 0 0, .int .i64 0, .int .i64 3] 40)).size)
          have HBV := Lib.hid (gr_alloc HBZ.out (.cells #[.slice none 0 0, .int .i64 0, .int .i64 3] 40))
          generalize w15.heap.size = T9 at *
          generalize w15.alloc (.cells #[.slice none 0 0, .int .i64 0, .int .i64 3] 40) = wv at *
          have OF := Lib.hid (fun (W : World) (hW : Below wv.heap.size wv W) => of_long A7 bs.length c7 W hlong)
          have SM := Lib.hid (fun (W : World) (A : Option Addr) (c : Nat) (hr : RowB W W.heap.size A 0 c []) => same_tape A none 0 c 0 0 3 [] W hr (RowB.none_ _ _))
          have HC := Lib.hid (fun (W : World) (hW : Below wv.heap.size wv W) => (BN.out.belowAll hW).three)
          have hBE := Below.refl wv.heap.size wv
          clear hd hlong R7 HBZ
          unfold tv at SM
          go_region_held3 (fun w' => w'.cell? ⟨T9, 0, none⟩ = some (.slice none 0 0) ∧ w'.cell? ⟨T9, 1, none⟩ = some (.int .i64 0) ∧ w'.cell? ⟨T9, 2, none⟩ = some (.int .i64 3)) ((obtain ⟨c0, c1, c2, _, _, _⟩ := HC.out _ (by first | exact hBF | exact hBF.drew | exact hBE | exact hBE.drew); exact ⟨c0, c1, c2⟩)) (first
            | (go_at_call 28
               (with_reducible refine (OF.out _ (by first | exact hBE | exact hBE.drew)).mono ?_)
               rintro e wE ⟨⟨vE, rfl, sE, rfl, hoE⟩, hbE⟩
               obtain ⟨AE, cE, rfl, rE⟩ := hoE.row
               simp only [List.length_nil] at rE ⊢
               replace hBE : Below wv.heap.size wv wE := gr_trans (by first | exact hBE | exact hBE.drew) hbE)
            | (go_at_call 27
               (with_reducible refine (SM.out _ _ _ (by first | exact rE | exact rE.drew1 | exact rE.drew1.drew1)).mono ?_)
               rintro e wF ⟨rfl, hbF⟩
               have hBF : Below wv.heap.size wv wF := gr_trans (by first | exact hBE | exact hBE.drew | exact hBE.drew.drew) hbF))
          all_goals
            go_wp2_with fail
            go_ret
            exact ⟨rfl, gr_trans HBV.out (by first | exact hBF | exact hBF.drew)⟩
        · have hd : decide ((16384 : Int) < (bs.length : Int)) = false := by simp; omega
          go_upto_region 38 with (fail)
          have BN := Lib.hid (Box.new w15 40 #[.slice A7 bs.length c7, .int .i64 0, .int .i64 0])
          have RV := Lib.hid (R7.out.below (b_alloc w15 (.cells #[.slice A7 bs.length c7, .int .i64 0, .int .i64 0] 40)) |>.mono (b_alloc w15 (.cells #[.slice A7 bs.length c7, .int .i64 0, .int .i64 0] 40)).size)
          have HBV := Lib.hid (gr_alloc HBZ.out (.cells #[.slice A7 bs.length c7, .int .i64 0, .int .i64 0] 40))
          generalize w15.heap.size = T9 at *
          generalize w15.alloc (.cells #[.slice A7 bs.length c7, .int .i64 0, .int .i64 0] 40) = wv at *
          have OF := Lib.hid (fun (W : World) (hW : Below wv.heap.size wv W) => of_any A7 bs.length c7 bs W ((RV.out.below hW).mono hW.size) (by omega))
          have SM := Lib.hid (fun (W : World) (hW : Below wv.heap.size wv W) (A : Option Addr) (c : Nat) (hr : RowB W W.heap.size A bs.length c bs) => same_tape A A7 bs.length c c7 0 0 bs W hr ((RV.out.below hW).mono hW.size))
          have HC := Lib.hid (fun (W : World) (hW : Below wv.heap.size wv W) => (BN.out.belowAll hW).three)
          have hBE := Below.refl wv.heap.size wv
          clear hd hlong R7 HBZ
          unfold tv at SM
          go_region_held3 (fun w' => w'.cell? ⟨T9, 0, none⟩ = some (.slice A7 bs.length c7) ∧ w'.cell? ⟨T9, 1, none⟩ = some (.int .i64 0) ∧ w'.cell? ⟨T9, 2, none⟩ = some (.int .i64 0)) ((obtain ⟨c0, c1, c2, _, _, _⟩ := HC.out _ (by first | exact hBF | exact hBF.drew | exact hBE | exact hBE.drew); exact ⟨c0, c1, c2⟩)) (first
            | (go_at_call 28
               (with_reducible refine (OF.out _ (by first | exact hBE | exact hBE.drew)).mono ?_)
               rintro e wE ⟨⟨vE, rfl, sE, rfl, hoE⟩, hbE⟩
               obtain ⟨AE, cE, rfl, rE⟩ := hoE.row
               skip
               replace hBE : Below wv.heap.size wv wE := gr_trans (by first | exact hBE | exact hBE.drew) hbE)
            | (go_at_call 27
               (with_reducible refine (SM.out _ (by first | exact hBE | exact hBE.drew | exact hBE.drew.drew) _ _ (by first | exact rE | exact rE.drew1 | exact rE.drew1.drew1)).mono ?_)
               rintro e wF ⟨rfl, hbF⟩
               have hBF : Below wv.heap.size wv wF := gr_trans (by first | exact hBE | exact hBE.drew | exact hBE.drew.drew) hbF))
          all_goals
            go_wp2_with fail
            go_ret
            exact ⟨rfl, gr_trans HBV.out (by first | exact hBF | exact hBF.drew)⟩
end Go.Proofs.Ytnppkobckabpcaa
