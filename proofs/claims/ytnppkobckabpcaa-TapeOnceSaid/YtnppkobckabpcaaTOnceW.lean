/- TapeOnce walked. -/
import Derived.Test.YtnppkobckabpcaaTOnce0
import Derived.Test.YtnppkobckabpcaaTBackW
import Derived.Deep.RegionWith
import Derived.Deep.RegionHeld3
import Derived.Deep.DeepCutAuto
namespace Go.Proofs.Ytnppkobckabpcaa
open Go.RowKit

/-- What is asked in turn: the tape stands at one of its places. -/
def Onces (w0 : World) (T : Nat) (bs : List Nat) (n : Nat) (s18 : Value) (wr : World) : Prop :=
  ∃ (j : Nat) (A : Option Addr) (c tn : Nat), j ≤ n ∧ s18 = .int .i64 (j : Int) ∧ tn ≤ bs.length ∧ Box wr T 40 #[.slice A bs.length c, .int .i64 (tn : Int), .int .i64 0] ∧ RowB wr wr.heap.size A bs.length c bs ∧ Below w0.heap.size w0 wr
set_option maxRecDepth 100000 in
set_option maxHeartbeats 16000000 in
theorem once_walk (A1 L : Option Addr) (n1 c1 n cap : Nat) (x1 : List Nat) (l : List AskE) (w : World) (htop : n ≤ 9223372036854775807)
    (h1 : RowB w w.heap.size A1 n1 c1 x1) (hi : AsksAt w w.heap.size L n l) :
    Calls Try.prog 6 #[.slice A1 n1 c1, .slice L n cap] w fun e w' => e = .returned (.bool true) ∧ Below w.heap.size w w' := by
  have HI := Lib.hid hi; have HR1 := Lib.hid h1
  clear hi h1
  go_enter Try.func6, Try.ntmps6
  go_wp2_with fail
  refine (wakes_any w).mono ?_; rintro e w1 ⟨rfl, hb1⟩
  have HB1 := Lib.hid hb1
  have f1 := few_any A1 n1 c1 2000 x1 w1 ((HR1.out.below hb1).mono hb1.size) (by omega)
  rw [show ((2000 : Nat) : Int) = 2000 from rfl] at f1
  have a1 : (x1.take 2000).length ≤ 2000 := by rw [List.length_take]; omega
  generalize x1.take 2000 = bs at *
  have F1 := Lib.hid f1
  clear f1 hb1 HR1
  go_wp2_with fail
  refine F1.out.mono ?_; rintro e w2 ⟨v2, rfl, ho2, hb2⟩
  obtain ⟨A3, c3, rfl, r3⟩ := ho2.row
  have HB2 := Lib.hid (gr_trans HB1.out hb2)
  have HR3 := Lib.hid r3
  clear ho2 hb2 r3 F1 HB1
  go_wp2_with fail
  refine (of_any A3 bs.length c3 bs w2 HR3.out (by omega)).mono ?_; rintro e w3 ⟨⟨v3, rfl, s3, rfl, ho3⟩, hb3⟩
  obtain ⟨A4, c4, rfl, r4⟩ := ho3.row
  have BX0 := Lib.hid (Box.new w3 40 #[.slice A4 bs.length c4, .int .i64 0, .int .i64 0])
  have ba := b_alloc w3 (.cells #[.slice A4 bs.length c4, .int .i64 0, .int .i64 0] 40)
  have R4 := Lib.hid ((r4.below ba).mono ba.size)
  have HB4 := Lib.hid (gr_trans (gr_trans HB2.out hb3) ba)
  have hT := (gr_trans HB2.out hb3).size
  have h256 := Lib.hid r4.byte
  clear ho3 hb3 r4 ba HR3 HB2
  go_wp2_with fail
  go_loopw [18] (Onces w w3.heap.size bs n) (fun s18 _ => n - (intOf s18).toNat)
  case atStart => exact ⟨0, A4, c4, 0, by omega, rfl, by omega, BX0.out, R4.out, HB4.out⟩
  case round =>
    obtain ⟨j, A5, c5, tn, hj, rfl, htn, hbx, hrw, hb⟩ := hrel
    have HB := Lib.hid hb
    have hz := hb.size
    have hTl := hbx.lt
    by_cases hmain : j < n ∧ j ≠ 20
    · obtain ⟨hlt, hne⟩ := hmain
      obtain ⟨g, o, x, e1, rfl, hg, hM, q0, q1, q2⟩ := (HI.out.below hb).at_ j hlt
      have d20 : ((j : Int) == 20) = false := by simp; omega
      have ba := b_alloc wr (.cells #[.int .i64 x.k, .int .u64 (x.N : Int), .int .i64 x.M] 44)
      have BA := Lib.hid (Box.new wr 44 #[.int .i64 x.k, .int .u64 (x.N : Int), .int .i64 x.M])
      have BT := Lib.hid (hbx.alloc (.cells #[.int .i64 x.k, .int .u64 (x.N : Int), .int .i64 x.M] 44))
      have ra := (hrw.below ba).mono ba.size
      have ct := ask_any x.k x.N x.M A5 bs.length c5 (tn : Int) 0 bs _ ra (by omega) hM
      have CT := Lib.hid ct
      have RA := Lib.hid ra
      have HBA := Lib.hid (gr_trans hb ba)
      obtain ⟨d0, d1, d2, f0, f1, f2⟩ := hbx.three
      have HM := Lib.hid hM
      clear ct ra ba hrw hb hM e1 BX0 R4 HB4 hbx
      unfold tv at CT
      go_wp2_with fail
      refine CT.out.mono ?_; rintro e w5 ⟨v5, rfl, ⟨s5, b5, rfl, ho5, hob⟩, hb5⟩
      by_cases he : (readA (askK x.k) x.N x.M (rest bs tn)).2.2 = 0
      · obtain ⟨g1, g2⟩ := askG_ok (n := bs.length) (by omega) htn (askK x.k) x.N x.M bs he
        have ag := again_ok x.k x.N x.M (rest bs tn) (rest_byte h256.out _) he
        rw [g2] at hob
        rw [g1, g2]
        generalize (readA (askK x.k) x.N x.M (rest bs tn)).1 = tt at *
        generalize (readA (askK x.k) x.N x.M (rest bs tn)).2.1 = s at *
        have hle := ag.le
        rw [show rest bs (tn : Int) = bs.drop tn by simp [rest]] at ag hle
        rw [List.length_drop] at hle
        have hage := ag.eq
        obtain ⟨e2, he2, htn2⟩ : ∃ e2 : Nat, (tn : Int) + (s : Int) = (e2 : Int) ∧ e2 = tn + s := ⟨tn + s, by omega, rfl⟩
        rw [he2]
        have hz0 : tt.z = (tt.z.toNat : Int) := by have := ag.z0; omega
        have hz1 : tt.z.toNat < 18446744073709551616 := by have := ag.z1; omega
        have hxl : tt.xs.length ≤ 2000 ∨ askK x.k ≠ 4 := by
          by_cases hk : askK x.k = 4
          · left
            have := congrArg List.length hage
            rw [hk] at this
            rw [show againA 4 tt = sh tt.xs.length ++ tt.xs by simp [againA], List.length_take, List.length_append] at this
            rw [List.length_drop] at this
            omega
          · exact .inr hk
        obtain ⟨A6, c6, rfl, r6⟩ := ho5.row
        obtain ⟨A7, c7, rfl, r7⟩ := hob.row
        have B5 := Lib.hid (Box.new w5 48 #[.slice A6 bs.length c6, .int .i64 (e2 : Int), .int .i64 0, .int .u64 tt.z, .int .i64 tt.i, .bool tt.f, .slice A7 tt.xs.length c7])
        have ba := b_alloc w5 (.cells #[.slice A6 bs.length c6, .int .i64 (e2 : Int), .int .i64 0, .int .u64 tt.z, .int .i64 tt.i, .bool tt.f, .slice A7 tt.xs.length c7] 48)
        have O6 := Lib.hid ((ho5.mono (base' := wr.heap.size + 1) (by simp)).alloc (.cells #[.slice A6 bs.length c6, .int .i64 (e2 : Int), .int .i64 0, .int .u64 tt.z, .int .i64 tt.i, .bool tt.f, .slice A7 tt.xs.length c7] 48))
        have R7 := Lib.hid ((r7.below ba).mono ba.size)
        have BA2 := Lib.hid ((BA.out.belowAll hb5).belowAll ba)
        have BT2 := Lib.hid ((BT.out.belowAll hb5).belowAll ba)
        have HB5 := Lib.hid (gr_trans (gr_trans HBA.out hb5) ba)
        have R5 := Lib.hid ((((RA.out.below hb5).mono hb5.size).below ba).mono ba.size)
        obtain ⟨p0, p1, p2, fp0, fp1, fp2⟩ := BA2.out.three
        clear fp0 fp1 fp2
        have AG := Lib.hid ag
        have He2 := Lib.hid htn2
        have hle2 : tn ≤ e2 := by omega
        have hle3 : e2 ≤ bs.length := by omega
        have hle4 : e2 - tn = s := by omega
        clear he2 htn2 hle
        have hag0 := Lib.hid ag.i0; have hag1 := Lib.hid ag.i1
        have Hz0 := Lib.hid hz0; have Hz1 := Lib.hid hz1; have Hage := Lib.hid hage; have Hxl := Lib.hid hxl
        clear d0 d1 d2 f0 f1 f2 q0 q1 q2 CT ho5 hob r6 r7 hb5 ba he BA BT RA HBA HB ag g1 g2 hz0 hz1 hage hxl
        unfold toldV at *
        dsimp only
        go_upto_region 13 with (fail)
        have HX2 : Hid (askK x.k = 4 → tt.xs.length ≤ 2000) := Lib.hid (fun h => by rcases Hxl.out with h1 | h1; exact h1; exact absurd h h1)
        clear Hxl
        rcases askK_five x.k with hk | hk | hk | hk | hk
        · have hk0 : (IntKind.u64.wrap x.k).tmod 5 = 0 := hk
          have pc := put_one none 0 0 (z := tt.z) tt.z.toNat [] (w5.alloc (.cells #[.slice A6 bs.length c6, .int .i64 (e2 : Int), .int .i64 0, .int .u64 tt.z, .int .i64 tt.i, .bool tt.f, .slice A7 tt.xs.length c7] 48)) (RowB.none_ _ _) (by omega) Hz1.out Hz0.out
          rw [show (w5.alloc (.cells #[.slice A6 bs.length c6, .int .i64 (e2 : Int), .int .i64 0, .int .u64 tt.z, .int .i64 tt.i, .bool tt.f, .slice A7 tt.xs.length c7] 48)).heap.size = w5.heap.size + 1 by simp] at pc
          rw [hk, show againA 0 tt = sh tt.z.toNat by simp [againA]] at Hage
          have PC := Lib.hid pc
          clear pc hk HX2
          go_upto_region 17 with (fail)
          clear p0 p1 p2 hk0
          go_wp2_with fail
          refine PC.out.mono ?_; rintro e w6 ⟨v6, rfl, ho6, hb6⟩
          rw [List.nil_append, ← Hage.out] at ho6
          rw [show w5.heap.size + 1 = (w5.alloc (.cells #[.slice A6 bs.length c6, .int .i64 (e2 : Int), .int .i64 0, .int .u64 tt.z, .int .i64 tt.i, .bool tt.f, .slice A7 tt.xs.length c7] 48)).heap.size by simp] at hb6
          have hsl : ((bs.drop tn).take s).length = e2 - tn := by rw [List.length_take, List.length_drop]; have := He2.out; omega
          obtain ⟨A8, c8, rfl, r8⟩ := ho6.row
          rw [hsl] at r8 ⊢
          obtain ⟨d0, d1, d2, f0, f1, f2⟩ := (BT2.out.belowAll hb6).three
          obtain ⟨z0, z1, z2, _, _, _, _⟩ := (B5.out.belowAll hb6).seven
          have R56 := (R5.out.below hb6).mono hb6.size
          have hcap := R56.cap
          have htop5 := R56.top
          unfold maxLen at htop5
          have rm := R56.mid (k := tn) (j := s) (by have := He2.out; omega)
          generalize (bs.drop tn).take s = xs at *
          rw [← hle4] at rm
          have h4 : tn ≤ c5 := by omega
          have h5 : e2 ≤ c5 := by omega
          have RM := Lib.hid rm; have R8 := Lib.hid r8; have HTOP := Lib.hid htop5
          have BT6 := Lib.hid (BT2.out.belowAll hb6)
          have HB6 := Lib.hid (gr_trans HB5.out hb6)
          have O66 := Lib.hid (O6.out.below hb6)
          have hT6 := BT6.out.lt
          have HL3 := Lib.hid hle3
          clear rm r8 htop5 hsl hle4 hcap R56 ho6 hb6 O6 R7 BA2 BT2 HB5 R5 AG B5
          go_wp2_with fail
          all_goals
            refine (same_bytes _ _ _ _ _ _ _ xs _ R8.out (by
              have := RM.out
              by_cases hc : c5 = tn
              · first
                | (rw [if_pos hc, hc, Nat.sub_self] at this; exact this)
                | exact absurd hc (by assumption)
              · first
                | (rw [if_neg hc] at this; exact this)
                | exact absurd (by assumption) hc)).mono ?_; rintro e w7 ⟨rfl, q7, rfl⟩
            have bt8 := (BT6.out.drewN q7).set3 (.slice A6 bs.length c6) (.int .i64 (e2 : Int)) (.int .i64 0)
            have o8 := (O66.out.drewN q7).set3 (p := w3.heap.size) (by omega) (.slice A6 bs.length c6) (.int .i64 (e2 : Int)) (.int .i64 0)
            have hb8 := below_set3 (below_drew HB6.out q7) (p := w3.heap.size) hT (.slice A6 bs.length c6) (.int .i64 (e2 : Int)) (.int .i64 0)
            obtain ⟨A9, c9, e9, r9⟩ := o8.row
            cases e9
            have BT8 := Lib.hid bt8; have R9 := Lib.hid r9; have HB8 := Lib.hid hb8
            clear bt8 o8 r9 hb8
            clear BT6 O66 HB6 hle2 hle3 h4 h5
            go_wp2_with fail
            go_roundw
            case rel => exact ⟨j + 1, A6, c6, e2, by omega, by go_num, HL3.out, BT8.out, R9.out, HB8.out⟩
            case measure => simp [intOf]; omega
        · have hk0 : (IntKind.u64.wrap x.k).tmod 5 = 1 := hk
          have pc := put_one none 0 0 (z := tt.z) tt.z.toNat [] (w5.alloc (.cells #[.slice A6 bs.length c6, .int .i64 (e2 : Int), .int .i64 0, .int .u64 tt.z, .int .i64 tt.i, .bool tt.f, .slice A7 tt.xs.length c7] 48)) (RowB.none_ _ _) (by omega) Hz1.out Hz0.out
          rw [show (w5.alloc (.cells #[.slice A6 bs.length c6, .int .i64 (e2 : Int), .int .i64 0, .int .u64 tt.z, .int .i64 tt.i, .bool tt.f, .slice A7 tt.xs.length c7] 48)).heap.size = w5.heap.size + 1 by simp] at pc
          rw [hk, show againA 1 tt = sh tt.z.toNat by simp [againA]] at Hage
          have PC := Lib.hid pc
          clear pc hk HX2
          go_upto_region 17 with (fail)
          clear p0 p1 p2 hk0
          go_wp2_with fail
          refine PC.out.mono ?_; rintro e w6 ⟨v6, rfl, ho6, hb6⟩
          rw [List.nil_append, ← Hage.out] at ho6
          rw [show w5.heap.size + 1 = (w5.alloc (.cells #[.slice A6 bs.length c6, .int .i64 (e2 : Int), .int .i64 0, .int .u64 tt.z, .int .i64 tt.i, .bool tt.f, .slice A7 tt.xs.length c7] 48)).heap.size by simp] at hb6
          have hsl : ((bs.drop tn).take s).length = e2 - tn := by rw [List.length_take, List.length_drop]; have := He2.out; omega
          obtain ⟨A8, c8, rfl, r8⟩ := ho6.row
          rw [hsl] at r8 ⊢
          obtain ⟨d0, d1, d2, f0, f1, f2⟩ := (BT2.out.belowAll hb6).three
          obtain ⟨z0, z1, z2, _, _, _, _⟩ := (B5.out.belowAll hb6).seven
          have R56 := (R5.out.below hb6).mono hb6.size
          have hcap := R56.cap
          have htop5 := R56.top
          unfold maxLen at htop5
          have rm := R56.mid (k := tn) (j := s) (by have := He2.out; omega)
          generalize (bs.drop tn).take s = xs at *
          rw [← hle4] at rm
          have h4 : tn ≤ c5 := by omega
          have h5 : e2 ≤ c5 := by omega
          have RM := Lib.hid rm; have R8 := Lib.hid r8; have HTOP := Lib.hid htop5
          have BT6 := Lib.hid (BT2.out.belowAll hb6)
          have HB6 := Lib.hid (gr_trans HB5.out hb6)
          have O66 := Lib.hid (O6.out.below hb6)
          have hT6 := BT6.out.lt
          have HL3 := Lib.hid hle3
          clear rm r8 htop5 hsl hle4 hcap R56 ho6 hb6 O6 R7 BA2 BT2 HB5 R5 AG B5
          go_wp2_with fail
          all_goals
            refine (same_bytes _ _ _ _ _ _ _ xs _ R8.out (by
              have := RM.out
              by_cases hc : c5 = tn
              · first
                | (rw [if_pos hc, hc, Nat.sub_self] at this; exact this)
                | exact absurd hc (by assumption)
              · first
                | (rw [if_neg hc] at this; exact this)
                | exact absurd (by assumption) hc)).mono ?_; rintro e w7 ⟨rfl, q7, rfl⟩
            have bt8 := (BT6.out.drewN q7).set3 (.slice A6 bs.length c6) (.int .i64 (e2 : Int)) (.int .i64 0)
            have o8 := (O66.out.drewN q7).set3 (p := w3.heap.size) (by omega) (.slice A6 bs.length c6) (.int .i64 (e2 : Int)) (.int .i64 0)
            have hb8 := below_set3 (below_drew HB6.out q7) (p := w3.heap.size) hT (.slice A6 bs.length c6) (.int .i64 (e2 : Int)) (.int .i64 0)
            obtain ⟨A9, c9, e9, r9⟩ := o8.row
            cases e9
            have BT8 := Lib.hid bt8; have R9 := Lib.hid r9; have HB8 := Lib.hid hb8
            clear bt8 o8 r9 hb8
            clear BT6 O66 HB6 hle2 hle3 h4 h5
            go_wp2_with fail
            go_roundw
            case rel => exact ⟨j + 1, A6, c6, e2, by omega, by go_num, HL3.out, BT8.out, R9.out, HB8.out⟩
            case measure => simp [intOf]; omega
        · have hk0 : (IntKind.u64.wrap x.k).tmod 5 = 2 := hk
          have pc := putInt_any none 0 0 tt.i [] (w5.alloc (.cells #[.slice A6 bs.length c6, .int .i64 (e2 : Int), .int .i64 0, .int .u64 tt.z, .int .i64 tt.i, .bool tt.f, .slice A7 tt.xs.length c7] 48)) (RowB.none_ _ _) (by omega) hag0.out hag1.out
          unfold PutIs at pc
          rw [hk, show againA 2 tt = sh (turnZ tt.i).toNat by simp [againA]] at Hage
          have PC := Lib.hid pc
          clear pc hk HX2
          go_upto_region 19 with (fail)
          clear p0 p1 p2 hk0
          go_wp2_with fail
          refine PC.out.mono ?_; rintro e w6 ⟨v6, rfl, ho6, hb6⟩
          rw [List.nil_append, ← Hage.out] at ho6
          have hsl : ((bs.drop tn).take s).length = e2 - tn := by rw [List.length_take, List.length_drop]; have := He2.out; omega
          obtain ⟨A8, c8, rfl, r8⟩ := ho6.row
          rw [hsl] at r8 ⊢
          obtain ⟨d0, d1, d2, f0, f1, f2⟩ := (BT2.out.belowAll hb6).three
          obtain ⟨z0, z1, z2, _, _, _, _⟩ := (B5.out.belowAll hb6).seven
          have R56 := (R5.out.below hb6).mono hb6.size
          have hcap := R56.cap
          have htop5 := R56.top
          unfold maxLen at htop5
          have rm := R56.mid (k := tn) (j := s) (by have := He2.out; omega)
          generalize (bs.drop tn).take s = xs at *
          rw [← hle4] at rm
          have h4 : tn ≤ c5 := by omega
          have h5 : e2 ≤ c5 := by omega
          have RM := Lib.hid rm; have R8 := Lib.hid r8; have HTOP := Lib.hid htop5
          have BT6 := Lib.hid (BT2.out.belowAll hb6)
          have HB6 := Lib.hid (gr_trans HB5.out hb6)
          have O66 := Lib.hid (O6.out.below hb6)
          have hT6 := BT6.out.lt
          have HL3 := Lib.hid hle3
          clear rm r8 htop5 hsl hle4 hcap R56 ho6 hb6 O6 R7 BA2 BT2 HB5 R5 AG B5
          go_wp2_with fail
          all_goals
            refine (same_bytes _ _ _ _ _ _ _ xs _ R8.out (by
              have := RM.out
              by_cases hc : c5 = tn
              · first
                | (rw [if_pos hc, hc, Nat.sub_self] at this; exact this)
                | exact absurd hc (by assumption)
              · first
                | (rw [if_neg hc] at this; exact this)
                | exact absurd (by assumption) hc)).mono ?_; rintro e w7 ⟨rfl, q7, rfl⟩
            have bt8 := (BT6.out.drewN q7).set3 (.slice A6 bs.length c6) (.int .i64 (e2 : Int)) (.int .i64 0)
            have o8 := (O66.out.drewN q7).set3 (p := w3.heap.size) (by omega) (.slice A6 bs.length c6) (.int .i64 (e2 : Int)) (.int .i64 0)
            have hb8 := below_set3 (below_drew HB6.out q7) (p := w3.heap.size) hT (.slice A6 bs.length c6) (.int .i64 (e2 : Int)) (.int .i64 0)
            obtain ⟨A9, c9, e9, r9⟩ := o8.row
            cases e9
            have BT8 := Lib.hid bt8; have R9 := Lib.hid r9; have HB8 := Lib.hid hb8
            clear bt8 o8 r9 hb8
            clear BT6 O66 HB6 hle2 hle3 h4 h5
            go_wp2_with fail
            go_roundw
            case rel => exact ⟨j + 1, A6, c6, e2, by omega, by go_num, HL3.out, BT8.out, R9.out, HB8.out⟩
            case measure => simp [intOf]; omega
        · have hk0 : (IntKind.u64.wrap x.k).tmod 5 = 3 := hk
          have pc := putFlag_any none 0 0 tt.f [] (w5.alloc (.cells #[.slice A6 bs.length c6, .int .i64 (e2 : Int), .int .i64 0, .int .u64 tt.z, .int .i64 tt.i, .bool tt.f, .slice A7 tt.xs.length c7] 48)) (RowB.none_ _ _) (by omega)
          unfold PutIs at pc
          rw [hk, show againA 3 tt = [flagN tt.f] by simp [againA]] at Hage
          have PC := Lib.hid pc
          clear pc hk HX2
          go_upto_region 21 with (fail)
          clear p0 p1 p2 hk0
          go_wp2_with fail
          refine PC.out.mono ?_; rintro e w6 ⟨v6, rfl, ho6, hb6⟩
          rw [List.nil_append, ← Hage.out] at ho6
          have hsl : ((bs.drop tn).take s).length = e2 - tn := by rw [List.length_take, List.length_drop]; have := He2.out; omega
          obtain ⟨A8, c8, rfl, r8⟩ := ho6.row
          rw [hsl] at r8 ⊢
          obtain ⟨d0, d1, d2, f0, f1, f2⟩ := (BT2.out.belowAll hb6).three
          obtain ⟨z0, z1, z2, _, _, _, _⟩ := (B5.out.belowAll hb6).seven
          have R56 := (R5.out.below hb6).mono hb6.size
          have hcap := R56.cap
          have htop5 := R56.top
          unfold maxLen at htop5
          have rm := R56.mid (k := tn) (j := s) (by have := He2.out; omega)
          generalize (bs.drop tn).take s = xs at *
          rw [← hle4] at rm
          have h4 : tn ≤ c5 := by omega
          have h5 : e2 ≤ c5 := by omega
          have RM := Lib.hid rm; have R8 := Lib.hid r8; have HTOP := Lib.hid htop5
          have BT6 := Lib.hid (BT2.out.belowAll hb6)
          have HB6 := Lib.hid (gr_trans HB5.out hb6)
          have O66 := Lib.hid (O6.out.below hb6)
          have hT6 := BT6.out.lt
          have HL3 := Lib.hid hle3
          clear rm r8 htop5 hsl hle4 hcap R56 ho6 hb6 O6 R7 BA2 BT2 HB5 R5 AG B5
          go_wp2_with fail
          all_goals
            refine (same_bytes _ _ _ _ _ _ _ xs _ R8.out (by
              have := RM.out
              by_cases hc : c5 = tn
              · first
                | (rw [if_pos hc, hc, Nat.sub_self] at this; exact this)
                | exact absurd hc (by assumption)
              · first
                | (rw [if_neg hc] at this; exact this)
                | exact absurd (by assumption) hc)).mono ?_; rintro e w7 ⟨rfl, q7, rfl⟩
            have bt8 := (BT6.out.drewN q7).set3 (.slice A6 bs.length c6) (.int .i64 (e2 : Int)) (.int .i64 0)
            have o8 := (O66.out.drewN q7).set3 (p := w3.heap.size) (by omega) (.slice A6 bs.length c6) (.int .i64 (e2 : Int)) (.int .i64 0)
            have hb8 := below_set3 (below_drew HB6.out q7) (p := w3.heap.size) hT (.slice A6 bs.length c6) (.int .i64 (e2 : Int)) (.int .i64 0)
            obtain ⟨A9, c9, e9, r9⟩ := o8.row
            cases e9
            have BT8 := Lib.hid bt8; have R9 := Lib.hid r9; have HB8 := Lib.hid hb8
            clear bt8 o8 r9 hb8
            clear BT6 O66 HB6 hle2 hle3 h4 h5
            go_wp2_with fail
            go_roundw
            case rel => exact ⟨j + 1, A6, c6, e2, by omega, by go_num, HL3.out, BT8.out, R9.out, HB8.out⟩
            case measure => simp [intOf]; omega
        · have hk0 : (IntKind.u64.wrap x.k).tmod 5 = 4 := hk
          have pc := putBytes_any none A7 0 0 tt.xs.length c7 [] tt.xs (w5.alloc (.cells #[.slice A6 bs.length c6, .int .i64 (e2 : Int), .int .i64 0, .int .u64 tt.z, .int .i64 tt.i, .bool tt.f, .slice A7 tt.xs.length c7] 48)) (RowB.none_ _ _) (by omega) R7.out (by have := HX2.out hk; omega)
          unfold PutIs at pc
          rw [hk, show againA 4 tt = sh tt.xs.length ++ tt.xs by simp [againA]] at Hage
          have PC := Lib.hid pc
          clear pc hk HX2
          go_upto_region 14 with (fail)
          clear p0 p1 p2 hk0
          go_wp2_with fail
          refine PC.out.mono ?_; rintro e w6 ⟨v6, rfl, ho6, hb6⟩
          rw [List.nil_append, ← Hage.out] at ho6
          have hsl : ((bs.drop tn).take s).length = e2 - tn := by rw [List.length_take, List.length_drop]; have := He2.out; omega
          obtain ⟨A8, c8, rfl, r8⟩ := ho6.row
          rw [hsl] at r8 ⊢
          obtain ⟨d0, d1, d2, f0, f1, f2⟩ := (BT2.out.belowAll hb6).three
          obtain ⟨z0, z1, z2, _, _, _, _⟩ := (B5.out.belowAll hb6).seven
          have R56 := (R5.out.below hb6).mono hb6.size
          have hcap := R56.cap
          have htop5 := R56.top
          unfold maxLen at htop5
          have rm := R56.mid (k := tn) (j := s) (by have := He2.out; omega)
          generalize (bs.drop tn).take s = xs at *
          rw [← hle4] at rm
          have h4 : tn ≤ c5 := by omega
          have h5 : e2 ≤ c5 := by omega
          have RM := Lib.hid rm; have R8 := Lib.hid r8; have HTOP := Lib.hid htop5
          have BT6 := Lib.hid (BT2.out.belowAll hb6)
          have HB6 := Lib.hid (gr_trans HB5.out hb6)
          have O66 := Lib.hid (O6.out.below hb6)
          have hT6 := BT6.out.lt
          have HL3 := Lib.hid hle3
          clear rm r8 htop5 hsl hle4 hcap R56 ho6 hb6 O6 R7 BA2 BT2 HB5 R5 AG B5
          go_wp2_with fail
          all_goals
            refine (same_bytes _ _ _ _ _ _ _ xs _ R8.out (by
              have := RM.out
              by_cases hc : c5 = tn
              · first
                | (rw [if_pos hc, hc, Nat.sub_self] at this; exact this)
                | exact absurd hc (by assumption)
              · first
                | (rw [if_neg hc] at this; exact this)
                | exact absurd (by assumption) hc)).mono ?_; rintro e w7 ⟨rfl, q7, rfl⟩
            have bt8 := (BT6.out.drewN q7).set3 (.slice A6 bs.length c6) (.int .i64 (e2 : Int)) (.int .i64 0)
            have o8 := (O66.out.drewN q7).set3 (p := w3.heap.size) (by omega) (.slice A6 bs.length c6) (.int .i64 (e2 : Int)) (.int .i64 0)
            have hb8 := below_set3 (below_drew HB6.out q7) (p := w3.heap.size) hT (.slice A6 bs.length c6) (.int .i64 (e2 : Int)) (.int .i64 0)
            obtain ⟨A9, c9, e9, r9⟩ := o8.row
            cases e9
            have BT8 := Lib.hid bt8; have R9 := Lib.hid r9; have HB8 := Lib.hid hb8
            clear bt8 o8 r9 hb8
            clear BT6 O66 HB6 hle2 hle3 h4 h5
            go_wp2_with fail
            go_roundw
            case rel => exact ⟨j + 1, A6, c6, e2, by omega, by go_num, HL3.out, BT8.out, R9.out, HB8.out⟩
            case measure => simp [intOf]; omega
      · obtain ⟨g1, g2⟩ := askG_err (n := bs.length) (by omega) htn (askK x.k) x.N x.M bs he
        rw [g2] at hob
        rw [g1, g2]
        have e1 : ((readA (askK x.k) x.N x.M (rest bs tn)).2.2 != 0) = true := by simpa using he
        generalize (readA (askK x.k) x.N x.M (rest bs tn)).2.2 = ee at *
        clear g1 g2
        obtain ⟨A6, c6, rfl, r6⟩ := ho5.row
        obtain ⟨A7, c7, rfl, r7⟩ := hob.row
        have B5 := Lib.hid (Box.new w5 48 #[.slice A6 bs.length c6, .int .i64 (tn : Int), .int .i64 ee, .int .u64 0, .int .i64 0, .bool false, .slice A7 0 c7])
        have ba := b_alloc w5 (.cells #[.slice A6 bs.length c6, .int .i64 (tn : Int), .int .i64 ee, .int .u64 0, .int .i64 0, .bool false, .slice A7 0 c7] 48)
        have ra := (r6.below ba).mono ba.size
        have ct := ask_any x.k x.N x.M A6 bs.length c6 (tn : Int) ee bs _ ra (by omega) HM.out
        have BA2 := Lib.hid ((BA.out.belowAll hb5).belowAll ba)
        have BT2 := Lib.hid ((BT.out.belowAll hb5).belowAll ba)
        have HB5 := Lib.hid (gr_trans (gr_trans HBA.out hb5) ba)
        obtain ⟨p0, p1, p2, _, _, _⟩ := BA2.out.three
        have CT2 := Lib.hid ct
        have OV := Lib.hid (fun W => over_any A6 bs.length c6 (tn : Int) ee W)
        rw [over_err (by omega) htn he] at OV
        have HE := Lib.hid he
        clear d0 d1 d2 f0 f1 f2 q0 q1 q2 CT ho5 hob r6 r7 hb5 ba ra ct he BA BT RA HBA HB
        unfold toldV tv noT at *
        go_wp2_with fail
        refine CT2.out.mono ?_; rintro e w7 ⟨v7, rfl, ⟨s7, b7, rfl, ho7, hob7⟩, hb7⟩
        obtain ⟨g1, g2⟩ := askG_again (n := bs.length) (by omega) htn (askK x.k) x.N x.M bs HE.out
        rw [g2] at hob7
        rw [g1, g2]
        clear g1 g2
        obtain ⟨A8, c8, rfl, r8⟩ := ho7.row
        obtain ⟨A9, c9, rfl, r9⟩ := hob7.row
        have ba := b_alloc w7 (.cells #[.slice A8 bs.length c8, .int .i64 (tn : Int), .int .i64 ee, .int .u64 0, .int .i64 0, .bool false, .slice A9 0 c9] 48)
        have BY7 := Lib.hid (Box.new w7 48 #[.slice A8 bs.length c8, .int .i64 (tn : Int), .int .i64 ee, .int .u64 0, .int .i64 0, .bool false, .slice A9 0 c9])
        have BX7 := Lib.hid ((B5.out.belowAll hb7).belowAll ba)
        have BT7 := Lib.hid ((BT2.out.belowAll hb7).belowAll ba)
        have HB7 := Lib.hid (gr_trans (gr_trans HB5.out hb7) ba)
        clear ho7 hob7 r8 r9 hb7 ba p0 p1 p2 CT2 BA2 BT2 HB5 B5
        unfold toldV noT at *
        go_upto_region 11 with (fail)
        generalize w7.alloc _ = W at *
        have hS : ∀ w' : World, Below W.heap.size W w' → Below W.heap.size W w' ∧ w'.cell? ⟨w3.heap.size, 1, none⟩ = some (.int .i64 (tn : Int)) ∧ w'.cell? ⟨w5.heap.size, 0, none⟩ = some (.slice A6 bs.length c6) ∧ w'.cell? ⟨w5.heap.size, 1, none⟩ = some (.int .i64 (tn : Int)) ∧ w'.cell? ⟨w5.heap.size, 2, none⟩ = some (.int .i64 ee) ∧ w'.cell? ⟨w5.heap.size, 3, none⟩ = some (.int .u64 0) ∧ w'.cell? ⟨w5.heap.size, 4, none⟩ = some (.int .i64 0) ∧ w'.cell? ⟨w5.heap.size, 5, none⟩ = some (.bool false) ∧ w'.cell? ⟨w5.heap.size, 6, none⟩ = some (.slice A7 0 c7) ∧ w'.cell? ⟨w7.heap.size, 1, none⟩ = some (.int .i64 (tn : Int)) ∧ w'.cell? ⟨w7.heap.size, 2, none⟩ = some (.int .i64 ee) := fun w' h => by
          obtain ⟨z0, z1, z2, z3, z4, z5, z6⟩ := (BX7.out.belowAll h).seven
          obtain ⟨_, y1, y2, _, _, _, _⟩ := (BY7.out.belowAll h).seven
          exact ⟨h, (BT7.out.belowAll h).cell 1, z0, z1, z2, z3, z4, z5, z6, y1, y2⟩
        have HS := Lib.hid hS
        clear hS
        have hBE := Below.refl W.heap.size W
        go_cut [4] from 36 to 88 (fun s4 wx => s4 = .bool true ∧ Below W.heap.size W wx)
        case first =>
          go_region_held3 (fun w' => Below W.heap.size W w' ∧ w'.cell? ⟨w3.heap.size, 1, none⟩ = some (.int .i64 (tn : Int)) ∧ w'.cell? ⟨w5.heap.size, 0, none⟩ = some (.slice A6 bs.length c6) ∧ w'.cell? ⟨w5.heap.size, 1, none⟩ = some (.int .i64 (tn : Int)) ∧ w'.cell? ⟨w5.heap.size, 2, none⟩ = some (.int .i64 ee) ∧ w'.cell? ⟨w5.heap.size, 3, none⟩ = some (.int .u64 0) ∧ w'.cell? ⟨w5.heap.size, 4, none⟩ = some (.int .i64 0) ∧ w'.cell? ⟨w5.heap.size, 5, none⟩ = some (.bool false) ∧ w'.cell? ⟨w5.heap.size, 6, none⟩ = some (.slice A7 0 c7) ∧ w'.cell? ⟨w7.heap.size, 1, none⟩ = some (.int .i64 (tn : Int)) ∧ w'.cell? ⟨w7.heap.size, 2, none⟩ = some (.int .i64 ee)) (first | exact HS.out _ hBE | exact HS.out _ hBE.drew) (first
            | (go_at_call 23
               (with_reducible refine (OV.out _).mono ?_)
               rintro e wE ⟨rfl, hbE⟩
               replace hBE : Below W.heap.size W wE := gr_trans hBE.drew hbE))
          all_goals
            go_wp2_with fail
            go_meet
            exact ⟨rfl, hBE⟩
        case rest =>
          obtain ⟨rfl, hbx⟩ := hcut
          go_wp2_with fail
          go_ret
          exact ⟨rfl, gr_trans HB7.out hbx⟩
    · have hstop : (j < n ∧ j = 20) ∨ j = n := by omega
      have HBW := Lib.hid hb
      clear hmain hrw hbx hb BX0 R4 HB4
      rcases hstop with ⟨hlt, hj20⟩ | hjn
      · obtain ⟨g, o, x, e1, rfl, hg, hM, q0, q1, q2⟩ := (HI.out.below HBW.out).at_ j hlt
        have d20 : ((j : Int) == 20) = true := by simp; omega
        have HBA := Lib.hid (gr_trans HBW.out (b_alloc wr (.cells #[.int .i64 x.k, .int .u64 (x.N : Int), .int .i64 x.M] 44)))
        clear hj20 e1 hM HBW HB
        go_wp2_with fail
        go_ret
        exact ⟨rfl, HBA.out⟩
      · subst hjn
        go_wp2_with fail
        go_ret
        exact ⟨rfl, HBW.out⟩
end Go.Proofs.Ytnppkobckabpcaa
