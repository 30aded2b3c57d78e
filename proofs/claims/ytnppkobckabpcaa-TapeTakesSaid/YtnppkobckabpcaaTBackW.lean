/- TapeBack walked. -/
import Derived.Test.YtnppkobckabpcaaTBack
namespace Go.Proofs.Ytnppkobckabpcaa
open Go.RowKit

/-- The first so many items are put. -/
def Putting (base : Nat) (w0 : World) (a : List Nat) (its : List It) (n : Nat) (s7 s31 : Value) (wr : World) : Prop := ∃ j : Nat, j ≤ n ∧ s31 = .int .i64 (j : Int) ∧ OwnB wr base s7 (a ++ flat (its.take j)) ∧ Below w0.heap.size w0 wr
/-- The first so many items are taken. -/
def Taking (w0 : World) (T : Nat) (bs : List Nat) (al : Nat) (its : List It) (n : Nat) (s50 : Value) (wr : World) : Prop :=
  ∃ (j : Nat) (A : Option Addr) (c : Nat), j ≤ n ∧ s50 = .int .i64 (j : Int) ∧ Box wr T 40 #[.slice A bs.length c, .int .i64 ((al + (flat (its.take j)).length : Nat) : Int), .int .i64 0] ∧ RowB wr wr.heap.size A bs.length c bs ∧ Below w0.heap.size w0 wr
theorem its_len {w : World} {B0 n : Nat} {L : Option Addr} {its : List It} (h : ItemsAt w B0 L n its) : ∀ x ∈ its, 1 ≤ x.by_.length ∧ x.by_.length ≤ 310 := by
  intro x hx
  obtain ⟨j, hj, rfl⟩ := List.getElem_of_mem hx
  obtain ⟨g, o, y, e1, _, _, ok, _⟩ := h.at_ j (by rw [← h.len]; exact hj)
  rw [List.getElem?_eq_getElem hj] at e1
  obtain rfl := Option.some.inj e1
  exact itemB_len _ _ _ _ _ ok.num ok.lo ok.hi
theorem check_in {n t : Nat} (hn : n ≤ 16384) (h : t ≤ n) : checkT n (t : Int) 0 = 0 := by unfold checkT badT; simp; omega
theorem over_end {n t : Nat} (hn : n ≤ 16384) (h : t = n) : overT n (t : Int) 0 = 0 := by
  unfold overT; rw [if_neg (by rw [check_in hn (by omega)]; simp), if_neg (by omega)]
theorem over_mid {n t : Nat} (hn : n ≤ 16384) (h : t < n) : overT n (t : Int) 0 = 3 := by
  unfold overT; rw [if_neg (by rw [check_in hn (by omega)]; simp), if_pos (by omega)]
/-- Grown in a row of one's own: nothing below it has turned. -/
theorem below_of_grown {w w1 w2 : World} {v : Value} {bs : List Nat} (ho : OwnB w1 w.heap.size v bs) (hg : w1.grownBy w2 v.ownBlock) (hz : w.heap.size ≤ w1.heap.size) : Below w.heap.size w1 w2 :=
  ((Below.refl _ w1).grown hg hz (fun k e => (ho.1.lt k e).1))
set_option maxRecDepth 100000 in
set_option maxHeartbeats 16000000 in
theorem back_walk (L A1 A2 : Option Addr) (n cap n1 c1 n2 c2 : Nat) (its : List It) (x1 x2 : List Nat) (w : World) (hcap : n ≤ cap) (htop : n ≤ maxLen) (hi : ∀ n', n' ≤ n → n' ≤ 20 → ItemsAt w w.heap.size L n' (its.take n'))
    (h1 : RowB w w.heap.size A1 n1 c1 x1) (h2 : RowB w w.heap.size A2 n2 c2 x2) :
    Calls Try.prog 5 #[.slice L n cap, .slice A1 n1 c1, .slice A2 n2 c2] w fun e w' => e = .returned (.bool true) ∧ Below w.heap.size w w' := by
  unfold maxLen at htop
  obtain ⟨k, hk, hkn⟩ : ∃ k, k = min n 20 ∧ k ≤ n := ⟨_, rfl, by omega⟩
  have hit := hi k hkn (by omega)
  have hmin : (min (n : Int) (20 : Int)).toNat = k := by omega
  have hk20 : k ≤ 20 := by omega
  have hmax : max (min (n : Int) (20 : Int)) 0 = (k : Int) := by omega
  generalize its.take k = its at *
  have HI := Lib.hid hit; have HM := Lib.hid hmin; have HX := Lib.hid hmax; have HR1 := Lib.hid h1; have HR2 := Lib.hid h2
  have hL := Lib.hid (its_len hit)
  clear hi hit hmin hk h1 h2 hmax
  go_enter Try.func5, Try.ntmps5
  go_wp2_with fail
  refine (wakes_any w).mono ?_; rintro e w1 ⟨rfl, hb1⟩
  have HB1 := Lib.hid hb1
  have f1 := few_any A1 n1 c1 300 x1 w1 ((HR1.out.below hb1).mono hb1.size) (by omega)
  rw [show ((300 : Nat) : Int) = 300 from rfl] at f1
  have a1 : (x1.take 300).length ≤ 300 := by rw [List.length_take]; omega
  have a2 : (x2.take 300).length ≤ 300 := by rw [List.length_take]; omega
  have f2 := fun W (hb : Below w.heap.size w W) => few_any A2 n2 c2 300 x2 W ((HR2.out.below hb).mono hb.size) (by omega)
  rw [show ((300 : Nat) : Int) = 300 from rfl] at f2
  generalize x1.take 300 = y1 at *
  generalize x2.take 300 = y2 at *
  have F1 := Lib.hid f1; have F2 := Lib.hid f2
  clear f1 f2 hb1
  go_wp2_with fail
  refine F1.out.mono ?_; rintro e w2 ⟨v2, rfl, ho2, hb2⟩
  have HB2 := Lib.hid (gr_trans HB1.out hb2)
  obtain ⟨A3, c3, rfl, r3⟩ := ho2.row
  have HR3 := Lib.hid r3
  clear ho2 hb2 r3 F1 HR1
  go_wp2_with fail
  refine (F2.out w2 HB2.out).mono ?_; rintro e w3 ⟨v3, rfl, ho3, hb3⟩
  have HB3 := Lib.hid (gr_trans HB2.out hb3)
  obtain ⟨A4, c4, rfl, r4⟩ := ho3.row
  have HR4 := Lib.hid r4
  have HR33 := Lib.hid ((HR3.out.below hb3).mono hb3.size)
  clear ho3 hb3 r4 F2 HR2 HR3
  go_wp2_with fail
  refine (clone_bytes A3 y1.length c3 y1 w3 HR33.out (by omega)).mono ?_; rintro e w4 ⟨v4, rfl, ho4, hb4⟩
  have HB4 := Lib.hid (gr_trans HB3.out hb4)
  have HO4 := Lib.hid (ho4.mono (base' := w.heap.size) HB3.out.size)
  have HR44 := Lib.hid ((HR4.out.below hb4).mono hb4.size)
  clear ho4 hb4 HR4 HR33
  go_wp2_with fail
  rw [HM.out]
  rw [HX.out]
  go_loopw [7, 31] (Putting w.heap.size w4 y1 its k) (fun _ s31 _ => k - (intOf s31).toNat)
  case atStart => exact ⟨0, by omega, rfl, by simpa [flat] using HO4.out, Below.refl _ _⟩
  case round =>
    obtain ⟨j, hj, rfl, hown, hb⟩ := hrel
    have hfl := flat_len hL.out j
    have hal : (y1 ++ flat (its.take j)).length ≤ 300 + 310 * j := by rw [List.length_append]; omega
    have HB := Lib.hid hb
    by_cases hlt : j < k
    · obtain ⟨g, o, x, e1, rfl, hg, ok, q0, q1, q2, q3, q4⟩ := (HI.out.below (gr_trans HB4.out hb)).at_ j hlt
      have hz := (gr_trans HB4.out hb).size
      have hnx := Lib.hid (flat_next e1)
      have E1 := Lib.hid e1
      obtain ⟨A5, c5, rfl, r5⟩ := hown.row
      have HR5 := Lib.hid r5
      have HOK := Lib.hid ok
      have hal5 : (y1 ++ flat (its.take j)).length ≤ 6500 := by omega
      have HAL := Lib.hid hal5
      clear hal hal5 hfl hb hown r5 ok e1 HO4
      generalize hacc : y1 ++ flat (its.take j) = acc at *
      have Hacc := Lib.hid hacc
      clear hacc
      go_wp2_with fail
      have ba := b_alloc wr (.cells #[.int .i64 x.k, .int .u64 (x.N : Int), .int .i64 x.I, .bool x.b, .slice x.B x.m x.d] 29)
      have rx := ((HOK.out.row.mono hz).below ba).mono ba.size
      have ra := (HR5.out.below ba).mono ba.size
      refine (itemPut_any x.k x.N x.I x.b x.B A5 x.m x.d acc.length c5 x.xs acc _ HOK.out.num HOK.out.lo HOK.out.hi rx ra (by have := HAL.out; omega)).mono ?_; rintro e w6 ⟨v6, rfl, ho6, hb6⟩
      have hb7 := Lib.hid (gr_trans (gr_trans HB.out ba) hb6)
      have ho7 := Lib.hid (ho6.mono (base' := w.heap.size) (by have := ba.size; omega))
      clear rx ra ba ho6 hb6 q0 q1 q2 q3 q4
      go_wp2_with fail
      go_roundw
      case rel => exact ⟨j + 1, by omega, by go_num, by rw [hnx.out, ← List.append_assoc, Hacc.out]; exact ho7.out, hb7.out⟩
      case measure => simp [intOf]; omega
    · obtain rfl : j = k := by omega
      have htk : its.take j = its := List.take_of_length_le (by rw [HI.out.len]; omega)
      rw [htk] at hown hal
      obtain ⟨A5, c5, rfl, r5⟩ := hown.row
      have HO5 := Lib.hid hown
      have HR2' := Lib.hid ((HR44.out.below hb).mono hb.size)
      have hbw := Lib.hid (gr_trans HB4.out hb)
      have hz := hbw.out.size
      have hbal : (y1 ++ flat its).length ≤ 6500 := by omega
      have htk' := Lib.hid htk
      clear hb hown r5 htk hfl hal HO4 HR44
      generalize hacc : y1 ++ flat its = acc at *
      have Hacc := Lib.hid hacc
      clear hacc
      have HBL := Lib.hid hbal
      clear hbal
      go_wp2_with (at_builtin; refine append_row rfl _ _ rfl w.heap.size _ acc rfl HO5.out wr.heap.size A4 y2.length c4 y2 rfl HR2'.out (by have := HBL.out; omega) hz ?_; intro v6 w6 hown6 hgrow6)
      have hb6 := hbw.out.trans (below_of_grown HO5.out hgrow6 hz)
      obtain ⟨A6, c6, rfl, r6⟩ := hown6.row
      have hbs : (acc ++ y2).length ≤ 6800 := by rw [List.length_append]; have := HBL.out; omega
      have hdr : ∀ j x, its[j]? = some x → ∃ r', (acc ++ y2).drop (y1.length + (flat (its.take j)).length) = x.by_ ++ r' := fun j x e => by
        have := flat_drop y1 y2 e
        rw [← List.append_assoc, Hacc.out] at this
        exact this
      have hend : y1.length + (flat its).length = acc.length := by rw [← Hacc.out, List.length_append]
      have hlen : (acc ++ y2).length = acc.length + y2.length := List.length_append
      have R6 := Lib.hid r6; have HB6 := Lib.hid hb6; have HDR := Lib.hid hdr; have HEND := Lib.hid hend; have HLEN := Lib.hid hlen
      clear hgrow6 hown6 r6 hb6 hdr hend hlen HO5 HR2' hbw HB Hacc HBL
      generalize acc ++ y2 = bs at *
      refine (of_any A6 bs.length c6 bs w6 R6.out (by omega)).mono ?_; rintro e w7 ⟨⟨v7, rfl, s7, rfl, ho7⟩, hb7⟩
      obtain ⟨A7, c7, rfl, r7⟩ := ho7.row
      have HB7 := Lib.hid (gr_trans HB6.out hb7)
      have R7 := Lib.hid r7
      clear ho7 hb7 r7 R6 HB6
      have ba := b_alloc w7 (.cells #[.slice A7 bs.length c7, .int .i64 (y1.length : Int), .int .i64 0] 40)
      have BX := Lib.hid (Box.new w7 40 #[.slice A7 bs.length c7, .int .i64 (y1.length : Int), .int .i64 0])
      have R8 := Lib.hid ((R7.out.below ba).mono ba.size)
      have HB8 := Lib.hid (gr_trans HB7.out ba)
      have hzT := HB7.out.size
      clear ba R7
      go_wp2_with fail
      go_loopw [50] (Taking w w7.heap.size bs y1.length its j) (fun s50 _ => j - (intOf s50).toNat)
      case atStart => exact ⟨0, A7, c7, by omega, rfl, by simpa [flat] using BX.out, R8.out, HB8.out⟩
      case round =>
        obtain ⟨q, A8, c8, hq, rfl, hbx, hrw, hb8⟩ := hrel
        have hz8 := hb8.size
        by_cases hlq : q < j
        · obtain ⟨g, o, x, e1, rfl, hg, ok, q0, q1, q2, q3, q4⟩ := (HI.out.below hb8).at_ q hlq
          obtain ⟨r', hr'⟩ := HDR.out q x e1
          have hxl := hL.out x (List.mem_of_getElem? e1)
          have hnx := congrArg List.length (flat_next e1)
          rw [List.length_append] at hnx
          have htl : y1.length + (flat (its.take q)).length + x.by_.length ≤ bs.length := by
            have := congrArg List.length hr'
            rw [List.length_drop, List.length_append] at this
            omega
          have ba := b_alloc wr (.cells #[.int .i64 x.k, .int .u64 (x.N : Int), .int .i64 x.I, .bool x.b, .slice x.B x.m x.d] 29)
          have rx := ((ok.row.mono hz8).below ba).mono ba.size
          have ra := (hrw.below ba).mono ba.size
          have ct := itemT_any x.k x.N x.I x.b x.B A8 x.m x.d bs.length c8 (y1.length + (flat (its.take q)).length) bs x.xs r' _ ok.num ok.lo ok.hi rx ra (by omega) (by omega) hr'
          have bx2 := hbx.alloc (.cells #[.int .i64 x.k, .int .u64 (x.N : Int), .int .i64 x.I, .bool x.b, .slice x.B x.m x.d] 29)
          have HB9 := Lib.hid (gr_trans hb8 ba)
          change Calls _ _ _ _ (ItemIs _ bs (((y1.length + (flat (its.take q)).length : Nat) : Int) + ((x.by_).length : Int))) at ct
          generalize htn : y1.length + (flat (its.take q)).length = tn at *
          have HTN := Lib.hid htn
          clear htn
          generalize x.by_.length = xl at *
          have CT := Lib.hid ct; have BX2 := Lib.hid bx2; have HNX := Lib.hid hnx
          obtain ⟨d0, d1, d2, f0, f1, f2⟩ := hbx.three
          have hT := hbx.lt
          clear ct bx2 hnx ba rx ra hr' e1 ok hbx hrw hb8 BX R8 HB8 HB7
          go_wp2_with fail
          refine CT.out.mono ?_; rintro e w9 ⟨v9, x9, rfl, ⟨s9, rfl, ho9⟩, hx9, hb9⟩
          obtain rfl : x9 = .bool true := hx9
          obtain ⟨A9, c9, rfl, _⟩ := ho9.row
          have HB10 := Lib.hid (gr_trans HB9.out hb9)
          have bx3' := BX2.out.belowAll hb9
          have hT9 := bx3'.lt
          have bx4 := (bx3'.set3 (.slice A9 bs.length c9) (.int .i64 ((tn : Int) + (xl : Int))) (.int .i64 0)).alloc (.cells #[.slice A9 bs.length c9, .int .i64 ((tn : Int) + (xl : Int)), .int .i64 0] 40)
          have ho10 := (ho9.set3 (p := w7.heap.size) (by simp; omega) (.slice A9 bs.length c9) (.int .i64 ((tn : Int) + (xl : Int))) (.int .i64 0)).alloc (.cells #[.slice A9 bs.length c9, .int .i64 ((tn : Int) + (xl : Int)), .int .i64 0] 40)
          have HB11 := Lib.hid (gr_alloc (below_set3 HB10.out (p := w7.heap.size) hzT (.slice A9 bs.length c9) (.int .i64 ((tn : Int) + (xl : Int))) (.int .i64 0)) (.cells #[.slice A9 bs.length c9, .int .i64 ((tn : Int) + (xl : Int)), .int .i64 0] 40))
          clear d0 d1 d2 f0 f1 f2 q0 q1 q2 q3 q4
          obtain ⟨d0, d1, d2, f0, f1, f2⟩ := bx3'.three
          obtain ⟨A10, c10, e10, r10⟩ := ho10.row
          cases e10
          have BX4 := Lib.hid bx4; have R10 := Lib.hid r10
          have hd1 : decide ((tn : Int) + (xl : Int) ≤ (tn : Int)) = false := by simp; omega
          clear bx3' bx4 ho9 ho10 r10 hb9 CT BX2 HB9 HB10
          go_wp2_with fail
          go_roundw
          case rel => exact ⟨q + 1, A9, c9, by omega, by go_num, by have := BX4.out; rw [show ((y1.length + (flat (its.take (q + 1))).length : Nat) : Int) = (tn : Int) + (xl : Int) by have := HNX.out; have := HTN.out; omega]; exact this, R10.out, HB11.out⟩
          case measure => simp [intOf]; omega
        · obtain rfl : q = j := by omega
          rw [htk'.out, HEND.out] at hbx
          obtain ⟨d0, d1, d2, f0, f1, f2⟩ := hbx.three
          have hov := over_any A8 bs.length c8 (acc.length : Int) 0 wr
          have hlen := HLEN.out
          have HB9 := Lib.hid hb8
          by_cases hy : y2.length = 0
          · have e1 : overT bs.length (acc.length : Int) 0 = 0 := over_end (by omega) (by omega)
            rw [e1] at hov
            have Hov := Lib.hid hov
            have hd : ((y2.length : Int) == 0) = true := by rw [hy]; rfl
            have Hy := Lib.hid hy
            clear hov e1 hlen hbx hrw hb8 hy BX R8 HB8 HB7
            go_wp2_with fail
            refine Hov.out.mono ?_; rintro e w9 ⟨rfl, hb9⟩
            have hq2 := Hy.out
            go_wp2_with fail
            go_ret
            exact ⟨by simp, gr_trans HB9.out hb9⟩
          · have e1 : overT bs.length (acc.length : Int) 0 = 3 := over_mid (by omega) (by omega)
            rw [e1] at hov
            have Hov := Lib.hid hov
            have hd : ((y2.length : Int) == 0) = false := by rw [beq_eq_false_iff_ne]; omega
            have Hy := Lib.hid hy
            clear hov e1 hlen hbx hrw hb8 hy BX R8 HB8 HB7
            go_wp2_with fail
            refine Hov.out.mono ?_; rintro e w9 ⟨rfl, hb9⟩
            go_wp2_with fail
            go_ret
            exact ⟨by simp, gr_trans HB9.out hb9⟩
end Go.Proofs.Ytnppkobckabpcaa
