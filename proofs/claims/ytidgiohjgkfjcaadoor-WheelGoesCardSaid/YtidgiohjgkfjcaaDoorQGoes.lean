/- WheelGoes: walked. -/
import Derived.Test.YtidgiohjgkfjcaaDoorQFull
import Derived.Test.YtidgiohjgkfjcaaDoorQRCut
import Derived.Test.YtidgiohjgkfjcaaDoorQRTurn
import Derived.Test.YtidgiohjgkfjcaaDoorQFind
import Derived.Test.YtidgiohjgkfjcaaDoorQOpen
import Derived.Deep.CutBlock
namespace Go.Proofs.YtidgiohjgkfjcaaDoor
open Go.RowKit

theorem tmod_four (x : Int) (h : 0 ≤ x) : x.tmod 4 = 0 ∨ x.tmod 4 = 1 ∨ x.tmod 4 = 2 ∨ x.tmod 4 = 3 := by
  rw [Int.tmod_eq_emod_of_nonneg h]; omega
theorem wrap_u64_nonneg (k : Int) : 0 ≤ IntKind.u64.wrap k := by rw [IntKind.wrap_u64]; omega
/-- A wheel beside the document's, both as they should be. -/
structure Both (w0 wr : World) (p g : Nat) (t : Int) (l : List (Int × Int)) (A : Option Addr) (c : Nat) : Prop where
  m : Mine w0 wr p t l
  q : QBox wr g 31 #[.int .i64 t, .slice A l.length c]
  r : DuesR wr wr.heap.size A l.length c l
  op : OffP p A
  og : OffP g A
theorem Both.on {w0 w w' : World} {p g : Nat} {t : Int} {l : List (Int × Int)} {A : Option Addr} {c : Nat} (h : Both w0 w p g t l A c) (hb : Below w.heap.size w w') : Both w0 w' p g t l A c :=
  ⟨h.m.on hb, h.q.belowAll hb, (h.r.below hb).mono hb.size, h.op, h.og⟩
theorem Both.fit {w0 w : World} {p g : Nat} {t : Int} {l : List (Int × Int)} {A : Option Addr} {c : Nat} (h : Both w0 w p g t l A c) (hT : Tab w0) (hg : 0 < w0.heap.size) :
    Calls Tryd.prog 20 #[.pointer (some ⟨p, 0, none⟩), .agg #[.int .i64 t, .slice A l.length c]] w fun e w' => e = .returned (.bool true) ∧ Both w0 w' p g t l A c ∧ Below w.heap.size w w' := by
  obtain ⟨x1, x2, _⟩ := h.m.tab hT hg
  refine (holds_any9 p t A c l w h.m.wh h.r x1 x2).mono ?_
  rintro e w' ⟨rfl, hb⟩
  exact ⟨rfl, h.on hb, hb⟩
theorem mine_turn_no {w0 w : World} {p : Nat} {t : Int} {l : List (Int × Int)} (u : Int) (h : Mine w0 w p t l) (hno : u < t ∨ topQ < u) :
    Calls Tryd.prog 16 #[.pointer (some ⟨p, 0, none⟩), .int .i64 u] w fun e w' => e = .returned (.tuple #[.slice none 0 0, .int .i64 2]) ∧ Mine w0 w' p t l ∧ Below w.heap.size w w' := by
  refine (turn_no p t u l w h.wh hno).mono ?_
  rintro e w' ⟨rfl, hb⟩
  exact ⟨rfl, h.on hb, hb⟩
theorem NewRow.off {B g : Nat} {A : Option Addr} (h : NewRow B A none) (hg : g < B) : OffP g A := h.elim (fun e => e ▸ OffP.none_ g) (fun h b o s e => by have := h b o s e; omega)
theorem placeA_case (t : Int) (l : List (Int × Int)) (n : Int) : ∃ v0 v1 : Int, placeA t l n = .tuple #[.int .i64 v0, .int .i64 v1, .bool (hasQ n l)] := by
  unfold placeA
  cases hf : l.find? (fun d => decide (d.2 = n)) with
  | none =>
    have : hasQ n l = false := by
      rw [← Bool.not_eq_true, hasQ_iff]
      rintro ⟨d, hd, e⟩
      have := List.find?_eq_none.1 hf d hd
      simp at this; exact this e
    rw [this]
    exact ⟨0, 0, rfl⟩
  | some d =>
    have : hasQ n l = true := hasQ_iff.2 ⟨d, List.mem_of_find?_eq_some hf, by simpa using List.find?_some hf⟩
    rw [this]
    exact ⟨_, _, rfl⟩
theorem own_frozen {w : World} {base n c b o : Nat} {l : List (Int × Int)} (h : OwnD w base (.slice (some ⟨b, o, none⟩) n c) l) : ∀ j, w.frozen? ⟨b, j, none⟩ = false := by
  intro j
  rcases h.2 with ⟨hv, _⟩ | ⟨g, cap, cur, hv, hg, hh, _⟩
  · cases hv
  · cases hv
    simp [World.frozen?, hh]
theorem box_sets {w : World} {g gx : Nat} {ty : TypeId} {cs : Array Value} {v v' : Value} (h : QBox w gx ty cs) (hne : gx ≠ g) : QBox ((w.setCell ⟨g, 0, none⟩ v).setCell ⟨g, 1, none⟩ v') gx ty cs := (h.far hne _).far hne _
theorem Both.step {w0 w w6 w7 : World} {p g : Nat} {t t' : Int} {l l' : List (Int × Int)} {A A' : Option Addr} {c c' : Nat} (h : Both w0 w p g t l A c) (hpg : p < g) (hgw : w0.heap.size ≤ g) (m6 : Mine w0 w6 p t' l') (o6 : Only p w w6)
    (hb7 : Below w6.heap.size w6 w7) (hr7 : DuesR w7 w7.heap.size A' l'.length c' l') (hn : NewRow w6.heap.size A' A) :
    Both w0 ((w7.setCell ⟨g, 0, none⟩ (.int .i64 t')).setCell ⟨g, 1, none⟩ (.slice A' l'.length c')) p g t' l' A' c' := by
  have q6 := h.q.onlyP o6 (Nat.ne_of_gt hpg)
  have q7 := q6.belowAll hb7
  have og := OffP.new hn q6.lt h.og
  exact ⟨(m6.on hb7).far (Only.set2 _ _ _ _ _) (Nat.ne_of_lt hpg) q7 (by decide) hgw, q7.set2 _ _, hr7.onlyP (Only.set2 _ _ _ _ _) og, OffP.new hn m6.lt h.op, og⟩
set_option maxRecDepth 100000 in
set_option maxHeartbeats 2000000 in
theorem goes_law (a : Int) (A1 : Option Addr) (n1 c1 : Nat) (l1 : List ActE) (w : World) (hr : ActsR w w.heap.size A1 n1 c1 l1) (hl : ∀ x ∈ l1, 0 ≤ x.num ∧ (-9223372036854775808 ≤ x.a ∧ x.a ≤ 9223372036854775807) ∧ (-9223372036854775808 ≤ x.k ∧ x.k ≤ 9223372036854775807)) (hT : Tab w) (hg : 0 < w.heap.size) :
    Calls Tryd.prog 3 #[.int .i64 a, .slice A1 n1 c1] w fun e w' => e = .returned (.bool true) ∧ Below w.heap.size w w' := by
  have hcap := hr.cap
  have htop := hr.top
  unfold maxLen at htop
  have HR := Lib.hid hr; have HL := Lib.hid hl; have HN := Lib.hid hr.len
  clear hr hl
  go_enter Tryd.func3, Tryd.ntmps3
  go_wp2_with fail
  refine (wakes_any9 w hT hg).mono ?_
  rintro e w1 ⟨rfl, hb1⟩
  have HB1 := Lib.hid hb1
  clear hb1
  by_cases ht : timeQ a
  · have HTQ := Lib.hid ht
    have hd := decide_eq_true ht
    have HD := Lib.hid hd
    clear ht hd
    go_wp2_with fail
    refine (mine_new w a w1 HTQ.out HB1.out).mono ?_
    rintro e w2 ⟨rfl, m2, hb2⟩
    have hs2 := m2.lt
    have HS2 := Lib.hid hs2
    have M2 := Lib.hid m2
    clear m2 hb2 hs2
    go_wp2_with fail
    refine (rtime_any a _).mono ?_
    rintro e w3 ⟨rfl, rfl⟩
    rw [HD.out]
    have hB3 := (Below.refl w3.heap.size w3).alloc (Nat.le_refl _) (.cells #[.int .i64 a, .slice none 0 0] 31)
    have HBO := Lib.hid (show Both w (w3.alloc (.cells #[.int .i64 a, .slice none 0 0] 31)) w1.heap.size w3.heap.size a [] none 0 from ⟨M2.out.on hB3, QBox.new _ _ _, .none_ _ _, .none_ _, .none_ _⟩)
    clear hB3
    go_wp2_with fail
    generalize w3.alloc (.cells #[.int .i64 a, .slice none 0 0] 31) = W3 at *
    have hgw := Lib.hid (show w.heap.size ≤ w3.heap.size from M2.out.b.size)
    clear M2
    generalize w1.heap.size = p at *
    generalize w3.heap.size = g at *
    go_loopw [43] (fun i wr => ∃ (k : Nat) (t : Int) (l : List (Int × Int)) (A : Option Addr) (c : Nat), k ≤ n1 ∧ i = .int .i64 k ∧ Both w wr p g t l A c) (fun i _ => n1 - (intOf i).toNat)
    case atStart => exact ⟨0, a, [], none, 0, by omega, rfl, HBO.out⟩
    case round =>
      clear HBO
      obtain ⟨k, t, l, A, c, hk, rfl, hbo⟩ := hrel
      obtain ⟨q0, q1, q2, q3⟩ := hbo.q.two
      have HBO := Lib.hid hbo
      by_cases hlt : k < n1
      · by_cases h100 : k = 100
        · obtain ⟨x, hx⟩ : ∃ x, l1[k]? = some x := ⟨_, List.getElem?_eq_getElem (by rw [HN.out]; exact hlt)⟩
          obtain ⟨bb, oo, hA, hll, y0, y1, y2, y3⟩ := (HR.out.below hbo.m.b).at_ k _ hx
          obtain ⟨xk, xa, xn, xo⟩ := x
          subst hA
          dsimp only at y0 y1 y2 y3
          have hi0 : (0 : Int) ≤ k := by omega
          have hi1 : (k : Int) < (n1 : Int) := by omega
          have hd100 : ((k : Int) == 100) = true := by simp; omega
          have hgl := hbo.q.lt
          have hng := Nat.ne_of_lt hgl
          have HBX := Lib.hid (hbo.on ((Below.refl wr.heap.size wr).alloc (Nat.le_refl _) (.cells #[.int .i64 xk, .int .i64 xa, .int .u64 xn, .bool xo] 34)))
          clear hbo hx h100
          go_wp2_with fail
          refine (HBX.out.fit hT hg).mono ?_
          rintro e wz ⟨rfl, bz, _⟩
          have HZ := Lib.hid bz.m.b
          clear bz
          go_wp2_with fail
          go_ret
          exact ⟨rfl, HZ.out⟩
        · have hd100 : ((k : Int) == 100) = false := by simp; omega
          obtain ⟨x, hx⟩ : ∃ x, l1[k]? = some x := ⟨_, List.getElem?_eq_getElem (by rw [HN.out]; exact hlt)⟩
          obtain ⟨bb, oo, hA, hll, y0, y1, y2, y3⟩ := (HR.out.below hbo.m.b).at_ k _ hx
          have HXL := Lib.hid (HL.out _ (List.mem_of_getElem? hx))
          obtain ⟨xk, xa, xn, xo⟩ := x
          subst hA
          dsimp only at y0 y1 y2 y3
          have hi0 : (0 : Int) ≤ k := by omega
          have hi1 : (k : Int) < (n1 : Int) := by omega
          have hB4 := (Below.refl wr.heap.size wr).alloc (Nat.le_refl _) (.cells #[.int .i64 xk, .int .i64 xa, .int .u64 xn, .bool xo] 34)
          have hbo4 := hbo.on hB4
          have hx4 := QBox.new wr 34 #[.int .i64 xk, .int .i64 xa, .int .u64 xn, .bool xo]
          have hgl := hbo.q.lt
          have hng := Nat.ne_of_lt hgl
          have HT := Lib.hid hbo.m.wh.right.time
          clear hbo hx h100 hB4
          go_wp2_with fail
          generalize wr.alloc (.cells #[.int .i64 xk, .int .i64 xa, .int .u64 xn, .bool xo] 34) = W4 at *
          refine (at_any9 xk xa xn t xo _ HT.out.1 (by have := HT.out.2; unfold topQ at this; exact this)).mono ?_
          rintro e w5 ⟨rfl, hb5⟩
          have HBO5 := Lib.hid (hbo4.on hb5)
          have HX5 := Lib.hid (hx4.belowAll hb5)
          obtain ⟨u, hu⟩ : ∃ u, atQ xk xa xo t = u := ⟨_, rfl⟩
          rw [hu]
          clear hu hbo4 hx4 hb5 q0 q1 q2 q3 HBO y0 y1 y2 y3
          obtain ⟨q0, q1, q2, q3⟩ := HBO5.out.q.two
          have z0 := HX5.out.cell 0; have z2 := HX5.out.cell 2
          obtain ⟨m, hm⟩ : ∃ m, (IntKind.u64.wrap xk).tmod 4 = m := ⟨_, rfl⟩
          have hm4 := tmod_four _ (wrap_u64_nonneg xk)
          rw [hm] at hm4
          have hgp : g ≠ p := by have := HS2.out; omega
          have hxp : wr.heap.size ≠ p := by have := HS2.out; omega
          have hxg : wr.heap.size ≠ g := by omega
          rcases hm4 with rfl | rfl | rfl | rfl
          · go_wp2_with fail
            refine (mine_put (u, xn) HXL.out.1 HBO5.out.m hT hg).mono ?_
            rintro e w6 ⟨rfl, m6, o6⟩
            obtain ⟨er, her⟩ : ∃ er, putE t l (u, xn) = er := ⟨_, rfl⟩
            rw [her]
            have HER := Lib.hid her
            have HM6 := Lib.hid m6; have HO6 := Lib.hid o6
            have HQ6 := Lib.hid (HBO5.out.q.onlyP o6 hgp); have HR6 := Lib.hid (HBO5.out.r.onlyP o6 HBO5.out.op); have HX6 := Lib.hid (HX5.out.onlyP o6 hxp)
            clear her m6 o6 q0 q1 q2 q3 z0 z2
            obtain ⟨q0, q1, q2, q3⟩ := HQ6.out.two
            have z2 := HX6.out.cell 2
            go_wp2_with fail
            refine (rput_any t A l.length c l (u, xn) _ HR6.out HBO5.out.m.wh.right.len).mono ?_
            rintro e w7 ⟨A2, c2, rfl, hr7, hb7, hn7⟩
            rw [HER.out]
            obtain ⟨L1, hl'⟩ : ∃ l', putQ t l (u, xn) = l' := ⟨_, rfl⟩
            rw [hl'] at hr7 HM6 ⊢
            obtain ⟨T1, ht'⟩ : ∃ t', t = t' := ⟨_, rfl⟩
            rw [ht'] at HM6 ⊢
            have HX7 := Lib.hid (box_sets (v := .int .i64 T1) (v' := .slice A2 L1.length c2) (HX6.out.belowAll hb7) hxg)
            have HBO7 := Lib.hid (HBO5.out.step HS2.out hgw.out HM6.out HO6.out hb7 hr7 hn7)
            have hq7 := HQ6.out.belowAll hb7
            have z7 := (HX6.out.belowAll hb7).cell 2
            clear q0 q1 q2 q3 z2
            obtain ⟨q0, q1, q2, q3⟩ := hq7.two
            clear hb7 hn7 hr7 hl' ht' hq7
            unfold wheelV
            go_wp2_with fail
            generalize hW8 : (w7.setCell ⟨g, 0, none⟩ (.int .i64 T1)).setCell ⟨g, 1, none⟩ (.slice A2 L1.length c2) = W8 at *
            have HBO8 := HBO7; have HX8 := HX7
            clear HBO7 HX7 q0 q1 q2 q3 z7 hW8
            obtain ⟨q0, q1, q2, q3⟩ := HBO8.out.q.two
            have z2 := HX8.out.cell 2
            have HXc := HX8.out.cell 2
            obtain ⟨v0, v1, hv⟩ := placeA_case T1 L1 xn
            have HV := Lib.hid hv
            clear hv
            refine (mine_place xn HBO8.out.m hT hg).mono ?_
            rintro e w9 ⟨rfl, m9, b9⟩
            rw [HV.out]
            obtain ⟨bb9, hbb9⟩ : ∃ b, hasQ xn L1 = b := ⟨_, rfl⟩
            rw [hbb9]
            have HH9 := Lib.hid hbb9
            have HBO9 := Lib.hid (HBO8.out.on b9)
            have HX9 := Lib.hid (HX8.out.belowAll b9)
            clear hbb9 m9 b9 q0 q1 q2 q3 z2 HXc
            obtain ⟨q0, q1, q2, q3⟩ := HBO9.out.q.two
            go_wp2_with fail
            refine (HBO9.out.fit hT hg).mono ?_
            rintro e wa ⟨rfl, ba, bba⟩
            have HBOa := Lib.hid ba
            have HXa := Lib.hid (HX9.out.belowAll bba)
            clear ba bba q0 q1 q2 q3
            obtain ⟨q0, q1, q2, q3⟩ := HBOa.out.q.two
            go_wp2_with fail
            refine (contains_any9 A2 L1.length c2 wr.heap.size xn L1 _ HBOa.out.r HXa.out.lt (HXa.out.cell 2)).mono ?_
            rintro e wb ⟨rfl, bb0⟩
            rw [HH9.out]
            have HBOb := Lib.hid (HBOa.out.on bb0)
            clear bb0 q0 q1 q2 q3
            go_wp2_with fail
            refine (mine_all HBOb.out.m hT hg).mono ?_
            rintro e wc ⟨v, rfl, ho, mc, bc⟩
            obtain ⟨A9, c9, rfl, hr9⟩ := ho.row
            have HBOc := Lib.hid (HBOb.out.on bc)
            have HR9 := Lib.hid hr9
            have hcap9 := hr9.cap
            have hl9 := HBOb.out.m.wh.right.len
            obtain ⟨n9, hn9⟩ : ∃ n, n = L1.length := ⟨_, rfl⟩
            rw [← hn9] at hr9 HR9 hcap9 hl9 ⊢
            have HN9 := Lib.hid hn9
            clear ho mc bc hr9 hn9
            go_wp2_with fail
            go_loopw [134] (fun i2 wi => ∃ k2 : Nat, k2 ≤ n9 ∧ i2 = .int .i64 k2 ∧ Below wc.heap.size wc wi) (fun i2 _ => n9 - (intOf i2).toNat)
            case atStart => exact ⟨0, by omega, rfl, Below.refl _ _⟩
            case round =>
              obtain ⟨k2, hk2, rfl, hbi⟩ := hrel
              have HBI := Lib.hid hbi
              clear hbi
              by_cases hlt2 : k2 < n9
              · obtain ⟨d, hd⟩ : ∃ d, L1[k2]? = some d := ⟨_, List.getElem?_eq_getElem (by rw [← HN9.out]; exact hlt2)⟩
                obtain ⟨d0, d1⟩ := d
                obtain ⟨b9, o9, hA9, hl9b, y0, y1⟩ := (HR9.out.below HBI.out).at_ k2 _ hd
                dsimp only at y0 y1
                have hj0 : (0 : Int) ≤ k2 := by omega
                have hj1 : (k2 : Int) < (n9 : Int) := by omega
                have hbd := HBI.out.alloc HBI.out.size (.cells #[.int .i64 d0, .int .u64 d1] 39)
                have hqd := QBox.new wr 39 #[.int .i64 d0, .int .u64 d1]
                have HDD := Lib.hid hd
                clear hd
                subst hA9
                go_wp2_with fail
                generalize wr.alloc (.cells #[.int .i64 d0, .int .u64 d1] 39) = WD at *
                refine (mine_all (HBOc.out.on hbd).m hT hg).mono ?_
                rintro e we ⟨ve, rfl, hoe, me, be⟩
                obtain ⟨Ae, ce, rfl, hre⟩ := hoe.row
                obtain ⟨be1, oe, rfl, hle, e0, e1⟩ := hre.at_ k2 _ HDD.out
                have hcape := hre.cap
                rw [← HN9.out] at hcape hoe ⊢
                dsimp only at e0 e1
                have hfe := own_frozen hoe
                have hge := hoe.from_ rfl
                have HBE := Lib.hid (hbd.trans (be.mono hbd.size))
                have HGE := Lib.hid (show wc.heap.size ≤ be1 from Nat.le_trans hbd.size hge)
                obtain ⟨f0, f1, _, _⟩ := (hqd.belowAll be).two
                have hff := hfe (oe + k2 * 2 + 1)
                clear hbd hqd me be hre hoe y0 y1 hge hfe
                go_wp2_with fail
                go_region
                go_wp2_with fail
                go_roundw
                case rel => exact ⟨k2 + 1, by omega, by go_num, (HBE.out.setCell (p := ⟨be1, oe + k2 * 2 + 1, none⟩) HGE.out _).drew⟩
                case measure => simp [intOf]; omega
              · go_wp2_with fail
                go_roundw
                case rel => exact ⟨k + 1, T1, L1, A2, c2, by omega, by go_num, HBOc.out.on HBI.out⟩
                case measure => simp [intOf]; omega
          · go_wp2_with fail
            refine (mine_put (u, xn) HXL.out.1 HBO5.out.m hT hg).mono ?_
            rintro e w6 ⟨rfl, m6, o6⟩
            obtain ⟨er, her⟩ : ∃ er, putE t l (u, xn) = er := ⟨_, rfl⟩
            rw [her]
            have HER := Lib.hid her
            have HM6 := Lib.hid m6; have HO6 := Lib.hid o6
            have HQ6 := Lib.hid (HBO5.out.q.onlyP o6 hgp); have HR6 := Lib.hid (HBO5.out.r.onlyP o6 HBO5.out.op); have HX6 := Lib.hid (HX5.out.onlyP o6 hxp)
            clear her m6 o6 q0 q1 q2 q3 z0 z2
            obtain ⟨q0, q1, q2, q3⟩ := HQ6.out.two
            have z2 := HX6.out.cell 2
            go_wp2_with fail
            refine (rput_any t A l.length c l (u, xn) _ HR6.out HBO5.out.m.wh.right.len).mono ?_
            rintro e w7 ⟨A2, c2, rfl, hr7, hb7, hn7⟩
            rw [HER.out]
            obtain ⟨L1, hl'⟩ : ∃ l', putQ t l (u, xn) = l' := ⟨_, rfl⟩
            rw [hl'] at hr7 HM6 ⊢
            obtain ⟨T1, ht'⟩ : ∃ t', t = t' := ⟨_, rfl⟩
            rw [ht'] at HM6 ⊢
            have HX7 := Lib.hid (box_sets (v := .int .i64 T1) (v' := .slice A2 L1.length c2) (HX6.out.belowAll hb7) hxg)
            have HBO7 := Lib.hid (HBO5.out.step HS2.out hgw.out HM6.out HO6.out hb7 hr7 hn7)
            have hq7 := HQ6.out.belowAll hb7
            have z7 := (HX6.out.belowAll hb7).cell 2
            clear q0 q1 q2 q3 z2
            obtain ⟨q0, q1, q2, q3⟩ := hq7.two
            clear hb7 hn7 hr7 hl' ht' hq7
            unfold wheelV
            go_wp2_with fail
            generalize hW8 : (w7.setCell ⟨g, 0, none⟩ (.int .i64 T1)).setCell ⟨g, 1, none⟩ (.slice A2 L1.length c2) = W8 at *
            have HBO8 := HBO7; have HX8 := HX7
            clear HBO7 HX7 q0 q1 q2 q3 z7 hW8
            obtain ⟨q0, q1, q2, q3⟩ := HBO8.out.q.two
            have z2 := HX8.out.cell 2
            have HXc := HX8.out.cell 2
            obtain ⟨v0, v1, hv⟩ := placeA_case T1 L1 xn
            have HV := Lib.hid hv
            clear hv
            refine (mine_place xn HBO8.out.m hT hg).mono ?_
            rintro e w9 ⟨rfl, m9, b9⟩
            rw [HV.out]
            obtain ⟨bb9, hbb9⟩ : ∃ b, hasQ xn L1 = b := ⟨_, rfl⟩
            rw [hbb9]
            have HH9 := Lib.hid hbb9
            have HBO9 := Lib.hid (HBO8.out.on b9)
            have HX9 := Lib.hid (HX8.out.belowAll b9)
            clear hbb9 m9 b9 q0 q1 q2 q3 z2 HXc
            obtain ⟨q0, q1, q2, q3⟩ := HBO9.out.q.two
            go_wp2_with fail
            refine (HBO9.out.fit hT hg).mono ?_
            rintro e wa ⟨rfl, ba, bba⟩
            have HBOa := Lib.hid ba
            have HXa := Lib.hid (HX9.out.belowAll bba)
            clear ba bba q0 q1 q2 q3
            obtain ⟨q0, q1, q2, q3⟩ := HBOa.out.q.two
            go_wp2_with fail
            refine (contains_any9 A2 L1.length c2 wr.heap.size xn L1 _ HBOa.out.r HXa.out.lt (HXa.out.cell 2)).mono ?_
            rintro e wb ⟨rfl, bb0⟩
            rw [HH9.out]
            have HBOb := Lib.hid (HBOa.out.on bb0)
            clear bb0 q0 q1 q2 q3
            go_wp2_with fail
            refine (mine_all HBOb.out.m hT hg).mono ?_
            rintro e wc ⟨v, rfl, ho, mc, bc⟩
            obtain ⟨A9, c9, rfl, hr9⟩ := ho.row
            have HBOc := Lib.hid (HBOb.out.on bc)
            have HR9 := Lib.hid hr9
            have hcap9 := hr9.cap
            have hl9 := HBOb.out.m.wh.right.len
            obtain ⟨n9, hn9⟩ : ∃ n, n = L1.length := ⟨_, rfl⟩
            rw [← hn9] at hr9 HR9 hcap9 hl9 ⊢
            have HN9 := Lib.hid hn9
            clear ho mc bc hr9 hn9
            go_wp2_with fail
            go_loopw [134] (fun i2 wi => ∃ k2 : Nat, k2 ≤ n9 ∧ i2 = .int .i64 k2 ∧ Below wc.heap.size wc wi) (fun i2 _ => n9 - (intOf i2).toNat)
            case atStart => exact ⟨0, by omega, rfl, Below.refl _ _⟩
            case round =>
              obtain ⟨k2, hk2, rfl, hbi⟩ := hrel
              have HBI := Lib.hid hbi
              clear hbi
              by_cases hlt2 : k2 < n9
              · obtain ⟨d, hd⟩ : ∃ d, L1[k2]? = some d := ⟨_, List.getElem?_eq_getElem (by rw [← HN9.out]; exact hlt2)⟩
                obtain ⟨d0, d1⟩ := d
                obtain ⟨b9, o9, hA9, hl9b, y0, y1⟩ := (HR9.out.below HBI.out).at_ k2 _ hd
                dsimp only at y0 y1
                have hj0 : (0 : Int) ≤ k2 := by omega
                have hj1 : (k2 : Int) < (n9 : Int) := by omega
                have hbd := HBI.out.alloc HBI.out.size (.cells #[.int .i64 d0, .int .u64 d1] 39)
                have hqd := QBox.new wr 39 #[.int .i64 d0, .int .u64 d1]
                have HDD := Lib.hid hd
                clear hd
                subst hA9
                go_wp2_with fail
                generalize wr.alloc (.cells #[.int .i64 d0, .int .u64 d1] 39) = WD at *
                refine (mine_all (HBOc.out.on hbd).m hT hg).mono ?_
                rintro e we ⟨ve, rfl, hoe, me, be⟩
                obtain ⟨Ae, ce, rfl, hre⟩ := hoe.row
                obtain ⟨be1, oe, rfl, hle, e0, e1⟩ := hre.at_ k2 _ HDD.out
                have hcape := hre.cap
                rw [← HN9.out] at hcape hoe ⊢
                dsimp only at e0 e1
                have hfe := own_frozen hoe
                have hge := hoe.from_ rfl
                have HBE := Lib.hid (hbd.trans (be.mono hbd.size))
                have HGE := Lib.hid (show wc.heap.size ≤ be1 from Nat.le_trans hbd.size hge)
                obtain ⟨f0, f1, _, _⟩ := (hqd.belowAll be).two
                have hff := hfe (oe + k2 * 2 + 1)
                clear hbd hqd me be hre hoe y0 y1 hge hfe
                go_wp2_with fail
                go_region
                go_wp2_with fail
                go_roundw
                case rel => exact ⟨k2 + 1, by omega, by go_num, (HBE.out.setCell (p := ⟨be1, oe + k2 * 2 + 1, none⟩) HGE.out _).drew⟩
                case measure => simp [intOf]; omega
              · go_wp2_with fail
                go_roundw
                case rel => exact ⟨k + 1, T1, L1, A2, c2, by omega, by go_num, HBOc.out.on HBI.out⟩
                case measure => simp [intOf]; omega
          · go_wp2_with fail
            refine (mine_cut xn HBO5.out.m hT hg).mono ?_
            rintro e w6 ⟨rfl, m6, o6⟩
            obtain ⟨er, her⟩ : ∃ er : Int, (if hasQ xn l = true then 0 else 4) = er := ⟨_, rfl⟩
            rw [her]
            have HER := Lib.hid her
            have HM6 := Lib.hid m6; have HO6 := Lib.hid o6
            have HQ6 := Lib.hid (HBO5.out.q.onlyP o6 hgp); have HR6 := Lib.hid (HBO5.out.r.onlyP o6 HBO5.out.op); have HX6 := Lib.hid (HX5.out.onlyP o6 hxp)
            clear her m6 o6 q0 q1 q2 q3 z0 z2
            obtain ⟨q0, q1, q2, q3⟩ := HQ6.out.two
            have z2 := HX6.out.cell 2
            go_wp2_with fail
            refine (rcut_any t A l.length c l xn _ HR6.out HBO5.out.m.wh.right.len).mono ?_
            rintro e w7 ⟨A2, c2, rfl, hr7, hb7, hn7⟩
            rw [HER.out]
            obtain ⟨L1, hl'⟩ : ∃ l', cutQ xn l = l' := ⟨_, rfl⟩
            rw [hl'] at hr7 HM6 ⊢
            obtain ⟨T1, ht'⟩ : ∃ t', t = t' := ⟨_, rfl⟩
            rw [ht'] at HM6 ⊢
            have HX7 := Lib.hid (box_sets (v := .int .i64 T1) (v' := .slice A2 L1.length c2) (HX6.out.belowAll hb7) hxg)
            have HBO7 := Lib.hid (HBO5.out.step HS2.out hgw.out HM6.out HO6.out hb7 hr7 hn7)
            have hq7 := HQ6.out.belowAll hb7
            have z7 := (HX6.out.belowAll hb7).cell 2
            clear q0 q1 q2 q3 z2
            obtain ⟨q0, q1, q2, q3⟩ := hq7.two
            clear hb7 hn7 hr7 hl' ht' hq7
            unfold wheelV
            go_wp2_with fail
            generalize hW8 : (w7.setCell ⟨g, 0, none⟩ (.int .i64 T1)).setCell ⟨g, 1, none⟩ (.slice A2 L1.length c2) = W8 at *
            have HBO8 := HBO7; have HX8 := HX7
            clear HBO7 HX7 q0 q1 q2 q3 z7 hW8
            obtain ⟨q0, q1, q2, q3⟩ := HBO8.out.q.two
            have z2 := HX8.out.cell 2
            have HXc := HX8.out.cell 2
            obtain ⟨v0, v1, hv⟩ := placeA_case T1 L1 xn
            have HV := Lib.hid hv
            clear hv
            refine (mine_place xn HBO8.out.m hT hg).mono ?_
            rintro e w9 ⟨rfl, m9, b9⟩
            rw [HV.out]
            obtain ⟨bb9, hbb9⟩ : ∃ b, hasQ xn L1 = b := ⟨_, rfl⟩
            rw [hbb9]
            have HH9 := Lib.hid hbb9
            have HBO9 := Lib.hid (HBO8.out.on b9)
            have HX9 := Lib.hid (HX8.out.belowAll b9)
            clear hbb9 m9 b9 q0 q1 q2 q3 z2 HXc
            obtain ⟨q0, q1, q2, q3⟩ := HBO9.out.q.two
            go_wp2_with fail
            refine (HBO9.out.fit hT hg).mono ?_
            rintro e wa ⟨rfl, ba, bba⟩
            have HBOa := Lib.hid ba
            have HXa := Lib.hid (HX9.out.belowAll bba)
            clear ba bba q0 q1 q2 q3
            obtain ⟨q0, q1, q2, q3⟩ := HBOa.out.q.two
            go_wp2_with fail
            refine (contains_any9 A2 L1.length c2 wr.heap.size xn L1 _ HBOa.out.r HXa.out.lt (HXa.out.cell 2)).mono ?_
            rintro e wb ⟨rfl, bb0⟩
            rw [HH9.out]
            have HBOb := Lib.hid (HBOa.out.on bb0)
            clear bb0 q0 q1 q2 q3
            go_wp2_with fail
            refine (mine_all HBOb.out.m hT hg).mono ?_
            rintro e wc ⟨v, rfl, ho, mc, bc⟩
            obtain ⟨A9, c9, rfl, hr9⟩ := ho.row
            have HBOc := Lib.hid (HBOb.out.on bc)
            have HR9 := Lib.hid hr9
            have hcap9 := hr9.cap
            have hl9 := HBOb.out.m.wh.right.len
            obtain ⟨n9, hn9⟩ : ∃ n, n = L1.length := ⟨_, rfl⟩
            rw [← hn9] at hr9 HR9 hcap9 hl9 ⊢
            have HN9 := Lib.hid hn9
            clear ho mc bc hr9 hn9
            go_wp2_with fail
            go_loopw [134] (fun i2 wi => ∃ k2 : Nat, k2 ≤ n9 ∧ i2 = .int .i64 k2 ∧ Below wc.heap.size wc wi) (fun i2 _ => n9 - (intOf i2).toNat)
            case atStart => exact ⟨0, by omega, rfl, Below.refl _ _⟩
            case round =>
              obtain ⟨k2, hk2, rfl, hbi⟩ := hrel
              have HBI := Lib.hid hbi
              clear hbi
              by_cases hlt2 : k2 < n9
              · obtain ⟨d, hd⟩ : ∃ d, L1[k2]? = some d := ⟨_, List.getElem?_eq_getElem (by rw [← HN9.out]; exact hlt2)⟩
                obtain ⟨d0, d1⟩ := d
                obtain ⟨b9, o9, hA9, hl9b, y0, y1⟩ := (HR9.out.below HBI.out).at_ k2 _ hd
                dsimp only at y0 y1
                have hj0 : (0 : Int) ≤ k2 := by omega
                have hj1 : (k2 : Int) < (n9 : Int) := by omega
                have hbd := HBI.out.alloc HBI.out.size (.cells #[.int .i64 d0, .int .u64 d1] 39)
                have hqd := QBox.new wr 39 #[.int .i64 d0, .int .u64 d1]
                have HDD := Lib.hid hd
                clear hd
                subst hA9
                go_wp2_with fail
                generalize wr.alloc (.cells #[.int .i64 d0, .int .u64 d1] 39) = WD at *
                refine (mine_all (HBOc.out.on hbd).m hT hg).mono ?_
                rintro e we ⟨ve, rfl, hoe, me, be⟩
                obtain ⟨Ae, ce, rfl, hre⟩ := hoe.row
                obtain ⟨be1, oe, rfl, hle, e0, e1⟩ := hre.at_ k2 _ HDD.out
                have hcape := hre.cap
                rw [← HN9.out] at hcape hoe ⊢
                dsimp only at e0 e1
                have hfe := own_frozen hoe
                have hge := hoe.from_ rfl
                have HBE := Lib.hid (hbd.trans (be.mono hbd.size))
                have HGE := Lib.hid (show wc.heap.size ≤ be1 from Nat.le_trans hbd.size hge)
                obtain ⟨f0, f1, _, _⟩ := (hqd.belowAll be).two
                have hff := hfe (oe + k2 * 2 + 1)
                clear hbd hqd me be hre hoe y0 y1 hge hfe
                go_wp2_with fail
                go_region
                go_wp2_with fail
                go_roundw
                case rel => exact ⟨k2 + 1, by omega, by go_num, (HBE.out.setCell (p := ⟨be1, oe + k2 * 2 + 1, none⟩) HGE.out _).drew⟩
                case measure => simp [intOf]; omega
              · go_wp2_with fail
                go_roundw
                case rel => exact ⟨k + 1, T1, L1, A2, c2, by omega, by go_num, HBOc.out.on HBI.out⟩
                case measure => simp [intOf]; omega
          · by_cases htu : t ≤ u ∧ u ≤ topQ
            · have HTU := Lib.hid htu
              clear htu
              go_wp2_with fail
              refine (mine_turn u HBO5.out.m HTU.out.1 HTU.out.2 hT hg).mono ?_
              rintro e w6 ⟨⟨v6, rfl, ho6⟩, m6, o6⟩
              have hgl5 := HBO5.out.q.lt
              have HOF := Lib.hid (show ∀ A n c, v6 = .slice A n c → OffP g A from fun A n c e b o s e2 => by subst e; have := ho6.from_ e2; omega)
              obtain ⟨A6, c6, rfl, hr6⟩ := ho6.row
              have HR66 := Lib.hid hr6
              have HM6 := Lib.hid m6; have HO6 := Lib.hid o6
              have HQ6 := Lib.hid (HBO5.out.q.onlyP o6 hgp); have HR6 := Lib.hid (HBO5.out.r.onlyP o6 HBO5.out.op); have HX6 := Lib.hid (HX5.out.onlyP o6 hxp)
              clear hr6 ho6 m6 o6 q0 q1 q2 q3 z0 z2
              obtain ⟨q0, q1, q2, q3⟩ := HQ6.out.two
              have z2 := HX6.out.cell 2
              go_wp2_with fail
              refine (rturn_yes t u A l.length c l _ HR6.out HBO5.out.m.wh.right.len HTU.out.1 ⟨by have := HT.out.1; have := HTU.out.1; omega, HTU.out.2⟩).mono ?_
              rintro e w7 ⟨A2, c2, A7, c7, rfl, hr7, hr77, hb7, hn7, hn77⟩
              obtain ⟨L1, hl'⟩ : ∃ l', leftQ u l = l' := ⟨_, rfl⟩
              obtain ⟨D1, hd1⟩ : ∃ d', dueQ u l = d' := ⟨_, rfl⟩
              rw [hd1] at hr77 HR66 ⊢
              rw [hl'] at hr7 HM6 ⊢
              obtain ⟨T1, ht'⟩ : ∃ t', u = t' := ⟨_, rfl⟩
              have HD6 := Lib.hid (((HR66.out.below hb7).mono hb7.size).onlyP (Only.set2 (p := g) _ 0 1 (.int .i64 T1) (.slice A2 L1.length c2)) (HOF.out _ _ _ rfl))
              have HD7 := Lib.hid (hr77.onlyP (Only.set2 (p := g) _ 0 1 (.int .i64 T1) (.slice A2 L1.length c2)) (hn77.off HQ6.out.lt))
              clear hr77 hd1 hn77
              rw [ht'] at HM6 ⊢
              have HX7 := Lib.hid (box_sets (v := .int .i64 T1) (v' := .slice A2 L1.length c2) (HX6.out.belowAll hb7) hxg)
              have HBO7 := Lib.hid (HBO5.out.step HS2.out hgw.out HM6.out HO6.out hb7 hr7 hn7)
              have hq7 := HQ6.out.belowAll hb7
              have z7 := (HX6.out.belowAll hb7).cell 2
              clear q0 q1 q2 q3 z2
              obtain ⟨q0, q1, q2, q3⟩ := hq7.two
              clear hb7 hn7 hr7 hl' ht' hq7
              unfold wheelV
              go_wp2_with fail
              generalize hW8 : (w7.setCell ⟨g, 0, none⟩ (.int .i64 T1)).setCell ⟨g, 1, none⟩ (.slice A2 L1.length c2) = W8 at *
              have HBO8 := HBO7; have HX8 := HX7
              clear HBO7 HX7 q0 q1 q2 q3 z7 hW8
              obtain ⟨q0, q1, q2, q3⟩ := HBO8.out.q.two
              have z2 := HX8.out.cell 2
              refine (equal_dues A6 A7 D1.length c6 c7 _ _ D1 _ HD6.out HD7.out).mono ?_
              rintro e w8 ⟨rfl, q8, rfl⟩
              replace HBO8 := Lib.hid (HBO8.out.on (w' := W8.drewN q8) ⟨rfl, rfl, rfl, Nat.le_refl _, fun _ _ => rfl⟩)
              replace HX8 := Lib.hid (HX8.out.belowAll (w' := W8.drewN q8) ⟨rfl, rfl, rfl, Nat.le_refl _, fun _ _ => rfl⟩)
              obtain ⟨er, her⟩ : ∃ er : Int, (0 : Int) = er := ⟨_, rfl⟩
              clear her HD6 HD7 q0 q1 q2 q3 z2
              generalize W8.drewN q8 = W9 at *
              obtain ⟨q0, q1, q2, q3⟩ := HBO8.out.q.two
              have z2 := HX8.out.cell 2
              go_wp2_with fail
              have HXc := HX8.out.cell 2
              obtain ⟨v0, v1, hv⟩ := placeA_case T1 L1 xn
              have HV := Lib.hid hv
              clear hv
              refine (mine_place xn HBO8.out.m hT hg).mono ?_
              rintro e w9 ⟨rfl, m9, b9⟩
              rw [HV.out]
              obtain ⟨bb9, hbb9⟩ : ∃ b, hasQ xn L1 = b := ⟨_, rfl⟩
              rw [hbb9]
              have HH9 := Lib.hid hbb9
              have HBO9 := Lib.hid (HBO8.out.on b9)
              have HX9 := Lib.hid (HX8.out.belowAll b9)
              clear hbb9 m9 b9 q0 q1 q2 q3 z2 HXc
              obtain ⟨q0, q1, q2, q3⟩ := HBO9.out.q.two
              go_wp2_with fail
              refine (HBO9.out.fit hT hg).mono ?_
              rintro e wa ⟨rfl, ba, bba⟩
              have HBOa := Lib.hid ba
              have HXa := Lib.hid (HX9.out.belowAll bba)
              clear ba bba q0 q1 q2 q3
              obtain ⟨q0, q1, q2, q3⟩ := HBOa.out.q.two
              go_wp2_with fail
              refine (contains_any9 A2 L1.length c2 wr.heap.size xn L1 _ HBOa.out.r HXa.out.lt (HXa.out.cell 2)).mono ?_
              rintro e wb ⟨rfl, bb0⟩
              rw [HH9.out]
              have HBOb := Lib.hid (HBOa.out.on bb0)
              clear bb0 q0 q1 q2 q3
              go_wp2_with fail
              refine (mine_all HBOb.out.m hT hg).mono ?_
              rintro e wc ⟨v, rfl, ho, mc, bc⟩
              obtain ⟨A9, c9, rfl, hr9⟩ := ho.row
              have HBOc := Lib.hid (HBOb.out.on bc)
              have HR9 := Lib.hid hr9
              have hcap9 := hr9.cap
              have hl9 := HBOb.out.m.wh.right.len
              obtain ⟨n9, hn9⟩ : ∃ n, n = L1.length := ⟨_, rfl⟩
              rw [← hn9] at hr9 HR9 hcap9 hl9 ⊢
              have HN9 := Lib.hid hn9
              clear ho mc bc hr9 hn9
              go_wp2_with fail
              go_loopw [134] (fun i2 wi => ∃ k2 : Nat, k2 ≤ n9 ∧ i2 = .int .i64 k2 ∧ Below wc.heap.size wc wi) (fun i2 _ => n9 - (intOf i2).toNat)
              case atStart => exact ⟨0, by omega, rfl, Below.refl _ _⟩
              case round =>
                obtain ⟨k2, hk2, rfl, hbi⟩ := hrel
                have HBI := Lib.hid hbi
                clear hbi
                by_cases hlt2 : k2 < n9
                · obtain ⟨d, hd⟩ : ∃ d, L1[k2]? = some d := ⟨_, List.getElem?_eq_getElem (by rw [← HN9.out]; exact hlt2)⟩
                  obtain ⟨d0, d1⟩ := d
                  obtain ⟨b9, o9, hA9, hl9b, y0, y1⟩ := (HR9.out.below HBI.out).at_ k2 _ hd
                  dsimp only at y0 y1
                  have hj0 : (0 : Int) ≤ k2 := by omega
                  have hj1 : (k2 : Int) < (n9 : Int) := by omega
                  have hbd := HBI.out.alloc HBI.out.size (.cells #[.int .i64 d0, .int .u64 d1] 39)
                  have hqd := QBox.new wr 39 #[.int .i64 d0, .int .u64 d1]
                  have HDD := Lib.hid hd
                  clear hd
                  subst hA9
                  go_wp2_with fail
                  generalize wr.alloc (.cells #[.int .i64 d0, .int .u64 d1] 39) = WD at *
                  refine (mine_all (HBOc.out.on hbd).m hT hg).mono ?_
                  rintro e we ⟨ve, rfl, hoe, me, be⟩
                  obtain ⟨Ae, ce, rfl, hre⟩ := hoe.row
                  obtain ⟨be1, oe, rfl, hle, e0, e1⟩ := hre.at_ k2 _ HDD.out
                  have hcape := hre.cap
                  rw [← HN9.out] at hcape hoe ⊢
                  dsimp only at e0 e1
                  have hfe := own_frozen hoe
                  have hge := hoe.from_ rfl
                  have HBE := Lib.hid (hbd.trans (be.mono hbd.size))
                  have HGE := Lib.hid (show wc.heap.size ≤ be1 from Nat.le_trans hbd.size hge)
                  obtain ⟨f0, f1, _, _⟩ := (hqd.belowAll be).two
                  have hff := hfe (oe + k2 * 2 + 1)
                  clear hbd hqd me be hre hoe y0 y1 hge hfe
                  go_wp2_with fail
                  go_region
                  go_wp2_with fail
                  go_roundw
                  case rel => exact ⟨k2 + 1, by omega, by go_num, (HBE.out.setCell (p := ⟨be1, oe + k2 * 2 + 1, none⟩) HGE.out _).drew⟩
                  case measure => simp [intOf]; omega
                · go_wp2_with fail
                  go_roundw
                  case rel => exact ⟨k + 1, T1, L1, A2, c2, by omega, by go_num, HBOc.out.on HBI.out⟩
                  case measure => simp [intOf]; omega
            · have HTU := Lib.hid (show u < t ∨ topQ < u by omega)
              clear htu
              go_wp2_with fail
              refine (mine_turn_no u HBO5.out.m HTU.out).mono ?_
              rintro e w6 ⟨rfl, m6, b6⟩
              have HM6 := Lib.hid m6; have HO6 := Lib.hid (Only.of (p := p) b6)
              have HQ6 := Lib.hid (HBO5.out.q.belowAll b6); have HR6 := Lib.hid ((HBO5.out.r.below b6).mono b6.size); have HX6 := Lib.hid (HX5.out.belowAll b6)
              clear m6 b6 q0 q1 q2 q3 z0 z2
              obtain ⟨q0, q1, q2, q3⟩ := HQ6.out.two
              have z2 := HX6.out.cell 2
              go_wp2_with fail
              refine (rturn_no t u A l.length c l _ HR6.out (HTU.out.imp id fun h h2 => by have := h2.2; omega)).mono ?_
              rintro e w7 ⟨rfl, hr7, hb7⟩
              have hn7 : NewRow w6.heap.size A A := .inl rfl
              obtain ⟨A2, hA2⟩ : ∃ A2, A = A2 := ⟨_, rfl⟩
              obtain ⟨c2, hc2⟩ : ∃ c2, c = c2 := ⟨_, rfl⟩
              obtain ⟨L1, hl'⟩ : ∃ l', l = l' := ⟨_, rfl⟩
              have hn7 : NewRow w6.heap.size A2 A := hA2 ▸ .inl rfl
              have hr7 : DuesR w7 w7.heap.size A2 L1.length c2 L1 := by rw [← hA2, ← hc2, ← hl']; exact hr7
              have HM6 : Hid (Mine w w6 p t L1) := Lib.hid (by rw [← hl']; exact HM6.out)
              rw [show wheelV t A l.length c = wheelV t A2 L1.length c2 by rw [hA2, hc2, hl']]
              clear hA2 hc2
              obtain ⟨T1, ht'⟩ : ∃ t', t = t' := ⟨_, rfl⟩
              rw [ht'] at HM6 ⊢
              have HX7 := Lib.hid (box_sets (v := .int .i64 T1) (v' := .slice A2 L1.length c2) (HX6.out.belowAll hb7) hxg)
              have HBO7 := Lib.hid (HBO5.out.step HS2.out hgw.out HM6.out HO6.out hb7 hr7 hn7)
              have hq7 := HQ6.out.belowAll hb7
              have z7 := (HX6.out.belowAll hb7).cell 2
              clear q0 q1 q2 q3 z2
              obtain ⟨q0, q1, q2, q3⟩ := hq7.two
              clear hb7 hn7 hr7 hl' ht' hq7
              unfold wheelV
              go_wp2_with fail
              generalize hW8 : (w7.setCell ⟨g, 0, none⟩ (.int .i64 T1)).setCell ⟨g, 1, none⟩ (.slice A2 L1.length c2) = W8 at *
              have HBO8 := HBO7; have HX8 := HX7
              clear HBO7 HX7 q0 q1 q2 q3 z7 hW8
              obtain ⟨q0, q1, q2, q3⟩ := HBO8.out.q.two
              have z2 := HX8.out.cell 2
              refine (equal_dues none none 0 0 0 0 0 [] _ (.none_ _ _) (.none_ _ _)).mono ?_
              rintro e w8 ⟨rfl, q8, rfl⟩
              replace HBO8 := Lib.hid (HBO8.out.on (w' := W8.drewN q8) ⟨rfl, rfl, rfl, Nat.le_refl _, fun _ _ => rfl⟩)
              replace HX8 := Lib.hid (HX8.out.belowAll (w' := W8.drewN q8) ⟨rfl, rfl, rfl, Nat.le_refl _, fun _ _ => rfl⟩)
              clear q0 q1 q2 q3 z2
              generalize W8.drewN q8 = W9 at *
              obtain ⟨q0, q1, q2, q3⟩ := HBO8.out.q.two
              have z2 := HX8.out.cell 2
              go_wp2_with fail
              have HXc := HX8.out.cell 2
              obtain ⟨v0, v1, hv⟩ := placeA_case T1 L1 xn
              have HV := Lib.hid hv
              clear hv
              refine (mine_place xn HBO8.out.m hT hg).mono ?_
              rintro e w9 ⟨rfl, m9, b9⟩
              rw [HV.out]
              obtain ⟨bb9, hbb9⟩ : ∃ b, hasQ xn L1 = b := ⟨_, rfl⟩
              rw [hbb9]
              have HH9 := Lib.hid hbb9
              have HBO9 := Lib.hid (HBO8.out.on b9)
              have HX9 := Lib.hid (HX8.out.belowAll b9)
              clear hbb9 m9 b9 q0 q1 q2 q3 z2 HXc
              obtain ⟨q0, q1, q2, q3⟩ := HBO9.out.q.two
              go_wp2_with fail
              refine (HBO9.out.fit hT hg).mono ?_
              rintro e wa ⟨rfl, ba, bba⟩
              have HBOa := Lib.hid ba
              have HXa := Lib.hid (HX9.out.belowAll bba)
              clear ba bba q0 q1 q2 q3
              obtain ⟨q0, q1, q2, q3⟩ := HBOa.out.q.two
              go_wp2_with fail
              refine (contains_any9 A2 L1.length c2 wr.heap.size xn L1 _ HBOa.out.r HXa.out.lt (HXa.out.cell 2)).mono ?_
              rintro e wb ⟨rfl, bb0⟩
              rw [HH9.out]
              have HBOb := Lib.hid (HBOa.out.on bb0)
              clear bb0 q0 q1 q2 q3
              go_wp2_with fail
              refine (mine_all HBOb.out.m hT hg).mono ?_
              rintro e wc ⟨v, rfl, ho, mc, bc⟩
              obtain ⟨A9, c9, rfl, hr9⟩ := ho.row
              have HBOc := Lib.hid (HBOb.out.on bc)
              have HR9 := Lib.hid hr9
              have hcap9 := hr9.cap
              have hl9 := HBOb.out.m.wh.right.len
              obtain ⟨n9, hn9⟩ : ∃ n, n = L1.length := ⟨_, rfl⟩
              rw [← hn9] at hr9 HR9 hcap9 hl9 ⊢
              have HN9 := Lib.hid hn9
              clear ho mc bc hr9 hn9
              go_wp2_with fail
              go_loopw [134] (fun i2 wi => ∃ k2 : Nat, k2 ≤ n9 ∧ i2 = .int .i64 k2 ∧ Below wc.heap.size wc wi) (fun i2 _ => n9 - (intOf i2).toNat)
              case atStart => exact ⟨0, by omega, rfl, Below.refl _ _⟩
              case round =>
                obtain ⟨k2, hk2, rfl, hbi⟩ := hrel
                have HBI := Lib.hid hbi
                clear hbi
                by_cases hlt2 : k2 < n9
                · obtain ⟨d, hd⟩ : ∃ d, L1[k2]? = some d := ⟨_, List.getElem?_eq_getElem (by rw [← HN9.out]; exact hlt2)⟩
                  obtain ⟨d0, d1⟩ := d
                  obtain ⟨b9, o9, hA9, hl9b, y0, y1⟩ := (HR9.out.below HBI.out).at_ k2 _ hd
                  dsimp only at y0 y1
                  have hj0 : (0 : Int) ≤ k2 := by omega
                  have hj1 : (k2 : Int) < (n9 : Int) := by omega
                  have hbd := HBI.out.alloc HBI.out.size (.cells #[.int .i64 d0, .int .u64 d1] 39)
                  have hqd := QBox.new wr 39 #[.int .i64 d0, .int .u64 d1]
                  have HDD := Lib.hid hd
                  clear hd
                  subst hA9
                  go_wp2_with fail
                  generalize wr.alloc (.cells #[.int .i64 d0, .int .u64 d1] 39) = WD at *
                  refine (mine_all (HBOc.out.on hbd).m hT hg).mono ?_
                  rintro e we ⟨ve, rfl, hoe, me, be⟩
                  obtain ⟨Ae, ce, rfl, hre⟩ := hoe.row
                  obtain ⟨be1, oe, rfl, hle, e0, e1⟩ := hre.at_ k2 _ HDD.out
                  have hcape := hre.cap
                  rw [← HN9.out] at hcape hoe ⊢
                  dsimp only at e0 e1
                  have hfe := own_frozen hoe
                  have hge := hoe.from_ rfl
                  have HBE := Lib.hid (hbd.trans (be.mono hbd.size))
                  have HGE := Lib.hid (show wc.heap.size ≤ be1 from Nat.le_trans hbd.size hge)
                  obtain ⟨f0, f1, _, _⟩ := (hqd.belowAll be).two
                  have hff := hfe (oe + k2 * 2 + 1)
                  clear hbd hqd me be hre hoe y0 y1 hge hfe
                  go_wp2_with fail
                  go_region
                  go_wp2_with fail
                  go_roundw
                  case rel => exact ⟨k2 + 1, by omega, by go_num, (HBE.out.setCell (p := ⟨be1, oe + k2 * 2 + 1, none⟩) HGE.out _).drew⟩
                  case measure => simp [intOf]; omega
                · go_wp2_with fail
                  go_roundw
                  case rel => exact ⟨k + 1, T1, L1, A2, c2, by omega, by go_num, HBOc.out.on HBI.out⟩
                  case measure => simp [intOf]; omega
      · have HBX := HBO
        clear hbo
        go_wp2_with fail
        refine (HBX.out.fit hT hg).mono ?_
        rintro e wz ⟨rfl, bz, _⟩
        have HZ := Lib.hid bz.m.b
        clear bz
        go_wp2_with fail
        go_ret
        exact ⟨rfl, HZ.out⟩
  · have HTQ := Lib.hid ht
    have hd := decide_eq_false ht
    have HD := Lib.hid hd
    clear ht hd
    go_wp2_with fail
    refine (new_no a w1 HTQ.out).mono ?_
    rintro e w2 ⟨rfl, q, rfl⟩
    go_wp2_with fail
    refine (rtime_any a _).mono ?_
    rintro e w3 ⟨rfl, rfl⟩
    rw [HD.out]
    go_wp2_with fail
    go_ret
    exact ⟨rfl, HB1.out.os, HB1.out.tape, HB1.out.output, HB1.out.size, HB1.out.block⟩
end Go.Proofs.YtidgiohjgkfjcaaDoor
