/- WheelOrder: walked. -/
import Derived.Test.YtidgiohjgkfjcaaDoorQOrdE
import Derived.Test.YtidgiohjgkfjcaaDoorQOrdF
import Derived.Test.YtidgiohjgkfjcaaDoorQHolds
import Derived.Test.YtidgiohjgkfjcaaDoorQOpen
namespace Go.Proofs.YtidgiohjgkfjcaaDoor
open Go.RowKit

/-- The row of dues of distinct numbers, and the number's box. -/
structure OwnS (w wr : World) (B0 gx : Nat) (cut : Int) (v : Value) (m : List (Int × Int)) : Prop where
  own : OwnD wr B0 v m
  box : QBox wr gx 32 #[.int .u64 cut]
  low : Below w.heap.size w wr
  size : B0 ≤ wr.heap.size
  num : m.Pairwise (fun a b => a.2 ≠ b.2)
  pos : ∀ d ∈ m, 0 ≤ d.2
  nil : m = [] → v = .slice none 0 0
theorem OwnS.on {w wr w' : World} {B0 gx : Nat} {cut : Int} {v : Value} {m : List (Int × Int)} (h : OwnS w wr B0 gx cut v m) (hb : Below wr.heap.size wr w') : OwnS w w' B0 gx cut v m :=
  ⟨h.own.below hb, h.box.belowAll hb, h.low.trans (hb.mono h.low.size), Nat.le_trans h.size hb.size, h.num, h.pos, h.nil⟩
theorem OwnS.add {w wr w' : World} {B0 gx : Nat} {cut : Int} {v v' : Value} {m : List (Int × Int)} {d : Int × Int} (h : OwnS w wr B0 gx cut v m) (hgx : gx < B0) (hwB : w.heap.size ≤ B0) (ho : OwnD w' B0 v' (m ++ [d])) (hg : wr.grownBy w' v.ownBlock) (hd : 0 ≤ d.2) (hn : hasQ d.2 m = false) : OwnS w w' B0 gx cut v' (m ++ [d]) := by
  have hb : Below B0 wr w' := (Below.refl B0 wr).grown hg h.size (fun k e => (World.ownsRow.lt h.own k e).1)
  refine ⟨ho, h.box.below hb hgx, h.low.trans (hb.mono hwB), Nat.le_trans h.size hg.size, ?_, fun x hx => ?_, fun e => by simp at e⟩
  · refine List.pairwise_append.2 ⟨h.num, List.pairwise_singleton _ _, fun x hx y hy => ?_⟩
    rw [List.mem_singleton] at hy
    subst hy
    intro e
    rw [hasQ_iff.2 ⟨x, hx, e⟩] at hn
    cases hn
  · rcases List.mem_append.1 hx with h1 | h1
    · exact h.pos x h1
    · rw [List.mem_singleton] at h1; subst h1; exact hd
/-- Two wheels beside it. -/
structure TwoS (w wr : World) (B0 gx : Nat) (cut : Int) (v : Value) (m : List (Int × Int)) (pa pb : Nat) (t : Int) (La Lb : List (Int × Int)) : Prop where
  s : OwnS w wr B0 gx cut v m
  a : @Wh (RowsOff v) wr wr.heap.size pa t La
  b : @Wh (RowsOff v) wr wr.heap.size pb t Lb
theorem TwoS.on {w wr w' : World} {B0 gx : Nat} {cut : Int} {v : Value} {m : List (Int × Int)} {pa pb : Nat} {t : Int} {La Lb : List (Int × Int)} (h : TwoS w wr B0 gx cut v m pa pb t La Lb) (hb : Below wr.heap.size wr w') : TwoS w w' B0 gx cut v m pa pb t La Lb :=
  ⟨h.s.on hb, @Wh.on (RowsOff v) _ _ _ _ _ h.a hb, @Wh.on (RowsOff v) _ _ _ _ _ h.b hb⟩
/-- Where the wheels lie. -/
structure FixO (w : World) (B0 gx : Nat) (v : Value) (pa pb : Nat) : Prop where
  gx : gx < B0
  wB : w.heap.size ≤ B0
  wa : B0 ≤ pa
  wb : B0 ≤ pb
  ne : pa ≠ pb
  oa : v.ownBlock ≠ some pa
  ob : v.ownBlock ≠ some pb
theorem TwoS.cut {w wr w' : World} {B0 gx : Nat} {cut : Int} {v : Value} {m : List (Int × Int)} {pa pb : Nat} {t : Int} {La La' Lb : List (Int × Int)} (h : TwoS w wr B0 gx cut v m pa pb t La Lb) (hf : FixO w B0 gx v pa pb) (ha : @Wh (RowsOff v) w' w'.heap.size pa t La') (ho : Only pa wr w') : TwoS w w' B0 gx cut v m pa pb t La' Lb := by
  obtain ⟨cs, hq⟩ := @Wh.box9 (RowsOff v) _ _ _ _ _ h.a
  have h1 := hf.gx; have h2 := hf.wa; have h3 := hf.wB
  exact ⟨⟨h.s.own.offP ho hf.oa, h.s.box.onlyP ho (by omega), ho.drop h.s.low (by omega), Nat.le_trans h.s.size ho.size, h.s.num, h.s.pos, h.s.nil⟩, ha,
    @Wh.mono (RowsOff v) _ _ _ _ _ _ (@Wh.far (RowsOff v) _ _ _ _ _ _ _ _ _ h.b ho (Ne.symm hf.ne) (Nat.le_refl _) hq (by decide)) ho.size⟩
/-- Behind DeleteFunc: the row itself is spent. -/
structure WheS (w wr : World) (B0 gx : Nat) (cut : Int) (v : Value) (pa pb : Nat) (t : Int) (La Lb : List (Int × Int)) : Prop where
  a : @Wh (RowsOff v) wr wr.heap.size pa t La
  b : @Wh (RowsOff v) wr wr.heap.size pb t Lb
  box : QBox wr gx 32 #[.int .u64 cut]
  low : Below w.heap.size w wr
  off : ∀ b, v.ownBlock = some b → b < wr.heap.size
theorem WheS.on {w wr w' : World} {B0 gx : Nat} {cut : Int} {v : Value} {pa pb : Nat} {t : Int} {La Lb : List (Int × Int)} (h : WheS w wr B0 gx cut v pa pb t La Lb) (hb : Below wr.heap.size wr w') : WheS w w' B0 gx cut v pa pb t La Lb :=
  ⟨@Wh.on (RowsOff v) _ _ _ _ _ h.a hb, @Wh.on (RowsOff v) _ _ _ _ _ h.b hb, h.box.belowAll hb, h.low.trans (hb.mono h.low.size), fun b e => Nat.lt_of_lt_of_le (h.off b e) hb.size⟩
theorem TwoS.spent {w wr w' : World} {B0 gx : Nat} {cut : Int} {v : Value} {m : List (Int × Int)} {pa pb : Nat} {t : Int} {La Lb : List (Int × Int)} (h : TwoS w wr B0 gx cut v m pa pb t La Lb) (hf : FixO w B0 gx v pa pb) (hg : wr.grownBy w' v.ownBlock) : WheS w w' B0 gx cut v pa pb t La Lb := by
  have hb : Below B0 wr w' := (Below.refl B0 wr).grown hg h.s.size (fun k e => (World.ownsRow.lt h.s.own k e).1)
  exact ⟨h.a.beside hf.oa hg, h.b.beside hf.ob hg, h.s.box.below hb hf.gx, h.s.low.trans (hb.mono hf.wB), fun b e => Nat.lt_of_lt_of_le (World.ownsRow.lt h.s.own b e).2 hg.size⟩

set_option maxRecDepth 100000 in
set_option maxHeartbeats 1500000 in
theorem order_law (t : Int) (A1 : Option Addr) (n1 c1 : Nat) (l1 : List (Int × Int)) (cut : Int) (w : World) (hr1 : DuesR w w.heap.size A1 n1 c1 l1) (hl1 : ∀ d ∈ l1, 0 ≤ d.2) (hT : Tab w) (hg : 0 < w.heap.size) :
    Calls Tryd.prog 7 #[.int .i64 t, .slice A1 n1 c1, .int .u64 cut] w fun e w' => e = .returned (.bool true) ∧ Below w.heap.size w w' := by
  have hcap := hr1.cap
  have htop := hr1.top
  unfold maxLen at htop
  have HR1 := Lib.hid hr1; have HL1 := Lib.hid hl1; have HN1 := Lib.hid hr1.len
  have HTG := Lib.hid (fun (W : World) (hb : Below w.heap.size w W) => (⟨⟨hT.below hg hb, Nat.lt_of_lt_of_le hg hb.size⟩⟩ : PLift (Tab W ∧ 0 < W.heap.size)).down)
  have hb0 := (Below.refl w.heap.size w).alloc (Nat.le_refl _) (.cells #[.int .u64 cut] 32)
  have hq0 := QBox.new w 32 #[.int .u64 cut]
  clear hr1 hl1
  go_enter Tryd.func7, Tryd.ntmps7
  go_wp2_with fail
  generalize w.alloc (.cells #[.int .u64 cut] 32) = W0 at *
  obtain ⟨x1, x2⟩ := HTG.out _ hb0
  refine (wakes_any9 W0 x1 x2).mono ?_
  rintro e w1 ⟨rfl, hb1⟩
  obtain ⟨gx, hgx⟩ : ∃ gx, w.heap.size = gx := ⟨_, rfl⟩
  have HGG := Lib.hid (show 0 < gx by omega)
  have HS0 := Lib.hid (show OwnS w w1 w1.heap.size gx cut (.slice none 0 0) [] from ⟨OwnD.nil _ _, by rw [← hgx]; exact hq0.belowAll hb1, hb0.trans (hb1.mono hb0.size), Nat.le_refl _, .nil, (fun d hd => by cases hd), (fun _ => rfl)⟩)
  have HGB := Lib.hid (show gx < w1.heap.size by rw [← hgx]; exact Nat.lt_of_lt_of_le hq0.lt hb1.size)
  have HWB := Lib.hid (show w.heap.size ≤ w1.heap.size from Nat.le_trans hb0.size hb1.size)
  rw [hgx]
  clear x1 x2 hb1 hb0 hq0 hgx
  generalize w1.heap.size = B0 at *
  go_wp2_with fail
  go_loopw [7, 27] (fun tv i wr => ∃ (k : Nat) (v : Value) (m : List (Int × Int)), k ≤ n1 ∧ i = .int .i64 k ∧ v = tv ∧ OwnS w wr B0 gx cut v m ∧ m.length ≤ k ∧ m.length ≤ 40) (fun _ i _ => n1 - (intOf i).toNat)
  case atStart => exact ⟨0, _, [], by omega, rfl, rfl, HS0.out, by simp, by simp⟩
  case round =>
    clear HS0
    obtain ⟨k, v, m, hk, rfl, rfl, hst, hmk, hm40⟩ := hrel
    have HST := Lib.hid hst
    clear hst
    by_cases hlt : k < n1
    · obtain ⟨d, hd⟩ : ∃ d, l1[k]? = some d := ⟨_, List.getElem?_eq_getElem (by rw [HN1.out]; exact hlt)⟩
      have HDP := Lib.hid (HL1.out _ (List.mem_of_getElem? hd))
      obtain ⟨bb, oo, hA, hll, y0, y1⟩ := (HR1.out.below HST.out.low).at_ k _ hd
      obtain ⟨d0, d1⟩ := d
      subst hA
      dsimp only at y0 y1
      have hi0 : (0 : Int) ≤ k := by omega
      have hi1 : (k : Int) < (n1 : Int) := by omega
      have hB4 := (Below.refl wr.heap.size wr).alloc (Nat.le_refl _) (.cells #[.int .i64 d0, .int .u64 d1] 39)
      have HS4 := Lib.hid (HST.out.on hB4)
      have HQ4 := Lib.hid (QBox.new wr 39 #[.int .i64 d0, .int .u64 d1])
      clear hd hB4
      by_cases h40 : k < 40
      · have hd40 : decide ((k : Int) < 40) = true := decide_eq_true (by omega)
        have HK40 := Lib.hid h40
        clear h40
        obtain ⟨Ao, co, rfl, hdo⟩ := HS4.out.own.row
        have HDO := Lib.hid hdo
        clear hdo
        go_wp2_with fail
        generalize wr.alloc (.cells #[.int .i64 d0, .int .u64 d1] 39) = W4 at *
        refine (contains_ord1 Ao m.length co wr.heap.size d1 m W4 HDO.out HQ4.out.lt (HQ4.out.cell 1)).mono ?_
        rintro e w5 ⟨rfl, hb5⟩
        have HS5 := Lib.hid (HS4.out.on hb5)
        obtain ⟨c0, c1', _, _⟩ := (HQ4.out.belowAll hb5).two
        clear hb5 HDO
        rcases hq : hasQ d1 m with _ | _
        · have HNQ := Lib.hid hq
          clear hq
          have HS6 := Lib.hid (HS5.out.on ((Below.refl w5.heap.size w5).alloc (Nat.le_refl _) (.cells #[.int .i64 d0, .int .u64 d1] 39)))
          go_wp2_with (at_builtin; refine list_own9 (n := 100) (l2 := [(d0, d1)]) rfl _ _ rfl rfl rfl HS6.out.own (dues_box (QBox.new w5 _ _)) HS6.out.size (by omega) (by decide) (fun e => by cases e) ?_; intro vd wd hod hgd had; have hss := HS6.out.add HGB.out HWB.out hod hgd HDP.out HNQ.out)
          go_roundw
          case rel => exact ⟨k + 1, _, _, by omega, by go_num, rfl, hss, by rw [List.length_append]; simp only [List.length_cons, List.length_nil]; omega, by have := HK40.out; rw [List.length_append]; simp only [List.length_cons, List.length_nil]; omega⟩
          case measure => simp [intOf]; omega
        · clear hq
          go_wp2_with fail
          go_roundw
          case rel => exact ⟨k + 1, _, m, by omega, by go_num, rfl, HS5.out, by omega, hm40⟩
          case measure => simp [intOf]; omega
      · have hd40 : decide ((k : Int) < 40) = false := decide_eq_false (by omega)
        clear h40
        go_wp2_with fail
        go_roundw
        case rel => exact ⟨k + 1, _, m, by omega, by go_num, rfl, HS4.out, by omega, hm40⟩
        case measure => simp [intOf]; omega
    · have HM40 := Lib.hid hm40
      clear hmk hm40
      go_wp2_with fail
      refine (clone_own B0 v m _ HST.out.own HST.out.nil (by have := HM40.out; omega)).mono ?_
      rintro e w2 ⟨vb, rfl, hob, hb2⟩
      have HB2 := Lib.hid hb2; have HOB := Lib.hid hob
      clear hb2 hob
      go_wp2_with fail
      refine (reverse_own wr.heap.size vb m _ HOB.out (by have := HM40.out; omega)).mono ?_
      rintro e w3 ⟨⟨u3, rfl⟩, hob3, hg3⟩
      have HS3 := Lib.hid (HST.out.on (HB2.out.trans ((Below.refl wr.heap.size w2).grown hg3 HB2.out.size (fun k e => (World.ownsRow.lt HOB.out k e).1))))
      obtain ⟨Ab, cb, hvb, hdb⟩ := hob3.row
      rw [List.length_reverse] at hvb hdb
      subst hvb
      obtain ⟨Ao, co, hvo, hdo⟩ := HS3.out.own.row
      subst hvo
      have HDB := Lib.hid hdb; have HDO := Lib.hid hdo
      clear HST HB2 HOB hob3 hg3 hdb hdo
      obtain ⟨v, hv⟩ : ∃ v, Value.slice Ao m.length co = v := ⟨_, rfl⟩
      have HV := Lib.hid hv
      rw [hv] at HS3
      clear hv
      go_wp2_with fail
      obtain ⟨x1, x2⟩ := HTG.out _ HS3.out.low
      refine (@made_any (RowsOff v) t Ao m.length co m w3 HDO.out HS3.out.pos x1 x2 (fun b hb e => by have := (World.ownsRow.lt HS3.out.own b e).2; omega)).mono ?_
      clear x1 x2
      rintro e w4 (⟨hnt, rfl, hb4⟩ | ⟨ht, pa, rfl, m4⟩)
      · have HNT := Lib.hid hnt
        have HS4 := Lib.hid (HS3.out.on hb4); have HDB4 := Lib.hid ((HDB.out.below hb4).mono hb4.size)
        clear hnt hb4
        go_wp2_with fail
        obtain ⟨x1, x2⟩ := HTG.out _ HS4.out.low
        refine (made_any t Ab m.length cb m.reverse w4 HDB4.out (fun d hd => HS4.out.pos d (List.mem_reverse.1 hd)) x1 x2 (fun _ _ => trivial)).mono ?_
        clear x1 x2
        rintro e w5 (⟨_, rfl, hb5⟩ | ⟨ht, _⟩)
        · have HZ := Lib.hid (HS4.out.on hb5).low
          clear hb5
          go_wp2_with fail
          go_ret
          exact ⟨rfl, HZ.out⟩
        · exact absurd ht HNT.out
      · have HTQ := Lib.hid ht
        have HB4 := Lib.hid (@Mine.b (RowsOff v) _ _ _ _ _ m4); have HA4 := Lib.hid (@Mine.wh (RowsOff v) _ _ _ _ _ m4); have HP4 := Lib.hid (@Mine.low (RowsOff v) _ _ _ _ _ m4)
        have HS4 := Lib.hid (HS3.out.on HB4.out); have HDB4 := Lib.hid ((HDB.out.below HB4.out).mono HB4.out.size)
        clear ht m4
        go_wp2_with fail
        obtain ⟨x1, x2⟩ := HTG.out _ HS4.out.low
        refine (@made_any (RowsOff v) t Ab m.length cb m.reverse w4 HDB4.out (fun d hd => HS4.out.pos d (List.mem_reverse.1 hd)) x1 x2 (fun b hb e => by have := (World.ownsRow.lt HS4.out.own b e).2; omega)).mono ?_
        clear x1 x2
        rintro e w5 (⟨hnt, _⟩ | ⟨_, pb, rfl, m5⟩)
        · exact absurd HTQ.out hnt
        · obtain ⟨L, hL⟩ : ∃ L, putsQ t [] m = L := ⟨_, rfl⟩
          have hLa : putsQ t [] (m.take 80) = L := by rw [List.take_of_length_le (by have := HM40.out; omega)]; exact hL
          have hLb : putsQ t [] (m.reverse.take 80) = L := by
            rw [List.take_of_length_le (by rw [List.length_reverse]; have := HM40.out; omega), ← hL]
            exact (putsQ_perm HTQ.out (List.reverse_perm m).symm HS4.out.num (by have := HM40.out; omega)).symm
          have HLC := Lib.hid (show putsQ t [] ((cutQ cut m).take 80) = cutQ cut L by
            have h1 : (cutQ cut m).length ≤ m.length := List.length_filter_le _ _
            rw [List.take_of_length_le (by have := HM40.out; omega), ← hL]
            exact (putsQ_cut HTQ.out HS4.out.num (by have := HM40.out; omega) cut).symm)
          rw [hLa] at HA4
          rw [hLb] at m5
          have hb5 := @Mine.b (RowsOff v) _ _ _ _ _ m5
          have HTW := Lib.hid (show TwoS w w5 B0 gx cut v m pa pb t L L from ⟨HS4.out.on hb5, @Wh.on (RowsOff v) _ _ _ _ _ HA4.out hb5, @Mine.wh (RowsOff v) _ _ _ _ _ m5⟩)
          have HFX := Lib.hid (show FixO w B0 gx v pa pb from by
            have h1 := HS3.out.size; have h2 := HP4.out; have h3 := @Mine.low (RowsOff v) _ _ _ _ _ m5
            have h4 := @Wh.lt (RowsOff v) _ _ _ _ _ HA4.out
            have h5 := HB4.out.size
            refine ⟨HGB.out, HWB.out, by omega, by omega, by omega, fun e => ?_, fun e => ?_⟩
            · have := (World.ownsRow.lt HS3.out.own _ e).2; omega
            · have := (World.ownsRow.lt HS3.out.own _ e).2; omega)
          have HGA := Lib.hid (show 0 ≠ pa by have h1 := HFX.out.wa; have h2 := HGG.out; have h3 := HFX.out.gx; omega)
          clear hL hLa hLb hb5 m5 HA4 HB4 HP4 HS4 HS3 HDB4 HDB HDO
          go_wp2_with fail
          obtain ⟨x1, x2⟩ := HTG.out _ HTW.out.s.low
          refine (@all_wh (RowsOff v) pa t L _ HTW.out.a x1 x2).mono ?_
          rintro e w6 ⟨v6, rfl, ho6, hb6⟩
          obtain ⟨A6, c6, rfl, hd6⟩ := ho6.row
          have HT6 := Lib.hid (HTW.out.on hb6); have HD6 := Lib.hid hd6
          clear x1 x2 ho6 hd6 hb6 HTW
          go_wp2_with fail
          obtain ⟨x1, x2⟩ := HTG.out _ HT6.out.s.low
          refine (@all_wh (RowsOff v) pb t L _ HT6.out.b x1 x2).mono ?_
          rintro e w7 ⟨v7, rfl, ho7, hb7⟩
          obtain ⟨A7, c7, rfl, hd7⟩ := ho7.row
          have HT7 := Lib.hid (HT6.out.on hb7); have HD67 := Lib.hid ((HD6.out.below hb7).mono hb7.size); have HD7 := Lib.hid hd7
          clear x1 x2 ho7 hd7 hb7 HT6 HD6
          go_wp2_with fail
          refine (equal_dues A6 A7 L.length c6 c7 _ _ L _ HD67.out HD7.out).mono ?_
          rintro e w8 ⟨rfl, q8, rfl⟩
          have HT8 := Lib.hid (HT7.out.on (w' := w7.drewN q8) ⟨rfl, rfl, rfl, Nat.le_refl _, fun _ _ => rfl⟩)
          clear HT7 HD67 HD7
          generalize w7.drewN q8 = W8 at *
          go_wp2_with fail
          obtain ⟨x1, x2⟩ := HTG.out _ HT8.out.s.low
          refine (@all_wh (RowsOff v) pa t L _ HT8.out.a x1 x2).mono ?_
          rintro e w9 ⟨v9, rfl, ho9, hb9⟩
          obtain ⟨A9, c9, rfl, hd9⟩ := ho9.row
          have HT9 := Lib.hid (HT8.out.on hb9); have HD9 := Lib.hid hd9
          have hcap9 := hd9.cap
          have htop9 := hd9.top
          unfold maxLen at htop9
          clear x1 x2 ho9 hd9 hb9 HT8
          go_wp2_with fail
          go_loopw [76] (fun i2 wi => ∃ k2 : Nat, k2 ≤ L.length ∧ i2 = .int .i64 k2 ∧ Below w9.heap.size w9 wi) (fun i2 _ => L.length - (intOf i2).toNat)
          case atStart => exact ⟨0, by omega, rfl, Below.refl _ _⟩
          case round =>
            obtain ⟨k2, hk2, rfl, hbi⟩ := hrel
            have HBI := Lib.hid hbi
            clear hbi
            by_cases hlt2 : k2 < L.length
            · obtain ⟨d, hd⟩ : ∃ d, L[k2]? = some d := ⟨_, List.getElem?_eq_getElem hlt2⟩
              have HDM := Lib.hid (List.mem_of_getElem? hd)
              obtain ⟨b9, o9, hA9, hl9, y0, y1⟩ := (HD9.out.below HBI.out).at_ k2 _ hd
              obtain ⟨d0, d1⟩ := d
              subst hA9
              dsimp only at y0 y1
              obtain ⟨px, hpx⟩ : ∃ x, (placeQ t d0).1 = x := ⟨_, rfl⟩
              obtain ⟨py, hpy⟩ : ∃ y, (placeQ t d0).2 = y := ⟨_, rfl⟩
              have hrg := placeQ_range t d0
              rw [hpx, hpy] at hrg
              have HPX := Lib.hid hpx; have HPY := Lib.hid hpy
              have g0 : decide (px < 0) = false := decide_eq_false (by omega)
              have g1 : decide (4 < px) = false := decide_eq_false (by omega)
              have g2 : decide (py < 0) = false := decide_eq_false (by omega)
              have g3 : decide (63 < py) = false := decide_eq_false (by omega)
              have hj0 : (0 : Int) ≤ k2 := by omega
              have hj1 : (k2 : Int) < (L.length : Int) := by omega
              have hbd := HBI.out.alloc HBI.out.size (.cells #[.int .i64 d0, .int .u64 d1] 39)
              have hqd := QBox.new wr 39 #[.int .i64 d0, .int .u64 d1]
              clear hd hpx hpy hrg
              go_wp2_with fail
              generalize wr.alloc (.cells #[.int .i64 d0, .int .u64 d1] 39) = WD at *
              obtain ⟨x1, x2⟩ := HTG.out _ (HT9.out.on hbd).s.low
              refine (@place_in (RowsOff v) pa t L (d0, d1) WD (HT9.out.on hbd).a HDM.out x1 x2).mono ?_
              rintro e we ⟨rfl, hbe⟩
              rw [HPX.out, HPY.out]
              have HBE := Lib.hid (hbd.trans (hbe.mono hbd.size))
              obtain ⟨z0, z1, _, _⟩ := (hqd.belowAll hbe).two
              clear x1 x2 hbd hqd hbe y0 y1
              go_wp2_with fail
              obtain ⟨x1, x2⟩ := HTG.out _ (HT9.out.on HBE.out).s.low
              refine (@place_in (RowsOff v) pb t L (d0, d1) we (HT9.out.on HBE.out).b HDM.out x1 x2).mono ?_
              rintro e wf ⟨rfl, hbf⟩
              rw [HPX.out, HPY.out]
              have HBF := Lib.hid (HBE.out.trans (hbf.mono HBE.out.size))
              clear x1 x2 hbf
              go_wp2_with fail
              go_roundw
              case rel => exact ⟨k2 + 1, by omega, by go_num, HBF.out⟩
              case measure => simp [intOf]; omega
            · have HTA := Lib.hid (HT9.out.on HBI.out)
              have hbx := HTA.out.s.box.cell 0
              clear HT9 HD9
              go_wp2_with fail
              have HGO := Lib.hid (fun (p : Nat) (hp : v.ownBlock = some p) => (World.ownsRow.lt HTA.out.s.own p hp).2)
              have HM80 := Lib.hid (show (cutQ cut m).length ≤ 40 from Nat.le_trans (List.length_filter_le _ _) HM40.out)
              obtain ⟨x1, x2⟩ := HTG.out _ HTA.out.s.low
              refine (@cut_any (RowsOff v) pa t cut L _ HTA.out.a x1 x2 (fun b hb e => by have := HGO.out b e; omega)).mono ?_
              rintro e wc ⟨rfl, hwc, hoc⟩
              obtain ⟨ec, hec⟩ : ∃ ec : Int, (if hasQ cut L = true then (0 : Int) else 4) = ec := ⟨_, rfl⟩
              rw [hec]
              have HEC := Lib.hid (show ((ec : Int) == 0) = hasQ cut L by rw [← hec]; cases hasQ cut L <;> rfl)
              have HTC := Lib.hid (HTA.out.cut HFX.out hwc hoc)
              clear x1 x2 hwc hoc hec HGO HTA hbx
              have hbx := HTC.out.s.box.cell 0
              go_wp2_with fail
              rw [HV.out]
              refine (delete_own B0 gx v cut m _ HTC.out.s.own HTC.out.s.num (by have := HM40.out; omega) HTC.out.s.box HFX.out.gx).mono ?_
              rintro e wd ⟨⟨Ad, cd, rfl, hdd⟩, hgd⟩
              have HWD := Lib.hid (HTC.out.spent HFX.out hgd)
              have HDD := Lib.hid hdd
              have HPO := Lib.hid (show ∀ d ∈ cutQ cut m, 0 ≤ d.2 from fun d hd => HTC.out.s.pos d (List.mem_filter.1 hd).1)
              clear hdd hgd HTC hbx
              go_wp2_with fail
              obtain ⟨x1, x2⟩ := HTG.out _ HWD.out.low
              refine (made_any t Ad (cutQ cut m).length cd (cutQ cut m) wd HDD.out HPO.out x1 x2 (fun _ _ => trivial)).mono ?_
              clear x1 x2
              rintro e we (⟨hnt, _⟩ | ⟨_, pc, rfl, me⟩)
              · exact absurd HTQ.out hnt
              · rw [HLC.out] at me
                have HWE := Lib.hid (HWD.out.on me.b); have HCE := Lib.hid me.wh
                have HNE := Lib.hid (show pc ≠ pa by
                  have h1 := me.low
                  have h2 := @Wh.lt (RowsOff v) _ _ _ _ _ HWD.out.a
                  omega)
                clear me HDD HWD HPO
                go_wp2_with fail
                obtain ⟨x1, x2⟩ := HTG.out _ HWE.out.low
                refine (@len_wh (RowsOff v) pa t _ _ HWE.out.a x1 x2).mono ?_
                rintro e wf ⟨rfl, hbf⟩
                have HWF := Lib.hid (HWE.out.on hbf); have HCF := Lib.hid (HCE.out.on hbf)
                clear x1 x2 hbf HWE HCE
                go_wp2_with fail
                obtain ⟨x1, x2⟩ := HTG.out _ HWF.out.low
                refine (@len_wh (RowsOff v) pb t _ _ HWF.out.b x1 x2).mono ?_
                rintro e wg ⟨rfl, hbg⟩
                have HWG := Lib.hid (HWF.out.on hbg); have HCG := Lib.hid (HCF.out.on hbg)
                obtain ⟨la, hla⟩ : ∃ la, (cutQ cut L).length = la := ⟨_, rfl⟩
                obtain ⟨lb, hlb⟩ : ∃ lb, L.length = lb := ⟨_, rfl⟩
                obtain ⟨hh, hhh⟩ : ∃ hh, hasQ cut L = hh := ⟨_, rfl⟩
                have hcl := cut_less cut L
                rw [hla, hlb, hhh] at hcl
                have hec := HEC.out
                rw [hhh] at hec
                rw [hla, hlb]
                have hcl2 : decide (la < lb) = hh := by rw [← hcl]; simp
                have HLA := Lib.hid hla
                have hbx := HWG.out.box.cell 0
                clear x1 x2 hbg HWF HCF hla hlb hhh HEC
                go_wp2_with fail
                clear hec hcl hcl2
                obtain ⟨x1, x2⟩ := HTG.out _ HWG.out.low
                refine (@cut_any (RowsOff v) pa t cut (cutQ cut L) _ HWG.out.a x1 x2 (fun b hb e => by have := HWG.out.off b e; omega)).mono ?_
                rintro e wh ⟨rfl, hwh, hoh⟩
                rw [hasQ_cut, cutQ_none9 (hasQ_cut cut L)] at *
                obtain ⟨csa, hqa⟩ := @Wh.box9 (RowsOff v) _ _ _ _ _ HWG.out.a
                have HCH := Lib.hid ((HCG.out.far hoh HNE.out (Nat.le_refl _) hqa (by decide)).mono hoh.size)
                have HAH := Lib.hid hwh
                have HLH := Lib.hid (hoh.drop HWG.out.low (by have h1 := HFX.out.wa; have h2 := HFX.out.wB; omega))
                clear x1 x2 hwh hoh HWG HCG hbx hqa
                go_wp2_with fail
                obtain ⟨x1, x2⟩ := HTG.out _ HLH.out
                refine (@all_wh (RowsOff v) pa t _ _ HAH.out x1 x2).mono ?_
                rintro e wi ⟨vi, rfl, hoi, hbi⟩
                obtain ⟨Ai, ci, rfl, hdi⟩ := hoi.row
                have HAI := Lib.hid (@Wh.on (RowsOff v) _ _ _ _ _ HAH.out hbi); have HCI := Lib.hid (HCH.out.on hbi); have HLI := Lib.hid (HLH.out.trans (hbi.mono HLH.out.size)); have HDI := Lib.hid hdi
                clear x1 x2 hoi hbi hdi HAH HCH HLH
                go_wp2_with fail
                obtain ⟨x1, x2⟩ := HTG.out _ HLI.out
                refine (all_wh pc t _ _ HCI.out x1 x2).mono ?_
                rintro e wj ⟨vj, rfl, hoj, hbj⟩
                obtain ⟨Aj, cj, rfl, hdj⟩ := hoj.row
                have HAJ := Lib.hid (@Wh.on (RowsOff v) _ _ _ _ _ HAI.out hbj); have HLJ := Lib.hid (HLI.out.trans (hbj.mono HLI.out.size)); have HDIJ := Lib.hid ((HDI.out.below hbj).mono hbj.size); have HDJ := Lib.hid hdj
                clear x1 x2 hoj hbj hdj HAI HCI HLI HDI
                go_wp2_with fail
                refine (equal_dues Ai Aj (cutQ cut L).length ci cj _ _ (cutQ cut L) _ HDIJ.out HDJ.out).mono ?_
                rintro e wk ⟨rfl, qk, rfl⟩
                have HAK := Lib.hid (@Wh.on (RowsOff v) _ (wj.drewN qk) _ _ _ HAJ.out ⟨rfl, rfl, rfl, Nat.le_refl _, fun _ _ => rfl⟩)
                have HLK := Lib.hid (show Below w.heap.size w (wj.drewN qk) from ⟨HLJ.out.os, HLJ.out.tape, HLJ.out.output, HLJ.out.size, HLJ.out.block⟩)
                clear HAJ HLJ HDIJ HDJ
                generalize wj.drewN qk = Wk at *
                go_wp2_with fail
                obtain ⟨x1, x2⟩ := HTG.out _ HLK.out
                refine (@all_wh (RowsOff v) pa t _ _ HAK.out x1 x2).mono ?_
                rintro e wl ⟨vl, rfl, hol, hbl⟩
                obtain ⟨Al, cl, rfl, hdl⟩ := hol.row
                have HSL := Lib.hid (@Wh.right (RowsOff v) _ _ _ _ _ HAK.out)
                have HLL := Lib.hid (HLK.out.trans (hbl.mono HLK.out.size)); have HDL := Lib.hid hdl
                clear x1 x2 hol hbl hdl HAK HLK
                go_wp2_with fail
                refine (sorted_any Al (cutQ cut L).length cl (cutQ cut L) _ HDL.out HSL.out.sort (by have := HSL.out.len; omega)).mono ?_
                rintro e wm ⟨rfl, hbm⟩
                have HLM := Lib.hid (HLL.out.trans (hbm.mono HLL.out.size))
                clear hbm
                go_wp2_with fail
                go_ret
                exact ⟨rfl, HLM.out⟩
end Go.Proofs.YtidgiohjgkfjcaaDoor
