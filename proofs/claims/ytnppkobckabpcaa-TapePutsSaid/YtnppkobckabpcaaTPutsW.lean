/- TapePuts walked. -/
import Derived.Test.YtnppkobckabpcaaTFill
import Derived.Test.YtnppkobckabpcaaTBackW
import Derived.Deep.RegionWith
import Derived.Deep.RegionHeld3
import Derived.Deep.DeepCutAuto
namespace Go.Proofs.Ytnppkobckabpcaa
open Go.RowKit

theorem Box.grown {w w' : World} {g p : Nat} {t : TypeId} {cs : Array Value} (h : Box w g t cs) (hg : w.grownBy w' (some p)) (hne : g ≠ p) : Box w' g t cs := (hg.block g h.lt (fun e => hne (Option.some.inj e))).trans h
theorem filled_row {w : World} {g k : Nat} {ns : List Nat} (h : Box w g 5 (filled ns k)) (hb : ∀ x ∈ ns, x < 256) (hM : ns.length + k ≤ maxLen) : RowB w w.heap.size (some ⟨g, 0, none⟩) ns.length (ns.length + k) ns :=
  ⟨rfl, hb, by omega, hM, (fun e => by cases e), fun j hj => ⟨g, 0, rfl, h.lt, by rw [Nat.zero_add, h.cell j, filled_at hj]⟩⟩
theorem filled_spare {w : World} {g k : Nat} {ns : List Nat} (h : Box w g 5 (filled ns k)) (hM : k ≤ maxLen) : RowB w w.heap.size (some ⟨g, ns.length, none⟩) k k (List.replicate k 0) :=
  ⟨by simp, (fun x hx => by rw [List.eq_of_mem_replicate hx]; omega), Nat.le_refl _, hM, (fun e => by cases e), fun j hj => ⟨g, ns.length, rfl, h.lt, by
    rw [h.cell _, filled_zero hj]
    unfold nthB; rw [List.getD_eq_getElem?_getD, List.getElem?_replicate, if_pos hj]; rfl⟩⟩
theorem sep_of {w w' : World} {base base0 : Nat} {u v : Value} {bs cs : List Nat} (hv : OwnB w' base v bs) (hu : OwnB w base0 u cs) (h : w.heap.size ≤ base) : ∀ g, v.ownBlock = some g → u.ownBlock ≠ some g := fun g e1 e2 => by
  have h1 := (hv.1.lt g e1).1
  have h2 := (hu.1.lt g e2).2
  omega
/-- Behind what is put, and what the document says of it. -/
def BothPut (w6 : World) (l : List Nat) (s11 s12 : Value) (wx : World) : Prop := OwnB wx w6.heap.size s11 l ∧ OwnB wx w6.heap.size s12 l ∧ (∀ g, s11.ownBlock = some g → s12.ownBlock ≠ some g) ∧ Below w6.heap.size w6 wx
/-- The first so many bytes of a row are another one. -/
def Turning (w9 : World) (base g N cap : Nat) (s56 : Value) (wr : World) : Prop := ∃ (k : Nat) (cs : List Nat), k ≤ N ∧ s56 = .int .i64 (k : Int) ∧ cs.length = N ∧ OwnB wr base (.slice (some ⟨g, 0, none⟩) N cap) cs ∧ w9.grownBy wr (some g)
theorem own_set {w : World} {base g N cap k z : Nat} {cs : List Nat} (h : OwnB w base (.slice (some ⟨g, 0, none⟩) N cap) cs) (hN : cs.length = N) (hz : z < 256) :
    OwnB (w.setCell ⟨g, k, none⟩ (bv z)) base (.slice (some ⟨g, 0, none⟩) N cap) (cs.set k z) ∧ w.grownBy (w.setCell ⟨g, k, none⟩ (bv z)) (some g) := by
  subst hN
  have h1 := h.1.stored k (bv z)
  refine ⟨⟨by rw [List.length_set, List.map_set]; exact h1.1, fun x hx => ?_⟩, h1.2⟩
  rcases List.mem_or_eq_of_mem_set hx with hx | rfl
  · exact h.2 x hx
  · exact hz
theorem own_cell {w : World} {base g N cap k : Nat} {cs : List Nat} (h : OwnB w base (.slice (some ⟨g, 0, none⟩) N cap) cs) (hN : cs.length = N) (hk : k < N) :
    w.cell? ⟨g, k, none⟩ = some (bv (nthB cs k)) ∧ w.frozen? ⟨g, k, none⟩ = false := by
  subst hN
  exact ⟨by rw [h.1.cellAt k (by omega), bv_at cs k hk], h.1.frozenAt k⟩
/-- The test came out so, and nothing below has turned. -/
def Sure (w0 : World) (s86 : Value) (wx : World) : Prop := s86 = .bool false ∧ Below w0.heap.size w0 wx
theorem made20 (W : World) : (Instr.makeSlice 22 (.int .i64 20) (.int .i64 20)).run Try.prog W = .ok (.slice (some ⟨W.heap.size, 0, none⟩) 20 20) (W.alloc (.cells (madeCells #[.int .u8 0] 20) 5)) := by
  obtain ⟨i0, hi, hz0, hz1, hz2⟩ := info_parts (show (Try.prog.info? 5).map (fun i => (i.zero, i.size, i.bytes)) = some (some (.int .u8 0), 1, 1) by kernel_rfl)
  have hr := run_make (P := Try.prog) W 22 5 i0 (.int .u8 0) Try.underlying22 hi hz0 .i64 .i64 20 20 (by omega) (by omega) (by rw [hz2]; omega) (by omega)
  rw [hz1] at hr
  simpa [Value.cells] using hr
theorem rput_nil (x : Nat) (w : World) (h : x < 18446744073709551616) :
    Calls Try.prog 14 #[.slice none 0 0, .int .u64 (x : Int)] w fun e w' => (∃ A c, e = .returned (.slice A (sh x).length c)) ∧ Below w.heap.size w w' :=
  (rput_any none 0 0 x [] w (RowB.none_ _ _) (by omega) h).mono fun e w' ⟨v, hv, ho, hb⟩ => by
    obtain ⟨A, c, rfl, _⟩ := ho.row
    exact ⟨⟨A, c, by rw [hv]; rfl⟩, hb⟩
theorem wrap64_bd (z : Int) : -9223372036854775808 ≤ wrap64 z ∧ wrap64 z ≤ 9223372036854775807 := by unfold wrap64; omega
/-- What stands behind so many numbers. -/
def NumsAt (w0 : World) (ns : List Nat) (m : Nat) (s14 s91 : Value) (wr : World) : Prop := ∃ (k : Nat) (A : Option Addr) (c : Nat), k ≤ m ∧ k ≤ 20 ∧ s91 = .int .i64 (k : Int) ∧ s14 = .slice A (shs (ns.take k)).length c ∧ RowB wr wr.heap.size A (shs (ns.take k)).length c (shs (ns.take k)) ∧ Below w0.heap.size w0 wr
theorem RowU.few {w : World} {B m k : Nat} {L : Option Addr} {ns : List Nat} (h : RowU w B L m ns) (hk : k ≤ m) : RowU w B L k (ns.take k) :=
  ⟨by rw [List.length_take, h.len]; omega, fun x hx => h.num x (List.take_subset _ _ hx), fun j hj => by
    obtain ⟨b, o, e, hl, hc⟩ := h.at_ j (by omega)
    exact ⟨b, o, e, hl, by rw [nthB_take _ _ _ hj]; exact hc⟩⟩
theorem RowU.mono {w : World} {B B' m : Nat} {L : Option Addr} {ns : List Nat} (h : RowU w B L m ns) (hb : B ≤ B') : RowU w B' L m ns :=
  ⟨h.len, h.num, fun k hk => by
    obtain ⟨b, o, e, hl, hc⟩ := h.at_ k hk
    exact ⟨b, o, e, by omega, hc⟩⟩
/-- What stands behind so many items. -/
def PutsAt (w0 : World) (n : Nat) (s7 s23 : Value) (wr : World) : Prop := ∃ (j : Nat) (A : Option Addr) (c : Nat) (cur : List Nat), j ≤ n ∧ j ≤ 20 ∧ s23 = .int .i64 (j : Int) ∧ s7 = .slice A cur.length c ∧ RowB wr wr.heap.size A cur.length c cur ∧ cur.length ≤ 200 + 310 * j ∧ Below w0.heap.size w0 wr
set_option maxRecDepth 100000 in
set_option maxHeartbeats 16000000 in
theorem puts_walk (A1 L U : Option Addr) (n1 c1 n cap m d : Nat) (x1 ns : List Nat) (its : List It) (w : World) (htop : n ≤ 9223372036854775807) (hmd : m ≤ d) (hdt : d ≤ 9223372036854775807)
    (h1 : RowB w w.heap.size A1 n1 c1 x1) (hi : ItemsAt w w.heap.size L n its) (hu : RowU w w.heap.size U m ns) :
    Calls Try.prog 3 #[.slice A1 n1 c1, .slice L n cap, .slice U m d] w fun e w' => e = .returned (.bool true) ∧ Below w.heap.size w w' := by
  have HI := Lib.hid hi; have HR1 := Lib.hid h1
  have hL := Lib.hid (its_len hi)
  have HU := Lib.hid hu
  clear hi h1 hu
  go_enter Try.func3, Try.ntmps3
  go_wp2_with fail
  refine (wakes_any w).mono ?_; rintro e w1 ⟨rfl, hb1⟩
  have HB1 := Lib.hid hb1
  have f1 := few_any A1 n1 c1 200 x1 w1 ((HR1.out.below hb1).mono hb1.size) (by omega)
  rw [show ((200 : Nat) : Int) = 200 from rfl] at f1
  have a1 : (x1.take 200).length ≤ 200 := by rw [List.length_take]; omega
  generalize x1.take 200 = y1 at *
  have F1 := Lib.hid f1
  clear f1 hb1 HR1
  go_wp2_with fail
  refine F1.out.mono ?_; rintro e w2 ⟨v2, rfl, ho2, hb2⟩
  obtain ⟨A3, c3, rfl, r3⟩ := ho2.row
  have HB2 := Lib.hid (gr_trans HB1.out hb2)
  have HR3 := Lib.hid r3
  clear ho2 hb2 r3 F1 HB1
  go_wp2_with fail
  go_loopw [7, 23] (PutsAt w n) (fun _ s23 _ => n - (intOf s23).toNat)
  case atStart => exact ⟨0, A3, c3, y1, by omega, by omega, rfl, rfl, HR3.out, by omega, HB2.out⟩
  case round =>
    obtain ⟨j, A7, c7, cur, hj, hj20, rfl, rfl, hrw, hcl, hb⟩ := hrel
    have HB := Lib.hid hb
    by_cases hmain : j < n ∧ j ≠ 20
    · obtain ⟨hlt, hne⟩ := hmain
      obtain ⟨g, o, x, e1, rfl, hg, ok, q0, q1, q2, q3, q4⟩ := (HI.out.below hb).at_ j hlt
      have okw : It.Ok w w.heap.size x := by
        obtain ⟨_, _, x', e1', _, _, okw, _⟩ := HI.out.at_ j hlt
        rw [e1] at e1'
        cases e1'
        exact okw
      have d20 : ((j : Int) == 20) = false := by simp; omega
      have hz := hb.size
      have hxl := hL.out x (List.mem_of_getElem? e1)
      have hmk : ∀ W : World, (Instr.makeSlice 22 (.int .i64 0) (.int .i64 ((cur.length : Int) + 20))).run Try.prog W = .ok (.slice (some ⟨W.heap.size, 0, none⟩) 0 (cur.length + 20)) (W.alloc (.cells (madeCells #[.int .u8 0] (cur.length + 20)) 5)) := fun W => by
        have := made_u8 (cur.length + 20) (by omega) W
        rwa [show (((cur.length + 20 : Nat)) : Int) = (cur.length : Int) + 20 by omega] at this
      have bI := (Box.new wr 29 #[.int .i64 x.k, .int .u64 (x.N : Int), .int .i64 x.I, .bool x.b, .slice x.B x.m x.d]).alloc (.cells (madeCells #[.int .u8 0] (cur.length + 20)) 5)
      have bM := Box.new (wr.alloc (.cells #[.int .i64 x.k, .int .u64 (x.N : Int), .int .i64 x.I, .bool x.b, .slice x.B x.m x.d] 29)) 5 (madeCells #[.int .u8 0] (cur.length + 20))
      rw [show (wr.alloc (.cells #[.int .i64 x.k, .int .u64 (x.N : Int), .int .i64 x.I, .bool x.b, .slice x.B x.m x.d] 29)).heap.size = wr.heap.size + 1 by simp] at bM
      have ba := gr_alloc (b_alloc wr (.cells #[.int .i64 x.k, .int .u64 (x.N : Int), .int .i64 x.I, .bool x.b, .slice x.B x.m x.d] 29)) (.cells (madeCells #[.int .u8 0] (cur.length + 20)) 5)
      have rN := hrw.below ba
      have HBI := Lib.hid bI; have HBM := Lib.hid bM; have HBA := Lib.hid ba; have HRN := Lib.hid rN; have HOK := Lib.hid okw; have E1 := Lib.hid e1
      have hb256 := Lib.hid hrw.byte
      clear bI bM ba rN ok okw e1 hrw hb HR3 HB2
      go_wp2_with (at_builtin; refine fill_row rfl _ _ rfl (wr.heap.size + 1) 20 wr.heap.size A7 cur.length c7 cur rfl rfl HRN.out (by unfold maxLen; omega) HBM.out ?_; intro w5 hbx5 hgr5)
      have hgt : wr.heap.size + 2 ≤ w5.heap.size := by have := hgr5.size; simp at this; omega
      have bI5 := HBI.out.grown hgr5 (by omega)
      have hb5 : Below w.heap.size w w5 := (gr_trans HB.out HBA.out).grown hgr5 (by simp; omega) (fun k e => by injection e with e; omega)
      have r5 := filled_row hbx5 hb256.out (by unfold maxLen; omega)
      have f9 := few_any (some ⟨wr.heap.size + 1, 0, none⟩) cur.length (cur.length + 20) 9000 cur w5 r5 (by omega)
      rw [show ((9000 : Nat) : Int) = 9000 from rfl, List.take_of_length_le (by omega)] at f9
      refine f9.mono ?_; rintro e w6 ⟨v6, rfl, ho6, hb6⟩
      obtain ⟨A6, c6, rfl, r6⟩ := ho6.row
      have HB6 := Lib.hid (gr_trans hb5 hb6)
      have bI6 := bI5.belowAll hb6
      have bM6 := hbx5.belowAll hb6
      have rN6 := filled_row bM6 hb256.out (by unfold maxLen; omega)
      have rW6 := r6
      have hP : ∀ W, Below w6.heap.size w6 W → Calls Try.prog 10 #[.agg #[.int .i64 x.k, .int .u64 (x.N : Int), .int .i64 x.I, .bool x.b, .slice x.B x.m x.d], .slice (some ⟨wr.heap.size + 1, 0, none⟩) cur.length (cur.length + 20)] W (PutIs W cur x.by_) := fun W hW =>
        itemPut_any x.k x.N x.I x.b x.B (some ⟨wr.heap.size + 1, 0, none⟩) x.m x.d cur.length (cur.length + 20) x.xs cur W HOK.out.num HOK.out.lo HOK.out.hi ((HOK.out.row.below (gr_trans HB6.out hW)).mono (gr_trans HB6.out hW).size) ((rN6.below hW).mono hW.size) (by omega)
      have hS : ∀ W, Below w6.heap.size w6 W → Calls Try.prog 11 #[.agg #[.int .i64 x.k, .int .u64 (x.N : Int), .int .i64 x.I, .bool x.b, .slice x.B x.m x.d], .slice A6 cur.length c6] W (PutIs W cur x.by_) := fun W hW =>
        itemSays_any x.k x.N x.I x.b x.B A6 x.m x.d cur.length c6 x.xs cur W HOK.out.num HOK.out.lo HOK.out.hi ((HOK.out.row.below (gr_trans HB6.out hW)).mono (gr_trans HB6.out hW).size) ((rW6.below hW).mono hW.size) (by omega)
      have HP := Lib.hid hP; have HS := Lib.hid hS; have BI6 := Lib.hid bI6; have BM6 := Lib.hid bM6; have RN6 := Lib.hid rN6; have RW6 := Lib.hid rW6
      have HBE := Lib.hid (Below.refl w6.heap.size w6)
      obtain ⟨i0, i1, i2, i3, i4⟩ := bI6.five
      have hI6 := bI6.lt
      clear hP hS bI6 bM6 rN6 rW6 r6 ho6 hb6 hb5 bI5 r5 f9 hbx5 hgr5 q0 q1 q2 q3 q4 HBI HBM HBA HRN hmk
      go_upto_region 10 with (fail)
      go_cut [11, 12] from 38 to 43 (fun s11 s12 wx => BothPut w6 (cur ++ x.by_) s11 s12 wx)
      case first =>
        go_region_with (first
          | (go_at_call 10
             refine (HP.out _ (by first | exact HBE.out | exact HBE.out.drew)).mono ?_
             rintro e wE ⟨vP, rfl, hoP, hbE⟩
             have HBE0 := HBE
             replace HBE := Lib.hid (gr_trans HBE.out (show Below _ _ wE from ⟨hbE.os, hbE.tape, hbE.output, hbE.size, hbE.block⟩))
             (try (have hsep := Lib.hid (sep_of hoP hoS (Nat.le_refl _))))
             (try (replace hoS := hoS.below hbE))
             clear i0 i1 i2 i3 i4
             obtain ⟨i0, i1, i2, i3, i4⟩ := (BI6.out.below HBE.out hI6).five)
          | (go_at_call 11
             refine (HS.out _ (by first | exact HBE.out | exact HBE.out.drew)).mono ?_
             rintro e wE ⟨vS, rfl, hoS, hbE⟩
             have HBE0 := HBE
             replace HBE := Lib.hid (gr_trans HBE.out (show Below _ _ wE from ⟨hbE.os, hbE.tape, hbE.output, hbE.size, hbE.block⟩))
             (try (have hsep := Lib.hid (sep_of hoS hoP (Nat.le_refl _))))
             (try (replace hoP := hoP.below hbE))
             clear i0 i1 i2 i3 i4
             obtain ⟨i0, i1, i2, i3, i4⟩ := (BI6.out.below HBE.out hI6).five))
        all_goals
          go_wp2_with fail
          go_meet
          first
          | exact ⟨hoP.mono (by first | exact Nat.le_refl _ | exact HBE0.out.size), hoS.mono (by first | exact Nat.le_refl _ | exact HBE0.out.size), (by first | exact hsep.out | exact fun g e1 e2 => hsep.out g e2 e1), HBE.out⟩
          | (trace_state; sorry)
      case rest =>
        obtain ⟨hoP, hoS, hsep, hbE⟩ := hcut
        have hN1 : 1 ≤ (cur ++ x.by_).length := by rw [List.length_append]; omega
        have hN2 : (cur ++ x.by_).length ≤ 200 + 310 * (j + 1) := by rw [List.length_append]; omega
        generalize cur ++ x.by_ = nx at *
        rcases hoP.1.2 with ⟨_, h0⟩ | ⟨g8, cap8, cur8, rfl, hg8, _⟩
        · omega
        obtain ⟨A9, c9, rfl, r9⟩ := hoS.row
        obtain ⟨A8', c8', e8, r8⟩ := hoP.row
        cases e8
        have hM6 := BM6.out.lt
        have HNW := Lib.hid ((RN6.out.below hbE).mono hbE.size); have HWS := Lib.hid ((RW6.out.below hbE).mono hbE.size)
        have HR8 := Lib.hid r8; have HR9 := Lib.hid r9; have HOP := Lib.hid hoP; have HOS := Lib.hid hoS; have HBX := Lib.hid hbE; have HSEP := Lib.hid hsep
        clear r8 r9 hoP hoS hbE hsep i0 i1 i2 i3 i4 HP HS HBE
        go_wp2_with fail
        refine (same_bytes _ _ _ _ _ _ _ nx _ HR8.out HR9.out).mono ?_; rintro e w7 ⟨rfl, q7, rfl⟩
        go_wp2_with fail
        refine (same_bytes _ _ _ _ _ _ _ cur _ (HNW.out.drewN q7) (HWS.out.drewN q7)).mono ?_; rintro e w8 ⟨rfl, q8, hw8⟩
        have HOP8 : Hid (OwnB w8 w6.heap.size (.slice (some ⟨g8, 0, none⟩) nx.length cap8) nx) := by rw [hw8]; exact (HOP.out.drewN q7).drewN q8
        have HOS8 : Hid (OwnB w8 w6.heap.size (.slice A9 nx.length c9) nx) := by rw [hw8]; exact (HOS.out.drewN q7).drewN q8
        have HBX8 : Hid (Below w6.heap.size w6 w8) := by rw [hw8]; exact below_drew (below_drew HBX.out q7) q8
        clear hw8 HNW HWS HR8 HR9 HOP HOS HBX
        go_wp2_with fail
        obtain ⟨N, hN⟩ : ∃ N, nx.length = N := ⟨_, rfl⟩
        rw [hN] at HOP8 ⊢
        have HN := Lib.hid hN
        have hNb : N ≤ 10000 ∧ N ≤ 200 + 310 * (j + 1) := by omega
        clear hN hN1 hN2
        go_loopw [13, 56] (fun s13 s56 wq => Turning w8 w6.heap.size g8 N cap8 s56 wq) (fun _ s56 _ => N - (intOf s56).toNat)
        case atStart => exact ⟨0, nx, by omega, rfl, HN.out, HOP8.out, World.grownBy.refl _ _⟩
        case round =>
          obtain ⟨k, cs, hk, rfl, hcs, hown, hgr⟩ := hrel
          by_cases hkN : k < N
          · have hx := hown.2 _ (nth_mem (l := cs) (i := k) (by omega))
            obtain ⟨ck, fk⟩ := own_cell hown hcs hkN
            have hset := Lib.hid (own_set (k := k) (z := (nthB cs k + 1) % 256) hown hcs (by omega))
            have hw : IntKind.u8.wrap (((nthB cs k : Nat) : Int) + 1) = (((nthB cs k + 1) % 256 : Nat) : Int) := by rw [IntKind.wrap_u8]; omega
            have hw2 : (((nthB cs k : Nat) : Int) + 1) % 256 = (((nthB cs k + 1) % 256 : Nat) : Int) := by omega
            unfold bv at ck
            have Hcs := Lib.hid hcs; have Hgr := Lib.hid hgr
            have HW2 := Lib.hid hw2; have HW := Lib.hid hw
            clear hown hcs hgr hw hw2
            generalize nthB cs k = b at *
            go_wp2_with fail
            go_roundw
            case rel =>
              refine ⟨k + 1, cs.set k ((b + 1) % 256), by omega, by go_num, by rw [List.length_set]; exact Hcs.out, ?_, ?_⟩
              · have := hset.out.1; unfold bv at this; rw [← HW2.out] at this; exact this
              · have := hset.out.2; unfold bv at this; rw [← HW2.out] at this; exact Hgr.out.trans this
            case measure => simp [intOf]; omega
          · have hb10 : Below w6.heap.size w6 wr := HBX8.out.grown hgr HBX8.out.size (fun k e => by injection e with e; omega)
            have hoS : OwnB wr w6.heap.size (.slice A9 nx.length c9) nx := by
              refine ⟨HOS8.out.1.kept hgr ?_, HOS8.out.2⟩
              right
              intro e
              exact HSEP.out g8 rfl e
            have hz10 := hb10.size
            have rN := Lib.hid ((RN6.out.below hb10).mono hz10); have rW := Lib.hid ((RW6.out.below hb10).mono hz10)
            have bM := BM6.out.below hb10 hM6
            have rsp := Lib.hid (filled_spare bM (by unfold maxLen; omega))
            obtain ⟨A10, c10, e10, r10⟩ := hoS.row
            cases e10
            have R10 := Lib.hid r10; have HB10 := Lib.hid (gr_trans HB6.out hb10)
            clear hown hgr hcs hoS hb10 bM r10 HOP8 HOS8 HBX8
            have hE1 : ∀ W, Below wr.heap.size wr W → Calls Try.prog 12 #[_, .slice A6 cur.length c6] W _ := fun W hW => same_bytes _ A6 cur.length _ c6 _ _ cur W ((rN.out.below hW).mono hW.size) ((rW.out.below hW).mono hW.size)
            have hE2 : ∀ W, Below wr.heap.size wr W → Calls Try.prog 12 #[_, .slice (some ⟨W.heap.size, 0, none⟩) 20 20] (W.alloc (.cells (madeCells #[.int .u8 0] 20) 5)) _ := fun W hW => same_bytes _ _ 20 20 20 _ _ (List.replicate 20 0) _ ((rsp.out.below hW).mono hW.size |>.below (b_alloc W _)) (filled_spare (ns := []) (k := 20) (by rw [← zeros_filled]; exact Box.new W _ _) (by unfold maxLen; omega))
            have HE1 := Lib.hid hE1; have HE2 := Lib.hid hE2
            clear hE1 hE2
            have hmk : ∀ W : World, (Instr.makeSlice 22 (.int .i64 20) (.int .i64 20)).run Try.prog W = .ok (.slice (some ⟨W.heap.size, 0, none⟩) 20 20) (W.alloc (.cells (madeCells #[.int .u8 0] 20) 5)) := made20
            have hBE := Below.refl wr.heap.size wr
            have hcb : cur.length ≤ 6500 := by omega
            go_upto_region 18 with (fail)
            generalize hK : cur.length + 20 = K at *
            have k1 : (0 : Int) ≤ (K : Int) := by omega
            have k2 : (K : Int) ≤ 9223372036854775807 := by omega
            have k3 : (cur.length : Int) ≤ (K : Int) := by omega
            have k4 : (0 : Int) ≤ (cur.length : Int) := by omega
            have k5 : IntKind.i64.wrap ((K : Int) - (cur.length : Int)) = 20 := by rw [IntKind.wrap_i64]; omega
            have k6 : K - cur.length = 20 := by omega
            have k7 : ¬ K = cur.length := by omega
            have k8 : wrap64 ((K : Int) - (cur.length : Int)) = 20 := by unfold wrap64; omega
            have k9 : (K : Int) - (cur.length : Int) = 20 := by omega
            have k10 : IntKind.i64.wrap (20 : Int) = 20 := by rw [IntKind.wrap_i64]; omega
            have HK := Lib.hid hK
            clear hK
            go_cut [86] from 66 to 85 (fun s86 wx => Sure wr s86 wx)
            case first =>
              go_region_held3 (fun w' => Below wr.heap.size wr w') (first | exact hBE | exact hBE.drew | exact hBE.alloc hBE.size _) (first
                | (go_at_call 12
                   (with_reducible refine (HE1.out _ hBE.drew).mono ?_)
                   rintro e wE ⟨rfl, qE, hwE⟩
                   replace hBE : Below wr.heap.size wr wE := by rw [hwE]; exact below_drew hBE.drew qE
                   clear hwE)
                | (go_at_call 12
                   (with_reducible refine (HE2.out _ hBE).mono ?_)
                   rintro e wF ⟨rfl, qF, hwF⟩
                   replace hBE : Below wr.heap.size wr wF := by rw [hwF]; exact below_drew (hBE.alloc hBE.size _) qF
                   clear hwF))
              all_goals
                go_wp2_with fail
                go_meet
                exact ⟨rfl, hBE⟩
            case rest =>
              obtain ⟨rfl, hbx⟩ := hcut
              have R10' := (R10.out.below hbx).mono hbx.size
              have hB := gr_trans HB10.out hbx
              have hlen : nx.length ≤ 200 + 310 * (j + 1) := by have := HN.out; omega
              clear R10 HB10 RN6 BM6 HB
              go_wp2_with fail
              go_roundw
              case rel => exact ⟨j + 1, A9, c9, nx, by omega, by omega, by go_num, by rw [HN.out], R10', hlen, hB⟩
              case measure => simp [intOf]; omega
    · have hstop : (j < n ∧ j = 20) ∨ j = n := by omega
      have HBW := Lib.hid hb
      clear hmain hrw hcl hb HR3 HB2
      rcases hstop with ⟨hlt, hj20e⟩ | hjn
      · obtain ⟨g, o, x, e1, rfl, hg, ok, q0, q1, q2, q3, q4⟩ := (HI.out.below HBW.out).at_ j hlt
        have d20 : ((j : Int) == 20) = true := by simp; omega
        have HBA := Lib.hid (gr_trans HBW.out (b_alloc wr (.cells #[.int .i64 x.k, .int .u64 (x.N : Int), .int .i64 x.I, .bool x.b, .slice x.B x.m x.d] 29)))
        clear hj20e e1 ok HBW
        have HBX := HBA
        go_wp2_with fail
        go_loopw [14, 91] (NumsAt w ns m) (fun _ s91 _ => m - (intOf s91).toNat)
        case atStart => exact ⟨0, none, 0, by omega, by omega, rfl, by simp [shs], by simpa [shs] using RowB.none_ _ _, HBX.out⟩
        case round =>
          obtain ⟨k, A14, c14, hk, hk20, rfl, rfl, hall, hbq⟩ := hrel
          by_cases hmn : k < m ∧ k ≠ 20
          · obtain ⟨hkm, hne20⟩ := hmn
            obtain ⟨bu, ou, rfl, hlu, cu⟩ := (HU.out.below hbq).at_ k hkm
            have dk20 : ((k : Int) == 20) = false := by simp; omega
            have hkl : k < ns.length := by rw [HU.out.len]; exact hkm
            have hx := HU.out.num _ (nth_mem hkl)
            have hnx := Lib.hid (shs_next hkl)
            have hsl := shs_len HU.out.num k
            have hst := HU.out.num
            generalize nthB ns k = x at *
            have HX := Lib.hid hx; have HALL := Lib.hid hall; have HBQ := Lib.hid hbq; have HSL := Lib.hid hsl
            have SM := Lib.hid (fun W => size_any x W hx)
            have RN := Lib.hid (fun W => rput_nil x W hx)
            have TA := Lib.hid (fun W => turn_any (wrap64 (x : Int)) W (wrap64_bd _).1 (wrap64_bd _).2)
            have TR := Lib.hid (fun W => rturn_any (wrap64 (x : Int)) W (wrap64_bd _).1 (wrap64_bd _).2)
            have BA := Lib.hid (fun W => back_any (x : Int) W (by omega) (by omega))
            have BR := Lib.hid (fun W => rback_any (x : Int) W (by omega) (by omega))
            clear hx hall hbq hsl hst
            go_wp2_with fail
            refine (SM.out _).mono ?_; rintro e w5 ⟨rfl, rfl⟩
            go_wp2_with fail
            refine (RN.out _).mono ?_; rintro e w5 ⟨⟨A5, c5, rfl⟩, hb5⟩
            have HB5 := Lib.hid hb5
            clear hb5
            go_wp2_with fail
            refine (TA.out _).mono ?_; rintro e w6 ⟨rfl, rfl⟩
            go_wp2_with fail
            refine (TR.out _).mono ?_; rintro e w6 ⟨rfl, rfl⟩
            go_wp2_with fail
            refine (BA.out _).mono ?_; rintro e w6 ⟨rfl, rfl⟩
            go_wp2_with fail
            refine (BR.out _).mono ?_; rintro e w6 ⟨rfl, rfl⟩
            have rp := rput_any A14 (shs (ns.take k)).length c14 x (shs (ns.take k)) w5 ((HALL.out.below HB5.out).mono HB5.out.size) (by have := HSL.out; omega) HX.out
            have RP := Lib.hid rp
            clear rp
            go_wp2_with fail
            refine RP.out.mono ?_; rintro e w7 ⟨v7, rfl, ho7, hb7⟩
            obtain ⟨A7', c7', rfl, r7⟩ := ho7.row
            have HB7 := Lib.hid (gr_trans (gr_trans HBQ.out HB5.out) hb7)
            have R7 := Lib.hid r7
            clear ho7 hb7 r7 RP cu
            go_wp2_with fail
            go_roundw
            case rel => exact ⟨k + 1, A7', c7', by omega, by omega, by go_num, by rw [hnx.out]; first | rfl | simp, by rw [hnx.out]; exact R7.out, HB7.out⟩
            case measure => simp [intOf]; omega
          · have HALL := Lib.hid hall; have HBQ := Lib.hid hbq
            have hkk : (min (m : Int) (20 : Int)).toNat = k := by omega
            have hmx : max (min (m : Int) (20 : Int)) 0 = (k : Int) := by omega
            have htk := Lib.hid (show shs (ns.take k) = shs (ns.take k) from rfl)
            have HKK := Lib.hid hkk
            have hstop2 : (k < m ∧ k = 20) ∨ k = m := by omega
            have HBQ2 := HBQ
            have pn := put_any none U 0 0 k d [] (ns.take k) wr (RowB.none_ _ _) (by omega) (((HU.out.below HBQ.out).few hk).mono HBQ.out.size) (by omega)
            have PN := Lib.hid pn
            clear hall hbq hmn hkk hmx pn
            rcases hstop2 with ⟨hkm, hk20e⟩ | hkm
            · obtain ⟨bu, ou, rfl, hlu, cu⟩ := (HU.out.below HBQ.out).at_ k hkm
              have dk20 : ((k : Int) == 20) = true := by simp; omega
              have HE := Lib.hid hk20e
              clear hk20e
              go_wp2_with fail
              rw [HKK.out]
              refine PN.out.mono ?_; rintro e w7 ⟨v7, rfl, ho7, hb7⟩
              obtain ⟨A7', c7', rfl, r7⟩ := ho7.row
              go_wp2_with fail
              refine (same_bytes _ _ _ _ _ _ _ (shs (ns.take k)) _ r7 (HALL.out.below hb7)).mono ?_; rintro e w8 ⟨rfl, q8, hw8⟩
              have hb8 : Below w.heap.size w w8 := by rw [hw8]; exact below_drew (gr_trans HBQ.out hb7) q8
              clear hw8
              go_wp2_with fail
              go_ret
              exact ⟨rfl, hb8⟩
            · have HE := Lib.hid hkm
              have hkn : ¬ k < m := by omega
              clear hkm
              go_wp2_with fail
              rw [HKK.out]
              refine PN.out.mono ?_; rintro e w7 ⟨v7, rfl, ho7, hb7⟩
              obtain ⟨A7', c7', rfl, r7⟩ := ho7.row
              go_wp2_with fail
              refine (same_bytes _ _ _ _ _ _ _ (shs (ns.take k)) _ r7 (HALL.out.below hb7)).mono ?_; rintro e w8 ⟨rfl, q8, hw8⟩
              have hb8 : Below w.heap.size w w8 := by rw [hw8]; exact below_drew (gr_trans HBQ.out hb7) q8
              clear hw8
              go_wp2_with fail
              go_ret
              exact ⟨rfl, hb8⟩
      · have HJ := Lib.hid hjn
        have hnl : ¬ j < n := by omega
        clear hjn
        have HBX := HBW
        go_wp2_with fail
        go_loopw [14, 91] (NumsAt w ns m) (fun _ s91 _ => m - (intOf s91).toNat)
        case atStart => exact ⟨0, none, 0, by omega, by omega, rfl, by simp [shs], by simpa [shs] using RowB.none_ _ _, HBX.out⟩
        case round =>
          obtain ⟨k, A14, c14, hk, hk20, rfl, rfl, hall, hbq⟩ := hrel
          by_cases hmn : k < m ∧ k ≠ 20
          · obtain ⟨hkm, hne20⟩ := hmn
            obtain ⟨bu, ou, rfl, hlu, cu⟩ := (HU.out.below hbq).at_ k hkm
            have dk20 : ((k : Int) == 20) = false := by simp; omega
            have hkl : k < ns.length := by rw [HU.out.len]; exact hkm
            have hx := HU.out.num _ (nth_mem hkl)
            have hnx := Lib.hid (shs_next hkl)
            have hsl := shs_len HU.out.num k
            have hst := HU.out.num
            generalize nthB ns k = x at *
            have HX := Lib.hid hx; have HALL := Lib.hid hall; have HBQ := Lib.hid hbq; have HSL := Lib.hid hsl
            have SM := Lib.hid (fun W => size_any x W hx)
            have RN := Lib.hid (fun W => rput_nil x W hx)
            have TA := Lib.hid (fun W => turn_any (wrap64 (x : Int)) W (wrap64_bd _).1 (wrap64_bd _).2)
            have TR := Lib.hid (fun W => rturn_any (wrap64 (x : Int)) W (wrap64_bd _).1 (wrap64_bd _).2)
            have BA := Lib.hid (fun W => back_any (x : Int) W (by omega) (by omega))
            have BR := Lib.hid (fun W => rback_any (x : Int) W (by omega) (by omega))
            clear hx hall hbq hsl hst
            go_wp2_with fail
            refine (SM.out _).mono ?_; rintro e w5 ⟨rfl, rfl⟩
            go_wp2_with fail
            refine (RN.out _).mono ?_; rintro e w5 ⟨⟨A5, c5, rfl⟩, hb5⟩
            have HB5 := Lib.hid hb5
            clear hb5
            go_wp2_with fail
            refine (TA.out _).mono ?_; rintro e w6 ⟨rfl, rfl⟩
            go_wp2_with fail
            refine (TR.out _).mono ?_; rintro e w6 ⟨rfl, rfl⟩
            go_wp2_with fail
            refine (BA.out _).mono ?_; rintro e w6 ⟨rfl, rfl⟩
            go_wp2_with fail
            refine (BR.out _).mono ?_; rintro e w6 ⟨rfl, rfl⟩
            have rp := rput_any A14 (shs (ns.take k)).length c14 x (shs (ns.take k)) w5 ((HALL.out.below HB5.out).mono HB5.out.size) (by have := HSL.out; omega) HX.out
            have RP := Lib.hid rp
            clear rp
            go_wp2_with fail
            refine RP.out.mono ?_; rintro e w7 ⟨v7, rfl, ho7, hb7⟩
            obtain ⟨A7', c7', rfl, r7⟩ := ho7.row
            have HB7 := Lib.hid (gr_trans (gr_trans HBQ.out HB5.out) hb7)
            have R7 := Lib.hid r7
            clear ho7 hb7 r7 RP cu
            go_wp2_with fail
            go_roundw
            case rel => exact ⟨k + 1, A7', c7', by omega, by omega, by go_num, by rw [hnx.out]; first | rfl | simp, by rw [hnx.out]; exact R7.out, HB7.out⟩
            case measure => simp [intOf]; omega
          · have HALL := Lib.hid hall; have HBQ := Lib.hid hbq
            have hkk : (min (m : Int) (20 : Int)).toNat = k := by omega
            have hmx : max (min (m : Int) (20 : Int)) 0 = (k : Int) := by omega
            have htk := Lib.hid (show shs (ns.take k) = shs (ns.take k) from rfl)
            have HKK := Lib.hid hkk
            have hstop2 : (k < m ∧ k = 20) ∨ k = m := by omega
            have HBQ2 := HBQ
            have pn := put_any none U 0 0 k d [] (ns.take k) wr (RowB.none_ _ _) (by omega) (((HU.out.below HBQ.out).few hk).mono HBQ.out.size) (by omega)
            have PN := Lib.hid pn
            clear hall hbq hmn hkk hmx pn
            rcases hstop2 with ⟨hkm, hk20e⟩ | hkm
            · obtain ⟨bu, ou, rfl, hlu, cu⟩ := (HU.out.below HBQ.out).at_ k hkm
              have dk20 : ((k : Int) == 20) = true := by simp; omega
              have HE := Lib.hid hk20e
              clear hk20e
              go_wp2_with fail
              rw [HKK.out]
              refine PN.out.mono ?_; rintro e w7 ⟨v7, rfl, ho7, hb7⟩
              obtain ⟨A7', c7', rfl, r7⟩ := ho7.row
              go_wp2_with fail
              refine (same_bytes _ _ _ _ _ _ _ (shs (ns.take k)) _ r7 (HALL.out.below hb7)).mono ?_; rintro e w8 ⟨rfl, q8, hw8⟩
              have hb8 : Below w.heap.size w w8 := by rw [hw8]; exact below_drew (gr_trans HBQ.out hb7) q8
              clear hw8
              go_wp2_with fail
              go_ret
              exact ⟨rfl, hb8⟩
            · have HE := Lib.hid hkm
              have hkn : ¬ k < m := by omega
              clear hkm
              go_wp2_with fail
              rw [HKK.out]
              refine PN.out.mono ?_; rintro e w7 ⟨v7, rfl, ho7, hb7⟩
              obtain ⟨A7', c7', rfl, r7⟩ := ho7.row
              go_wp2_with fail
              refine (same_bytes _ _ _ _ _ _ _ (shs (ns.take k)) _ r7 (HALL.out.below hb7)).mono ?_; rintro e w8 ⟨rfl, q8, hw8⟩
              have hb8 : Below w.heap.size w w8 := by rw [hw8]; exact below_drew (gr_trans HBQ.out hb7) q8
              clear hw8
              go_wp2_with fail
              go_ret
              exact ⟨rfl, hb8⟩
end Go.Proofs.Ytnppkobckabpcaa
