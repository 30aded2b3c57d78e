/- WheelFull: walked. -/
import Derived.Test.YtidgiohjgkfjcaaDoorQHolds
import Derived.Test.YtidgiohjgkfjcaaDoorQRPut
namespace Go.Proofs.YtidgiohjgkfjcaaDoor
open Go.RowKit

/-- A row whose block is not p stands, whatever becomes of p. -/
def OffP (p : Nat) (A : Option Addr) : Prop := ∀ b o s, A = some ⟨b, o, s⟩ → b ≠ p
theorem DuesR.onlyP {w w' : World} {p n c : Nat} {A : Option Addr} {l : List (Int × Int)} (h : DuesR w w.heap.size A n c l) (ho : Only p w w') (hp : OffP p A) : DuesR w' w'.heap.size A n c l :=
  ⟨h.len, h.cap, h.top, fun k r hk => by
    obtain ⟨b, o, e, hl, h0, h1⟩ := h.at_ k r hk
    have hb := ho.block b hl (hp b o none e)
    refine ⟨b, o, e, Nat.lt_of_lt_of_le hl ho.size, ?_, ?_⟩
    · rw [← h0]; unfold World.cell?; dsimp only; rw [hb]
    · rw [← h1]; unfold World.cell?; dsimp only; rw [hb]⟩
theorem OffP.new {p B : Nat} {A' A : Option Addr} (h : NewRow B A' A) (hp : p < B) (ha : OffP p A) : OffP p A' := by
  rcases h with rfl | h
  · exact ha
  · intro b o s e; have := h b o s e; omega
theorem OffP.none_ (p : Nat) : OffP p none := fun _ _ _ e => by cases e
theorem Wh.far [Rows] {w w' : World} {B p q : Nat} {t : Int} {l : List (Int × Int)} {ty : TypeId} {cs : Array Value} (h : Wh w B p t l) (ho : Only q w w') (hne : p ≠ q) (hB : B ≤ w.heap.size) (hq : QBox w q ty cs) (hty : ty ≠ 39) : Wh w' B p t l := by
  obtain ⟨V, hV, hX⟩ := h.at_
  refine ⟨h.right, ⟨V, hV.keep (ho.block p hV.lt hne) (fun b hb cs' f hc => ho.block b (by omega) fun e => ?_), hX⟩, h.pos⟩
  subst e
  unfold QBox at hq
  rw [hq] at hc
  cases hc
  exact hty rfl
theorem Mine.far [Rows] {w0 w w' : World} {p q : Nat} {t : Int} {l : List (Int × Int)} {ty : TypeId} {cs : Array Value} (h : Mine w0 w p t l) (ho : Only q w w') (hne : p ≠ q) (hq : QBox w q ty cs) (hty : ty ≠ 39) (hl : w0.heap.size ≤ q) : Mine w0 w' p t l :=
  ⟨(h.wh.far ho hne (Nat.le_refl _) hq hty).mono ho.size, ho.drop h.b hl, h.low⟩
theorem Only.set2 {p : Nat} (w : World) (i j : Nat) (u v : Value) : Only p w ((w.setCell ⟨p, i, none⟩ u).setCell ⟨p, j, none⟩ v) := (Only.set p i w u).trans (Only.set p j _ v)
theorem Mine.lt {w0 w : World} {p : Nat} {t : Int} {l : List (Int × Int)} (h : Mine w0 w p t l) : p < w.heap.size := by obtain ⟨V, hV, _⟩ := h.wh.at_; exact hV.lt
/-- What the full wheel's rounds come to. -/
def fullQ (u f : Int) (k : Nat) : Int × Int := (u + 1 + (k : Int) * f, (k : Int))
theorem full_put {u f : Int} {k : Nat} {l : List (Int × Int)} (h0 : 0 ≤ u) (h1 : u < 68719476736) (f0 : 0 ≤ f) (f1 : f < 1048576) (hk : k < 65) (hl : l.length = min k 64) (hd : ∀ d ∈ l, d.2 < (k : Int)) :
    (putQ u l (fullQ u f k)).length = min (k + 1) 64 ∧ ∀ d ∈ putQ u l (fullQ u f k), d.2 < ((k + 1 : Nat) : Int) := by
  have hm : (k : Int) * f ≤ 64 * f := Int.mul_le_mul_of_nonneg_right (by omega) f0
  have hm0 : 0 ≤ (k : Int) * f := Int.mul_nonneg (by omega) f0
  by_cases h64 : k = 64
  · have he : putE u l (fullQ u f k) ≠ 0 := by
      intro e
      have := (putE_zero.1 e).2.2.2
      omega
    have : putQ u l (fullQ u f k) = l := by unfold putQ; rw [if_neg he]
    rw [this]
    exact ⟨by omega, fun d hdm => by have := hd d hdm; omega⟩
  · have he : putE u l (fullQ u f k) = 0 := putE_zero.2 ⟨by unfold fullQ; dsimp only; omega, ⟨by unfold fullQ; dsimp only; omega, by unfold fullQ topQ; dsimp only; omega⟩, fun x hx => by have := hd x hx; unfold fullQ; dsimp only; omega, by omega⟩
    have hq : putQ u l (fullQ u f k) = insQ (fullQ u f k) l := by unfold putQ; rw [if_pos he]
    refine ⟨?_, fun d hdm => ?_⟩
    · rw [hq, insQ_len]; omega
    · rcases putQ_mem.1 hdm with h | ⟨rfl, _⟩
      · have := hd d h; omega
      · unfold fullQ; dsimp only; omega

set_option maxRecDepth 100000 in
set_option maxHeartbeats 2000000 in
theorem full_law (a b : Int) (w : World) (_ha : -9223372036854775808 ≤ a ∧ a ≤ 9223372036854775807) (hb : 0 ≤ b ∧ b ≤ 4294967295) (hT : Tab w) (hg : 0 < w.heap.size) :
    Calls Tryd.prog 4 #[.int .i64 a, .int .u32 b] w fun e w' => e = .returned (.bool true) ∧ Below w.heap.size w w' := by
  obtain ⟨u, hu⟩ : ∃ u, (IntKind.u64.wrap a).tmod 68719476736 = u := ⟨_, rfl⟩
  obtain ⟨f, hf⟩ : ∃ f, b.tmod 1048576 = f := ⟨_, rfl⟩
  have hu0 : 0 ≤ u ∧ u < 68719476736 := by
    rw [← hu, IntKind.wrap_u64, Int.tmod_eq_emod_of_nonneg (by omega)]
    omega
  have hf0 : 0 ≤ f ∧ f < 1048576 := by
    rw [← hf, Int.tmod_eq_emod_of_nonneg hb.1]
    omega
  have hwu : IntKind.i64.wrap u = u := by rw [IntKind.wrap_i64]; omega
  have hwu1 : IntKind.i64.wrap (u + 1) = u + 1 := by rw [IntKind.wrap_i64]; omega
  have hwf : IntKind.i64.wrap f = f := by rw [IntKind.wrap_i64]; omega
  have HU := Lib.hid hu0; have HF := Lib.hid hf0
  clear hb
  go_enter Tryd.func4, Tryd.ntmps4
  go_wp2_with fail
  refine (wakes_any9 w hT hg).mono ?_
  rintro e w1 ⟨rfl, hb1⟩
  have HB1 := Lib.hid hb1
  clear hb1
  go_wp2_with fail
  refine (mine_new w u w1 ⟨HU.out.1, by have := HU.out.2; unfold topQ; omega⟩ HB1.out).mono ?_
  rintro e w2 ⟨rfl, m2, hb2⟩
  have M2 := Lib.hid m2; have HS2 := Lib.hid (show w1.heap.size < w2.heap.size from (by
    obtain ⟨V, hV, _⟩ := m2.wh.at_
    exact hV.lt))
  have hQ2 := QBox.new w2 31 #[.int .i64 u, .slice none 0 0]
  have hM2 := m2.on ((Below.refl _ _).alloc (Nat.le_refl _) (.cells #[.int .i64 u, .slice none 0 0] 31))
  have hs3 : w2.heap.size < (w2.alloc (.cells #[.int .i64 u, .slice none 0 0] 31)).heap.size := by simp
  clear m2 hb2
  go_wp2_with fail
  generalize w2.alloc (.cells #[.int .i64 u, .slice none 0 0] 31) = W3 at *
  generalize w1.heap.size = p at *
  generalize w2.heap.size = g at *
  have HM := Lib.hid hM2; have HQ := Lib.hid hQ2
  clear hM2 hQ2 hs3
  have HS := HS2
  clear HS2
  have hgw := Lib.hid (show w.heap.size ≤ g from by have := HM.out.low; have := HS.out; omega)
  go_loopw [27] (fun i wr => ∃ (k : Nat) (l : List (Int × Int)) (A : Option Addr) (c : Nat), k ≤ 65 ∧ i = .int .i64 k ∧ Mine w wr p u l ∧ QBox wr g 31 #[.int .i64 u, .slice A l.length c] ∧ DuesR wr wr.heap.size A l.length c l ∧ Hid (OffP p A) ∧ Hid (OffP g A) ∧ Hid (l.length = min k 64 ∧ ∀ d ∈ l, d.2 < (k : Int))) (fun i _ => 65 - (intOf i).toNat)
  case atStart => exact ⟨0, [], none, 0, by omega, rfl, HM.out, HQ.out, .none_ _ _, Lib.hid (OffP.none_ _), Lib.hid (OffP.none_ _), Lib.hid ⟨rfl, fun d h => by simp at h⟩⟩
  case round =>
    clear HM HQ
    obtain ⟨k, l, A, c, hk, rfl, hm, hq, hr, HO, HG, HL⟩ := hrel
    by_cases hlt : k < 65
    · have hm0 : 0 ≤ (k : Int) * f := Int.mul_nonneg (by omega) hf0.1
      have hm1 : (k : Int) * f ≤ 64 * f := Int.mul_le_mul_of_nonneg_right (by omega) hf0.1
      obtain ⟨x, hx⟩ : ∃ x, (k : Int) * f = x := ⟨_, rfl⟩
      rw [hx] at hm0 hm1
      have hwx : IntKind.i64.wrap x = x := by rw [IntKind.wrap_i64]; omega
      have hwy : IntKind.i64.wrap (u + 1 + x) = u + 1 + x := by rw [IntKind.wrap_i64]; omega
      have hwk : IntKind.u64.wrap (k : Int) = k := by rw [IntKind.wrap_u64]; omega
      obtain ⟨q0, q1, q2, q3⟩ := hq.two
      have HX := Lib.hid (show fullQ u f k = (u + 1 + x, (k : Int)) by unfold fullQ; rw [hx])
      have HFP := full_put hu0.1 hu0.2 hf0.1 hf0.2 hlt HL.out.1 HL.out.2
      have HB0 := (Below.refl wr.heap.size wr).alloc (Nat.le_refl _) (.cells #[.int .i64 (u + 1 + x), .int .u64 (k : Int)] 39)
      have hm4 := hm.on HB0
      have hq4 := hq.alloc (.cells #[.int .i64 (u + 1 + x), .int .u64 (k : Int)] 39)
      have hr4 := (hr.below HB0).mono HB0.size
      have hd4 := QBox.new wr 39 #[.int .i64 (u + 1 + x), .int .u64 (k : Int)]
      have hpl := hm.lt
      have hgl := hq.lt
      have hnp := Nat.ne_of_gt hpl
      have hng := Nat.ne_of_lt hgl
      rw [HX.out] at HFP
      clear hm hq hr HB0
      go_wp2_with fail
      generalize wr.alloc (.cells #[.int .i64 (u + 1 + x), .int .u64 (k : Int)] 39) = W4 at *
      refine (mine_put (u + 1 + x, (k : Int)) (by dsimp only; omega) hm4 hT hg).mono ?_
      rintro e w5 ⟨rfl, m5, o5⟩
      obtain ⟨pe, hpe⟩ : ∃ pe, putE u l (u + 1 + x, (k : Int)) = pe := ⟨_, rfl⟩
      rw [hpe]
      have HPE := Lib.hid hpe
      have hgp : g ≠ p := by have := HS.out; omega
      have hq5 := hq4.onlyP o5 hgp
      have hd5 := hd4.onlyP o5 hnp
      have hr5 := hr4.onlyP o5 HO.out
      obtain ⟨c0, c1, c2, c3⟩ := hq5.two
      obtain ⟨c4, c5, _, _⟩ := hd5.two
      have HM5 := Lib.hid m5; have HQ5 := Lib.hid hq5; have HR5 := Lib.hid hr5
      clear hm4 hq4 hr4 hd4 q0 q1 q2 q3 m5 o5 hq5 hd5 hr5 hpe
      go_wp2_with fail
      refine (rput_any u A l.length c l (u + 1 + x, (k : Int)) _ HR5.out (by have := HL.out.1; omega)).mono ?_
      rintro e w6 ⟨A', c', rfl, hr6, hb6, hn6⟩
      rw [HPE.out]
      have hl6 := HL.out.1
      obtain ⟨l', hl'⟩ : ∃ l', putQ u l (u + 1 + x, (k : Int)) = l' := ⟨_, rfl⟩
      have HM6 := HM5.out.on hb6
      rw [hl'] at hr6 HFP HM6 ⊢
      have HO6 := Lib.hid (OffP.new hn6 HM5.out.lt HO.out)
      have HG6 := Lib.hid (OffP.new hn6 HQ5.out.lt HG.out)
      have HQ6 := HQ5.out.belowAll hb6
      have HM6' := Lib.hid HM6; have HQ6' := Lib.hid HQ6; have HR6 := Lib.hid hr6; have HFP' := Lib.hid HFP
      have hwg := hgw.out
      obtain ⟨d0, d1, d2, d3⟩ := HQ6.two
      clear c0 c1 c2 c3 c4 c5 hb6 hn6 HM6 HQ6 hr6 HFP hl' HPE
      unfold wheelV
      go_wp2_with fail
      go_roundw
      case rel =>
        refine ⟨k + 1, l', A', c', by omega, by go_num, ?_, HQ6'.out.set2 _ _, ?_, HO6, HG6, Lib.hid HFP'.out⟩
        · exact HM6'.out.far (Only.set2 _ _ _ _ _) (Ne.symm hgp) HQ6'.out (by decide) hwg
        · exact HR6.out.onlyP (Only.set2 _ _ _ _ _) HG6.out
      case measure => simp [intOf]; omega
    · have hk65 : k = 65 := by omega
      have hl64 : l.length = 64 := by have := HL.out.1; omega
      obtain ⟨q0, q1, q2, q3⟩ := hq.two
      have HL64 := Lib.hid hl64
      have HMx := Lib.hid hm; have HRx := Lib.hid hr
      clear hm hq hr hl64 hk65
      go_wp2_with fail
      obtain ⟨x1, x2, _⟩ := HMx.out.tab hT hg
      refine (holds_any9 p u A c l wr HMx.out.wh HRx.out x1 x2).mono ?_
      rintro e w7 ⟨rfl, hb7⟩
      have HM7 := Lib.hid (HMx.out.on hb7)
      clear q0 q1 q2 q3 x1 x2 hb7
      go_wp2_with fail
      refine (mine_len HM7.out hT hg).mono ?_
      rintro e w8 ⟨rfl, m8, _⟩
      rw [HL64.out]
      have HM8 := Lib.hid m8.b
      clear m8
      go_wp2_with fail
      go_ret
      exact ⟨rfl, HM8.out⟩
end Go.Proofs.YtidgiohjgkfjcaaDoor
