/- holds: what a wheel tells against the document's: walked. -/
import Derived.Test.YtidgiohjgkfjcaaDoorQWakes
import Derived.Test.YtidgiohjgkfjcaaDoorQRPut
import Derived.Test.YtidgiohjgkfjcaaDoorQRPlace
import Derived.Test.YtidgiohjgkfjcaaDoorQSlices
namespace Go.Proofs.YtidgiohjgkfjcaaDoor
open Go.RowKit

theorem place_in [Rows] (p : Nat) (t : Int) (l : List (Int × Int)) (d : Int × Int) (w : World) (hW : Wh w w.heap.size p t l) (hd : d ∈ l) (hT : Tab w) (hg : 0 < w.heap.size) :
    Calls Tryd.prog 19 #[.pointer (some ⟨p, 0, none⟩), .int .u64 d.2] w fun e w' => e = .returned (.tuple #[.int .i64 (placeQ t d.1).1, .int .i64 (placeQ t d.1).2, .bool true]) ∧ Below w.heap.size w w' := by
  refine (place_any p t d.2 l w hW hT hg).mono ?_
  rintro e w' ⟨hv, hb⟩
  refine ⟨?_, hb⟩
  rcases hv with ⟨d', hd', hn, rfl⟩ | ⟨hno, rfl⟩
  · rw [nums_one hW.right.nums hd' hd hn]
  · exact absurd rfl (hno d hd)
theorem rplace_in (t : Int) (u : Int) (w : World) (h0 : 0 ≤ t) (h1 : t < u) (h2 : u ≤ topQ) :
    Calls Tryd.prog 45 #[.int .i64 t, .int .i64 u] w fun e w' => e = .returned (.tuple #[.int .i64 (placeQ t u).1, .int .i64 (placeQ t u).2]) ∧ Below w.heap.size w w' := by
  obtain ⟨a, rfl⟩ := Int.eq_ofNat_of_zero_le h0
  obtain ⟨b, rfl⟩ := Int.eq_ofNat_of_zero_le (show 0 ≤ u by omega)
  refine (rplace_any a b w (by omega) (by unfold topQ at h2; omega)).mono ?_
  rintro e w' ⟨rfl, q, rfl⟩
  exact ⟨rfl, rfl, rfl, rfl, Nat.le_refl _, fun _ _ => rfl⟩
/-- The world taken as a letter, with what is kept of it. -/
theorem wp_world {P : Program} {c : Code} {Q : Exit → Act → World → Prop} {a : Act} {W : World} (I : World → Prop) (hI : I W) (h : ∀ W', I W' → c.wp P Q a W') : c.wp P Q a W := h W hI
theorem firstV_case (l : List (Int × Int)) : ∃ f0 f1 b, firstV l = .tuple #[.agg #[.int .i64 f0, .int .u64 f1], .bool b] ∧ b = decide (0 < (l.length : Int)) ∧ (b = true → l[0]? = some (f0, f1)) ∧ (b = false → f0 = 0 ∧ f1 = 0) := by
  cases l with
  | nil => exact ⟨0, 0, false, rfl, rfl, by simp, fun _ => ⟨rfl, rfl⟩⟩
  | cons d l => exact ⟨d.1, d.2, true, rfl, by rw [List.length_cons]; simp, by simp, by simp⟩

set_option maxRecDepth 100000 in
set_option maxHeartbeats 2000000 in
theorem holds_any9 (p : Nat) (t : Int) (A : Option Addr) (c : Nat) (l : List (Int × Int)) (w : World) (hW : Wh w w.heap.size p t l) (hr : DuesR w w.heap.size A l.length c l) (hT : Tab w) (hg : 0 < w.heap.size) :
    Calls Tryd.prog 20 #[.pointer (some ⟨p, 0, none⟩), wheelV t A l.length c] w fun e w' => e = .returned (.bool true) ∧ Below w.heap.size w w' := by
  have hcap := hr.cap
  have htop := hr.top
  unfold maxLen at htop
  obtain ⟨f0, f1, b, hf, hb, hft, hff⟩ := firstV_case l
  obtain ⟨n, hn⟩ : ∃ n, n = l.length := ⟨_, rfl⟩
  have hn64 := hW.right.len
  rw [← hn] at hb hr hn64 hcap ⊢
  unfold wheelV
  have HN := Lib.hid hn
  have HF := Lib.hid hf
  have HR := Lib.hid hW.right
  have HALL := Lib.hid (fun (W : World) (hb : Below w.heap.size w W) => (⟨⟨hW.on hb, hT.below hg hb, Nat.lt_of_lt_of_le hg hb.size, (hr.below hb).mono hb.size⟩⟩ : PLift (Wh W W.heap.size p t l ∧ Tab W ∧ 0 < W.heap.size ∧ DuesR W W.heap.size A n c l)).down)
  have hB0 : Below w.heap.size w (w.alloc (.cells #[.int .i64 t, .slice A n c] 31)) := (Below.refl _ _).alloc (Nat.le_refl _) _
  have bR := QBox.new w 31 #[.int .i64 t, .slice A n c]
  clear hf hW hr hn
  go_enter Tryd.func20, Tryd.ntmps20
  go_wp2_with fail
  generalize hW0 : w.alloc (.cells #[.int .i64 t, .slice A n c] 31) = W0 at *
  clear hW0
  obtain ⟨x1, x2, x3, x4⟩ := HALL.out _ hB0
  refine (first_wh p t l W0 x1 x2 x3).mono ?_
  rintro e w1 ⟨rfl, hb1⟩
  rw [HF.out]
  clear x1 x2 x3 x4
  have bR1 := bR.belowAll hb1
  have hB1 := hB0.trans (hb1.mono hB0.size)
  clear hB0 hb1 bR
  obtain ⟨r0, r1, _, _⟩ := bR1.two
  have HB1 := Lib.hid hB1; have HR1 := Lib.hid bR1
  have bF := QBox.new w1 39 #[.int .i64 f0, .int .u64 f1]
  have hlR := bR1.lt
  have hnR := Nat.ne_of_lt hlR
  have hszR : w1.heap.size ≠ w1.heap.size + 1 := by omega
  clear hB1 bR1
  rcases b with _ | _
  · obtain ⟨rfl, rfl⟩ := hff rfl
    have hd : decide (0 < (n : Int)) = false := hb.symm
    have hd2 : decide (0 < n) = false := decide_eq_false (by have := of_decide_eq_false hd; omega)
    have hd3 : ¬ 0 < n := of_decide_eq_false hd2
    clear hb hff hft
    go_wp2_with fail
    go_region
    go_wp2_with fail
    refine wp_world (I := fun Z => QBox Z w.heap.size 31 #[.int .i64 t, .slice A n c] ∧ QBox Z w1.heap.size 39 #[.int .i64 0, .int .u64 0] ∧ QBox Z (w1.heap.size + 1) 39 #[.int .i64 0, .int .u64 0] ∧ Below w.heap.size w Z)
      (by exact ⟨(HR1.out.alloc _).alloc _, bF.alloc _, (by have := QBox.new (w1.alloc (.cells #[.int .i64 0, .int .u64 0] 39)) 39 #[.int .i64 0, .int .u64 0]; simpa using this : QBox ((w1.alloc (.cells #[.int .i64 0, .int .u64 0] 39)).alloc (.cells #[.int .i64 0, .int .u64 0] 39)) (w1.heap.size + 1) 39 #[.int .i64 0, .int .u64 0]), ((HB1.out.alloc HB1.out.size _).alloc (by have := HB1.out.size; simp; omega) _).drew⟩) ?_
    clear bF
    rintro W2 ⟨b3, b5, b7, hb2⟩
    have hl3 := b3.lt; have hl5 := b5.lt; have hl7 := b7.lt
    have HB := Lib.hid hb2
    have H3 := Lib.hid b3; have H5 := Lib.hid b5; have H7 := Lib.hid b7
    have HA2 := Lib.hid (fun (W : World) (hb : Below W2.heap.size W2 W) => HALL.out W (HB.out.trans (hb.mono HB.out.size)))
    have HH := Lib.hid (fun (W' : World) (hW : Below W2.heap.size W2 W') => (⟨by
      obtain ⟨a0, a1, _, _⟩ := (H3.out.belowAll hW).two
      obtain ⟨a2, a3, _, _⟩ := (H5.out.belowAll hW).two
      obtain ⟨a4, a5, _, _⟩ := (H7.out.belowAll hW).two
      exact ⟨a0, a1, a2, a3, a4, a5⟩⟩ : PLift (W'.cell? ⟨w.heap.size, 0, none⟩ = some (.int .i64 t) ∧ W'.cell? ⟨w.heap.size, 1, none⟩ = some (.slice A n c) ∧ W'.cell? ⟨w1.heap.size, 0, none⟩ = some (.int .i64 0) ∧ W'.cell? ⟨w1.heap.size, 1, none⟩ = some (.int .u64 0) ∧ W'.cell? ⟨w1.heap.size + 1, 0, none⟩ = some (.int .i64 0) ∧ W'.cell? ⟨w1.heap.size + 1, 1, none⟩ = some (.int .u64 0))).down)
    have hBE := Below.refl W2.heap.size W2
    clear hb2 b3 b5 b7
    go_region_held3 (fun W' => W'.cell? ⟨w.heap.size, 0, none⟩ = some (.int .i64 t) ∧ W'.cell? ⟨w.heap.size, 1, none⟩ = some (.slice A n c) ∧ W'.cell? ⟨w1.heap.size, 0, none⟩ = some (.int .i64 0) ∧ W'.cell? ⟨w1.heap.size, 1, none⟩ = some (.int .u64 0) ∧ W'.cell? ⟨w1.heap.size + 1, 0, none⟩ = some (.int .i64 0) ∧ W'.cell? ⟨w1.heap.size + 1, 1, none⟩ = some (.int .u64 0)) ((refine HH.out _ ?_; repeat (first | exact hBE | refine Below.drew ?_))) (first
      | (go_at_call 26; (with_reducible refine (now_wh p t l _ (HA2.out _ (by first | exact hBE | exact hBE.drew)).1).mono ?_); rintro e w' ⟨rfl, rfl⟩)
      | (go_at_call 24; (with_reducible refine (len_wh p t l _ (HA2.out _ (by first | exact hBE | exact hBE.drew)).1 (HA2.out _ (by first | exact hBE | exact hBE.drew)).2.1 (HA2.out _ (by first | exact hBE | exact hBE.drew)).2.2.1).mono ?_); rintro e w5 ⟨rfl, hb5⟩; rw [← HN.out]; (have hqe := (show Below W2.heap.size W2 w5 by first | exact hBE.trans (hb5.mono hBE.size) | exact hBE.drew.trans (hb5.mono hBE.size))); replace hBE := hqe; clear hqe hb5)
      | (go_at_call 23; (have hq := HA2.out _ hBE); (with_reducible refine (all_wh p t l _ hq.1 hq.2.1 hq.2.2.1).mono ?_); rintro e w6 ⟨v, rfl, ho6, hb6⟩; (obtain ⟨A6, c6, rfl, hr6⟩ := ho6.row); rw [← HN.out] at hr6 ⊢; (have hcap6 := hr6.cap); (have HR6 := Lib.hid hr6); (have hqe := hBE.trans (hb6.mono hBE.size)); replace hBE := hqe; clear hqe hb6 hq hr6 ho6)
      | (go_at_call 18; (with_reducible refine (equal_dues A6 A n c6 c _ _ l _ HR6.out (HA2.out _ hBE).2.2.2).mono ?_); rintro e w7 ⟨rfl, q7, rfl⟩; replace hBE := (show Below W2.heap.size W2 (w6.drewN q7) from ⟨hBE.os, hBE.tape, hBE.output, hBE.size, hBE.block⟩)))
    have HB7 := Lib.hid (HB.out.trans (hBE.mono HB.out.size))
    have HR7 := Lib.hid (H3.out.belowAll hBE)
    generalize w6.drewN q7 = W7 at *
    clear hBE
    have hc0 := HR7.out.two.1; have hc1 := HR7.out.two.2.1
    go_wp2_with fail
    go_loopw [65] (fun i wr => ∃ k : Nat, k ≤ n ∧ i = .int .i64 k ∧ Below w.heap.size w wr ∧ QBox wr w.heap.size 31 #[.int .i64 t, .slice A n c]) (fun i _ => n - (intOf i).toNat)
    case atStart => exact ⟨0, by omega, rfl, HB7.out, HR7.out⟩
    case round =>
      obtain ⟨k, hk, rfl, hbr, hqr⟩ := hrel
      have HBR := Lib.hid hbr; have HQR := Lib.hid hqr
      by_cases hlt : k < n
      · exact absurd hlt (by omega)
      · go_wp2_with fail
        go_ret
        exact ⟨rfl, HBR.out⟩
  · have hd : decide (0 < (n : Int)) = true := hb.symm
    have hi0 : (0 : Int) < (n : Int) := of_decide_eq_true hd
    have HT0 := Lib.hid (hft rfl)
    clear hb hff hft
    go_wp2_with fail
    go_region
    obtain ⟨b0, o0, rfl, hl0, y0, y1⟩ := (HALL.out _ HB1.out).2.2.2.at_ 0 _ HT0.out
    rw [Nat.zero_mul, Nat.add_zero] at y0 y1
    have hn0 := Nat.ne_of_lt hl0
    have hn1 : b0 ≠ w1.heap.size + 1 := by omega
    go_wp2_with fail
    refine wp_world (I := fun Z => QBox Z w.heap.size 31 #[.int .i64 t, .slice (some ⟨b0, o0, none⟩) n c] ∧ QBox Z w1.heap.size 39 #[.int .i64 f0, .int .u64 f1] ∧ QBox Z (w1.heap.size + 1) 39 #[.int .i64 f0, .int .u64 f1] ∧ Below w.heap.size w Z)
      (by
        exact ⟨(HR1.out.alloc _).alloc _, bF.alloc _, (by have := QBox.new (w1.alloc (.cells #[.int .i64 f0, .int .u64 f1] 39)) 39 #[.int .i64 f0, .int .u64 f1]; simpa using this : QBox ((w1.alloc (.cells #[.int .i64 f0, .int .u64 f1] 39)).alloc (.cells #[.int .i64 f0, .int .u64 f1] 39)) (w1.heap.size + 1) 39 #[.int .i64 f0, .int .u64 f1]), ((HB1.out.alloc HB1.out.size _).alloc (by have := HB1.out.size; simp; omega) _).drew⟩) ?_
    clear bF y0 y1
    rintro W2 ⟨b3, b5, b7, hb2⟩
    have hl3 := b3.lt; have hl5 := b5.lt; have hl7 := b7.lt
    have HB := Lib.hid hb2
    have H3 := Lib.hid b3; have H5 := Lib.hid b5; have H7 := Lib.hid b7
    have HA2 := Lib.hid (fun (W : World) (hb : Below W2.heap.size W2 W) => HALL.out W (HB.out.trans (hb.mono HB.out.size)))
    have HH := Lib.hid (fun (W' : World) (hW : Below W2.heap.size W2 W') => (⟨by
      obtain ⟨a0, a1, _, _⟩ := (H3.out.belowAll hW).two
      obtain ⟨a2, a3, _, _⟩ := (H5.out.belowAll hW).two
      obtain ⟨a4, a5, _, _⟩ := (H7.out.belowAll hW).two
      exact ⟨a0, a1, a2, a3, a4, a5⟩⟩ : PLift (W'.cell? ⟨w.heap.size, 0, none⟩ = some (.int .i64 t) ∧ W'.cell? ⟨w.heap.size, 1, none⟩ = some (.slice (some ⟨b0, o0, none⟩) n c) ∧ W'.cell? ⟨w1.heap.size, 0, none⟩ = some (.int .i64 f0) ∧ W'.cell? ⟨w1.heap.size, 1, none⟩ = some (.int .u64 f1) ∧ W'.cell? ⟨w1.heap.size + 1, 0, none⟩ = some (.int .i64 f0) ∧ W'.cell? ⟨w1.heap.size + 1, 1, none⟩ = some (.int .u64 f1))).down)
    have hBE := Below.refl W2.heap.size W2
    clear hb2 b3 b5 b7
    go_region_held3 (fun W' => W'.cell? ⟨w.heap.size, 0, none⟩ = some (.int .i64 t) ∧ W'.cell? ⟨w.heap.size, 1, none⟩ = some (.slice (some ⟨b0, o0, none⟩) n c) ∧ W'.cell? ⟨w1.heap.size, 0, none⟩ = some (.int .i64 f0) ∧ W'.cell? ⟨w1.heap.size, 1, none⟩ = some (.int .u64 f1) ∧ W'.cell? ⟨w1.heap.size + 1, 0, none⟩ = some (.int .i64 f0) ∧ W'.cell? ⟨w1.heap.size + 1, 1, none⟩ = some (.int .u64 f1)) ((refine HH.out _ ?_; repeat (first | exact hBE | refine Below.drew ?_))) (first
      | (go_at_call 26; (with_reducible refine (now_wh p t l _ (HA2.out _ (by first | exact hBE | exact hBE.drew)).1).mono ?_); rintro e w' ⟨rfl, rfl⟩)
      | (go_at_call 24; (with_reducible refine (len_wh p t l _ (HA2.out _ (by first | exact hBE | exact hBE.drew)).1 (HA2.out _ (by first | exact hBE | exact hBE.drew)).2.1 (HA2.out _ (by first | exact hBE | exact hBE.drew)).2.2.1).mono ?_); rintro e w5 ⟨rfl, hb5⟩; rw [← HN.out]; (have hqe := (show Below W2.heap.size W2 w5 by first | exact hBE.trans (hb5.mono hBE.size) | exact hBE.drew.trans (hb5.mono hBE.size))); replace hBE := hqe; clear hqe hb5)
      | (go_at_call 23; (have hq := HA2.out _ hBE); (with_reducible refine (all_wh p t l _ hq.1 hq.2.1 hq.2.2.1).mono ?_); rintro e w6 ⟨v, rfl, ho6, hb6⟩; (obtain ⟨A6, c6, rfl, hr6⟩ := ho6.row); rw [← HN.out] at hr6 ⊢; (have hcap6 := hr6.cap); (have HR6 := Lib.hid hr6); (have hqe := hBE.trans (hb6.mono hBE.size)); replace hBE := hqe; clear hqe hb6 hq hr6 ho6)
      | (go_at_call 18; (with_reducible refine (equal_dues A6 (some ⟨b0, o0, none⟩) n c6 c _ _ l _ HR6.out (HA2.out _ hBE).2.2.2).mono ?_); rintro e w7 ⟨rfl, q7, rfl⟩; replace hBE := (show Below W2.heap.size W2 (w6.drewN q7) from ⟨hBE.os, hBE.tape, hBE.output, hBE.size, hBE.block⟩)))
    have HB7 := Lib.hid (HB.out.trans (hBE.mono HB.out.size))
    have HR7 := Lib.hid (H3.out.belowAll hBE)
    generalize w6.drewN q7 = W7 at *
    clear hBE
    have hc0 := HR7.out.two.1; have hc1 := HR7.out.two.2.1
    go_wp2_with fail
    go_loopw [65] (fun i wr => ∃ k : Nat, k ≤ n ∧ i = .int .i64 k ∧ Below w.heap.size w wr ∧ QBox wr w.heap.size 31 #[.int .i64 t, .slice (some ⟨b0, o0, none⟩) n c]) (fun i _ => n - (intOf i).toNat)
    case atStart => exact ⟨0, by omega, rfl, HB7.out, HR7.out⟩
    case round =>
      obtain ⟨k, hk, rfl, hbr, hqr⟩ := hrel
      have HBR := Lib.hid hbr; have HQR := Lib.hid hqr
      by_cases hlt : k < n
      · obtain ⟨d, hd⟩ : ∃ d, l[k]? = some d := ⟨_, List.getElem?_eq_getElem (by rw [← HN.out]; exact hlt)⟩
        have hdm := List.mem_of_getElem? hd
        have HDM := Lib.hid hdm
        obtain ⟨d0, d1⟩ := d
        obtain ⟨bb, oo, hA, hll, y0, y1⟩ := (HALL.out _ hbr).2.2.2.at_ k _ hd
        obtain ⟨m1, hm1⟩ : ∃ m, m = (placeQ t d0).1 := ⟨_, rfl⟩
        obtain ⟨m2, hm2⟩ : ∃ m, m = (placeQ t d0).2 := ⟨_, rfl⟩
        have HM1 := Lib.hid hm1; have HM2 := Lib.hid hm2
        have hi0 : (0 : Int) ≤ k := by omega
        have hi1 : (k : Int) < (n : Int) := by omega
        have hcap2 := hcap
        cases hA
        have hBD := hbr.alloc hbr.size (.cells #[.int .i64 d0, .int .u64 d1] 39)
        have hQD := QBox.new wr 39 #[.int .i64 d0, .int .u64 d1]
        have hQ3 := hqr.alloc (.cells #[.int .i64 d0, .int .u64 d1] 39)
        have HD := Lib.hid (HR.out.in_ _ hdm)
        have HT := Lib.hid HR.out.time.1
        clear hbr hqr hd hdm hm1 hm2
        go_wp2_with fail
        generalize wr.alloc (.cells #[.int .i64 d0, .int .u64 d1] 39) = WD at *
        have hq := HALL.out _ hBD
        refine (place_in p t l (d0, d1) _ hq.1 HDM.out hq.2.1 hq.2.2.1).mono ?_
        rintro e w8 ⟨rfl, hb8⟩
        rw [← HM1.out, ← HM2.out]
        have hB8 := hBD.trans (hb8.mono hBD.size)
        have hQ8 := hQ3.belowAll hb8
        have hD8 := hQD.belowAll hb8
        clear hb8 hq hBD hQD hQ3
        obtain ⟨e0, e1, _, _⟩ := hQ8.two
        obtain ⟨e2, e3, _, _⟩ := hD8.two
        have HB8 := Lib.hid hB8; have HQ8 := Lib.hid hQ8
        clear hB8 hQ8 hD8
        go_wp2_with fail
        refine (rplace_in t d0 _ HT.out HD.out.1 HD.out.2).mono ?_
        rintro e w9 ⟨rfl, hb9⟩
        rw [← HM1.out, ← HM2.out]
        have HB9 := Lib.hid (HB8.out.trans (hb9.mono HB8.out.size))
        have HQ9 := Lib.hid (HQ8.out.belowAll hb9)
        clear hb9
        go_wp2_with fail
        go_roundw
        case rel => exact ⟨k + 1, by omega, by go_num, HB9.out, HQ9.out⟩
        case measure => simp [intOf]; omega
      · go_wp2_with fail
        go_ret
        exact ⟨rfl, HBR.out⟩
end Go.Proofs.YtidgiohjgkfjcaaDoor
