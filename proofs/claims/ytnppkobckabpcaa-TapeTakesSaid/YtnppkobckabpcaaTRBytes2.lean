/- What the document says of TakeBytes: they stand there. -/
import Derived.Test.YtnppkobckabpcaaTStep
namespace Go.Proofs.Ytnppkobckabpcaa
open Go.RowKit

set_option maxRecDepth 100000 in
set_option maxHeartbeats 8000000 in
theorem rbytes_ok (A : Option Addr) (n c m x k : Nat) (t : Int) (bs : List Nat) (w : World) (h : RowB w w.heap.size A n c bs) (hm : x ≤ m) (hm2 : m ≤ 9223372036854775807) (hk : k ≤ n) (hn : n ≤ 16384) (hx : k + x ≤ n)
    (hc : ∀ W, Below w.heap.size w W → Calls Try.prog 44 #[tv A n c t 0, .int .u64 18446744073709551615] W (RIs W A n c (k : Int) 0 (.num .u64 (x : Int)))) :
    Calls Try.prog 47 #[tv A n c t 0, .int .i64 (m : Int)] w (RIs w A n c ((k : Int) + (x : Int)) 0 (.bytes ((bs.drop k).take x))) := by
  have hB : Below w.heap.size w ((w.alloc (.cells #[.slice A n c, .int .i64 t, .int .i64 0] 40)).alloc (.cells #[.slice none 0 0, .int .i64 0, .int .i64 0] 40)) := gr_alloc ((Below.refl _ w).alloc (Nat.le_refl _) _) _
  have HC := Lib.hid (hc _ hB)
  have hcap := h.cap
  have RM := Lib.hid (fun (W' : World) (h' : Below w.heap.size w W') => (h.below h').mid hx)
  obtain ⟨e2, he2, hse⟩ : ∃ e2 : Nat, (k : Int) + (x : Int) = (e2 : Int) ∧ e2 = k + x := ⟨k + x, by omega, rfl⟩
  have k1 : k ≤ e2 := by omega
  have k2 : e2 ≤ c := by omega
  have k3 : k ≤ c := by omega
  have k4 : e2 - k = x := by omega
  have k5 : x ≤ 16384 := by omega
  have hw : IntKind.u64.wrap (m : Int) = (m : Int) := by rw [IntKind.wrap_u64]; omega
  have hd0 : decide ((m : Int) < 0) = false := by simp
  have hd : decide ((m : Int) < (x : Int)) = false := by simp; omega
  have hd' : decide (m < x) = false := by simp; omega
  have hw2 : wrap64 ((n : Int) - (k : Int)) = (n : Int) - (k : Int) := by unfold wrap64; omega
  have hw3 : IntKind.u64.wrap ((n : Int) - (k : Int)) = (n : Int) - (k : Int) := by rw [IntKind.wrap_u64]; omega
  have hd2 : decide ((n : Int) - (k : Int) < (x : Int)) = false := by simp; omega
  have hw4 : IntKind.i64.wrap (x : Int) = (x : Int) := by rw [IntKind.wrap_i64]; omega
  have hw5 : wrap64 (e2 : Int) = (e2 : Int) := by unfold wrap64; omega
  rw [he2]
  have He2 := Lib.hid he2; clear he2
  generalize hxs : (bs.drop k).take x = xs at *
  have Hxs := Lib.hid hxs; clear hxs
  have K := Lib.hid (And.intro k1 (And.intro k2 (And.intro k3 (And.intro k4 k5))))
  clear k1 k2 k3 k4 k5
  have W4 := Lib.hid hw4; have W5 := Lib.hid hw5; clear hw4 hw5 hk hn
  have Hse := Lib.hid hse
  clear hc hB hm hm2 h hx hse hcap
  unfold RIs tv at *
  go_enter Try.func47, Try.ntmps47
  go_wp2_with fail
  refine HC.out.mono ?_; rintro e w1 ⟨y, rfl, hx, hb⟩
  obtain rfl : y = .int .u64 (x : Int) := hx
  have St1 := Lib.hid (off_two hb)
  have st := (off_two hb).call ((Below.refl _ w1).alloc (Nat.le_refl _) (.cells #[.slice A n c, .int .i64 (k : Int), .int .i64 0] 40))
  have bu := Box.new w1 40 #[.slice A n c, .int .i64 (k : Int), .int .i64 0]
  obtain ⟨c0, c1, c2, f0, f1, f2⟩ := st.b0.three
  obtain ⟨d0, d1, d2, g0, g1, g2⟩ := st.b1.three
  have hlt : w.heap.size + 1 < w1.heap.size := by have := hb.size; simp at this; omega
  have St := Lib.hid st; have Bu := Lib.hid bu
  clear st hb HC bu
  go_upto_region 11 with (fail)
  have he := He2.out; have w4 := W4.out; have w5 := W5.out
  go_upto_region 12 with (fail)
  have ba := (Below.refl _ w1).alloc (Nat.le_refl _) (.cells #[.slice A n c, .int .i64 (e2 : Int), .int .i64 0] 40)
  have st2 := St1.out.call ba
  have bu := Box.new w1 40 #[.slice A n c, .int .i64 (e2 : Int), .int .i64 0]
  clear c0 c1 c2 f0 f1 f2 d0 d1 d2 g0 g1 g2 he w4 w5 hw hd0 hd hd' hw2 hw3 hd2 W4 W5 ba
  generalize w1.alloc (.cells #[.slice A n c, .int .i64 (e2 : Int), .int .i64 0] 40) = W2 at *
  have stb := st2.b1; have stl := st2.bel
  have hS : ∀ w' : World, Below W2.heap.size W2 w' → w'.cell? ⟨w1.heap.size, 0, none⟩ = some (.slice A n c) ∧ w'.cell? ⟨w1.heap.size, 1, none⟩ = some (.int .i64 (e2 : Int)) ∧ w'.cell? ⟨w1.heap.size, 2, none⟩ = some (.int .i64 0) := fun w' h => by
    have b := bu.belowAll h
    exact ⟨b.cell 0, b.cell 1, b.cell 2⟩
  have hS3 : ∀ (w' : World) (u0 u1 u2 : Value), Below W2.heap.size W2 w' → (((w'.setCell ⟨w.heap.size + 1, 0, none⟩ u0).setCell ⟨w.heap.size + 1, 1, none⟩ u1).setCell ⟨w.heap.size + 1, 2, none⟩ u2).cell? ⟨w1.heap.size, 0, none⟩ = some (.slice A n c) ∧ (((w'.setCell ⟨w.heap.size + 1, 0, none⟩ u0).setCell ⟨w.heap.size + 1, 1, none⟩ u1).setCell ⟨w.heap.size + 1, 2, none⟩ u2).cell? ⟨w1.heap.size, 1, none⟩ = some (.int .i64 (e2 : Int)) ∧ (((w'.setCell ⟨w.heap.size + 1, 0, none⟩ u0).setCell ⟨w.heap.size + 1, 1, none⟩ u1).setCell ⟨w.heap.size + 1, 2, none⟩ u2).cell? ⟨w1.heap.size, 2, none⟩ = some (.int .i64 0) := fun w' u0 u1 u2 h => by
    have b := (((bu.belowAll h).far (p := w.heap.size + 1) (i := 0) (by omega) u0).far (p := w.heap.size + 1) (i := 1) (by omega) u1).far (p := w.heap.size + 1) (i := 2) (by omega) u2
    exact ⟨b.cell 0, b.cell 1, b.cell 2⟩
  have HS := Lib.hid hS; have HS3 := Lib.hid hS3
  have hzs := stl.size
  have hbl := bu.lt
  obtain ⟨k1, k2, k3, k4, k5⟩ := K.out
  have STB := Lib.hid stb; have STL := Lib.hid stl
  clear hS hS3 stb stl bu St Bu St1 st2
  have hBE := Below.refl W2.heap.size W2
  have hm0 : OwnB (W2.alloc (.cells #[] 5)) W2.heap.size (.slice (some ⟨W2.heap.size, 0, none⟩) 0 0) [] := OwnB.made (Nat.le_refl _) (by unfold maxLen; omega) rfl
  have hal := (Below.refl _ W2).alloc (Nat.le_refl _) (.cells #[] 5)
  have HM := Lib.hid hm0
  have HAL := Lib.hid hal
  clear hm0 hal
  by_cases hck : c = k
  · subst hck
    have rm : ∀ W', Below w.heap.size w W' → RowB W' w.heap.size A x 0 xs := fun W' h' => by
      have := RM.out W' h'
      rwa [if_pos rfl, Nat.sub_self] at this
    have RX := Lib.hid rm
    clear rm
    have i0 : (0 : Int) ≤ (c : Int) := by omega
    have i1 : (c : Int) ≤ (e2 : Int) := by omega
    have i2 : (e2 : Int) ≤ (c : Int) := by omega
    obtain rfl : c = e2 := by omega
    obtain rfl : x = 0 := by omega
    clear k1 k2 k3 k4 k5 i1 i2
    go_region_held3 (fun w' => w'.cell? ⟨w1.heap.size, 0, none⟩ = some (.slice A n c) ∧ w'.cell? ⟨w1.heap.size, 1, none⟩ = some (.int .i64 (c : Int)) ∧ w'.cell? ⟨w1.heap.size, 2, none⟩ = some (.int .i64 0)) (first | exact HS.out _ hBE | exact HS.out _ hBE.drew | exact HS.out _ (hBE.alloc hBE.size _).drew | exact HS.out _ (hBE.drew.alloc hBE.size _) | exact HS3.out _ _ _ _ hBE | exact HS3.out _ _ _ _ hBE.drew) (first
      | (refine step_append_row rfl _ _ rfl W2.heap.size _ [] rfl ⟨HM.out.1, HM.out.2⟩ w.heap.size _ 0 _ xs rfl (RX.out _ (STL.out.trans ((HAL.out.drew).mono hzs))) (by first | omega | (simp; omega) | simp) (by simp) ?_
         intro v' w5 hown5 hgrow5
         replace hBE := below_grown HAL.out.drew ⟨HM.out.1, HM.out.2⟩ hgrow5 (by simp)
         obtain ⟨r0, r1, r2, q0, q1, q2⟩ := (STB.out.belowAll hBE).three))
    all_goals
      go_wp2_with fail
      have b := (STB.out.belowAll hBE).set3 (.slice A n c) (.int .i64 (c : Int)) (.int .i64 0)
      have hz5 := hBE.size
      have o5 := OwnB.mono (base' := w.heap.size) (hown5.set3 (p := w.heap.size + 1) (by omega) (.slice A n c) (.int .i64 (c : Int)) (.int .i64 0)) hzs
      have b5 := below_set3 (STL.out.trans (hBE.mono hzs)) (p := w.heap.size + 1) (by omega) (.slice A n c) (.int .i64 (c : Int)) (.int .i64 0)
      obtain ⟨c0, c1, c2, _, _, _⟩ := b.three
      clear r0 r1 r2 q0 q1 q2
      refine bodyPost_ret (v := .tuple #[.agg #[.slice A n c, .int .i64 (c : Int), .int .i64 0], v']) (by simp [results, Try.results47, go_sem, c0, c1, c2]) rfl ?_
      exact ⟨_, rfl, by simpa [Res.at_] using o5, b5⟩
  · have rm : ∀ W', Below w.heap.size w W' → RowB W' w.heap.size (A.map (·.add k)) x (c - k) xs := fun W' h' => by
      have := RM.out W' h'
      rwa [if_neg hck] at this
    have RX := Lib.hid rm
    clear rm
    have i0 : (0 : Int) ≤ (k : Int) := by omega
    have i1 : (k : Int) ≤ (e2 : Int) := by omega
    have i2 : (e2 : Int) ≤ (c : Int) := by omega
    have i3 : (k : Int) ≤ (c : Int) := by omega
    go_region_held3 (fun w' => w'.cell? ⟨w1.heap.size, 0, none⟩ = some (.slice A n c) ∧ w'.cell? ⟨w1.heap.size, 1, none⟩ = some (.int .i64 (e2 : Int)) ∧ w'.cell? ⟨w1.heap.size, 2, none⟩ = some (.int .i64 0)) (first | exact HS.out _ hBE | exact HS.out _ hBE.drew | exact HS.out _ (hBE.alloc hBE.size _).drew | exact HS.out _ (hBE.drew.alloc hBE.size _) | exact HS3.out _ _ _ _ hBE | exact HS3.out _ _ _ _ hBE.drew) (first
      | (refine step_append_row rfl _ _ rfl W2.heap.size _ [] rfl ⟨HM.out.1, HM.out.2⟩ w.heap.size _ x _ xs rfl (RX.out _ (STL.out.trans ((HAL.out.drew).mono hzs))) (by first | omega | (simp; omega) | simp) (by simp) ?_
         intro v' w5 hown5 hgrow5
         replace hBE := below_grown HAL.out.drew ⟨HM.out.1, HM.out.2⟩ hgrow5 (by simp)
         obtain ⟨r0, r1, r2, q0, q1, q2⟩ := (STB.out.belowAll hBE).three))
    all_goals
      go_wp2_with fail
      have b := (STB.out.belowAll hBE).set3 (.slice A n c) (.int .i64 (e2 : Int)) (.int .i64 0)
      have hz5 := hBE.size
      have o5 := OwnB.mono (base' := w.heap.size) (hown5.set3 (p := w.heap.size + 1) (by omega) (.slice A n c) (.int .i64 (e2 : Int)) (.int .i64 0)) hzs
      have b5 := below_set3 (STL.out.trans (hBE.mono hzs)) (p := w.heap.size + 1) (by omega) (.slice A n c) (.int .i64 (e2 : Int)) (.int .i64 0)
      obtain ⟨c0, c1, c2, _, _, _⟩ := b.three
      clear r0 r1 r2 q0 q1 q2
      refine bodyPost_ret (v := .tuple #[.agg #[.slice A n c, .int .i64 (e2 : Int), .int .i64 0], v']) (by simp [results, Try.results47, go_sem, c0, c1, c2]) rfl ?_
      exact ⟨_, rfl, by simpa [Res.at_] using o5, b5⟩
theorem rbytes_any (A : Option Addr) (n c : Nat) (t err m : Int) (bs : List Nat) (w : World) (h : RowB w w.heap.size A n c bs) (hm2 : m ≤ 9223372036854775807) :
    Calls Try.prog 47 #[tv A n c t err, .int .i64 m] w
      (RIs w A n c (goT n t err (bytesR (rest bs t) m).2.1 (bytesR (rest bs t) m).2.2).1 (goT n t err (bytesR (rest bs t) m).2.1 (bytesR (rest bs t) m).2.2).2.1 (.bytes (if (goT n t err (bytesR (rest bs t) m).2.1 (bytesR (rest bs t) m).2.2).2.2 then (bytesR (rest bs t) m).1 else []))) := by
  have hc := fun W (hW : Below w.heap.size w W) => rtake_any A n c 18446744073709551615 t err bs W ((h.below hW).mono hW.size)
  rw [show ((18446744073709551615 : Nat) : Int) = 18446744073709551615 from rfl] at hc
  rw [mostE_max _ (rest_byte h.byte t)] at hc
  by_cases hk : checkT n t err = 0
  · have hk2 := hk
    obtain ⟨rfl, hn, h0, htn⟩ := check_zero hk
    obtain ⟨tn, rfl⟩ : ∃ tn : Nat, t = (tn : Int) := ⟨t.toNat, by omega⟩
    have hl := rest_len (tn := tn) h.len
    have hdr : rest bs (tn : Int) = bs.drop tn := by simp [rest]
    rcases hrd : rdS (rest bs (tn : Int)) with ⟨x, s, ee⟩
    have hs := (rdS_len hrd).1
    rw [hrd] at hc
    by_cases he : ee = 0
    · subst he
      simp only [Int.natCast_zero, goT_yes hk2, if_true] at hc
      have hs2 : ((tn : Int) + (s : Int)) = ((tn + s : Nat) : Int) := by omega
      by_cases hneg : m < 0
      · have hf : bytesR (rest bs (tn : Int)) m = ([], 0, 3) := by unfold bytesR; rw [hrd, if_neg (by simp), if_pos (.inl hneg)]
        rw [hf, goT_err hk2 (by show (3 : Int) ≠ 0; omega)]
        simpa using rbytes_neg A n c (tn : Int) m _ _ w hneg hc
      · obtain ⟨mm, rfl⟩ : ∃ mm : Nat, m = (mm : Int) := ⟨m.toNat, by omega⟩
        by_cases hmx : mm < x
        · have hf : bytesR (rest bs (tn : Int)) (mm : Int) = ([], 0, 3) := by unfold bytesR; rw [hrd, if_neg (by simp), if_pos (.inr (by show (mm : Int) < (x : Int); omega))]
          rw [hf, goT_err hk2 (by show (3 : Int) ≠ 0; omega)]
          simpa using rbytes_long A n c mm x (tn : Int) _ w hmx (by omega) hc
        · rw [hs2] at hc
          by_cases hsh : n - (tn + s) < x
          · have hf : bytesR (rest bs (tn : Int)) (mm : Int) = ([], 0, 7) := by unfold bytesR; rw [hrd, if_neg (by simp), if_neg (by show ¬ ((mm : Int) < 0 ∨ (mm : Int) < (x : Int)); omega), if_pos (by show _ < s + x; omega)]
            rw [hf, goT_err hk2 (by show (7 : Int) ≠ 0; omega)]
            simpa using rbytes_short A n c mm x (tn + s) (tn : Int) w (by omega) (by omega) (by omega) hn hsh hc
          · have hf : bytesR (rest bs (tn : Int)) (mm : Int) = ((bs.drop (tn + s)).take x, s + x, 0) := by
              unfold bytesR; rw [hrd, if_neg (by simp), if_neg (by show ¬ ((mm : Int) < 0 ∨ (mm : Int) < (x : Int)); omega), if_neg (by show ¬ _ < s + x; omega), hdr, List.drop_drop]
            rw [hf, goT_yes hk2]
            have := rbytes_ok A n c mm x (tn + s) (tn : Int) bs w h (by omega) (by omega) (by omega) hn (by omega) hc
            rw [show (((tn + s : Nat) : Int) + (x : Int)) = (tn : Int) + ((s + x : Nat) : Int) by omega] at this
            exact this
    · have hf : bytesR (rest bs (tn : Int)) m = ([], 0, (ee : Int)) := by unfold bytesR; rw [hrd, if_pos (by exact he)]
      rw [hf, goT_err hk2 (by show (ee : Int) ≠ 0; omega)]
      simp only [goT_err hk2 (show (ee : Int) ≠ 0 by omega)] at hc
      simpa using rbytes_off A n c (tn : Int) 0 m (tn : Int) (ee : Int) _ w (by omega) hc
  · simp only [goT_off hk] at hc ⊢
    simpa using rbytes_off A n c t err m t (checkT n t err) _ w hk hc
end Go.Proofs.Ytnppkobckabpcaa
