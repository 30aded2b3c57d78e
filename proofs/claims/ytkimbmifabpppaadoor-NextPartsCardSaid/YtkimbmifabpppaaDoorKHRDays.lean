/- The document's Fit: walked. -/
import Derived.Test.YtkimbmifabpppaaDoorKHROn
namespace Go.Proofs.YtkimbmifabpppaaDoor
open Go.RowKit

/-- The days that fit, of so many, rising. -/
def FitL (L : List (BitVec 64)) (from_ : Int) (k : Nat) (l : List Int) : Prop := l.Pairwise (· < ·) ∧ l.length ≤ k ∧ ∀ n, n ∈ l ↔ from_ ≤ n ∧ n < from_ + k ∧ fitN L n
theorem FitL.zero (L : List (BitVec 64)) (from_ : Int) : FitL L from_ 0 [] := ⟨List.Pairwise.nil, Nat.le_refl _, fun n => ⟨(fun h => absurd h (by simp)), (fun h => absurd h.1 (by have := h.2.1; omega))⟩⟩
theorem FitL.yes {L : List (BitVec 64)} {from_ : Int} {k : Nat} {l : List Int} (h : FitL L from_ k l) (hf : fitN L (from_ + k)) : FitL L from_ (k + 1) (l ++ [from_ + k]) := by
  refine ⟨List.pairwise_append.2 ⟨h.1, List.pairwise_singleton _ _, fun x hx y hy => ?_⟩, by have := h.2.1; simp; omega, fun n => ?_⟩
  · rw [List.mem_singleton] at hy
    have := (h.2.2 x).1 hx
    omega
  · rw [List.mem_append, List.mem_singleton, h.2.2 n]
    constructor
    · rintro (⟨a, b, c⟩ | rfl)
      · exact ⟨a, by omega, c⟩
      · exact ⟨by omega, by omega, hf⟩
    · rintro ⟨a, b, c⟩
      by_cases e : n = from_ + k
      · exact .inr e
      · exact .inl ⟨a, by omega, c⟩
theorem FitL.no {L : List (BitVec 64)} {from_ : Int} {k : Nat} {l : List Int} (h : FitL L from_ k l) (hf : ¬ fitN L (from_ + k)) : FitL L from_ (k + 1) l := by
  refine ⟨h.1, by have := h.2.1; omega, fun n => ?_⟩
  rw [h.2.2 n]
  constructor
  · rintro ⟨a, b, c⟩
    exact ⟨a, by omega, c⟩
  · rintro ⟨a, b, c⟩
    by_cases e : n = from_ + k
    · subst e; exact absurd c hf
    · exact ⟨a, by omega, c⟩
theorem grown_date (W : World) (g : Nat) (u0 u1 u2 : Value) : W.grownBy (((W.setCell ⟨g, 0, none⟩ u0).setCell ⟨g, 1, none⟩ u1).setCell ⟨g, 2, none⟩ u2) (some g) :=
  ⟨rfl, rfl, rfl, by simp, fun k _ hne => by
    have hk : k ≠ g := fun e => hne (by rw [e])
    exact (Below.heap_setCell _ ⟨g, 2, none⟩ u2 k hk).trans ((Below.heap_setCell _ ⟨g, 1, none⟩ u1 k hk).trans (Below.heap_setCell W ⟨g, 0, none⟩ u0 k hk))⟩
theorem below_date {B : Nat} {w W : World} {g : Nat} (h : Below B w W) (hg : B ≤ g) (u0 u1 u2 : Value) : Below B w (((W.setCell ⟨g, 0, none⟩ u0).setCell ⟨g, 1, none⟩ u1).setCell ⟨g, 2, none⟩ u2) :=
  ((h.setCell (p := ⟨g, 0, none⟩) hg u0).setCell (p := ⟨g, 1, none⟩) hg u1).setCell (p := ⟨g, 2, none⟩) hg u2
theorem row_far {W : World} {B n g : Nat} {e : TypeId} {v : Value} {xs : List Value} (h : W.ownsRow B e 1 v n xs) (hg : g < B) (u0 u1 u2 : Value) : (((W.setCell ⟨g, 0, none⟩ u0).setCell ⟨g, 1, none⟩ u1).setCell ⟨g, 2, none⟩ u2).ownsRow B e 1 v n xs := by
  refine h.kept (grown_date W g u0 u1 u2) ?_
  cases hb : v.ownBlock with
  | none => exact .inl rfl
  | some k =>
    right
    intro he
    have := (h.lt k hb).1
    cases he
    omega
set_option maxRecDepth 100000 in
set_option maxHeartbeats 2000000 in
theorem rfit_any (a b c d e : BitVec 64) (f t : Int) (w : World) (hk : crB [a, b, c, d, e] = true) (f0 : 0 ≤ f) (ft : f ≤ t) (t1 : t ≤ 2932896) (hft : t ≤ f + 2922) :
    Calls Tryd.prog 34 #[cronV [a, b, c, d, e], .int .i64 f, .int .i64 t] w fun x w' => ∃ (v : Value) (l : List Int), x = .returned v ∧ w'.ownsRow w.heap.size 3 1 v l.length (l.map int1) ∧ FitL [a, b, c, d, e] f (t + 1 - f).toNat l ∧ Below w.heap.size w w' := by
  have HFT := Lib.hid (fun y m n W (hr : D.RightZ y m n) => rfits_any a b c d e y m n W hk hr)
  obtain ⟨WB, hWB, hb0, hc0⟩ : ∃ W : World, W = w.alloc (.cells #[.int .u64 (U a), .int .u64 (U b), .int .u64 (U c), .int .u64 (U d), .int .u64 (U e)] 25) ∧ Below w.heap.size w W ∧ CronAt W w.heap.size [a, b, c, d, e] := ⟨_, rfl, (Below.refl _ w).alloc (Nat.le_refl _) _, CronAt.new w a b c d e⟩
  have HB := Lib.hid hb0; have HC := Lib.hid hc0
  obtain ⟨c0, c1, c2, c3, c4⟩ := hc0.five
  obtain ⟨i0, hi, hz0, hz1, hz2⟩ := info_parts info_int
  rw [cronV_five] at *
  unfold fiveV at *
  have HAT := Lib.hid (fun W => D.atR_ok f W f0 (by omega))
  unfold D.dateV at HAT
  have hlt0 := hc0.lt
  clear hk hb0 hc0
  go_enter Tryd.func34, Tryd.ntmps34
  go_wp2_with fail
  rw [← hWB]
  clear hWB
  refine (HAT.out _).mono ?_
  rintro x w1 ⟨y, m, n, rfl, hr, hn, hb⟩
  obtain ⟨w2, hw2, hb2, hd2, hs2⟩ : ∃ W : World, W = w1.alloc (.cells #[.int .i64 y, .int .i64 m, .int .i64 n] 56) ∧ Below w1.heap.size w1 W ∧ D.Box W w1.heap.size 56 #[.int .i64 y, .int .i64 m, .int .i64 n] ∧ W.heap.size = w1.heap.size + 1 := ⟨_, rfl, (Below.refl _ w1).alloc (Nat.le_refl _) _, D.Box.new _ _ _, by simp⟩
  have HX2 := Lib.hid (hb.trans (hb2.mono hb.size)); have HD2 := Lib.hid hd2
  have hlo := hb.size
  have HR := Lib.hid hr; have HN := Lib.hid hn
  clear hb hb2 hd2 HAT c0 c1 c2 c3 c4 hr hn
  go_wp2_with fail
  rw [← hw2]
  clear hw2
  go_loopw [7, 9] (fun v i wr => ∃ (k : Nat) (l : List Int) (y m n : Int), f + k ≤ t + 1 ∧ i = .int .i64 (f + k) ∧ wr.ownsRow w2.heap.size 3 1 v l.length (l.map int1) ∧ D.Box wr w1.heap.size 56 #[.int .i64 y, .int .i64 m, .int .i64 n] ∧ Hid (f + k ≤ 2932896 → D.RightZ y m n ∧ D.numZ y m n = f + k) ∧ Hid (FitL [a, b, c, d, e] f k l) ∧ Below WB.heap.size WB wr ∧ w2.heap.size ≤ wr.heap.size) (fun _ i _ => (t + 1 - intOf i).toNat)
  case atStart => exact ⟨0, [], y, m, n, by omega, by simp, World.ownsRow_nil _ _ _ _, HD2.out, Lib.hid (fun _ => ⟨HR.out, by rw [HN.out]; simp⟩), Lib.hid (FitL.zero _ _), HX2.out, Nat.le_refl _⟩
  case round =>
    clear HD2 HR HN HX2
    obtain ⟨k, l, y, m, n, hk1, rfl, hrow, hdt, HRN, HFL, hx, hsz⟩ := hrel
    by_cases hlt : f + k ≤ t
    · have hin : f + k ≤ 2932896 := by omega
      have HF := Lib.hid (HFT.out y m n wr (HRN.out hin).1)
      rw [(HRN.out hin).2] at HF
      have HBH := Lib.hid (fun W => rbehind_any y m n W (HRN.out hin).1)
      have HNX : Hid (∀ y' m' d', behindZ y m n y' m' d' → (f + (k + 1 : Nat) ≤ 2932896 → D.RightZ y' m' d' ∧ D.numZ y' m' d' = f + (k + 1 : Nat))) := Lib.hid (fun y' m' d' hb h => by
        have h2 := behind_next (HRN.out hin).1 (by rw [(HRN.out hin).2]; omega) hb
        rw [(HRN.out hin).2] at h2
        exact ⟨h2.1, by rw [h2.2]; omega⟩)
      have HFI : Hid (fitN [a, b, c, d, e] (f + k) ↔ fitD [a, b, c, d, e] y m n = true) := Lib.hid (by rw [← (HRN.out hin).2]; exact fitN_is (HRN.out hin).1)
      have hll : l.length ≤ 2923 := by have := HFL.out.2.1; omega
      have HROW := Lib.hid hrow; have HDT := Lib.hid hdt; have HX := Lib.hid hx
      obtain ⟨c0, c1, c2, c3, c4⟩ := (HC.out.on hx).five
      obtain ⟨d0, d1, d2, _, _, _⟩ := D.Box.three hdt
      clear hrow hdt hx HRN
      go_wp2_with fail
      refine HF.out.mono ?_
      rintro x w3 ⟨rfl, hb⟩
      have HROW3 := Lib.hid (own_below HROW.out hb); have HDT3 := Lib.hid (D.Box.belowAll HDT.out hb); have HX3 := Lib.hid (HX.out.trans (hb.mono HX.out.size))
      have hsz3 := Nat.le_trans hsz hb.size
      clear hb HROW HDT HX HF c0 c1 c2 c3 c4 d0 d1 d2
      obtain ⟨d0, d1, d2, d3, d4, d5⟩ := D.Box.three HDT3.out
      cases hz : fitD [a, b, c, d, e] y m n with
      | true =>
        have HFL2 := Lib.hid (HFL.out.yes (HFI.out.2 hz))
        clear hz HFI HFL
        have hown := HROW3.out
        have hlw := D.Box.lt HDT3.out
        have hnw := Nat.ne_of_lt hlw
        go_wp2_with (at_builtin; refine wpList_append_own _ rfl _ _ 33 rfl w2.heap.size 3 i0 (.int .i64 0) 1 8 Tryd.underlying33 hi hz0 hz1 hz2 rfl (by decide) _ _ _ rfl (hown.alloc _) ⟨w3.heap.size, 0, none⟩ 1 1 [.int .i64 (f + k)] rfl rfl (cell_one_new _ _ _) (by simp [Value.oneCell']) (by unfold maxLen; omega) (by omega) (by simp; omega) ?_; intro v' w5 hown5 hgrow5 _; have HD5 : Hid (D.Box w5 w1.heap.size 56 #[.int .i64 y, .int .i64 m, .int .i64 n]) := Lib.hid ((hgrow5.block w1.heap.size (by simp; omega) (fun e => by have := (hown.lt _ e.symm).1; omega)).trans (HDT3.out.alloc _)); obtain ⟨q0, q1, q2, _, _, _⟩ := D.Box.three HD5.out; have HX5 := Lib.hid ((HX3.out.alloc HX3.out.size (.cells #[.int .i64 (f + k)] 3)).grown hgrow5 (by have := HX3.out.size; simp; omega) (fun j e => by have := (hown.lt j e).1; omega)); have hsz5 := hgrow5.size; rw [World.size_alloc] at hsz5)
        have HROW5 : Hid (w5.ownsRow w2.heap.size 3 1 v' (l ++ [f + (k : Int)]).length ((l ++ [f + (k : Int)]).map int1)) := Lib.hid (by simpa [int1] using hown5)
        clear hown5 hgrow5 hown HROW3 HDT3 HX3 d0 d1 d2 d3 d4 d5
        refine (HBH.out _).mono ?_
        rintro x w4 ⟨y', m', n', rfl, hbz, hb⟩
        have HROW4 := Lib.hid (own_below HROW5.out hb); have HDT4 := Lib.hid (D.Box.belowAll HD5.out hb); have HX4 := Lib.hid (HX5.out.trans (hb.mono HX5.out.size))
        have hsz4 := hb.size
        have HNX2 := Lib.hid (HNX.out y' m' n' hbz)
        clear hb hbz HROW5 HD5 HX5 HNX q0 q1 q2
        obtain ⟨d0, d1, d2, d3, d4, d5⟩ := D.Box.three HDT4.out
        go_wp2_with fail
        go_roundw
        case rel => exact ⟨k + 1, l ++ [f + (k : Int)], y', m', n', by omega, by go_num, row_far HROW4.out (by omega) _ _ _, D.Box.onDate HDT4.out _ _ _, HNX2, HFL2, below_date HX4.out hlo _ _ _, by simp; omega⟩
        case measure => simp [intOf]; omega
      | false =>
        have HFL2 := Lib.hid (HFL.out.no (fun h => absurd (HFI.out.1 h) (by rw [hz]; simp)))
        clear hz HFI HFL
        go_wp2_with fail
        refine (HBH.out _).mono ?_
        rintro x w4 ⟨y', m', n', rfl, hbz, hb⟩
        have HROW4 := Lib.hid (own_below HROW3.out hb); have HDT4 := Lib.hid (D.Box.belowAll HDT3.out hb); have HX4 := Lib.hid (HX3.out.trans (hb.mono HX3.out.size))
        have hsz4 := Nat.le_trans hsz3 hb.size
        have HNX2 := Lib.hid (HNX.out y' m' n' hbz)
        clear hb hbz HROW3 HDT3 HX3 HNX d0 d1 d2 d3 d4 d5
        obtain ⟨d0, d1, d2, d3, d4, d5⟩ := D.Box.three HDT4.out
        go_wp2_with fail
        go_roundw
        case rel => exact ⟨k + 1, l, y', m', n', by omega, by go_num, row_far HROW4.out (by omega) _ _ _, D.Box.onDate HDT4.out _ _ _, HNX2, HFL2, below_date HX4.out hlo _ _ _, by simpa using hsz4⟩
        case measure => simp [intOf]; omega
    · have hkt : k = (t + 1 - f).toNat := by omega
      have HROW := Lib.hid hrow; have HX := Lib.hid hx
      clear hrow hdt hx HRN
      go_wp2_with fail
      go_ret
      exact ⟨_, rfl, l, own_low HROW.out (by have := HB.out.size; omega), hkt ▸ HFL.out, HB.out.trans (HX.out.mono HB.out.size)⟩
end Go.Proofs.YtkimbmifabpppaaDoor
