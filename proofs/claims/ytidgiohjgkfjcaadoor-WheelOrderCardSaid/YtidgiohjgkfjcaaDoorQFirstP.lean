/- First: walked. -/
import Derived.Test.YtidgiohjgkfjcaaDoorQPutP
namespace Go.Proofs.YtidgiohjgkfjcaaDoor
open Go.RowKit
variable [Rows]

/-- What First tells. -/
def firstV (l : List (Int × Int)) : Value := match l with
  | [] => .tuple #[dueV (0, 0), .bool false]
  | d :: _ => .tuple #[dueV d, .bool true]
set_option maxRecDepth 100000 in
set_option maxHeartbeats 1000000 in
theorem first_wh (p : Nat) (t : Int) (l : List (Int × Int)) (w : World) (hW : Wh w w.heap.size p t l) (hT : Tab w) (hg : 0 < w.heap.size) :
    Calls Tryd.prog 25 #[.pointer (some ⟨p, 0, none⟩)] w fun e w' => e = .returned (firstV l) ∧ Below w.heap.size w w' := by
  obtain ⟨V, hV, _⟩ := hW.at_
  obtain ⟨r, hr⟩ : ∃ r, r = firstV l := ⟨_, rfl⟩
  rw [← hr]
  have HQ := Lib.hid hr
  have HR := Lib.hid hW.right
  have HV := Lib.hid hV
  have hB0 := (Below.refl w.heap.size w).alloc (Nat.le_refl _) (.cells #[.int .i64 0, .int .u64 0] 39)
  have hb0 := QBox.new w 39 #[.int .i64 0, .int .u64 0]
  clear hr hW hV
  go_enter Tryd.func25, Tryd.ntmps25
  go_wp2_with fail
  go_loopw [11] (fun i wr => ∃ k : Nat, k ≤ 5 ∧ i = .int .i64 k ∧ Hid (∀ j, j < k * 64 → stQ t l j = []) ∧ QBox wr w.heap.size 39 #[.int .i64 0, .int .u64 0] ∧ Below w.heap.size w wr) (fun i _ => 5 - (intOf i).toNat)
  case atStart => exact ⟨0, by omega, rfl, Lib.hid (fun j hj => by omega), hb0, hB0⟩
  case round =>
    clear hB0 hb0
    obtain ⟨k, hk, rfl, HN, hq, hb⟩ := hrel
    obtain ⟨c0, c1, f0, f1⟩ := hq.two
    have HQB := Lib.hid hq
    have HB := Lib.hid hb
    by_cases hk5 : k < 5
    · have hV1 := (HV.out.below hb).mono hb.size
      obtain ⟨m, hm, hbit⟩ := hV1.mask k hk5
      have hk0 : (0 : Int) ≤ (k : Int) := by omega
      have hk1 : (k : Int) < 5 := by omega
      have HF := Lib.hid (first9 m 0 wr (hT.below hg hb) (Nat.lt_of_lt_of_le hg hb.size))
      have HI := Lib.hid (least_in (s := ⟨0, stQ t l, V⟩) hbit (f := 0) (by omega) (Nat.zero_le _) (fun i _ h2 => HN.out i (by omega)))
      have HV1 := Lib.hid hV1
      clear hV1 hbit hq hb
      go_wp2_with fail
      refine HF.out.mono ?_
      rintro e w1 ⟨rfl, hb1⟩
      have HV2 := Lib.hid ((HV1.out.below hb1).mono hb1.size)
      have HQ2 := Lib.hid (HQB.out.belowAll hb1)
      have HB2 := Lib.hid (HB.out.trans (hb1.mono HB.out.size))
      unfold some2
      generalize hle : least m 0 = o at *
      have HI2 : Hid (WIn ⟨0, stQ t l, V⟩ k o) := HI
      clear hle hb1 HF HI HV1 HQB HB c0 c1 f0 f1 hm
      cases o with
      | none =>
        have HN2 := Lib.hid (show ∀ j, j < (k + 1) * 64 → stQ t l j = [] from fun j hj => HI2.out.2 j (Nat.zero_le _) hj)
        go_wp2_with fail
        go_roundw
        case rel => exact ⟨k + 1, by omega, by go_num, HN2.out, HQ2.out, HB2.out⟩
        case measure => simp [intOf]; omega
      | some sl =>
        obtain ⟨hs64, _, hne, hno⟩ := HI2.out
        obtain ⟨d, q, hdq⟩ : ∃ d q, stQ t l (k * 64 + sl) = d :: q := by
          cases h : stQ t l (k * 64 + sl) with
          | nil => exact absurd h hne
          | cons d q => exact ⟨d, q, rfl⟩
        have hsl := HV2.out.slot k sl hk5 hs64
        have hdu := (HV.out.below HB2.out).due (k * 64 + sl) (by omega)
        generalize hVe : V (k * 64 + sl) = VA at *
        obtain ⟨A, c⟩ := VA
        obtain ⟨b1, o1, hA, hlb, x0, x1⟩ := hdu.row.at_ 0 d (by rw [hdq]; rfl)
        dsimp only at hA hsl
        subst hA
        obtain ⟨c0, c1, f0, f1⟩ := HQ2.out.two
        have hhd := stQ_first HR.out (fun i hi => hno i (Nat.zero_le _) hi) hdq
        have HH := Lib.hid hhd
        have hi0 : (0 : Int) ≤ (sl : Int) := by omega
        have hi1 : (sl : Int) < 64 := by omega
        have hlen : (0 : Int) < ((stQ t l (k * 64 + sl)).length : Int) := by rw [hdq]; simp
        rw [Nat.zero_mul, Nat.add_zero] at x0 x1
        generalize (stQ t l (k * 64 + sl)).length = N at *
        have hbw : b1 ≠ w.heap.size := Nat.ne_of_lt hlb
        have hblt : b1 < w1.heap.size := Nat.lt_of_lt_of_le hlb HB2.out.size
        clear hdu hno hne hdq hVe hhd HI2
        obtain ⟨d0, d1⟩ := d
        go_wp2_with fail
        obtain ⟨z0, z1, _, _⟩ := (HQ2.out.set2 (.int .i64 d0) (.int .u64 d1)).two
        refine bodyPost_ret (v := .tuple #[.agg #[.int .i64 d0, .int .u64 d1], .bool true]) (by simp [results, Tryd.results25, go_sem, z0, z1]) rfl ⟨?_, below_set2 HB2.out (Nat.le_refl _) _ _⟩
        obtain ⟨q, hq⟩ := HH.out
        rw [HQ.out, hq]; rfl
    · have h0 : l = [] := stQ_empty HR.out (fun i hi => HN.out i (by omega))
      have HL := Lib.hid h0
      clear h0 hq hb
      go_wp2_with fail
      obtain ⟨z0, z1, _, _⟩ := (HQB.out.set2 (.int .i64 0) (.int .u64 0)).two
      refine bodyPost_ret (v := .tuple #[.agg #[.int .i64 0, .int .u64 0], .bool false]) (by simp [results, Tryd.results25, go_sem, z0, z1]) rfl ⟨?_, below_set2 HB.out (Nat.le_refl _) _ _⟩
      rw [HQ.out, HL.out]; rfl
end Go.Proofs.YtidgiohjgkfjcaaDoor
