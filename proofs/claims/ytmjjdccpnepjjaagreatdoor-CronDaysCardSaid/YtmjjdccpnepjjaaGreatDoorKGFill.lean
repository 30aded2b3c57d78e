/- fill: walked, of the program. -/
import Derived.Test.YtmjjdccpnepjjaaGreatDoorKGMacW
import Derived.Test.YtmjjdccpnepjjaaGreatDoorKGLib
namespace Go.Proofs.YtmjjdccpnepjjaaGreatDoor
open Go.RowKit

theorem prefix_at (l : List UInt8) : Lib.hasPrefix l [64] = decide (l.head? = some 64) := by
  unfold Lib.hasPrefix
  cases l with
  | nil => rfl
  | cons b l =>
    rw [List.isPrefixOf_cons_cons]
    by_cases h : b = 64
    · simp [h]
    · simp [h, Ne.symm h]
def fillV (L : List (BitVec 64)) (f : Nat) (l : List UInt8) : Value := .tuple #[.int .i64 ((fillC L f l).2.1 : Nat), .int .i64 ((fillC L f l).2.2 : Nat)]
set_option maxRecDepth 100000 in
set_option maxHeartbeats 2000000 in
theorem fill_any (g f : Nat) (l : List UInt8) (L : List (BitVec 64)) (w : World) (hL : LaidC w) (hf : f ≤ 5) (hl : l.length ≤ 256) (hC : CronAt w g L) :
    Calls Tryz.prog 30 #[.pointer (some ⟨g, 0, none⟩), .int .i64 (f : Int), strV l] w fun x w' => x = .returned (fillV L f l) ∧ CronAt w' g (fillC L f l).1 ∧ Sole g w.heap.size w w' := by
  have HL := Lib.hid hL; have HC := Lib.hid hC
  clear hL hC
  unfold fillV
  by_cases h5 : f = 5
  · subst h5
    have hq : fillC L 5 l = (L, 0, 0) := by unfold fillC; rw [if_pos rfl]
    rw [hq]
    unfold strV
    go_enter Tryz.func30, Tryz.ntmps30
    go_wp2_with fail
    go_ret2
    exact ⟨rfl, HC.out, Sole.of (Below.refl _ _)⟩
  have hf5 : ((f : Int) == 5) = false := by simp; omega
  by_cases h0 : f = 0
  · subst h0
    have HP := Lib.hid (fun W => strings_HasPrefix ⟨l.toArray⟩ ⟨#[64]⟩ W)
    rw [show (⟨l.toArray⟩ : ByteArray).data.toList = l by simp, show (⟨#[64]⟩ : ByteArray).data.toList = [64] by rfl, prefix_at] at HP
    by_cases h64 : l.head? = some 64
    · have HM := Lib.hid (fun W hW => macro_any l W hW)
      rw [decide_eq_true h64] at HP
      unfold macroV at HM
      cases hm : macroM l with
      | none =>
        have hq : fillC L 0 l = (L, 0, 0) := by unfold fillC; rw [if_neg (by omega), if_pos ⟨rfl, h64⟩, hm]
        rw [hm] at HM
        rw [hq]
        clear h64 hm hq
        unfold strV at *
        go_enter Tryz.func30, Tryz.ntmps30
        go_wp2_with fail
        refine (HP.out _).mono ?_
        rintro x w1 ⟨rfl, rfl⟩
        go_wp2_with fail
        refine (HM.out _ HL.out).mono ?_
        rintro x w1 ⟨rfl, hb⟩
        unfold cronV nilF
        simp only [Option.getD_none, Option.isSome_none, List.map_cons, List.map_nil]
        unfold menc
        go_wp2_with fail
        go_ret2
        exact ⟨rfl, (HC.out.on hb).alloc _, Sole.of (hb.alloc hb.size _)⟩
      | some m =>
        have hq : fillC L 0 l = (m, 5, 0) := by unfold fillC; rw [if_neg (by omega), if_pos ⟨rfl, h64⟩, hm]
        have hm5 : m.length = 5 := by
          have := fillC_len (l := L) (f := 0) (w := l) HC.out.1
          rw [hq] at this; exact this
        rw [hm] at HM
        rw [hq]
        obtain ⟨a, b, c, d, e, rfl⟩ := list_five hm5
        obtain ⟨a0, b0, c0, d0, e0, rfl⟩ := list_five HC.out.1
        clear h64 hm hq hm5
        unfold strV at *
        go_enter Tryz.func30, Tryz.ntmps30
        go_wp2_with fail
        refine (HP.out _).mono ?_
        rintro x w1 ⟨rfl, rfl⟩
        go_wp2_with fail
        refine (HM.out _ HL.out).mono ?_
        rintro x w1 ⟨rfl, hb⟩
        unfold cronV
        simp only [Option.getD_some, Option.isSome_some, List.map_cons, List.map_nil]
        unfold menc
        have HX := Lib.hid ((HC.out.on hb).alloc (.cells #[.int .u64 (U a), .int .u64 (U b), .int .u64 (U c), .int .u64 (U d), .int .u64 (U e)] 27))
        have HS := Lib.hid (Sole.of (g := g) (hb.alloc hb.size (.cells #[.int .u64 (U a), .int .u64 (U b), .int .u64 (U c), .int .u64 (U d), .int .u64 (U e)] 27)))
        obtain ⟨c0, c1, c2, c3, c4⟩ := HX.out.five
        have f0 := HX.out.frozen 0; have f1 := HX.out.frozen 1; have f2 := HX.out.frozen 2; have f3 := HX.out.frozen 3; have f4 := HX.out.frozen 4
        go_wp2_with fail
        go_ret2
        exact ⟨rfl, HX.out.set5 a b c d e, ((((HS.out.set _).set _).set _).set _).set _⟩
    · rw [decide_eq_false h64] at HP
      have hq : fillC L 0 l = if (readL 0 l).2.2 = 0 then (L.set 0 (readL 0 l).1, 1, 0) else (L.set 0 (readL 0 l).1, 0, (readL 0 l).2.1) := by
        unfold fillC; rw [if_neg (by omega), if_neg (fun h => h64 h.2)]
      have HU := Lib.hid (fun W hW hC => put_any g 0 l L W hW (by omega) hl hC)
      clear h64 hf5
      rw [hq]
      clear hq
      unfold putV at HU
      generalize readL 0 l = r at *
      obtain ⟨m, p, z⟩ := r
      simp only at HU ⊢
      unfold strV at *
      simp only [show ((0 : Nat) : Int) = 0 from rfl] at *
      by_cases hz : z = 0
      · subst hz
        rw [if_pos rfl]
        go_enter Tryz.func30, Tryz.ntmps30
        go_wp2_with fail
        refine (HP.out _).mono ?_
        rintro x w1 ⟨rfl, rfl⟩
        go_wp2_with fail
        refine (HU.out _ HL.out.fld HC.out).mono ?_
        rintro x w1 ⟨rfl, hc, hs⟩
        go_wp2_with fail
        go_ret2
        exact ⟨rfl, hc, hs⟩
      · rw [if_neg hz]
        have hz' : (z == 0) = false := by simpa using hz
        go_enter Tryz.func30, Tryz.ntmps30
        go_wp2_with fail
        refine (HP.out _).mono ?_
        rintro x w1 ⟨rfl, rfl⟩
        go_wp2_with fail
        refine (HU.out _ HL.out.fld HC.out).mono ?_
        rintro x w1 ⟨rfl, hc, hs⟩
        go_wp2_with fail
        go_ret2
        exact ⟨rfl, hc, hs⟩
  · have hf0 : ((f : Int) == 0) = false := by simp; omega
    have hq : fillC L f l = if (readL f l).2.2 = 0 then (L.set f (readL f l).1, 1, 0) else (L.set f (readL f l).1, 0, (readL f l).2.1) := by
      unfold fillC; rw [if_neg h5, if_neg (fun h => h0 h.1)]
    have HU := Lib.hid (fun W hW hC => put_any g f l L W hW (by omega) hl hC)
    rw [hq]
    clear hq
    unfold putV at HU
    generalize readL f l = r at *
    obtain ⟨m, p, z⟩ := r
    simp only at HU ⊢
    unfold strV at *
    by_cases hz : z = 0
    · subst hz
      rw [if_pos rfl]
      go_enter Tryz.func30, Tryz.ntmps30
      go_wp2_with fail
      refine (HU.out _ HL.out.fld HC.out).mono ?_
      rintro x w1 ⟨rfl, hc, hs⟩
      go_wp2_with fail
      go_ret2
      exact ⟨rfl, hc, hs⟩
    · rw [if_neg hz]
      have hz' : (z == 0) = false := by simpa using hz
      go_enter Tryz.func30, Tryz.ntmps30
      go_wp2_with fail
      refine (HU.out _ HL.out.fld HC.out).mono ?_
      rintro x w1 ⟨rfl, hc, hs⟩
      go_wp2_with fail
      go_ret2
      exact ⟨rfl, hc, hs⟩
end Go.Proofs.YtmjjdccpnepjjaaGreatDoor
