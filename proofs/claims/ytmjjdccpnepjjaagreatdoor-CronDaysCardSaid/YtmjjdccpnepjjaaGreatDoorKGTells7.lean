/- CronTells: walked. -/
import Derived.Test.YtmjjdccpnepjjaaGreatDoorKGFits
namespace Go.Proofs.YtmjjdccpnepjjaaGreatDoor
open Go.RowKit

/-- A row of crons, where it lies. -/
def CronsAt (w : World) (B : Nat) (A : Option Addr) (n : Nat) : Prop := ∀ k, k < n → ∃ (g o : Nat) (a b c d e : BitVec 64), A = some ⟨g, o, none⟩ ∧ g < B ∧ w.cell? ⟨g, o + k * 5, none⟩ = some (.int .u64 (U a)) ∧ w.cell? ⟨g, o + k * 5 + 1, none⟩ = some (.int .u64 (U b)) ∧ w.cell? ⟨g, o + k * 5 + 2, none⟩ = some (.int .u64 (U c)) ∧ w.cell? ⟨g, o + k * 5 + 3, none⟩ = some (.int .u64 (U d)) ∧ w.cell? ⟨g, o + k * 5 + 4, none⟩ = some (.int .u64 (U e))
theorem CronsAt.on {w w' : World} {B : Nat} {A : Option Addr} {n : Nat} (h : CronsAt w B A n) (hb : Below B w w') : CronsAt w' B A n := by
  intro k hk
  obtain ⟨g, o, a, b, c, d, e, hA, hB, h0, h1, h2, h3, h4⟩ := h k hk
  exact ⟨g, o, a, b, c, d, e, hA, hB, (hb.cell (p := ⟨g, o + k * 5, none⟩) hB).trans h0, (hb.cell (p := ⟨g, o + k * 5 + 1, none⟩) hB).trans h1, (hb.cell (p := ⟨g, o + k * 5 + 2, none⟩) hB).trans h2, (hb.cell (p := ⟨g, o + k * 5 + 3, none⟩) hB).trans h3, (hb.cell (p := ⟨g, o + k * 5 + 4, none⟩) hB).trans h4⟩
theorem rtext_cr (a b c d e : BitVec 64) (h : crB [a, b, c, d, e] = true) (w : World) :
    Calls Tryz.prog 17 #[.agg #[.int .u64 (U a), .int .u64 (U b), .int .u64 (U c), .int .u64 (U d), .int .u64 (U e)]] w fun x w' => x = .returned (strV (ctextL [a, b, c, d, e])) ∧ Below w.heap.size w w' :=
  rtext7_any a b c d e w (crB_field h)
set_option maxRecDepth 100000 in
set_option maxHeartbeats 4000000 in
theorem tells7_walk (A : Option Addr) (n ca : Nat) (w : World) (hL : LaidC w) (hn : n ≤ maxLen) (hd : CronsAt w w.heap.size A n) :
    Calls Tryz.prog 4 #[.slice A n ca] w fun e w' => e = .returned (.bool true) ∧ Below w.heap.size w w' := by
  unfold maxLen at hn
  have HL := Lib.hid hL; have HD := Lib.hid hd
  clear hL hd
  go_enter Tryz.func4, Tryz.ntmps4
  go_wp2_with fail
  refine (cwakes_any w HL.out).mono ?_
  rintro x w1 ⟨rfl, hb⟩
  have HB1 := Lib.hid hb
  clear hb
  go_wp2_with fail
  go_loopw [3, 4, 5, 6, 7, 12] (fun _ _ _ _ _ i wr => ∃ k : Nat, k ≤ n ∧ i = .int .i64 (k : Int) ∧ Below w.heap.size w wr) (fun _ _ _ _ _ i _ => n - (intOf i).toNat)
  case atStart => exact ⟨0, Nat.zero_le _, rfl, HB1.out⟩
  case round =>
    clear HB1
    obtain ⟨k, hk, rfl, hb⟩ := hrel
    have HB := Lib.hid hb
    clear hb
    by_cases hlt : k < n
    · obtain ⟨g, oo, a, b, c, d, e, rfl, hg, e0, e1, e2, e3, e4⟩ := (HD.out.on HB.out) k hlt
      have HLr := Lib.hid (HL.out.on HB.out)
      have hsz := HB.out.size
      by_cases h12 : k = 12
      · subst h12
        have HBq := Lib.hid (HB.out.alloc HB.out.size (.cells #[.int .u64 (U a), .int .u64 (U b), .int .u64 (U c), .int .u64 (U d), .int .u64 (U e)] 27))
        rw [show ((12 : Nat) : Int) = 12 by rfl]
        go_wp2_with fail
        go_ret
        exact ⟨rfl, HBq.out⟩
      · have h12' : ((k : Int) == 12) = false := by simp; omega
        have HT := Lib.hid (fun W hW => ctext_any [a, b, c, d, e] W hW rfl)
        have HK := Lib.hid (fun W hW => ccheck_any [a, b, c, d, e] W hW rfl)
        have HR := Lib.hid (fun W => crB_five' a b c d e W)
        rw [cronV_five] at HT HK
        unfold fiveV at HT HK
        cases hcr : crB [a, b, c, d, e] with
        | false =>
          have hct : ctextV [a, b, c, d, e] = errT [] 170 := by unfold ctextV; rw [hcr]; rfl
          have hce : crE [a, b, c, d, e] = 170 := by unfold crE; rw [hcr]; rfl
          simp only [hct] at HT
          simp only [hce] at HK
          rw [hcr] at HR
          clear hct hce hcr
          unfold errT strV at HT
          go_wp2_with fail
          have hal := (Below.refl wr.heap.size wr).alloc (Nat.le_refl _) (.cells #[.int .u64 (U a), .int .u64 (U b), .int .u64 (U c), .int .u64 (U d), .int .u64 (U e)] 27)
          have HBq := Lib.hid (HB.out.trans (hal.mono HB.out.size)); have HLq := Lib.hid (HLr.out.on hal)
          have HCq := Lib.hid (CronAt.new wr a b c d e)
          clear hal e0 e1 e2 e3 e4
          generalize wr.alloc _ = wq at *
          refine (HT.out _ HLq.out).mono ?_
          rintro x w3 ⟨rfl, hb⟩
          have HB3 := Lib.hid (HBq.out.trans (hb.mono HBq.out.size)); have HL3 := Lib.hid (HLq.out.on hb); have HC3 := Lib.hid (HCq.out.on hb)
          clear hb
          obtain ⟨c0, c1, c2, c3, c4⟩ := HC3.out.five
          go_wp2_with fail
          refine (HK.out _ HL3.out.fld).mono ?_
          rintro x w4 ⟨rfl, hb⟩
          have HB4 := Lib.hid (HB3.out.trans (hb.mono HB3.out.size)); have HC4 := Lib.hid (HC3.out.on hb)
          clear hb c0 c1 c2 c3 c4
          obtain ⟨c0, c1, c2, c3, c4⟩ := HC4.out.five
          go_wp2_with fail
          refine (HR.out _).mono ?_
          rintro x w5 ⟨rfl, hb⟩
          have HB5 := Lib.hid (HB4.out.trans (hb.mono HB4.out.size)); have HC5 := Lib.hid (HC4.out.on hb)
          clear hb c0 c1 c2 c3 c4
          obtain ⟨c0, c1, c2, c3, c4⟩ := HC5.out.five
          go_wp2_with fail
          go_roundw
          case rel => exact ⟨k + 1, by omega, by go_num, HB5.out⟩
          case measure => simp [intOf]; omega
        | true =>
          have hct : ctextV [a, b, c, d, e] = errT (ctextL [a, b, c, d, e]) 0 := by unfold ctextV; rw [hcr]; rfl
          have hce : crE [a, b, c, d, e] = 0 := by unfold crE; rw [hcr]; rfl
          have HX := Lib.hid (fun W => rtext_cr a b c d e hcr W)
          simp only [hct] at HT
          simp only [hce] at HK
          rw [hcr] at HR
          clear hct hce hcr
          unfold errT strV at HT
          unfold strV at HX
          generalize ctextL [a, b, c, d, e] = tx at *
          go_wp2_with fail
          have hal := (Below.refl wr.heap.size wr).alloc (Nat.le_refl _) (.cells #[.int .u64 (U a), .int .u64 (U b), .int .u64 (U c), .int .u64 (U d), .int .u64 (U e)] 27)
          have HBq := Lib.hid (HB.out.trans (hal.mono HB.out.size)); have HLq := Lib.hid (HLr.out.on hal)
          have HCq := Lib.hid (CronAt.new wr a b c d e)
          clear hal e0 e1 e2 e3 e4
          generalize wr.alloc _ = wq at *
          refine (HT.out _ HLq.out).mono ?_
          rintro x w3 ⟨rfl, hb⟩
          have HB3 := Lib.hid (HBq.out.trans (hb.mono HBq.out.size)); have HL3 := Lib.hid (HLq.out.on hb); have HC3 := Lib.hid (HCq.out.on hb)
          clear hb
          obtain ⟨c0, c1, c2, c3, c4⟩ := HC3.out.five
          go_wp2_with fail
          refine (HK.out _ HL3.out.fld).mono ?_
          rintro x w4 ⟨rfl, hb⟩
          have HB4 := Lib.hid (HB3.out.trans (hb.mono HB3.out.size)); have HC4 := Lib.hid (HC3.out.on hb)
          clear hb c0 c1 c2 c3 c4
          obtain ⟨c0, c1, c2, c3, c4⟩ := HC4.out.five
          go_wp2_with fail
          refine (HR.out _).mono ?_
          rintro x w5 ⟨rfl, hb⟩
          have HB5 := Lib.hid (HB4.out.trans (hb.mono HB4.out.size)); have HC5 := Lib.hid (HC4.out.on hb)
          clear hb c0 c1 c2 c3 c4
          obtain ⟨c0, c1, c2, c3, c4⟩ := HC5.out.five
          go_wp2_with fail
          refine (HX.out _).mono ?_
          rintro x w6 ⟨rfl, hb⟩
          have HB6 := Lib.hid (HB5.out.trans (hb.mono HB5.out.size))
          clear hb
          go_wp2_with fail
          go_roundw
          case rel => exact ⟨k + 1, by omega, by go_num, HB6.out⟩
          case measure => simp [intOf]; omega
    · have hkn : k = n := by omega
      subst hkn
      go_wp2_with fail
      go_ret
      exact ⟨rfl, HB.out⟩
end Go.Proofs.YtmjjdccpnepjjaaGreatDoor
