/- TimesGoes, walked. -/
import Derived.Test.YtnhbkfmaaannnaaDoorERead
namespace Go.Proofs.YtnhbkfmaaannnaaDoor
open Go.RowKit

/-- A row of pairs of int64s, where it lies. -/
def ArrP (w : World) (B : Nat) (A : Option Addr) (n : Nat) : Prop :=
  ∀ k, k < n → ∃ b o t u, A = some ⟨b, o, none⟩ ∧ b < B ∧ w.cell? ⟨b, o + k * 2, none⟩ = some (.int .i64 t) ∧ w.cell? ⟨b, o + k * 2 + 1, none⟩ = some (.int .i64 u) ∧ I64 u
theorem ArrP.on {w w' : World} {B n : Nat} {A : Option Addr} (h : ArrP w B A n) (hb : Below B w w') : ArrP w' B A n := fun k hk => by
  obtain ⟨b, o, t, u, e, hl, hc, hd, hi⟩ := h k hk
  exact ⟨b, o, t, u, e, hl, (hb.cell (p := ⟨b, o + k * 2, none⟩) hl).trans hc, (hb.cell (p := ⟨b, o + k * 2 + 1, none⟩) hl).trans hd, hi⟩
set_option maxRecDepth 100000 in
set_option maxHeartbeats 1000000 in
theorem goes_walk (A : Option Addr) (n c : Nat) (w : World) (hL : Laid w) (hn : n ≤ maxLen) (hz : ArrP w w.heap.size A n) :
    Calls Tryd.prog 4 #[.slice A n c] w fun e w' => e = .returned (.bool true) ∧ Below w.heap.size w w' := by
  unfold maxLen at hn
  have HL := Lib.hid hL; have HZ := Lib.hid hz
  clear hL hz
  go_enter Tryd.func4, Tryd.ntmps4
  go_wp2_with fail
  refine (wakes_any w HL.out).mono ?_
  rintro e w2 ⟨rfl, hb⟩
  have HB := Lib.hid hb
  clear hb HL
  go_wp2_with fail
  go_loopw [16] (fun i wr => ∃ (k : Nat), k ≤ n ∧ i = .int .i64 k ∧ Below w.heap.size w wr) (fun i _ => n - (intOf i).toNat)
  case atStart => exact ⟨0, Nat.zero_le _, rfl, HB.out⟩
  case round =>
    clear HB
    obtain ⟨k, hk, rfl, hb⟩ := hrel
    have HB := Lib.hid hb
    by_cases hlt : k < n
    · obtain ⟨b, o, t, u, rfl, hbl, hc, hd, hi⟩ := HZ.out.on hb k hlt
      have hle := hb.size
      have hc' : (wr.alloc (.cells #[.int .i64 t, .int .i64 u] 44)).cell? ⟨wr.heap.size, 0, none⟩ = some (.int .i64 t) := by simp
      by_cases h30 : k = 30
      · subst h30
        clear hb hi hle hc'
        go_wp2_with fail
        go_ret
        exact ⟨rfl, HB.out.alloc HB.out.size _⟩
      · have h30' : ((k : Int) == 30) = false := by simp; omega
        clear hb h30 hc' hle
        have HI := Lib.hid hi
        clear hi
        go_wp2_with fail
        go_quiet (fail)
        have HBA := Lib.hid (HB.out.alloc HB.out.size (.cells #[.int .i64 t, .int .i64 u] 44))
        have hQ : ∃ z, (∀ W, Calls Tryd.prog 22 #[.int .i64 t, .int .i64 u] W fun e w' => e = .returned (.int .i64 z) ∧ W = w') ∧ (∀ W, Calls Tryd.prog 23 #[.int .i64 t, .int .i64 u] W fun e w' => e = .returned (.int .i64 z) ∧ W = w') := ⟨_, fun W => read_any t u W, fun W => readR_any t u W⟩
        obtain ⟨z, hq1, hq2⟩ := hQ
        have HQ1 := Lib.hid hq1; have HQ2 := Lib.hid hq2
        clear hq1 hq2
        have hF : FloorZ t u ∨ ¬ FloorZ t u := Classical.em _
        by_cases hS : SumZ t u
        · obtain ⟨sv, hsv⟩ : ∃ sv, sv = t + u := ⟨_, rfl⟩
          have HA1 := Lib.hid (fun W => add_ok t u W hS); have HA2 := Lib.hid (fun W => addR_ok t u W hS)
          rw [← hsv] at HA1 HA2
          clear hsv hS
          rcases hF with hF | hF
          · obtain ⟨g1, g2, g3, g4, g5, g6⟩ := floor_facts hF
            have HF1 := Lib.hid (fun W => floor_ok t u W hF)
            have q1 := timeB_yes hF.1
            have q2 : (u == 0) = false := by have := hF.2; simp; omega
            have q3 : decide (u < 1) = false := by have := hF.2; simp; omega
            have q4 : 1 ≤ u := hF.2
            obtain ⟨t0, t1⟩ := hF.1
            obtain ⟨p0, p1⟩ := g1
            clear g2 g3 g4 g5 g6 hF
            go_wp2_with fail
            refine (HA1.out _).mono ?_
            rintro e w' ⟨rfl, rfl⟩
            go_wp2_with fail
            refine (HA2.out _).mono ?_
            rintro e w' ⟨rfl, rfl⟩
            go_wp2_with fail
            refine (HQ1.out _).mono ?_
            rintro e w' ⟨rfl, rfl⟩
            go_wp2_with fail
            refine (HQ2.out _).mono ?_
            rintro e w' ⟨rfl, rfl⟩
            go_wp2_with fail
            refine (HF1.out _).mono ?_
            rintro e w' ⟨rfl, rfl⟩
            go_wp2_with fail
            refine (timeR_any t _).mono ?_
            rintro e w' ⟨rfl, rfl⟩
            go_wp2_with fail
            go_roundw
            case rel => exact ⟨k + 1, by omega, by go_num, bdrewN HBA.out _⟩
            case measure => simp [intOf]; omega
          · have HF1 := Lib.hid (fun W => floor_no t u W hF)
            by_cases hT : TimeZ t
            · have q1 := timeB_yes hT
              have q3 : decide (u < 1) = true := by have : ¬ 1 ≤ u := fun q => hF ⟨hT, q⟩
                                                    simp; omega
              clear hT hF
              go_wp2_with fail
              refine (HA1.out _).mono ?_
              rintro e w' ⟨rfl, rfl⟩
              go_wp2_with fail
              refine (HA2.out _).mono ?_
              rintro e w' ⟨rfl, rfl⟩
              go_wp2_with fail
              refine (HQ1.out _).mono ?_
              rintro e w' ⟨rfl, rfl⟩
              go_wp2_with fail
              refine (HQ2.out _).mono ?_
              rintro e w' ⟨rfl, rfl⟩
              go_wp2_with fail
              refine (HF1.out _).mono ?_
              rintro e w' ⟨rfl, rfl⟩
              go_wp2_with fail
              refine (timeR_any t _).mono ?_
              rintro e w' ⟨rfl, rfl⟩
              go_wp2_with fail
              go_roundw
              case rel => exact ⟨k + 1, by omega, by go_num, bdrewN HBA.out _⟩
              case measure => simp [intOf]; omega
            · have q1 := timeB_no hT
              clear hT hF
              go_wp2_with fail
              refine (HA1.out _).mono ?_
              rintro e w' ⟨rfl, rfl⟩
              go_wp2_with fail
              refine (HA2.out _).mono ?_
              rintro e w' ⟨rfl, rfl⟩
              go_wp2_with fail
              refine (HQ1.out _).mono ?_
              rintro e w' ⟨rfl, rfl⟩
              go_wp2_with fail
              refine (HQ2.out _).mono ?_
              rintro e w' ⟨rfl, rfl⟩
              go_wp2_with fail
              refine (HF1.out _).mono ?_
              rintro e w' ⟨rfl, rfl⟩
              go_wp2_with fail
              refine (timeR_any t _).mono ?_
              rintro e w' ⟨rfl, rfl⟩
              go_wp2_with fail
              go_roundw
              case rel => exact ⟨k + 1, by omega, by go_num, bdrewN HBA.out _⟩
              case measure => simp [intOf]; omega
        · have HA1 := Lib.hid (fun W => add_no t u W HI.out hS); have HA2 := Lib.hid (fun W => addR_no t u W hS)
          clear hS
          rcases hF with hF | hF
          · obtain ⟨g1, g2, g3, g4, g5, g6⟩ := floor_facts hF
            have HF1 := Lib.hid (fun W => floor_ok t u W hF)
            have q1 := timeB_yes hF.1
            have q2 : (u == 0) = false := by have := hF.2; simp; omega
            have q3 : decide (u < 1) = false := by have := hF.2; simp; omega
            have q4 : 1 ≤ u := hF.2
            obtain ⟨t0, t1⟩ := hF.1
            obtain ⟨p0, p1⟩ := g1
            clear g2 g3 g4 g5 g6 hF
            go_wp2_with fail
            refine (HA1.out _).mono ?_
            rintro e w' ⟨rfl, rfl⟩
            go_wp2_with fail
            refine (HA2.out _).mono ?_
            rintro e w' ⟨rfl, rfl⟩
            go_wp2_with fail
            refine (HQ1.out _).mono ?_
            rintro e w' ⟨rfl, rfl⟩
            go_wp2_with fail
            refine (HQ2.out _).mono ?_
            rintro e w' ⟨rfl, rfl⟩
            go_wp2_with fail
            refine (HF1.out _).mono ?_
            rintro e w' ⟨rfl, rfl⟩
            go_wp2_with fail
            refine (timeR_any t _).mono ?_
            rintro e w' ⟨rfl, rfl⟩
            go_wp2_with fail
            go_roundw
            case rel => exact ⟨k + 1, by omega, by go_num, bdrewN HBA.out _⟩
            case measure => simp [intOf]; omega
          · have HF1 := Lib.hid (fun W => floor_no t u W hF)
            by_cases hT : TimeZ t
            · have q1 := timeB_yes hT
              have q3 : decide (u < 1) = true := by have : ¬ 1 ≤ u := fun q => hF ⟨hT, q⟩
                                                    simp; omega
              clear hT hF
              go_wp2_with fail
              refine (HA1.out _).mono ?_
              rintro e w' ⟨rfl, rfl⟩
              go_wp2_with fail
              refine (HA2.out _).mono ?_
              rintro e w' ⟨rfl, rfl⟩
              go_wp2_with fail
              refine (HQ1.out _).mono ?_
              rintro e w' ⟨rfl, rfl⟩
              go_wp2_with fail
              refine (HQ2.out _).mono ?_
              rintro e w' ⟨rfl, rfl⟩
              go_wp2_with fail
              refine (HF1.out _).mono ?_
              rintro e w' ⟨rfl, rfl⟩
              go_wp2_with fail
              refine (timeR_any t _).mono ?_
              rintro e w' ⟨rfl, rfl⟩
              go_wp2_with fail
              go_roundw
              case rel => exact ⟨k + 1, by omega, by go_num, bdrewN HBA.out _⟩
              case measure => simp [intOf]; omega
            · have q1 := timeB_no hT
              clear hT hF
              go_wp2_with fail
              refine (HA1.out _).mono ?_
              rintro e w' ⟨rfl, rfl⟩
              go_wp2_with fail
              refine (HA2.out _).mono ?_
              rintro e w' ⟨rfl, rfl⟩
              go_wp2_with fail
              refine (HQ1.out _).mono ?_
              rintro e w' ⟨rfl, rfl⟩
              go_wp2_with fail
              refine (HQ2.out _).mono ?_
              rintro e w' ⟨rfl, rfl⟩
              go_wp2_with fail
              refine (HF1.out _).mono ?_
              rintro e w' ⟨rfl, rfl⟩
              go_wp2_with fail
              refine (timeR_any t _).mono ?_
              rintro e w' ⟨rfl, rfl⟩
              go_wp2_with fail
              go_roundw
              case rel => exact ⟨k + 1, by omega, by go_num, bdrewN HBA.out _⟩
              case measure => simp [intOf]; omega
    · obtain rfl : k = n := by omega
      clear hb
      go_wp2_with fail
      go_ret
      exact ⟨rfl, HB.out⟩
end Go.Proofs.YtnhbkfmaaannnaaDoor
