/- DaysAdds: dates so many days on. -/
import Derived.Test.YtglmonjpcgadnaaDoorDEras
import Derived.Deep.RegionHeld3
namespace Go.Proofs.YtglmonjpcgadnaaDoor
open Go.RowKit

def nthI (zs : List Int) (k : Nat) : Int := zs.getD k 0
def ArrZ (w : World) (B : Nat) (A : Option Addr) (n : Nat) (zs : List Int) : Prop := ∀ k, k < n → ∃ b o, A = some ⟨b, o, none⟩ ∧ b < B ∧ w.cell? ⟨b, o + k, none⟩ = some (.int .i64 (nthI zs k)) ∧ -9223372036854775808 ≤ nthI zs k ∧ nthI zs k ≤ 9223372036854775807
theorem ArrZ.below {w w' : World} {B : Nat} {A : Option Addr} {n : Nat} {zs : List Int} (h : ArrZ w B A n zs) (hb : Below B w w') : ArrZ w' B A n zs := by
  intro k hk
  obtain ⟨b, o, e, hB, hc, hz⟩ := h k hk
  exact ⟨b, o, e, hB, (hb.cell (p := ⟨b, o + k, none⟩) hB).trans hc, hz⟩
theorem right_raw_ok (y m d : Int) (w : World) (h : RightZ y m d) :
    Calls Tryd.prog 11 #[.agg #[.int .i64 y, .int .i64 m, .int .i64 d]] w fun e w' => e = .returned (.bool true) ∧ Below w.heap.size w w' := right_ok y m d w h
theorem right_raw_no (y m d : Int) (w : World) (h : ¬ RightZ y m d) :
    Calls Tryd.prog 11 #[.agg #[.int .i64 y, .int .i64 m, .int .i64 d]] w fun e w' => e = .returned (.bool false) ∧ Below w.heap.size w w' := right_no y m d w h
theorem ofR_raw (y m d : Int) (w : World) (h : RightZ y m d) :
    Calls Tryd.prog 19 #[.agg #[.int .i64 y, .int .i64 m, .int .i64 d]] w fun e w' => e = .returned (.int .i64 (numZ y m d)) ∧ Below w.heap.size w w' := ofR_ok y m d w h
theorem atR_is (n y m d : Int) (w : World) (h : RightZ y m d) (hn : numZ y m d = n) :
    Calls Tryd.prog 23 #[.int .i64 n] w fun e w' => e = .returned (.agg #[.int .i64 y, .int .i64 m, .int .i64 d]) ∧ Below w.heap.size w w' := by
  have hr := num_range h
  refine (atR_ok n w (by omega) (by omega)).mono ?_
  rintro e w' ⟨y', m', d', rfl, hR, hN, hb⟩
  obtain ⟨rfl, rfl, rfl⟩ := num_inj h hR (hn.trans hN.symm)
  exact ⟨rfl, hb⟩
set_option maxRecDepth 100000 in
theorem adds_walk (y m d : Int) (A : Option Addr) (n c : Nat) (zs : List Int) (w : World) (hL : Laid w) (hn : n ≤ maxLen) (hz : ArrZ w w.heap.size A n zs) :
    Calls Tryd.prog 5 #[dateV y m d, .slice A n c] w fun e w' => e = .returned (.bool true) ∧ Below w.heap.size w w' := by
  unfold maxLen at hn
  have hA := DateAt.new w y m d
  have hB : Below w.heap.size w (w.alloc (dateO y m d)) := (Below.refl _ w).alloc (Nat.le_refl _) _
  have hL1 := hL.alloc (dateO y m d)
  have hwk := wakes_any _ hL1
  unfold dateV
  unfold dateO at *
  have HW := Lib.hid hwk
  have HA := Lib.hid hA; have HB := Lib.hid hB; have HL := Lib.hid hL; have HZ := Lib.hid hz
  clear hwk hA hB hL hL1 hz
  go_enter Tryd.func5, Tryd.ntmps5
  go_wp2_with fail
  refine HW.out.mono ?_
  rintro e w2 ⟨rfl, hb⟩
  have HB2 := Lib.hid (HB.out.trans (hb.mono HB.out.size))
  have HA2 := Lib.hid (HA.out.on hb)
  clear HW HB HA hb
  go_wp2_with fail
  go_loopw [14] (fun i wr => ∃ k : Nat, k ≤ n ∧ k ≤ 6 ∧ i = .int .i64 k ∧ Below w.heap.size w wr ∧ DateAt wr w.heap.size y m d) (fun i _ => n - (intOf i).toNat)
  case atStart => exact ⟨0, by omega, by omega, rfl, HB2.out, HA2.out⟩
  case round =>
    clear HB2 HA2
    obtain ⟨k, hk, hk6, rfl, hB, hA⟩ := hrel
    have HB := Lib.hid hB
    have HA := Lib.hid hA
    clear hB hA
    by_cases hkn : k < n
    · obtain ⟨b, o, rfl, hbB, hc, hz0, hz1⟩ := (HZ.out.below HB.out) k hkn
      generalize nthI zs k = z at *
      have HZB := Lib.hid (And.intro hz0 hz1)
      clear hz0 hz1
      have i0 : (0 : Int) ≤ (k : Int) := by omega
      by_cases hks : k = 6
      · subst hks
        go_wp2_with fail
        go_ret
        exact ⟨rfl, HB.out⟩
      · have hk6' : ((k : Int) == 6) = false := by simp; omega
        obtain ⟨a0, a1, a2⟩ := HA.out.cells
        have HLr := Lib.hid (HL.out.on HB.out)
        have hk5 : k + 1 ≤ 6 := by omega
        clear hks
        go_wp2_with fail
        by_cases hr : RightZ y m d
        · obtain ⟨q0, q1⟩ := num_range hr
          have HR := Lib.hid hr
          clear hr
          have hadd := fun w hL => add_ok y m d z w hL HR.out
          have hout := fun w hL => add_out y m d z w hL HR.out HZB.out.1 HZB.out.2
          have hof := fun w => ofR_raw y m d w HR.out
          generalize hN : numZ y m d = N at *
          have HN := Lib.hid hN
          have HADD := Lib.hid hadd; have HOUT := Lib.hid hout; have HOF := Lib.hid hof
          clear hadd hout hof hN
          by_cases hlo : z < -N
          · have hl : decide (z < -N) = true := by simpa using hlo
            refine (HOUT.out _ HLr.out (by omega)).mono ?_
            rintro e w3 ⟨rfl, hb⟩
            unfold dateV
            have hbI := HB.out.trans (hb.mono HB.out.size)
            have HB3 := Lib.hid (hbI.alloc hbI.size (dateO 0 0 0))
            have HA3 := Lib.hid ((HA.out.on hb).alloc (dateO 0 0 0))
            have HX3 := Lib.hid (DateAt.new w3 0 0 0)
            unfold dateO at *
            clear HB HA hb hbI a0 a1 a2
            obtain ⟨a0, a1, a2⟩ := HA3.out.cells
            obtain ⟨x0, x1, x2⟩ := HX3.out.cells
            go_wp2_with fail
            refine (right_raw_ok y m d _ HR.out).mono ?_
            rintro e w4 ⟨rfl, hb⟩
            have HB4 := Lib.hid (HB3.out.trans (hb.mono HB3.out.size))
            have HA4 := Lib.hid (HA3.out.on hb)
            have HX4 := Lib.hid (HX3.out.on hb)
            clear HB3 HA3 HX3 hb a0 a1 a2 x0 x1 x2
            obtain ⟨a0, a1, a2⟩ := HA4.out.cells
            obtain ⟨x0, x1, x2⟩ := HX4.out.cells
            go_wp2_with fail
            refine (HOF.out _).mono ?_
            rintro e w5 ⟨rfl, hb⟩
            have HB5 := Lib.hid (HB4.out.trans (hb.mono HB4.out.size))
            have HA5 := Lib.hid (HA4.out.on hb)
            have HX5 := Lib.hid (HX4.out.on hb)
            clear HB4 HA4 HX4 hb a0 a1 a2 x0 x1 x2
            obtain ⟨a0, a1, a2⟩ := HA5.out.cells
            obtain ⟨x0, x1, x2⟩ := HX5.out.cells
            go_wp2_with fail
            go_roundw
            case rel => exact ⟨k + 1, by omega, by omega, by go_num, HB5.out, HA5.out⟩
            case measure => simp [intOf]; omega
          · have hl : decide (z < -N) = false := by simpa using hlo
            by_cases hhi : 2932896 - N < z
            · have hh : decide (2932896 - N < z) = true := by simpa using hhi
              refine (HOUT.out _ HLr.out (by omega)).mono ?_
              rintro e w3 ⟨rfl, hb⟩
              unfold dateV
              have hbI := HB.out.trans (hb.mono HB.out.size)
              have HB3 := Lib.hid (hbI.alloc hbI.size (dateO 0 0 0))
              have HA3 := Lib.hid ((HA.out.on hb).alloc (dateO 0 0 0))
              have HX3 := Lib.hid (DateAt.new w3 0 0 0)
              unfold dateO at *
              clear HB HA hb hbI a0 a1 a2
              obtain ⟨a0, a1, a2⟩ := HA3.out.cells
              obtain ⟨x0, x1, x2⟩ := HX3.out.cells
              go_wp2_with fail
              refine (right_raw_ok y m d _ HR.out).mono ?_
              rintro e w4 ⟨rfl, hb⟩
              have HB4 := Lib.hid (HB3.out.trans (hb.mono HB3.out.size))
              have HA4 := Lib.hid (HA3.out.on hb)
              have HX4 := Lib.hid (HX3.out.on hb)
              clear HB3 HA3 HX3 hb a0 a1 a2 x0 x1 x2
              obtain ⟨a0, a1, a2⟩ := HA4.out.cells
              obtain ⟨x0, x1, x2⟩ := HX4.out.cells
              go_wp2_with fail
              refine (HOF.out _).mono ?_
              rintro e w5 ⟨rfl, hb⟩
              have HB5 := Lib.hid (HB4.out.trans (hb.mono HB4.out.size))
              have HA5 := Lib.hid (HA4.out.on hb)
              have HX5 := Lib.hid (HX4.out.on hb)
              clear HB4 HA4 HX4 hb a0 a1 a2 x0 x1 x2
              obtain ⟨a0, a1, a2⟩ := HA5.out.cells
              obtain ⟨x0, x1, x2⟩ := HX5.out.cells
              go_wp2_with fail
              go_roundw
              case rel => exact ⟨k + 1, by omega, by omega, by go_num, HB5.out, HA5.out⟩
              case measure => simp [intOf]; omega
            · have hh : decide (2932896 - N < z) = false := by simpa using hhi
              refine (HADD.out _ HLr.out (by omega) (by omega)).mono ?_
              rintro e w3 ⟨y3, m3, d3, rfl, hR3, hN3, hb⟩
              have HR3 := Lib.hid hR3; have HN3 := Lib.hid hN3
              clear hR3 hN3
              unfold dateV
              have hbI := HB.out.trans (hb.mono HB.out.size)
              have HB3 := Lib.hid (hbI.alloc hbI.size (dateO y3 m3 d3))
              have HA3 := Lib.hid ((HA.out.on hb).alloc (dateO y3 m3 d3))
              have HX3 := Lib.hid (DateAt.new w3 y3 m3 d3)
              unfold dateO at *
              clear HB HA hb hbI a0 a1 a2
              obtain ⟨a0, a1, a2⟩ := HA3.out.cells
              obtain ⟨x0, x1, x2⟩ := HX3.out.cells
              go_wp2_with fail
              refine (right_raw_ok y m d _ HR.out).mono ?_
              rintro e w4 ⟨rfl, hb⟩
              have HB4 := Lib.hid (HB3.out.trans (hb.mono HB3.out.size))
              have HA4 := Lib.hid (HA3.out.on hb)
              have HX4 := Lib.hid (HX3.out.on hb)
              clear HB3 HA3 HX3 hb a0 a1 a2 x0 x1 x2
              obtain ⟨a0, a1, a2⟩ := HA4.out.cells
              obtain ⟨x0, x1, x2⟩ := HX4.out.cells
              go_wp2_with fail
              refine (HOF.out _).mono ?_
              rintro e w5 ⟨rfl, hb⟩
              have HB5 := Lib.hid (HB4.out.trans (hb.mono HB4.out.size))
              have HA5 := Lib.hid (HA4.out.on hb)
              have HX5 := Lib.hid (HX4.out.on hb)
              clear HB4 HA4 HX4 hb a0 a1 a2 x0 x1 x2
              obtain ⟨a0, a1, a2⟩ := HA5.out.cells
              obtain ⟨x0, x1, x2⟩ := HX5.out.cells
              go_wp2_with fail
              have hKX : ∀ w', Below w5.heap.size w5 w' → w'.cell? ⟨w3.heap.size, 0, none⟩ = some (.int .i64 y3) ∧ w'.cell? ⟨w3.heap.size, 1, none⟩ = some (.int .i64 m3) ∧ w'.cell? ⟨w3.heap.size, 2, none⟩ = some (.int .i64 d3) := fun w' hb => (HX5.out.on hb).cells
              have hat := fun w => atR_is (N + z) y3 m3 d3 w HR3.out HN3.out
              have hBE := Below.refl w5.heap.size w5
              have HK := Lib.hid hKX; have HAT := Lib.hid hat
              clear hKX hat x0 x1 x2 a0 a1 a2 hc
              have hwr : IntKind.i64.wrap (N + z) = N + z := by rw [IntKind.wrap_i64]; omega
              go_region_held3 (fun w' => w'.cell? ⟨w3.heap.size, 0, none⟩ = some (.int .i64 y3) ∧ w'.cell? ⟨w3.heap.size, 1, none⟩ = some (.int .i64 m3) ∧ w'.cell? ⟨w3.heap.size, 2, none⟩ = some (.int .i64 d3)) (first | exact HK.out _ hBE | exact HK.out _ hBE.drew) (first
                | (go_at_call 23; (with_reducible refine (HAT.out _).mono ?_); rintro e w6 ⟨rfl, hb⟩; replace hBE := hBE.drew.trans hb)
                | (go_at_call 23; (with_reducible refine (HAT.out _).mono ?_); rintro e w6 ⟨rfl, hb⟩; replace hBE := hBE.trans hb))
              rename_i hHeld
              have HB6 := Lib.hid (HB5.out.trans (hBE.mono HB5.out.size))
              have HA6 := Lib.hid (HA5.out.on hBE)
              clear hHeld hwr hBE hb
              go_wp2_with fail
              go_roundw
              case rel => exact ⟨k + 1, by omega, by omega, by go_num, HB6.out, HA6.out⟩
              case measure => simp [intOf]; omega
        · refine (add_no y m d z _ HLr.out hr).mono ?_
          rintro e w3 ⟨rfl, hb⟩
          unfold dateV
          have hbI := HB.out.trans (hb.mono HB.out.size)
          have HB3 := Lib.hid (hbI.alloc hbI.size (dateO 0 0 0))
          have HA3 := Lib.hid ((HA.out.on hb).alloc (dateO 0 0 0))
          have HX3 := Lib.hid (DateAt.new w3 0 0 0)
          unfold dateO at *
          clear HB HA hb hbI a0 a1 a2
          obtain ⟨a0, a1, a2⟩ := HA3.out.cells
          obtain ⟨x0, x1, x2⟩ := HX3.out.cells
          go_wp2_with fail
          refine (right_raw_no y m d _ hr).mono ?_
          rintro e w4 ⟨rfl, hb⟩
          have HB4 := Lib.hid (HB3.out.trans (hb.mono HB3.out.size))
          have HA4 := Lib.hid (HA3.out.on hb)
          have HX4 := Lib.hid (HX3.out.on hb)
          clear HB3 HA3 HX3 hb a0 a1 a2 x0 x1 x2
          obtain ⟨a0, a1, a2⟩ := HA4.out.cells
          obtain ⟨x0, x1, x2⟩ := HX4.out.cells
          go_wp2_with fail
          go_roundw
          case rel => exact ⟨k + 1, by omega, by omega, by go_num, HB4.out, HA4.out⟩
          case measure => simp [intOf]; omega
    · have hkn' : k = n := by omega
      subst hkn'
      go_wp2_with fail
      go_ret
      exact ⟨rfl, HB.out⟩
end Go.Proofs.YtglmonjpcgadnaaDoor
