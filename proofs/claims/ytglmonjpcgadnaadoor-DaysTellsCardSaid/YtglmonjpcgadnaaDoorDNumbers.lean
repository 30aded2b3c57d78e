/- DaysNumbers: the numbers of dates, their dates and weekdays. -/
import Derived.Test.YtglmonjpcgadnaaDoorDAdds
namespace Go.Proofs.YtglmonjpcgadnaaDoor
open Go.RowKit

def DatesIn (w : World) (B : Nat) (A : Option Addr) (n : Nat) : Prop := ∀ k, k < n → ∃ b o y m d, A = some ⟨b, o, none⟩ ∧ b < B ∧ w.cell? ⟨b, o + k * 3, none⟩ = some (.int .i64 y) ∧ w.cell? ⟨b, o + k * 3 + 1, none⟩ = some (.int .i64 m) ∧ w.cell? ⟨b, o + k * 3 + 2, none⟩ = some (.int .i64 d)
theorem DatesIn.below {w w' : World} {B : Nat} {A : Option Addr} {n : Nat} (h : DatesIn w B A n) (hb : Below B w w') : DatesIn w' B A n := by
  intro k hk
  obtain ⟨b, o, y, m, d, e, hB, h0, h1, h2⟩ := h k hk
  exact ⟨b, o, y, m, d, e, hB, (hb.cell (p := ⟨b, o + k * 3, none⟩) hB).trans h0, (hb.cell (p := ⟨b, o + k * 3 + 1, none⟩) hB).trans h1, (hb.cell (p := ⟨b, o + k * 3 + 2, none⟩) hB).trans h2⟩
set_option maxHeartbeats 2000000 in
set_option maxRecDepth 100000 in
theorem numbers_walk (A : Option Addr) (n c : Nat) (B : Option Addr) (p q : Nat) (zs : List Int) (w : World) (hL : Laid w) (hn : n ≤ maxLen) (hp : p ≤ maxLen) (hd : DatesIn w w.heap.size A n) (hz : ArrZ w w.heap.size B p zs) :
    Calls Tryd.prog 4 #[.slice A n c, .slice B p q] w fun e w' => e = .returned (.bool true) ∧ Below w.heap.size w w' := by
  unfold maxLen at hn hp
  have hwk := wakes_any _ hL
  have HW := Lib.hid hwk
  have HL := Lib.hid hL; have HD := Lib.hid hd; have HZ := Lib.hid hz
  clear hwk hL hd hz
  go_enter Tryd.func4, Tryd.ntmps4
  go_wp2_with fail
  refine HW.out.mono ?_
  rintro e w2 ⟨rfl, hb⟩
  have HB2 := Lib.hid hb
  clear HW hb
  go_wp2_with fail
  go_loopw [19] (fun i wr => ∃ k : Nat, k ≤ n ∧ k ≤ 6 ∧ i = .int .i64 k ∧ Below w.heap.size w wr) (fun i _ => n - (intOf i).toNat)
  case atStart => exact ⟨0, by omega, by omega, rfl, HB2.out⟩
  case round =>
    clear HB2
    obtain ⟨k, hk, hk6, rfl, hB⟩ := hrel
    have HB := Lib.hid hB
    clear hB
    by_cases hkn : k < n
    · obtain ⟨b, o, y, m, d, rfl, hbB, hc0, hc1, hc2⟩ := (HD.out.below HB.out) k hkn
      have i0 : (0 : Int) ≤ (k : Int) := by omega
      by_cases hks : k = 6
      · have hk6' : ((k : Int) == 6) = true := by simp; omega
        have HBy := Lib.hid (HB.out.alloc HB.out.size (dateO y m d))
        unfold dateO at HBy
        clear hks HB
        have HB := HBy
        clear HBy
        go_wp2_with fail
        go_loopw [51] (fun i wr => ∃ k : Nat, k ≤ p ∧ k ≤ 6 ∧ i = .int .i64 k ∧ Below w.heap.size w wr) (fun i _ => p - (intOf i).toNat)
        case atStart => exact ⟨0, by omega, by omega, rfl, HB.out⟩
        case round =>
          clear HB
          rename_i wr0
          clear hc0 hc1 hc2 i0 hk hk6 hkn
          obtain ⟨k, hk, hk6, rfl, hB⟩ := hrel
          have HB := Lib.hid hB
          clear hB
          by_cases hkn : k < p
          · obtain ⟨b, o, rfl, hbB, hc, hz0, hz1⟩ := (HZ.out.below HB.out) k hkn
            generalize nthI zs k = z at *
            have HZB := Lib.hid (And.intro hz0 hz1)
            clear hz0 hz1
            have i0 : (0 : Int) ≤ (k : Int) := by omega
            by_cases hks : k = 6
            · have hk6' : ((k : Int) == 6) = true := by simp; omega
              clear hks
              go_wp2_with fail
              go_ret
              exact ⟨rfl, HB.out⟩
            · have hk6' : ((k : Int) == 6) = false := by simp; omega
              have hk5 : k + 1 ≤ 6 := by omega
              have HLr := Lib.hid (HL.out.on HB.out)
              clear hks
              go_wp2_with fail
              by_cases hin : 0 ≤ z ∧ z ≤ 2932896
              · obtain ⟨g0, g1⟩ := hin
                refine (at_ok z _ HLr.out g0 g1).mono ?_
                rintro e w3 ⟨y, m, d, rfl, hR, hN, hb⟩
                unfold dateV
                have hbI := HB.out.trans (hb.mono HB.out.size)
                have HB3 := Lib.hid (hbI.alloc hbI.size (dateO y m d))
                have HX3 := Lib.hid (DateAt.new w3 y m d)
                have HR := Lib.hid hR; have HN := Lib.hid hN
                unfold dateO at *
                clear HB HLr hb hbI hR hN hc
                go_wp2_with fail
                have hw1 := weekday_ok z (w3.alloc (Obj.cells #[Value.int IntKind.i64 y, Value.int IntKind.i64 m, Value.int IntKind.i64 d] 26)) g0 g1
                have hw2 := dayR_yes z (w3.alloc (Obj.cells #[Value.int IntKind.i64 y, Value.int IntKind.i64 m, Value.int IntKind.i64 d] 26)) g0 g1
                generalize w3.alloc _ = w4 at *
                have HW2 := Lib.hid hw2
                have HWR := Lib.hid (fun w => weekdayR_ok z w g0 g1)
                clear hw2
                refine hw1.mono ?_
                rintro e w' ⟨rfl, rfl⟩
                clear hw1
                generalize (z + 4) % 7 = v at *
                go_wp2_with fail
                refine HW2.out.mono ?_
                rintro e w' ⟨rfl, rfl⟩
                clear HW2
                go_wp2_with fail
                have hKX : ∀ w', Below w4.heap.size w4 w' → w'.cell? ⟨w3.heap.size, 0, none⟩ = some (.int .i64 y) ∧ w'.cell? ⟨w3.heap.size, 1, none⟩ = some (.int .i64 m) ∧ w'.cell? ⟨w3.heap.size, 2, none⟩ = some (.int .i64 d) := fun w' hb => (HX3.out.on hb).cells
                have hat := fun w => atR_is z y m d w HR.out HN.out
                have hBE := Below.refl w4.heap.size w4
                have HK := Lib.hid hKX; have HAT := Lib.hid hat
                clear hKX hat
                go_region_held3 (fun w' => w'.cell? ⟨w3.heap.size, 0, none⟩ = some (.int .i64 y) ∧ w'.cell? ⟨w3.heap.size, 1, none⟩ = some (.int .i64 m) ∧ w'.cell? ⟨w3.heap.size, 2, none⟩ = some (.int .i64 d)) (first | exact HK.out _ hBE | exact HK.out _ hBE.drew) (first
                  | (go_at_call 23; (with_reducible refine (HAT.out _).mono ?_); rintro e w6 ⟨rfl, hb⟩; replace hBE := hBE.drew.trans hb)
                  | (go_at_call 23; (with_reducible refine (HAT.out _).mono ?_); rintro e w6 ⟨rfl, hb⟩; replace hBE := hBE.trans hb)
                  | (go_at_call 24; (with_reducible refine (HWR.out _).mono ?_); rintro e w6 ⟨rfl, rfl⟩))
                rename_i hHeld
                have HB6 := Lib.hid (HB3.out.trans (hBE.mono HB3.out.size))
                clear hHeld hBE hb
                go_wp2_with fail
                go_roundw
                case rel => exact ⟨k + 1, by omega, by omega, by go_num, HB6.out⟩
                case measure => simp [intOf]; omega
              · have hin' : z < 0 ∨ 2932896 < z := by omega
                clear hin
                refine (at_no z _ hin').mono ?_
                rintro e w3 ⟨rfl, hb⟩
                unfold dateV
                have hbI := HB.out.trans (hb.mono HB.out.size)
                have HB3 := Lib.hid (hbI.alloc hbI.size (dateO 0 0 0))
                have HX3 := Lib.hid (DateAt.new w3 0 0 0)
                have HI := Lib.hid hin'
                unfold dateO at *
                clear HB HLr hb hbI hc hin'
                go_wp2_with fail
                have hw1 := weekday_no z (w3.alloc (Obj.cells #[Value.int IntKind.i64 0, Value.int IntKind.i64 0, Value.int IntKind.i64 0] 26)) HI.out
                have hw2 := dayR_no z (w3.alloc (Obj.cells #[Value.int IntKind.i64 0, Value.int IntKind.i64 0, Value.int IntKind.i64 0] 26)) HI.out
                generalize w3.alloc _ = w4 at *
                have HW2 := Lib.hid hw2
                clear hw2
                refine hw1.mono ?_
                rintro e w' ⟨rfl, rfl⟩
                clear hw1
                go_wp2_with fail
                refine HW2.out.mono ?_
                rintro e w' ⟨rfl, rfl⟩
                clear HW2
                obtain ⟨x0, x1, x2⟩ := HX3.out.cells
                go_wp2_with fail
                go_roundw
                case rel => exact ⟨k + 1, by omega, by omega, by go_num, HB3.out⟩
                case measure => simp [intOf]; omega
          · have hkn' : k = p := by omega
            subst hkn'
            go_wp2_with fail
            go_ret
            exact ⟨rfl, HB.out⟩
      · have hk6' : ((k : Int) == 6) = false := by simp; omega
        have hk5 : k + 1 ≤ 6 := by omega
        have HLr := Lib.hid (HL.out.on HB.out)
        have hX := DateAt.new wr y m d
        have HBa := Lib.hid (HB.out.alloc HB.out.size (dateO y m d))
        have HLa := Lib.hid (HLr.out.alloc (dateO y m d))
        unfold dateO at *
        have HX := Lib.hid hX
        clear hks HB HLr hX
        go_wp2_with fail
        have hcells := HX.out.cells
        obtain ⟨x0, x1, x2⟩ := hcells
        by_cases hr : RightZ y m d
        · refine (of_ok y m d _ HLa.out hr).mono ?_
          rintro e w3 ⟨rfl, hb⟩
          have HB3 := Lib.hid (HBa.out.trans (hb.mono HBa.out.size))
          have HX3 := Lib.hid (HX.out.on hb)
          have hof := fun w => ofR_raw y m d w hr
          have HR := Lib.hid hr
          generalize numZ y m d = N at *
          have HOF := Lib.hid hof
          clear HBa HLa HX hb x0 x1 x2 hr hof hc0 hc1 hc2
          obtain ⟨x0, x1, x2⟩ := HX3.out.cells
          go_wp2_with fail
          refine (right_raw_ok y m d _ HR.out).mono ?_
          rintro e w4 ⟨rfl, hb⟩
          have HB4 := Lib.hid (HB3.out.trans (hb.mono HB3.out.size))
          have HX4 := Lib.hid (HX3.out.on hb)
          clear HB3 HX3 hb x0 x1 x2
          obtain ⟨x0, x1, x2⟩ := HX4.out.cells
          go_wp2_with fail
          refine (HOF.out _).mono ?_
          rintro e w5 ⟨rfl, hb⟩
          have HB5 := Lib.hid (HB4.out.trans (hb.mono HB4.out.size))
          clear HB4 HX4 hb x0 x1 x2
          go_wp2_with fail
          go_roundw
          case rel => exact ⟨k + 1, by omega, by omega, by go_num, HB5.out⟩
          case measure => simp [intOf]; omega
        · refine (of_no y m d _ HLa.out hr).mono ?_
          rintro e w3 ⟨rfl, hb⟩
          have HB3 := Lib.hid (HBa.out.trans (hb.mono HBa.out.size))
          have HX3 := Lib.hid (HX.out.on hb)
          clear HBa HLa HX hb x0 x1 x2 hc0 hc1 hc2
          obtain ⟨x0, x1, x2⟩ := HX3.out.cells
          go_wp2_with fail
          refine (right_raw_no y m d _ hr).mono ?_
          rintro e w4 ⟨rfl, hb⟩
          have HB4 := Lib.hid (HB3.out.trans (hb.mono HB3.out.size))
          clear HB3 HX3 hb x0 x1 x2
          go_wp2_with fail
          go_roundw
          case rel => exact ⟨k + 1, by omega, by omega, by go_num, HB4.out⟩
          case measure => simp [intOf]; omega
    · have hkn' : k = n := by omega
      subst hkn'
      go_wp2_with fail
      go_loopw [51] (fun i wr => ∃ k : Nat, k ≤ p ∧ k ≤ 6 ∧ i = .int .i64 k ∧ Below w.heap.size w wr) (fun i _ => p - (intOf i).toNat)
      case atStart => exact ⟨0, by omega, by omega, rfl, HB.out⟩
      case round =>
        clear HB
        rename_i wr0
        clear hk hk6 hkn
        obtain ⟨k, hk, hk6, rfl, hB⟩ := hrel
        have HB := Lib.hid hB
        clear hB
        by_cases hkn : k < p
        · obtain ⟨b, o, rfl, hbB, hc, hz0, hz1⟩ := (HZ.out.below HB.out) k hkn
          generalize nthI zs k = z at *
          have HZB := Lib.hid (And.intro hz0 hz1)
          clear hz0 hz1
          have i0 : (0 : Int) ≤ (k : Int) := by omega
          by_cases hks : k = 6
          · have hk6' : ((k : Int) == 6) = true := by simp; omega
            clear hks
            go_wp2_with fail
            go_ret
            exact ⟨rfl, HB.out⟩
          · have hk6' : ((k : Int) == 6) = false := by simp; omega
            have hk5 : k + 1 ≤ 6 := by omega
            have HLr := Lib.hid (HL.out.on HB.out)
            clear hks
            go_wp2_with fail
            by_cases hin : 0 ≤ z ∧ z ≤ 2932896
            · obtain ⟨g0, g1⟩ := hin
              refine (at_ok z _ HLr.out g0 g1).mono ?_
              rintro e w3 ⟨y, m, d, rfl, hR, hN, hb⟩
              unfold dateV
              have hbI := HB.out.trans (hb.mono HB.out.size)
              have HB3 := Lib.hid (hbI.alloc hbI.size (dateO y m d))
              have HX3 := Lib.hid (DateAt.new w3 y m d)
              have HR := Lib.hid hR; have HN := Lib.hid hN
              unfold dateO at *
              clear HB HLr hb hbI hR hN hc
              go_wp2_with fail
              have hw1 := weekday_ok z (w3.alloc (Obj.cells #[Value.int IntKind.i64 y, Value.int IntKind.i64 m, Value.int IntKind.i64 d] 26)) g0 g1
              have hw2 := dayR_yes z (w3.alloc (Obj.cells #[Value.int IntKind.i64 y, Value.int IntKind.i64 m, Value.int IntKind.i64 d] 26)) g0 g1
              generalize w3.alloc _ = w4 at *
              have HW2 := Lib.hid hw2
              have HWR := Lib.hid (fun w => weekdayR_ok z w g0 g1)
              clear hw2
              refine hw1.mono ?_
              rintro e w' ⟨rfl, rfl⟩
              clear hw1
              generalize (z + 4) % 7 = v at *
              go_wp2_with fail
              refine HW2.out.mono ?_
              rintro e w' ⟨rfl, rfl⟩
              clear HW2
              go_wp2_with fail
              have hKX : ∀ w', Below w4.heap.size w4 w' → w'.cell? ⟨w3.heap.size, 0, none⟩ = some (.int .i64 y) ∧ w'.cell? ⟨w3.heap.size, 1, none⟩ = some (.int .i64 m) ∧ w'.cell? ⟨w3.heap.size, 2, none⟩ = some (.int .i64 d) := fun w' hb => (HX3.out.on hb).cells
              have hat := fun w => atR_is z y m d w HR.out HN.out
              have hBE := Below.refl w4.heap.size w4
              have HK := Lib.hid hKX; have HAT := Lib.hid hat
              clear hKX hat
              go_region_held3 (fun w' => w'.cell? ⟨w3.heap.size, 0, none⟩ = some (.int .i64 y) ∧ w'.cell? ⟨w3.heap.size, 1, none⟩ = some (.int .i64 m) ∧ w'.cell? ⟨w3.heap.size, 2, none⟩ = some (.int .i64 d)) (first | exact HK.out _ hBE | exact HK.out _ hBE.drew) (first
                | (go_at_call 23; (with_reducible refine (HAT.out _).mono ?_); rintro e w6 ⟨rfl, hb⟩; replace hBE := hBE.drew.trans hb)
                | (go_at_call 23; (with_reducible refine (HAT.out _).mono ?_); rintro e w6 ⟨rfl, hb⟩; replace hBE := hBE.trans hb)
                | (go_at_call 24; (with_reducible refine (HWR.out _).mono ?_); rintro e w6 ⟨rfl, rfl⟩))
              rename_i hHeld
              have HB6 := Lib.hid (HB3.out.trans (hBE.mono HB3.out.size))
              clear hHeld hBE hb
              go_wp2_with fail
              go_roundw
              case rel => exact ⟨k + 1, by omega, by omega, by go_num, HB6.out⟩
              case measure => simp [intOf]; omega
            · have hin' : z < 0 ∨ 2932896 < z := by omega
              clear hin
              refine (at_no z _ hin').mono ?_
              rintro e w3 ⟨rfl, hb⟩
              unfold dateV
              have hbI := HB.out.trans (hb.mono HB.out.size)
              have HB3 := Lib.hid (hbI.alloc hbI.size (dateO 0 0 0))
              have HX3 := Lib.hid (DateAt.new w3 0 0 0)
              have HI := Lib.hid hin'
              unfold dateO at *
              clear HB HLr hb hbI hc hin'
              go_wp2_with fail
              have hw1 := weekday_no z (w3.alloc (Obj.cells #[Value.int IntKind.i64 0, Value.int IntKind.i64 0, Value.int IntKind.i64 0] 26)) HI.out
              have hw2 := dayR_no z (w3.alloc (Obj.cells #[Value.int IntKind.i64 0, Value.int IntKind.i64 0, Value.int IntKind.i64 0] 26)) HI.out
              generalize w3.alloc _ = w4 at *
              have HW2 := Lib.hid hw2
              clear hw2
              refine hw1.mono ?_
              rintro e w' ⟨rfl, rfl⟩
              clear hw1
              go_wp2_with fail
              refine HW2.out.mono ?_
              rintro e w' ⟨rfl, rfl⟩
              clear HW2
              obtain ⟨x0, x1, x2⟩ := HX3.out.cells
              go_wp2_with fail
              go_roundw
              case rel => exact ⟨k + 1, by omega, by omega, by go_num, HB3.out⟩
              case measure => simp [intOf]; omega
        · have hkn' : k = p := by omega
          subst hkn'
          go_wp2_with fail
          go_ret
          exact ⟨rfl, HB.out⟩
end Go.Proofs.YtglmonjpcgadnaaDoor
