/- CronFits: walked. -/
import Derived.Test.YtmjjdccpnepjjaaGreatDoorKGWakes
import Derived.Test.YtmjjdccpnepjjaaGreatDoorKGRDay
import Derived.Deep.RegionHeld3
import Derived.Deep.DeepCutAuto
import Derived.Deep.Light
namespace Go.Proofs.YtmjjdccpnepjjaaGreatDoor
open Go.RowKit

/-- A row of dates, where it lies. -/
def DatesAt (w : World) (B : Nat) (A : Option Addr) (n : Nat) : Prop := ∀ k, k < n → ∃ b o y m d, A = some ⟨b, o, none⟩ ∧ b < B ∧ w.cell? ⟨b, o + k * 3, none⟩ = some (.int .i64 y) ∧ w.cell? ⟨b, o + k * 3 + 1, none⟩ = some (.int .i64 m) ∧ w.cell? ⟨b, o + k * 3 + 2, none⟩ = some (.int .i64 d)
theorem DatesAt.on {w w' : World} {B : Nat} {A : Option Addr} {n : Nat} (h : DatesAt w B A n) (hb : Below B w w') : DatesAt w' B A n := by
  intro k hk
  obtain ⟨b, o, y, m, d, e, hB, h0, h1, h2⟩ := h k hk
  exact ⟨b, o, y, m, d, e, hB, (hb.cell (p := ⟨b, o + k * 3, none⟩) hB).trans h0, (hb.cell (p := ⟨b, o + k * 3 + 1, none⟩) hB).trans h1, (hb.cell (p := ⟨b, o + k * 3 + 2, none⟩) hB).trans h2⟩
/-- A row of times, where it lies. -/
def TimesAt (w : World) (B : Nat) (A : Option Addr) (n : Nat) : Prop := ∀ k, k < n → ∃ (b o : Nat) (t : Int), A = some ⟨b, o, none⟩ ∧ b < B ∧ w.cell? ⟨b, o + k, none⟩ = some (.int .i64 t)
theorem TimesAt.on {w w' : World} {B : Nat} {A : Option Addr} {n : Nat} (h : TimesAt w B A n) (hb : Below B w w') : TimesAt w' B A n := by
  intro k hk
  obtain ⟨b, o, t, e, hB, h0⟩ := h k hk
  exact ⟨b, o, t, e, hB, (hb.cell (p := ⟨b, o + k, none⟩) hB).trans h0⟩
/-- Whether a time fits: both answer so. -/
theorem at_both (L : List (BitVec 64)) (t : Int) (h5 : L.length = 5) : ∃ z : Bool, (∀ W, LaidC W → Calls Tryz.prog 20 #[cronV L, .int .i64 t] W fun x w' => x = .returned (.bool z) ∧ Below W.heap.size W w') ∧ (∀ W, Calls Tryz.prog 21 #[cronV L, .int .i64 t] W fun x w' => x = .returned (.bool z) ∧ Below W.heap.size W w') := by
  by_cases h : D.TimeZ t
  · obtain ⟨y, m, d, hc, _⟩ := D.civ_ex t h.1 h.2
    exact ⟨_, fun W hW => cat_is L t y m d _ _ _ W hW h5 hc, fun W => rat7_is L t y m d _ _ _ W h5 hc⟩
  · exact ⟨false, fun W hW => cat_no L t W hW h5 h, fun W => rat7_no L t W h5 h⟩
set_option maxRecDepth 100000 in
set_option maxHeartbeats 4000000 in
theorem fits_walk (L : List (BitVec 64)) (A : Option Addr) (n ca : Nat) (B : Option Addr) (q cb : Nat) (w : World) (hL : LaidC w) (h5 : L.length = 5) (hn : n ≤ maxLen) (hq : q ≤ maxLen) (hd : DatesAt w w.heap.size A n) (ht : TimesAt w w.heap.size B q) :
    Calls Tryz.prog 5 #[cronV L, .slice A n ca, .slice B q cb] w fun e w' => e = .returned (.bool true) ∧ Below w.heap.size w w' := by
  unfold maxLen at hn hq
  have HL := Lib.hid hL; have HDt := Lib.hid hd; have HTm := Lib.hid ht
  have HD1 := Lib.hid (fun y m d W hW => cday_any L y m d W hW h5)
  have HD2 := Lib.hid (fun y m d W => rday7_any L y m d W h5)
  have HT := Lib.hid (fun t => at_both L t h5)
  clear hL hd ht
  obtain ⟨a, b, c, d, e, rfl⟩ := list_five h5
  rw [cronV_five] at *
  unfold fiveV at *
  go_enter Tryz.func5, Tryz.ntmps5
  go_wp2_with fail
  have hb0 : Below w.heap.size w (w.alloc (.cells #[.int .u64 (U a), .int .u64 (U b), .int .u64 (U c), .int .u64 (U d), .int .u64 (U e)] 27)) := (Below.refl _ w).alloc (Nat.le_refl _) _
  have hc0 := CronAt.new w a b c d e
  have HL0 := Lib.hid (HL.out.on hb0)
  generalize w.alloc _ = w0 at *
  refine (cwakes_any w0 HL0.out).mono ?_
  rintro x w1 ⟨rfl, hb⟩
  have HB1 := Lib.hid (hb0.trans (hb.mono hb0.size)); have HC1 := Lib.hid (hc0.on hb)
  clear hb hb0 hc0 HL0
  go_wp2_with fail
  go_loopw [7, 8, 15] (fun _ _ i wr => ∃ k : Nat, k ≤ n ∧ i = .int .i64 (k : Int) ∧ Below w.heap.size w wr ∧ CronAt wr w.heap.size [a, b, c, d, e]) (fun _ _ i _ => n - (intOf i).toNat)
  case atStart => exact ⟨0, Nat.zero_le _, rfl, HB1.out, HC1.out⟩
  case round =>
    clear HB1 HC1
    obtain ⟨k, hk, rfl, hb, hc⟩ := hrel
    have HB := Lib.hid hb; have HC := Lib.hid hc
    clear hb hc
    by_cases hlt : k < n
    · obtain ⟨bb, oo, y, m, dd, rfl, hbb, e0, e1, e2⟩ := (HDt.out.on HB.out) k hlt
      have HLr := Lib.hid (HL.out.on HB.out)
      have hsz := HB.out.size
      go_wp2_with fail
      have hal := (Below.refl wr.heap.size wr).alloc (Nat.le_refl _) (.cells #[.int .i64 y, .int .i64 m, .int .i64 dd] 47)
      have HBq := Lib.hid (HB.out.trans (hal.mono HB.out.size)); have HCq := Lib.hid (HC.out.on hal); have HLq := Lib.hid (HLr.out.on hal)
      have HXq := Lib.hid (D.Box.new wr 47 #[.int .i64 y, .int .i64 m, .int .i64 dd])
      clear hal e0 e1 e2
      generalize wr.alloc _ = wq at *
      obtain ⟨c0, c1, c2, c3, c4⟩ := HCq.out.five
      obtain ⟨x0, x1, x2, _, _, _⟩ := D.Box.three HXq.out
      by_cases h12 : k < 12
      · have h12' : (k : Int) < 12 := by omega
        have hg1 := HCq.out.lt; have hg2 := D.Box.lt HXq.out
        have H1 := Lib.hid (fun W hW => HD1.out y m dd W hW)
        have H2 := Lib.hid (fun W => HD2.out y m dd W)
        generalize dayZ [a, b, c, d, e] y m dd = z at *
        have HALL : Hid (∀ W, Below wq.heap.size wq W → (W.cell? ⟨w.heap.size, 0, none⟩ = some (.int .u64 (U a)) ∧ W.cell? ⟨w.heap.size, 1, none⟩ = some (.int .u64 (U b)) ∧ W.cell? ⟨w.heap.size, 2, none⟩ = some (.int .u64 (U c)) ∧ W.cell? ⟨w.heap.size, 3, none⟩ = some (.int .u64 (U d)) ∧ W.cell? ⟨w.heap.size, 4, none⟩ = some (.int .u64 (U e)) ∧ W.cell? ⟨wr.heap.size, 0, none⟩ = some (.int .i64 y) ∧ W.cell? ⟨wr.heap.size, 1, none⟩ = some (.int .i64 m) ∧ W.cell? ⟨wr.heap.size, 2, none⟩ = some (.int .i64 dd))) := Lib.hid (fun W hb =>
          ⟨(hb.cell (p := ⟨w.heap.size, 0, none⟩) hg1).trans c0, (hb.cell (p := ⟨w.heap.size, 1, none⟩) hg1).trans c1, (hb.cell (p := ⟨w.heap.size, 2, none⟩) hg1).trans c2, (hb.cell (p := ⟨w.heap.size, 3, none⟩) hg1).trans c3, (hb.cell (p := ⟨w.heap.size, 4, none⟩) hg1).trans c4, (hb.cell (p := ⟨wr.heap.size, 0, none⟩) hg2).trans x0, (hb.cell (p := ⟨wr.heap.size, 1, none⟩) hg2).trans x1, (hb.cell (p := ⟨wr.heap.size, 2, none⟩) hg2).trans x2⟩)
        have hBE := Below.refl wq.heap.size wq
        clear c0 c1 c2 c3 c4 x0 x1 x2
        go_region_held3 (fun W => (W.cell? ⟨w.heap.size, 0, none⟩ = some (.int .u64 (U a)) ∧ W.cell? ⟨w.heap.size, 1, none⟩ = some (.int .u64 (U b)) ∧ W.cell? ⟨w.heap.size, 2, none⟩ = some (.int .u64 (U c)) ∧ W.cell? ⟨w.heap.size, 3, none⟩ = some (.int .u64 (U d)) ∧ W.cell? ⟨w.heap.size, 4, none⟩ = some (.int .u64 (U e)) ∧ W.cell? ⟨wr.heap.size, 0, none⟩ = some (.int .i64 y) ∧ W.cell? ⟨wr.heap.size, 1, none⟩ = some (.int .i64 m) ∧ W.cell? ⟨wr.heap.size, 2, none⟩ = some (.int .i64 dd))) (first | exact HALL.out _ hBE | exact HALL.out _ hBE.drew) (first
          | (go_at_call 18; first
            | ((with_reducible refine (H1.out _ (HLq.out.on hBE.drew)).mono ?_); rintro x w4 ⟨rfl, hb⟩; replace hBE := hBE.drew.trans (hb.mono hBE.drew.size))
            | ((with_reducible refine (H1.out _ (HLq.out.on hBE)).mono ?_); rintro x w4 ⟨rfl, hb⟩; replace hBE := hBE.trans (hb.mono hBE.size)))
          | (go_at_call 19; (with_reducible refine (H2.out _).mono ?_); rintro x w4 ⟨rfl, hb⟩; first | (replace hBE := hBE.drew.trans (hb.mono hBE.drew.size)) | (replace hBE := hBE.trans (hb.mono hBE.size))))
        rename_i hHeld
        have HB4 := Lib.hid (HBq.out.trans (hBE.mono HBq.out.size)); have HC4 := Lib.hid (HCq.out.on hBE)
        clear hHeld hBE hb HALL
        go_wp2_with fail
        go_roundw
        case rel => exact ⟨k + 1, by omega, by go_num, HB4.out, HC4.out⟩
        case measure => simp [intOf]; omega
      · have h12' : decide ((k : Int) < 12) = false := by simp; omega
        go_quiet (fail)
        have HB4 := Lib.hid (bdrewN HBq.out nq); have HC4 := Lib.hid (HCq.out.on (bdrewN (Below.refl _ _) nq))
        clear c0 c1 c2 c3 c4 x0 x1 x2
        generalize wq.drewN nq = w4 at *
        go_wp2_with fail
        go_roundw
        case rel => exact ⟨k + 1, by omega, by go_num, HB4.out, HC4.out⟩
        case measure => simp [intOf]; omega
    · have hkn : k = n := by omega
      subst hkn
      go_wp2_with fail
      go_loopw [9, 10, 34] (fun _ _ i wr2 => ∃ j : Nat, j ≤ q ∧ i = .int .i64 (j : Int) ∧ Below w.heap.size w wr2 ∧ CronAt wr2 w.heap.size [a, b, c, d, e]) (fun _ _ i _ => q - (intOf i).toNat)
      case atStart => exact ⟨0, Nat.zero_le _, rfl, HB.out, HC.out⟩
      case round =>
        clear HB HC
        obtain ⟨j, hj, rfl, hb, hc⟩ := hrel
        have HB := Lib.hid hb; have HC := Lib.hid hc
        clear hb hc
        by_cases hlt2 : j < q
        · obtain ⟨bb, oo, t, rfl, hbb, e0⟩ := (HTm.out.on HB.out) j hlt2
          have HLr := Lib.hid (HL.out.on HB.out)
          have hsz := HB.out.size
          obtain ⟨z, hz1, hz2⟩ := HT.out t
          have H1 := Lib.hid hz1; have H2 := Lib.hid hz2
          clear hz1 hz2
          rename World => wq
          obtain ⟨c0, c1, c2, c3, c4⟩ := HC.out.five
          have hg1 := HC.out.lt
          by_cases h12 : j < 12
          · have h12' : (j : Int) < 12 := by omega
            have HALL : Hid (∀ W, Below wq.heap.size wq W → (W.cell? ⟨w.heap.size, 0, none⟩ = some (.int .u64 (U a)) ∧ W.cell? ⟨w.heap.size, 1, none⟩ = some (.int .u64 (U b)) ∧ W.cell? ⟨w.heap.size, 2, none⟩ = some (.int .u64 (U c)) ∧ W.cell? ⟨w.heap.size, 3, none⟩ = some (.int .u64 (U d)) ∧ W.cell? ⟨w.heap.size, 4, none⟩ = some (.int .u64 (U e)))) := Lib.hid (fun W hb =>
              ⟨(hb.cell (p := ⟨w.heap.size, 0, none⟩) hg1).trans c0, (hb.cell (p := ⟨w.heap.size, 1, none⟩) hg1).trans c1, (hb.cell (p := ⟨w.heap.size, 2, none⟩) hg1).trans c2, (hb.cell (p := ⟨w.heap.size, 3, none⟩) hg1).trans c3, (hb.cell (p := ⟨w.heap.size, 4, none⟩) hg1).trans c4⟩)
            have hBE := Below.refl wq.heap.size wq
            go_wp2_with fail
            clear c0 c1 c2 c3 c4 e0
            go_region_held3 (fun W => (W.cell? ⟨w.heap.size, 0, none⟩ = some (.int .u64 (U a)) ∧ W.cell? ⟨w.heap.size, 1, none⟩ = some (.int .u64 (U b)) ∧ W.cell? ⟨w.heap.size, 2, none⟩ = some (.int .u64 (U c)) ∧ W.cell? ⟨w.heap.size, 3, none⟩ = some (.int .u64 (U d)) ∧ W.cell? ⟨w.heap.size, 4, none⟩ = some (.int .u64 (U e)))) (first | exact HALL.out _ hBE | exact HALL.out _ hBE.drew) (first
              | (go_at_call 20; first
                | ((with_reducible refine (H1.out _ (HLr.out.on hBE.drew)).mono ?_); rintro x w4 ⟨rfl, hb⟩; replace hBE := hBE.drew.trans (hb.mono hBE.drew.size))
                | ((with_reducible refine (H1.out _ (HLr.out.on hBE)).mono ?_); rintro x w4 ⟨rfl, hb⟩; replace hBE := hBE.trans (hb.mono hBE.size)))
              | (go_at_call 21; (with_reducible refine (H2.out _).mono ?_); rintro x w4 ⟨rfl, hb⟩; first | (replace hBE := hBE.drew.trans (hb.mono hBE.drew.size)) | (replace hBE := hBE.trans (hb.mono hBE.size))))
            rename_i hHeld
            have HB4 := Lib.hid (HB.out.trans (hBE.mono HB.out.size)); have HC4 := Lib.hid (HC.out.on hBE)
            clear hHeld hBE hb HALL
            go_wp2_with fail
            go_roundw
            case rel => exact ⟨j + 1, by omega, by go_num, HB4.out, HC4.out⟩
            case measure => simp [intOf]; omega
          · have h12' : decide ((j : Int) < 12) = false := by simp; omega
            go_wp2_with fail
            go_quiet (fail)
            have HB4 := Lib.hid (bdrewN HB.out nq); have HC4 := Lib.hid (HC.out.on (bdrewN (Below.refl _ _) nq))
            clear c0 c1 c2 c3 c4 e0
            generalize wq.drewN nq = w4 at *
            go_wp2_with fail
            go_roundw
            case rel => exact ⟨j + 1, by omega, by go_num, HB4.out, HC4.out⟩
            case measure => simp [intOf]; omega
        · have hjn : j = q := by omega
          subst hjn
          go_wp2_with fail
          go_ret
          exact ⟨rfl, HB.out⟩
end Go.Proofs.YtmjjdccpnepjjaaGreatDoor
