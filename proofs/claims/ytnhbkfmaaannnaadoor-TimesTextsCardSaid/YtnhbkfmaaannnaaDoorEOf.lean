/- Of and Check: the time of a civil time. -/
import Derived.Test.YtnhbkfmaaannnaaDoorEAt
namespace Go.Proofs.YtnhbkfmaaannnaaDoor
open Go.RowKit

/-- A civil time that may be. -/
def CivR (y m d h mi s : Int) : Prop := RightZ y m d ∧ 0 ≤ h ∧ h < 24 ∧ 0 ≤ mi ∧ mi < 60 ∧ 0 ≤ s ∧ s < 60
def timeZ (y m d h mi s : Int) : Int := numZ y m d * 86400 + h * 3600 + mi * 60 + s
theorem CivR.of {y m d h mi s : Int} (c : CivR y m d h mi s) : CivOf (timeZ y m d h mi s) y m d h mi s := by
  obtain ⟨a, b, c, d, e, f, g⟩ := c
  exact ⟨a, b, c, d, e, f, g, rfl⟩
theorem CivOf.r {t y m d h mi s : Int} (c : CivOf t y m d h mi s) : CivR y m d h mi s := ⟨c.right, c.h0, c.h1, c.m0, c.m1, c.s0, c.s1⟩
theorem CivOf.is {t y m d h mi s : Int} (c : CivOf t y m d h mi s) : timeZ y m d h mi s = t := c.at_.symm
theorem CivOf.timeZ {t y m d h mi s : Int} (c : CivOf t y m d h mi s) : TimeZ t := ⟨c.time.1, c.time.2.1⟩
/-- What At comes to. -/
def AtIs (t : Int) (w : World) (e : Ending) (w' : World) : Prop :=
  ((∃ y m d h mi s : Int, e = .returned (.tuple #[civV y m d h mi s, .int .i64 0]) ∧ CivOf t y m d h mi s) ∨ (¬ TimeZ t ∧ e = .returned (.tuple #[civV 0 0 0 0 0 0, .int .i64 2]))) ∧ Below w.heap.size w w'
theorem tat_any (t : Int) (w : World) (hL : Laid w) : Calls Tryd.prog 11 #[.int .i64 t] w (AtIs t w) := by
  by_cases h : TimeZ t
  · refine (tat_ok t w hL h).mono ?_
    rintro e w' ⟨y, m, d, hh, mi, s, rfl, hc, hb⟩
    exact ⟨.inl ⟨y, m, d, hh, mi, s, rfl, hc⟩, hb⟩
  · refine (tat_no t w h).mono ?_
    rintro e w' ⟨rfl, hb⟩
    exact ⟨.inr ⟨h, rfl⟩, hb⟩
theorem box_civ (w : World) (y m d h mi s : Int) : Box (w.alloc (civO y m d h mi s)) w.heap.size 29 #[.int .i64 y, .int .i64 m, .int .i64 d, .int .i64 h, .int .i64 mi, .int .i64 s] ∧ Below w.heap.size w (w.alloc (civO y m d h mi s)) ∧ w.heap.size < (w.alloc (civO y m d h mi s)).heap.size :=
  ⟨Box.new _ _ _, (Below.refl _ w).alloc (Nat.le_refl _) _, by simp⟩
set_option maxRecDepth 100000 in
set_option maxHeartbeats 1000000 in
theorem tof_ok (y m d h mi s : Int) (w : World) (hL : Laid w) (hc : CivR y m d h mi s) :
    Calls Tryd.prog 16 #[civV y m d h mi s] w fun e w' => e = .returned (.tuple #[.int .i64 (timeZ y m d h mi s), .int .i64 0]) ∧ Below w.heap.size w w' := by
  unfold civV
  have hco := hc.of
  obtain ⟨n0, n1⟩ := num_range hc.1
  obtain ⟨b0, bB, bs⟩ := box_civ w y m d h mi s
  have hLb := hL.on bB
  have hof := of_ok y m d _ hLb hc.1
  unfold civO at b0 bB bs hLb hof
  have HB := Lib.hid bB; have HX := Lib.hid b0; have HC := Lib.hid hco; have HL := Lib.hid hLb; have HO := Lib.hid hof; have HS := Lib.hid bs
  have ht : timeZ y m d h mi s = numZ y m d * 86400 + h * 3600 + mi * 60 + s := rfl
  obtain ⟨_, h0, h1, m0, m1, s0, s1⟩ := hc
  clear hL hco bB b0 hLb hof bs
  go_enter Tryd.func16, Tryd.ntmps16
  go_wp2_with fail
  unfold dateV at HO
  refine HO.out.mono ?_
  rintro e w2 ⟨rfl, hb⟩
  have hx2 := HX.out.belowAll hb
  have hs2 : w.heap.size < w2.heap.size := Nat.lt_of_lt_of_le HS.out hb.size
  obtain ⟨x0, x1, x2, x3, x4, x5, _⟩ := hx2.six
  have HB2 := Lib.hid (HB.out.trans (hb.mono (Nat.le_of_lt HS.out)))
  have HL2 := Lib.hid (HL.out.on hb); have HX2 := Lib.hid hx2
  have HT := Lib.hid ht
  generalize htg : timeZ y m d h mi s = t at *
  have hn : numZ y m d * 86400 + h * 3600 + mi * 60 + s = t := HT.out.symm
  have HTG := Lib.hid htg
  clear hb hx2 HB HL HX HO htg ht
  have HN := Lib.hid hn
  clear hn
  generalize numZ y m d = n at *
  go_wp2_with fail
  rw [HN.out]
  refine (tat_any _ _ HL2.out).mono ?_
  rintro e w3 ⟨hr, hb⟩
  rcases hr with ⟨y', m', d', h', mi', s', rfl, hc'⟩ | ⟨hn, _⟩
  rotate_left
  · exact absurd HC.out.timeZ hn
  obtain ⟨rfl, rfl, rfl, rfl, rfl, rfl⟩ := civ_inj HC.out hc'
  have hx3 := HX2.out.belowAll hb
  have HB3 := Lib.hid (HB2.out.trans (hb.mono (Nat.le_of_lt hs2)))
  clear hb hc' x0 x1 x2 x3 x4 x5
  have hs3 : w.heap.size < w3.heap.size := hx3.lt
  obtain ⟨x0, x1, x2, x3, x4, x5, _⟩ := hx3.six
  unfold civV
  go_wp2_with fail
  go_ret2
  rw [HTG.out]
  exact ⟨rfl, HB3.out.alloc HB3.out.size _⟩
/-! Check -/
set_option maxRecDepth 100000 in
set_option maxHeartbeats 1000000 in
theorem tof_no (y m d h mi s : Int) (w : World) (hL : Laid w) (hc : ¬ CivR y m d h mi s) :
    Calls Tryd.prog 16 #[civV y m d h mi s] w fun e w' => e = .returned (.tuple #[.int .i64 0, .int .i64 150]) ∧ Below w.heap.size w w' := by
  unfold civV
  obtain ⟨b0, bB, bs⟩ := box_civ w y m d h mi s
  have hLb := hL.on bB
  have HLb := Lib.hid hLb
  have HS := Lib.hid bs
  by_cases hr : RightZ y m d
  · obtain ⟨n0, n1⟩ := num_range hr
    have hof := of_ok y m d _ hLb hr
    unfold civO at b0 bB HLb hof HS
    have HB := Lib.hid bB; have HX := Lib.hid b0; have HC := Lib.hid hc; have HO := Lib.hid hof
    clear hL bB b0 hLb hof bs hc hr
    go_enter Tryd.func16, Tryd.ntmps16
    go_wp2_with fail
    unfold dateV at HO
    refine HO.out.mono ?_
    rintro e w2 ⟨rfl, hb⟩
    have hx2 := HX.out.belowAll hb
    have hs2 : w.heap.size < w2.heap.size := Nat.lt_of_lt_of_le HS.out hb.size
    obtain ⟨x0, x1, x2, x3, x4, x5, _⟩ := hx2.six
    have HB2 := Lib.hid (HB.out.trans (hb.mono (Nat.le_of_lt HS.out)))
    have HL2 := Lib.hid (HLb.out.on hb); have HX2 := Lib.hid hx2
    clear hb hx2 HB HLb HX HO
    generalize numZ y m d = n at *
    go_wp2_with fail
    refine (tat_any _ _ HL2.out).mono ?_
    rintro e w3 ⟨hr, hb⟩
    have hx3 := HX2.out.belowAll hb
    have HB3 := Lib.hid (HB2.out.trans (hb.mono (Nat.le_of_lt hs2)))
    have hs3 : w.heap.size < w3.heap.size := hx3.lt
    obtain ⟨z0, z1, z2, z3, z4, z5, _⟩ := hx3.six
    clear hb x0 x1 x2 x3 x4 x5
    rcases hr with ⟨y', m', d', h', mi', s', rfl, hc'⟩ | ⟨hn, rfl⟩
    · have hne : ¬ (y' = y ∧ m' = m ∧ d' = d ∧ h' = h ∧ mi' = mi ∧ s' = s) := by
        rintro ⟨rfl, rfl, rfl, rfl, rfl, rfl⟩
        exact HC.out hc'.r
      clear hc' hx3
      unfold civV
      go_wp2_with fail
      all_goals first
        | (go_ret2; exact ⟨rfl, HB3.out.alloc HB3.out.size _⟩)
        | exact absurd ⟨‹_›, ‹_›, ‹_›, ‹_›, ‹_›, ‹_›⟩ hne
    · clear hn hx3
      unfold civV
      go_wp2_with fail
      go_ret2
      exact ⟨rfl, HB3.out.alloc HB3.out.size _⟩
  · have hof := of_no y m d _ hLb hr
    unfold civO at hof bB
    have HB := Lib.hid bB; have HO := Lib.hid hof
    clear hL bB b0 hLb hof bs hc hr
    go_enter Tryd.func16, Tryd.ntmps16
    go_wp2_with fail
    unfold dateV at HO
    refine HO.out.mono ?_
    rintro e w2 ⟨rfl, hb⟩
    have HB2 := Lib.hid (HB.out.trans (hb.mono (by simp)))
    clear hb
    go_wp2_with fail
    go_ret2
    exact ⟨rfl, HB2.out⟩
/-- What Of comes to. -/
def OfIs (y m d h mi s : Int) (w : World) (e : Ending) (w' : World) : Prop :=
  (CivR y m d h mi s ∧ e = .returned (.tuple #[.int .i64 (timeZ y m d h mi s), .int .i64 0]) ∨ ¬ CivR y m d h mi s ∧ e = .returned (.tuple #[.int .i64 0, .int .i64 150])) ∧ Below w.heap.size w w'
theorem tof_any (y m d h mi s : Int) (w : World) (hL : Laid w) : Calls Tryd.prog 16 #[civV y m d h mi s] w (OfIs y m d h mi s w) := by
  by_cases hc : CivR y m d h mi s
  · refine (tof_ok y m d h mi s w hL hc).mono ?_
    rintro e w' ⟨rfl, hb⟩
    exact ⟨.inl ⟨hc, rfl⟩, hb⟩
  · refine (tof_no y m d h mi s w hL hc).mono ?_
    rintro e w' ⟨rfl, hb⟩
    exact ⟨.inr ⟨hc, rfl⟩, hb⟩
def CheckIs (y m d h mi s : Int) (w : World) (e : Ending) (w' : World) : Prop :=
  (CivR y m d h mi s ∧ e = .returned (.int .i64 0) ∨ ¬ CivR y m d h mi s ∧ e = .returned (.int .i64 150)) ∧ Below w.heap.size w w'
theorem tcheck_any (y m d h mi s : Int) (w : World) (hL : Laid w) : Calls Tryd.prog 17 #[civV y m d h mi s] w (CheckIs y m d h mi s w) := by
  obtain ⟨b0, bB, bs⟩ := box_civ w y m d h mi s
  have HO := Lib.hid (tof_any y m d h mi s _ (hL.on bB))
  have HB := Lib.hid bB
  unfold civO civV at *
  clear hL bB b0 bs
  go_enter Tryd.func17, Tryd.ntmps17
  go_wp2_with fail
  refine HO.out.mono ?_
  rintro e w2 ⟨hr, hb⟩
  have HB2 := Lib.hid (HB.out.trans (hb.mono (by simp)))
  clear hb
  rcases hr with ⟨hc, rfl⟩ | ⟨hc, rfl⟩
  · have HC := Lib.hid hc
    clear hc
    go_wp2_with fail
    go_ret
    exact ⟨.inl ⟨HC.out, rfl⟩, HB2.out⟩
  · have HC := Lib.hid hc
    clear hc
    go_wp2_with fail
    go_ret
    exact ⟨.inr ⟨HC.out, rfl⟩, HB2.out⟩
end Go.Proofs.YtnhbkfmaaannnaaDoor
