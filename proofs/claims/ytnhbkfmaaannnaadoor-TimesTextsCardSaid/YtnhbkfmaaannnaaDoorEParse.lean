/- Parse: the time of a text. -/
import Derived.Test.YtnhbkfmaaannnaaDoorEReadS
namespace Go.Proofs.YtnhbkfmaaannnaaDoor
open Go.RowKit

/-- The bytes are the text of the time. -/
def Says (l : List UInt8) (t : Int) : Prop := ∃ y m d h mi s : Int, CivOf t y m d h mi s ∧ l = textZ y m d h mi s
theorem Says.time {l : List UInt8} {t : Int} (h : Says l t) : TimeZ t := by obtain ⟨y, m, d, hh, mi, s, c, _⟩ := h; exact c.timeZ
theorem Says.one {l : List UInt8} {t t' : Int} (h : Says l t) (h' : Says l t') : t = t' := by
  obtain ⟨y, m, d, hh, mi, s, c, rfl⟩ := h
  obtain ⟨y', m', d', hh', mi', s', c', e⟩ := h'
  exact (text_inj c c').1 e
/-- What Parse comes to. -/
def ParseIs (l : List UInt8) (w : World) (e : Ending) (w' : World) : Prop :=
  ((∃ t, Says l t ∧ e = .returned (.tuple #[.int .i64 t, .int .i64 0])) ∨ ((∀ t, ¬ Says l t) ∧ e = .returned (.tuple #[.int .i64 0, .int .i64 151]))) ∧ Below w.heap.size w w'
theorem says_fits {l : List UInt8} {t : Int} (h : Says l t) : l.length = 19 ∧ Fits l 19 ∧ ∃ y m d h mi s : Int, CivOf t y m d h mi s ∧ l = textZ y m d h mi s ∧ curs l 19 = [y.toNat, m.toNat, d.toNat, h.toNat, mi.toNat, s.toNat] := by
  obtain ⟨y, m, d, hh, mi, s, c, rfl⟩ := h
  obtain ⟨a, b, e, f, g, i⟩ := c.small
  obtain ⟨k1, k2⟩ := text_fits a b e f g i
  exact ⟨textB_length _ _ _ _ _ _, k1, y, m, d, hh, mi, s, c, rfl, k2⟩
/-- Where it fits, the civil time decides. -/
theorem fits_says {l : List UInt8} (hl : l.length = 19) (hf : Fits l 19) :
    (CivR (cur l 19 0 4 : Nat) (cur l 19 5 2 : Nat) (cur l 19 8 2 : Nat) (cur l 19 11 2 : Nat) (cur l 19 14 2 : Nat) (cur l 19 17 2 : Nat) → Says l (timeZ (cur l 19 0 4 : Nat) (cur l 19 5 2 : Nat) (cur l 19 8 2 : Nat) (cur l 19 11 2 : Nat) (cur l 19 14 2 : Nat) (cur l 19 17 2 : Nat))) ∧
    (¬ CivR (cur l 19 0 4 : Nat) (cur l 19 5 2 : Nat) (cur l 19 8 2 : Nat) (cur l 19 11 2 : Nat) (cur l 19 14 2 : Nat) (cur l 19 17 2 : Nat) → ∀ t, ¬ Says l t) := by
  constructor
  · intro hc
    exact ⟨_, _, _, _, _, _, hc.of, fits_text hl hf⟩
  · intro hn t hs
    obtain ⟨_, _, y, m, d, h, mi, s, c, rfl, hk⟩ := says_fits hs
    obtain ⟨y0, _, m0, _, d0, _, h0, _, i0, _, s0, _⟩ := c.bounds
    simp only [curs, List.cons.injEq, and_true] at hk
    obtain ⟨e1, e2, e3, e4, e5, e6⟩ := hk
    rw [e1, e2, e3, e4, e5, e6] at hn
    rw [Int.toNat_of_nonneg y0, Int.toNat_of_nonneg m0, Int.toNat_of_nonneg d0, Int.toNat_of_nonneg h0, Int.toNat_of_nonneg i0, Int.toNat_of_nonneg s0] at hn
    exact hn c.r
theorem six_box {w2 : World} (a b c d e f : Value) : Box (w2.alloc (.cells #[a, b, c, d, e, f] 72)) w2.heap.size 72 #[a, b, c, d, e, f] := Box.new _ _ _
set_option maxRecDepth 100000 in
set_option maxHeartbeats 1000000 in
theorem parse_any (s : ByteArray) (w : World) (hL : Laid w) (hs : s.size ≤ maxLen) : Calls Tryd.prog 27 #[.string s] w (ParseIs s.data.toList w) := by
  have HL := Lib.hid hL; have HS := Lib.hid hs
  clear hL hs
  go_enter Tryd.func27, Tryd.ntmps27
  go_wp2_with fail
  refine (read_ok s w HS.out).mono ?_
  rintro e w2 ⟨hr, hb⟩
  have HB := Lib.hid hb; have HL2 := Lib.hid (HL.out.on hb)
  clear hb HL
  rcases hr with ⟨hl, hf, rfl⟩ | ⟨hn, v, rfl⟩
  · obtain ⟨hy, hno⟩ := fits_says hl hf
    have HY := Lib.hid hy; have HNO := Lib.hid hno
    clear hl hf hy hno
    unfold curs sixA
    simp only [List.getD_cons_zero, List.getD_cons_succ]
    generalize ((cur s.data.toList 19 0 4 : Nat) : Int) = y at *
    generalize ((cur s.data.toList 19 5 2 : Nat) : Int) = m at *
    generalize ((cur s.data.toList 19 8 2 : Nat) : Int) = d at *
    generalize ((cur s.data.toList 19 11 2 : Nat) : Int) = h at *
    generalize ((cur s.data.toList 19 14 2 : Nat) : Int) = mi at *
    generalize ((cur s.data.toList 19 17 2 : Nat) : Int) = sc at *
    go_wp2_with fail
    have hBA := HB.out.alloc HB.out.size (.cells #[.int .i64 y, .int .i64 m, .int .i64 d, .int .i64 h, .int .i64 mi, .int .i64 sc] 72)
    have HBA := Lib.hid hBA
    have hLA := HL2.out.alloc (.cells #[.int .i64 y, .int .i64 m, .int .i64 d, .int .i64 h, .int .i64 mi, .int .i64 sc] 72)
    refine (tof_any y m d h mi sc _ hLA).mono ?_
    rintro e w3 ⟨hr, hb⟩
    have HB3 := Lib.hid (HBA.out.trans (hb.mono HBA.out.size))
    clear hb hBA hLA HB HBA HL2
    rcases hr with ⟨hc, rfl⟩ | ⟨hc, rfl⟩
    · have HSY := Lib.hid (HY.out hc)
      clear hc HY HNO
      generalize timeZ y m d h mi sc = t at *
      go_wp2_with fail
      go_ret2
      exact ⟨.inl ⟨t, HSY.out, rfl⟩, HB3.out⟩
    · have HSY := Lib.hid (HNO.out hc)
      clear hc HY HNO
      go_wp2_with fail
      go_ret2
      exact ⟨.inr ⟨HSY.out, rfl⟩, HB3.out⟩
  · have HN := Lib.hid (fun t (q : Says s.data.toList t) => hn ⟨(says_fits q).1, (says_fits q).2.1⟩)
    clear hn
    unfold sixA
    go_wp2_with fail
    go_ret2
    exact ⟨.inr ⟨HN.out, rfl⟩, HB.out.alloc HB.out.size _⟩
end Go.Proofs.YtnhbkfmaaannnaaDoor
