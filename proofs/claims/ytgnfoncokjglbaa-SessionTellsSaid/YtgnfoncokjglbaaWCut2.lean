/- The rows ahead of a client's place, its own one, those behind: walked. -/
import Derived.Test.YtgnfoncokjglbaaWCut
import Derived.Deep.DeepCutAuto
namespace Go.Proofs.Ytgnfoncokjglbaa
open Go.RowKit

/-- Three parts of the rows, none with room behind it. -/
def CutIs (w : World) (ms : List SesM) (p e : Nat) (x : Ending) (w' : World) : Prop :=
  (∃ A1 A2 A3, x = .returned (.tuple #[.slice A1 p p, .slice A2 (e - p) (e - p), .slice A3 (ms.length - e) (ms.length - e)]) ∧ SR w' A1 p p (ms.take p) ∧ SR w' A2 (e - p) (e - p) ((ms.take e).drop p) ∧ SR w' A3 (ms.length - e) (ms.length - e) (ms.drop e)) ∧ Below w.heap.size w w'
theorem add_nonew (b o j : Nat) : (⟨b, o, none⟩ : Addr).add j = ⟨b, o + j, none⟩ := by unfold Addr.add; split <;> simp_all
theorem SR.mid {w : World} {ad : Addr} {n c p e : Nat} {ms : List SesM} (h : SR w (some ad) n c ms) (h1 : p ≤ e) (h2 : e ≤ n) (h3 : e ≠ p) : SR w (some (ad.add (p * 4))) (e - p) (e - p) ((ms.take e).drop p) := by
  have ht := h.take h2
  obtain ⟨bl, of, rfl, _⟩ : ∃ bl of, ad = ⟨bl, of, none⟩ ∧ bl < w.heap.size := by
    obtain ⟨b, o, hh, hl⟩ := ht.rd.some_ (by rw [sflat_len, ht.len]; omega)
    cases hh
    exact ⟨b, o, rfl, hl⟩
  rw [add_nonew]
  exact (ht.drop h1).cutcap (Nat.le_refl _) (by have := h.cap; omega)
theorem SR.zero (w : World) (A : Option Addr) : SR w A 0 0 [] := ⟨rfl, Nat.le_refl _, by decide, fun _ => rfl, .nil _ _, fun m hm => by cases hm⟩
theorem cut_fin {w W0 W : World} {ad : Addr} {n c p e : Nat} {ms : List SesM} (hw : Below w.heap.size w W0) (hb : Below W0.heap.size W0 W) (h : SR W0 (some ad) n c ms) (h1 : p ≤ e) (h2 : e ≤ n) {v2 v3 : Value} (h3 : v2 = if e = p then .slice (some ad) 0 0 else .slice (some (ad.add (p * 4))) (e - p) (e - p)) (h4 : v3 = if n = e then .slice (some ad) 0 0 else .slice (some (ad.add (e * 4))) (n - e) (n - e)) :
    CutIs w ms p e (.returned (.tuple #[.slice (some ad) p p, v2, v3])) W := by
  have hT := h.on hb
  have hN := h.len
  refine ⟨?_, hw.trans (hb.mono hw.size)⟩
  have s1 : SR W (some ad) p p (ms.take p) := (hT.take (Nat.le_trans h1 h2)).cutcap (Nat.le_refl _) (by have := h.cap; omega)
  rw [hN]
  have s2 : ∃ A2, v2 = .slice A2 (e - p) (e - p) ∧ SR W A2 (e - p) (e - p) ((ms.take e).drop p) := by
    by_cases hh : e = p
    · rw [if_pos hh] at h3
      refine ⟨_, by rw [h3, hh, Nat.sub_self], ?_⟩
      rw [hh, Nat.sub_self, List.drop_of_length_le (by rw [List.length_take]; omega)]
      exact .zero _ _
    · rw [if_neg hh] at h3
      exact ⟨_, h3, hT.mid h1 h2 hh⟩
  have s3 : ∃ A3, v3 = .slice A3 (n - e) (n - e) ∧ SR W A3 (n - e) (n - e) (ms.drop e) := by
    by_cases hh : n = e
    · rw [if_pos hh] at h4
      refine ⟨_, by rw [h4, hh, Nat.sub_self], ?_⟩
      rw [hh, Nat.sub_self, List.drop_of_length_le (by omega)]
      exact .zero _ _
    · rw [if_neg hh] at h4
      have := hT.mid h2 (Nat.le_refl n) hh
      rw [List.take_of_length_le (by omega)] at this
      exact ⟨_, h4, this⟩
  obtain ⟨A2, rfl, s2⟩ := s2
  obtain ⟨A3, rfl, s3⟩ := s3
  exact ⟨_, A2, A3, rfl, s1, s2, s3⟩
set_option maxRecDepth 100000 in
set_option maxHeartbeats 2000000 in
theorem cut_any (A : Option Addr) (n c : Nat) (a : Int) (ms : List SesM) (w : World) (h : SR w A n c ms) (ha : 1 ≤ a) (ha2 : a ≤ 1000) :
    Calls Try.prog 33 #[.slice A n c, .int .i64 a] w (CutIs w ms (aheadN a (ms.map (·.1))) (aheadN (a + 1) (ms.map (·.1)))) := by
  have hn : n ≤ 9223372036854775807 := by have := h.cap; have := h.top; unfold maxLen at this; omega
  have hb0 := new_below w (.cells #[.slice A n c] 22)
  have hx0 := SBox.new w 22 #[.slice A n c]
  obtain ⟨W0, hW0⟩ : ∃ W0 : World, W0 = w.alloc (.cells #[.slice A n c] 22) := ⟨_, rfl⟩
  rw [← hW0] at hb0 hx0
  have HB0 := Lib.hid hb0; have HX0 := Lib.hid hx0; have HT := Lib.hid (h.on hb0)
  have HF1 := Lib.hid (fun W (hb : Below W0.heap.size W0 W) => from_any A n c w.heap.size a ms W ((h.on hb0).on hb) (Nat.lt_of_lt_of_le hx0.lt hb.size) (hx0.on hb).one)
  have HF2 := Lib.hid (fun W (hb : Below W0.heap.size W0 W) => from_any A n c w.heap.size (a + 1) ms W ((h.on hb0).on hb) (Nat.lt_of_lt_of_le hx0.lt hb.size) (hx0.on hb).one)
  have hle := aheadN_mono a (ms.map (·.1))
  have hle2 := aheadN_le (a + 1) (ms.map (·.1))
  rw [List.length_map, h.len] at hle2
  have HN := Lib.hid h.len
  generalize aheadN a (ms.map (·.1)) = p at *
  generalize aheadN (a + 1) (ms.map (·.1)) = e at *
  have hwr : wrap64 (a + 1) = a + 1 := by unfold wrap64; omega
  clear hb0 hx0 h ha ha2
  go_enter Try.func33, Try.ntmps33
  go_wp2_with fail
  rw [← hW0]
  clear hW0
  refine (HF1.out _ (Below.refl _ _)).mono ?_
  rintro x w1 ⟨rfl, hb1⟩
  have HB1 := Lib.hid hb1
  clear hb1
  go_wp2_with fail
  refine (HF2.out _ HB1.out).mono ?_
  rintro x w2 ⟨rfl, hb2⟩
  have HB2 := Lib.hid (HB1.out.trans (hb2.mono HB1.out.size))
  have hc := (HX0.out.on HB2.out).one
  clear hb2
  have i0 : (0 : Int) ≤ (p : Int) := by omega
  have i1 : (p : Int) ≤ (e : Int) := by omega
  have i2 : (e : Int) ≤ (n : Int) := by omega
  have i3 : (0 : Int) ≤ (e : Int) := by omega
  have i4 : (p : Int) ≤ (n : Int) := by omega
  have hcap : n ≤ c := HT.out.cap
  have i5 : (n : Int) ≤ (c : Int) := by omega
  have i6 : (e : Int) ≤ (c : Int) := by omega
  have i7 : (p : Int) ≤ (c : Int) := by omega
  have i8 : (0 : Int) ≤ (n : Int) := by omega
  cases A with
  | none =>
    have hc0 := HT.out.non rfl
    subst hc0
    obtain rfl : n = 0 := by omega
    obtain rfl : e = 0 := by omega
    obtain rfl : p = 0 := by omega
    have HM : Hid (ms = []) := Lib.hid (List.length_eq_zero_iff.1 HN.out)
    go_wp2_with fail
    go_region
    go_wp2_with fail
    refine bodyPost_ret (v := .tuple #[.slice none 0 0, .slice none 0 0, .slice none 0 0]) (by simp [results, Try.results33, go_sem]) rfl ⟨⟨none, none, none, ?_, ?_, ?_, ?_⟩, HB0.out.trans ((HB2.out.mono HB0.out.size).drew)⟩
    · rw [HM.out]; try rfl
    · rw [HM.out]; exact .zero _ _
    · rw [HM.out]; exact .zero _ _
    · rw [HM.out]; exact .zero _ _
  | some ad =>
    have HFIN := Lib.hid (fun v2 v3 W hb h3 h4 => cut_fin (W := W) (v2 := v2) (v3 := v3) HB0.out hb HT.out hle hle2 h3 h4)
    go_wp2_with fail
    go_region
    go_wp2_with fail
    · rename_i h1
      have h1 := h1.symm
      subst h1
      have h := h.symm
      subst h
      exact bodyPost_ret (v := .tuple #[.slice (some ad) p p, .slice (some ad) 0 0, .slice (some ad) 0 0]) (by simp [results, Try.results33, go_sem]) rfl (HFIN.out _ _ _ HB2.out.drew (by simp) (by simp))
    · rename_i h1
      have h1 := h1.symm
      subst h1
      exact bodyPost_ret (v := .tuple #[.slice (some ad) p p, .slice (some ad) 0 0, .slice (some (ad.add (p * 4))) (n - p) (n - p)]) (by simp [results, Try.results33, go_sem]) rfl (HFIN.out _ _ _ HB2.out.drew (by simp) (by rw [if_neg h]))
    · rename_i h1
      have h := h.symm
      subst h
      exact bodyPost_ret (v := .tuple #[.slice (some ad) p p, .slice (some (ad.add (p * 4))) (e - p) (e - p), .slice (some ad) 0 0]) (by simp [results, Try.results33, go_sem]) rfl (HFIN.out _ _ _ HB2.out.drew (by rw [if_neg h1]) (by simp))
    · rename_i h1
      exact bodyPost_ret (v := .tuple #[.slice (some ad) p p, .slice (some (ad.add (p * 4))) (e - p) (e - p), .slice (some (ad.add (e * 4))) (n - e) (n - e)]) (by simp [results, Try.results33, go_sem]) rfl (HFIN.out _ _ _ HB2.out.drew (by rw [if_neg h1]) (by rw [if_neg h]))
end Go.Proofs.Ytgnfoncokjglbaa
