/- TimesTexts, walked. -/
import Derived.Test.YtnhbkfmaaannnaaDoorERead
import Derived.Test.YtnhbkfmaaannnaaDoorEParseR
namespace Go.Proofs.YtnhbkfmaaannnaaDoor
open Go.RowKit

/-- A row of strings, where it lies. -/
def ArrS (w : World) (B : Nat) (A : Option Addr) (n : Nat) : Prop :=
  ∀ k, k < n → ∃ (b o : Nat) (s : ByteArray), A = some ⟨b, o, none⟩ ∧ b < B ∧ w.cell? ⟨b, o + k, none⟩ = some (.string s) ∧ s.size ≤ maxLen
theorem ArrS.on {w w' : World} {B n : Nat} {A : Option Addr} (h : ArrS w B A n) (hb : Below B w w') : ArrS w' B A n := fun k hk => by
  obtain ⟨b, o, s, e, hl, hc, hs⟩ := h k hk
  exact ⟨b, o, s, e, hl, (hb.cell (p := ⟨b, o + k, none⟩) hl).trans hc, hs⟩
theorem parseR_s (s : ByteArray) (w : World) (hs : s.size ≤ maxLen) : Calls Tryd.prog 28 #[.string s] w (ParseRIs s.data.toList w) := by
  have h := parseR_any s.data.toList w (by simpa using hs)
  rwa [show strV s.data.toList = .string s by unfold strV; simp] at h
set_option maxRecDepth 100000 in
set_option maxHeartbeats 2000000 in
theorem texts_walk (A : Option Addr) (n c : Nat) (zs : List Int) (A' : Option Addr) (n' c' : Nat) (w : World) (hL : Laid w) (hn : n ≤ maxLen) (hn' : n' ≤ maxLen) (hz : ArrT w w.heap.size A n zs) (hz' : ArrS w w.heap.size A' n') :
    Calls Tryd.prog 5 #[.slice A n c, .slice A' n' c'] w fun e w' => e = .returned (.bool true) ∧ Below w.heap.size w w' := by
  unfold maxLen at hn hn'
  have HL := Lib.hid hL; have HZ := Lib.hid hz; have HC := Lib.hid hz'
  clear hL hz hz'
  go_enter Tryd.func5, Tryd.ntmps5
  go_wp2_with fail
  refine (wakes_any w HL.out).mono ?_
  rintro e w2 ⟨rfl, hb⟩
  have HB := Lib.hid hb
  clear hb
  go_wp2_with fail
  go_loopw [19] (fun i wr => ∃ (k : Nat), k ≤ n ∧ i = .int .i64 k ∧ Below w.heap.size w wr) (fun i _ => n - (intOf i).toNat)
  case atStart => exact ⟨0, Nat.zero_le _, rfl, HB.out⟩
  case round =>
    clear HB
    obtain ⟨k, hk, rfl, hb⟩ := hrel
    have HB := Lib.hid hb
    by_cases hgo : k < n ∧ k ≠ 10
    · obtain ⟨hlt, h10⟩ := hgo
      obtain ⟨b, o, rfl, hbl, hc, hi⟩ := HZ.out.on hb k hlt
      generalize nthI zs k = t at *
      have h10' : ((k : Int) == 10) = false := by simp; omega
      have HLr := Lib.hid (HL.out.on hb)
      clear hb h10 hi
      by_cases ht : TimeZ t
      · have q1 := timeB_yes ht
        have HT := Lib.hid ht
        clear ht
        go_wp2_with fail
        refine (text_ok t _ HLr.out HT.out).mono ?_
        rintro e w3 ⟨y, m, d, h, mi, s, rfl, hcv, hb⟩
        have HB4 := Lib.hid (HB.out.trans (hb.mono HB.out.size))
        have HTR := Lib.hid (fun W => textR_is t y m d h mi s W hcv)
        clear hb hcv
        generalize textZ y m d h mi s = tx at *
        unfold strV at HTR ⊢
        go_wp2_with fail
        refine (timeR_any t _).mono ?_
        rintro e w5 ⟨rfl, rfl⟩
        go_wp2_with fail
        refine (HTR.out _).mono ?_
        rintro e w5 ⟨rfl, hb⟩
        have HB6 := Lib.hid (HB4.out.trans (hb.mono HB4.out.size))
        clear hb
        go_wp2_with fail
        go_roundw
        case rel => exact ⟨k + 1, by omega, by go_num, HB6.out⟩
        case measure => simp [intOf]; omega
      · have q1 := timeB_no ht
        have HT := Lib.hid ht
        clear ht
        go_wp2_with fail
        refine (text_no t _ HT.out).mono ?_
        rintro e w3 ⟨rfl, hb⟩
        have HB4 := Lib.hid (HB.out.trans (hb.mono HB.out.size))
        clear hb
        unfold strV
        go_wp2_with fail
        refine (timeR_any t _).mono ?_
        rintro e w5 ⟨rfl, rfl⟩
        go_wp2_with fail
        go_roundw
        case rel => exact ⟨k + 1, by omega, by go_num, HB4.out⟩
        case measure => simp [intOf]; omega
    · have hend : k = n ∨ k < n ∧ k = 10 := by omega
      clear hb hgo
      rcases hend with rfl | ⟨hlt, h10⟩
      rotate_left
      · obtain ⟨b, o, rfl, hbl, hc, hi⟩ := HZ.out.on HB.out k hlt
        have h10' : ((k : Int) == 10) = true := by simp; omega
        clear h10 hi
        have hlt2 : decide ((k : Int) < (n : Int)) = true := by simp; omega
        go_wp2_with fail
        go_loopw [51] (fun i wr => ∃ (k : Nat), k ≤ n' ∧ i = .int .i64 k ∧ Below w.heap.size w wr) (fun i _ => n' - (intOf i).toNat)
        case atStart => exact ⟨0, Nat.zero_le _, rfl, HB.out⟩
        case round =>
          clear HB
          obtain ⟨k, hk, rfl, hb⟩ := hrel
          have HB := Lib.hid hb
          by_cases hlt : k < n'
          · obtain ⟨b', o', s, rfl, hbl', c0, hs⟩ := HC.out.on hb k hlt
            have HLA := Lib.hid (HL.out.on hb)
            by_cases h20 : k = 20
            · subst h20
              clear hb
              go_wp2_with fail
              go_ret
              exact ⟨rfl, HB.out⟩
            · have h20' : ((k : Int) == 20) = false := by simp; omega
              have hsx : (s.extract 0 40).size ≤ maxLen := by have := hs; simp; unfold maxLen at *; omega
              have HS0 := Lib.hid hs; have HSX := Lib.hid hsx
              have hs1 : (s.size : Int) ≤ 9223372036854775807 := by unfold maxLen at hs; omega
              clear h20 hb hs hsx
              go_wp2_with fail
              · have HS := HSX
                clear HSX HS0
                generalize s.extract 0 40 = s' at *
                refine (parse_any s' wr HLA.out HS.out).mono ?_
                rintro e w5 ⟨hr, hb⟩
                have HB5 := Lib.hid (HB.out.trans (hb.mono HB.out.size))
                clear hb
                rcases hr with ⟨t, hy, rfl⟩ | ⟨hn, rfl⟩
                · have HY := Lib.hid hy
                  clear hy
                  go_wp2_with fail
                  refine (parseR_s s' w5 HS.out).mono ?_
                  rintro e w6 ⟨hr, hb⟩
                  have HB6 := Lib.hid (HB5.out.trans (hb.mono HB5.out.size))
                  clear hb
                  rcases hr with ⟨t', hy, rfl⟩ | ⟨hn, _⟩
                  rotate_left
                  · exact absurd HY.out (hn t)
                  obtain rfl := hy.one HY.out
                  clear hy HY
                  go_wp2_with fail
                  go_roundw
                  case rel => exact ⟨k + 1, by omega, by go_num, HB6.out⟩
                  case measure => simp [intOf]; omega
                · have HN := Lib.hid hn
                  clear hn
                  go_wp2_with fail
                  refine (parseR_s s' w5 HS.out).mono ?_
                  rintro e w6 ⟨hr, hb⟩
                  have HB6 := Lib.hid (HB5.out.trans (hb.mono HB5.out.size))
                  clear hb
                  rcases hr with ⟨t', hy, _⟩ | ⟨_, rfl⟩
                  · exact absurd hy (HN.out t')
                  go_wp2_with fail
                  go_roundw
                  case rel => exact ⟨k + 1, by omega, by go_num, HB6.out⟩
                  case measure => simp [intOf]; omega
              · have HS := HS0
                clear HSX HS0
                refine (parse_any s wr HLA.out HS.out).mono ?_
                rintro e w5 ⟨hr, hb⟩
                have HB5 := Lib.hid (HB.out.trans (hb.mono HB.out.size))
                clear hb
                rcases hr with ⟨t, hy, rfl⟩ | ⟨hn, rfl⟩
                · have HY := Lib.hid hy
                  clear hy
                  go_wp2_with fail
                  refine (parseR_s s w5 HS.out).mono ?_
                  rintro e w6 ⟨hr, hb⟩
                  have HB6 := Lib.hid (HB5.out.trans (hb.mono HB5.out.size))
                  clear hb
                  rcases hr with ⟨t', hy, rfl⟩ | ⟨hn, _⟩
                  rotate_left
                  · exact absurd HY.out (hn t)
                  obtain rfl := hy.one HY.out
                  clear hy HY
                  go_wp2_with fail
                  go_roundw
                  case rel => exact ⟨k + 1, by omega, by go_num, HB6.out⟩
                  case measure => simp [intOf]; omega
                · have HN := Lib.hid hn
                  clear hn
                  go_wp2_with fail
                  refine (parseR_s s w5 HS.out).mono ?_
                  rintro e w6 ⟨hr, hb⟩
                  have HB6 := Lib.hid (HB5.out.trans (hb.mono HB5.out.size))
                  clear hb
                  rcases hr with ⟨t', hy, _⟩ | ⟨_, rfl⟩
                  · exact absurd hy (HN.out t')
                  go_wp2_with fail
                  go_roundw
                  case rel => exact ⟨k + 1, by omega, by go_num, HB6.out⟩
                  case measure => simp [intOf]; omega
          · obtain rfl : k = n' := by omega
            clear hb
            go_wp2_with fail
            go_ret
            exact ⟨rfl, HB.out⟩
      · go_wp2_with fail
        go_loopw [51] (fun i wr => ∃ (k : Nat), k ≤ n' ∧ i = .int .i64 k ∧ Below w.heap.size w wr) (fun i _ => n' - (intOf i).toNat)
        case atStart => exact ⟨0, Nat.zero_le _, rfl, HB.out⟩
        case round =>
          clear HB
          obtain ⟨k, hk, rfl, hb⟩ := hrel
          have HB := Lib.hid hb
          by_cases hlt : k < n'
          · obtain ⟨b', o', s, rfl, hbl', c0, hs⟩ := HC.out.on hb k hlt
            have HLA := Lib.hid (HL.out.on hb)
            by_cases h20 : k = 20
            · subst h20
              clear hb
              go_wp2_with fail
              go_ret
              exact ⟨rfl, HB.out⟩
            · have h20' : ((k : Int) == 20) = false := by simp; omega
              have hsx : (s.extract 0 40).size ≤ maxLen := by have := hs; simp; unfold maxLen at *; omega
              have HS0 := Lib.hid hs; have HSX := Lib.hid hsx
              have hs1 : (s.size : Int) ≤ 9223372036854775807 := by unfold maxLen at hs; omega
              clear h20 hb hs hsx
              go_wp2_with fail
              · have HS := HSX
                clear HSX HS0
                generalize s.extract 0 40 = s' at *
                refine (parse_any s' wr HLA.out HS.out).mono ?_
                rintro e w5 ⟨hr, hb⟩
                have HB5 := Lib.hid (HB.out.trans (hb.mono HB.out.size))
                clear hb
                rcases hr with ⟨t, hy, rfl⟩ | ⟨hn, rfl⟩
                · have HY := Lib.hid hy
                  clear hy
                  go_wp2_with fail
                  refine (parseR_s s' w5 HS.out).mono ?_
                  rintro e w6 ⟨hr, hb⟩
                  have HB6 := Lib.hid (HB5.out.trans (hb.mono HB5.out.size))
                  clear hb
                  rcases hr with ⟨t', hy, rfl⟩ | ⟨hn, _⟩
                  rotate_left
                  · exact absurd HY.out (hn t)
                  obtain rfl := hy.one HY.out
                  clear hy HY
                  go_wp2_with fail
                  go_roundw
                  case rel => exact ⟨k + 1, by omega, by go_num, HB6.out⟩
                  case measure => simp [intOf]; omega
                · have HN := Lib.hid hn
                  clear hn
                  go_wp2_with fail
                  refine (parseR_s s' w5 HS.out).mono ?_
                  rintro e w6 ⟨hr, hb⟩
                  have HB6 := Lib.hid (HB5.out.trans (hb.mono HB5.out.size))
                  clear hb
                  rcases hr with ⟨t', hy, _⟩ | ⟨_, rfl⟩
                  · exact absurd hy (HN.out t')
                  go_wp2_with fail
                  go_roundw
                  case rel => exact ⟨k + 1, by omega, by go_num, HB6.out⟩
                  case measure => simp [intOf]; omega
              · have HS := HS0
                clear HSX HS0
                refine (parse_any s wr HLA.out HS.out).mono ?_
                rintro e w5 ⟨hr, hb⟩
                have HB5 := Lib.hid (HB.out.trans (hb.mono HB.out.size))
                clear hb
                rcases hr with ⟨t, hy, rfl⟩ | ⟨hn, rfl⟩
                · have HY := Lib.hid hy
                  clear hy
                  go_wp2_with fail
                  refine (parseR_s s w5 HS.out).mono ?_
                  rintro e w6 ⟨hr, hb⟩
                  have HB6 := Lib.hid (HB5.out.trans (hb.mono HB5.out.size))
                  clear hb
                  rcases hr with ⟨t', hy, rfl⟩ | ⟨hn, _⟩
                  rotate_left
                  · exact absurd HY.out (hn t)
                  obtain rfl := hy.one HY.out
                  clear hy HY
                  go_wp2_with fail
                  go_roundw
                  case rel => exact ⟨k + 1, by omega, by go_num, HB6.out⟩
                  case measure => simp [intOf]; omega
                · have HN := Lib.hid hn
                  clear hn
                  go_wp2_with fail
                  refine (parseR_s s w5 HS.out).mono ?_
                  rintro e w6 ⟨hr, hb⟩
                  have HB6 := Lib.hid (HB5.out.trans (hb.mono HB5.out.size))
                  clear hb
                  rcases hr with ⟨t', hy, _⟩ | ⟨_, rfl⟩
                  · exact absurd hy (HN.out t')
                  go_wp2_with fail
                  go_roundw
                  case rel => exact ⟨k + 1, by omega, by go_num, HB6.out⟩
                  case measure => simp [intOf]; omega
          · obtain rfl : k = n' := by omega
            clear hb
            go_wp2_with fail
            go_ret
            exact ⟨rfl, HB.out⟩
end Go.Proofs.YtnhbkfmaaannnaaDoor
