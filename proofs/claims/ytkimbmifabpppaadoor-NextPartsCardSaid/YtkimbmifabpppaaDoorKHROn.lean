/- The document's On and Fit: walked. -/
import Derived.Test.YtkimbmifabpppaaDoorKHSomeP
import Derived.Test.YtkimbmifabpppaaDoorKHRFit
namespace Go.Proofs.YtkimbmifabpppaaDoor
open Go.RowKit

theorem own_types {W : World} {B B' n m : Nat} {v v' : Value} {xs ys : List Value} (h : W.ownsRow B 3 1 v n xs) (h' : W.ownsRow B' 2 1 v' m ys) : v.ownBlock = none ∨ v.ownBlock ≠ v'.ownBlock := by
  rcases h.2 with ⟨rfl, _⟩ | ⟨g, c, cur, rfl, _, hg, _⟩
  · exact .inl rfl
  · right
    rcases h'.2 with ⟨rfl, _⟩ | ⟨g', c', cur', rfl, _, hg', _⟩
    · intro he; cases he
    · intro he
      simp only [Value.ownBlock, Option.some.injEq] at he
      subst he
      rw [hg] at hg'
      cases hg'
theorem rall_ints (x : BitVec 64) (w : World) :
    Calls Tryd.prog 42 #[.int .u64 (U x)] w fun e w' => ∃ A c, e = .returned (.slice A (ints x).length c) ∧ w'.ownsRow w.heap.size 3 1 (.slice A (ints x).length c) (ints x).length ((ints x).map int1) ∧ Below w.heap.size w w' := by
  refine (rall_any x w).mono ?_
  rintro e w' ⟨v, rfl, hv, hb⟩
  have e1 : (elems x).map ienc = (ints x).map int1 := by unfold ints; rw [List.map_map]; rfl
  have e2 : (elems x).length = (ints x).length := by unfold ints; rw [List.length_map]
  rw [e1, e2] at hv
  obtain ⟨A, c, rfl⟩ := own_slice0 hv
  exact ⟨A, c, rfl, hv, hb⟩
set_option maxRecDepth 100000 in
set_option maxHeartbeats 2000000 in
theorem ron_any (a b c d e : BitVec 64) (n : Int) (w : World) (hk : crB [a, b, c, d, e] = true) (n0 : 0 ≤ n) (n1 : n ≤ 2932896) :
    Calls Tryd.prog 32 #[cronV [a, b, c, d, e], .int .i64 n] w fun x w' => ∃ v, x = .returned v ∧ w'.ownsRow w.heap.size 2 1 v (dayL [a, b, c, d, e] n).length ((dayL [a, b, c, d, e] n).map int1) ∧ Below w.heap.size w w' := by
  have hh : ∀ h ∈ ints b, 0 ≤ h ∧ h ≤ 23 := fun h hh => hour_in hk hh
  have hm : ∀ h ∈ ints a, 0 ≤ h ∧ h ≤ 59 := fun h hh => min_in hk hh
  have h64 := ints_64 b; have m64 := ints_64 a
  have HAH := Lib.hid (fun W => rall_ints b W); have HAM := Lib.hid (fun W => rall_ints a W)
  show Calls _ _ _ w fun x w' => ∃ v, x = .returned v ∧ w'.ownsRow w.heap.size 2 1 v (onW (ints b) (ints a) n).length ((onW (ints b) (ints a) n).map int1) ∧ Below w.heap.size w w'
  generalize ints a = ms at *
  generalize ints b = hs at *
  obtain ⟨WB, hWB, hb0, hc0⟩ : ∃ W : World, W = w.alloc (.cells #[.int .u64 (U a), .int .u64 (U b), .int .u64 (U c), .int .u64 (U d), .int .u64 (U e)] 25) ∧ Below w.heap.size w W ∧ CronAt W w.heap.size [a, b, c, d, e] := ⟨_, rfl, (Below.refl _ w).alloc (Nat.le_refl _) _, CronAt.new w a b c d e⟩
  have HB := Lib.hid hb0; have HC := Lib.hid hc0
  have hsz : w.heap.size ≤ WB.heap.size := hb0.size
  obtain ⟨c0, c1, c2, c3, c4⟩ := hc0.five
  obtain ⟨i0, hi, hz0, hz1, hz2⟩ := info_parts info_i64
  rw [cronV_five]
  unfold fiveV
  clear hk hb0 hc0
  have hhl : hs.length ≤ maxLen := by unfold maxLen; omega
  have hml : ms.length ≤ maxLen := by unfold maxLen; omega
  go_enter Tryd.func32, Tryd.ntmps32
  go_wp2_with fail
  rw [← hWB]
  clear hWB
  refine (HAH.out _).mono ?_
  rintro x w1 ⟨Ah, ch, rfl, harh, hb⟩
  have HX1 := Lib.hid hb; have HARH := Lib.hid (own_low harh (Nat.zero_le _))
  clear hb harh c0 c1 c2 c3 c4
  go_wp2_with fail
  go_loopw [5, 14] (fun v i wr => ∃ (k : Nat) (l : List Int), k ≤ hs.length ∧ i = .int .i64 (k : Int) ∧ l = onW (hs.take k) ms n ∧ wr.ownsRow WB.heap.size 2 1 v l.length (l.map int1) ∧ Below WB.heap.size WB wr ∧ wr.ownsRow 0 3 1 (.slice Ah hs.length ch) hs.length (hs.map int1)) (fun _ i _ => hs.length - (intOf i).toNat)
  case atStart => exact ⟨0, [], Nat.zero_le _, rfl, rfl, World.ownsRow_nil _ _ _ _, HX1.out, HARH.out⟩
  case round =>
    obtain ⟨k, l, hk, rfl, hl, hrow, hx, har⟩ := hrel
    by_cases hlt : k < hs.length
    · obtain ⟨h, hkk⟩ : ∃ h, hs[k]? = some h := ⟨_, List.getElem?_eq_getElem hlt⟩
      obtain ⟨hh0, hh1⟩ := hh h (List.mem_of_getElem? hkk)
      obtain ⟨bb, off, hA, hlb, hc⟩ := (own_arr har).2 k h hkk
      subst hA
      obtain ⟨c0, c1, c2, c3, c4⟩ := (HC.out.on hx).five
      have HL := Lib.hid hl; have HROW := Lib.hid hrow; have HX := Lib.hid hx; have HAR := Lib.hid har; have HKK := Lib.hid hkk
      clear hl hrow hx har hkk
      go_wp2_with fail
      refine (HAM.out _).mono ?_
      rintro x w2 ⟨Am, cm, rfl, harm, hb⟩
      have HROW2 := Lib.hid (own_below HROW.out hb); have HX2 := Lib.hid (HX.out.trans (hb.mono HX.out.size)); have HAR2 := Lib.hid (own_below HAR.out hb); have HAM2 := Lib.hid (own_low harm (Nat.zero_le _))
      clear hb harm HROW HX HAR c0 c1 c2 c3 c4 hc
      go_wp2_with fail
      generalize hwe : wr = we at *
      go_loopw [5, 22] (fun v i wr => ∃ (j : Nat) (l : List Int), j ≤ ms.length ∧ i = .int .i64 (j : Int) ∧ l = onW (hs.take k) ms n ++ ((ms.take j).map fun m => n * 86400 + h * 3600 + m * 60) ∧ wr.ownsRow WB.heap.size 2 1 v l.length (l.map int1) ∧ Below WB.heap.size WB wr ∧ wr.ownsRow 0 3 1 (.slice (some ⟨bb, off, none⟩) hs.length ch) hs.length (hs.map int1) ∧ wr.ownsRow 0 3 1 (.slice Am ms.length cm) ms.length (ms.map int1)) (fun _ i _ => ms.length - (intOf i).toNat)
      case atStart => exact ⟨0, l, Nat.zero_le _, rfl, by rw [HL.out]; simp, HROW2.out, HX2.out, HAR2.out, HAM2.out⟩
      case round =>
        clear HL HROW2 HX2 HAR2 HAM2
        obtain ⟨j, l', hj, rfl, hl, hrow, hx, har, ham⟩ := hrel
        by_cases hlt2 : j < ms.length
        · obtain ⟨mi, hmm⟩ : ∃ mi, ms[j]? = some mi := ⟨_, List.getElem?_eq_getElem hlt2⟩
          obtain ⟨hm0, hm1⟩ := hm mi (List.mem_of_getElem? hmm)
          obtain ⟨b2, off2, hA2, hlb2, hc2⟩ := (own_arr ham).2 j mi hmm
          subst hA2
          have hll : l'.length ≤ 4096 := by
            have h1 := (on_pre (hs := hs) (ms := ms) (n := n) (j := j) HKK.out).length_le
            have h2 := on_len (n := n) h64 m64
            rw [hl]; omega
          have HL := Lib.hid hl; have HX := Lib.hid hx; have HAR := Lib.hid har; have HAM3 := Lib.hid ham; have HMM := Lib.hid hmm
          have hle := hx.size
          have hown := hrow
          clear hl hx har ham hmm hrow
          go_wp2_with (at_builtin; refine wpList_append_own _ rfl _ _ 26 rfl WB.heap.size 2 i0 (.int .i64 0) 1 8 Tryd.underlying26 hi hz0 hz1 hz2 rfl (by decide) _ _ _ rfl (hown.alloc _) ⟨wr.heap.size, 0, none⟩ 1 1 [.int .i64 (n * 86400 + h * 3600 + mi * 60)] rfl rfl (cell_one_new _ _ _) (by simp [Value.oneCell']) (by unfold maxLen; omega) (by omega) (by simp; omega) ?_; intro v' w5 hown5 hgrow5 _)
          go_roundw
          case rel =>
            refine ⟨j + 1, l' ++ [n * 86400 + h * 3600 + mi * 60], by omega, by go_num, by rw [HL.out]; exact on_step HMM.out, by simpa [int1] using hown5, (HX.out.alloc hle (.cells #[.int .i64 (n * 86400 + h * 3600 + mi * 60)] 2)).grown hgrow5 (by simp; omega) (fun j e => (hown.lt j e).1), ?_, ?_⟩
            · exact (HAR.out.alloc _).kept hgrow5 (own_types HAR.out hown)
            · exact (HAM3.out.alloc _).kept hgrow5 (own_types HAM3.out hown)
          case measure => simp [intOf]; omega
        · have hj2 : j = ms.length := by omega
          have hl2 : l' = onW (hs.take (k + 1)) ms n := by rw [hl, hj2, List.take_length]; exact on_next HKK.out
          have HL := Lib.hid hl2; have HROW := Lib.hid hrow; have HX := Lib.hid hx; have HAR := Lib.hid har
          clear hl hl2 hrow hx har ham
          go_wp2_with fail
          go_roundw
          case rel => exact ⟨k + 1, l', by omega, by go_num, HL.out, HROW.out, HX.out, HAR.out⟩
          case measure => simp [intOf]; omega
    · have hk2 : k = hs.length := by omega
      have hl2 : l = onW hs ms n := by rw [hl, hk2, List.take_length]
      have HL := Lib.hid hl2; have HROW := Lib.hid hrow; have HX := Lib.hid hx
      clear hl hl2 hrow hx har
      go_wp2_with fail
      go_ret
      refine ⟨_, rfl, ?_, HB.out.trans (HX.out.mono HB.out.size)⟩
      rw [← HL.out]
      exact own_low HROW.out hsz
end Go.Proofs.YtkimbmifabpppaaDoor
