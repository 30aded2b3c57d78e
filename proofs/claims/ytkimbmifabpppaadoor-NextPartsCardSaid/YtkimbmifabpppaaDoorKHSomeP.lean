/- Some: walked, of the program. -/
import Derived.Test.YtkimbmifabpppaaDoorKHNextP
namespace Go.Proofs.YtkimbmifabpppaaDoor
open Go.RowKit

theorem info_i64 : (Tryd.prog.info? 2).map (fun i => (i.zero, i.size, i.bytes)) = some (some (.int .i64 0), 1, 8) := by kernel_rfl
def spanV (s0 s1 : Int) : Value := .agg #[.int .i64 s0, .int .i64 s1]
theorem span_cells (w : World) (a b c d e : BitVec 64) (s0 s1 : Int) :
    ∃ W : World, W = (w.alloc (.cells #[.int .u64 (U a), .int .u64 (U b), .int .u64 (U c), .int .u64 (U d), .int .u64 (U e)] 25)).alloc (.cells #[.int .i64 s0, .int .i64 s1] 32) ∧ Below w.heap.size w W ∧ CronAt W w.heap.size [a, b, c, d, e] ∧ D.Box W (w.heap.size + 1) 32 #[.int .i64 s0, .int .i64 s1] ∧ W.heap.size = w.heap.size + 2 := by
  refine ⟨_, rfl, ((Below.refl _ w).alloc (Nat.le_refl _) _).alloc (by simp) _, (CronAt.new w a b c d e).alloc _, ?_, by simp⟩
  have := D.Box.new (w.alloc (.cells #[.int .u64 (U a), .int .u64 (U b), .int .u64 (U c), .int .u64 (U d), .int .u64 (U e)] 25)) 32 #[.int .i64 s0, .int .i64 s1]
  rwa [World.size_alloc] at this
theorem two_box {W : World} {g : Nat} {t : TypeId} {x y : Value} (h : D.Box W g t #[x, y]) : W.cell? ⟨g, 0, none⟩ = some x ∧ W.cell? ⟨g, 1, none⟩ = some y := ⟨h.cell 0, h.cell 1⟩
/-- What Some comes to. -/
def SomeIs (L : List (BitVec 64)) (s0 s1 most : Int) (w : World) (x : Ending) (w' : World) : Prop :=
  ((crB L = false ∧ x = .returned (.tuple #[.slice none 0 0, .int .i64 170])) ∨
   (crB L = true ∧ (most < 0 ∨ 64 < most) ∧ x = .returned (.tuple #[.slice none 0 0, .int .i64 2])) ∨
   (crB L = true ∧ 0 ≤ most ∧ most ≤ 64 ∧ ∃ (v : Value) (l : List Int), x = .returned (.tuple #[v, .int .i64 0]) ∧ w'.ownsRow w.heap.size 2 1 v l.length (l.map int1) ∧ Chain (TC L) s0 s1 most.toNat l)) ∧ Below w.heap.size w w'
theorem chain_zero (T : Int → Prop) (a b : Int) : Chain T a b 0 [] := by rw [Chain]
set_option maxRecDepth 100000 in
set_option maxHeartbeats 1000000 in
theorem some_any (L : List (BitVec 64)) (s0 s1 most : Int) (w : World) (hL : LaidC w) (h5 : L.length = 5) :
    Calls Tryd.prog 17 #[cronV L, spanV s0 s1, .int .i64 most] w (SomeIs L s0 s1 most w) := by
  have HK := Lib.hid (fun W hW => ccheck_any L W hW h5)
  have HNX := Lib.hid (fun t W hW => next_any L t W hW h5)
  obtain ⟨a, b, c, d, e, rfl⟩ := list_five h5
  obtain ⟨WB, hWB, hb, hc, hx, hs⟩ := span_cells w a b c d e s0 s1
  have HB := Lib.hid hb; have HC := Lib.hid hc; have HX := Lib.hid hx; have HL := Lib.hid (hL.on hb)
  obtain ⟨c0, c1, c2, c3, c4⟩ := hc.five
  unfold spanV
  rw [cronV_five] at *
  unfold fiveV at *
  clear hL h5 hb hc hx
  rcases Bool.eq_false_or_eq_true (crB [a, b, c, d, e]) with hk | hk
  case inr =>
    have HKK := Lib.hid hk
    have he : crE [a, b, c, d, e] = 170 := by unfold crE; rw [hk]; rfl
    rw [he] at HK
    clear he hk HNX
    go_enter Tryd.func17, Tryd.ntmps17
    go_wp2_with fail
    rw [← hWB]
    clear hWB
    refine (HK.out _ HL.out.fld).mono ?_
    rintro x w1 ⟨rfl, hb⟩
    have HB1 := Lib.hid (HB.out.trans (hb.mono HB.out.size))
    clear hb
    go_wp2_with fail
    exact bodyPost_ret (v := .tuple #[.slice none 0 0, .int .i64 170]) (by simp [results, Tryd.results17, go_sem]) rfl ⟨.inl ⟨HKK.out, rfl⟩, HB1.out⟩
  case inl =>
    have he : crE [a, b, c, d, e] = 0 := by unfold crE; rw [hk]; rfl
    rw [he] at HK
    have HKK := Lib.hid hk
    clear he hk
    go_enter Tryd.func17, Tryd.ntmps17
    go_wp2_with fail
    rw [← hWB]
    clear hWB
    refine (HK.out _ HL.out.fld).mono ?_
    rintro x w1 ⟨rfl, hb⟩
    have HX1 := Lib.hid hb
    clear hb c0 c1 c2 c3 c4
    by_cases hneg : most < 0
    · have HB1 := Lib.hid (HB.out.trans (HX1.out.mono HB.out.size))
      have hd : decide (most < 0) = true := decide_eq_true hneg
      go_wp2_with fail
      exact bodyPost_ret (v := .tuple #[.slice none 0 0, .int .i64 2]) (by simp [results, Tryd.results17, go_sem]) rfl ⟨.inr (.inl ⟨HKK.out, .inl hneg, rfl⟩), HB1.out⟩
    · have hd : decide (most < 0) = false := decide_eq_false hneg
      by_cases hbig : 64 < most
      · have HB1 := Lib.hid (HB.out.trans (HX1.out.mono HB.out.size))
        have hd2 : decide (64 < most) = true := decide_eq_true hbig
        go_wp2_with fail
        exact bodyPost_ret (v := .tuple #[.slice none 0 0, .int .i64 2]) (by simp [results, Tryd.results17, go_sem]) rfl ⟨.inr (.inl ⟨HKK.out, .inr hbig, rfl⟩), HB1.out⟩
      · have hd2 : decide (64 < most) = false := decide_eq_false hbig
        obtain ⟨mm, rfl⟩ : ∃ mm : Nat, most = (mm : Int) := ⟨most.toNat, by omega⟩
        have hm64 : mm ≤ 64 := by omega
        obtain ⟨e0, e1⟩ := two_box (D.Box.belowAll HX.out HX1.out)
        go_wp2_with fail
        clear hneg hbig hd hd2
        obtain ⟨i0, hi, hz0, hz1, hz2⟩ := info_parts info_i64
        go_loopw [8, 9, 26] (fun v at_ i wr => ∃ (k : Nat) (l : List Int) (u : Int), k ≤ mm ∧ i = .int .i64 (k : Int) ∧ at_ = .int .i64 u ∧ l.length = k ∧ wr.ownsRow WB.heap.size 2 1 v l.length (l.map int1) ∧ Hid (∀ r, Chain (TC [a, b, c, d, e]) u s1 (mm - k) r → Chain (TC [a, b, c, d, e]) s0 s1 mm (l ++ r)) ∧ Below WB.heap.size WB wr) (fun _ _ i _ => mm - (intOf i).toNat)
        case atStart => exact ⟨0, [], s0, Nat.zero_le _, rfl, rfl, rfl, World.ownsRow_nil _ _ _ _, Lib.hid (fun r h => h), HX1.out⟩
        case round =>
          clear e0 e1
          obtain ⟨k, l, u, hk, rfl, rfl, hlen, hrow, HCH, hb⟩ := hrel
          by_cases hlt : k < mm
          · have HROW := Lib.hid hrow; have HBR := Lib.hid hb
            obtain ⟨c0, c1, c2, c3, c4⟩ := (HC.out.on hb).five
            have HN := Lib.hid (HNX.out u wr (HL.out.on hb))
            clear hrow hb
            go_wp2_with fail
            refine HN.out.mono ?_
            rintro x w2 ⟨hx, hb⟩
            have HB2 := Lib.hid (HBR.out.trans (hb.mono HBR.out.size))
            have HROW2 := Lib.hid (own_below HROW.out hb)
            clear hb HROW HBR HN c0 c1 c2 c3 c4
            obtain ⟨e0, e1⟩ := two_box (D.Box.belowAll HX.out HB2.out)
            rcases hx with ⟨t, ht, rfl⟩ | ⟨hn, rfl⟩
            · by_cases hts : s1 < t
              · have hd : decide (s1 < t) = true := decide_eq_true hts
                have hch : Chain (TC [a, b, c, d, e]) u s1 (mm - k) [] := by
                  obtain ⟨j, hj⟩ : ∃ j, mm - k = j + 1 := ⟨mm - k - 1, by omega⟩
                  rw [hj]; exact chain_past ht hts
                have HF := Lib.hid (HCH.out [] hch)
                clear ht hch HCH
                go_wp2_with fail
                refine bodyPost_ret (v := .tuple #[_, .int .i64 0]) (by simp [results, Tryd.results17, go_sem]) rfl ⟨.inr (.inr ⟨HKK.out, by omega, by omega, _, l, rfl, own_low HROW2.out (by omega), by simpa using HF.out⟩), HB.out.trans (HB2.out.mono HB.out.size)⟩
              · have hd : decide (s1 < t) = false := decide_eq_false hts
                have HF : Hid (∀ r, Chain (TC [a, b, c, d, e]) t s1 (mm - (k + 1)) r → Chain (TC [a, b, c, d, e]) s0 s1 mm ((l ++ [t]) ++ r)) := Lib.hid (fun r hr => by
                  rw [List.append_assoc]
                  refine HCH.out _ ?_
                  obtain ⟨j, hj⟩ : ∃ j, mm - k = j + 1 := ⟨mm - k - 1, by omega⟩
                  rw [hj]
                  exact chain_next ht (by omega) (by rw [show mm - (k + 1) = j by omega] at hr; exact hr))
                clear ht HCH
                have hrow := HROW2.out
                have hle := HB2.out.size
                have hll : l.length ≤ 64 := by omega
                go_wp2_with (at_builtin; refine wpList_append_own _ rfl _ _ 26 rfl WB.heap.size 2 i0 (.int .i64 0) 1 8 Tryd.underlying26 hi hz0 hz1 hz2 rfl (by decide) _ _ _ rfl (hrow.alloc _) ⟨w2.heap.size, 0, none⟩ 1 1 [.int .i64 t] rfl rfl (cell_one_new _ _ _) (by simp [Value.oneCell']) (by unfold maxLen; omega) (by omega) (by simp; omega) ?_; intro v' w5 hown5 hgrow5 _)
                go_roundw
                case rel =>
                  exact ⟨k + 1, l ++ [t], t, by omega, by go_num, rfl, by simp; omega, by simpa [int1] using hown5, HF, (HB2.out.alloc hle (.cells #[.int .i64 t] 2)).grown hgrow5 (by simp; omega) (fun j e => (hrow.lt j e).1)⟩
                case measure => simp [intOf]; omega
            · have hch : Chain (TC [a, b, c, d, e]) u s1 (mm - k) [] := by
                obtain ⟨j, hj⟩ : ∃ j, mm - k = j + 1 := ⟨mm - k - 1, by omega⟩
                rw [hj]; exact chain_stop (TC_times _) (TC_window _) hn
              have HF := Lib.hid (HCH.out [] hch)
              clear hn hch HCH
              go_wp2_with fail
              refine bodyPost_ret (v := .tuple #[_, .int .i64 0]) (by simp [results, Tryd.results17, go_sem]) rfl ⟨.inr (.inr ⟨HKK.out, by omega, by omega, _, l, rfl, own_low HROW2.out (by omega), by simpa using HF.out⟩), HB.out.trans (HB2.out.mono HB.out.size)⟩
          · have hkm : k = mm := by omega
            have HF : Hid (Chain (TC [a, b, c, d, e]) s0 s1 mm l) := Lib.hid (by
              have := HCH.out [] (by rw [hkm, Nat.sub_self]; exact chain_zero _ _ _)
              simpa using this)
            have HROW2 := Lib.hid hrow; have HB2 := Lib.hid hb
            clear HCH hrow hb
            go_wp2_with fail
            refine bodyPost_ret (v := .tuple #[_, .int .i64 0]) (by simp [results, Tryd.results17, go_sem]) rfl ⟨.inr (.inr ⟨HKK.out, by omega, by omega, _, l, rfl, own_low HROW2.out (by omega), by simpa using HF.out⟩), HB.out.trans (HB2.out.mono HB.out.size)⟩
end Go.Proofs.YtkimbmifabpppaaDoor
