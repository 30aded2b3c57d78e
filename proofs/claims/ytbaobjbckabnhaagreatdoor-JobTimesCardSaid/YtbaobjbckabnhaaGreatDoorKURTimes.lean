/- The document's First, Latest and Times: walked. -/
import Derived.Test.YtbaobjbckabnhaaGreatDoorKURef
namespace Go.Proofs.YtbaobjbckabnhaaGreatDoor
open Go.RowKit

theorem rnext_first (a b c d e : BitVec 64) (t : Int) (w : World) (hk : crB [a, b, c, d, e] = true) :
    Calls Tryz.prog 36 #[cronV [a, b, c, d, e], .int .i64 t] w fun x w' => TimeIs (FirstT (TC [a, b, c, d, e]) t) x ∧ Below w.heap.size w w' := by
  refine (rnext_any a b c d e t w hk).mono ?_
  rintro x w' ⟨h, hb⟩
  refine ⟨?_, hb⟩
  rcases h with ⟨t, ht, rfl⟩ | ⟨hn, rfl⟩
  · exact ⟨t, true, rfl, firstT_next ht⟩
  · exact ⟨0, false, rfl, firstT_none (TC_times _) (TC_window _) hn⟩
theorem rlast_latest (a b c d e : BitVec 64) (t : Int) (w : World) (hk : crB [a, b, c, d, e] = true) :
    Calls Tryz.prog 37 #[cronV [a, b, c, d, e], .int .i64 t] w fun x w' => TimeIs (LastT (TC [a, b, c, d, e]) t) x ∧ Below w.heap.size w w' := by
  refine (nrlast_any a b c d e t w hk).mono ?_
  rintro x w' ⟨h, hb⟩
  refine ⟨?_, hb⟩
  rcases h with ⟨t, ht, rfl⟩ | ⟨hn, rfl⟩
  · exact ⟨t, true, rfl, lastT_last ht⟩
  · exact ⟨0, false, rfl, lastT_none (TC_times _) (TC_window _) hn⟩
set_option maxRecDepth 100000 in
set_option maxHeartbeats 1000000 in
theorem rfirst10_any (ev : List (BitVec 64) → Bool) (j : JobZ) (s : Int) (w : World) (hj : j.Fit) (he : j.err ev = 0) :
    Calls Tryz.prog 16 #[jobV j, .int .i64 s] w fun x w' => TimeIs (FirstT j.T s) x ∧ Below w.heap.size w w' := by
  have hok := (err_ok he).2
  have HT1 := Lib.hid (T_once (j := j)); have HT2 := Lib.hid (T_cron (j := j))
  have HA := Lib.hid (firstT_alone j.t s)
  clear he
  generalize j.T = TJ at *
  obtain ⟨n, o, L, t, ov, ca, re⟩ := j
  obtain ⟨n0, n1, hl5⟩ := hj
  simp only at hl5 hok HT1 HT2 HA
  obtain ⟨a, b, c, d, e, rfl⟩ := list_five hl5
  obtain ⟨W0, hW0, hb0, hj0, _⟩ := job_new w n o a b c d e t ov ca re
  have HB0 := Lib.hid hb0
  obtain ⟨c0, c1, c2, c3, c4, c5, c6, c7, c8, c9, c10⟩ := hj0.cells
  have HNX := Lib.hid (fun W hk => rnext_first a b c d e s W hk)
  rw [jobV_five] at *
  rw [cronV_five] at *
  unfold fiveV at *
  clear hb0 hj0 hl5 n0 n1
  cases o with
  | true =>
    have HT := Lib.hid (HT1.out rfl)
    have ha := HA.out
    clear HT1 HT2 HA hok HNX
    by_cases hr : s < t
    · rw [if_pos hr, decide_eq_true hr] at ha
      have HA := Lib.hid ha
      have hd : decide (s < t) = true := decide_eq_true hr
      clear ha
      go_enter Tryz.func16, Tryz.ntmps16
      go_wp2_with fail
      rw [← hW0]
      exact bodyPost_ret (v := .tuple #[.int .i64 t, .bool true]) (by simp [results, Tryz.results16, go_sem]) rfl ⟨⟨_, _, rfl, by rw [HT.out]; exact HA.out⟩, HB0.out⟩
    · rw [if_neg hr, decide_eq_false hr] at ha
      have HA := Lib.hid ha
      have hd : decide (s < t) = false := decide_eq_false hr
      clear ha
      go_enter Tryz.func16, Tryz.ntmps16
      go_wp2_with fail
      rw [← hW0]
      exact bodyPost_ret (v := .tuple #[.int .i64 0, .bool false]) (by simp [results, Tryz.results16, go_sem]) rfl ⟨⟨_, _, rfl, by rw [HT.out]; exact HA.out⟩, HB0.out⟩
  | false =>
    have HT := Lib.hid (HT2.out rfl)
    have hk : crB [a, b, c, d, e] = true := by rcases hok with ⟨h, _⟩ | ⟨_, h, _⟩; cases h; exact h
    have HN := Lib.hid (fun W => HNX.out W hk)
    clear HT1 HT2 HA hok HNX hk
    go_enter Tryz.func16, Tryz.ntmps16
    go_wp2_with fail
    rw [← hW0]
    clear hW0
    refine (HN.out _).mono ?_
    rintro x w2 ⟨⟨y, ok, rfl, hy⟩, hb⟩
    have HY := Lib.hid hy; have HB2 := Lib.hid (HB0.out.trans (hb.mono HB0.out.size))
    clear hy hb
    go_wp2_with fail
    exact bodyPost_ret (v := .tuple #[.int .i64 y, .bool ok]) (by simp [results, Tryz.results16, go_sem]) rfl ⟨⟨_, _, rfl, by rw [HT.out]; exact HY.out⟩, HB2.out⟩
set_option maxRecDepth 100000 in
set_option maxHeartbeats 1000000 in
theorem rlatest10_any (ev : List (BitVec 64) → Bool) (j : JobZ) (s : Int) (w : World) (hj : j.Fit) (he : j.err ev = 0) :
    Calls Tryz.prog 17 #[jobV j, .int .i64 s] w fun x w' => TimeIs (LastT j.T s) x ∧ Below w.heap.size w w' := by
  have hok := (err_ok he).2
  have HT1 := Lib.hid (T_once (j := j)); have HT2 := Lib.hid (T_cron (j := j))
  have HA := Lib.hid (lastT_alone j.t s)
  clear he
  generalize j.T = TJ at *
  obtain ⟨n, o, L, t, ov, ca, re⟩ := j
  obtain ⟨n0, n1, hl5⟩ := hj
  simp only at hl5 hok HT1 HT2 HA
  obtain ⟨a, b, c, d, e, rfl⟩ := list_five hl5
  obtain ⟨W0, hW0, hb0, hj0, _⟩ := job_new w n o a b c d e t ov ca re
  have HB0 := Lib.hid hb0
  obtain ⟨c0, c1, c2, c3, c4, c5, c6, c7, c8, c9, c10⟩ := hj0.cells
  have HNX := Lib.hid (fun W hk => rlast_latest a b c d e s W hk)
  rw [jobV_five] at *
  rw [cronV_five] at *
  unfold fiveV at *
  clear hb0 hj0 hl5 n0 n1
  cases o with
  | true =>
    have HT := Lib.hid (HT1.out rfl)
    have ha := HA.out
    clear HT1 HT2 HA hok HNX
    by_cases hr : t ≤ s
    · rw [if_pos hr, decide_eq_true hr] at ha
      have HA := Lib.hid ha
      have hd : decide (t ≤ s) = true := decide_eq_true hr
      clear ha
      go_enter Tryz.func17, Tryz.ntmps17
      go_wp2_with fail
      rw [← hW0]
      exact bodyPost_ret (v := .tuple #[.int .i64 t, .bool true]) (by simp [results, Tryz.results17, go_sem]) rfl ⟨⟨_, _, rfl, by rw [HT.out]; exact HA.out⟩, HB0.out⟩
    · rw [if_neg hr, decide_eq_false hr] at ha
      have HA := Lib.hid ha
      have hd : decide (t ≤ s) = false := decide_eq_false hr
      clear ha
      go_enter Tryz.func17, Tryz.ntmps17
      go_wp2_with fail
      rw [← hW0]
      exact bodyPost_ret (v := .tuple #[.int .i64 0, .bool false]) (by simp [results, Tryz.results17, go_sem]) rfl ⟨⟨_, _, rfl, by rw [HT.out]; exact HA.out⟩, HB0.out⟩
  | false =>
    have HT := Lib.hid (HT2.out rfl)
    have hk : crB [a, b, c, d, e] = true := by rcases hok with ⟨h, _⟩ | ⟨_, h, _⟩; cases h; exact h
    have HN := Lib.hid (fun W => HNX.out W hk)
    clear HT1 HT2 HA hok HNX hk
    go_enter Tryz.func17, Tryz.ntmps17
    go_wp2_with fail
    rw [← hW0]
    clear hW0
    refine (HN.out _).mono ?_
    rintro x w2 ⟨⟨y, ok, rfl, hy⟩, hb⟩
    have HY := Lib.hid hy; have HB2 := Lib.hid (HB0.out.trans (hb.mono HB0.out.size))
    clear hy hb
    go_wp2_with fail
    exact bodyPost_ret (v := .tuple #[.int .i64 y, .bool ok]) (by simp [results, Tryz.results17, go_sem]) rfl ⟨⟨_, _, rfl, by rw [HT.out]; exact HY.out⟩, HB2.out⟩
theorem chainT_stop' {T : Int → Prop} {a b t : Int} (n : Nat) (h : FirstT T a t false) : Chain T a b n [] := by
  cases n with
  | zero => exact chainT_zero _ _ _
  | succ n => exact chainT_stop h
theorem chainT_past' {T : Int → Prop} {a b t : Int} (n : Nat) (h : FirstT T a t true) (hb : b < t) : Chain T a b n [] := by
  cases n with
  | zero => exact chainT_zero _ _ _
  | succ n => exact chainT_past h hb
/-- A row of one's own that holds the first so many times of a span. -/
def RowIs (T : Int → Prop) (s0 s1 : Int) (mm B : Nat) (x : Ending) (w : World) : Prop := ∃ (y : Value) (l : List Int), x = .returned y ∧ w.ownsRow B 2 1 y l.length (l.map int1) ∧ Chain T s0 s1 mm l
def lenV : Value → Nat
  | .slice _ n _ => n
  | _ => 0
set_option maxRecDepth 100000 in
set_option maxHeartbeats 2000000 in
theorem rtimes10_any (ev : List (BitVec 64) → Bool) (j : JobZ) (s0 s1 : Int) (mm : Nat) (w : World) (hj : j.Fit) (he : j.err ev = 0) (hm : mm ≤ 64) :
    Calls Tryz.prog 18 #[jobV j, spanV s0 s1, .int .i64 (mm : Int)] w fun x w' => RowIs j.T s0 s1 mm w.heap.size x w' ∧ Below w.heap.size w w' := by
  have HFI := Lib.hid (fun u W => rfirst10_any ev j u W hj he)
  clear he
  generalize j.T = TJ at *
  obtain ⟨n, o, L, t, ov, ca, re⟩ := j
  obtain ⟨n0, n1, hl5⟩ := hj
  simp only at hl5
  obtain ⟨a, b, c, d, e, rfl⟩ := list_five hl5
  obtain ⟨W0, hW0, hb0, hj0, hx0, hs0⟩ := job_span w n o a b c d e t ov ca re s0 s1
  have HB0 := Lib.hid hb0; have HJ := Lib.hid hj0; have HSP := Lib.hid hx0
  obtain ⟨c0, c1, c2, c3, c4, c5, c6, c7, c8, c9, c10⟩ := hj0.cells
  obtain ⟨e0, e1⟩ := two_box hx0
  rw [jobV_five] at *
  unfold spanV at *
  clear hb0 hj0 hl5 n0 n1 hx0
  obtain ⟨i0, hi, hz0, hz1, hz2⟩ := info_parts info_i64
  go_enter Tryz.func18, Tryz.ntmps18
  go_wp2_with fail
  rw [← hW0]
  clear hW0
  refine (HFI.out s0 _).mono ?_
  rintro x w1 ⟨⟨y, ok, rfl, hy⟩, hb⟩
  have HX1 := Lib.hid hb; have HY := Lib.hid hy
  clear hb hy c0 c1 c2 c3 c4 c5 c6 c7 c8 c9 c10 e0 e1
  go_wp2_with fail
  go_loopw [7, 8, 9] (fun v y ok wr => ∃ (l : List Int) (u t : Int) (k : Bool), l.length ≤ mm ∧ y = .int .i64 t ∧ ok = .bool k ∧ lenV v = l.length ∧ wr.ownsRow W0.heap.size 2 1 v l.length (l.map int1) ∧ Hid (FirstT TJ u t k) ∧ Hid (∀ r, Chain TJ u s1 (mm - l.length) r → Chain TJ s0 s1 mm (l ++ r)) ∧ Below W0.heap.size W0 wr) (fun v _ _ _ => mm - lenV v)
  case atStart => exact ⟨[], s0, y, ok, Nat.zero_le _, rfl, rfl, rfl, World.ownsRow_nil _ _ _ _, HY, Lib.hid (fun r h => h), HX1.out⟩
  case round =>
    clear HY HX1
    obtain ⟨l, u, t', k, hlm, rfl, rfl, hlv, hrow, HFT, HCH, hb⟩ := hrel
    have HROW := Lib.hid hrow; have HBR := Lib.hid hb
    obtain ⟨e0, e1⟩ := two_box (D.Box.belowAll HSP.out hb)
    have fin : ∀ (r : List Int), r = [] → Chain TJ u s1 (mm - l.length) r → Chain TJ s0 s1 mm l := fun r hr h => by
      have := HCH.out r h
      rw [hr, List.append_nil] at this
      exact this
    obtain ⟨A, cp, rfl⟩ := own_slice0 hrow
    cases k with
    | false =>
      have HF := Lib.hid (fin [] rfl (chainT_stop' _ HFT.out))
      clear hrow hb HCH fin HFT hlv
      go_wp2_with fail
      go_ret
      exact ⟨⟨_, l, rfl, own_low HROW.out (by omega), HF.out⟩, HB0.out.trans (HBR.out.mono HB0.out.size)⟩
    | true =>
      by_cases hts : t' ≤ s1
      · have hd : decide (t' ≤ s1) = true := decide_eq_true hts
        by_cases hlt : l.length < mm
        · have hd2 : decide ((l.length : Int) < (mm : Int)) = true := decide_eq_true (by omega)
          have hlt' : (l.length : Int) < (mm : Int) := by omega
          have HF2 : Hid (∀ r, Chain TJ t' s1 (mm - (l.length + 1)) r → Chain TJ s0 s1 mm ((l ++ [t']) ++ r)) := Lib.hid (fun r hr => by
            rw [List.append_assoc]
            refine HCH.out _ ?_
            obtain ⟨q, hq⟩ : ∃ q, mm - l.length = q + 1 := ⟨mm - l.length - 1, by omega⟩
            rw [hq]
            exact chainT_next HFT.out hts (by rw [show mm - (l.length + 1) = q by omega] at hr; exact hr))
          have hll : l.length ≤ 64 := by omega
          have hle := HBR.out.size
          clear HCH fin HFT hb hlv
          go_wp2_with (at_builtin; refine wpList_append_own _ rfl _ _ 43 rfl W0.heap.size 2 i0 (.int .i64 0) 1 8 Tryz.underlying43 hi hz0 hz1 hz2 rfl (by decide) _ _ _ rfl (hrow.alloc _) ⟨wr.heap.size, 0, none⟩ 1 1 [.int .i64 t'] rfl rfl (cell_one_new _ _ _) (by simp [Value.oneCell']) (by unfold maxLen; omega) (by omega) (by simp; omega) ?_; intro v' w5 hown5 hgrow5 _; have hB5 := (HBR.out.alloc hle (.cells #[.int .i64 t'] 2)).grown hgrow5 (by simp; omega) (fun j e => (hrow.lt j e).1); obtain ⟨c0, c1, c2, c3, c4, c5, c6, c7, c8, c9, c10⟩ := (HJ.out.on hB5).cells)
          have HB5 := Lib.hid hB5
          have HR5 : Hid (w5.ownsRow W0.heap.size 2 1 v' (l ++ [t']).length ((l ++ [t']).map int1)) := Lib.hid (by simpa [int1] using hown5)
          obtain ⟨A', cp', rfl⟩ := own_slice0 hown5
          clear hB5 hown5 hgrow5 hrow c0 c1 c2 c3 c4 c5 c6 c7 c8 c9 c10
          refine (HFI.out t' _).mono ?_
          rintro x w6 ⟨⟨y6, k6, rfl, hy6⟩, hb⟩
          have HB6 := Lib.hid (HB5.out.trans (hb.mono HB5.out.size)); have HR6 := Lib.hid (own_below HR5.out hb); have HY6 := Lib.hid hy6
          clear hb hy6 HB5 HR5
          go_wp2_with fail
          go_roundw
          case rel => exact ⟨l ++ [t'], t', y6, k6, by simp; omega, rfl, rfl, by simp [lenV], HR6.out, HY6, by rw [List.length_append]; exact HF2, HB6.out⟩
          case measure => simp [lenV]; omega
        · have hd2 : decide ((l.length : Int) < (mm : Int)) = false := decide_eq_false (by omega)
          have hlt' : ¬ (l.length : Int) < (mm : Int) := by omega
          have HF := Lib.hid (fin [] rfl (by rw [show mm - l.length = 0 by omega]; exact chainT_zero _ _ _))
          clear hrow hb HCH fin HFT hlv
          go_wp2_with fail
          go_ret
          exact ⟨⟨_, l, rfl, own_low HROW.out (by omega), HF.out⟩, HB0.out.trans (HBR.out.mono HB0.out.size)⟩
      · have hd : decide (t' ≤ s1) = false := decide_eq_false hts
        have HF := Lib.hid (fin [] rfl (chainT_past' _ HFT.out (by omega)))
        clear hrow hb HCH fin HFT hlv
        go_wp2_with fail
        go_ret
        exact ⟨⟨_, l, rfl, own_low HROW.out (by omega), HF.out⟩, HB0.out.trans (HBR.out.mono HB0.out.size)⟩
end Go.Proofs.YtbaobjbckabnhaaGreatDoor
