/- Whether a row may be, by the document: where all but the line is right: walked. -/
import Derived.Test.YthghcffibljclaaGreatDoorZ8
import Derived.Test.YthghcffibljclaaGreatDoorZXRLine
import Derived.Test.YthghcffibljclaaGreatDoorZXLoad
import Derived.Test.YthghcffibljclaaGreatDoorZXRiseP
import Derived.BigGuard
import Derived.Test.YthghcffibljclaaGreatDoorZVRise
import Derived.Deep.DeepCutAuto
namespace Go.Proofs.YthghcffibljclaaGreatDoor
open Go.RowKit

/-- The line rises, and is of the job's times. -/
def LineOk (r : RowZ) : Prop := r.line.Pairwise (· < ·) ∧ ∀ t ∈ r.line, r.j.T t
theorem line_len {r : RowZ} (h : r.q.length ≤ 3) : r.line.length ≤ 5 := by
  unfold RowZ.line
  rw [List.length_append, List.length_append]
  have h1 : (if 0 < r.num then [r.due] else []).length ≤ 1 := by split <;> simp
  have h2 : (if r.nx = -1 then [] else [r.nx]).length ≤ 1 := by split <;> simp
  omega
/-- So many of the line rise, and are of these times. -/
def OkP (T : Int → Prop) (l : List Int) (k : Nat) : Prop := (l.take k).Pairwise (· < ·) ∧ ∀ t ∈ l.take k, T t
theorem okP_zero (T : Int → Prop) (l : List Int) : OkP T l 0 := by
  unfold OkP
  rw [List.take_zero]
  exact ⟨List.Pairwise.nil, fun t h => (by cases h)⟩
theorem okP_next {T : Int → Prop} {l : List Int} {k : Nat} {t : Int} (h : OkP T l k) (ht : l[k]? = some t) (hT : T t) (hp : ∀ m u, k = m + 1 → l[m]? = some u → u < t) : OkP T l (k + 1) := by
  unfold OkP at *
  rw [List.take_add_one, ht, Option.toList_some]
  refine ⟨List.pairwise_append.2 ⟨h.1, List.pairwise_singleton _ _, fun x hx y hy => ?_⟩, fun x hx => ?_⟩
  · rw [List.mem_singleton] at hy
    subst hy
    cases k with
    | zero => rw [List.take_zero] at hx; cases hx
    | succ m =>
      obtain ⟨u, hu⟩ : ∃ u, l[m]? = some u := ⟨_, List.getElem?_eq_getElem (by have := (List.getElem?_eq_some_iff.1 ht).1; omega)⟩
      have hl := hp m u rfl hu
      have h1 := h.1
      rw [List.take_add_one, hu, Option.toList_some] at h1 hx
      rcases List.mem_append.1 hx with hx | hx
      · have := (List.pairwise_append.1 h1).2.2 x hx u (List.mem_singleton.2 rfl)
        omega
      · rw [List.mem_singleton] at hx
        omega
  · rcases List.mem_append.1 hx with hx | hx
    · exact h.2 x hx
    · rw [List.mem_singleton] at hx
      rw [hx]
      exact hT
theorem okP_all {T : Int → Prop} {l : List Int} (h : OkP T l l.length) : l.Pairwise (· < ·) ∧ ∀ t ∈ l, T t := by
  unfold OkP at h
  rwa [List.take_length] at h
theorem pair_not {l : List Int} {m : Nat} {u t : Int} (hu : l[m]? = some u) (ht : l[m + 1]? = some t) (h : t ≤ u) : ¬ l.Pairwise (· < ·) := fun hp => by
  have hl := (List.getElem?_eq_some_iff.1 ht).1
  have h1 := List.pairwise_iff_getElem.1 hp m (m + 1) (by omega) hl (by omega)
  have e1 := (List.getElem?_eq_some_iff.1 hu).2
  have e2 := (List.getElem?_eq_some_iff.1 ht).2
  omega
theorem first_is {T : Int → Prop} {t f : Int} {ok : Bool} (h : FirstT T (t - 1) f ok) : T t ↔ (ok = true ∧ f = t) := by
  constructor
  · intro hT
    rcases h with ⟨h1, h2⟩ | ⟨_, _, h2⟩
    · have := h2.2.2 t hT (by omega)
      have := h2.2.1
      exact ⟨h1, by omega⟩
    · have := h2 t hT
      omega
  · rintro ⟨rfl, rfl⟩
    rcases h with ⟨_, h2⟩ | ⟨h1, _⟩
    · exact h2.1
    · cases h1
set_option maxRecDepth 100000 in
set_option maxHeartbeats 8000000 in
theorem rr_way (ev : List (BitVec 64) → Bool) (hev : EvIs ev) (r : RowZ) (v : Value) (w : World) (hf : r.Fit) (hq : QR w v r.q) (hR : r.Right ev ↔ LineOk r) (he : r.j.err ev = 0) (h0 : 0 ≤ r.tr) (h1 : r.tr ≤ r.j.re) (h3 : r.q.length ≤ 3) (hpx : ¬ (r.pa = true ∧ r.nx ≠ -1)) (hid : r.num = 0 → r.due = 0 ∧ r.tr = 0 ∧ r.q = []) (hsk : r.j.ov = 0 → r.q = []) :
    Calls Tryz.prog 7 #[rowV r v] w fun e w' => BoolIs (r.Right ev) e ∧ Below w.heap.size w w' := by
  have hx0 := D.Box.new w 33 (rowC r v).toArray
  have hb0 := new_below w (.cells (rowC r v).toArray 33)
  obtain ⟨W0, hW0⟩ : ∃ W : World, W = w.alloc (.cells (rowC r v).toArray 33) := ⟨_, rfl⟩
  rw [← hW0] at hx0 hb0
  have HB0 := Lib.hid hb0; have HF := Lib.hid hf
  have HCK := Lib.hid (rcheck_any ev hev r.j W0 hf.1)
  have HLJ := Lib.hid (loadS (row_job hf hx0))
  have HLI := Lib.hid (fun W (hb : Below W0.heap.size W0 W) => rline_any r v W hf ((hq.on hb0).on hb) (by omega))
  have HFI := Lib.hid (fun s W => rfirst10_any ev r.j s W hf.1 he)
  unfold TimeIs at HFI
  have HTI := Lib.hid (fun t W => D.timeR_any t W)
  have HLJW := Lib.hid (fun W (hb : Below W0.heap.size W0 W) => loadS (row_job hf (D.Box.belowAll hx0 hb)))
  have HLRW := Lib.hid (fun W (hb : Below W0.heap.size W0 W) => loadS (row_load hf (D.Box.belowAll hx0 hb)))
  have HNO : Hid (¬ LineOk r → BoolIs (r.Right ev) (.returned (.bool false))) := Lib.hid (fun h => .no (fun h2 => h (hR.1 h2)))
  have HYES : Hid (LineOk r → BoolIs (r.Right ev) (.returned (.bool true))) := Lib.hid (fun h => .yes (hR.2 h))
  have HLL := Lib.hid (line_len h3)
  obtain ⟨A1, k1, rfl, u1, u2, u3, u4⟩ := hq
  have HCE := Lib.hid (fun (W : World) (hb : Below W0.heap.size W0 W) => cellsF_of hf (row_range (D.Box.belowAll hx0 hb)))
  have HGO := Lib.hid (fun (W : World) (hb : Below W0.heap.size W0 W) => row_going hf (row_range (D.Box.belowAll hx0 hb)))
  have hrv : Hid (rowV r (.slice A1 r.q.length k1) = .agg (rowC r (.slice A1 r.q.length k1)).toArray) := Lib.hid rfl
  rw [hrv.out]
  rw [hrv.out] at HLI HLRW
  have HTR := Lib.hid (And.intro h0 (And.intro h1 h3)); have HPX := Lib.hid hpx; have HID := Lib.hid hid; have HSK := Lib.hid hsk
  clear hrv h0 h1 h3 hpx hid hsk
  generalize rowC r (.slice A1 r.q.length k1) = CS at *
  generalize hBI : BoolIs (r.Right ev) = BI at *
  clear hx0 hb0 hf u1 u2 u3 u4 hev hBI hR
  go_enter Tryz.func7, Tryz.ntmps7
  go_upto_region 1 with fail
  rw [← hW0]
  clear hW0
  go_cut [41] from 8 to 41 (fun s41 wx => s41 = .bool false ∧ Below W0.heap.size W0 wx)
  case first =>
    go_wp2_with (refine list_loadS rfl _ rfl rfl HLJ.out ?_)
    refine HCK.out.mono ?_
    rintro e w1 ⟨rfl, hb⟩
    have HB1 := Lib.hid hb
    have hcf := HCE.out w1 hb
    have c10 := hcf.re; have c11 := hcf.pa; have c12 := hcf.nx; have c15 := hcf.tr; have c16 := hcf.q
    rw [Nat.zero_add] at c10 c11 c12 c15 c16
    rw [he]
    have q2 : decide (r.tr < 0) = false := decide_eq_false (by have := HTR.out.1; omega)
    have q3 : decide (r.j.re < r.tr) = false := decide_eq_false (by have := HTR.out.2.1; omega)
    have q4 : decide ((3 : Int) < (r.q.length : Int)) = false := decide_eq_false (by have := HTR.out.2.2; omega)
    cases hpa : r.pa with
    | false =>
      rw [hpa] at c11
      clear hcf hb HCK HLJ HCE HGO HF he HLRW HLI hpa HFI HTI HLJW HNO HYES HLL HTR HPX HID HSK HB0
      go_wp2_with fail
      go_meet
      exact ⟨rfl, HB1.out⟩
    | true =>
      have hnx : r.nx = -1 := Classical.byContradiction (fun h => HPX.out ⟨hpa, h⟩)
      rw [hpa] at c11
      rw [hnx] at c12
      clear hcf hb HCK HLJ HCE HGO HF he HLRW HLI hpa hnx HFI HTI HLJW HNO HYES HLL HTR HPX HID HSK HB0
      go_wp2_with fail
      go_meet
      exact ⟨rfl, HB1.out⟩
  case rest =>
  obtain ⟨rfl, hb1⟩ := hcut
  generalize wc = w1 at *
  have HB1 := Lib.hid hb1
  have HLR := Lib.hid (HLRW.out w1 hb1)
  have HL1 := Lib.hid (HLI.out w1 hb1)
  go_upto_region 3 with fail
  go_cut [69] from 42 to 69 (fun s69 wx => s69 = .bool false ∧ wx = w1)
  case first =>
    have hcf := HCE.out w1 hb1
    have HG := Lib.hid (loadS (HGO.out w1 hb1))
    have c8 := hcf.ov; have c13 := hcf.num; have c16 := hcf.q
    rw [Nat.zero_add] at c8 c13 c16
    by_cases hn : r.num = 0
    · obtain ⟨hd, ht, hq0⟩ := HID.out hn
      have q7 : r.q.length = 0 := by rw [hq0]; rfl
      rw [q7] at c16
      rw [hn] at c13
      rw [hn, hd, ht] at HG
      by_cases ho : r.j.ov = 0
      · rw [ho] at c8
        clear hcf hb1 HCK HLJ HCE HGO HF he HLRW HLI HFI HTI HLJW HNO HYES HLL HTR HPX HID HSK HB0 HB1 HLR HL1 hn hd ht hq0 q7 ho
        go_wp2_with (first | (refine list_stop 52 rfl ?_; (iterate 57 (first | go_values | go_skip | go_guarded | go_step | go_upon | go_back)); go_meet; exact ⟨rfl, rfl⟩) | refine list_loadwS (t := 30) _ rfl rfl HG.out (by rfl) ?_)
      · have q6 : (r.j.ov == 0) = false := by simpa using ho
        clear hcf hb1 HCK HLJ HCE HGO HF he HLRW HLI HFI HTI HLJW HNO HYES HLL HTR HPX HID HSK HB0 HB1 HLR HL1 hn hd ht hq0 q7 ho
        go_wp2_with (first | (refine list_stop 52 rfl ?_; (iterate 46 (first | go_values | go_skip | go_guarded | go_step | go_upon | go_back)); go_meet; exact ⟨rfl, rfl⟩) | refine list_loadwS (t := 30) _ rfl rfl HG.out (by rfl) ?_)
    · have q5 : (r.num == 0) = false := by simpa using hn
      by_cases ho : r.j.ov = 0
      · have hq0 := HSK.out ho
        have q7 : r.q.length = 0 := by rw [hq0]; rfl
        rw [q7] at c16
        rw [ho] at c8
        clear hcf hb1 HCK HLJ HCE HGO HF he HLRW HLI HFI HTI HLJW HNO HYES HLL HTR HPX HID HSK HB0 HB1 HLR HL1 hn hq0 q7 ho HG
        (iterate 59 (first | go_values | go_skip | go_guarded | go_step | go_upon | go_back))
        go_meet
        exact ⟨rfl, rfl⟩
      · have q6 : (r.j.ov == 0) = false := by simpa using ho
        clear hcf hb1 HCK HLJ HCE HGO HF he HLRW HLI HFI HTI HLJW HNO HYES HLL HTR HPX HID HSK HB0 HB1 HLR HL1 hn ho HG
        (iterate 48 (first | go_values | go_skip | go_guarded | go_step | go_upon | go_back))
        go_meet
        exact ⟨rfl, rfl⟩
  case rest =>
  obtain ⟨rfl, hwc⟩ := hcut
  subst hwc
  have HTB := Lib.hid (T_bounds he)
  clear hb1 HCK HLJ HCE HGO HLRW HLI HTR HPX HID HSK he
  go_wp2_with (first | refine list_loadS (t := 33) rfl _ rfl rfl HLR.out ?_)
  refine HL1.out.mono ?_
  rintro e w2 ⟨⟨y, rfl, hoy⟩, hb⟩
  obtain ⟨Ay, cy, rfl⟩ := own_slice0 hoy
  have HB2 := Lib.hid (HB1.out.trans (hb.mono HB1.out.size))
  have HRD : Hid (Reads w2 Ay (r.line.map int1)) := Lib.hid (by
    obtain ⟨A', c', e', _, _, _, h4⟩ := OwnT.qr (l := r.line) hoy
    cases e'
    exact h4)
  have HOKN : Hid (∀ (m : Nat) (u t : Int), r.line[m]? = some u → r.line[m + 1]? = some t → t ≤ u → BI (.returned (.bool false))) := Lib.hid (fun m u t h1 h2 h3 => HNO.out (fun h => pair_not h1 h2 h3 h.1))
  have HOKT : Hid (∀ (k : Nat) (t : Int), r.line[k]? = some t → ¬ r.j.T t → BI (.returned (.bool false))) := Lib.hid (fun k t h1 h2 => HNO.out (fun h => h2 (h.2 t (List.mem_of_getElem? h1))))
  have HOKY : Hid (OkP r.j.T r.line r.line.length → BI (.returned (.bool true))) := Lib.hid (fun h => HYES.out (okP_all h))
  clear hoy hb HL1 HLR HB1 HNO HYES
  generalize r.line = l at *
  generalize hTT : r.j.T = T at *
  obtain ⟨n, hn⟩ : ∃ n, l.length = n := ⟨_, rfl⟩
  rw [hn] at HOKY ⊢
  have hn5 : n ≤ 5 := by rw [← hn]; exact HLL.out
  have HN := Lib.hid hn
  clear hn HLL hTT
  go_wp2_with fail
  go_loopw [74] (fun i wr => ∃ k : Nat, k ≤ n ∧ i = .int .i64 (k : Int) ∧ Hid (OkP T l k) ∧ Hid (Below w2.heap.size w2 wr)) (fun i _ => n - (intOf i).toNat)
  case atStart => exact ⟨0, Nat.zero_le _, rfl, Lib.hid (okP_zero T l), Lib.hid (Below.refl _ _)⟩
  case round =>
    obtain ⟨k, hk, rfl, HOK, HBR⟩ := hrel
    by_cases hlt : k < n
    · obtain ⟨t, ht⟩ : ∃ t, l[k]? = some t := ⟨_, List.getElem?_eq_getElem (by have := HN.out; omega)⟩
      have HT := Lib.hid ht
      obtain ⟨b, o, rfl, hbl, ck0⟩ := qr_at HRD.out ht
      have ck : wr.cell? ⟨b, o + k, none⟩ = some (.int .i64 t) := (HBR.out.cell (p := ⟨b, o + k, none⟩) hbl).trans ck0
      have HBW := Lib.hid (HB0.out.trans ((HB2.out.trans (HBR.out.mono HB2.out.size)).mono HB0.out.size))
      have HTK := Lib.hid (HTI.out t wr)
      have g1 : (0 : Int) ≤ (k : Int) := by omega
      have g2 : (k : Int) < (n : Int) := by omega
      have HBL := Lib.hid hbl
      clear ht hbl ck0
      go_wp2_with fail
      refine HTK.out.mono ?_
      rintro e w4 ⟨rfl, rfl⟩
      clear HTK
      cases htb : D.timeB t with
      | false =>
        have HX := Lib.hid (HOKT.out k t HT.out (fun h => by have := HTB.out t h; have : D.timeB t = true := decide_eq_true (by unfold D.TimeZ; omega); rw [htb] at this; cases this))
        clear htb
        go_wp2_with fail
        go_ret
        exact ⟨HX.out, HBW.out⟩
      | true =>
      have htz : 0 ≤ t ∧ t ≤ 253402300799 := of_decide_eq_true htb
      have hsub : wrap64 (t - 1) = t - 1 := by unfold wrap64; omega
      have HLJ2 := Lib.hid (HLJW.out wr (HB2.out.trans (HBR.out.mono HB2.out.size)))
      have HFIR := Lib.hid (HFI.out (t - 1) wr)
      clear htb htz
      cases k with
      | zero =>
        have HPV : Hid (∀ m u, 0 = m + 1 → l[m]? = some u → u < t) := Lib.hid (fun m u h => by omega)
        go_wp2_with (first | refine list_loadS (t := 28) rfl _ rfl rfl HLJ2.out ?_)
        refine HFIR.out.mono ?_
        rintro e w5 ⟨⟨f, ok, rfl, hfi⟩, hb⟩
        have hiff := first_is hfi
        have HB5 := Lib.hid (HBR.out.trans (hb.mono HBR.out.size))
        have HBF := Lib.hid (HBW.out.trans (hb.mono HBW.out.size))
        clear hfi hb HFIR HLJ2 HBW
        cases ok with
        | false =>
          have HX := Lib.hid (HOKT.out _ t HT.out (fun h => by have := (hiff.1 h).1; cases this))
          clear hiff
          go_wp2_with fail
          go_ret
          exact ⟨HX.out, HBF.out⟩
        | true =>
        by_cases hft : f = t
        case neg =>
          have q1 : (f != t) = true := by simpa using hft
          have HX := Lib.hid (HOKT.out _ t HT.out (fun h => hft (hiff.1 h).2))
          clear hiff hft
          go_wp2_with fail
          go_ret
          exact ⟨HX.out, HBF.out⟩
        subst hft
        have HNX := Lib.hid (okP_next HOK.out HT.out (hiff.2 ⟨rfl, rfl⟩) HPV.out)
        have q1 : (f != f) = false := by simp
        clear hiff
        go_wp2_with fail
        go_roundw
        case rel => exact ⟨_, by omega, by go_num, HNX, HB5⟩
        case measure => simp [intOf]; omega
      | succ m =>
        obtain ⟨u, hu⟩ : ∃ u, l[m]? = some u := ⟨_, List.getElem?_eq_getElem (by have := HN.out; omega)⟩
        obtain ⟨b', o', e', _, cu0⟩ := qr_at HRD.out hu
        cases e'
        have cu : wr.cell? ⟨b, o + m, none⟩ = some (.int .i64 u) := (HBR.out.cell (p := ⟨b, o + m, none⟩) HBL.out).trans cu0
        have hidx : wrap64 (((m + 1 : Nat) : Int) - 1) = (m : Int) := by unfold wrap64; omega
        have hidx2 : wrap64 ((m : Int) + 1 - 1) = (m : Int) := by unfold wrap64; omega
        have g3 : (0 : Int) ≤ (m : Int) := by omega
        have g4 : (m : Int) < (n : Int) := by omega
        have g5 : (0 : Int) < ((m + 1 : Nat) : Int) := by omega
        have g6 : decide ((0 : Int) < ((m + 1 : Nat) : Int)) = true := decide_eq_true g5
        have HU := Lib.hid hu
        clear hu cu0
        by_cases htu : t ≤ u
        · have q2 : decide (t ≤ u) = true := decide_eq_true htu
          have HX := Lib.hid (HOKN.out m u t HU.out HT.out htu)
          go_wp2_with fail
          go_ret
          exact ⟨HX.out, HBW.out⟩
        have q2 : decide (t ≤ u) = false := decide_eq_false htu
        have HPV : Hid (∀ m' u', m + 1 = m' + 1 → l[m']? = some u' → u' < t) := Lib.hid (fun m' u' h h2 => by
          obtain rfl : m = m' := by omega
          obtain rfl : u = u' := Option.some.inj (HU.out.symm.trans h2)
          omega)
        go_wp2_with (first | refine list_loadS (t := 28) rfl _ rfl rfl HLJ2.out ?_)
        refine HFIR.out.mono ?_
        rintro e w5 ⟨⟨f, ok, rfl, hfi⟩, hb⟩
        have hiff := first_is hfi
        have HB5 := Lib.hid (HBR.out.trans (hb.mono HBR.out.size))
        have HBF := Lib.hid (HBW.out.trans (hb.mono HBW.out.size))
        clear hfi hb HFIR HLJ2 HBW
        cases ok with
        | false =>
          have HX := Lib.hid (HOKT.out _ t HT.out (fun h => by have := (hiff.1 h).1; cases this))
          clear hiff
          go_wp2_with fail
          go_ret
          exact ⟨HX.out, HBF.out⟩
        | true =>
        by_cases hft : f = t
        case neg =>
          have q1 : (f != t) = true := by simpa using hft
          have HX := Lib.hid (HOKT.out _ t HT.out (fun h => hft (hiff.1 h).2))
          clear hiff hft
          go_wp2_with fail
          go_ret
          exact ⟨HX.out, HBF.out⟩
        subst hft
        have HNX := Lib.hid (okP_next HOK.out HT.out (hiff.2 ⟨rfl, rfl⟩) HPV.out)
        have q1 : (f != f) = false := by simp
        clear hiff
        go_wp2_with fail
        go_roundw
        case rel => exact ⟨_, by omega, by go_num, HNX, HB5⟩
        case measure => simp [intOf]; omega
    · have hkn : k = n := by omega
      subst hkn
      have HX := Lib.hid (HOKY.out HOK.out)
      have HBF := Lib.hid (HB0.out.trans ((HB2.out.trans (HBR.out.mono HB2.out.size)).mono HB0.out.size))
      go_wp2_with fail
      go_ret
      exact ⟨HX.out, HBF.out⟩
end Go.Proofs.YthghcffibljclaaGreatDoor
