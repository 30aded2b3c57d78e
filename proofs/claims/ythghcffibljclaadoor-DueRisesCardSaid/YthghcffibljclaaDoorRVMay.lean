/- Whether a row may be: walked. -/
import Derived.Test.YthghcffibljclaaDoorRVRise
import Derived.Test.YthghcffibljclaaDoorRVTimesB
import Derived.Test.YthghcffibljclaaDoorRVRowF
import Derived.Deep.DeepCutAuto
namespace Go.Proofs.YthghcffibljclaaDoor
open Go.RowKit

theorem QR.drewN {w : World} {v : Value} {q : List Int} (h : QR w v q) (d : Nat) : QR (w.drewN d) v q := by
  obtain ⟨A, c, e, h1, h2, h3, h4⟩ := h
  exact ⟨A, c, e, h1, h2, h3, fun j u hj => h4 j u hj⟩
set_option maxRecDepth 100000 in
set_option maxHeartbeats 4000000 in
theorem may_any (ev : List (BitVec 64) → Bool) (hev : EvIs ev) (r : RowZ) (v : Value) (now : Int) (w : World) (hL : LaidC w) (hf : r.Fit) (hq : QR w v r.q) :
    Calls Tryd.prog 19 #[rowNV r v now] w fun e w' => BoolIs (r.Asked ev) e ∧ Below w.heap.size w w' := by
  have HJ := Lib.hid (fun W hW => jcheck_any ev hev r.j W hW hf.1)
  have HR := Lib.hid (fun W => rowruns_any r v now W hf)
  have HRM := Lib.hid (fun W => room_any r v now W hf)
  have HT := Lib.hid (fun (h : r.q.length ≤ 100) W hW => times_any r v now W hf hW h)
  have HCS := Lib.hid (fun y q W hW hq hl => contains_strange ev hev r v now y q W hW hf hq hl)
  have HA : Hid (r.Asked ev ↔ (r.j.err ev = 0 ∧ ¬ (r.pa = true ∧ r.nx ≠ -1) ∧ ¬ (r.num = 0 ∧ decide r.runs = true) ∧ ¬ (r.tr < 0 ∨ r.j.re < r.tr) ∧ r.q.length ≤ r.room ∧ r.line'.Pairwise (· < ·) ∧ ∀ x ∈ r.line', r.j.TT ev x)) := Lib.hid (by
    constructor
    · intro h
      exact ⟨h.job, h.pa, fun hx => h.idle ⟨hx.1, of_decide_eq_true hx.2⟩, h.tr, h.room, h.rises, fun x hx => ⟨h.job, h.times x hx⟩⟩
    · rintro ⟨h1, h2, h3, h4, h5, h6, h7⟩
      exact ⟨h1, h2, fun hx => h3 ⟨hx.1, decide_eq_true hx.2⟩, h4, h5, h6, fun x hx => (h7 x hx).2⟩)
  have HRL : Hid (r.room ≤ 3 ∧ r.line'.length ≤ r.q.length + 2) := Lib.hid ⟨by unfold RowZ.room; split <;> omega, by unfold RowZ.line'; rw [List.length_append, List.length_append]; split <;> split <;> simp <;> omega⟩
  generalize r.Asked ev = PA at *
  generalize decide r.runs = B at *
  generalize r.room = m at *
  generalize r.line' = L' at *
  generalize r.j.TT ev = TT at *
  generalize JobZ.err ev r.j = z at *
  have hx0 := D.Box.new w 64 (rowNC r v now).toArray
  have hb0 := new_below w (.cells (rowNC r v now).toArray 64)
  obtain ⟨W0, hW0⟩ : ∃ W : World, W = w.alloc (.cells (rowNC r v now).toArray 64) := ⟨_, rfl⟩
  rw [← hW0] at hx0 hb0
  have HB0 := Lib.hid hb0; have HQ0 := Lib.hid (hq.on hb0); have HL0 := Lib.hid (hL.on hb0)
  have HBX : Hid (∀ W, Below W0.heap.size W0 W → D.Box W w.heap.size 64 (rowNC r v now).toArray) := Lib.hid (fun W hb => D.Box.belowAll hx0 hb)
  have HLD : Hid (∀ W, Below W0.heap.size W0 W → LoadIs W 64 w.heap.size 0 (rowNV r v now)) := Lib.hid (fun W hb => rown_load hf (HBX.out W hb))
  have HLJ : Hid (∀ W, Below W0.heap.size W0 W → LoadIs W 28 w.heap.size 0 (jobV r.j)) := Lib.hid (fun W hb => rown_job hf (HBX.out W hb))
  have HC : Hid (∀ W, Below W0.heap.size W0 W → W.cell? ⟨w.heap.size, 10, none⟩ = some (.int .i64 r.j.re) ∧ W.cell? ⟨w.heap.size, 11, none⟩ = some (.bool r.pa) ∧ W.cell? ⟨w.heap.size, 12, none⟩ = some (.int .i64 r.nx) ∧ W.cell? ⟨w.heap.size, 13, none⟩ = some (.int .u64 r.num) ∧ W.cell? ⟨w.heap.size, 15, none⟩ = some (.int .i64 r.tr)) := Lib.hid (fun W hb => by
    have h := cellsF_of hf (rown_range (HBX.out W hb))
    have h1 := h.re; have h2 := h.pa; have h3 := h.nx; have h4 := h.num; have h5 := h.tr
    rw [Nat.zero_add] at h1 h2 h3 h4 h5
    exact ⟨h1, h2, h3, h4, h5⟩)
  have HE : Hid (∀ W, Below W0.heap.size W0 W → Below w.heap.size w W) := Lib.hid (fun W hb => HB0.out.trans (hb.mono HB0.out.size))
  obtain ⟨ql, hql⟩ : ∃ ql, r.q.length = ql := ⟨_, rfl⟩
  rw [hql] at HA HT HRL
  obtain ⟨Aq, cq, hqv, hq1, _⟩ := hq
  rw [hql] at hqv hq1
  have HQV := Lib.hid hqv
  have HFIT := Lib.hid hf
  have HRV : Hid (rowNV r v now = .agg (rowNC r v now).toArray) := Lib.hid rfl
  rw [HRV.out] at HR HRM HT HCS HLD
  rw [HRV.out]
  unfold jobV at HJ HLJ
  generalize hCJ : (jobC r.j).toArray = CJ at *
  generalize hCS : rowNC r v now = CS at *
  obtain ⟨⟨n, o, L, t, ov, ca, re⟩, pa, nx, num, due, tr, q⟩ := r
  simp only at HA HC HQ0
  have HCSE := Lib.hid hCS
  clear hb0 hx0 hf hL hev hql hqv hq1 hCJ hCS HRV HB0
  go_enter Tryd.func19, Tryd.ntmps19
  go_upto_region 1 with fail
  rw [← hW0]
  clear hW0
  have HB00 := Lib.hid (Below.refl W0.heap.size W0)
  have HJ0 := Lib.hid (HLJ.out W0 HB00.out)
  go_wp2_with (refine list_load rfl _ rfl rfl HJ0.out ?_)
  refine (HJ.out _ HL0.out).mono ?_
  rintro x w1 ⟨rfl, hb⟩
  have HB1 := Lib.hid hb
  clear hb HJ HJ0 HB00
  by_cases hz : z = 0
  case neg =>
    have hz1 : (z != 0) = true := by simpa using hz
    have HF : Hid (¬ PA) := Lib.hid (fun h => hz (HA.out.1 h).1)
    as_aux_lemma =>
      go_wp2_with fail
      go_ret
      exact ⟨.no HF.out, HE.out _ HB1.out⟩
  subst hz
  obtain ⟨c10, c11, c12, c13, c15⟩ := HC.out w1 HB1.out
  by_cases hpx : pa = true ∧ nx ≠ -1
  · obtain ⟨rfl, hnx⟩ := hpx
    have hd : (nx != -1) = true := by simpa using hnx
    have HF : Hid (¬ PA) := Lib.hid (fun h => (HA.out.1 h).2.1 ⟨rfl, hnx⟩)
    clear hnx
    as_aux_lemma =>
      go_wp2_with fail
      go_ret
      exact ⟨.no HF.out, HE.out _ HB1.out⟩
  have HPX := Lib.hid hpx
  clear hpx
  go_upto_region 2 with fail
  go_cut [4] from 10 to 18 (fun s4 wx => s4 = .bool false ∧ wx = w1)
  case first =>
    cases pa with
    | false =>
      go_wp2_with fail
      go_meet
      exact ⟨rfl, rfl⟩
    | true =>
      have hnx : nx = -1 := by
        apply Classical.byContradiction
        intro h
        exact HPX.out ⟨rfl, h⟩
      subst hnx
      go_wp2_with fail
      go_meet
      exact ⟨rfl, rfl⟩
  case rest =>
    obtain ⟨rfl, rfl⟩ := hcut
    have HLW := Lib.hid (HLD.out _ HB1.out)
    by_cases hnb : num = 0 ∧ B = true
    · obtain ⟨rfl, rfl⟩ := hnb
      have HF : Hid (¬ PA) := Lib.hid (fun h => (HA.out.1 h).2.2.1 ⟨rfl, rfl⟩)
      go_wp2_with (first | refine list_load rfl _ rfl rfl HLW.out ?_ | refine list_loadw (by rfl) _ rfl rfl HLW.out ?_)
      refine (HR.out _).mono ?_
      rintro x w2 ⟨rfl, hb⟩
      have HB2 := Lib.hid (HB1.out.trans (hb.mono HB1.out.size))
      clear hb
      as_aux_lemma =>
        go_wp2_with fail
        go_ret
        exact ⟨.no HF.out, HE.out _ HB2.out⟩
    have HNB := Lib.hid hnb
    clear hnb
    go_upto_region 3 with fail
    go_cut [4] from 19 to 27 (fun s4 wx => s4 = .bool false ∧ Below W0.heap.size W0 wx)
    case first =>
      by_cases hn : num = 0
      · subst hn
        have hb : B = false := by
          cases B with
          | false => rfl
          | true => exact absurd ⟨rfl, rfl⟩ HNB.out
        subst hb
        go_wp2_with (first | refine list_load rfl _ rfl rfl HLW.out ?_ | refine list_loadw (by rfl) _ rfl rfl HLW.out ?_)
        refine (HR.out _).mono ?_
        rintro x w2 ⟨rfl, hb⟩
        have HB2 := Lib.hid (HB1.out.trans (hb.mono HB1.out.size))
        clear hb
        go_wp2_with fail
        go_meet
        exact ⟨rfl, HB2.out⟩
      · have h0 : (num == 0) = false := by simpa using hn
        clear hn
        go_wp2_with fail
        go_meet
        exact ⟨rfl, HB1.out⟩
    case rest =>
      obtain ⟨rfl, hb⟩ := hcut
      have HB2 := Lib.hid hb
      clear hb c10 c11 c12 c13 c15 HLW HB1 HR
      obtain ⟨c10, c11, c12, c13, c15⟩ := HC.out wc HB2.out
      by_cases htr : tr < 0
      · have hd : decide (tr < 0) = true := decide_eq_true htr
        have HF : Hid (¬ PA) := Lib.hid (fun h => (HA.out.1 h).2.2.2.1 (.inl htr))
        clear htr
        as_aux_lemma =>
          go_wp2_with fail
          go_ret
          exact ⟨.no HF.out, HE.out _ HB2.out⟩
      have hd : decide (tr < 0) = false := decide_eq_false htr
      by_cases hre : re < tr
      · have hd2 : decide (re < tr) = true := decide_eq_true hre
        have HF : Hid (¬ PA) := Lib.hid (fun h => (HA.out.1 h).2.2.2.1 (.inr hre))
        clear htr hre
        as_aux_lemma =>
          go_wp2_with fail
          go_ret
          exact ⟨.no HF.out, HE.out _ HB2.out⟩
      have hd2 : decide (re < tr) = false := decide_eq_false hre
      have HTR : Hid (¬ (tr < 0 ∨ re < tr)) := Lib.hid (fun h => h.elim htr hre)
      clear htr hre
      go_upto_region 5 with fail
      go_cut [4] from 44 to 50 (fun s4 wx => s4 = .bool (decide (m < ql)) ∧ Below W0.heap.size W0 wx)
      case first =>
       as_aux_lemma =>
        have hqv := HQV.out
        subst hqv
        have h5 := HFIT.out.1.2.2
        simp only at h5
        obtain ⟨a, b, c, d, e, rfl⟩ := list_five h5
        have hcs := HCSE.out
        have hcs : [.int .u32 n, .bool o, .int .u64 (U a), .int .u64 (U b), .int .u64 (U c), .int .u64 (U d), .int .u64 (U e), .int .i64 t, .int .i64 ov, .int .i64 ca, .int .i64 re, .bool pa, .int .i64 nx, .int .u64 num, .int .i64 due, .int .i64 tr, .slice Aq ql cq, .int .i64 now] = CS := hcs
        subst hcs
        have hBE := HB2.out
        have HCC : Hid (∀ W', Below W0.heap.size W0 W' → W'.cell? ⟨w.heap.size, 0, none⟩ = some (.int .u32 n) ∧ W'.cell? ⟨w.heap.size, 1, none⟩ = some (.bool o) ∧ W'.cell? ⟨w.heap.size, 2, none⟩ = some (.int .u64 (U a)) ∧ W'.cell? ⟨w.heap.size, 3, none⟩ = some (.int .u64 (U b)) ∧ W'.cell? ⟨w.heap.size, 4, none⟩ = some (.int .u64 (U c)) ∧ W'.cell? ⟨w.heap.size, 5, none⟩ = some (.int .u64 (U d)) ∧ W'.cell? ⟨w.heap.size, 6, none⟩ = some (.int .u64 (U e)) ∧ W'.cell? ⟨w.heap.size, 7, none⟩ = some (.int .i64 t) ∧ W'.cell? ⟨w.heap.size, 8, none⟩ = some (.int .i64 ov) ∧ W'.cell? ⟨w.heap.size, 9, none⟩ = some (.int .i64 ca) ∧ W'.cell? ⟨w.heap.size, 10, none⟩ = some (.int .i64 re) ∧ W'.cell? ⟨w.heap.size, 11, none⟩ = some (.bool pa) ∧ W'.cell? ⟨w.heap.size, 12, none⟩ = some (.int .i64 nx) ∧ W'.cell? ⟨w.heap.size, 13, none⟩ = some (.int .u64 num) ∧ W'.cell? ⟨w.heap.size, 14, none⟩ = some (.int .i64 due) ∧ W'.cell? ⟨w.heap.size, 15, none⟩ = some (.int .i64 tr) ∧ W'.cell? ⟨w.heap.size, 16, none⟩ = some (.slice Aq ql cq) ∧ W'.cell? ⟨w.heap.size, 17, none⟩ = some (.int .i64 now)) := Lib.hid (fun W' hb => box18 (HBX.out W' hb))
        clear HCSE HFIT HQV h5 hd hd2 c10 c11 c12 c13 c15
        go_region_held3 (fun W' => W'.cell? ⟨w.heap.size, 0, none⟩ = some (.int .u32 n) ∧ W'.cell? ⟨w.heap.size, 1, none⟩ = some (.bool o) ∧ W'.cell? ⟨w.heap.size, 2, none⟩ = some (.int .u64 (U a)) ∧ W'.cell? ⟨w.heap.size, 3, none⟩ = some (.int .u64 (U b)) ∧ W'.cell? ⟨w.heap.size, 4, none⟩ = some (.int .u64 (U c)) ∧ W'.cell? ⟨w.heap.size, 5, none⟩ = some (.int .u64 (U d)) ∧ W'.cell? ⟨w.heap.size, 6, none⟩ = some (.int .u64 (U e)) ∧ W'.cell? ⟨w.heap.size, 7, none⟩ = some (.int .i64 t) ∧ W'.cell? ⟨w.heap.size, 8, none⟩ = some (.int .i64 ov) ∧ W'.cell? ⟨w.heap.size, 9, none⟩ = some (.int .i64 ca) ∧ W'.cell? ⟨w.heap.size, 10, none⟩ = some (.int .i64 re) ∧ W'.cell? ⟨w.heap.size, 11, none⟩ = some (.bool pa) ∧ W'.cell? ⟨w.heap.size, 12, none⟩ = some (.int .i64 nx) ∧ W'.cell? ⟨w.heap.size, 13, none⟩ = some (.int .u64 num) ∧ W'.cell? ⟨w.heap.size, 14, none⟩ = some (.int .i64 due) ∧ W'.cell? ⟨w.heap.size, 15, none⟩ = some (.int .i64 tr) ∧ W'.cell? ⟨w.heap.size, 16, none⟩ = some (.slice Aq ql cq) ∧ W'.cell? ⟨w.heap.size, 17, none⟩ = some (.int .i64 now)) (first | exact HCC.out _ hBE | exact HCC.out _ hBE.drew) (first
          | (go_at_call 34
             (with_reducible first | refine (HRM.out _).mono ?_)
             rintro e wE ⟨rfl, hwE⟩
             replace hBE : Below W0.heap.size W0 wE := Below.trans (by first | exact hBE | exact hBE.drew) (hwE.mono (by first | exact hBE.size | exact hBE.drew.size))
             clear hwE))
        all_goals
          go_wp2_with fail
          go_meet
          exact ⟨by first | rfl | simp, by first | exact hBE | exact hBE.drew⟩
      case rest =>
       as_aux_lemma =>
        obtain ⟨rfl, hb⟩ := hcut
        have HB3 := Lib.hid hb
        clear hb c10 c11 c12 c13 c15 hd hd2 HRM HB2
        by_cases hql : m < ql
        · have HF : Hid (¬ PA) := Lib.hid (fun h => by have := (HA.out.1 h).2.2.2.2.1; omega)
          rw [decide_eq_true hql]
          clear hql
          go_wp2_with fail
          go_ret
          exact ⟨.no HF.out, HE.out _ HB3.out⟩
        have HQL : Hid (ql ≤ m) := Lib.hid (by omega)
        rw [decide_eq_false hql]
        clear hql
        have HTT := Lib.hid (HT.out (by have := HQL.out; have := HRL.out.1; omega) wc (HQ0.out.on HB3.out))
        have HLW := Lib.hid (HLD.out _ HB3.out)
        clear HT
        go_wp2_with (first | refine list_load rfl _ rfl rfl HLW.out ?_ | refine list_loadw (by rfl) _ rfl rfl HLW.out ?_)
        refine HTT.out.mono ?_
        rintro x w4 ⟨⟨y, rfl, hy⟩, hb⟩
        have HB4 := Lib.hid (HB3.out.trans (hb.mono HB3.out.size)); have HY := Lib.hid hy.qr
        clear hb hy HB3 HTT HLW
        have hll : L'.length ≤ 1000 := by have := HRL.out; have := HQL.out; omega
        go_wp2_with fail
        refine (rise_any y L' w4 HY.out hll).mono ?_
        rintro x w5 ⟨⟨R, rfl, hR⟩, d5, rfl⟩
        have HB5 := Lib.hid (bdrewN HB4.out d5); have HY5 := Lib.hid (HY.out.drewN d5); have HR5 := Lib.hid hR
        clear hR HB4 HY
        generalize w4.drewN d5 = w5 at *
        cases R with
        | false =>
          have HF : Hid (¬ PA) := Lib.hid (fun h => by have := HR5.out.2 (HA.out.1 h).2.2.2.2.2.1; cases this)
          go_wp2_with fail
          go_ret
          exact ⟨.no HF.out, HE.out _ HB5.out⟩
        | true =>
          have HC5 := Lib.hid (HCS.out y L' w5 (HL0.out.on HB5.out) HY5.out hll)
          have HLW := Lib.hid (HLD.out _ HB5.out)
          clear HCS
          go_wp2_with (first | refine list_load rfl _ rfl rfl HLW.out ?_ | refine list_loadw (by rfl) _ rfl rfl HLW.out ?_)
          refine HC5.out.mono ?_
          rintro x w6 ⟨⟨S, rfl, hS⟩, hb⟩
          have HB6 := Lib.hid (HB5.out.trans (hb.mono HB5.out.size)); have HS6 := Lib.hid hS
          clear hb hS
          cases S with
          | false =>
            have HF : Hid PA := Lib.hid (HA.out.2 ⟨by first | rfl | trivial, HPX.out, HNB.out, HTR.out, HQL.out, HR5.out.1 (by first | rfl | trivial), Classical.byContradiction fun h => by have := HS6.out.2 h; cases this⟩)
            go_wp2_with fail
            go_ret
            exact ⟨.yes HF.out, HE.out _ HB6.out⟩
          | true =>
            have HF : Hid (¬ PA) := Lib.hid (fun h => HS6.out.1 (by first | rfl | trivial) (HA.out.1 h).2.2.2.2.2.2)
            go_wp2_with fail
            go_ret
            exact ⟨.no HF.out, HE.out _ HB6.out⟩
end Go.Proofs.YthghcffibljclaaDoor
