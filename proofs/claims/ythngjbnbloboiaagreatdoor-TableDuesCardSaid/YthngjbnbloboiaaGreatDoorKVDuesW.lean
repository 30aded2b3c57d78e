/- TableDues: the dues of a table, and its names: walked. -/
import Derived.Test.YthngjbnbloboiaaGreatDoorKVWakes
import Derived.Test.YthngjbnbloboiaaGreatDoorKVDuesL
import Derived.Test.YthngjbnbloboiaaGreatDoorKVOwnL2
namespace Go.Proofs.YthngjbnbloboiaaGreatDoor
open Go.RowKit

theorem T_range {ev : List (BitVec 64) → Bool} {j : JobZ} {t : Int} (h : j.err ev = 0) (ht : j.T t) : 0 ≤ t ∧ t ≤ 253402300799 := by
  obtain ⟨h1, _⟩ := err_ok h
  have h2 := (hold_iff.1 h1).1
  unfold JobZ.T at ht
  split at ht
  · rename_i ho
    rw [if_pos ho] at h2
    unfold maxT at h2
    omega
  · exact TC_times _ t ht
/-- Dues of one table, in order, are so strictly: no two are of one name. -/
theorem strict_of {ms : List RowM} {ds : List (Int × Int)} (hp : ds.Perm (liveM ms)) (hl : LeQ ds) (hn : (ms.map (·.1)).Pairwise (fun a b => a.j.n < b.j.n)) : SortQ ds := by
  have h1 : (liveM ms).Pairwise (fun a b => a.2 ≠ b.2) := by
    rw [live_is]
    unfold liveR
    refine List.pairwise_map.2 ((List.Pairwise.filter _ hn).imp ?_)
    intro a b hab e
    have : a.j.n = b.j.n := e
    omega
  have h2 : ds.Pairwise (fun a b => a.2 ≠ b.2) := (hp.pairwise_iff (fun h e => h e.symm)).2 h1
  refine (List.Pairwise.and hl h2).imp ?_
  rintro a b ⟨h1, h2⟩
  rw [befQ_not] at h1
  rw [befQ_iff]
  omega
set_option maxRecDepth 100000 in
set_option maxHeartbeats 4000000 in
theorem tdues_walk (A : Option Addr) (nn cc : Nat) (ms0 : List RowM) (w : World) (hL : LaidC w) (ht : TabR w A nn cc ms0) :
    Calls Tryz.prog 4 #[.slice A nn cc] w fun e w' => e = .returned (.bool true) ∧ Below w.heap.size w w' := by
  obtain ⟨ev, hev⟩ := ev_is
  have HWK := Lib.hid (fun W hW => wakes11_any ev hev W hW)
  have HOW := Lib.hid (fun W hW => lown_any A nn cc ms0 W hW)
  have HDU := Lib.hid (fun A n c (ms : List RowM) W hW ht => dues_any ev hev A n c ms W hW ht)
  have HNA := Lib.hid (fun A n c (ms : List RowM) W hW ht => names_any ev hev A n c ms W hW ht)
  have HCK := Lib.hid (fun A n c (ms : List RowM) W hW ht => check_any ev hev A n c ms W hW ht)
  have HFI := Lib.hid (fun (j : JobZ) s W hW hj => jfirst_any ev hev j s W hW hj)
  unfold TimeIs at HFI
  have HL := Lib.hid hL; have HT0 := Lib.hid ht
  clear hL ht hev
  go_enter Tryz.func4, Tryz.ntmps4
  go_wp2_with fail
  refine (HWK.out _ HL.out).mono ?_
  rintro e w1 ⟨rfl, hb⟩
  have HB1 := Lib.hid hb
  clear hb HWK
  go_wp2_with fail
  refine (HOW.out _ (HT0.out.on HB1.out)).mono ?_
  rintro e w2 ⟨⟨A', n, c, ms, rfl, ht, _, _⟩, hb⟩
  have HB2 := Lib.hid (HB1.out.trans (hb.mono HB1.out.size)); have HT2 := Lib.hid ht; have HLN := Lib.hid ht.len
  clear hb ht HOW HT0 HB1
  go_wp2_with fail
  refine (HDU.out _ _ _ _ _ (HL.out.on HB2.out) HT2.out).mono ?_
  rintro e w3 ⟨⟨v, ds, rfl, ho, hle, hcase⟩, hb⟩
  have HB3 := Lib.hid (HB2.out.trans (hb.mono HB2.out.size)); have HT3 := Lib.hid (HT2.out.on hb); have HO3 := Lib.hid ho; have HLE := Lib.hid hle; have HCS := Lib.hid hcase
  clear hb ho hle hcase HDU HT2 HB2
  go_wp2_with fail
  refine (HNA.out _ _ _ _ _ (HL.out.on HB3.out) HT3.out).mono ?_
  rintro e w4 ⟨⟨u, ns, rfl, hno, hncase⟩, hb⟩
  have HB4 := Lib.hid (HB3.out.trans (hb.mono HB3.out.size)); have HT4 := Lib.hid (HT3.out.on hb); have HO4 := Lib.hid (HO3.out.below hb); have HN4 := Lib.hid hno; have HNC := Lib.hid hncase
  clear hb hno hncase HNA HT3 HB3 HO3
  go_wp2_with fail
  refine (HCK.out _ _ _ _ _ (HL.out.on HB4.out) HT4.out).mono ?_
  rintro e w5 ⟨hck, hb⟩
  have HB5 := Lib.hid (HB4.out.trans (hb.mono HB4.out.size)); have HT5 := Lib.hid (HT4.out.on hb); have HO5 := Lib.hid (HO4.out.below hb); have HN5 := Lib.hid (own_below HN4.out hb)
  clear hb HCK HT4 HB4 HO4 HN4
  rcases hck with ⟨hp, rfl⟩ | ⟨hp, rfl⟩
  case inr =>
    obtain ⟨_, rfl⟩ : ¬ RightT ev (ms.map (·.1)) ∧ ds = [] := by
      rcases HCS.out with ⟨h, _⟩ | h
      · exact absurd h hp
      · exact h
    obtain ⟨_, rfl⟩ : ¬ RightT ev (ms.map (·.1)) ∧ ns = [] := by
      rcases HNC.out with ⟨h, _⟩ | h
      · exact absurd h hp
      · exact h
    obtain ⟨A1, c1, rfl⟩ := HO5.out.slice
    obtain ⟨A2, c2, rfl⟩ := own_slice0 HN5.out
    clear hp
    as_aux_lemma =>
      go_wp2_with fail
      go_ret
      exact ⟨by first | rfl | simp, HB5.out⟩
  have HP := Lib.hid hp
  have HPM : Hid (ds.Perm (liveM ms)) := Lib.hid (by
    rcases HCS.out with ⟨_, h⟩ | ⟨h, _⟩
    · exact h
    · exact absurd hp h)
  have HNS : Hid (ns = ms.map (fun m => m.1.j.n)) := Lib.hid (by
    rcases HNC.out with ⟨_, h⟩ | ⟨h, _⟩
    · exact h
    · exact absurd hp h)
  have HSQ := Lib.hid (strict_of HPM.out HLE.out hp.names)
  have hn12 : n ≤ 12 := by have := hp.most; rw [List.length_map, HLN.out] at this; exact this
  have hdl : ds.length ≤ 12 := by rw [HPM.out.length_eq]; exact Nat.le_trans (live_len _) (by rw [HLN.out]; exact hn12)
  have HDL := Lib.hid hdl
  have HMANY : Hid (∀ k, (liveM (ms.take k)).length ≤ 12) := Lib.hid (fun k => Nat.le_trans (live_len _) (by rw [List.length_take, HLN.out]; omega))
  clear hp hdl HCS HNC HLE
  go_wp2_with fail
  go_loopw [5, 31] (fun s5 i wr => ∃ k : Nat, k ≤ n ∧ s5 = .int .i64 ((liveM (ms.take k)).length : Int) ∧ i = .int .i64 (k : Int) ∧ Below w5.heap.size w5 wr) (fun _ i _ => n - (intOf i).toNat)
  case atStart => exact ⟨0, Nat.zero_le _, rfl, rfl, Below.refl _ _⟩
  case round =>
    obtain ⟨k, hk, rfl, rfl, hb⟩ := hrel
    have HB := Lib.hid (HB5.out.trans (hb.mono HB5.out.size)); have HBL := Lib.hid hb
    clear hb
    by_cases hlt : k < n
    · obtain ⟨m, hm⟩ : ∃ m, ms[k]? = some m := ⟨_, List.getElem?_eq_getElem (by have := HLN.out; omega)⟩
      have htr := HT5.out.on HBL.out
      obtain ⟨bl, of, rfl, _⟩ := htr.rd.some_ (by rw [mflat_len htr.fit, htr.len]; omega)
      have hmm := List.mem_of_getElem? hm
      have hok := htr.ok m hmm
      have HLD := Lib.hid (tab_load htr hm)
      obtain ⟨W1, hs1, hx1, hb1, hz1'⟩ := row_var wr m.1 m.2 hok.1 (qr_cell hok.2)
      have HS1 := Lib.hid hs1; have HX1 := Lib.hid hx1; have HB1' := Lib.hid (HB.out.trans (hb1.mono HB.out.size)); have HBL1 := Lib.hid (HBL.out.trans (hb1.mono HBL.out.size))
      have hcf := cellsF_of hok.1 (row_range hx1)
      have c0 := hcf.n; have c12 := hcf.nx
      rw [Nat.zero_add] at c12
      have hnm : IntKind.u64.wrap m.1.j.n = m.1.j.n := by rw [IntKind.wrap_u64]; have := hok.1.1.1; have := hok.1.1.2.1; omega
      have hlt' := live_take hm
      have HFT := Lib.hid hok.1
      have hrr := HP.out.rows m.1 (List.mem_map_of_mem hmm)
      have HRR := Lib.hid hrr; have HMM := Lib.hid hmm
      have g1 : (0 : Int) ≤ (k : Int) := by omega
      have g2 : (k : Int) < (n : Int) := by omega
      clear htr hok hm hs1 hx1 hb1 hz1' hcf hrr hmm
      by_cases hnx : m.1.nx = -1
      · rw [if_pos hnx, List.append_nil] at hlt'
        rw [hnx] at c12
        have HLT := Lib.hid hlt'
        clear hnx hlt' HX1
        as_aux_lemma =>
          go_wp2_with (first | refine list_load rfl _ rfl rfl HLD.out ?_ | refine list_store rfl _ _ rfl rfl rfl HS1.out ?_)
          go_roundw
          case rel => exact ⟨k + 1, by omega, by rw [HLT.out], by go_num, HBL1.out⟩
          case measure => simp [intOf]; omega
      · rw [if_neg hnx] at hlt'
        have hd : (m.1.nx == -1) = false := by simpa using hnx
        have HLT := Lib.hid hlt'
        have HTN : Hid (m.1.j.T m.1.nx) := Lib.hid (HRR.out.times _ (by
          unfold RowZ.line
          rw [if_neg hnx]
          exact List.mem_append_right _ (List.mem_singleton.2 rfl)))
        obtain ⟨t0, t1⟩ := T_range HRR.out.job HTN.out
        have hws : IntKind.i64.wrap (m.1.nx - 1) = m.1.nx - 1 := by rw [IntKind.wrap_i64]; omega
        have HMEM : Hid (dueM m ∈ ds) := Lib.hid (HPM.out.mem_iff.2 (by
          unfold liveM
          exact List.mem_map_of_mem (List.mem_filter.2 ⟨HMM.out, by simpa using hnx⟩)))
        have HCO := Lib.hid (contains_due v ds (dueM m) _ W1 (HO5.out.below HBL1.out) (by have := HDL.out; omega) HMEM.out)
        have hdv : dueV (dueM m) = .agg #[.int .i64 m.1.nx, .int .u64 m.1.j.n] := rfl
        rw [hdv] at HCO
        have HLJ1 := Lib.hid (fun W (hb : Below W1.heap.size W1 W) => row_job HFT.out (D.Box.belowAll HX1.out hb))
        have HCN := Lib.hid (fun W (hb : Below W1.heap.size W1 W) => (hb.cell (p := ⟨wr.heap.size, 12, none⟩) (D.Box.lt HX1.out)).trans c12)
        have hml := HMANY.out (k + 1)
        rw [hlt', List.length_append, List.length_singleton] at hml
        have hwm : IntKind.i64.wrap (((liveM (ms.take k)).length : Int) + 1) = ((liveM (ms.take k)).length : Int) + 1 := by rw [IntKind.wrap_i64]; omega
        clear hnx hlt' hdv t0 t1 hml
        go_wp2_with (first | refine list_load rfl _ rfl rfl HLD.out ?_ | refine list_store rfl _ _ rfl rfl rfl HS1.out ?_)
        refine HCO.out.mono ?_
        rintro e w7 ⟨rfl, hb⟩
        have HB7 := Lib.hid hb
        have HLJ7 := Lib.hid (HLJ1.out w7 hb)
        have d12 := HCN.out w7 hb
        have HFJ := Lib.hid (HFI.out m.1.j (m.1.nx - 1) w7 (HL.out.on (HB1'.out.trans (hb.mono HB1'.out.size))) HFT.out.1)
        clear hb HCO HLJ1 c0 c12
        go_wp2_with (refine list_load rfl _ rfl rfl HLJ7.out ?_)
        refine HFJ.out.mono ?_
        rintro e w8 ⟨⟨t, ok, rfl, hf⟩, hb⟩
        have hft : FirstT (m.1.j.TT ev) (m.1.nx - 1) m.1.nx true := by rw [TT_ok HRR.out.job]; exact first_of HTN.out
        obtain ⟨rfl, rfl⟩ := firstT_one hft hf
        have HB8 := Lib.hid (HB7.out.trans (hb.mono HB7.out.size))
        have e12 := HCN.out w8 HB8.out
        have HBF := Lib.hid (HBL1.out.trans (HB8.out.mono HBL1.out.size))
        clear hb hf hft HFJ HLJ7 HCN d12
        as_aux_lemma =>
          go_wp2_with fail
          go_roundw
          case rel => exact ⟨k + 1, by omega, by rw [HLT.out, List.length_append, List.length_singleton]; go_num, by go_num, HBF.out⟩
          case measure => simp [intOf]; omega
    · have hkn : k = n := by omega
      have HMN : Hid ((liveM (ms.take k)).length = ds.length) := Lib.hid (by rw [HPM.out.length_eq, List.take_of_length_le (by have := HLN.out; omega)])
      rw [HMN.out]
      have HNL : Hid (ns.length = n) := Lib.hid (by rw [HNS.out, List.length_map]; exact HLN.out)
      have HSN := Lib.hid (fun W (hb : Below w5.heap.size w5 W) => sorted_names u ns _ W (own_below HN5.out hb) (by have := HNL.out; omega) (by
        have h := List.pairwise_map.1 HP.out.names
        rw [HNS.out]
        exact List.pairwise_map.2 h))
      obtain ⟨A2, c2, rfl⟩ := own_slice0 HN5.out
      obtain ⟨A1, c1, rfl, hcap, hat⟩ := own_dues HO5.out
      have HAT := Lib.hid hat
      have hdl := HDL.out
      clear hat
      obtain ⟨nd, hnd⟩ : ∃ nd, ds.length = nd := ⟨_, rfl⟩
      rw [hnd] at hcap hdl ⊢
      have HND := Lib.hid hnd
      rw [HNL.out] at HSN ⊢
      clear hnd
      go_wp2_with fail
      generalize hwe : wr = we at *
      clear hwe
      go_loopw [70] (fun i wr => ∃ j : Nat, j ≤ nd ∧ i = .int .i64 (j : Int) ∧ Below w5.heap.size w5 wr) (fun i _ => nd - (intOf i).toNat)
      case atStart => exact ⟨0, Nat.zero_le _, rfl, HBL.out⟩
      case round =>
        obtain ⟨j, hj, rfl, hb⟩ := hrel
        have HBJ := Lib.hid hb
        clear hb
        by_cases hjl : j < nd
        · obtain ⟨d, hd⟩ : ∃ d, ds[j]? = some d := ⟨_, List.getElem?_eq_getElem (by have := HND.out; omega)⟩
          obtain ⟨b, rfl, hbl, c0, c1'⟩ := HAT.out j d hd
          have e0 := (HBJ.out.cell (p := ⟨b, j * 2, none⟩) hbl).trans c0
          have e1 := (HBJ.out.cell (p := ⟨b, j * 2 + 1, none⟩) hbl).trans c1'
          have g1 : (0 : Int) ≤ (j : Int) := by omega
          have g2 : (j : Int) < (nd : Int) := by omega
          obtain ⟨d0, d1⟩ := d
          simp only at e0 e1
          have HDJ := Lib.hid hd; have HBL2 := Lib.hid hbl
          clear hd c0 c1' hbl
          have HX3 := Lib.hid (D.Box.new wr 55 #[.int .i64 d0, .int .u64 d1]); have HB3 := Lib.hid (new_below wr (.cells #[.int .i64 d0, .int .u64 d1] 55))
          go_upto_region 22 with fail
          generalize wr.alloc (.cells #[.int .i64 d0, .int .u64 d1] 55) = w3 at *
          obtain ⟨x0, x1, _, _⟩ := box_two HX3.out
          have HB4 := Lib.hid (HBJ.out.trans (HB3.out.mono HBJ.out.size))
          cases j with
          | zero =>
            have q0 : decide ((0 : Int) < (0 : Int)) = false := by decide
            clear e0 e1 x0 x1
            as_aux_lemma =>
              go_quiet (fail)
              go_wp2_with fail
              go_roundw
              case rel => exact ⟨1, by omega, by go_num, bdrewN HB4.out _⟩
              case measure => simp [intOf]; omega
          | succ j =>
            obtain ⟨p, hp⟩ : ∃ p, ds[j]? = some p := ⟨_, List.getElem?_eq_getElem (by have := HND.out; omega)⟩
            obtain ⟨b2, e2, hbl2, p0', p1'⟩ := HAT.out j p hp
            cases e2
            have p0 := (HB4.out.cell (p := ⟨b, j * 2, none⟩) hbl2).trans p0'
            have p1 := (HB4.out.cell (p := ⟨b, j * 2 + 1, none⟩) hbl2).trans p1'
            have hst := List.pairwise_iff_getElem.1 HSQ.out j (j + 1) (List.getElem?_eq_some_iff.1 hp).1 (List.getElem?_eq_some_iff.1 HDJ.out).1 (by omega)
            rw [(List.getElem?_eq_some_iff.1 hp).2, (List.getElem?_eq_some_iff.1 HDJ.out).2, befQ_iff] at hst
            obtain ⟨p00, p11⟩ := p
            simp only at p0 p1 hst
            have q0 : decide ((0 : Int) < (j : Int) + 1) = true := decide_eq_true (by omega)
            have w1 : IntKind.i64.wrap ((j : Int) + 1 - 1) = (j : Int) := by rw [IntKind.wrap_i64]; omega
            have w2 : IntKind.i64.wrap (j : Int) = (j : Int) := by rw [IntKind.wrap_i64]; omega
            have i0 : (0 : Int) ≤ (j : Int) := by omega
            have i1 : (j : Int) < (nd : Int) := by omega
            clear hp p0' p1' hbl2 e0 e1
            rcases hst with hst | ⟨hst, hst2⟩
            · have k1 : decide (d0 < p00) = false := decide_eq_false (by omega)
              have k2 : (p00 == d0) = false := by simp; omega
              clear hst
              as_aux_lemma =>
                go_quiet (fail)
                go_wp2_with fail
                go_roundw
                case rel => exact ⟨j + 2, by omega, by go_num, bdrewN HB4.out _⟩
                case measure => simp [intOf]; omega
            · subst hst
              have k1 : decide (p00 < p00) = false := decide_eq_false (by omega)
              have k3 : decide (d1 ≤ p11) = false := decide_eq_false (by omega)
              clear hst2
              as_aux_lemma =>
                go_quiet (fail)
                go_wp2_with fail
                go_roundw
                case rel => exact ⟨j + 2, by omega, by go_num, bdrewN HB4.out _⟩
                case measure => simp [intOf]; omega
        · have HB9 := Lib.hid (HB5.out.trans (HBJ.out.mono HB5.out.size))
          have HSS := Lib.hid (HSN.out _ HBJ.out)
          go_wp2_with fail
          refine HSS.out.mono ?_
          rintro e w9 ⟨rfl, hb⟩
          have HBF := Lib.hid (HB9.out.trans (hb.mono HB9.out.size))
          clear hb
          go_wp2_with fail
          go_ret
          exact ⟨by first | rfl | simp, HBF.out⟩
end Go.Proofs.YthngjbnbloboiaaGreatDoor
