/- Whether a table may be: walked. -/
import Derived.Test.YthngjbnbloboiaaGreatDoorKVCheckR
import Derived.WalkMore
namespace Go.Proofs.YthngjbnbloboiaaGreatDoor
open Go.RowKit

theorem qr_cell {w : World} {v : Value} {q : List Int} (h : QR w v q) : v.oneCell' = true := by
  obtain ⟨A, c, rfl, _⟩ := h
  rfl
/-- A row laid in a variable of its own. -/
theorem row_var (w : World) (r : RowZ) (v : Value) (hf : r.Fit) (hv : v.oneCell' = true) : ∃ W, StoreIs (w.alloc (.cells #[.int .u32 0, .bool false, .int .u64 0, .int .u64 0, .int .u64 0, .int .u64 0, .int .u64 0, .int .i64 0, .int .i64 0, .int .i64 0, .int .i64 0, .bool false, .int .i64 0, .int .u64 0, .int .i64 0, .int .i64 0, .slice none 0 0] 39)) 39 w.heap.size 0 (rowV r v) W ∧ D.Box W w.heap.size 39 (rowC r v).toArray ∧ Below w.heap.size w W ∧ W.heap.size = w.heap.size + 1 := by
  have hz : D.Box (w.alloc (.cells zeroC.toArray 39)) w.heap.size 39 zeroC.toArray := D.Box.new w 39 zeroC.toArray
  refine ⟨_, store_all hz (by rw [rowC_len hf]; rfl) (by rw [size_row, rowC_len hf]) (rowC_one hf hv), hz.setRow _, below_setRow (new_below w _) (Nat.le_refl _) _, by simp [World.setRow]⟩
set_option maxRecDepth 100000 in
set_option maxHeartbeats 4000000 in
theorem check_any (ev : List (BitVec 64) → Bool) (hev : EvIs ev) (A : Option Addr) (nn cc : Nat) (ms : List RowM) (w : World) (hL : LaidC w) (ht : TabR w A nn cc ms) :
    Calls Tryz.prog 16 #[.slice A nn cc] w fun e w' => ErrIs (RightT ev (ms.map (·.1))) e ∧ Below w.heap.size w w' := by
  have HI : Hid (RightT ev (ms.map (·.1)) ↔ nn ≤ 12 ∧ ∀ (k : Nat) (m : RowM), ms[k]? = some m → (∀ (i : Nat) (x : RowM), i < k → ms[i]? = some x → Ahead m.1 x.1) ∧ m.1.Right ev) := Lib.hid (by
    rw [table_iff, List.length_map, ht.len]
    constructor
    · rintro ⟨h1, h2⟩
      refine ⟨h1, fun k m hk => ?_⟩
      have h3 := h2 k m.1 (by rw [List.getElem?_map, hk]; rfl)
      exact ⟨fun i x hi hx => h3.1 i x.1 hi (by rw [List.getElem?_map, hx]; rfl), h3.2⟩
    · rintro ⟨h1, h2⟩
      refine ⟨h1, fun k r hk => ?_⟩
      rw [List.getElem?_map] at hk
      cases hm : ms[k]? with
      | none => rw [hm] at hk; cases hk
      | some m =>
        rw [hm] at hk
        cases hk
        refine ⟨fun i x hi hx => ?_, (h2 k m hm).2⟩
        rw [List.getElem?_map] at hx
        cases hy : ms[i]? with
        | none => rw [hy] at hx; cases hx
        | some y =>
          rw [hy] at hx
          cases hx
          exact (h2 k m hm).1 i y hi hy)
  have HCR := Lib.hid (fun r v W h1 h2 h3 => checkrow_any ev hev r v W h1 h2 h3)
  have HLN := Lib.hid ht.len
  have hcap := ht.cap
  have htop := ht.top
  unfold maxLen at htop
  generalize RightT ev (ms.map (·.1)) = PT at *
  have HT := Lib.hid ht; have HL := Lib.hid hL
  clear hL ht hev
  have HFIN : Hid ((¬ PT → ErrIs PT (.returned (.int .i64 210))) ∧ (PT → ErrIs PT (.returned (.int .i64 0)))) := Lib.hid ⟨fun h => .inr ⟨h, rfl⟩, fun h => .inl ⟨h, rfl⟩⟩
  go_enter Tryz.func16, Tryz.ntmps16
  by_cases hn : 12 < nn
  · have hF : Hid (¬ PT) := Lib.hid (fun h => by have := (HI.out.1 h).1; omega)
    have hn' : (12 : Int) < (nn : Int) := by omega
    go_wp2_with fail
    go_step3
    go_wp2_with fail
    rw [Exit.noGoto_ret]
    go_ret
    exact ⟨HFIN.out.1 hF.out, Below.refl _ _⟩
  have hn12 : nn ≤ 12 := by omega
  have hn' : ¬ (12 : Int) < (nn : Int) := by omega
  go_wp2_with fail
  go_step3
  go_wp2_with fail
  go_step3
  go_wp2_with fail
  clear hn hn' htop
  go_loopw [3, 14] (fun s3 i wr => ∃ k : Nat, k ≤ nn ∧ s3 = .int .i64 0 ∧ i = .int .i64 (k : Int) ∧ Hid (∀ (k' : Nat) (m : RowM), k' < k → ms[k']? = some m → (∀ (i : Nat) (x : RowM), i < k' → ms[i]? = some x → Ahead m.1 x.1) ∧ m.1.Right ev) ∧ Below w.heap.size w wr) (fun _ i _ => nn - (intOf i).toNat)
  case atStart => exact ⟨0, Nat.zero_le _, rfl, rfl, Lib.hid (fun k' m hk => absurd hk (by omega)), Below.refl _ _⟩
  case round =>
    obtain ⟨k, hk, rfl, rfl, HK, hb⟩ := hrel
    have HB := Lib.hid hb
    clear hb
    by_cases hlt : k < nn
    · obtain ⟨m, hm⟩ : ∃ m, ms[k]? = some m := ⟨_, List.getElem?_eq_getElem (by have := HLN.out; omega)⟩
      have htr := HT.out.on HB.out
      obtain ⟨bl, of, rfl, _⟩ := htr.rd.some_ (by rw [mflat_len htr.fit, htr.len]; omega)
      have hok := htr.ok m (List.mem_of_getElem? hm)
      have HLD := Lib.hid (tab_load htr hm)
      obtain ⟨W1, hs1, hx1, hb1, hz1⟩ := row_var wr m.1 m.2 hok.1 (qr_cell hok.2)
      have HS1 := Lib.hid hs1; have HX1 := Lib.hid hx1; have HB1 := Lib.hid (HB.out.trans (hb1.mono HB.out.size)); have HZ1 := Lib.hid hz1
      have HOK := Lib.hid hok; have HM := Lib.hid hm
      have hnum : W1.cell? ⟨wr.heap.size, 13, none⟩ = some (.int .u64 m.1.num) := by
        have := (cellsF_of hok.1 (row_range hx1)).num
        rwa [Nat.zero_add] at this
      clear htr hok hm hs1 hx1 hb1 hz1
      have g1 : (0 : Int) ≤ (k : Int) := by omega
      have g2 : (k : Int) < (nn : Int) := by omega
      go_wp2_with (first | refine list_load rfl _ rfl rfl HLD.out ?_ | refine list_store rfl _ _ rfl rfl rfl HS1.out ?_)
      refine (running_any m.1.num W1).mono ?_
      rintro x w2 ⟨rfl, hl2, hc2, hb⟩
      have HB2 := Lib.hid (HB1.out.trans (hb.mono HB1.out.size)); have HX2 := Lib.hid (D.Box.belowAll HX1.out hb); have HC2 := Lib.hid hc2; have HL2 := Lib.hid hl2
      have g3 : (k : Int) ≤ (cc : Int) := by omega
      clear hl2 hc2 hb hnum HS1 HLD HB1 HX1
      generalize W1.heap.size = gx at *
      have HGE := Lib.hid (D.Box.lt HX2.out)
      generalize wr.heap.size = ge at *
      go_wp2_with fail
      clear HB g3
      generalize hwe : wr = we at *
      clear hwe
      go_loopw [3, 27] (fun s3 j wr => ∃ i : Nat, i ≤ k ∧ s3 = .int .i64 0 ∧ j = .int .i64 (i : Int) ∧ Hid (∀ (i' : Nat) (x : RowM), i' < i → ms[i']? = some x → Ahead m.1 x.1) ∧ Below w2.heap.size w2 wr) (fun _ j _ => k - (intOf j).toNat)
      case atStart => exact ⟨0, Nat.zero_le _, rfl, rfl, Lib.hid (fun i' x hi => absurd hi (by omega)), Below.refl _ _⟩
      case round =>
        obtain ⟨i, hi, rfl, rfl, HA, hb⟩ := hrel
        have HBI := Lib.hid hb
        clear hb
        have HBW := Lib.hid (HB2.out.trans (HBI.out.mono HB2.out.size))
        by_cases hil : i < k
        · obtain ⟨x, hx⟩ : ∃ x, ms[i]? = some x := ⟨_, List.getElem?_eq_getElem (by have := HLN.out; omega)⟩
          have htr := HT.out.on HBW.out
          have hok := htr.ok x (List.mem_of_getElem? hx)
          have HLD := Lib.hid (tab_load htr hx)
          obtain ⟨W3, hs3, hx3, hb3, hz3⟩ := row_var wr x.1 x.2 hok.1 (qr_cell hok.2)
          have HS3 := Lib.hid hs3; have HB3 := Lib.hid (HBW.out.trans (hb3.mono HBW.out.size)); have HXX := Lib.hid hx
          have hb23 : Below w2.heap.size w2 W3 := HBI.out.trans (hb3.mono HBI.out.size)
          have HLX := Lib.hid (row_load hok.1 hx3)
          have cx : W3.cell? ⟨wr.heap.size, 0, none⟩ = some (.int .u32 x.1.j.n) := (cellsF_of hok.1 (row_range hx3)).n
          have cm : W3.cell? ⟨ge, 0, none⟩ = some (.int .u32 m.1.j.n) := (cellsF_of HOK.out.1 (row_range (D.Box.belowAll HX2.out hb23))).n
          have HRU := Lib.hid (running1_any x.1 x.2 gx m.1.num W3 hok.1 (Nat.lt_of_lt_of_le HL2.out hb23.size) ((hb23.cell (p := ⟨gx, 0, none⟩) HL2.out).trans HC2.out))
          have HB23 := Lib.hid hb23
          clear htr hok hx hs3 hx3 hb3 hz3 hb23
          have g4 : (0 : Int) ≤ (i : Int) := by omega
          have g5 : (i : Int) < (k : Int) := by omega
          by_cases hnm : m.1.j.n ≤ x.1.j.n
          · have hF : Hid (¬ PT) := Lib.hid (fun h => by
              have h1 := ((HI.out.1 h).2 k m HM.out).1 i x hil HXX.out
              have := h1.1
              omega)
            have hd : decide (m.1.j.n ≤ x.1.j.n) = true := decide_eq_true hnm
            clear hnm
            as_aux_lemma =>
              go_wp2_with (first | refine list_load rfl _ rfl rfl HLD.out ?_ | refine list_store rfl _ _ rfl rfl rfl HS3.out ?_)
              rw [Exit.noGoto_ret]
              go_ret
              exact ⟨HFIN.out.1 hF.out, HB3.out⟩
          · have hd : decide (m.1.j.n ≤ x.1.j.n) = false := decide_eq_false hnm
            have HNM := Lib.hid hnm
            clear hnm
            by_cases hru : x.1.num = m.1.num ∧ 0 < m.1.num
            · have hF : Hid (¬ PT) := Lib.hid (fun h => by
                have h1 := ((HI.out.1 h).2 k m HM.out).1 i x hil HXX.out
                exact h1.2 hru)
              rw [decide_eq_true hru] at HRU
              clear hru
              as_aux_lemma =>
                go_wp2_with (first | refine list_load rfl _ rfl rfl HLD.out ?_ | refine list_store rfl _ _ rfl rfl rfl HS3.out ?_ | refine list_loadw (by rfl) _ rfl rfl HLX.out ?_)
                refine HRU.out.mono ?_
                rintro y w4 ⟨rfl, hb⟩
                have HB4 := Lib.hid (HB3.out.trans (hb.mono HB3.out.size))
                clear hb cx cm
                go_wp2_with fail
                rw [Exit.noGoto_ret]
                go_ret
                exact ⟨HFIN.out.1 hF.out, HB4.out⟩
            · rw [decide_eq_false hru] at HRU
              have HAH : Hid (Ahead m.1 x.1) := Lib.hid ⟨by have := HNM.out; omega, hru⟩
              clear hru
              as_aux_lemma =>
                go_wp2_with (first | refine list_load rfl _ rfl rfl HLD.out ?_ | refine list_store rfl _ _ rfl rfl rfl HS3.out ?_ | refine list_loadw (by rfl) _ rfl rfl HLX.out ?_)
                refine HRU.out.mono ?_
                rintro y w4 ⟨rfl, hb⟩
                have HB4 := Lib.hid (HB23.out.trans (hb.mono HB23.out.size))
                clear hb cx cm
                go_wp2_with fail
                go_roundw
                case rel => exact ⟨i + 1, by omega, by go_num, by go_num, Lib.hid (fun i' x' hi' hx' => by
                  by_cases e : i' = i
                  · subst e
                    rw [HXX.out] at hx'; cases hx'
                    exact HAH.out
                  · exact HA.out i' x' (by omega) hx'), HB4.out⟩
                case measure => simp [intOf]; omega
        · have HLM := Lib.hid (row_load HOK.out.1 (D.Box.belowAll HX2.out HBI.out))
          have HCM := Lib.hid (HCR.out m.1 m.2 wr (HL.out.on HBW.out) HOK.out.1 (((HT.out.on HBW.out).ok m (List.mem_of_getElem? HM.out)).2))
          as_aux_lemma =>
            go_wp2_with (refine list_load rfl _ rfl rfl HLM.out ?_)
            refine HCM.out.mono ?_
            rintro y w4 ⟨⟨hr, rfl⟩ | ⟨hr, rfl⟩, hb⟩
            · have HB4 := Lib.hid (HBW.out.trans (hb.mono HBW.out.size)); have HR := Lib.hid hr
              clear hb hr
              go_wp2_with fail
              go_roundw
              case rel => exact ⟨k + 1, by omega, by go_num, by go_num, Lib.hid (fun k' m' hk' hm' => by
                by_cases e : k' = k
                · subst e
                  rw [HM.out] at hm'; cases hm'
                  exact ⟨fun i' x' hi' hx' => HA.out i' x' (by omega) hx', HR.out⟩
                · exact HK.out k' m' (by omega) hm'), HB4.out⟩
              case measure => simp [intOf]; omega
            · have HB4 := Lib.hid (HBW.out.trans (hb.mono HBW.out.size))
              have hF : Hid (¬ PT) := Lib.hid (fun h => hr ((HI.out.1 h).2 k m HM.out).2)
              clear hb hr
              go_wp2_with fail
              rw [Exit.noGoto_ret]
              go_ret
              exact ⟨HFIN.out.1 hF.out, HB4.out⟩
    · have hF : Hid PT := Lib.hid (HI.out.2 ⟨hn12, fun k' m' hm' => HK.out k' m' (by have := (List.getElem?_eq_some_iff.1 hm').1; have := HLN.out; omega) hm'⟩)
      go_wp2_with fail
      rw [Exit.noGoto_ret]
      go_ret
      exact ⟨HFIN.out.2 hF.out, HB.out⟩
end Go.Proofs.YthngjbnbloboiaaGreatDoor
