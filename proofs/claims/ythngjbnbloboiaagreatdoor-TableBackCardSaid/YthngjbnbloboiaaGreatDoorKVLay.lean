/- A copy of rows: those ahead, those between, those behind: walked. -/
import Derived.Test.YthngjbnbloboiaaGreatDoorKVOwn
namespace Go.Proofs.YthngjbnbloboiaaGreatDoor
open Go.RowKit

/-- Times that can be read, none of them in block g. -/
def QRN (g : Nat) (w : World) (v : Value) (q : List Int) : Prop := ∃ A c, v = .slice A q.length c ∧ q.length ≤ c ∧ c ≤ maxLen ∧ (A = none → c = 0) ∧ ∀ j u, (q.map int1)[j]? = some u → ∃ b o, A = some ⟨b, o, none⟩ ∧ b < w.heap.size ∧ b ≠ g ∧ w.cell? ⟨b, o + j, none⟩ = some u
theorem QRN.qr {g : Nat} {w : World} {v : Value} {q : List Int} (h : QRN g w v q) : QR w v q := by
  obtain ⟨A, c, e, h1, h2, h3, h4⟩ := h
  exact ⟨A, c, e, h1, h2, h3, fun j u hj => by obtain ⟨b, o, e, hl, _, hc⟩ := h4 j u hj; exact ⟨b, o, e, hl, hc⟩⟩
theorem QRN.on {g : Nat} {w w' : World} {v : Value} {q : List Int} (h : QRN g w v q) (hb : Below w.heap.size w w') : QRN g w' v q := by
  obtain ⟨A, c, e, h1, h2, h3, h4⟩ := h
  exact ⟨A, c, e, h1, h2, h3, fun j u hj => by obtain ⟨b, o, e, hl, hn, hc⟩ := h4 j u hj; exact ⟨b, o, e, Nat.lt_of_lt_of_le hl hb.size, hn, (hb.cell (p := ⟨b, o + j, none⟩) hl).trans hc⟩⟩
theorem QRN.row {g : Nat} {w : World} {v : Value} {q : List Int} (h : QRN g w v q) (cs : Array Value) : QRN g (w.setRow g cs) v q := by
  obtain ⟨A, c, e, h1, h2, h3, h4⟩ := h
  exact ⟨A, c, e, h1, h2, h3, fun j u hj => by
    obtain ⟨b, o, e, hl, hn, hc⟩ := h4 j u hj
    exact ⟨b, o, e, by simpa [World.setRow] using hl, hn, (World.cell?_of_block (setRow_other w g b cs (Ne.symm (Ne.symm hn)))).trans hc⟩⟩
theorem QR.apart {g : Nat} {w : World} {v : Value} {q : List Int} (h : QR w v q) (hg : w.heap.size ≤ g) : QRN g w v q := by
  obtain ⟨A, c, e, h1, h2, h3, h4⟩ := h
  exact ⟨A, c, e, h1, h2, h3, fun j u hj => by obtain ⟨b, o, e, hl, hc⟩ := h4 j u hj; exact ⟨b, o, e, hl, by omega, hc⟩⟩
theorem OwnT.apart {w : World} {base g : Nat} {v : Value} {l : List Int} (h : OwnT w base v l) (hg : g < base) : QRN g w v l := by
  have h0 := h
  rcases h.2 with ⟨rfl, hn⟩ | ⟨b, cap, cur, rfl, hb, hh, hn, hm, hs, ht⟩
  · obtain rfl : l = [] := List.length_eq_zero_iff.1 hn
    exact ⟨none, 0, rfl, by simp, by decide, fun _ => rfl, fun j u hj => by simp at hj⟩
  · refine ⟨_, cap, rfl, hn, hm, fun h => by (cases h), fun j u hj => ⟨b, 0, rfl, (Array.getElem?_eq_some_iff.1 hh).1, by omega, ?_⟩⟩
    have hjl := (List.getElem?_eq_some_iff.1 hj).1
    rw [List.length_map] at hjl
    rw [Nat.zero_add, World.ownsRow.cellAt h0 j (by omega)]
    exact hj
def RowOkN (g : Nat) (w : World) (m : RowM) : Prop := m.1.Fit ∧ QRN g w m.2 m.1.q
theorem RowOkN.ok {g : Nat} {w : World} {m : RowM} (h : RowOkN g w m) : RowOk w m := ⟨h.1, h.2.qr⟩
/-- A table of one's own, in block g. -/
structure OwnTab (w : World) (g n : Nat) (ms : List RowM) : Prop where
  len : ms.length = n
  top : n ≤ maxLen
  box : D.Box w g 39 (ms.flatMap rowM).toArray
  ok : ∀ m ∈ ms, RowOkN g w m
theorem OwnTab.fit {w : World} {g n : Nat} {ms : List RowM} (h : OwnTab w g n ms) : ∀ m ∈ ms, m.1.Fit := fun m hm => (h.ok m hm).1
theorem OwnTab.on {w w' : World} {g n : Nat} {ms : List RowM} (h : OwnTab w g n ms) (hb : Below w.heap.size w w') : OwnTab w' g n ms :=
  ⟨h.len, h.top, D.Box.belowAll h.box hb, fun m hm => ⟨(h.ok m hm).1, (h.ok m hm).2.on hb⟩⟩
theorem OwnTab.tab {w : World} {g n : Nat} {ms : List RowM} (h : OwnTab w g n ms) : TabR w (some ⟨g, 0, none⟩) n n ms :=
  ⟨h.len, Nat.le_refl _, h.top, fun e => by (cases e), fun j u hj => ⟨g, 0, rfl, D.Box.lt h.box, by rw [Nat.zero_add, D.Box.cell h.box j, List.getElem?_toArray]; exact hj⟩, fun m hm => (h.ok m hm).ok⟩
theorem OwnTab.load {w : World} {g n : Nat} {ms : List RowM} (h : OwnTab w g n ms) {k : Nat} {m : RowM} (hk : ms[k]? = some m) : LoadIs w 39 g (k * 17) (rowV m.1 m.2) := by
  have := tab_load h.tab hk
  rwa [Nat.zero_add] at this
theorem rowflat_set : ∀ {ms : List RowM}, (∀ m ∈ ms, m.1.Fit) → ∀ (k : Nat) (m : RowM), k < ms.length → (ms.flatMap rowM).take (k * 17) ++ rowM m ++ (ms.flatMap rowM).drop (k * 17 + 17) = (ms.set k m).flatMap rowM
  | [], _, k, m, hk => by simp at hk
  | x :: ms, h, k, m, hk => by
    have hl : (rowM x).length = 17 := rowC_len (h x List.mem_cons_self) _
    cases k with
    | zero => simp [List.flatMap_cons, hl]
    | succ k =>
      have ih := rowflat_set (fun y hy => h y (List.mem_cons_of_mem _ hy)) k m (by simpa using hk)
      have h1 : ((x :: ms).flatMap rowM).take ((k + 1) * 17) = rowM x ++ (ms.flatMap rowM).take (k * 17) := by
        rw [List.flatMap_cons, List.take_append, List.take_of_length_le (by omega), hl, show (k + 1) * 17 - 17 = k * 17 by omega]
      have h2 : ((x :: ms).flatMap rowM).drop ((k + 1) * 17 + 17) = (ms.flatMap rowM).drop (k * 17 + 17) := by
        rw [List.flatMap_cons, List.drop_append, List.drop_of_length_le (by omega), hl, show (k + 1) * 17 + 17 - 17 = k * 17 + 17 by omega, List.nil_append]
      rw [h1, h2, List.set_cons_succ, List.flatMap_cons, ← ih]
      simp [List.append_assoc]
theorem qr_oneN {g : Nat} {w : World} {v : Value} {q : List Int} (h : QRN g w v q) : v.oneCell' = true := by
  obtain ⟨A, c, rfl, _⟩ := h
  rfl
theorem OwnTab.put {w : World} {g n : Nat} {ms : List RowM} (h : OwnTab w g n ms) {k : Nat} (hk : k < n) {r : RowZ} {v : Value} (hf : r.Fit) (hq : QRN g w v r.q) : ∃ w', StoreIs w 39 g (k * 17) (rowV r v) w' ∧ OwnTab w' g n (ms.set k (r, v)) ∧ (∀ B, B ≤ g → Below B w w') := by
  have hl := rowC_len hf v
  have hfl := mflat_len h.fit
  have hs := store_at (o := k * 17) (vs := rowC r v) h.box (by rw [hl, List.size_toArray, hfl, h.len]; omega) (by rw [size_row, hl]) (rowC_one hf (qr_oneN hq))
  rw [List.toList_toArray, hl] at hs
  have hfs := rowflat_set h.fit k (r, v) (by rw [h.len]; exact hk)
  unfold rowM at hfs
  unfold rowM at hs
  rw [hfs] at hs
  refine ⟨_, hs, ⟨by rw [List.length_set]; exact h.len, h.top, h.box.setRow _, fun m hm => ?_⟩, fun B hB => below_setRow (Below.refl _ _) hB _⟩
  rcases List.mem_or_eq_of_mem_set hm with hm | rfl
  · exact ⟨(h.ok m hm).1, (h.ok m hm).2.row _⟩
  · exact ⟨hf, hq.row _⟩
theorem own_tab {w : World} {base g n : Nat} {ms : List RowM} (h : w.ownsRow base 39 17 (.slice (some ⟨g, 0, none⟩) n n) n (ms.flatMap rowM)) (hl : ms.length = n) (ht : n ≤ maxLen) (hok : ∀ m ∈ ms, RowOkN g w m) : OwnTab w g n ms := by
  refine ⟨hl, ht, ?_, hok⟩
  rcases h.2 with ⟨hv, _⟩ | ⟨g', cap, cur, hv, hg, hh, hn, hmm, hs, htk⟩
  · cases hv
  · simp only [Value.slice.injEq, Option.some.injEq, Addr.mk.injEq, and_true, true_and] at hv
    obtain ⟨rfl, rfl⟩ := hv
    rw [List.take_of_length_le (by rw [Array.length_toList, hs]; omega)] at htk
    unfold D.Box
    rw [hh, ← htk]
/-- What comes: this table. -/
def TabIs (l : List RowZ) (e : Ending) (w : World) : Prop := ∃ A n c ms, e = .returned (.slice A n c) ∧ TabR w A n c ms ∧ ms.map (·.1) = l
set_option maxRecDepth 100000 in
set_option maxHeartbeats 4000000 in
theorem lay_any (A1 A2 A3 : Option Addr) (n1 n2 n3 c1 c2 c3 : Nat) (ms1 ms2 ms3 : List RowM) (w : World) (h1 : TabR w A1 n1 c1 ms1) (h2 : TabR w A2 n2 c2 ms2) (h3 : TabR w A3 n3 c3 ms3) (hn : n1 + n3 + n2 ≤ 100) (hq : ∀ m ∈ ms1 ++ ms3 ++ ms2, m.1.q.length ≤ 100) :
    Calls Tryz.prog 26 #[.slice A1 n1 c1, .slice A2 n2 c2, .slice A3 n3 c3] w fun e w' => TabIs ((ms1 ++ ms3 ++ ms2).map (·.1)) e w' ∧ Below w.heap.size w w' := by
  obtain ⟨i0, hi, hz0, hz1, hz2⟩ := info_parts info_row
  have HF1 : Hid (Full w w.heap.size (.slice A1 n1 n1) n1 (ms1.flatMap rowM)) := Lib.hid (.inl ⟨A1, rfl, Nat.le_trans h1.cap h1.top, fun e => by have := h1.non e; have := h1.cap; omega, by rw [mflat_len h1.fit, h1.len], h1.rd⟩)
  have HL1 := Lib.hid (mflat_len (ms := ms1 ++ ms3 ++ ms2) (fun m hm => by
    rcases List.mem_append.1 hm with hm | hm
    · rcases List.mem_append.1 hm with hm | hm
      · exact h1.fit m hm
      · exact h3.fit m hm
    · exact h2.fit m hm))
  have HOK : Hid (∀ m ∈ ms1 ++ ms3 ++ ms2, RowOk w m) := Lib.hid (fun m hm => by
    rcases List.mem_append.1 hm with hm | hm
    · rcases List.mem_append.1 hm with hm | hm
      · exact h1.ok m hm
      · exact h3.ok m hm
    · exact h2.ok m hm)
  have HLN : Hid ((ms1 ++ ms3 ++ ms2).length = n1 + n3 + n2) := Lib.hid (by rw [List.length_append, List.length_append, h1.len, h2.len, h3.len])
  have hcat : ms1.flatMap rowM ++ ms3.flatMap rowM ++ ms2.flatMap rowM = (ms1 ++ ms3 ++ ms2).flatMap rowM := by rw [List.flatMap_append, List.flatMap_append]
  have H2 := Lib.hid h2; have H3 := Lib.hid h3; have HQ := Lib.hid hq; have HN := Lib.hid hn
  have hcap1 := h1.cap
  have htop1 := h1.top
  unfold maxLen at htop1
  have HCAT := Lib.hid hcat
  generalize hMS : ms1 ++ ms3 ++ ms2 = ms at *
  clear h1 h2 h3 hq hcat hMS
  obtain ⟨l, hl⟩ : ∃ l, ms.map (·.1) = l := ⟨_, rfl⟩
  rw [hl]
  have HLE := Lib.hid hl
  have HQL : Hid (∀ r ∈ l, r.q.length ≤ 100) := Lib.hid (fun r hr => by
    rw [← HLE.out] at hr
    obtain ⟨m, hm, rfl⟩ := List.mem_map.1 hr
    exact HQ.out m hm)
  clear hl
  go_enter Tryz.func26, Tryz.ntmps26
  go_upto_region 2 with (at_builtin; first
    | (refine list_rows rfl _ _ rfl rfl rfl HF1.out H3.out.non H3.out.cap (by rw [mflat_len H3.out.fit, H3.out.len]) H3.out.rd (mflat_one H3.out.ok) (Nat.le_refl _) (by have := HN.out; omega) w (Below.refl _ _) ?_; intro v1 w1 hf1 hb1; have HFA := Lib.hid hf1; have HBA := Lib.hid hb1; clear hf1 hb1)
    | (refine list_rows rfl _ _ rfl rfl rfl HFA.out H2.out.non H2.out.cap (by rw [mflat_len H2.out.fit, H2.out.len]) (H2.out.rd.on HBA.out) (mflat_one H2.out.ok) HBA.out.size (by have := HN.out; omega) w HBA.out ?_; intro v2 w2 hf2 hb2; have HFB := Lib.hid hf2; have HBB := Lib.hid hb2; clear hf2 hb2))
  obtain ⟨A, c, rfl, hnc, hct, hnon, hcl, hrd⟩ := HFB.out.reads
  rw [HCAT.out] at hcl hrd
  generalize n1 + n3 + n2 = N at *
  have HRD := Lib.hid hrd; have HCL := Lib.hid hcl; have HNON : Hid (A = none → N = 0) := Lib.hid (fun e => by have := hnon e; omega)
  have htop2 : N ≤ 100 := hn
  unfold maxLen at hct
  have HON1 := Lib.hid (mflat_one HOK.out)
  clear HF1 HFA HBA HFB H2 H3 HCAT hrd hcl hnon hcap1 htop1 hn
  generalize hCS : ms.flatMap rowM = CS at *
  have HCS := Lib.hid hCS
  clear hCS
  go_upto_region 4 with (first
    | (at_make; refine wpList_make_full _ rfl _ _ 22 rfl w.heap.size 39 i0 _ 17 Tryz.underlying22 hi hz0 hz1 _ _ _ _ N rfl rfl rfl rfl (by rw [hz2]; omega) (by unfold maxLen; omega) HBB.out.size ?_; intro w3 ho3 hg3; have HO3 := Lib.hid ho3; have HB3 := Lib.hid (HBB.out.grown hg3 HBB.out.size (fun k e => by cases e)); have HRD3 := Lib.hid (HRD.out.on ((Below.refl w2.heap.size w2).grown hg3 (Nat.le_refl _) (fun k e => by cases e))); clear ho3 hg3)
    | (refine list_copy rfl _ _ rfl rfl rfl HO3.out HNON.out rfl HCL.out HRD3.out HON1.out ?_; intro y4 w4 ho4 hg4; have HO4 := Lib.hid ho4; have HB4 := Lib.hid (HB3.out.grown hg4 HB3.out.size (fun k e => by cases e; exact HBB.out.size)); clear ho4 hg4))
  have HG := Lib.hid HBB.out.size
  generalize w2.heap.size = g at *
  have HT4 : Hid (OwnTab w4 g N ms) := Lib.hid (own_tab (by rw [HCS.out]; exact HO4.out) HLN.out (by unfold maxLen; omega) (fun m hm => ⟨(HOK.out m hm).1, (((HOK.out m hm).2).apart HG.out).on HB4.out⟩))
  clear HO3 HB3 HRD3 HRD HBB HO4 HCL HNON HON1 HOK HQ HL1 HLN HCS hz0 hz1 hz2 hi
  go_wp2_with fail
  go_loopw [28] (fun i wr => ∃ (k : Nat) (ms' : List RowM), k ≤ N ∧ i = .int .i64 (k : Int) ∧ Hid (ms'.map (·.1) = l) ∧ Hid (OwnTab wr g N ms') ∧ Below w.heap.size w wr) (fun i _ => N - (intOf i).toNat)
  case atStart => exact ⟨0, ms, Nat.zero_le _, rfl, HLE, HT4, HB4.out⟩
  case round =>
    clear HT4 HB4
    obtain ⟨k, ms', hk, rfl, HM, HT, hb⟩ := hrel
    have HB := Lib.hid hb
    clear hb
    by_cases hlt : k < N
    · obtain ⟨m, hm⟩ : ∃ m, ms'[k]? = some m := ⟨_, List.getElem?_eq_getElem (by have := HT.out.len; omega)⟩
      have HLD := Lib.hid (HT.out.load hm)
      have hmm := List.mem_of_getElem? hm
      have hok := HT.out.ok m hmm
      have HOW := Lib.hid (own_any m.1 m.2 wr hok.1 hok.2.qr (HQL.out m.1 (by rw [← HM.out]; exact List.mem_map_of_mem hmm)))
      have HF := Lib.hid hok.1; have HMK := Lib.hid hm
      clear hm hmm hok
      have g1 : (0 : Int) ≤ (k : Int) := by omega
      have g2 : (k : Int) < (N : Int) := by omega
      go_wp2_with (refine list_load rfl _ rfl rfl HLD.out ?_)
      refine HOW.out.mono ?_
      rintro x w5 ⟨⟨v', rfl, ho⟩, hb⟩
      have HB5 := Lib.hid (HB.out.trans (hb.mono HB.out.size))
      obtain ⟨w6, hs6, ht6, hb6⟩ := (HT.out.on hb).put hlt HF.out (ho.apart (D.Box.lt HT.out.box))
      have HS6 := Lib.hid hs6; have HT6 := Lib.hid ht6; have HB6 := Lib.hid (HB5.out.trans (hb6 _ HG.out))
      clear hb ho hs6 ht6 hb6 HOW
      go_wp2_with (refine list_store rfl _ _ rfl rfl rfl HS6.out ?_)
      go_roundw
      case rel => exact ⟨k + 1, ms'.set k (m.1, v'), by omega, by go_num, Lib.hid (by
        have := HMK.out
        rw [List.map_set, ← HM.out]
        refine List.ext_getElem? fun i => ?_
        rw [List.getElem?_set]
        split
        · rename_i e
          subst e
          rw [List.getElem?_map, this]
          have hlt := (List.getElem?_eq_some_iff.1 this).1
          simp [hlt]
        · rfl), HT6, HB6.out⟩
      case measure => simp [intOf]; omega
    · go_wp2_with fail
      go_ret
      exact ⟨⟨_, _, _, ms', rfl, HT.out.tab, HM.out⟩, HB.out⟩
end Go.Proofs.YthngjbnbloboiaaGreatDoor
