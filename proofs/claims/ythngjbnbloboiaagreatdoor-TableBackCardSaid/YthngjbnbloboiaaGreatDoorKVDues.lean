/- The dues of a table; its names: walked. -/
import Derived.Test.YthngjbnbloboiaaGreatDoorKVTell
import Derived.Test.YthngjbnbloboiaaGreatDoorKVSortF
namespace Go.Proofs.YthngjbnbloboiaaGreatDoor
open Go.RowKit

/-- What the table tells from: itself, or nothing. -/
theorem sound_case {ev : List (BitVec 64) → Bool} {A : Option Addr} {nn cc : Nat} {ms : List RowM} {e : Ending} {w0 w : World} (ht : TabR w0 A nn cc ms) (hb : Below w0.heap.size w0 w) (h : SoundIs (RightT ev (ms.map (·.1))) (.slice A nn cc) e) : ∃ A' n' c' ms', e = .returned (.slice A' n' c') ∧ TabR w A' n' c' ms' ∧ n' ≤ 12 ∧ ((RightT ev (ms.map (·.1)) ∧ ms' = ms) ∨ (¬ RightT ev (ms.map (·.1)) ∧ ms' = [])) := by
  rcases h with ⟨hp, rfl⟩ | ⟨hp, rfl⟩
  · exact ⟨A, nn, cc, ms, rfl, ht.on hb, by have := hp.most; rw [List.length_map, ht.len] at this; exact this, .inl ⟨hp, rfl⟩⟩
  · exact ⟨none, 0, 0, [], rfl, .nil _, by omega, .inr ⟨hp, rfl⟩⟩
def dueM (m : RowM) : Int × Int := dueR m.1
def liveM (ms : List RowM) : List (Int × Int) := (ms.filter fun m => decide (m.1.nx ≠ -1)).map dueM
theorem live_is (ms : List RowM) : liveM ms = (liveR (ms.map (·.1))).map dueR := by
  unfold liveM liveR
  rw [List.filter_map, List.map_map]
  rfl
theorem live_take {ms : List RowM} {k : Nat} {m : RowM} (hk : ms[k]? = some m) : liveM (ms.take (k + 1)) = liveM (ms.take k) ++ (if m.1.nx = -1 then [] else [dueM m]) := by
  unfold liveM
  rw [List.take_add_one, hk, Option.toList_some, List.filter_append, List.map_append]
  congr 1
  by_cases h : m.1.nx = -1
  · rw [if_pos h, List.filter_cons, if_neg (by simpa using h)]; rfl
  · rw [if_neg h, List.filter_cons, if_pos (by simpa using h)]; rfl
theorem live_len (ms : List RowM) : (liveM ms).length ≤ ms.length := by
  unfold liveM
  rw [List.length_map]
  exact List.length_filter_le _ _
/-- The dues told. -/
def DuesIs (ev : List (BitVec 64) → Bool) (ms : List RowM) (B : Nat) (e : Ending) (w : World) : Prop := ∃ v ds, e = .returned v ∧ OwnD w B v ds ∧ LeQ ds ∧ ((RightT ev (ms.map (·.1)) ∧ ds.Perm (liveM ms)) ∨ (¬ RightT ev (ms.map (·.1)) ∧ ds = []))
theorem DueAt.own {w : World} {g n cap base : Nat} {l : List (Int × Int)} (h : DueAt w g n cap l) (hb : base ≤ g) : OwnD w base (.slice (some ⟨g, 0, none⟩) n cap) l := by
  obtain ⟨cur, hh, hs, ht⟩ := h.cells
  refine ⟨by rw [dflat_len], .inr ⟨g, cap, cur, by rw [h.len], hb, hh, by rw [h.len]; exact h.le, h.top, hs, ?_⟩⟩
  rw [h.len]; exact ht
set_option maxRecDepth 100000 in
set_option maxHeartbeats 4000000 in
theorem dues_any (ev : List (BitVec 64) → Bool) (hev : EvIs ev) (A : Option Addr) (nn cc : Nat) (ms : List RowM) (w : World) (hL : LaidC w) (ht : TabR w A nn cc ms) :
    Calls Tryz.prog 13 #[.slice A nn cc] w fun e w' => DuesIs ev ms w.heap.size e w' ∧ Below w.heap.size w w' := by
  have HS := Lib.hid (sound_any ev hev A nn cc ms w hL ht)
  have HSC := Lib.hid (fun e w' (hb : Below w.heap.size w w') h => sound_case (ev := ev) (e := e) ht hb h)
  have HD : Hid (∀ v ds w' ms', OwnD w' w.heap.size v ds → LeQ ds → ds.Perm (liveM ms') → ((RightT ev (ms.map (·.1)) ∧ ms' = ms) ∨ (¬ RightT ev (ms.map (·.1)) ∧ ms' = [])) → DuesIs ev ms w.heap.size (.returned v) w') := Lib.hid (fun v ds w' ms' h1 h2 h3 h4 => ⟨v, ds, rfl, h1, h2, by
    rcases h4 with ⟨h4, rfl⟩ | ⟨h4, rfl⟩
    · exact .inl ⟨h4, h3⟩
    · exact .inr ⟨h4, by simpa [liveM] using h3⟩⟩)
  generalize DuesIs ev ms w.heap.size = DI at *
  generalize RightT ev (ms.map (·.1)) = PT at *
  clear hL ht hev
  go_enter Tryz.func13, Tryz.ntmps13
  go_wp2_with fail
  refine HS.out.mono ?_
  rintro e w1 ⟨hs, hb⟩
  obtain ⟨A', n', c', ms', rfl, ht', hn', hcase⟩ := HSC.out e w1 hb hs
  have HB1 := Lib.hid hb; have HT := Lib.hid ht'; have HCS := Lib.hid hcase; have HLN := Lib.hid ht'.len
  clear hs hb hcase ht' HS HSC
  go_wp2_with fail
  obtain ⟨i0, hi, hz0, hz1, hz2⟩ := qinfo_parts info_due
  go_loopw [3, 9] (fun v i wr => ∃ (k : Nat) (ds : List (Int × Int)), k ≤ n' ∧ i = .int .i64 (k : Int) ∧ Hid (ds = liveM (ms'.take k)) ∧ Hid (OwnD wr w1.heap.size v ds) ∧ Below w1.heap.size w1 wr) (fun _ i _ => n' - (intOf i).toNat)
  case atStart => exact ⟨0, [], Nat.zero_le _, rfl, Lib.hid rfl, Lib.hid (OwnD.nil _ _), Below.refl _ _⟩
  case round =>
    obtain ⟨k, ds, hk, rfl, HDS, HO, hb⟩ := hrel
    have HB := Lib.hid hb
    clear hb
    by_cases hlt : k < n'
    · obtain ⟨m, hm⟩ : ∃ m, ms'[k]? = some m := ⟨_, List.getElem?_eq_getElem (by have := HLN.out; omega)⟩
      have htr := HT.out.on HB.out
      obtain ⟨bl, of, rfl, _⟩ := htr.rd.some_ (by rw [mflat_len htr.fit, htr.len]; omega)
      have hok := htr.ok m (List.mem_of_getElem? hm)
      have HLD := Lib.hid (tab_load htr hm)
      obtain ⟨W1, hs1, hx1, hb1, hz1'⟩ := row_var wr m.1 m.2 hok.1 (qr_cell hok.2)
      have HS1 := Lib.hid hs1; have HB2 := Lib.hid (HB.out.trans (hb1.mono HB.out.size))
      have hcf := cellsF_of hok.1 (row_range hx1)
      have c0 := hcf.n; have c12 := hcf.nx
      rw [Nat.zero_add] at c12
      have HO1 := Lib.hid (HO.out.below hb1)
      have hnm : IntKind.u64.wrap m.1.j.n = m.1.j.n := by rw [IntKind.wrap_u64]; have := hok.1.1.1; have := hok.1.1.2.1; omega
      have HLT := Lib.hid (live_take hm)
      have g1 : (0 : Int) ≤ (k : Int) := by omega
      have g2 : (k : Int) < (n' : Int) := by omega
      clear htr hok hm hs1 hx1 hb1 hz1' hcf
      by_cases hnx : m.1.nx = -1
      · rw [if_pos hnx, List.append_nil] at HLT
        rw [hnx] at c12
        clear hnx
        go_wp2_with (first | refine list_load rfl _ rfl rfl HLD.out ?_ | refine list_store rfl _ _ rfl rfl rfl HS1.out ?_)
        go_roundw
        case rel => exact ⟨k + 1, ds, by omega, by go_num, Lib.hid (by rw [HLT.out]; exact HDS.out), HO1, HB2.out⟩
        case measure => simp [intOf]; omega
      · rw [if_neg hnx] at HLT
        have hd : (m.1.nx != -1) = true := by simpa using hnx
        have hdl : ds.length ≤ 12 := by
          rw [HDS.out]
          refine Nat.le_trans (live_len _) ?_
          rw [List.length_take]; omega
        clear hnx
        have hown := HO1.out
        go_wp2_with (first | refine list_load rfl _ rfl rfl HLD.out ?_ | refine list_store rfl _ _ rfl rfl rfl HS1.out ?_ | (at_builtin; refine wpList_append_own _ rfl _ _ 46 rfl w1.heap.size 55 i0 _ 2 16 Tryz.underlying46 hi hz0 hz1 hz2 rfl (by decide) _ _ _ rfl (hown.alloc _) ⟨W1.heap.size, 0, none⟩ 1 1 [.int .i64 m.1.nx, .int .u64 m.1.j.n] rfl rfl (qcells_two _ _ _ _) (by simp [Value.oneCell']) (by unfold maxLen; omega) (by omega) (by have := HB2.out.size; simp; omega) ?_; intro v' w5 hown5 hgrow5 _))
        go_roundw
        case rel => exact ⟨k + 1, ds ++ [dueM m], by omega, by go_num, Lib.hid (by rw [HLT.out, HDS.out]), Lib.hid (own_snoc hown5), (HB2.out.alloc HB2.out.size (.cells #[.int .i64 m.1.nx, .int .u64 m.1.j.n] 55)).grown hgrow5 (by have := HB2.out.size; simp; omega) (fun j e => (World.ownsRow.lt hown j e).1)⟩
        case measure => simp [intOf]; omega
    · have hfull : Hid (ds = liveM ms') := Lib.hid (by rw [HDS.out, List.take_of_length_le (by have := HLN.out; omega)])
      have hdl : ds.length ≤ 12 := by
        rw [hfull.out]
        refine Nat.le_trans (live_len _) ?_
        have := HLN.out; omega
      rcases HO.out.at_due with ⟨rfl, hds⟩ | ⟨g, cap, rfl, hg, hda⟩
      · have HFIN := Lib.hid (fun w' => HD.out (.slice none 0 0) [] w' ms' (OwnD.nil _ _) List.Pairwise.nil (by rw [← hfull.out, hds]) HCS.out)
        have HBB := Lib.hid (HB1.out.trans (HB.out.mono HB1.out.size))
        clear hds hdl
        go_wp2_with fail
        refine (sortfunc_nil _).mono ?_
        rintro x w2 ⟨⟨v, rfl⟩, rfl⟩
        go_wp2_with fail
        go_ret
        exact ⟨HFIN.out _, HBB.out⟩
      · have HSF := Lib.hid (sortfunc_any g ds.length cap ds wr hda hdl)
        have HBB := Lib.hid (HB1.out.trans (HB.out.mono HB1.out.size)); have HG := Lib.hid hg
        clear hda hdl hg
        go_wp2_with fail
        refine HSF.out.mono ?_
        rintro x w2 ⟨⟨v, rfl⟩, ds', hda', hpm, hle, hso⟩
        have hl := hpm.length_eq
        have HFIN := Lib.hid (HD.out _ ds' w2 ms' (hda'.own (show w.heap.size ≤ g by have := HG.out; have := HB1.out.size; omega)) hle (hpm.trans (by rw [hfull.out])) HCS.out)
        have HB3 := Lib.hid (HBB.out.trans (hso.below (show w.heap.size ≤ g by have := HG.out; have := HB1.out.size; omega) HBB.out.size))
        clear hda' hpm hle hso hl
        go_wp2_with fail
        go_ret
        exact ⟨HFIN.out, HB3.out⟩
/-- Names of one's own. -/
def nameV (z : Int) : Value := .int .u32 z
theorem info_u32 : (Tryz.prog.info? 23).map (fun i => (i.zero, i.size, i.bytes)) = some (some (.int .u32 0), 1, 4) := by kernel_rfl
def NamesIs (ev : List (BitVec 64) → Bool) (ms : List RowM) (B : Nat) (e : Ending) (w : World) : Prop := ∃ v ns, e = .returned v ∧ w.ownsRow B 23 1 v ns.length (ns.map nameV) ∧ ((RightT ev (ms.map (·.1)) ∧ ns = ms.map (fun m => m.1.j.n)) ∨ (¬ RightT ev (ms.map (·.1)) ∧ ns = []))
theorem name_new (W : World) (z : Int) : ∀ j u, [nameV z][j]? = some u → (W.alloc (.cells #[.int .u32 z] 23)).cell? ((⟨W.heap.size, 0, none⟩ : Addr).add j) = some u := by
  intro j u hj
  match j, hj with
  | 0, hj => simp at hj; subst hj; simp [Addr.add, nameV]
set_option maxRecDepth 100000 in
set_option maxHeartbeats 4000000 in
theorem names_any (ev : List (BitVec 64) → Bool) (hev : EvIs ev) (A : Option Addr) (nn cc : Nat) (ms : List RowM) (w : World) (hL : LaidC w) (ht : TabR w A nn cc ms) :
    Calls Tryz.prog 15 #[.slice A nn cc] w fun e w' => NamesIs ev ms w.heap.size e w' ∧ Below w.heap.size w w' := by
  have HS := Lib.hid (sound_any ev hev A nn cc ms w hL ht)
  have HSC := Lib.hid (fun e w' (hb : Below w.heap.size w w') h => sound_case (ev := ev) (e := e) ht hb h)
  have HD : Hid (∀ v ns w' ms', w'.ownsRow w.heap.size 23 1 v ns.length (ns.map nameV) → ns = ms'.map (fun m : RowM => m.1.j.n) → ((RightT ev (ms.map (·.1)) ∧ ms' = ms) ∨ (¬ RightT ev (ms.map (·.1)) ∧ ms' = [])) → NamesIs ev ms w.heap.size (.returned v) w') := Lib.hid (fun v ns w' ms' h1 h3 h4 => ⟨v, ns, rfl, h1, by
    rcases h4 with ⟨h4, rfl⟩ | ⟨h4, rfl⟩
    · exact .inl ⟨h4, h3⟩
    · exact .inr ⟨h4, h3⟩⟩)
  generalize NamesIs ev ms w.heap.size = DI at *
  generalize RightT ev (ms.map (·.1)) = PT at *
  clear hL ht hev
  go_enter Tryz.func15, Tryz.ntmps15
  go_wp2_with fail
  refine HS.out.mono ?_
  rintro e w1 ⟨hs, hb⟩
  obtain ⟨A', n', c', ms', rfl, ht', hn', hcase⟩ := HSC.out e w1 hb hs
  have HB1 := Lib.hid hb; have HT := Lib.hid ht'; have HCS := Lib.hid hcase; have HLN := Lib.hid ht'.len
  clear hs hb hcase ht' HS HSC
  go_wp2_with fail
  obtain ⟨i0, hi, hz0, hz1, hz2⟩ := info_parts info_u32
  go_loopw [3, 9] (fun v i wr => ∃ (k : Nat) (ns : List Int), k ≤ n' ∧ i = .int .i64 (k : Int) ∧ Hid (ns = (ms'.take k).map (fun m : RowM => m.1.j.n)) ∧ Hid (wr.ownsRow w1.heap.size 23 1 v ns.length (ns.map nameV)) ∧ Below w1.heap.size w1 wr) (fun _ i _ => n' - (intOf i).toNat)
  case atStart => exact ⟨0, [], Nat.zero_le _, rfl, Lib.hid rfl, Lib.hid (World.ownsRow_nil _ _ _ _), Below.refl _ _⟩
  case round =>
    obtain ⟨k, ns, hk, rfl, HDS, HO, hb⟩ := hrel
    have HB := Lib.hid hb
    clear hb
    by_cases hlt : k < n'
    · obtain ⟨m, hm⟩ : ∃ m, ms'[k]? = some m := ⟨_, List.getElem?_eq_getElem (by have := HLN.out; omega)⟩
      have htr := HT.out.on HB.out
      obtain ⟨bl, of, rfl, _⟩ := htr.rd.some_ (by rw [mflat_len htr.fit, htr.len]; omega)
      have hok := htr.ok m (List.mem_of_getElem? hm)
      have HLD := Lib.hid (tab_load htr hm)
      obtain ⟨W1, hs1, hx1, hb1, hz1'⟩ := row_var wr m.1 m.2 hok.1 (qr_cell hok.2)
      have HS1 := Lib.hid hs1; have HB2 := Lib.hid (HB.out.trans (hb1.mono HB.out.size))
      have c0 := (cellsF_of hok.1 (row_range hx1)).n
      have hown := own_below HO.out hb1
      have hnl : ns.length ≤ 12 := by
        rw [HDS.out, List.length_map, List.length_take]; omega
      have HMK := Lib.hid hm
      have g1 : (0 : Int) ≤ (k : Int) := by omega
      have g2 : (k : Int) < (n' : Int) := by omega
      clear htr hok hm hs1 hx1 hb1 hz1'
      go_wp2_with (first | refine list_load rfl _ rfl rfl HLD.out ?_ | refine list_store rfl _ _ rfl rfl rfl HS1.out ?_ | (at_builtin; refine wpList_append_own _ rfl _ _ 50 rfl w1.heap.size 23 i0 _ 1 4 Tryz.underlying50 hi hz0 hz1 hz2 rfl (by decide) _ _ _ rfl (hown.alloc _) ⟨W1.heap.size, 0, none⟩ 1 1 [nameV m.1.j.n] rfl rfl (name_new _ _) (by simp [Value.oneCell', nameV]) (by unfold maxLen; omega) (by omega) (by have := HB2.out.size; simp; omega) ?_; intro v' w5 hown5 hgrow5 _))
      go_roundw
      case rel => exact ⟨k + 1, ns ++ [m.1.j.n], by omega, by go_num, Lib.hid (by rw [List.take_add_one, HMK.out, Option.toList_some, List.map_append, HDS.out]; rfl), Lib.hid (by simpa [nameV] using hown5), (HB2.out.alloc HB2.out.size (.cells #[.int .u32 m.1.j.n] 23)).grown hgrow5 (by have := HB2.out.size; simp; omega) (fun j e => (World.ownsRow.lt hown j e).1)⟩
      case measure => simp [intOf]; omega
    · have HFIN := Lib.hid (HD.out _ ns wr ms' (own_low HO.out HB1.out.size) (by rw [HDS.out, List.take_of_length_le (by have := HLN.out; omega)]) HCS.out)
      have HBB := Lib.hid (HB1.out.trans (HB.out.mono HB1.out.size))
      go_wp2_with fail
      go_ret
      exact ⟨HFIN.out, HBB.out⟩
end Go.Proofs.YthngjbnbloboiaaGreatDoor
