/- The row of a name goes on: walked. -/
import Derived.Test.YthngjbnbloboiaaGreatDoorKVChange
namespace Go.Proofs.YthngjbnbloboiaaGreatDoor
open Go.RowKit

set_option maxRecDepth 100000 in
set_option maxHeartbeats 4000000 in
theorem change_res (ev : List (BitVec 64) → Bool) (hev : EvIs ev) (A : Option Addr) (nn cc gx : Nat) (ms : List RowM) (name now : Int) (w : World) (hL : LaidC w) (ht : TabR w A nn cc ms) (hR : RightT ev (ms.map (·.1))) (hex : ∃ m ∈ ms, m.1.j.n = name) (hl : gx < w.heap.size) (hc : w.cell? ⟨gx, 0, none⟩ = some (.int .i64 now)) :
    Calls Tryz.prog 29 #[.slice A nn cc, .int .u32 name, .func (.func 43) #[] #[.pointer (some ⟨gx, 0, none⟩)]] w fun e w' => ChgIs (fun l => ∃ nx, (∀ r ∈ ms.map (·.1), r.j.n = name → r.pa = true → NextOf ev r now nx) ∧ l = resR name nx (ms.map (·.1))) e w' ∧ Below w.heap.size w w' := by
  have HCK := Lib.hid (check_any ev hev A nn cc ms w hL ht)
  have HP := Lib.hid hR
  have HFD := Lib.hid (fun gy W (hb : Below w.heap.size w W) h1 h2 => find_named A nn cc gy ms name W (ht.on hb) h1 h2)
  have HT := Lib.hid ht; have HLN := Lib.hid ht.len; have HEX := Lib.hid hex; have HL := Lib.hid hL
  have hcap := ht.cap
  have hn12 : nn ≤ 12 := by have := hR.most; rw [List.length_map, ht.len] at this; exact this
  have HQ : Hid (∀ m ∈ ms, m.1.q.length ≤ 100) := Lib.hid (fun m hm => by have := (hR.rows m.1 (List.mem_map_of_mem hm)).q3; omega)
  have HCH := Lib.hid (fun (r : RowZ) (v : Value) W (hb : Below w.heap.size w W) (hf : r.Fit) => choose_res r v gx now W hf (Nat.lt_of_lt_of_le hl hb.size) ((hb.cell (p := ⟨gx, 0, none⟩) hl).trans hc))
  have HDD := Lib.hid (fun (r : RowZ) (v : Value) W (hb : Below w.heap.size w W) (hf : r.Fit) (hq : QR W v r.q) (hl : r.q.length ≤ 100) => (resumed_any ev hev r v now W (hL.on hb) hf hq hl).mono (R' := fun e w2 => (∃ l, (∃ nx, (r.pa = true → NextOf ev r now nx) ∧ l = [resF nx r]) ∧ TabIs l e w2) ∧ Below W.heap.size W w2) (fun e w2 h => ⟨(by obtain ⟨nx, h1, h2⟩ := h.1; exact ⟨_, ⟨nx, h1, rfl⟩, h2⟩), h.2⟩))
  have HOUT : Hid (∀ (k : Nat) (m : RowM) (l' : List RowZ), ms[k]? = some m → m.1.j.n = name → (∃ nx, (m.1.pa = true → NextOf ev m.1 now nx) ∧ l' = [resF nx m.1]) → (fun l => ∃ nx, (∀ r ∈ ms.map (·.1), r.j.n = name → r.pa = true → NextOf ev r now nx) ∧ l = resR name nx (ms.map (·.1))) ((ms.map (·.1)).take k ++ l' ++ (ms.map (·.1)).drop (k + 1))) := Lib.hid (fun k m l' hk hn hl => by
    have hk' : (ms.map (·.1))[k]? = some m.1 := by rw [List.getElem?_map, hk]; rfl
    subst hn
    obtain ⟨nx, hnx, hl⟩ := hl
    refine ⟨nx, fun r hr hrn hpa => ?_, ?_⟩
    · have hpw := HP.out.names
      obtain rfl := name_one hpw hr (List.mem_of_getElem? hk') hrn
      exact hnx hpa
    · rw [cut_at HP.out.names hk' (fun r => [resF nx r]) l' hl, sub_res])
  have HTOP := Lib.hid ht.top
  generalize (fun l => ∃ nx, (∀ r ∈ ms.map (·.1), r.j.n = name → r.pa = true → NextOf ev r now nx) ∧ l = resR name nx (ms.map (·.1))) = OUT at *
  generalize RightT ev (ms.map (·.1)) = PT at *
  clear hL ht hR hex hl hc hev
  go_enter Tryz.func29, Tryz.ntmps29
  go_wp2_with fail
  refine HCK.out.mono ?_
  rintro e w1 ⟨⟨_, rfl⟩ | ⟨hp, rfl⟩, hb⟩
  case inr => exact absurd HP.out hp
  have HB1 := Lib.hid hb
  clear hb HCK
  go_wp2_with fail
  refine (named_any name w1).mono ?_
  rintro e w2 ⟨rfl, hl2, hc2, hb⟩
  have HB2 := Lib.hid (HB1.out.trans (hb.mono HB1.out.size))
  have HFF := Lib.hid (HFD.out _ w2 HB2.out hl2 hc2)
  clear hb hl2 hc2 HFD
  go_wp2_with fail
  refine HFF.out.mono ?_
  rintro e w3 ⟨⟨rfl, hno⟩ | ⟨k, m, rfl, hk, hp, _⟩, hb⟩
  · obtain ⟨m, hm, hn⟩ := HEX.out
    exact absurd hn (hno m hm)
  have HB3 := Lib.hid (HB2.out.trans (hb.mono HB2.out.size))
  have htr := HT.out.on HB3.out
  have hkn : k < nn := by have := (List.getElem?_eq_some_iff.1 hk).1; have := HLN.out; omega
  obtain ⟨bl, of, rfl, _⟩ := htr.rd.some_ (by rw [mflat_len htr.fit, HLN.out]; omega)
  have hmm := List.mem_of_getElem? hk
  have hok := htr.ok m hmm
  have HLD := Lib.hid (tab_load htr hk)
  have HBU := Lib.hid (built_rown hok.1 m.2)
  have HCC := Lib.hid (HCH.out m.1 m.2 w3 HB3.out hok.1)
  have HFT := Lib.hid hok.1; have HMK := Lib.hid hk; have HPN := Lib.hid hp; have HQL := Lib.hid (HQ.out m hmm)
  have g1 : (0 : Int) ≤ (k : Int) := by omega
  have g2 : (k : Int) < (nn : Int) := by omega
  clear hb htr hk hp hok hmm HFF HB2 HCH HB1
  go_wp2_with (first | refine list_load rfl _ rfl rfl HLD.out ?_ | refine list_build rfl _ rfl rfl HBU.out ?_)
  refine HCC.out.mono ?_
  rintro e w4 ⟨rfl, hb⟩
  have HB4 := Lib.hid (HB3.out.trans (hb.mono HB3.out.size))
  have ht4 := HT.out.on HB4.out
  have HQ4 := Lib.hid (ht4.ok m (List.mem_of_getElem? HMK.out)).2
  have HD4 := Lib.hid (fun W (hb : Below w4.heap.size w4 W) => HDD.out m.1 m.2 W (HB4.out.trans (hb.mono HB4.out.size)) HFT.out (HQ4.out.on hb) HQL.out)
  have HTK := Lib.hid (fun W (hb : Below w4.heap.size w4 W) => tab_take (ht4.on hb) (Nat.le_of_lt hkn))
  clear hb HCC HLD HBU HB3 HDD
  have g3 : (k : Int) ≤ (cc : Int) := by omega
  have g4 : IntKind.i64.wrap ((k : Int) + 1) = (k : Int) + 1 := by rw [IntKind.wrap_i64]; omega
  have g5 : (0 : Int) ≤ (k : Int) + 1 := by omega
  have g6 : (k : Int) + 1 ≤ (nn : Int) := by omega
  have hBE := Below.refl w4.heap.size w4
  go_upto_region 7 with fail
  go_cut [6, 7] from 30 to 39 (fun s6 s7 wx => s7 = .int .i64 0 ∧ ∃ A n c ms', s6 = .slice A n c ∧ TabR wx A n c ms' ∧ OUT (ms'.map (·.1)) ∧ Below w4.heap.size w4 wx)
  case first =>
   as_aux_lemma =>
    have HLP : Hid (∀ l' : List RowZ, (∃ nx, (m.1.pa = true → NextOf ev m.1 now nx) ∧ l' = [resF nx m.1]) → l'.length ≤ 1 ∧ ∀ x ∈ l', x.q.length ≤ 100) := Lib.hid (fun l' h => by
      obtain ⟨nx, _, rfl⟩ := h; exact ⟨by simp, fun x hx => by rw [List.mem_singleton] at hx; subst hx; unfold resF; split <;> exact HQL.out⟩)
    by_cases hkc : k + 1 = cc
    · have HLAY : Hid (∀ (W : World) (hb : Below w4.heap.size w4 W) (l' : List RowZ) (A3 : Option Addr) (n3 c3 : Nat) (ms3 : List RowM), (∃ nx, (m.1.pa = true → NextOf ev m.1 now nx) ∧ l' = [resF nx m.1]) → TabR W A3 n3 c3 ms3 → ms3.map (·.1) = l' → Calls Tryz.prog 26 #[.slice (some ⟨bl, of, none⟩) k cc, .slice (some ⟨bl, of, none⟩) 0 0, .slice A3 n3 c3] W fun e w' => TabIs ((ms.take k ++ ms3 ++ ms.drop (k + 1)).map (·.1)) e w' ∧ Below W.heap.size W w') := Lib.hid (fun W hb l' A3 n3 c3 ms3 hlp h3 hm3 => by
        obtain ⟨b1, b2⟩ := HLP.out l' hlp
        have hd : ms.drop (k + 1) = [] := List.drop_of_length_le (by rw [HLN.out]; omega)
        rw [hd]
        refine lay_any _ _ A3 k 0 n3 cc 0 c3 (ms.take k) [] ms3 W (HTK.out W hb) (tab_end _ 0 (by decide) (fun _ => rfl)) h3 ?_ ?_
        · rw [← hm3, List.length_map, h3.len] at b1; omega
        · intro x hx
          rw [List.append_nil] at hx
          rcases List.mem_append.1 hx with hx | hx
          · exact HQ.out x (List.mem_of_mem_take hx)
          · exact b2 x.1 (by rw [← hm3]; exact List.mem_map_of_mem hx))
      clear ht4 HTK HLP
      go_region_held3 (fun _ => True) (exact True.intro) (first
        | (go_at_call 44
           (with_reducible first | refine (HD4.out _ hBE).mono ?_ | refine (HD4.out _ hBE.drew).mono ?_)
           rintro e wE ⟨⟨l3, hlp, A3, n3, c3, ms3, rfl, ht3, hm3⟩, hwE⟩
           replace hBE : Below w4.heap.size w4 wE := Below.trans (by first | exact hBE | exact hBE.drew) (hwE.mono (by first | exact hBE.size | exact hBE.drew.size))
           have HH3 := Lib.hid (And.intro hlp (And.intro ht3 hm3))
           clear hwE hlp ht3 hm3)
        | (go_at_call 26
           (with_reducible first | refine (HLAY.out _ hBE _ _ _ _ _ HH3.out.1 HH3.out.2.1 HH3.out.2.2).mono ?_)
           rintro e wF ⟨⟨A', n', c', ms', rfl, ht', hm'⟩, hwF⟩
           have HH4 := Lib.hid (And.intro ht' hm')
           replace hBE : Below w4.heap.size w4 wF := Below.trans hBE (hwF.mono hBE.size)
           clear hwF ht' hm'))
      all_goals
        go_wp2_with fail
        go_meet
        exact ⟨rfl, A', n', c', ms', rfl, HH4.out.1, by rw [HH4.out.2, List.map_append, List.map_append, List.map_take, List.map_drop, HH3.out.2.2]; exact HOUT.out k m l3 HMK.out HPN.out HH3.out.1, hBE⟩
    · have HLAY : Hid (∀ (W : World) (hb : Below w4.heap.size w4 W) (l' : List RowZ) (A3 : Option Addr) (n3 c3 : Nat) (ms3 : List RowM), (∃ nx, (m.1.pa = true → NextOf ev m.1 now nx) ∧ l' = [resF nx m.1]) → TabR W A3 n3 c3 ms3 → ms3.map (·.1) = l' → Calls Tryz.prog 26 #[.slice (some ⟨bl, of, none⟩) k cc, .slice (some ⟨bl, of + (k + 1) * 17, none⟩) (nn - (k + 1)) (cc - (k + 1)), .slice A3 n3 c3] W fun e w' => TabIs ((ms.take k ++ ms3 ++ ms.drop (k + 1)).map (·.1)) e w' ∧ Below W.heap.size W w') := Lib.hid (fun W hb l' A3 n3 c3 ms3 hlp h3 hm3 => by
        obtain ⟨b1, b2⟩ := HLP.out l' hlp
        refine lay_any _ _ A3 k (nn - (k + 1)) n3 cc (cc - (k + 1)) c3 (ms.take k) (ms.drop (k + 1)) ms3 W (HTK.out W hb) (tab_drop (ht4.on hb) (by omega)) h3 ?_ ?_
        · rw [← hm3, List.length_map, h3.len] at b1; omega
        · intro x hx
          rcases List.mem_append.1 hx with hx | hx
          · rcases List.mem_append.1 hx with hx | hx
            · exact HQ.out x (List.mem_of_mem_take hx)
            · exact b2 x.1 (by rw [← hm3]; exact List.mem_map_of_mem hx)
          · exact HQ.out x (List.mem_of_mem_drop hx))
      clear ht4 HTK HLP
      go_region_held3 (fun _ => True) (exact True.intro) (first
        | (go_at_call 44
           (with_reducible first | refine (HD4.out _ hBE).mono ?_ | refine (HD4.out _ hBE.drew).mono ?_)
           rintro e wE ⟨⟨l3, hlp, A3, n3, c3, ms3, rfl, ht3, hm3⟩, hwE⟩
           replace hBE : Below w4.heap.size w4 wE := Below.trans (by first | exact hBE | exact hBE.drew) (hwE.mono (by first | exact hBE.size | exact hBE.drew.size))
           have HH3 := Lib.hid (And.intro hlp (And.intro ht3 hm3))
           clear hwE hlp ht3 hm3)
        | (go_at_call 26
           (with_reducible first | refine (HLAY.out _ hBE _ _ _ _ _ HH3.out.1 HH3.out.2.1 HH3.out.2.2).mono ?_)
           rintro e wF ⟨⟨A', n', c', ms', rfl, ht', hm'⟩, hwF⟩
           have HH4 := Lib.hid (And.intro ht' hm')
           replace hBE : Below w4.heap.size w4 wF := Below.trans hBE (hwF.mono hBE.size)
           clear hwF ht' hm'))
      all_goals
        go_wp2_with fail
        go_meet
        exact ⟨rfl, A', n', c', ms', rfl, HH4.out.1, by rw [HH4.out.2, List.map_append, List.map_append, List.map_take, List.map_drop, HH3.out.2.2]; exact HOUT.out k m l3 HMK.out HPN.out HH3.out.1, hBE⟩
  case rest =>
    obtain ⟨rfl, A', n', c', ms', rfl, ht', ho, hb⟩ := hcut
    have HB5 := Lib.hid (HB4.out.trans (hb.mono HB4.out.size)); have HT5 := Lib.hid ht'; have HO := Lib.hid ho
    clear hb ht' ho
    go_wp2_with fail
    exact bodyPost_ret (v := .tuple #[.slice A' n' c', .int .i64 0]) (by simp [results, Tryz.results29, go_sem]) rfl ⟨⟨_, _, _, ms', rfl, HT5.out, HO.out⟩, HB5.out⟩
end Go.Proofs.YthngjbnbloboiaaGreatDoor
