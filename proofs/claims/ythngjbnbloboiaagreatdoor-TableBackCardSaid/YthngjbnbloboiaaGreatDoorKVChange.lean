/- What is done to the row of a name: walked. -/
import Derived.Test.YthngjbnbloboiaaGreatDoorKVRes
import Derived.Test.YthngjbnbloboiaaGreatDoorKVTell
import Derived.Great.BuildSlice
namespace Go.Proofs.YthngjbnbloboiaaGreatDoor
open Go.RowKit

theorem built_all (x0 x1 x2 x3 x4 x5 x6 x7 x8 x9 x10 x11 x12 x13 x14 x15 x16 : Value) : Tryz.prog.built 75 [(0, .agg #[x0, x1, x2, x3, x4, x5, x6, x7, x8, x9, x10, x11, x12, x13, x14, x15, x16])] = some #[x0, x1, x2, x3, x4, x5, x6, x7, x8, x9, x10, x11, x12, x13, x14, x15, x16, .int .i64 0] := by kernel_rfl
theorem list_build {w : World} {ops : Array Oper} {rest : List Oper} {o : Oper} {a : Act} {Q : Exit → Act → World → Prop} {t : TypeId} {v : Value} {cells : Array Value} (hgd : o.guard = none) (x : Operand) (ho : o.op = .build t #[(0, x)]) (hx : a.eval x = v) (hb : Tryz.prog.built t [(0, v)] = some cells)
    (h : wpList Tryz.prog ops Q rest (a.put o.dst (.agg cells)) w) : wpList Tryz.prog ops Q (o :: rest) a w :=
  wpList_buildTo hgd t _ ho o.dst rfl cells (by simp only [List.map_toArray, List.map_cons, List.map_nil, hx]; exact hb) h
theorem built_rown {r : RowZ} (hf : r.Fit) (v : Value) : Tryz.prog.built 75 [(0, rowV r v)] = some (rowNC r v 0).toArray := by
  obtain ⟨⟨n, o, L, t, ov, ca, re⟩, pa, nx, num, due, tr, q⟩ := r
  obtain ⟨⟨_, _, hl5⟩, _⟩ := hf
  obtain ⟨a, b, c, d, e, rfl⟩ := list_five hl5
  exact built_all _ _ _ _ _ _ _ _ _ _ _ _ _ _ _ _ _
theorem tab_take {w : World} {A : Option Addr} {n c : Nat} {ms : List RowM} (h : TabR w A n c ms) {k : Nat} (hk : k ≤ n) : TabR w A k c (ms.take k) := by
  refine ⟨by rw [List.length_take, h.len]; omega, Nat.le_trans hk h.cap, h.top, h.non, fun j u hj => ?_, fun m hm => h.ok m (List.mem_of_mem_take hm)⟩
  refine h.rd j u ?_
  rw [← hj]
  conv => lhs; rw [← List.take_append_drop k ms]
  rw [List.flatMap_append, List.getElem?_append_left (List.getElem?_eq_some_iff.1 hj).1]
theorem tab_drop {w : World} {bl of n c : Nat} {ms : List RowM} (h : TabR w (some ⟨bl, of, none⟩) n c ms) {k : Nat} (hk : k ≤ n) : TabR w (some ⟨bl, of + k * 17, none⟩) (n - k) (c - k) (ms.drop k) := by
  have hfl : ((ms.take k).flatMap rowM).length = k * 17 := by
    rw [mflat_len (fun m hm => h.fit m (List.mem_of_mem_take hm)), List.length_take, h.len]
    congr 1
    omega
  refine ⟨by rw [List.length_drop, h.len], by have := h.cap; omega, by have := h.top; omega, fun e => (by cases e), fun j u hj => ?_, fun m hm => h.ok m (List.mem_of_mem_drop hm)⟩
  have h1 : (ms.flatMap rowM)[k * 17 + j]? = some u := by
    conv => lhs; rw [← List.take_append_drop k ms]
    rw [List.flatMap_append, List.getElem?_append_right (by rw [hfl]; omega), hfl, Nat.add_sub_cancel_left]
    exact hj
  obtain ⟨b, o, e, hl, hc⟩ := h.rd (k * 17 + j) u h1
  cases e
  exact ⟨bl, of + k * 17, rfl, hl, by rw [Nat.add_assoc]; exact hc⟩
theorem tab_end {w : World} (A : Option Addr) (c : Nat) (hc : c ≤ maxLen) (hA : A = none → c = 0) : TabR w A 0 c [] := ⟨rfl, Nat.zero_le _, hc, hA, .nil _ _, fun m hm => by cases hm⟩
theorem name_one {l : List RowZ} (h : l.Pairwise (fun a b => a.j.n < b.j.n)) {r s : RowZ} (hr : r ∈ l) (hs : s ∈ l) (hn : r.j.n = s.j.n) : r = s := by
  obtain ⟨i, hi⟩ := List.mem_iff_getElem?.1 hr
  obtain ⟨j, hj⟩ := List.mem_iff_getElem?.1 hs
  obtain ⟨hil, rfl⟩ := List.getElem?_eq_some_iff.1 hi
  obtain ⟨hjl, rfl⟩ := List.getElem?_eq_some_iff.1 hj
  rcases Nat.lt_trichotomy i j with e | e | e
  · have := List.pairwise_iff_getElem.1 h i j hil hjl e; omega
  · subst e; rfl
  · have := List.pairwise_iff_getElem.1 h j i hjl hil e; omega
/-- A table comes, and no fault. -/
def ChgIs (out : List RowZ → Prop) (e : Ending) (w : World) : Prop := ∃ A n c ms, e = .returned (.tuple #[.slice A n c, .int .i64 0]) ∧ TabR w A n c ms ∧ out (ms.map (·.1))
theorem cut_at {l : List RowZ} {k : Nat} {r : RowZ} (h : l.Pairwise (fun a b => a.j.n < b.j.n)) (hk : l[k]? = some r) (F : RowZ → List RowZ) (l' : List RowZ) (hl : l' = F r) : l.take k ++ l' ++ l.drop (k + 1) = subR r.j.n F l := by
  rw [hl, sub_split h k r hk rfl]
set_option maxRecDepth 100000 in
set_option maxHeartbeats 4000000 in
theorem change_rem (ev : List (BitVec 64) → Bool) (hev : EvIs ev) (A : Option Addr) (nn cc : Nat) (ms : List RowM) (name : Int) (w : World) (hL : LaidC w) (ht : TabR w A nn cc ms) (hR : RightT ev (ms.map (·.1))) (hex : ∃ m ∈ ms, m.1.j.n = name) :
    Calls Tryz.prog 29 #[.slice A nn cc, .int .u32 name, .func (.func 30) #[] #[]] w fun e w' => ChgIs (fun l => l = remR name (ms.map (·.1))) e w' ∧ Below w.heap.size w w' := by
  have HCK := Lib.hid (check_any ev hev A nn cc ms w hL ht)
  have HP := Lib.hid hR
  have HFD := Lib.hid (fun gy W (hb : Below w.heap.size w W) h1 h2 => find_named A nn cc gy ms name W (ht.on hb) h1 h2)
  have HT := Lib.hid ht; have HLN := Lib.hid ht.len; have HEX := Lib.hid hex; have HL := Lib.hid hL
  have hcap := ht.cap
  have hn12 : nn ≤ 12 := by have := hR.most; rw [List.length_map, ht.len] at this; exact this
  have HQ : Hid (∀ m ∈ ms, m.1.q.length ≤ 100) := Lib.hid (fun m hm => by have := (hR.rows m.1 (List.mem_map_of_mem hm)).q3; omega)
  have HCH := Lib.hid (fun (r : RowZ) (v : Value) W (hb : Below w.heap.size w W) (hf : r.Fit) => choose_rem r v 0 W hf)
  have HDD := Lib.hid (fun (r : RowZ) (v : Value) W (hb : Below w.heap.size w W) (hf : r.Fit) (hq : QR W v r.q) (hl : r.q.length ≤ 100) => (removed_any r v 0 W hf).mono (R' := fun e w2 => (∃ l, l = [] ∧ TabIs l e w2) ∧ Below W.heap.size W w2) (fun e w2 h => ⟨⟨[], rfl, none, 0, 0, [], h.1, .nil _, rfl⟩, h.2⟩))
  have HOUT : Hid (∀ (k : Nat) (m : RowM) (l' : List RowZ), ms[k]? = some m → m.1.j.n = name → l' = [] → (fun l => l = remR name (ms.map (·.1))) ((ms.map (·.1)).take k ++ l' ++ (ms.map (·.1)).drop (k + 1))) := Lib.hid (fun k m l' hk hn hl => by
    have hk' : (ms.map (·.1))[k]? = some m.1 := by rw [List.getElem?_map, hk]; rfl
    subst hn
    show _ = _
    rw [cut_at HP.out.names hk' (fun _ => []) l' hl, sub_rem])
  have HTOP := Lib.hid ht.top
  generalize (fun l => l = remR name (ms.map (·.1))) = OUT at *
  generalize RightT ev (ms.map (·.1)) = PT at *
  clear hL ht hR hex
  go_enter Tryz.func29, Tryz.ntmps29
  go_wp2_with fail
  refine HCK.out.mono ?_
  rintro e w1 ⟨⟨_, rfl⟩ | ⟨hp, rfl⟩, hb⟩
  case inr => exact absurd HP.out hp
  have HB1 := Lib.hid hb
  clear hb HCK
  go_wp2_with fail
  refine (named_any name w1).mono ?_
  rintro e w2 ⟨rfl, hl2, hc2, hb⟩
  have HB2 := Lib.hid (HB1.out.trans (hb.mono HB1.out.size))
  have HFF := Lib.hid (HFD.out _ w2 HB2.out hl2 hc2)
  clear hb hl2 hc2 HFD
  go_wp2_with fail
  refine HFF.out.mono ?_
  rintro e w3 ⟨⟨rfl, hno⟩ | ⟨k, m, rfl, hk, hp, _⟩, hb⟩
  · obtain ⟨m, hm, hn⟩ := HEX.out
    exact absurd hn (hno m hm)
  have HB3 := Lib.hid (HB2.out.trans (hb.mono HB2.out.size))
  have htr := HT.out.on HB3.out
  have hkn : k < nn := by have := (List.getElem?_eq_some_iff.1 hk).1; have := HLN.out; omega
  obtain ⟨bl, of, rfl, _⟩ := htr.rd.some_ (by rw [mflat_len htr.fit, HLN.out]; omega)
  have hmm := List.mem_of_getElem? hk
  have hok := htr.ok m hmm
  have HLD := Lib.hid (tab_load htr hk)
  have HBU := Lib.hid (built_rown hok.1 m.2)
  have HCC := Lib.hid (HCH.out m.1 m.2 w3 HB3.out hok.1)
  have HFT := Lib.hid hok.1; have HMK := Lib.hid hk; have HPN := Lib.hid hp; have HQL := Lib.hid (HQ.out m hmm)
  have g1 : (0 : Int) ≤ (k : Int) := by omega
  have g2 : (k : Int) < (nn : Int) := by omega
  clear hb htr hk hp hok hmm HFF HB2 HCH HB1
  go_wp2_with (first | refine list_load rfl _ rfl rfl HLD.out ?_ | refine list_build rfl _ rfl rfl HBU.out ?_)
  refine HCC.out.mono ?_
  rintro e w4 ⟨rfl, hb⟩
  have HB4 := Lib.hid (HB3.out.trans (hb.mono HB3.out.size))
  have ht4 := HT.out.on HB4.out
  have HQ4 := Lib.hid (ht4.ok m (List.mem_of_getElem? HMK.out)).2
  have HD4 := Lib.hid (fun W (hb : Below w4.heap.size w4 W) => HDD.out m.1 m.2 W (HB4.out.trans (hb.mono HB4.out.size)) HFT.out (HQ4.out.on hb) HQL.out)
  have HTK := Lib.hid (fun W (hb : Below w4.heap.size w4 W) => tab_take (ht4.on hb) (Nat.le_of_lt hkn))
  clear hb HCC HLD HBU HB3 HDD
  have g3 : (k : Int) ≤ (cc : Int) := by omega
  have g4 : IntKind.i64.wrap ((k : Int) + 1) = (k : Int) + 1 := by rw [IntKind.wrap_i64]; omega
  have g5 : (0 : Int) ≤ (k : Int) + 1 := by omega
  have g6 : (k : Int) + 1 ≤ (nn : Int) := by omega
  have hBE := Below.refl w4.heap.size w4
  go_upto_region 7 with fail
  go_cut [6, 7] from 30 to 39 (fun s6 s7 wx => s7 = .int .i64 0 ∧ ∃ A n c ms', s6 = .slice A n c ∧ TabR wx A n c ms' ∧ OUT (ms'.map (·.1)) ∧ Below w4.heap.size w4 wx)
  case first =>
   as_aux_lemma =>
    have HLP : Hid (∀ l' : List RowZ, l' = [] → l'.length ≤ 1 ∧ ∀ x ∈ l', x.q.length ≤ 100) := Lib.hid (fun l' h => by
      subst h; exact ⟨by simp, fun x hx => by cases hx⟩)
    by_cases hkc : k + 1 = cc
    · have HLAY : Hid (∀ (W : World) (hb : Below w4.heap.size w4 W) (l' : List RowZ) (A3 : Option Addr) (n3 c3 : Nat) (ms3 : List RowM), l' = [] → TabR W A3 n3 c3 ms3 → ms3.map (·.1) = l' → Calls Tryz.prog 26 #[.slice (some ⟨bl, of, none⟩) k cc, .slice (some ⟨bl, of, none⟩) 0 0, .slice A3 n3 c3] W fun e w' => TabIs ((ms.take k ++ ms3 ++ ms.drop (k + 1)).map (·.1)) e w' ∧ Below W.heap.size W w') := Lib.hid (fun W hb l' A3 n3 c3 ms3 hlp h3 hm3 => by
        obtain ⟨b1, b2⟩ := HLP.out l' hlp
        have hd : ms.drop (k + 1) = [] := List.drop_of_length_le (by rw [HLN.out]; omega)
        rw [hd]
        refine lay_any _ _ A3 k 0 n3 cc 0 c3 (ms.take k) [] ms3 W (HTK.out W hb) (tab_end _ 0 (by decide) (fun _ => rfl)) h3 ?_ ?_
        · rw [← hm3, List.length_map, h3.len] at b1; omega
        · intro x hx
          rw [List.append_nil] at hx
          rcases List.mem_append.1 hx with hx | hx
          · exact HQ.out x (List.mem_of_mem_take hx)
          · exact b2 x.1 (by rw [← hm3]; exact List.mem_map_of_mem hx))
      clear ht4 HTK HLP
      go_region_held3 (fun _ => True) (exact True.intro) (first
        | (go_at_call 31
           (with_reducible first | refine (HD4.out _ hBE).mono ?_ | refine (HD4.out _ hBE.drew).mono ?_)
           rintro e wE ⟨⟨l3, hlp, A3, n3, c3, ms3, rfl, ht3, hm3⟩, hwE⟩
           replace hBE : Below w4.heap.size w4 wE := Below.trans (by first | exact hBE | exact hBE.drew) (hwE.mono (by first | exact hBE.size | exact hBE.drew.size))
           have HH3 := Lib.hid (And.intro hlp (And.intro ht3 hm3))
           clear hwE hlp ht3 hm3)
        | (go_at_call 26
           (with_reducible first | refine (HLAY.out _ hBE _ _ _ _ _ HH3.out.1 HH3.out.2.1 HH3.out.2.2).mono ?_)
           rintro e wF ⟨⟨A', n', c', ms', rfl, ht', hm'⟩, hwF⟩
           have HH4 := Lib.hid (And.intro ht' hm')
           replace hBE : Below w4.heap.size w4 wF := Below.trans hBE (hwF.mono hBE.size)
           clear hwF ht' hm'))
      all_goals
        go_wp2_with fail
        go_meet
        exact ⟨rfl, A', n', c', ms', rfl, HH4.out.1, by rw [HH4.out.2, List.map_append, List.map_append, List.map_take, List.map_drop, HH3.out.2.2]; exact HOUT.out k m l3 HMK.out HPN.out HH3.out.1, hBE⟩
    · have HLAY : Hid (∀ (W : World) (hb : Below w4.heap.size w4 W) (l' : List RowZ) (A3 : Option Addr) (n3 c3 : Nat) (ms3 : List RowM), l' = [] → TabR W A3 n3 c3 ms3 → ms3.map (·.1) = l' → Calls Tryz.prog 26 #[.slice (some ⟨bl, of, none⟩) k cc, .slice (some ⟨bl, of + (k + 1) * 17, none⟩) (nn - (k + 1)) (cc - (k + 1)), .slice A3 n3 c3] W fun e w' => TabIs ((ms.take k ++ ms3 ++ ms.drop (k + 1)).map (·.1)) e w' ∧ Below W.heap.size W w') := Lib.hid (fun W hb l' A3 n3 c3 ms3 hlp h3 hm3 => by
        obtain ⟨b1, b2⟩ := HLP.out l' hlp
        refine lay_any _ _ A3 k (nn - (k + 1)) n3 cc (cc - (k + 1)) c3 (ms.take k) (ms.drop (k + 1)) ms3 W (HTK.out W hb) (tab_drop (ht4.on hb) (by omega)) h3 ?_ ?_
        · rw [← hm3, List.length_map, h3.len] at b1; omega
        · intro x hx
          rcases List.mem_append.1 hx with hx | hx
          · rcases List.mem_append.1 hx with hx | hx
            · exact HQ.out x (List.mem_of_mem_take hx)
            · exact b2 x.1 (by rw [← hm3]; exact List.mem_map_of_mem hx)
          · exact HQ.out x (List.mem_of_mem_drop hx))
      clear ht4 HTK HLP
      go_region_held3 (fun _ => True) (exact True.intro) (first
        | (go_at_call 31
           (with_reducible first | refine (HD4.out _ hBE).mono ?_ | refine (HD4.out _ hBE.drew).mono ?_)
           rintro e wE ⟨⟨l3, hlp, A3, n3, c3, ms3, rfl, ht3, hm3⟩, hwE⟩
           replace hBE : Below w4.heap.size w4 wE := Below.trans (by first | exact hBE | exact hBE.drew) (hwE.mono (by first | exact hBE.size | exact hBE.drew.size))
           have HH3 := Lib.hid (And.intro hlp (And.intro ht3 hm3))
           clear hwE hlp ht3 hm3)
        | (go_at_call 26
           (with_reducible first | refine (HLAY.out _ hBE _ _ _ _ _ HH3.out.1 HH3.out.2.1 HH3.out.2.2).mono ?_)
           rintro e wF ⟨⟨A', n', c', ms', rfl, ht', hm'⟩, hwF⟩
           have HH4 := Lib.hid (And.intro ht' hm')
           replace hBE : Below w4.heap.size w4 wF := Below.trans hBE (hwF.mono hBE.size)
           clear hwF ht' hm'))
      all_goals
        go_wp2_with fail
        go_meet
        exact ⟨rfl, A', n', c', ms', rfl, HH4.out.1, by rw [HH4.out.2, List.map_append, List.map_append, List.map_take, List.map_drop, HH3.out.2.2]; exact HOUT.out k m l3 HMK.out HPN.out HH3.out.1, hBE⟩
  case rest =>
    obtain ⟨rfl, A', n', c', ms', rfl, ht', ho, hb⟩ := hcut
    have HB5 := Lib.hid (HB4.out.trans (hb.mono HB4.out.size)); have HT5 := Lib.hid ht'; have HO := Lib.hid ho
    clear hb ht' ho
    go_wp2_with fail
    exact bodyPost_ret (v := .tuple #[.slice A' n' c', .int .i64 0]) (by simp [results, Tryz.results29, go_sem]) rfl ⟨⟨_, _, _, ms', rfl, HT5.out, HO.out⟩, HB5.out⟩
end Go.Proofs.YthngjbnbloboiaaGreatDoor
