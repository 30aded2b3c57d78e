/- The row of a name, told: walked. -/
import Derived.Test.YthngjbnbloboiaaGreatDoorKVCheck
import Derived.Test.YthngjbnbloboiaaGreatDoorKVFind
namespace Go.Proofs.YthngjbnbloboiaaGreatDoor
open Go.RowKit

/-- The table, or none, if it may not be. -/
def SoundIs (p : Prop) (v : Value) (e : Ending) : Prop := (p ∧ e = .returned v) ∨ (¬ p ∧ e = .returned (.slice none 0 0))
set_option maxRecDepth 100000 in
set_option maxHeartbeats 1000000 in
theorem sound_any (ev : List (BitVec 64) → Bool) (hev : EvIs ev) (A : Option Addr) (nn cc : Nat) (ms : List RowM) (w : World) (hL : LaidC w) (ht : TabR w A nn cc ms) :
    Calls Tryz.prog 37 #[.slice A nn cc] w fun e w' => SoundIs (RightT ev (ms.map (·.1))) (.slice A nn cc) e ∧ Below w.heap.size w w' := by
  have HC := Lib.hid (check_any ev hev A nn cc ms w hL ht)
  generalize RightT ev (ms.map (·.1)) = PT at *
  clear hL ht hev
  go_enter Tryz.func37, Tryz.ntmps37
  go_wp2_with fail
  refine HC.out.mono ?_
  rintro e w2 ⟨⟨hp, rfl⟩ | ⟨hp, rfl⟩, hb⟩
  · have HB := Lib.hid hb; have HP := Lib.hid hp
    clear hb hp
    go_wp2_with fail
    go_ret
    exact ⟨.inl ⟨HP.out, rfl⟩, HB.out⟩
  · have HB := Lib.hid hb; have HP := Lib.hid hp
    clear hb hp
    go_wp2_with fail
    go_ret
    exact ⟨.inr ⟨HP.out, rfl⟩, HB.out⟩
/-- Times that can be read, none of them below block B. -/
def QRB (B : Nat) (w : World) (v : Value) (q : List Int) : Prop := ∃ A c, v = .slice A q.length c ∧ q.length ≤ c ∧ c ≤ maxLen ∧ (A = none → c = 0) ∧ ∀ j u, (q.map int1)[j]? = some u → ∃ b o, A = some ⟨b, o, none⟩ ∧ b < w.heap.size ∧ B ≤ b ∧ w.cell? ⟨b, o + j, none⟩ = some u
theorem QRB.qr {B : Nat} {w : World} {v : Value} {q : List Int} (h : QRB B w v q) : QR w v q := by
  obtain ⟨A, c, e, h1, h2, h3, h4⟩ := h
  exact ⟨A, c, e, h1, h2, h3, fun j u hj => by obtain ⟨b, o, e, hl, _, hc⟩ := h4 j u hj; exact ⟨b, o, e, hl, hc⟩⟩
theorem QRB.row {B p : Nat} {w : World} {v : Value} {q : List Int} (h : QRB B w v q) (hp : p < B) (cs : Array Value) : QRB B (w.setRow p cs) v q := by
  obtain ⟨A, c, e, h1, h2, h3, h4⟩ := h
  exact ⟨A, c, e, h1, h2, h3, fun j u hj => by
    obtain ⟨b, o, e, hl, hn, hc⟩ := h4 j u hj
    exact ⟨b, o, e, by simpa [World.setRow] using hl, hn, (World.cell?_of_block (setRow_other w p b cs (by omega))).trans hc⟩⟩
theorem QRB.low {B B' : Nat} {w : World} {v : Value} {q : List Int} (h : QRB B' w v q) (hB : B ≤ B') : QRB B w v q := by
  obtain ⟨A, c, e, h1, h2, h3, h4⟩ := h
  exact ⟨A, c, e, h1, h2, h3, fun j u hj => by obtain ⟨b, o, e, hl, hn, hc⟩ := h4 j u hj; exact ⟨b, o, e, hl, by omega, hc⟩⟩
theorem OwnT.qrb {w : World} {base : Nat} {v : Value} {l : List Int} (h : OwnT w base v l) : QRB base w v l := by
  have h0 := h
  rcases h.2 with ⟨rfl, hn⟩ | ⟨b, cap, cur, rfl, hb, hh, hn, hm, hs, ht⟩
  · obtain rfl : l = [] := List.length_eq_zero_iff.1 hn
    exact ⟨none, 0, rfl, by simp, by decide, fun _ => rfl, fun j u hj => by simp at hj⟩
  · refine ⟨_, cap, rfl, hn, hm, fun h => by (cases h), fun j u hj => ⟨b, 0, rfl, (Array.getElem?_eq_some_iff.1 hh).1, hb, ?_⟩⟩
    have hjl := (List.getElem?_eq_some_iff.1 hj).1
    rw [List.length_map] at hjl
    rw [Nat.zero_add, World.ownsRow.cellAt h0 j (by omega)]
    exact hj
/-- A row told, with a queue of its own. -/
def ToldIs (name : Int) (ms : List RowM) (B : Nat) (e : Ending) (w : World) : Prop := ∃ (r : RowZ) (v : Value), e = .returned (.tuple #[rowV r v, .bool true]) ∧ r ∈ ms.map (·.1) ∧ r.j.n = name ∧ QRB B w v r.q
theorem zero_box (w : World) : D.Box (w.alloc (.cells zeroC.toArray 39)) w.heap.size 39 zeroC.toArray := D.Box.new w 39 zeroC.toArray
set_option maxRecDepth 100000 in
set_option maxHeartbeats 2000000 in
theorem tell_ok (ev : List (BitVec 64) → Bool) (hev : EvIs ev) (A : Option Addr) (nn cc gx : Nat) (ms : List RowM) (name : Int) (w : World) (hL : LaidC w) (ht : TabR w A nn cc ms) (hR : RightT ev (ms.map (·.1))) (hex : ∃ m ∈ ms, m.1.j.n = name) (hl : gx < w.heap.size) (hc : w.cell? ⟨gx, 0, none⟩ = some (.int .u32 name)) :
    Calls Tryz.prog 27 #[.slice A nn cc, .func (.func 56) #[] #[.pointer (some ⟨gx, 0, none⟩)]] w fun e w' => ToldIs name ms w.heap.size e w' ∧ Below w.heap.size w w' := by
  have hb0 := new_below w (.cells zeroC.toArray 39)
  have hz0 := zero_box w
  obtain ⟨W0, hW0⟩ : ∃ W : World, W = w.alloc (.cells zeroC.toArray 39) := ⟨_, rfl⟩
  rw [← hW0] at hb0 hz0
  have HB0 := Lib.hid hb0; have HZ0 := Lib.hid hz0
  have HS := Lib.hid (sound_any ev hev A nn cc ms W0 (hL.on hb0) (ht.on hb0))
  have HF := Lib.hid (fun W (hb : Below W0.heap.size W0 W) => find_named A nn cc gx ms name W ((ht.on hb0).on hb) (Nat.lt_of_lt_of_le (Nat.lt_of_lt_of_le hl hb0.size) hb.size) ((hb.cell (p := ⟨gx, 0, none⟩) (Nat.lt_of_lt_of_le hl hb0.size)).trans ((hb0.cell (p := ⟨gx, 0, none⟩) hl).trans hc)))
  have HT0 := Lib.hid (ht.on hb0)
  have hcap := ht.cap
  have htop := ht.top
  unfold maxLen at htop
  have HLN := Lib.hid ht.len
  have HQ : Hid (∀ m ∈ ms, m.1.q.length ≤ 100) := Lib.hid (fun m hm => by have := (hR.rows m.1 (List.mem_map_of_mem hm)).q3; omega)
  have HP := Lib.hid hR; have HEX := Lib.hid hex
  generalize RightT ev (ms.map (·.1)) = PT at *
  clear hL ht hR hex hl hc hb0 hz0 hev
  go_enter Tryz.func27, Tryz.ntmps27
  go_wp2_with fail
  rw [← hW0]
  clear hW0
  refine HS.out.mono ?_
  rintro e w2 ⟨⟨_, rfl⟩ | ⟨hp, rfl⟩, hb⟩
  case inr => exact absurd HP.out hp
  have HB2 := Lib.hid hb
  clear hb HS
  go_wp2_with fail
  refine (HF.out w2 HB2.out).mono ?_
  rintro e w3 ⟨⟨rfl, hno⟩ | ⟨k, m, rfl, hk, hp, _⟩, hb⟩
  · obtain ⟨m, hm, hn⟩ := HEX.out
    exact absurd hn (hno m hm)
  have HB3 := Lib.hid (HB2.out.trans (hb.mono HB2.out.size))
  have htr := HT0.out.on HB3.out
  have hkn := (List.getElem?_eq_some_iff.1 hk).1
  obtain ⟨bl, of, rfl, _⟩ := htr.rd.some_ (by rw [mflat_len htr.fit]; omega)
  have hok := htr.ok m (List.mem_of_getElem? hk)
  have HLD := Lib.hid (tab_load htr hk)
  have HOW := Lib.hid (own_any m.1 m.2 w3 hok.1 hok.2 (HQ.out m (List.mem_of_getElem? hk)))
  have HFT := Lib.hid hok.1; have HMM := Lib.hid (List.mem_map_of_mem (f := fun m : RowM => m.1) (List.mem_of_getElem? hk)); have HPN := Lib.hid hp
  have g1 : (0 : Int) ≤ (k : Int) := by omega
  have g2 : (k : Int) < (nn : Int) := by have := HLN.out; omega
  clear hb htr hk hp hok HF HB2 hkn
  go_wp2_with (refine list_load rfl _ rfl rfl HLD.out ?_)
  refine HOW.out.mono ?_
  rintro e w4 ⟨⟨v', rfl, ho⟩, hb⟩
  have HB4 := Lib.hid (HB3.out.trans (hb.mono HB3.out.size))
  have hz4 := D.Box.belowAll HZ0.out HB4.out
  have HQ4 := Lib.hid (ho.qrb.low (show w.heap.size + 1 ≤ w3.heap.size by have := D.Box.lt HZ0.out; have := HB3.out.size; omega))
  have HST := Lib.hid (store_all hz4 (vs := rowC m.1 v') (ty := 39) (by rw [rowC_len HFT.out]; rfl) (by rw [size_row, rowC_len HFT.out]) (rowC_one HFT.out (qr_cell HQ4.out.qr)))
  have hbx := hz4.setRow (rowC m.1 v').toArray
  have HQ5 := Lib.hid ((HQ4.out.row (Nat.lt_succ_self _) (rowC m.1 v').toArray).low (Nat.le_succ _))
  have HB5 := Lib.hid (below_setRow (HB0.out.trans (HB4.out.mono HB0.out.size)) (Nat.le_refl _) (rowC m.1 v').toArray)
  have hlv := loadVar_of hbx 17 und_row size_row (rowC_len HFT.out v')
  obtain ⟨w5, hw5⟩ : ∃ w5, w5 = w4.setRow w.heap.size (rowC m.1 v').toArray := ⟨_, rfl⟩
  rw [← hw5] at HST hlv HQ5 HB5
  have HLV := Lib.hid hlv
  clear hb ho hz4 hbx hlv hw5 HOW HLD
  go_wp2_with (refine list_store rfl _ _ rfl rfl rfl HST.out ?_)
  exact bodyPost_ret (v := .tuple #[rowV m.1 v', .bool true]) (results_cell2 Tryz.results27 (by rfl) (by rfl) HLV.out) rfl ⟨⟨m.1, v', rfl, HMM.out, HPN.out, HQ5.out⟩, HB5.out⟩
set_option maxRecDepth 100000 in
set_option maxHeartbeats 2000000 in
theorem tfind_ok (ev : List (BitVec 64) → Bool) (hev : EvIs ev) (A : Option Addr) (nn cc : Nat) (ms : List RowM) (name : Int) (w : World) (hL : LaidC w) (ht : TabR w A nn cc ms) (hR : RightT ev (ms.map (·.1))) (hex : ∃ m ∈ ms, m.1.j.n = name) :
    Calls Tryz.prog 8 #[.slice A nn cc, .int .u32 name] w fun e w' => ToldIs name ms w.heap.size e w' ∧ Below w.heap.size w w' := by
  have hb0 := new_below w (.cells zeroC.toArray 39)
  have hz0 := zero_box w
  obtain ⟨W0, hW0⟩ : ∃ W : World, W = w.alloc (.cells zeroC.toArray 39) := ⟨_, rfl⟩
  rw [← hW0] at hb0 hz0
  have HB0 := Lib.hid hb0; have HZ0 := Lib.hid hz0
  have HTL := Lib.hid (fun gx W (hb : Below W0.heap.size W0 W) h1 h2 => tell_ok ev hev A nn cc gx ms name W ((hL.on hb0).on hb) ((ht.on hb0).on hb) hR hex h1 h2)
  have HFIT := Lib.hid ht.fit
  clear hL ht hR hex hb0 hz0 hev
  go_enter Tryz.func8, Tryz.ntmps8
  go_wp2_with fail
  rw [← hW0]
  clear hW0
  refine (named_any name W0).mono ?_
  rintro e w2 ⟨rfl, hl2, hc2, hb⟩
  have HB2 := Lib.hid hb
  have HTT := Lib.hid (HTL.out _ w2 hb hl2 hc2)
  clear hb hl2 hc2 HTL
  go_wp2_with fail
  refine HTT.out.mono ?_
  rintro e w4 ⟨⟨r, v', rfl, hmm, hn, hq⟩, hb⟩
  have HB4 := Lib.hid (HB2.out.trans (hb.mono HB2.out.size))
  have hfit : r.Fit := by
    obtain ⟨m, hm, rfl⟩ := List.mem_map.1 hmm
    exact HFIT.out m hm
  have hz4 := D.Box.belowAll HZ0.out HB4.out
  have HST := Lib.hid (store_all hz4 (vs := rowC r v') (ty := 39) (by rw [rowC_len hfit]; rfl) (by rw [size_row, rowC_len hfit]) (rowC_one hfit (qr_cell hq.qr)))
  have hbx := hz4.setRow (rowC r v').toArray
  have HB5 := Lib.hid (below_setRow (HB0.out.trans (HB4.out.mono HB0.out.size)) (Nat.le_refl _) (rowC r v').toArray)
  have hlv := loadVar_of hbx 17 und_row size_row (rowC_len hfit v')
  have HQ5 := Lib.hid ((hq.row (show w.heap.size < w2.heap.size by have := D.Box.lt HZ0.out; have := HB2.out.size; omega) (rowC r v').toArray).low (show w.heap.size ≤ w2.heap.size by have := D.Box.lt HZ0.out; have := HB2.out.size; omega))
  have HMM := Lib.hid hmm; have HPN := Lib.hid hn
  obtain ⟨w5, hw5⟩ : ∃ w5, w5 = w4.setRow w.heap.size (rowC r v').toArray := ⟨_, rfl⟩
  rw [← hw5] at HST hlv HQ5 HB5
  have HLV := Lib.hid hlv
  clear hb hmm hn hq hfit hz4 hbx hlv hw5 HTT HFIT HB0 HZ0 HB2 HB4
  go_wp2_with (refine list_store rfl _ _ rfl rfl rfl HST.out ?_)
  exact bodyPost_ret (v := .tuple #[rowV r v', .bool true]) (results_cell2 Tryz.results8 (by rfl) (by rfl) HLV.out) rfl ⟨⟨r, v', rfl, HMM.out, HPN.out, HQ5.out⟩, HB5.out⟩
end Go.Proofs.YthngjbnbloboiaaGreatDoor
