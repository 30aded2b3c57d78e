/- What a turn does with a slot's dues: walked. -/
import Derived.Test.YtidgiohjgkfjcaaDoorQPutP
namespace Go.Proofs.YtidgiohjgkfjcaaDoor
open Go.RowKit

/-- All blocks but p, tb and a row of one's own are as they were. -/
structure HandK (p tb : Nat) (row : Option Nat) (w w' : World) : Prop where
  os : w'.os = w.os
  tape : w'.tape = w.tape
  output : w'.output = w.output
  size : w.heap.size ≤ w'.heap.size
  block : ∀ k, k < w.heap.size → k ≠ p → k ≠ tb → some k ≠ row → w'.heap[k]? = w.heap[k]?
theorem HandK.of {p tb : Nat} {row : Option Nat} {w w' : World} (h : Below w.heap.size w w') : HandK p tb row w w' := ⟨h.os, h.tape, h.output, h.size, fun k hk _ _ _ => h.block k hk⟩
theorem HandK.only {p tb : Nat} {row : Option Nat} {w w' : World} (h : Only p w w') : HandK p tb row w w' := ⟨h.os, h.tape, h.output, h.size, fun k hk h1 _ _ => h.block k hk h1⟩
theorem HandK.grown {p tb : Nat} {row : Option Nat} {w w' : World} (h : w.grownBy w' row) : HandK p tb row w w' := ⟨h.os, h.tape, h.output, h.size, fun k hk _ _ h3 => h.block k hk h3⟩
theorem HandK.set {p tb i : Nat} {row : Option Nat} (w : World) (u : Value) : HandK p tb row w (w.setCell ⟨tb, i, none⟩ u) := ⟨rfl, rfl, rfl, by simp, fun k _ _ h2 _ => Below.heap_setCell w ⟨tb, i, none⟩ u k h2⟩
theorem HandK.trans {p tb : Nat} {row : Option Nat} {a b c : World} (h : HandK p tb row a b) (k : HandK p tb row b c) : HandK p tb row a c :=
  ⟨k.os.trans h.os, k.tape.trans h.tape, k.output.trans h.output, Nat.le_trans h.size k.size, fun i hi h1 h2 h3 => (k.block i (Nat.lt_of_lt_of_le hi h.size) h1 h2 h3).trans (h.block i hi h1 h2 h3)⟩
theorem HandK.none_ {p tb : Nat} {row : Option Nat} {a b c : World} (h : HandK p tb row a b) (k : HandK p tb none b c) : HandK p tb row a c :=
  h.trans ⟨k.os, k.tape, k.output, k.size, fun i hi h1 h2 _ => k.block i hi h1 h2 (by simp)⟩
theorem befQ_due {u : Int} {x : Int × Int} (h : x.1 ≤ u) : befQ x (u + 1, 0) = true := by rw [befQ_iff]; left; show x.1 < u + 1; omega
theorem befQ_left {u : Int} {x : Int × Int} (h : u < x.1) (h2 : 0 ≤ x.2) : befQ x (u + 1, 0) = false := by rw [befQ_not]; show u + 1 < x.1 ∨ x.1 = u + 1 ∧ 0 ≤ x.2; omega
theorem take_due {u : Int} {D : List (Int × Int)} (h : SortQ D) : D.take (dueQ u D).length = dueQ u D ∧ D.drop (dueQ u D).length = leftQ u D := by
  have e := due_left u h
  exact ⟨(congrArg (List.take _) e).symm.trans List.take_left, (congrArg (List.drop _) e).symm.trans List.drop_left⟩
theorem laysQ_len (u : Int) (j : Nat) : ∀ (r : List (Int × Int)) (S : Nat → List (Int × Int)), (laysQ u S r j).length ≤ (S j).length + r.length
  | [], S => by simp [laysQ]
  | d :: r, S => by
    have h := laysQ_len u j r (layQ u S d)
    have h2 : (layQ u S d j).length ≤ (S j).length + 1 := by
      unfold layQ
      split
      · rw [insQ_len]; exact Nat.le_refl _
      · omega
    show (laysQ u (layQ u S d) r j).length ≤ _
    rw [List.length_cons]; omega
set_option maxRecDepth 100000 in
set_option maxHeartbeats 2000000 in
theorem hand_any (p nb tb wb B C u n c : Nat) (A : Option Addr) (S : Nat → List (Int × Int)) (V : Nat → Option Addr × Nat) (v : Value) (D told : List (Int × Int)) (w : World)
    (hn : QBox w nb 2 #[.int .i64 u]) (ht : QBox w tb 29 #[v]) (hwb : QBox w wb 24 #[.pointer (some ⟨p, 0, none⟩)]) (ho : OwnD w B v told) (hB : B ≤ w.heap.size)
    (hW : WhAt w C p u S V) (hd : DuesT w C A n c D) (hC : C ≤ B) (htbC : C ≤ tb) (htb : tb < B) (hwbB : wb < B) (hpB : p < B) (hu : u ≤ 253402300799)
    (hD : SlotOk D) (hpos : ∀ d ∈ D, 0 ≤ d.2) (htop : ∀ d ∈ D, d.1 ≤ 253402300799) (hSs : ∀ j, SortQ (S j)) (hSl : ∀ j, (S j).length + D.length ≤ 64) (hSn : ∀ d ∈ D, ∀ j, ∀ x ∈ S j, x.2 ≠ d.2) (hlen : told.length + D.length ≤ 64) :
    Calls Tryd.prog 42 #[.slice A n c, .pointer (some ⟨nb, 0, none⟩), .pointer (some ⟨tb, 0, none⟩), .pointer (some ⟨wb, 0, none⟩)] w fun e w' => (∃ v, e = .returned v) ∧ ∃ v', QBox w' tb 29 #[v'] ∧ OwnD w' B v' (told ++ dueQ u D) ∧ (∃ V', WhAt w' w'.heap.size p u (laysQ u S (leftQ u D)) V' ∧ RowsFrom w.heap.size (laysQ u S (leftQ u D)) V' S V) ∧ (leftQ u D = [] → WhAt w' C p u S V) ∧ HandK p tb v.ownBlock w w' := by
  obtain ⟨k0, hk0⟩ : ∃ k0, k0 = (dueQ u D).length := ⟨_, rfl⟩
  obtain ⟨htk, hdr⟩ := take_due (u := u) hD.sort
  rw [← hk0] at htk hdr
  have hkn : k0 ≤ n := by rw [hk0, ← hd.row.len]; exact List.length_filter_le _ _
  have hcap := hd.row.cap
  have htop2 := hd.row.top
  unfold maxLen at htop2
  have hn64 : n ≤ 64 := by rw [← hd.row.len]; exact hD.len
  have HSE := Lib.hid (fun (Z : World) (hr : DuesR Z Z.heap.size A n c D) => search_any A n c k0 D ((u : Int) + 1, 0) Z hr hkn (by omega)
    (fun x hx => by rw [htk] at hx; exact befQ_due (by simpa [dueQ] using (List.mem_filter.1 hx).2)) (fun x hx => by rw [hdr] at hx; obtain ⟨h1, h2⟩ := List.mem_filter.1 hx; exact befQ_left (by simpa using h2) (hpos x h1)))
  unfold dueV at HSE
  obtain ⟨a0, b0⟩ := box_three hn
  obtain ⟨a1, b1⟩ := box_three ht
  obtain ⟨a2, b2⟩ := box_three hwb
  have HN := Lib.hid hn; have HT := Lib.hid ht; have HWB := Lib.hid hwb; have HO := Lib.hid ho; have HW := Lib.hid hW; have HD := Lib.hid hd
  have HTK := Lib.hid htk; have HDR := Lib.hid hdr; have HLEN := Lib.hid hlen
  obtain ⟨At, nt, ct, rfl, _⟩ := ho.rowN
  clear hn ht hwb ho hW hd hk0 htk hdr
  go_enter Tryd.func42, Tryd.ntmps42
  go_wp2_with fail
  refine (HSE.out w (HD.out.row.mono (by omega))).mono ?_
  rintro e w1 ⟨⟨bo, rfl⟩, hb1⟩
  have HN1 := Lib.hid (HN.out.belowAll hb1); have HT1 := Lib.hid (HT.out.belowAll hb1); have HWB1 := Lib.hid (HWB.out.belowAll hb1)
  have HO1 := Lib.hid (HO.out.below hb1); have HW1 := Lib.hid (HW.out.below (hb1.mono (show C ≤ w.heap.size by omega))); have HD1 := Lib.hid (HD.out.below (hb1.mono (by omega)))
  have HK1 := Lib.hid (HandK.of (p := p) (tb := tb) (row := (Value.slice At nt ct).ownBlock) hb1)
  have HB1 := Lib.hid (Nat.le_trans hB hb1.size)
  have HDS := Lib.hid (show A = none → (k0 : Nat) = 0 from fun e => by
    rcases HD1.out.shape with ⟨_, h⟩ | ⟨b, o, h⟩
    · omega
    · rw [h] at e; cases e)
  clear a0 b0 a1 b1 a2 b2 HN HT HWB HO HW HD hb1 HSE
  obtain ⟨a1, b1⟩ := box_three HT1.out
  have k0a : (0 : Int) ≤ (k0 : Int) := by omega
  have k0b : (k0 : Int) ≤ (n : Int) := by omega
  have k0c : (k0 : Int) ≤ (c : Int) := by omega
  have k0d : (n : Int) ≤ (c : Int) := by omega
  have HDL := Lib.hid (show (D.take k0).length ≤ D.length by rw [List.length_take]; exact Nat.min_le_right _ _)
  have HHL := Lib.hid (show told.length + k0 ≤ 100 by have := HLEN.out; have := HD1.out.row.len; omega)
  go_wp2_with fail
  go_region_law (refine step_own9 (n := 100) rfl _ _ rfl rfl rfl (show OwnD w1.drew B _ told from HO1.out) ((HD1.out.row.take k0 k0 (by omega) (Nat.le_refl _) (by omega)).drewN 1) HB1.out HHL.out (by decide) HDS.out ?_; intro v4 w4 hown4 hg4 ha4; (have hn4 := QBox.grown (a := w1.drew) (show QBox w1.drew tb _ _ from HT1.out) hg4 (fun e => by have := (World.ownsRow.lt HO1.out _ e).1; omega)); (have e4 := hn4.cell 0); (have f4 := hn4.frozen 0); (have hr4 := hown4.rowN); obtain ⟨A4, n4, c4, rfl, _⟩ := hr4)
  have hbC : Below C w1 (w4.setCell ⟨tb, 0, none⟩ (.slice A4 n4 c4)) := Below.setCell ((Below.refl C w1).drew.grown hg4 (by have := HB1.out; show C ≤ w1.heap.size; omega) (fun k e => by have := (World.ownsRow.lt HO1.out k e).1; omega)) htbC _
  have HWB3 := Lib.hid ((QBox.grown (a := w1.drew) (show QBox w1.drew wb _ _ from HWB1.out) hg4 (fun e => by have := (World.ownsRow.lt HO1.out _ e).1; omega)).far (p := tb) (i := 0) (fun e => by
    have h1 := HWB1.out
    have h2 := HT1.out
    unfold QBox at h1 h2
    rw [e, h2] at h1
    injection h1 with h1
    injection h1 with _ h3 _
    exact absurd h3 (by decide)) (.slice A4 n4 c4))
  have HT3 := Lib.hid (hn4.set 0 (.slice A4 n4 c4))
  have HO3 := Lib.hid (hown4.far (i := 0) htb (.slice A4 n4 c4))
  have HK3 := Lib.hid ((HK1.out.trans (show HandK p tb (Value.slice At nt ct).ownBlock w1 w1.drew from ⟨rfl, rfl, rfl, Nat.le_refl _, fun _ _ _ _ _ => rfl⟩)).trans ((HandK.grown (p := p) (tb := tb) (show w1.drew.grownBy w4 (Value.slice At nt ct).ownBlock from hg4)).trans (HandK.set w4 (.slice A4 n4 c4) (i := 0))))
  have HW3 := Lib.hid (HW1.out.below hbC)
  have HD3 := Lib.hid (HD1.out.below hbC)
  have HBS := Lib.hid (show B ≤ (w4.setCell ⟨tb, 0, none⟩ (.slice A4 n4 c4)).heap.size by have h1 : w1.heap.size ≤ w4.heap.size := hg4.size; have := HB1.out; simp; omega)
  clear hbC hn4 hown4 hg4 ha4 e4 f4 HN1 HT1 HWB1 HO1 HW1 HD1 HK1 a1 b1
  generalize w4.setCell ⟨tb, 0, none⟩ (.slice A4 n4 c4) = W3 at *
  by_cases hck : c = k0
  · have hnk : n = k0 := by omega
    subst hck
    subst hnk
    have HLE := Lib.hid (show leftQ (u : Int) D = [] by rw [← HDR.out, List.drop_eq_nil_iff, HD3.out.row.len]; exact Nat.le_refl _)
    go_wp2_with fail
    go_loopw [27] (fun i wr => i = .int .i64 0 ∧ wr = W3) (fun _ _ => 0)
    case atStart => exact ⟨rfl, rfl⟩
    case round =>
      obtain ⟨rfl, rfl⟩ := hrel
      go_wp2_with fail
      go_end0
      refine ⟨⟨_, rfl⟩, _, HT3.out, ?_, ⟨V, ?_, ?_⟩, fun _ => HW3.out, HK3.out⟩
      · rw [← HTK.out]; exact HO3.out
      · rw [HLE.out]; exact HW3.out.mono (by have := HBS.out; omega)
      · rw [HLE.out]; exact RowsFrom.refl _ _ _
  · obtain ⟨b, o, rfl⟩ : ∃ b o, A = some ⟨b, o, none⟩ := by
      rcases HD3.out.shape with ⟨_, h⟩ | h
      · omega
      · exact h
    obtain ⟨R, hR⟩ : ∃ R, R = leftQ (u : Int) D := ⟨_, rfl⟩
    have HRR := Lib.hid (hR.trans HDR.out.symm)
    have HLR := Lib.hid (show R.length = n - k0 by rw [HRR.out, List.length_drop, HD3.out.row.len])
    have HDR3 := Lib.hid (show DuesT W3 C (some ⟨b, o, none⟩) n c D from HD3.out)
    have HRM := Lib.hid (show ∀ d ∈ R, d ∈ D ∧ (u : Int) < d.1 from fun d hd => by rw [hR] at hd; obtain ⟨h1, h2⟩ := List.mem_filter.1 hd; exact ⟨h1, by simpa using h2⟩)
    have HRN := Lib.hid (show R.Pairwise (fun a b => a.2 ≠ b.2) by rw [hR]; exact List.Pairwise.filter _ hD.nums)
    have HRL := Lib.hid hR
    have HSS := Lib.hid hSs; have HSL := Lib.hid hSl; have HSN := Lib.hid hSn; have HTOP := Lib.hid htop
    clear hR hSs hSl hSn htop hpos hD hlen
    go_wp2_with fail
    go_loopw [27] (fun i wr => ∃ (k : Nat) (V' : Nat → Option Addr × Nat), k ≤ n - k0 ∧ i = .int .i64 k ∧ WhAt wr wr.heap.size p u (laysQ u S (R.take k)) V' ∧ Only p W3 wr ∧ Hid (k = 0 → wr = W3) ∧ Hid (RowsFrom w.heap.size (laysQ u S (R.take k)) V' S V)) (fun i _ => (n - k0) - (intOf i).toNat)
    case atStart => exact ⟨0, V, by omega, rfl, HW3.out.mono (by have := HBS.out; omega), Only.refl _ _, Lib.hid (fun _ => rfl), Lib.hid (RowsFrom.refl _ _ _)⟩
    case round =>
      obtain ⟨k, V', hk, rfl, hw, honly, HZ0, HRF⟩ := hrel
      have HWR := Lib.hid hw; have HOR := Lib.hid honly
      by_cases hlt : k < n - k0
      · have hkR : k < R.length := by rw [HLR.out]; exact hlt
        obtain ⟨y, hy⟩ : ∃ y, R[k]? = some y := ⟨_, List.getElem?_eq_getElem hkR⟩
        have hpt : ∃ cs f, W3.heap[p]? = some (.cells cs 78 f) := by obtain ⟨cs, h, _⟩ := HW3.out.ty; exact ⟨cs, _, h⟩
        have HDK := Lib.hid (DuesT.keep (w' := wr) HDR3.out (fun b' hb' cs f hc => by
          obtain ⟨cs2, f2, h2⟩ := hpt
          exact honly.block b' (by have := HBS.out; omega) (fun e => by subst e; rw [h2] at hc; injection hc with hc; injection hc with _ h3 _; exact absurd h3 (by decide))))
        have hyD : D[k0 + k]? = some y := by rw [HRR.out, List.getElem?_drop] at hy; exact hy
        obtain ⟨b', o', hA, hlb, x0, x1⟩ := HDK.out.row.at_ (k0 + k) y hyD
        injection hA with hA
        injection hA with h1 h2 h3
        subst h1 h2
        have hoff : o + (k0 + k) * 2 = o + k0 * 2 + k * 2 := by omega
        rw [hoff] at x0 x1
        have hbl : b < wr.heap.size := by have := HBS.out; have := honly.size; omega
        have hbn := Nat.ne_of_lt hbl
        have hym := HRM.out y (List.mem_of_getElem? hy)
        have htk : R.take (k + 1) = R.take k ++ [y] := by rw [List.take_add_one, hy]; rfl
        have hls : laysQ u S (R.take (k + 1)) = layQ u (laysQ u S (R.take k)) y := by rw [htk, laysQ_snoc]
        have HLS := Lib.hid hls
        obtain ⟨a2, b2⟩ := box_three (show QBox wr wb 24 #[.pointer (some ⟨p, 0, none⟩)] from (honly.block wb HWB3.out.lt (fun e => by
          obtain ⟨cs2, f2, h2⟩ := hpt
          have h1 := HWB3.out
          unfold QBox at h1
          rw [e, h2] at h1
          injection h1 with h1
          injection h1 with _ h3 _
          exact absurd h3 (by decide))).trans HWB3.out)
        have hwl : wb < wr.heap.size := by have := HBS.out; have := honly.size; omega
        have hwn := Nat.ne_of_lt hwl
        have hsub : ∀ x ∈ R.take k, x ∈ R := fun x hx => List.mem_of_mem_take hx
        have hsort := laysQ_sort (u := (u : Int)) (r := R.take k) HSS.out (List.Pairwise.sublist (List.take_sublist _ _) HRN.out) (fun d hd j x hx => HSN.out d (HRM.out d (hsub d hd)).1 j x hx)
        have hlen64 : ∀ j, (laysQ u S (R.take k) j).length ≤ 64 := fun j => by
          have h1 := laysQ_len u j (R.take k) S
          have h2 := HSL.out j
          have h3 : (R.take k).length ≤ D.length := by
            have h4 := HLR.out
            have h5 := HDR3.out.row.len
            rw [List.length_take]; omega
          omega
        have hnew : ∀ j, ∀ x ∈ laysQ u S (R.take k) j, x.2 ≠ y.2 := fun j x hx => by
          rcases laysQ_mem.1 hx with hx | ⟨hx, _⟩
          · exact HSN.out y hym.1 j x hx
          · have hp := HRN.out
            have hp2 : (R.take (k + 1)).Pairwise (fun a b => a.2 ≠ b.2) := List.Pairwise.sublist (List.take_sublist _ _) hp
            rw [htk] at hp2
            exact (List.pairwise_append.1 hp2).2.2 x hx y (List.mem_singleton.2 rfl)
        obtain ⟨y0, y1⟩ := y
        obtain ⟨d0, rfl⟩ := Int.eq_ofNat_of_zero_le (show 0 ≤ y0 by have := hym.2; dsimp only at this; omega)
        have HLAY := Lib.hid (fun (W : World) (hW : WhAt W W.heap.size p u (laysQ u S (R.take k)) V') => lay_any9 p u d0 y1 (laysQ u S (R.take k)) V' W hW (by have := hym.2; dsimp only at this; omega) (by have := HTOP.out _ hym.1; dsimp only at this; omega) (hsort _) (hlen64 _) (hnew _))
        unfold dueV at HLAY
        rw [← hls] at HLAY
        dsimp only at x0 x1 HLAY
        have hW4 := (Below.refl wr.heap.size wr).alloc (Nat.le_refl _) (.cells #[.int .i64 (d0 : Int), .int .u64 y1] 39)
        have HB4 := Lib.hid hW4
        have HW4 := Lib.hid ((HWR.out.below hW4).mono hW4.size)
        have hkk : (0 : Int) ≤ (k : Int) := by omega
        have hkl : (k : Int) < ((n - k0 : Nat) : Int) := by omega
        clear hW4 hw honly hy hyD hym htk hls hsub hsort hlen64 hnew hkR hpt hlb hoff HDK
        go_wp2_with fail
        refine (HLAY.out _ HW4.out).mono ?_
        rintro e w5 ⟨⟨v5, rfl⟩, ⟨V5, hV5, hf5⟩, ho5⟩
        have HV5 := Lib.hid hV5
        have HF5 := Lib.hid (HRF.out.trans hf5 (by have h1 := HK3.out.size; have h2 := HOR.out.size; have h3 := HB4.out.size; omega))
        clear hf5
        have HO5 := Lib.hid ((HOR.out.trans (Only.of HB4.out)).trans ho5)
        clear hV5 ho5 x0 x1 a2 b2
        go_wp2_with fail
        go_roundw
        case rel => exact ⟨k + 1, V5, by omega, by go_num, HV5.out, HO5.out, Lib.hid (fun h => by omega), HF5⟩
        case measure => simp [intOf]; omega
      · have hkk : k = n - k0 := by omega
        have htk : R.take k = R := List.take_of_length_le (by rw [HLR.out]; omega)
        rw [htk, HRL.out] at HWR HRF
        have hpt : ∃ cs f, W3.heap[p]? = some (.cells cs 78 f) := by obtain ⟨cs, h, _⟩ := HW3.out.ty; exact ⟨cs, _, h⟩
        have HT5 := Lib.hid (show QBox wr tb 29 #[.slice A4 n4 c4] from (HOR.out.block tb HT3.out.lt (fun e => by
          obtain ⟨cs2, f2, h2⟩ := hpt
          have h1 := HT3.out
          unfold QBox at h1
          rw [e, h2] at h1
          injection h1 with h1
          injection h1 with _ h3 _
          exact absurd h3 (by decide))).trans HT3.out)
        have HO5 := Lib.hid (show OwnD wr B (.slice A4 n4 c4) (told ++ D.take k0) from by
          refine ⟨HO3.out.1, ?_⟩
          rcases HO3.out.2 with h2 | ⟨g, cap, cur, hv, hg, hh, r⟩
          · exact .inl h2
          · exact .inr ⟨g, cap, cur, hv, hg, (HOR.out.block g (Array.getElem?_eq_some_iff.1 hh).1 (by omega)).trans hh, r⟩)
        rw [HTK.out] at HO5
        have HKE := Lib.hid (HK3.out.trans (HandK.only HOR.out))
        have HNIL := Lib.hid (show leftQ (u : Int) D = [] → WhAt wr C p u S V from fun h => by
          have h1 := HLR.out
          rw [HRL.out, h, List.length_nil] at h1
          rw [HZ0.out (by omega)]
          exact HW3.out)
        clear hw honly htk hpt
        go_wp2_with fail
        go_end0
        exact ⟨⟨_, rfl⟩, _, HT5.out, HO5.out, ⟨_, HWR.out, HRF.out⟩, HNIL.out, HKE.out⟩
end Go.Proofs.YtidgiohjgkfjcaaDoor
