/- Texts of this seat, one behind the other: GRRead, GRMac2. -/
import Derived.Test.YtbaobjbckabnhaaGreatDoorK5
import Derived.Test.YtbaobjbckabnhaaGreatDoorK6
/- The document's Read: walked. -/
namespace Go.Proofs.YtbaobjbckabnhaaGreatDoor
open Go.RowKit

/-- A row of words reads ws. -/
def WordsAt (w : World) (A : Option Addr) (ws : List (Nat × List UInt8)) : Prop := ∀ k x, ws[k]? = some x → ∃ g, A = some ⟨g, 0, none⟩ ∧ g < w.heap.size ∧ w.cell? ⟨g, k * 2, none⟩ = some (.int .i64 (x.1 : Int)) ∧ w.cell? ⟨g, k * 2 + 1, none⟩ = some (.string ⟨x.2.toArray⟩)
theorem WordsAt.on {w w' : World} {A : Option Addr} {ws : List (Nat × List UInt8)} (h : WordsAt w A ws) (hb : Below w.heap.size w w') : WordsAt w' A ws := fun k x hx => by
  obtain ⟨g, e, hg, h0, h1⟩ := h k x hx
  exact ⟨g, e, Nat.lt_of_lt_of_le hg hb.size, (hb.cell (p := ⟨g, k * 2, none⟩) hg).trans h0, (hb.cell (p := ⟨g, k * 2 + 1, none⟩) hg).trans h1⟩
theorem WordsAt.far {w : World} {g p i : Nat} {ws : List (Nat × List UInt8)} (h : WordsAt w (some ⟨g, 0, none⟩) ws) (hp : g ≠ p) (u : Value) : WordsAt (w.setCell ⟨p, i, none⟩ u) (some ⟨g, 0, none⟩) ws := fun k x hx => by
  obtain ⟨g', e, hg, h0, h1⟩ := h k x hx
  obtain rfl : g = g' := congrArg Addr.block (Option.some.inj e)
  have he := Below.heap_setCell w ⟨p, i, none⟩ u g hp
  have hc : ∀ o, (w.setCell ⟨p, i, none⟩ u).cell? ⟨g, o, none⟩ = w.cell? ⟨g, o, none⟩ := fun o => by
    unfold World.cell?
    simp only
    rw [he]
  exact ⟨g, rfl, by simpa using hg, (hc _).trans h0, (hc _).trans h1⟩
theorem wenc_at : ∀ (ws : List (Nat × List UInt8)) (k : Nat) (x : Nat × List UInt8), ws[k]? = some x → (ws.flatMap wenc)[k * 2]? = some (.int .i64 (x.1 : Int)) ∧ (ws.flatMap wenc)[k * 2 + 1]? = some (.string ⟨x.2.toArray⟩)
  | [], _, _, h => by simp at h
  | a :: ws, 0, x, h => by
    simp at h
    subst h
    exact ⟨rfl, rfl⟩
  | a :: ws, k + 1, x, h => by
    have := wenc_at ws k x (by simpa using h)
    rw [List.flatMap_cons]
    refine ⟨?_, ?_⟩
    · rw [List.getElem?_append_right (by show 2 ≤ _; omega)]
      rw [show (k + 1) * 2 - (wenc a).length = k * 2 by show (k + 1) * 2 - 2 = _; omega]
      exact this.1
    · rw [List.getElem?_append_right (by show 2 ≤ _; omega)]
      rw [show (k + 1) * 2 + 1 - (wenc a).length = k * 2 + 1 by show (k + 1) * 2 + 1 - 2 = _; omega]
      exact this.2
theorem words_at {w : World} {base : Nat} {v : Value} {ws : List (Nat × List UInt8)} (h : w.ownsRow base 95 2 v ws.length (ws.flatMap wenc)) : ∃ A c, v = .slice A ws.length c ∧ WordsAt w A ws := by
  obtain ⟨A, c, rfl⟩ := own_slice0 h
  refine ⟨A, c, rfl, fun k x hx => ?_⟩
  have hk := (List.getElem?_eq_some_iff.1 hx).1
  obtain ⟨e0, e1⟩ := wenc_at ws k x hx
  rcases h.2 with ⟨hv, h0⟩ | ⟨g, cap, cur, hv, hg, hh, _⟩
  · omega
  · injection hv with e1' e2' e3'
    subst e1'
    exact ⟨g, rfl, (Array.getElem?_eq_some_iff.1 hh).1, by rw [h.cellAt _ (by omega), e0], by rw [h.cellAt _ (by omega), e1]⟩
theorem words_tot (s : List UInt8) : (wordsL s).length ≤ s.length ∧ ∀ x ∈ wordsL s, x.2 ≠ [] ∧ x.1 + x.2.length ≤ s.length := by
  have h := words_count s 0 none
  have e : (none : Option (Nat × List UInt8)).toList.length = 0 := rfl
  refine ⟨by unfold wordsL; omega, fun x hx => ?_⟩
  have := words_in s 0 none (fun _ e => by cases e) x hx
  exact ⟨this.1, by omega⟩
def rreadC (s : List UInt8) : Value := match readC s with
  | (some l, _) => .tuple #[cronV l, .int .i64 0, .bool true]
  | (none, p) => .tuple #[cronV nilF, .int .i64 (p : Nat), .bool false]
theorem rreadC_some {s : List UInt8} {l : List (BitVec 64)} {p : Nat} (h : readC s = (some l, p)) : rreadC s = .tuple #[cronV l, .int .i64 0, .bool true] := by unfold rreadC; rw [h]
theorem rreadC_none {s : List UInt8} {p : Nat} (h : readC s = (none, p)) : rreadC s = .tuple #[cronV nilF, .int .i64 (p : Nat), .bool false] := by unfold rreadC; rw [h]
/-- Five masks in an array. -/
def FiveAt (w : World) (g : Nat) (L : List (BitVec 64)) : Prop := L.length = 5 ∧ D.Box w g 97 (L.map menc).toArray
theorem FiveAt.zero (w : World) : FiveAt (w.alloc (.cells #[.int .u64 0, .int .u64 0, .int .u64 0, .int .u64 0, .int .u64 0] 97)) w.heap.size nilF := ⟨rfl, D.Box.new _ _ _⟩
theorem FiveAt.on {w w' : World} {g : Nat} {L : List (BitVec 64)} (h : FiveAt w g L) (hb : Below w.heap.size w w') : FiveAt w' g L := ⟨h.1, D.Box.belowAll h.2 hb⟩
theorem FiveAt.cell {w : World} {g : Nat} {L : List (BitVec 64)} (h : FiveAt w g L) {k : Nat} (hk : k < 5) : w.cell? ⟨g, k, none⟩ = some (.int .u64 (U (L.getD k 0#64))) := by
  rw [D.Box.cell h.2 k, List.getElem?_toArray, List.getElem?_map, List.getD_eq_getElem?_getD, List.getElem?_eq_getElem (by rw [h.1]; exact hk)]; rfl
theorem FiveAt.set {w : World} {g : Nat} {L : List (BitVec 64)} (h : FiveAt w g L) (k : Nat) (m : BitVec 64) : FiveAt (w.setCell ⟨g, k, none⟩ (.int .u64 (U m))) g (L.set k m) := by
  refine ⟨by rw [List.length_set]; exact h.1, ?_⟩
  have := D.Box.set h.2 k (menc m)
  rw [List.map_set, ← List.setIfInBounds_toArray]
  exact this
theorem first_at (b : UInt8) (t : List UInt8) (h : 0 < (⟨(b :: t).toArray⟩ : ByteArray).size) : (⟨(b :: t).toArray⟩ : ByteArray)[0] = b := rfl
set_option maxRecDepth 100000 in
set_option maxHeartbeats 4000000 in
theorem rread_plain (s : List UInt8) (w : World) (hs : s.length ≤ 256) (h64 : ∀ x, (wordsL s).head? = some x → x.2.head? ≠ some 64) :
    Calls Tryz.prog 31 #[strV s] w fun e w' => e = .returned (rreadC s) ∧ Below w.heap.size w w' := by
  have hrd : readC s = readW s.length 0 (wordsL s) [] := by
    unfold readC
    cases h : wordsL s with
    | nil => rfl
    | cons x xs =>
      simp only
      rw [if_neg (h64 x (by rw [h]; rfl))]
  have HQ := Lib.hid (rwords_any ⟨s.toArray⟩ (w.alloc (.cells #[.int .u64 0, .int .u64 0, .int .u64 0, .int .u64 0, .int .u64 0] 31)) (by show s.toArray.size ≤ 256; simpa using hs))
  rw [show (⟨s.toArray⟩ : ByteArray).data.toList = s by simp] at HQ
  obtain ⟨hn, hwd⟩ := words_tot s
  have HV := Lib.hid (fun p (h : readC s = (none, p)) => rreadC_none h)
  have HS := Lib.hid (fun l p (h : readC s = (some l, p)) => rreadC_some h)
  have HR := Lib.hid hrd
  clear hrd
  unfold strV
  have hsz : (⟨s.toArray⟩ : ByteArray).size = s.length := by show s.toArray.size = _; simp
  generalize hws : wordsL s = ws at *
  clear hws
  go_enter Tryz.func31, Tryz.ntmps31
  go_wp2_with fail
  refine HQ.out.mono ?_
  rintro x w1 ⟨v, rfl, hown, hb⟩
  obtain ⟨A, c, rfl, hwa⟩ := words_at hown
  have HC0 := Lib.hid ((CronAt.zero w).on hb)
  have HB1 := Lib.hid (((Below.refl w.heap.size w).alloc (Nat.le_refl _) (.cells #[.int .u64 0, .int .u64 0, .int .u64 0, .int .u64 0, .int .u64 0] 31)).trans (hb.mono (by simp)))
  have HWA := Lib.hid hwa
  clear hown hb hwa HQ
  cases ws with
  | nil =>
    go_wp2_with fail
    have HF2 := Lib.hid (FiveAt.zero w1)
    have HB2 := Lib.hid (HB1.out.alloc HB1.out.size (.cells #[.int .u64 0, .int .u64 0, .int .u64 0, .int .u64 0, .int .u64 0] 97))
    have HC2 := Lib.hid (HC0.out.alloc (.cells #[.int .u64 0, .int .u64 0, .int .u64 0, .int .u64 0, .int .u64 0] 97))
    have HW2 := Lib.hid (HWA.out.on ((Below.refl _ w1).alloc (Nat.le_refl _) (.cells #[.int .u64 0, .int .u64 0, .int .u64 0, .int .u64 0, .int .u64 0] 97)))
    have hgw : w.heap.size < w1.heap.size := HC0.out.lt
    generalize w1.alloc _ = w2 at *
    clear HWA HB1 HC0
    go_loopw [8, 9, 10, 11, 12, 55] (fun _ _ _ _ _ i wr => ∃ (k : Nat) (acc : List (BitVec 64)), k ≤ ([] : List (Nat × List UInt8)).length ∧ k ≤ 5 ∧ acc.length = k ∧ i = .int .i64 (k : Int) ∧ Below w.heap.size w wr ∧ CronAt wr w.heap.size nilF ∧ WordsAt wr A ([] : List (Nat × List UInt8)) ∧ FiveAt wr w1.heap.size (acc ++ List.replicate (5 - k) 0#64) ∧ readC s = readW s.length k (([] : List (Nat × List UInt8)).drop k) acc) (fun _ _ _ _ _ i _ => ([] : List (Nat × List UInt8)).length - (intOf i).toNat)
    case atStart => exact ⟨0, [], Nat.zero_le _, by omega, rfl, rfl, HB2.out, HC2.out, HW2.out, HF2.out, HR.out⟩
    case round =>
      clear HB2 HC2 HW2 HF2 HR
      obtain ⟨k, acc, hk, hk5, hacc, rfl, hb, hc, hw, hf, hr⟩ := hrel
      have HB := Lib.hid hb; have HC := Lib.hid hc; have HW := Lib.hid hw; have HF := Lib.hid hf; have HR := Lib.hid hr
      clear hb hc hw hf hr
      have hk0 : k = 0 := by simpa using hk
      subst hk0
      obtain ⟨z0, z1, z2, z3, z4⟩ := HC.out.five
      have f0 := HC.out.frozen 0; have f1 := HC.out.frozen 1; have f2 := HC.out.frozen 2; have f3 := HC.out.frozen 3; have f4 := HC.out.frozen 4
      have hv := Lib.hid (HV.out s.length (HR.out.trans rfl))
      go_wp2_with fail
      refine bodyPost_ret (v := .tuple #[.agg #[.int .u64 0, .int .u64 0, .int .u64 0, .int .u64 0, .int .u64 0], .int .i64 (s.length : Int), .bool false]) (by simp [results, Tryz.f31, go_sem, z0, z1, z2, z3, z4]) rfl ⟨by rw [hv.out]; rfl, below_five HB.out (Nat.le_refl _) _ _ _ _ _⟩
  | cons x xs =>
    obtain ⟨hx1, hx2⟩ := hwd x (List.mem_cons_self ..)
    obtain ⟨xa, xt⟩ := x
    cases xt with
    | nil => exact absurd rfl hx1
    | cons b t =>
      have hb64 : b ≠ 64 := fun e => h64 (xa, b :: t) rfl (by simp [e])
      have hb' : ((((⟨(b :: t).toArray⟩ : ByteArray)[0]'(by show 0 < (b :: t).toArray.size; simp)).toNat : Int) == 64) = false := by
        rw [first_at, beq_eq_false_iff_ne]; intro e; exact hb64 (by apply UInt8.toNat_inj.1; have : (64 : UInt8).toNat = 64 := rfl; omega)
      obtain ⟨g, rfl, hg, k0, k1⟩ := HWA.out 0 (xa, b :: t) rfl
      have hlen0 : (0 : Int) < ((((xa, b :: t) :: xs).length : Nat) : Int) := by simp
      generalize hxs : ((xa, b :: t) :: xs) = ws at *
      go_wp2_with fail
      have HF2 := Lib.hid (FiveAt.zero w1)
      have HB2 := Lib.hid (HB1.out.alloc HB1.out.size (.cells #[.int .u64 0, .int .u64 0, .int .u64 0, .int .u64 0, .int .u64 0] 97))
      have HC2 := Lib.hid (HC0.out.alloc (.cells #[.int .u64 0, .int .u64 0, .int .u64 0, .int .u64 0, .int .u64 0] 97))
      have HW2 := Lib.hid (HWA.out.on ((Below.refl _ w1).alloc (Nat.le_refl _) (.cells #[.int .u64 0, .int .u64 0, .int .u64 0, .int .u64 0, .int .u64 0] 97)))
      have hgw : w.heap.size < w1.heap.size := HC0.out.lt
      generalize w1.alloc _ = w2 at *
      clear HWA HB1 HC0
      go_loopw [8, 9, 10, 11, 12, 55] (fun _ _ _ _ _ i wr => ∃ (k : Nat) (acc : List (BitVec 64)), k ≤ ws.length ∧ k ≤ 5 ∧ acc.length = k ∧ i = .int .i64 (k : Int) ∧ Below w.heap.size w wr ∧ CronAt wr w.heap.size nilF ∧ WordsAt wr (some ⟨g, 0, none⟩) ws ∧ FiveAt wr w1.heap.size (acc ++ List.replicate (5 - k) 0#64) ∧ readC s = readW s.length k (ws.drop k) acc) (fun _ _ _ _ _ i _ => ws.length - (intOf i).toNat)
      case atStart => exact ⟨0, [], Nat.zero_le _, by omega, rfl, rfl, HB2.out, HC2.out, HW2.out, HF2.out, HR.out⟩
      case round =>
        clear HB2 HC2 HW2 HF2 HR
        obtain ⟨k, acc, hk, hk5, hacc, rfl, hb, hc, hw, hf, hr⟩ := hrel
        have HB := Lib.hid hb; have HC := Lib.hid hc; have HW := Lib.hid hw; have HF := Lib.hid hf; have HR := Lib.hid hr
        clear hb hc hw hf hr
        obtain ⟨z0, z1, z2, z3, z4⟩ := HC.out.five
        have f0 := HC.out.frozen 0; have f1 := HC.out.frozen 1; have f2 := HC.out.frozen 2; have f3 := HC.out.frozen 3; have f4 := HC.out.frozen 4
        by_cases hlt : k < ws.length
        · obtain ⟨⟨ya, yt⟩, hy⟩ : ∃ y, ws[k]? = some y := ⟨_, List.getElem?_eq_getElem hlt⟩
          obtain ⟨g2, hA, hg2, e0, e1⟩ := HW.out k (ya, yt) hy
          obtain ⟨hy1, hy2⟩ := hwd (ya, yt) (List.mem_of_getElem? hy)
          have hdr : ws.drop k = (ya, yt) :: ws.drop (k + 1) := by
            rw [List.drop_eq_getElem_cons hlt]
            rw [List.getElem?_eq_getElem hlt] at hy
            rw [Option.some.inj hy]
          obtain rfl : g = g2 := congrArg Addr.block (Option.some.inj hA)
          simp only at hy1 hy2 e0 e1
          have HD := Lib.hid hdr
          have hlt' : (k : Int) < (ws.length : Int) := by omega
          clear hdr hy
          by_cases h5 : k = 5
          · have hk5' : ((k : Int) == 5) = true := by simp; omega
            have hv := Lib.hid (HV.out ya (HR.out.trans (by rw [HD.out, h5, readW, if_pos rfl])))
            have hgr := HC.out.lt
            clear h5
            go_wp2_with fail
            have HBq := Lib.hid (HB.out.alloc HB.out.size (.cells #[.int .i64 (ya : Int), .string ⟨yt.toArray⟩] 95)); have HCq := Lib.hid (HC.out.alloc (.cells #[.int .i64 (ya : Int), .string ⟨yt.toArray⟩] 95))
            have q0 : (wr.alloc (.cells #[.int .i64 (ya : Int), .string ⟨yt.toArray⟩] 95)).cell? ⟨wr.heap.size, 0, none⟩ = some (.int .i64 (ya : Int)) := by go_simp
            clear z0 z1 z2 z3 z4 f0 f1 f2 f3 f4 e0 e1
            generalize wr.alloc _ = wq at *
            obtain ⟨z0, z1, z2, z3, z4⟩ := HCq.out.five
            have f0 := HCq.out.frozen 0; have f1 := HCq.out.frozen 1; have f2 := HCq.out.frozen 2; have f3 := HCq.out.frozen 3; have f4 := HCq.out.frozen 4
            go_region
            go_wp2_with fail
            refine bodyPost_ret (v := .tuple #[.agg #[.int .u64 0, .int .u64 0, .int .u64 0, .int .u64 0, .int .u64 0], .int .i64 (ya : Int), .bool false]) (by simp [results, Tryz.f31, go_sem, z0, z1, z2, z3, z4]) rfl ⟨by rw [hv.out]; rfl, (below_five HBq.out (Nat.le_refl _) _ _ _ _ _).drew⟩
          · have hk5' : ((k : Int) == 5) = false := by simp; omega
            have hrw : readC s = if (readL k yt).2.2 = 0 then readW s.length (k + 1) (ws.drop (k + 1)) (acc ++ [(readL k yt).1]) else (none, ya + (readL k yt).2.1) := HR.out.trans (by rw [HD.out, readW, if_neg h5])
            have HRW := Lib.hid hrw
            have HU := Lib.hid (fun W => rread_l k yt W (by omega) (by unfold maxLen; omega))
            have hpl : (readL k yt).2.1 ≤ yt.length := by
              rcases readL_right (show k < 5 by omega) yt with ⟨_, h2, _⟩ | ⟨_, _, h2⟩ <;> omega
            clear hrw
            unfold readV strV at HU
            generalize readL k yt = r at *
            obtain ⟨m, p, z⟩ := r
            simp only at HU HRW hpl
            go_wp2_with fail
            have HBq := Lib.hid (HB.out.alloc HB.out.size (.cells #[.int .i64 (ya : Int), .string ⟨yt.toArray⟩] 95))
            have hal : Below wr.heap.size wr (wr.alloc (.cells #[.int .i64 (ya : Int), .string ⟨yt.toArray⟩] 95)) := (Below.refl _ wr).alloc (Nat.le_refl _) _
            have HCq := Lib.hid (HC.out.on hal); have HWq := Lib.hid (HW.out.on hal); have HFq := Lib.hid (HF.out.on hal)
            have HXq := Lib.hid (D.Box.new wr 95 #[.int .i64 (ya : Int), .string ⟨yt.toArray⟩])
            clear z0 z1 z2 z3 z4 f0 f1 f2 f3 f4 e0 e1 hal
            generalize wr.alloc _ = wq at *
            refine (HU.out _).mono ?_
            rintro x w3 ⟨rfl, hb⟩
            have HB3 := Lib.hid (HBq.out.trans (hb.mono HBq.out.size)); have HC3 := Lib.hid (HCq.out.on hb); have HW3 := Lib.hid (HWq.out.on hb); have HF3 := Lib.hid (HFq.out.on hb); have HX3 := Lib.hid (D.Box.belowAll HXq.out hb)
            clear hb
            have q0 : w3.cell? ⟨wr.heap.size, 0, none⟩ = some (.int .i64 (ya : Int)) := D.Box.cell HX3.out 0
            by_cases hz : z = 0
            · subst hz
              have hr2 := Lib.hid ((if_pos rfl : (if (0 : Int) = 0 then _ else _) = _).symm.trans HRW.out.symm |>.symm)
              have hkl : k < 5 := by omega
              have hki : (k : Int) < 5 := by omega
              have hcell := HF3.out.cell hkl
              have hfr : w3.frozen? ⟨w1.heap.size, k, none⟩ = false := D.Box.frozen HF3.out.2 k
              have hL : Hid ((acc ++ List.replicate (5 - k) 0#64).set k m = (acc ++ [m]) ++ List.replicate (5 - (k + 1)) 0#64) := Lib.hid (by
                rw [show 5 - k = (5 - (k + 1)) + 1 by omega, List.replicate_succ, List.set_append_right _ _ (by omega), hacc, Nat.sub_self]
                simp)
              clear HRW
              go_wp2_with fail
              go_roundw
              case rel => exact ⟨k + 1, acc ++ [m], hlt, hkl, by simp [hacc], by go_num, HB3.out.setCell (Nat.le_of_lt hgw) _, HC3.out.far (by omega) _, HW3.out.far (by omega) _, by rw [← hL.out]; exact HF3.out.set k m, hr2.out⟩
              case measure => simp [intOf]; omega
            · have hz' : (z == 0) = false := by simpa using hz
              have hv := Lib.hid (HV.out _ (HRW.out.trans (if_neg hz)))
              have hsum : Hid ((ya : Int) + (p : Int) = ((ya + p : Nat) : Int)) := Lib.hid (by omega)
              obtain ⟨z0, z1, z2, z3, z4⟩ := HC3.out.five
              have f0 := HC3.out.frozen 0; have f1 := HC3.out.frozen 1; have f2 := HC3.out.frozen 2; have f3 := HC3.out.frozen 3; have f4 := HC3.out.frozen 4
              have hgr := HC.out.lt
              clear HRW hz
              go_wp2_with fail
              go_region
              go_wp2_with fail
              refine bodyPost_ret (v := .tuple #[.agg #[.int .u64 0, .int .u64 0, .int .u64 0, .int .u64 0, .int .u64 0], .int .i64 ((ya : Int) + (p : Int)), .bool false]) (by simp [results, Tryz.f31, go_sem, z0, z1, z2, z3, z4]) rfl ⟨by rw [hv.out, hsum.out]; rfl, (below_five HB3.out (Nat.le_refl _) _ _ _ _ _).drew⟩
        · have hkn : k = ws.length := by omega
          have hdr : ws.drop k = [] := List.drop_eq_nil_of_le (by omega)
          have hlt' : decide ((k : Int) < (ws.length : Int)) = false := by simp; omega
          rw [hkn] at hlt'
          by_cases h5 : k = 5
          · have hr2 : readC s = (some acc, 0) := HR.out.trans (by rw [hdr, readW, if_pos h5])
            have hv := Lib.hid (HS.out _ _ hr2)
            have hl5 : decide ((ws.length : Int) < 5) = false := by simp; omega
            have hF5 : FiveAt wr w1.heap.size acc := by have := HF.out; rw [h5] at this; simpa using this
            obtain ⟨a0, a1, a2, a3, a4, rfl⟩ := list_five hF5.1
            have p0 : wr.cell? ⟨w1.heap.size, 0, none⟩ = some (.int .u64 (U a0)) := hF5.cell (k := 0) (by omega)
            have p1 : wr.cell? ⟨w1.heap.size, 1, none⟩ = some (.int .u64 (U a1)) := hF5.cell (k := 1) (by omega)
            have p2 : wr.cell? ⟨w1.heap.size, 2, none⟩ = some (.int .u64 (U a2)) := hF5.cell (k := 2) (by omega)
            have p3 : wr.cell? ⟨w1.heap.size, 3, none⟩ = some (.int .u64 (U a3)) := hF5.cell (k := 3) (by omega)
            have p4 : wr.cell? ⟨w1.heap.size, 4, none⟩ = some (.int .u64 (U a4)) := hF5.cell (k := 4) (by omega)
            clear hr2 hF5 h5 hdr z0 z1 z2 z3 z4 f0 f1 f2 f3 f4
            subst hkn
            go_wp2_with fail
            refine (rofive_any a0 a1 a2 a3 a4 wr).mono ?_
            rintro x w3 ⟨rfl, hb⟩
            have HB3 := Lib.hid (HB.out.trans (hb.mono HB.out.size)); have HC3 := Lib.hid (HC.out.on hb)
            clear hb
            obtain ⟨z0, z1, z2, z3, z4⟩ := HC3.out.five
            have f0 := HC3.out.frozen 0; have f1 := HC3.out.frozen 1; have f2 := HC3.out.frozen 2; have f3 := HC3.out.frozen 3; have f4 := HC3.out.frozen 4
            unfold fiveV
            go_wp2_with fail
            refine bodyPost_ret (v := .tuple #[.agg #[.int .u64 (U a0), .int .u64 (U a1), .int .u64 (U a2), .int .u64 (U a3), .int .u64 (U a4)], .int .i64 0, .bool true]) (by simp [results, Tryz.f31, go_sem, z0, z1, z2, z3, z4]) rfl ⟨by rw [hv.out]; rfl, below_five HB3.out (Nat.le_refl _) _ _ _ _ _⟩
          · have hv := Lib.hid (HV.out s.length (HR.out.trans (by rw [hdr, readW, if_neg h5])))
            have hl5 : (ws.length : Int) < 5 := by omega
            clear h5 hdr
            subst hkn
            go_wp2_with fail
            refine bodyPost_ret (v := .tuple #[.agg #[.int .u64 0, .int .u64 0, .int .u64 0, .int .u64 0, .int .u64 0], .int .i64 (s.length : Int), .bool false]) (by simp [results, Tryz.f31, go_sem, z0, z1, z2, z3, z4]) rfl ⟨by rw [hv.out]; rfl, below_five HB.out (Nat.le_refl _) _ _ _ _ _⟩
end Go.Proofs.YtbaobjbckabnhaaGreatDoor
/- The document's Read, with macros: walked. -/
namespace Go.Proofs.YtbaobjbckabnhaaGreatDoor
open Go.RowKit

theorem words_base {w : World} {base n c g o : Nat} {xs : List Value} (h : w.ownsRow base 95 2 (.slice (some ⟨g, o, none⟩) n c) n xs) : base ≤ g := by
  rcases h.2 with ⟨hv, _⟩ | ⟨g', cap, cur, hv, hg, _⟩
  · cases hv
  · injection hv with e1 e2 e3
    have := congrArg Addr.block (Option.some.inj e1)
    simp only at this
    omega
theorem macro_plain {l x : List UInt8} (h : macroL l = some x) : x.length ≤ 256 ∧ x ≠ [] ∧ ∀ y, (wordsL x).head? = some y → y.2.head? ≠ some 64 := by
  have key : ∀ x : List UInt8, x = [48, 32, 48, 32, 49, 32, 49, 32, 42] ∨ x = [48, 32, 48, 32, 49, 32, 42, 32, 42] ∨ x = [48, 32, 48, 32, 42, 32, 42, 32, 48] ∨ x = [48, 32, 48, 32, 42, 32, 42, 32, 42] ∨ x = [48, 32, 42, 32, 42, 32, 42, 32, 42] → x.length ≤ 256 ∧ x ≠ [] ∧ ∀ y, (wordsL x).head? = some y → y.2.head? ≠ some 64 := by
    rintro x (rfl | rfl | rfl | rfl | rfl) <;>
      exact ⟨by decide, by decide, fun y hy => by
        have e : y = (0, [48]) := (Option.some.inj hy).symm
        subst e; decide⟩
  refine key x ?_
  unfold macroL at h
  split at h
  · cases h; exact .inl rfl
  · split at h
    · cases h; exact .inr (.inl rfl)
    · split at h
      · cases h; exact .inr (.inr (.inl rfl))
      · split at h
        · cases h; exact .inr (.inr (.inr (.inl rfl)))
        · split at h
          · cases h; exact .inr (.inr (.inr (.inr rfl)))
          · cases h
theorem readC_mac {s t : List UInt8} {xa : Nat} {xs : List (Nat × List UInt8)} (hws : wordsL s = (xa, 64 :: t) :: xs) :
    (macroL (64 :: t) = none → readC s = (none, xa)) ∧ (∀ x v vs, macroL (64 :: t) = some x → xs = v :: vs → readC s = (none, v.1)) ∧ (∀ x, macroL (64 :: t) = some x → xs = [] → readC s = readC x) := by
  refine ⟨fun h => ?_, fun x v vs h hx => ?_, fun x h hx => ?_⟩
  · unfold readC; rw [hws]; simp [h]
  · subst hx; unfold readC; rw [hws]; simp [h]
  · subst hx
    obtain ⟨l, h1, h2, _⟩ := macro_reads h
    rw [h2]
    unfold readC; rw [hws]; simp [h, h1]
set_option maxRecDepth 100000 in
set_option maxHeartbeats 4000000 in
theorem rread7_any (s : List UInt8) (w : World) (hs : s.length ≤ 256) :
    Calls Tryz.prog 31 #[strV s] w fun e w' => e = .returned (rreadC s) ∧ Below w.heap.size w w' := by
  by_cases h64 : ∀ x, (wordsL s).head? = some x → x.2.head? ≠ some 64
  · exact rread_plain s w hs h64
  obtain ⟨xa, t, xs, hws⟩ : ∃ xa t xs, wordsL s = (xa, 64 :: t) :: xs := by
    cases h : wordsL s with
    | nil => exact absurd (fun x hx => by rw [h] at hx; cases hx) h64
    | cons x xs =>
      obtain ⟨xa, xt⟩ := x
      cases xt with
      | nil => exact absurd (fun y hy => by rw [h] at hy; cases hy; simp) h64
      | cons b t =>
        by_cases hb : b = 64
        · subst hb; exact ⟨xa, t, xs, rfl⟩
        · exact absurd (fun y hy => by rw [h] at hy; cases hy; simpa using hb) h64
  have HQ := Lib.hid (rwords_any ⟨s.toArray⟩ (w.alloc (.cells #[.int .u64 0, .int .u64 0, .int .u64 0, .int .u64 0, .int .u64 0] 31)) (by show s.toArray.size ≤ 256; simpa using hs))
  rw [show (⟨s.toArray⟩ : ByteArray).data.toList = s by simp] at HQ
  have HV := Lib.hid (fun p (h : readC s = (none, p)) => rreadC_none h)
  obtain ⟨hr1, hr2, hr3⟩ := readC_mac hws
  have HM := Lib.hid (fun W => rmacro_any (64 :: t) W)
  have h0' : ((((⟨(64 :: t).toArray⟩ : ByteArray)[0]'(by show 0 < (64 :: t).toArray.size; simp)).toNat : Int) == 64) = true := by rw [first_at]; rfl
  clear h64
  unfold strV at *
  cases hm : macroL (64 :: t) with
  | none =>
    rw [hm] at HM
    have hv := Lib.hid (HV.out xa (hr1 hm))
    have hlen0 : (0 : Int) < ((wordsL s).length : Int) := by rw [hws]; simp
    clear hm hr1 hr2 hr3
    go_enter Tryz.func31, Tryz.ntmps31
    go_wp2_with fail
    refine HQ.out.mono ?_
    rintro x' w1 ⟨v', rfl, hown, hb⟩
    obtain ⟨A, c, rfl, hwa⟩ := words_at hown
    have HC0 := Lib.hid ((CronAt.zero w).on hb)
    have HB1 := Lib.hid (((Below.refl w.heap.size w).alloc (Nat.le_refl _) (.cells #[.int .u64 0, .int .u64 0, .int .u64 0, .int .u64 0, .int .u64 0] 31)).trans (hb.mono (by simp)))
    clear hb HQ
    obtain ⟨g, rfl, hg, k0, k1⟩ := hwa 0 (xa, 64 :: t) (by rw [hws]; rfl)
    have hgw2 : w.heap.size < g := by have := words_base hown; simp at this; omega
    clear hown
    simp only [Nat.zero_mul, Nat.zero_add] at k0 k1
    clear hwa
    clear hws
    generalize wordsL s = ws at *
    obtain ⟨z0, z1, z2, z3, z4⟩ := HC0.out.five
    have f0 := HC0.out.frozen 0; have f1 := HC0.out.frozen 1; have f2 := HC0.out.frozen 2; have f3 := HC0.out.frozen 3; have f4 := HC0.out.frozen 4
    have hgw := HC0.out.lt
    go_wp2_with fail
    refine (HM.out _).mono ?_
    rintro x' w2 ⟨rfl, rfl⟩
    simp only [Option.getD_none]
    go_wp2_with fail
    go_region
    go_wp2_with fail
    refine bodyPost_ret (v := .tuple #[.agg #[.int .u64 0, .int .u64 0, .int .u64 0, .int .u64 0, .int .u64 0], .int .i64 (xa : Int), .bool false]) (by simp [results, Tryz.f31, go_sem, z0, z1, z2, z3, z4]) rfl ⟨by rw [hv.out]; rfl, (below_five HB1.out (Nat.le_refl _) _ _ _ _ _).drew⟩
  | some x =>
    rw [hm] at HM
    obtain ⟨hx1, hx2, hx3⟩ := macro_plain hm
    have hx4 : x.isEmpty = false := by cases x with | nil => exact absurd rfl hx2 | cons b t => rfl
    have hlen0 : (0 : Int) < ((wordsL s).length : Int) := by rw [hws]; simp
    simp only [Option.getD_some] at HM
    cases hxs : xs with
    | cons v vs =>
      have hv := Lib.hid (HV.out v.1 (hr2 x v vs hm hxs))
      have hlen1 : (1 : Int) < ((wordsL s).length : Int) := by rw [hws, hxs]; simp; omega
      clear hm hr1 hr2 hr3
      go_enter Tryz.func31, Tryz.ntmps31
      go_wp2_with fail
      refine HQ.out.mono ?_
      rintro x' w1 ⟨v', rfl, hown, hb⟩
      obtain ⟨A, c, rfl, hwa⟩ := words_at hown
      have HC0 := Lib.hid ((CronAt.zero w).on hb)
      have HB1 := Lib.hid (((Below.refl w.heap.size w).alloc (Nat.le_refl _) (.cells #[.int .u64 0, .int .u64 0, .int .u64 0, .int .u64 0, .int .u64 0] 31)).trans (hb.mono (by simp)))
      clear hb HQ
      obtain ⟨g, rfl, hg, k0, k1⟩ := hwa 0 (xa, 64 :: t) (by rw [hws]; rfl)
      have hgw2 : w.heap.size < g := by have := words_base hown; simp at this; omega
      clear hown
      simp only [Nat.zero_mul, Nat.zero_add] at k0 k1
      obtain ⟨g', hg', _, k2, _⟩ := hwa 1 v (by rw [hws, hxs]; rfl)
      obtain rfl : g = g' := congrArg Addr.block (Option.some.inj hg')
      simp only [Nat.one_mul] at k2
      clear hwa
      clear hws
      generalize wordsL s = ws at *
      obtain ⟨z0, z1, z2, z3, z4⟩ := HC0.out.five
      have f0 := HC0.out.frozen 0; have f1 := HC0.out.frozen 1; have f2 := HC0.out.frozen 2; have f3 := HC0.out.frozen 3; have f4 := HC0.out.frozen 4
      have hgw := HC0.out.lt
      go_wp2_with fail
      refine (HM.out _).mono ?_
      rintro x' w2 ⟨rfl, rfl⟩
      go_wp2_with fail
      go_region
      go_wp2_with fail
      refine bodyPost_ret (v := .tuple #[.agg #[.int .u64 0, .int .u64 0, .int .u64 0, .int .u64 0, .int .u64 0], .int .i64 (v.1 : Int), .bool false]) (by simp [results, Tryz.f31, go_sem, z0, z1, z2, z3, z4]) rfl ⟨by rw [hv.out]; rfl, (below_five HB1.out (Nat.le_refl _) _ _ _ _ _).drew⟩
    | nil =>
      have hrx := hr3 x hm hxs
      obtain ⟨l, _, hl2, _⟩ := macro_reads hm
      have hl5 := (readC_right hl2).1
      obtain ⟨a0, a1, a2, a3, a4, rfl⟩ := list_five hl5
      have hv := Lib.hid (rreadC_some (hrx.trans hl2))
      have hlen1 : (1 : Int) < ((wordsL s).length : Int) ↔ False := by rw [hws, hxs]; simp
      have hlen2 : decide ((1 : Int) < ((wordsL s).length : Int)) = false := by rw [hws, hxs]; rfl
      have HX := Lib.hid (fun W => rread_plain x W hx1 hx3)
      rw [rreadC_some hl2] at HX
      unfold strV cronV at HX
      simp only [List.map_cons, List.map_nil] at HX
      unfold menc at HX
      clear hm hr1 hr2 hr3 hrx hl2 hl5 hx3 hlen1
      go_enter Tryz.func31, Tryz.ntmps31
      go_wp2_with fail
      refine HQ.out.mono ?_
      rintro x' w1 ⟨v', rfl, hown, hb⟩
      obtain ⟨A, c, rfl, hwa⟩ := words_at hown
      have HC0 := Lib.hid ((CronAt.zero w).on hb)
      have HB1 := Lib.hid (((Below.refl w.heap.size w).alloc (Nat.le_refl _) (.cells #[.int .u64 0, .int .u64 0, .int .u64 0, .int .u64 0, .int .u64 0] 31)).trans (hb.mono (by simp)))
      clear hb HQ
      obtain ⟨g, rfl, hg, k0, k1⟩ := hwa 0 (xa, 64 :: t) (by rw [hws]; rfl)
      have hgw2 : w.heap.size < g := by have := words_base hown; simp at this; omega
      clear hown
      simp only [Nat.zero_mul, Nat.zero_add] at k0 k1
      clear hwa
      clear hws
      generalize wordsL s = ws at *
      obtain ⟨z0, z1, z2, z3, z4⟩ := HC0.out.five
      have f0 := HC0.out.frozen 0; have f1 := HC0.out.frozen 1; have f2 := HC0.out.frozen 2; have f3 := HC0.out.frozen 3; have f4 := HC0.out.frozen 4
      have hgw := HC0.out.lt
      go_wp2_with fail
      refine (HM.out _).mono ?_
      rintro x' w2 ⟨rfl, rfl⟩
      go_wp2_with fail
      refine (HX.out _).mono ?_
      rintro x' w3 ⟨rfl, hb⟩
      have HB3 := Lib.hid (HB1.out.trans (hb.mono HB1.out.size)); have HC3 := Lib.hid (HC0.out.on hb)
      clear hb z0 z1 z2 z3 z4 f0 f1 f2 f3 f4
      obtain ⟨z0, z1, z2, z3, z4⟩ := HC3.out.five
      have f0 := HC3.out.frozen 0; have f1 := HC3.out.frozen 1; have f2 := HC3.out.frozen 2; have f3 := HC3.out.frozen 3; have f4 := HC3.out.frozen 4
      go_wp2_with fail
      refine bodyPost_ret (v := .tuple #[.agg #[.int .u64 (U a0), .int .u64 (U a1), .int .u64 (U a2), .int .u64 (U a3), .int .u64 (U a4)], .int .i64 0, .bool true]) (by simp [results, Tryz.f31, go_sem, z0, z1, z2, z3, z4]) rfl ⟨by rw [hv.out]; rfl, below_five HB3.out (Nat.le_refl _) _ _ _ _ _⟩
end Go.Proofs.YtbaobjbckabnhaaGreatDoor
