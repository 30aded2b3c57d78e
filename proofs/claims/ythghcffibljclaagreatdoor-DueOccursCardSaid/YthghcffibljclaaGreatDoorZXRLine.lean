/- The document's times of a row that have to rise: walked. -/
import Derived.Test.YthghcffibljclaaGreatDoorZXStep
import Derived.Test.YthghcffibljclaaGreatDoorZVRise
namespace Go.Proofs.YthghcffibljclaaGreatDoor
open Go.RowKit

set_option maxRecDepth 100000 in
set_option maxHeartbeats 2000000 in
theorem rline_any (r : RowZ) (v : Value) (w : World) (hf : r.Fit) (hq : QR w v r.q) (hl : r.q.length ≤ 100) :
    Calls Tryz.prog 22 #[rowV r v] w fun e w' => (∃ y, e = .returned y ∧ OwnT w' w.heap.size y r.line) ∧ Below w.heap.size w w' := by
  have hx0 := D.Box.new w 33 (rowC r v).toArray
  have hb0 := new_below w (.cells (rowC r v).toArray 33)
  obtain ⟨W0, hW0⟩ : ∃ W : World, W = w.alloc (.cells (rowC r v).toArray 33) := ⟨_, rfl⟩
  rw [← hW0] at hx0 hb0
  have HX := Lib.hid hx0; have HB0 := Lib.hid hb0; have HF := Lib.hid hf
  have hcf := cellsF_of hf (row_range hx0)
  have c13 := hcf.num; have c14 := hcf.due; have c16 := hcf.q
  rw [Nat.zero_add] at c13 c14 c16
  obtain ⟨A1, k1, rfl, u1, u2, u3, u4⟩ := hq
  have H1 := Lib.hid (u4.on hb0)
  have HRV : Hid (∀ v, rowV r v = .agg (rowC r v).toArray) := Lib.hid (fun _ => rfl)
  rw [HRV.out]
  obtain ⟨n, hn⟩ : ∃ n, r.q.length = n := ⟨_, rfl⟩
  rw [hn] at c16 hW0 hl ⊢
  have HN := Lib.hid hn
  have hn0 := hf.2
  clear hx0 hb0 hcf hf u1 u2 u3 u4 HRV hn
  by_cases h0 : 0 < r.num
  · have q0 : decide (0 < r.num) = true := decide_eq_true h0
    go_enter Tryz.func22, Tryz.ntmps22
    go_upto_region 1 with fail
    rw [← hW0]
    clear hW0
    go_upto_region 4 with (at_builtin; refine list_times (l := []) (q := [r.due]) rfl _ _ rfl rfl rfl (OwnT.nil _ W0.heap.size) (qr_one W0 r.due) (new_below W0 _).size (by simp) W0 (new_below W0 _) ?_; intro v9 w9 ho9 hb9; have HB9 := Lib.hid hb9; have HO9 := Lib.hid ho9; clear hb9 ho9)
    have d16 : w9.cell? ⟨w.heap.size, 16, none⟩ = some (.slice A1 n k1) := (HB9.out.cell (p := ⟨w.heap.size, 16, none⟩) (D.Box.lt HX.out)).trans c16
    have HD := Lib.hid d16
    clear c16 c13 c14
    go_wp2_with fail
    go_loopw [3, 19] (fun o i wr => ∃ k : Nat, k ≤ n ∧ i = .int .i64 (k : Int) ∧ Hid (OwnT wr W0.heap.size o ([r.due] ++ r.q.take k)) ∧ Below W0.heap.size W0 wr) (fun _ i _ => n - (intOf i).toNat)
    case atStart => exact ⟨0, Nat.zero_le _, rfl, Lib.hid (by simpa using HO9.out), HB9.out⟩
    case round =>
      obtain ⟨k, hk, rfl, HO, hb⟩ := hrel
      have HB := Lib.hid hb
      clear hb d16
      by_cases hlt : k < n
      · obtain ⟨t, ht⟩ : ∃ t, r.q[k]? = some t := ⟨_, List.getElem?_eq_getElem (by have := HN.out; omega)⟩
        obtain ⟨b1, o1, rfl, hbl1, k1'⟩ := qr_at H1.out ht
        have e1 := (HB.out.cell (p := ⟨b1, o1 + k, none⟩) hbl1).trans k1'
        have g1 : (0 : Int) ≤ (k : Int) := by omega
        have g2 : (k : Int) < (n : Int) := by omega
        have HTK := Lib.hid ht
        have hlen : ([r.due] ++ r.q.take k).length ≤ 102 := by simp; omega
        have HLEN := Lib.hid hlen
        clear ht hbl1 k1' hlen
        go_wp2_with (at_builtin; refine list_times (q := [t]) rfl _ _ rfl rfl rfl (OwnT.below HO.out (new_below wr _)) (qr_one wr t) (HB.out.alloc HB.out.size (.cells #[.int .i64 t] 2)).size (by have := HLEN.out; simp at this ⊢; omega) W0 (HB.out.alloc HB.out.size _) ?_; intro v4 w4 ho4 hb4; have HB4 := Lib.hid hb4; have HO4 := Lib.hid ho4; clear ho4 hb4)
        go_roundw
        case rel => exact ⟨k + 1, by omega, by go_num, Lib.hid (by rw [List.take_add_one, HTK.out, Option.toList_some, ← List.append_assoc]; exact HO4.out), HB4.out⟩
        case measure => simp [intOf]; omega
      · have hfull : r.q.take k = r.q := List.take_of_length_le (by have := HN.out; omega)
        have hown := HO.out
        rw [hfull] at hown
        have HOF := Lib.hid hown
        have HBF := Lib.hid (HB0.out.trans (HB.out.mono HB0.out.size))
        have c12 := (cellsF_of HF.out (row_range (D.Box.belowAll HX.out HB.out))).nx
        rw [Nat.zero_add] at c12
        have hln : ([r.due] ++ r.q).length ≤ 102 := by have := HN.out; simp; omega
        have HLN := Lib.hid hln
        clear hown hfull hln
        by_cases hnx : r.nx = -1
        · rw [hnx] at c12
          have HR : Hid (r.line = [r.due] ++ r.q) := Lib.hid (by unfold RowZ.line; rw [if_pos h0, if_pos hnx, List.append_nil])
          clear hnx
          go_wp2_with fail
          go_ret
          exact ⟨⟨_, rfl, by rw [HR.out]; exact OwnT.low HOF.out HB0.out.size⟩, HBF.out⟩
        · have q9 : (r.nx != -1) = true := by simpa using hnx
          have HR : Hid (r.line = [r.due] ++ r.q ++ [r.nx]) := Lib.hid (by unfold RowZ.line; rw [if_pos h0, if_neg hnx])
          clear hnx
          go_wp2_with (at_builtin; refine list_times (q := [r.nx]) rfl _ _ rfl rfl rfl (OwnT.below HOF.out (new_below wr _)) (qr_one wr r.nx) (HB.out.alloc HB.out.size (.cells #[.int .i64 r.nx] 2)).size (by have := HLN.out; simp at this ⊢; omega) W0 (HB.out.alloc HB.out.size _) ?_; intro v4 w4 ho4 hb4; have HB4 := Lib.hid (HB0.out.trans (hb4.mono HB0.out.size)); have HO4 := Lib.hid ho4; clear ho4 hb4)
          go_ret
          exact ⟨⟨_, rfl, by rw [HR.out]; exact OwnT.low HO4.out HB0.out.size⟩, HB4.out⟩
  · have q0 : decide (0 < r.num) = false := decide_eq_false h0
    go_enter Tryz.func22, Tryz.ntmps22
    go_upto_region 1 with fail
    rw [← hW0]
    clear hW0
    go_upto_region 4 with fail
    have d16 : W0.cell? ⟨w.heap.size, 16, none⟩ = some (.slice A1 n k1) := ((Below.refl W0.heap.size W0).cell (p := ⟨w.heap.size, 16, none⟩) (D.Box.lt HX.out)).trans c16
    have HD := Lib.hid d16
    clear c16 c13 c14
    go_wp2_with fail
    go_loopw [3, 19] (fun o i wr => ∃ k : Nat, k ≤ n ∧ i = .int .i64 (k : Int) ∧ Hid (OwnT wr W0.heap.size o (([] : List Int) ++ r.q.take k)) ∧ Below W0.heap.size W0 wr) (fun _ i _ => n - (intOf i).toNat)
    case atStart => exact ⟨0, Nat.zero_le _, rfl, Lib.hid (by simpa using (OwnT.nil W0 W0.heap.size)), (Below.refl W0.heap.size W0)⟩
    case round =>
      obtain ⟨k, hk, rfl, HO, hb⟩ := hrel
      have HB := Lib.hid hb
      clear hb d16
      by_cases hlt : k < n
      · obtain ⟨t, ht⟩ : ∃ t, r.q[k]? = some t := ⟨_, List.getElem?_eq_getElem (by have := HN.out; omega)⟩
        obtain ⟨b1, o1, rfl, hbl1, k1'⟩ := qr_at H1.out ht
        have e1 := (HB.out.cell (p := ⟨b1, o1 + k, none⟩) hbl1).trans k1'
        have g1 : (0 : Int) ≤ (k : Int) := by omega
        have g2 : (k : Int) < (n : Int) := by omega
        have HTK := Lib.hid ht
        have hlen : (([] : List Int) ++ r.q.take k).length ≤ 102 := by simp; omega
        have HLEN := Lib.hid hlen
        clear ht hbl1 k1' hlen
        go_wp2_with (at_builtin; refine list_times (q := [t]) rfl _ _ rfl rfl rfl (OwnT.below HO.out (new_below wr _)) (qr_one wr t) (HB.out.alloc HB.out.size (.cells #[.int .i64 t] 2)).size (by have := HLEN.out; simp at this ⊢; omega) W0 (HB.out.alloc HB.out.size _) ?_; intro v4 w4 ho4 hb4; have HB4 := Lib.hid hb4; have HO4 := Lib.hid ho4; clear ho4 hb4)
        go_roundw
        case rel => exact ⟨k + 1, by omega, by go_num, Lib.hid (by rw [List.take_add_one, HTK.out, Option.toList_some, ← List.append_assoc]; exact HO4.out), HB4.out⟩
        case measure => simp [intOf]; omega
      · have hfull : r.q.take k = r.q := List.take_of_length_le (by have := HN.out; omega)
        have hown := HO.out
        rw [hfull] at hown
        have HOF := Lib.hid hown
        have HBF := Lib.hid (HB0.out.trans (HB.out.mono HB0.out.size))
        have c12 := (cellsF_of HF.out (row_range (D.Box.belowAll HX.out HB.out))).nx
        rw [Nat.zero_add] at c12
        have hln : (([] : List Int) ++ r.q).length ≤ 102 := by have := HN.out; simp; omega
        have HLN := Lib.hid hln
        clear hown hfull hln
        by_cases hnx : r.nx = -1
        · rw [hnx] at c12
          have HR : Hid (r.line = ([] : List Int) ++ r.q) := Lib.hid (by unfold RowZ.line; rw [if_neg (show ¬ 0 < r.num by omega), if_pos hnx, List.append_nil])
          clear hnx
          go_wp2_with fail
          go_ret
          exact ⟨⟨_, rfl, by rw [HR.out]; exact OwnT.low HOF.out HB0.out.size⟩, HBF.out⟩
        · have q9 : (r.nx != -1) = true := by simpa using hnx
          have HR : Hid (r.line = ([] : List Int) ++ r.q ++ [r.nx]) := Lib.hid (by unfold RowZ.line; rw [if_neg (show ¬ 0 < r.num by omega), if_neg hnx])
          clear hnx
          go_wp2_with (at_builtin; refine list_times (q := [r.nx]) rfl _ _ rfl rfl rfl (OwnT.below HOF.out (new_below wr _)) (qr_one wr r.nx) (HB.out.alloc HB.out.size (.cells #[.int .i64 r.nx] 2)).size (by have := HLN.out; simp at this ⊢; omega) W0 (HB.out.alloc HB.out.size _) ?_; intro v4 w4 ho4 hb4; have HB4 := Lib.hid (HB0.out.trans (hb4.mono HB0.out.size)); have HO4 := Lib.hid ho4; clear ho4 hb4)
          go_ret
          exact ⟨⟨_, rfl, by rw [HR.out]; exact OwnT.low HO4.out HB0.out.size⟩, HB4.out⟩
end Go.Proofs.YthghcffibljclaaGreatDoor
