/- Text: walked, of the program. -/
import Derived.Test.YtmjjdccpnepjjaaGreatDoorK4
import Derived.Test.YtmjjdccpnepjjaaGreatDoorKGRead
import Derived.Test.YtmjjdccpnepjjaaGreatDoorKGRText
namespace Go.Proofs.YtmjjdccpnepjjaaGreatDoor
open Go.RowKit

def tsL (L : List (BitVec 64)) : Nat → List (List UInt8)
  | 0 => []
  | j + 1 => tsL L j ++ [textL j (L.getD j 0#64)]
theorem tsL_len (L : List (BitVec 64)) : ∀ j, (tsL L j).length = j
  | 0 => rfl
  | j + 1 => by rw [tsL, List.length_append, tsL_len L j]; rfl
theorem tsL_next (L : List (BitVec 64)) (j : Nat) : (tsL L (j + 1)).map strV = (tsL L j).map strV ++ [.string ⟨(textL j (L.getD j 0#64)).toArray⟩] := by rw [tsL, List.map_append]; rfl
theorem join_five (p q r s t : List UInt8) : Lib.join [p, q, r, s, t] [32] = p ++ 32 :: (q ++ 32 :: (r ++ 32 :: (s ++ 32 :: t))) := by
  simp [Lib.join]
def ctextL (L : List (BitVec 64)) : List UInt8 := textC (L.getD 0 0#64) (L.getD 1 0#64) (L.getD 2 0#64) (L.getD 3 0#64) (L.getD 4 0#64)
theorem join_ts (L : List (BitVec 64)) : Lib.join (tsL L 5) [32] = ctextL L := by
  show Lib.join [textL 0 (L.getD 0 0#64), textL 1 (L.getD 1 0#64), textL 2 (L.getD 2 0#64), textL 3 (L.getD 3 0#64), textL 4 (L.getD 4 0#64)] [32] = _
  rw [join_five]; rfl
theorem crB_field {L : List (BitVec 64)} (h : crB L = true) (k : Nat) (hk : k < 5) : FieldM k (L.getD k 0#64) := (fieldB_iff _ _).1 (crB_at h hk)
theorem ctextL_len {L : List (BitVec 64)} (h : crB L = true) : (ctextL L).length ≤ 245 :=
  textC_len (crB_field h 0 (by omega)) (crB_field h 1 (by omega)) (crB_field h 2 (by omega)) (crB_field h 3 (by omega)) (crB_field h 4 (by omega))
theorem join_own5 (L : List (BitVec 64)) (base : Nat) (v : Value) (w : World) (hc : crB L = true) (h : w.ownsRow base 9 1 v 5 ((tsL L 5).map strV)) :
    Calls Tryz.prog 37 #[v, .string ⟨#[32]⟩] w fun e w' => e = .returned (strV (ctextL L)) ∧ Below w.heap.size w w' := by
  have hlen := ctextL_len hc
  have hl5 := tsL_len L 5
  rw [← join_ts] at hlen ⊢
  have h0 := h
  generalize tsL L 5 = ls at *
  rcases h0.2 with ⟨rfl, hz⟩ | ⟨g, cap, cur, rfl, _, hh, hcap, _⟩
  · omega
  · have hx : (ls.map fun l => (⟨l.toArray⟩ : ByteArray)).map (·.data.toList) = ls := by
      rw [List.map_map]
      conv => rhs; rw [← List.map_id ls]
      apply List.map_congr_left
      intro x _
      simp
    have hj := strings_Join g 0 cap (ls.map fun l => (⟨l.toArray⟩ : ByteArray)) ⟨#[32]⟩ w (by
      intro j x hx
      rw [List.getElem?_map] at hx
      cases hl : ls[j]? with
      | none => rw [hl] at hx; cases hx
      | some y =>
        rw [hl] at hx
        cases hx
        have hlt := (List.getElem?_eq_some_iff.1 hl).1
        rw [Nat.zero_add, h.cellAt j (by omega), List.getElem?_map, hl]; rfl) (Array.getElem?_eq_some_iff.1 hh).1 (by simp; omega) (by simp; omega) (by
      rw [hx, show (⟨#[32]⟩ : ByteArray).data.toList = [32] by rfl]
      omega)
    rw [hx, show (⟨#[32]⟩ : ByteArray).data.toList = [32] by rfl, List.length_map, hl5] at hj
    exact hj
def ctextV (L : List (BitVec 64)) : Value := if crB L then errT (ctextL L) 0 else errT [] 170
set_option maxRecDepth 100000 in
set_option maxHeartbeats 2000000 in
theorem ctext_any (L : List (BitVec 64)) (w : World) (hL : LaidC w) (h5 : L.length = 5) :
    Calls Tryz.prog 14 #[cronV L] w fun x w' => x = .returned (ctextV L) ∧ Below w.heap.size w w' := by
  obtain ⟨i0, hi, hz0, hz1, hz2⟩ := info_parts info_str
  have HY : Hid ((∀ k, k < 5 → fieldB k (L.getD k 0#64) = true) → crB L = true ∧ ctextV L = errT (ctextL L) 0) := Lib.hid (fun h => ⟨crB_yes h, by unfold ctextV; rw [if_pos (crB_yes h)]⟩)
  have HN : Hid (∀ k, k < 5 → fieldB k (L.getD k 0#64) = false → ctextV L = errT [] 170) := Lib.hid (fun k hk h => by unfold ctextV; rw [crB_no hk h]; rfl)
  have HL := Lib.hid hL
  have HJ := Lib.hid (fun base v W h => join_own5 L base v W h)
  clear hL
  obtain ⟨a, b, c, d, e, rfl⟩ := list_five h5
  rw [cronV_five]
  unfold fiveV
  generalize ctextV [a, b, c, d, e] = z at *
  go_enter Tryz.func14, Tryz.ntmps14
  go_wp2_with fail
  have HC0 := Lib.hid (CronAt.new w a b c d e)
  have HB0 : Hid (Below w.heap.size w (w.alloc (.cells #[.int .u64 (U a), .int .u64 (U b), .int .u64 (U c), .int .u64 (U d), .int .u64 (U e)] 27))) := Lib.hid ((Below.refl w.heap.size w).alloc (Nat.le_refl _) _)
  generalize [a, b, c, d, e] = L at *
  generalize w.alloc _ = w0 at *
  refine (fields_any w.heap.size w0).mono ?_
  rintro x w1 ⟨rfl, hb⟩
  have HB1 : Hid (Below w.heap.size w w1) := Lib.hid (HB0.out.trans (hb.mono HB0.out.size)); have HC1 := Lib.hid (HC0.out.on hb)
  clear hb HC0 HB0
  go_wp2_with fail
  go_loopw [4, 5, 6, 7, 8, 10] (fun v _ _ _ _ i wr => ∃ j : Nat, j ≤ 5 ∧ i = .int .i64 (j : Int) ∧ Below w1.heap.size w1 wr ∧ wr.ownsRow w1.heap.size 9 1 v j ((tsL L j).map strV) ∧ ∀ q : Nat, q < j → fieldB q (L.getD q 0#64) = true) (fun _ _ _ _ _ i _ => 5 - (intOf i).toNat)
  case atStart => exact ⟨0, by omega, rfl, Below.refl _ _, ⟨rfl, .inl ⟨rfl, rfl⟩⟩, fun q hq => by omega⟩
  case round =>
    obtain ⟨j, hj, rfl, hb, hrow, hall⟩ := hrel
    have HB := Lib.hid hb; have HW := Lib.hid hrow; have HA := Lib.hid hall
    have HBw := Lib.hid (HB1.out.trans (hb.mono HB1.out.size))
    clear hb hrow hall
    by_cases hlt : j < 5
    · have hj5 : (j : Int) < 5 := by omega
      have hix := fun W => index_ptrs w.heap.size j hlt W
      have hcell := (HC1.out.on HB.out).cell hlt
      have HLr := Lib.hid (HL.out.on HBw.out).fld
      have HN' := Lib.hid (HN.out j hlt)
      have HT := Lib.hid (tsL_next L j)
      have HN2 : Hid (fieldB j (L.getD j 0#64) = true → ∀ q : Nat, q < j + 1 → fieldB q (L.getD q 0#64) = true) := Lib.hid (fun h q hq => by
        rcases Nat.lt_succ_iff_lt_or_eq.1 hq with h' | rfl
        · exact HA.out q h'
        · exact h)
      generalize L.getD j 0#64 = m at *
      cases hf : fieldB j m with
      | false =>
        have HR := Lib.hid (fun W hW => text_bad j m W hW hlt hf)
        have HE := Lib.hid (HN'.out hf)
        clear hf HN' HN2
        unfold errT strV at *
        go_wp2_with fail
        refine (HR.out _ HLr.out).mono ?_
        rintro x w2 ⟨rfl, hb⟩
        have HB2 : Hid (Below w.heap.size w w2) := Lib.hid (HBw.out.trans (hb.mono HBw.out.size))
        clear hb
        go_wp2_with fail
        go_ret2
        exact ⟨by rw [HE.out]; rfl, HB2.out⟩
      | true =>
        have HR := Lib.hid (fun W hW => text_yes j m W hW hlt hf)
        have HE := Lib.hid (HN2.out hf)
        clear hf HN' HN2
        unfold errT strV at *
        generalize textL j m = tx at *
        go_wp2_with fail
        refine (HR.out _ HLr.out).mono ?_
        rintro x w2 ⟨rfl, hb⟩
        have HB2 := Lib.hid (HB.out.trans (hb.mono HB.out.size))
        have HW2 := Lib.hid (own_below HW.out hb)
        clear hb HB HW
        go_wp2_with (at_builtin; refine wpList_append_own _ rfl _ _ 22 rfl w1.heap.size 9 i0 (.string ⟨#[]⟩) 1 16 Tryz.underlying22 hi hz0 hz1 hz2 rfl (by decide) _ _ _ rfl (HW2.out.alloc _) ⟨w2.heap.size, 0, none⟩ 1 1 [.string ⟨tx.toArray⟩] rfl rfl (cell_one_new _ _ _) (by simp [Value.oneCell']) (by unfold maxLen; omega) (by omega) (by have := HB2.out.size; simp; omega) ?_; intro v' w3 hown' hgrow' _)
        have HB3 := Lib.hid ((HB2.out.alloc HB2.out.size _).grown hgrow' (by have := HB2.out.size; simp; omega) (fun j e => (HW2.out.lt j e).1))
        have HW3 := Lib.hid hown'
        clear hown' hgrow'
        go_roundw
        case rel => exact ⟨j + 1, by omega, by go_num, HB3.out, by rw [HT.out]; exact HW3.out, HE.out⟩
        case measure => simp [intOf]; omega
    · have hj5 : j = 5 := by omega
      subst hj5
      obtain ⟨hc, hz⟩ := HY.out HA.out
      have HZ := Lib.hid hz
      have HJ5 := Lib.hid (HJ.out _ _ wr hc HW.out)
      clear hc hz
      unfold errT strV at *
      go_wp2_with fail
      refine HJ5.out.mono ?_
      rintro x w5 ⟨rfl, hb⟩
      have HB5 := Lib.hid (HBw.out.trans (hb.mono HBw.out.size))
      clear hb
      go_wp2_with fail
      go_ret2
      exact ⟨by rw [HZ.out]; rfl, HB5.out⟩
end Go.Proofs.YtmjjdccpnepjjaaGreatDoor
