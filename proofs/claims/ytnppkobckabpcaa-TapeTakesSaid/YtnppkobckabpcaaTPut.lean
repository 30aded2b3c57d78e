/- Put, PutInt, PutFlag, PutBytes walked. -/
import Derived.Test.YtnppkobckabpcaaTPutR
namespace Go.Proofs.Ytnppkobckabpcaa
open Go.RowKit

/-- The slice reads these numbers. -/
structure RowU (w : World) (B : Nat) (L : Option Addr) (m : Nat) (ns : List Nat) : Prop where
  len : ns.length = m
  num : ∀ x ∈ ns, x < 18446744073709551616
  at_ : ∀ j, j < m → ∃ b o, L = some ⟨b, o, none⟩ ∧ b < B ∧ w.cell? ⟨b, o + j, none⟩ = some (.int .u64 ((nthB ns j : Nat) : Int))
theorem RowU.below {w w' : World} {B m : Nat} {L : Option Addr} {ns : List Nat} (h : RowU w B L m ns) (hb : Below B w w') : RowU w' B L m ns :=
  ⟨h.len, h.num, fun k hk => by
    obtain ⟨b, o, e, hl, hc⟩ := h.at_ k hk
    exact ⟨b, o, e, hl, ((below_cell hb).1 b _ hl).trans hc⟩⟩
def shs (ns : List Nat) : List Nat := ns.flatMap sh
theorem shs_next {ns : List Nat} {i : Nat} (h : i < ns.length) : shs (ns.take (i + 1)) = shs (ns.take i) ++ sh (nthB ns i) := by
  unfold shs; rw [take_next h, List.flatMap_append]; simp
theorem shs_len {ns : List Nat} (h : ∀ x ∈ ns, x < 18446744073709551616) (i : Nat) : (shs (ns.take i)).length ≤ 10 * i := by
  induction i with
  | zero => simp [shs]
  | succ i ih =>
    by_cases hi : i < ns.length
    · rw [shs_next hi, List.length_append]
      have := sh_ten (h (nthB ns i) (by unfold nthB; rw [List.getD_eq_getElem?_getD, List.getElem?_eq_getElem hi]; exact List.getElem_mem hi))
      omega
    · rw [List.take_of_length_le (by omega)]
      rw [List.take_of_length_le (by omega)] at ih
      omega
theorem or_more (m : Nat) : bits .or .u8 ((m : Int) % 256) 128 = ((m % 128 + 128 : Nat) : Int) := by
  rw [show ((m : Int) % 256) = ((m % 256 : Nat) : Int) by omega, show (128 : Int) = ((128 : Nat) : Int) by rfl, u8_or_nat _ _ (by omega) (by omega)]
  congr 1
  apply Nat.eq_of_testBit_eq
  intro i
  have e1 : m % 256 = m % 2 ^ 8 := by rfl
  have e2 : m % 128 + 128 = 2 ^ 7 * 1 + m % 2 ^ 7 := by omega
  rw [Nat.testBit_or, e1, e2, Nat.testBit_mod_two_pow, Nat.testBit_two_pow_mul_add _ (Nat.mod_lt _ (by omega)), Nat.testBit_mod_two_pow, show (128 : Nat) = 2 ^ 7 by rfl, Nat.testBit_two_pow]
  by_cases h : i < 7
  · have : ¬ 7 = i := by omega
    have h8 : i < 8 := by omega
    simp [h, h8, this]
  · by_cases h7 : i = 7
    · subst h7; simp
    · have h8 : ¬ i < 8 := by omega
      have h9 : ¬ 7 = i := by omega
      have : Nat.testBit 1 (i - 7) = false := by
        obtain ⟨q, hq⟩ : ∃ q, i - 7 = q + 1 := ⟨i - 8, by omega⟩
        rw [hq, Nat.testBit_succ]; simp
      simp [h, h8, h9, this]

theorem made_u8 (S : Nat) (h : S ≤ 2000000) (W : World) : (Instr.makeSlice 22 (.int .i64 0) (.int .i64 ((S : Nat) : Int))).run Try.prog W = .ok (.slice (some ⟨W.heap.size, 0, none⟩) 0 S) (W.alloc (.cells (madeCells #[.int .u8 0] S) 5)) := by
  obtain ⟨i0, hi, hz0, hz1, hz2⟩ := info_parts (show (Try.prog.info? 5).map (fun i => (i.zero, i.size, i.bytes)) = some (some (.int .u8 0), 1, 1) by kernel_rfl)
  have hr := run_make (P := Try.prog) W 22 5 i0 (.int .u8 0) Try.underlying22 hi hz0 .i64 .i64 0 (S : Int) (by omega) (by omega) (by rw [hz2]; omega) (by omega)
  rw [hz1] at hr
  simpa [Value.cells] using hr

/-- What has been put of the one number. -/
def Doing2 (B : Nat) (w0 : World) (all : List Nat) (s8 s10 : Value) (wr : World) : Prop := ∃ (m : Nat) (acc : List Nat), s10 = .int .u64 (m : Int) ∧ m < 18446744073709551616 ∧ OwnB wr B s8 acc ∧ acc ++ sh m = all ∧ Below B w0 wr
/-- What has been put of the row. -/
def Done (w0 : World) (bs ns : List Nat) (m : Nat) (s8 s30 : Value) (wr : World) : Prop := ∃ i : Nat, i ≤ m ∧ s30 = .int .i64 (i : Int) ∧ OwnB wr w0.heap.size s8 (bs ++ shs (ns.take i)) ∧ Below w0.heap.size w0 wr
set_option maxRecDepth 100000 in
set_option maxHeartbeats 4000000 in
theorem put_any (A L : Option Addr) (k c m d : Nat) (bs ns : List Nat) (w : World) (h : RowB w w.heap.size A k c bs) (hk : k ≤ 1000000) (hu : RowU w w.heap.size L m ns) (hm : m ≤ 1000) :
    Calls Try.prog 19 #[.slice A k c, .slice L m d] w fun e w' => ∃ v, e = .returned v ∧ OwnB w' w.heap.size v (bs ++ shs ns) ∧ Below w.heap.size w w' := by
  have hns := hu.len
  have hlen := h.len
  have hcap := h.cap
  have htop := h.top
  unfold maxLen at htop
  have Hlen := Lib.hid hlen; have Hns := Lib.hid hns
  have Hnum := Lib.hid hu.num
  have Hat := Lib.hid hu.at_
  have H := Lib.hid h
  have Hu := Lib.hid hu
  clear h hns hlen hu
  go_enter Try.func19, Try.ntmps19
  go_wp2
  go_loop [5, 15] (fun s5 s15 => ∃ i : Nat, i ≤ m ∧ s15 = .int .i64 (i : Int) ∧ s5 = .int .i64 ((k + (shs (ns.take i)).length : Nat) : Int)) (fun _ s15 => m - (intOf s15).toNat)
  case atStart => exact ⟨0, by omega, rfl, by simp [shs]⟩
  case round =>
    obtain ⟨i, hi, rfl, rfl⟩ := hrel
    have hsl := shs_len Hnum.out i
    by_cases hlt : i < m
    · obtain ⟨b1, o1, rfl, hl1, c1⟩ := Hat.out i hlt
      have hx := Hnum.out (nthB ns i) (nth_mem (by rw [Hns.out]; exact hlt))
      have hnx := Lib.hid (shs_next (ns := ns) (i := i) (by rw [Hns.out]; exact hlt))
      have h10 := sh_ten hx
      have Hx := Lib.hid hx
      clear hx
      generalize nthB ns i = x at *
      go_wp2_with fail
      refine (size_any x w Hx.out).mono ?_; rintro e w' ⟨rfl, rfl⟩
      go_wp2_with fail
      go_round
      case rel => exact ⟨i + 1, by omega, by go_num, by rw [hnx.out, List.length_append]; congr 1; omega⟩
      case measure => simp [intOf]; omega
    · obtain rfl : i = m := by omega
      have htk : ns.take i = ns := List.take_of_length_le (by rw [Hns.out]; omega)
      rw [htk] at hsl ⊢
      have hmk := made_u8 (k + (shs ns).length) (by omega)
      have hm0 : OwnB (w.alloc (.cells (madeCells #[.int .u8 0] (k + (shs ns).length)) 5)) w.heap.size (.slice (some ⟨w.heap.size, 0, none⟩) 0 (k + (shs ns).length)) [] := OwnB.made (Nat.le_refl _) (by unfold maxLen; omega) (size_madeCells _ _)
      have h1 := H.out.below ((Below.refl _ w).alloc (Nat.le_refl _) (.cells (madeCells #[.int .u8 0] (k + (shs ns).length)) 5))
      have Hm0 := Lib.hid hm0
      have H1 := Lib.hid h1
      have Htk := Lib.hid htk
      clear hm0 h1 htk
      generalize hS : k + (shs ns).length = S at *
      have HS := Lib.hid hS
      clear hS
      go_wp2_with (at_builtin; refine append_row rfl _ _ rfl w.heap.size _ [] rfl Hm0.out w.heap.size A k c bs rfl H1.out (by simp; omega) (by simp) ?_; intro v5 w5 hown5 hgrow5)
      have hb5 : Below w.heap.size w w5 := below_grown ((Below.refl _ w).alloc (Nat.le_refl _) _) Hm0.out hgrow5 (by simp)
      rw [List.nil_append] at hown5
      clear hgrow5
      go_loopw [8, 30] (Done w bs ns i) (fun _ s30 _ => i - (intOf s30).toNat)
      case atStart => exact ⟨0, by omega, rfl, by simpa [shs] using hown5, hb5⟩
      case round =>
        obtain ⟨j, hj, rfl, hown, hb⟩ := hrel
        have hal : (bs ++ shs (ns.take j)).length ≤ 1000000 + 10 * j := by have := shs_len Hnum.out j; have := Hlen.out; rw [List.length_append]; omega
        have Ho := Lib.hid hown
        have Hb := Lib.hid hb
        clear hown hb hown5 hb5
        by_cases hlt : j < i
        · obtain ⟨b1, o1, rfl, hl1, c1⟩ := (Hu.out.below Hb.out).at_ j hlt
          have hx := Hnum.out (nthB ns j) (nth_mem (by rw [Hns.out]; exact hlt))
          have hnx := Lib.hid (shs_next (ns := ns) (i := j) (by rw [Hns.out]; exact hlt))
          have h10 := sh_ten hx
          have Hx := Lib.hid hx
          clear hx
          generalize nthB ns j = x at *
          have hal2 : ((bs ++ shs (ns.take j)) ++ sh x).length ≤ 1010020 := by rw [List.length_append]; omega
          have Hal := Lib.hid hal2
          clear hal2 hal
          generalize hacc0' : bs ++ shs (ns.take j) = acc0 at *
          have hacc0 := Lib.hid hacc0'.symm
          clear hacc0'
          have hz : w.heap.size ≤ wr.heap.size := Hb.out.size
          go_wp2
          go_loopw [8, 10] (Doing2 w.heap.size w (acc0 ++ sh x)) (fun _ s10 _ => (intOf s10).toNat)
          case atStart => exact ⟨x, acc0, rfl, Hx.out, Ho.out, rfl, Hb.out⟩
          case round =>
            obtain ⟨q, acc, rfl, hq64, hown2, hacc, hb2⟩ := hrel
            have hal2 : acc.length ≤ 1010020 := by have := Hal.out; rw [← hacc, List.length_append] at this; omega
            have Hacc := Lib.hid hacc
            have Hb2 := Lib.hid hb2
            have Ho2 := Lib.hid hown2
            have hz2 := hb2.size
            clear hacc hb2 hown2 c1
            by_cases hge : 127 < q
            · have hxb : q % 128 + 128 < 256 := by omega
              have hsh := Lib.hid (sh_ge (show 128 ≤ q by omega))
              have hdiv := Lib.hid (Nat.lt_of_le_of_lt (Nat.div_le_self q 128) hq64)
              go_wp2_with (at_builtin; refine append_row rfl _ _ rfl w.heap.size _ acc rfl (Ho2.out.alloc _) _ _ 1 1 [q % 128 + 128] rfl (RowB.fresh wr (q % 128 + 128) hxb (or_more q)) (by omega) (by simp; omega) ?_; intro v6 w6 hown6 hgrow6)
              have hb6 : Below w.heap.size w w6 := below_grown (Hb2.out.alloc hz2 _) (Ho2.out.alloc _) hgrow6 (by simp; omega)
              clear hgrow6
              go_roundw
              case rel => exact ⟨q / 128, acc ++ [q % 128 + 128], by rw [chop], hdiv.out, hown6, by rw [← Hacc.out, hsh.out]; simp, hb6⟩
              case measure => simp [intOf]; omega
            · have hlt128 : q < 128 := by omega
              have hxb : q < 256 := by omega
              have hsh := Lib.hid (sh_lt hlt128)
              have Hge := Lib.hid hge
              clear hge
              go_wp2_with (at_builtin; refine append_row rfl _ _ rfl w.heap.size _ acc rfl (Ho2.out.alloc _) _ _ 1 1 [q] rfl (RowB.fresh wr q hxb (by omega)) (by omega) (by simp; omega) ?_; intro v6 w6 hown6 hgrow6)
              have hb6 : Below w.heap.size w w6 := below_grown (Hb2.out.alloc hz2 _) (Ho2.out.alloc _) hgrow6 (by simp; omega)
              clear hgrow6
              go_roundw
              case rel => exact ⟨j + 1, by omega, by go_num, by rw [hnx.out, ← List.append_assoc, hacc0.out.symm, ← Hacc.out, hsh.out]; exact hown6, hb6⟩
              case measure => simp [intOf]; omega
        · obtain rfl : j = i := by omega
          go_wp2
          go_ret
          exact ⟨_, rfl, by have := Ho.out; rwa [Htk.out] at this, Hb.out⟩
end Go.Proofs.Ytnppkobckabpcaa
