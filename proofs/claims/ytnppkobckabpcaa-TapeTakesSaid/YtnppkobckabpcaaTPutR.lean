/- What the document says is put. -/
import Derived.Test.YtnppkobckabpcaaTBytes
namespace Go.Proofs.Ytnppkobckabpcaa
open Go.RowKit

theorem chop (m : Nat) : (m : Int) / 128 = ((m / 128 : Nat) : Int) := by omega
/-- What has been put, and what is still to come. -/
def Doing (w0 : World) (all : List Nat) (s1 s5 : Value) (wr : World) : Prop := ∃ (m : Nat) (acc : List Nat), s1 = .int .u64 (m : Int) ∧ m < 18446744073709551616 ∧ OwnB wr w0.heap.size s5 acc ∧ acc ++ sh m = all ∧ Below w0.heap.size w0 wr
set_option maxRecDepth 100000 in
set_option maxHeartbeats 2000000 in
theorem rput_any (A : Option Addr) (k c n : Nat) (bs : List Nat) (w : World) (h : RowB w w.heap.size A k c bs) (hk : k ≤ 1000000) (hn : n < 18446744073709551616) :
    Calls Try.prog 14 #[.slice A k c, .int .u64 (n : Int)] w fun e w' => ∃ v, e = .returned v ∧ OwnB w' w.heap.size v (bs ++ sh n) ∧ Below w.heap.size w w' := by
  have h10 := sh_ten hn
  have hlen := h.len
  have hall : (bs ++ sh n).length ≤ 1000010 := by rw [List.length_append]; omega
  have h1 : RowB (w.alloc (.cells #[] 5)) w.heap.size A k c bs := h.below ((Below.refl _ w).alloc (Nat.le_refl _) _)
  have hm : OwnB (w.alloc (.cells #[] 5)) w.heap.size (.slice (some ⟨w.heap.size, 0, none⟩) 0 0) [] := OwnB.made (Nat.le_refl _) (by unfold maxLen; omega) rfl
  have H1 := Lib.hid h1
  have Hall := Lib.hid hall
  have Hn := Lib.hid hn
  clear h h1 hlen hall h10 hn
  go_enter Try.func14, Try.ntmps14
  go_wp2_with (at_builtin; refine append_row rfl _ _ rfl w.heap.size _ [] rfl hm w.heap.size A k c bs rfl H1.out (by simp; omega) (by simp) ?_; intro v' w5 hown5 hgrow5)
  have hb5 : Below w.heap.size w w5 := below_grown ((Below.refl _ w).alloc (Nat.le_refl _) (.cells #[] 5)) hm hgrow5 (by simp)
  have Hm := Lib.hid hm
  rw [List.nil_append] at hown5
  clear hm hgrow5
  go_loopw [1, 5] (Doing w (bs ++ sh n)) (fun s1 _ _ => (intOf s1).toNat)
  case atStart => exact ⟨n, bs, rfl, Hn.out, hown5, rfl, hb5⟩
  case round =>
    obtain ⟨m, acc, rfl, hm64, hown, hacc, hb⟩ := hrel
    have hal : acc.length ≤ 1000010 := by have := Hall.out; rw [← hacc, List.length_append] at this; omega
    have Hacc := Lib.hid hacc
    have Hb := Lib.hid hb
    have Ho := Lib.hid hown
    have hz := hb.size
    clear hacc hb hown hown5 hb5
    by_cases hge : 128 ≤ m
    · have hx : m % 128 + 128 < 256 := by omega
      have hsh := Lib.hid (sh_ge hge)
      have hdiv := Lib.hid (Nat.lt_of_le_of_lt (Nat.div_le_self m 128) hm64)
      go_wp2_with (at_builtin; refine append_row rfl _ _ rfl w.heap.size _ acc rfl (Ho.out.alloc _) _ _ 1 1 [m % 128 + 128] rfl (RowB.fresh wr (m % 128 + 128) hx (by omega)) (by omega) (by simp; omega) ?_; intro v6 w6 hown6 hgrow6)
      have hb6 : Below w.heap.size w w6 := below_grown (Hb.out.alloc hz _) (Ho.out.alloc _) hgrow6 (by simp; omega)
      clear hgrow6
      go_roundw
      case rel => exact ⟨m / 128, acc ++ [m % 128 + 128], by rw [chop], hdiv.out, hown6, by rw [← Hacc.out, hsh.out]; simp, hb6⟩
      case measure => simp [intOf]; omega
    · have hlt : m < 128 := by omega
      have hx : m < 256 := by omega
      have hsh := Lib.hid (sh_lt hlt)
      have Hge := Lib.hid hge
      clear hm64 hge
      go_wp2_with (at_builtin; refine append_row rfl _ _ rfl w.heap.size _ acc rfl (Ho.out.alloc _) _ _ 1 1 [m] rfl (RowB.fresh wr m hx (by omega)) (by omega) (by simp; omega) ?_; intro v6 w6 hown6 hgrow6)
      go_ret
      have hb6 : Below w.heap.size w w6 := below_grown (Hb.out.alloc hz _) (Ho.out.alloc _) hgrow6 (by simp; omega)
      exact ⟨v6, rfl, by rw [← Hacc.out, hsh.out]; exact hown6, hb6⟩
end Go.Proofs.Ytnppkobckabpcaa
