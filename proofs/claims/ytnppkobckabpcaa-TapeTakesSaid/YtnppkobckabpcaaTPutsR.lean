/- What the document says of PutInt, PutFlag, PutBytes. -/
import Derived.Test.YtnppkobckabpcaaTPuts
namespace Go.Proofs.Ytnppkobckabpcaa
open Go.RowKit

set_option maxRecDepth 100000 in
theorem rputInt_any (A : Option Addr) (k c : Nat) (n : Int) (bs : List Nat) (w : World) (h : RowB w w.heap.size A k c bs) (hk : k ≤ 1000000) (h0 : -9223372036854775808 ≤ n) (h1 : n ≤ 9223372036854775807) :
    Calls Try.prog 38 #[.slice A k c, .int .i64 n] w (PutIs w bs (sh (turnZ n).toNat)) := by
  have hh := turn_hi h0 h1
  have hn := turn_nat n
  have hp := rput_any A k c (turnZ n).toNat bs w h hk (by omega)
  rw [hn] at hp
  have ht := rturn_any n w h0 h1
  generalize (turnZ n).toNat = x at *
  generalize turnZ n = z at *
  have HP := Lib.hid hp; have HT := Lib.hid ht
  clear hp ht h hh hn
  go_enter Try.func38, Try.ntmps38
  go_wp2_with fail
  refine HT.out.mono ?_; rintro e w' ⟨rfl, rfl⟩
  go_wp2_with fail
  refine HP.out.mono ?_; rintro e w' ⟨v, rfl, ho, hb⟩
  go_wp2_with fail
  go_ret
  exact ⟨v, rfl, ho, hb⟩
set_option maxRecDepth 100000 in
theorem rputFlag_any (A : Option Addr) (k c : Nat) (b : Bool) (bs : List Nat) (w : World) (h : RowB w w.heap.size A k c bs) (hk : k ≤ 1000000) :
    Calls Try.prog 39 #[.slice A k c, .bool b] w (PutIs w bs [flagN b]) := by
  have h1 : RowB (w.alloc (.cells #[] 5)) w.heap.size A k c bs := h.below ((Below.refl _ w).alloc (Nat.le_refl _) _)
  have hm : OwnB (w.alloc (.cells #[] 5)) w.heap.size (.slice (some ⟨w.heap.size, 0, none⟩) 0 0) [] := OwnB.made (Nat.le_refl _) (by unfold maxLen; omega) rfl
  have hl := h.len
  have H1 := Lib.hid h1
  have Hm := Lib.hid hm
  have Hl := Lib.hid hl
  clear h h1 hm hl
  cases b with
  | true =>
    go_enter Try.func39, Try.ntmps39
    go_wp2_with (first | (at_builtin; refine append_row rfl (.tmp 6) (.tmp 7) rfl w.heap.size _ [] rfl Hm.out w.heap.size A k c bs rfl H1.out (by simp; omega) (by simp) ?_; intro v5 w5 hown5 hgrow5; rw [List.nil_append] at hown5; have hb5 := Lib.hid (below_grown ((Below.refl _ w).alloc (Nat.le_refl _) (.cells #[] 5)) Hm.out hgrow5 (by simp)); have hz5 := hb5.out.size; clear hgrow5) | (at_builtin; refine append_row rfl (.tmp 8) (.tmp 9) rfl w.heap.size v5 bs rfl (hown5.alloc _) _ _ 1 1 [1] rfl (RowB.fresh w5 1 (by omega) rfl) (by rw [Hl.out]; omega) (by simp; omega) ?_; intro v6 w6 hown6 hgrow6))
    go_ret
    exact ⟨v6, rfl, hown6, below_grown (hb5.out.alloc hz5 _) (hown5.alloc _) hgrow6 (by simp; omega)⟩
  | false =>
    go_enter Try.func39, Try.ntmps39
    go_wp2_with (first | (at_builtin; refine append_row rfl (.tmp 11) (.tmp 12) rfl w.heap.size _ [] rfl Hm.out w.heap.size A k c bs rfl H1.out (by simp; omega) (by simp) ?_; intro v5 w5 hown5 hgrow5; rw [List.nil_append] at hown5; have hb5 := Lib.hid (below_grown ((Below.refl _ w).alloc (Nat.le_refl _) (.cells #[] 5)) Hm.out hgrow5 (by simp)); have hz5 := hb5.out.size; clear hgrow5) | (at_builtin; refine append_row rfl (.tmp 13) (.tmp 14) rfl w.heap.size v5 bs rfl (hown5.alloc _) _ _ 1 1 [0] rfl (RowB.fresh w5 0 (by omega) rfl) (by rw [Hl.out]; omega) (by simp; omega) ?_; intro v6 w6 hown6 hgrow6))
    go_ret
    exact ⟨v6, rfl, hown6, below_grown (hb5.out.alloc hz5 _) (hown5.alloc _) hgrow6 (by simp; omega)⟩
set_option maxRecDepth 100000 in
theorem rputBytes_any (A B : Option Addr) (k c m d : Nat) (bs xs : List Nat) (w : World) (h : RowB w w.heap.size A k c bs) (hk : k ≤ 1000000) (hx : RowB w w.heap.size B m d xs) (hm : m ≤ 1000000) :
    Calls Try.prog 40 #[.slice A k c, .slice B m d] w (PutIs w bs (sh xs.length ++ xs)) := by
  have hp := rput_any A k c m bs w h hk (by omega)
  have h10 := sh_ten (n := m) (by omega)
  have hbl := h.len
  have hl := hx.len
  have hal : (bs ++ sh m).length ≤ 1000010 := by rw [List.length_append]; omega
  have HP := Lib.hid hp; have HX := Lib.hid hx; have Hl := Lib.hid hl; have Hal := Lib.hid hal
  clear hp h hx hl h10 hbl hal
  go_enter Try.func40, Try.ntmps40
  go_wp2_with fail
  refine HP.out.mono ?_; rintro e w1 ⟨v, rfl, ho, hb⟩
  have hxr := Lib.hid (HX.out.below hb)
  have Ho := Lib.hid ho; have Hb := Lib.hid hb
  have hz := hb.size
  clear ho hb
  go_wp2_with (at_builtin; refine append_row rfl _ _ rfl w.heap.size _ (bs ++ sh m) rfl Ho.out w.heap.size B m d xs rfl hxr.out (by have := Hal.out; omega) hz ?_; intro v6 w6 hown6 hgrow6)
  go_ret
  exact ⟨v6, rfl, by rw [Hl.out, ← List.append_assoc]; exact hown6, below_grown Hb.out Ho.out hgrow6 hz⟩
end Go.Proofs.Ytnppkobckabpcaa
