/- PutInt, PutFlag, PutBytes, and what the document says of them. -/
import Derived.Test.YtnppkobckabpcaaTPut
namespace Go.Proofs.Ytnppkobckabpcaa
open Go.RowKit

theorem RowU.fresh (w : World) {z : Int} (x : Nat) (hx : x < 18446744073709551616) (hz : z = (x : Int)) : RowU (w.alloc (.cells #[.int .u64 z] 27)) (w.heap.size + 1) (some ⟨w.heap.size, 0, none⟩) 1 [x] :=
  ⟨rfl, by simpa using hx, fun k hk => ⟨w.heap.size, 0, rfl, by omega, by
    obtain rfl : k = 0 := by omega
    subst hz
    rw [cell_of_row _ w.heap.size 0 _ _ _ (heap_alloc_new w _)]; rfl⟩⟩
theorem put_one (A : Option Addr) (k c : Nat) {z : Int} (x : Nat) (bs : List Nat) (w : World) (h : RowB w w.heap.size A k c bs) (hk : k ≤ 1000000) (hx : x < 18446744073709551616) (hz : z = (x : Int)) :
    Calls Try.prog 19 #[.slice A k c, .slice (some ⟨w.heap.size, 0, none⟩) 1 1] (w.alloc (.cells #[.int .u64 z] 27)) fun e w' => ∃ v, e = .returned v ∧ OwnB w' w.heap.size v (bs ++ sh x) ∧ Below w.heap.size w w' := by
  have hb := (Below.refl _ w).alloc (Nat.le_refl _) (.cells #[.int .u64 z] 27)
  have hs : (w.alloc (.cells #[.int .u64 z] 27)).heap.size = w.heap.size + 1 := by simp
  have hu := RowU.fresh w x hx hz
  rw [← hs] at hu
  refine (put_any A (some ⟨w.heap.size, 0, none⟩) k c 1 1 bs [x] _ ((h.below hb).mono (by omega)) hk hu (by omega)).mono ?_
  rintro e w' ⟨v, rfl, ho, hb2⟩
  exact ⟨v, rfl, by simpa [shs] using ho.mono (by omega), gr_trans hb hb2⟩

def PutIs (w : World) (bs ns : List Nat) (e : Ending) (w' : World) : Prop := ∃ v, e = .returned v ∧ OwnB w' w.heap.size v (bs ++ ns) ∧ Below w.heap.size w w'
theorem turn_nat (n : Int) : ((turnZ n).toNat : Int) = turnZ n := Int.toNat_of_nonneg (turn_lo n)
set_option maxRecDepth 100000 in
theorem putInt_any (A : Option Addr) (k c : Nat) (n : Int) (bs : List Nat) (w : World) (h : RowB w w.heap.size A k c bs) (hk : k ≤ 1000000) (h0 : -9223372036854775808 ≤ n) (h1 : n ≤ 9223372036854775807) :
    Calls Try.prog 31 #[.slice A k c, .int .i64 n] w (PutIs w bs (sh (turnZ n).toNat)) := by
  have hh := turn_hi h0 h1
  have hn := turn_nat n
  have hp := put_one A k c (z := turnZ n) (turnZ n).toNat bs w h hk (by omega) hn.symm
  have ht := turn_any n w h0 h1
  generalize (turnZ n).toNat = x at *
  generalize turnZ n = z at *
  have HP := Lib.hid hp; have HT := Lib.hid ht
  clear hp ht h hh hn
  go_enter Try.func31, Try.ntmps31
  go_wp2_with fail
  refine HT.out.mono ?_; rintro e w' ⟨rfl, rfl⟩
  go_wp2_with fail
  refine HP.out.mono ?_; rintro e w' ⟨v, rfl, ho, hb⟩
  go_wp2_with fail
  go_ret
  exact ⟨v, rfl, ho, hb⟩
def flagN (b : Bool) : Nat := if b then 1 else 0
set_option maxRecDepth 100000 in
theorem putFlag_any (A : Option Addr) (k c : Nat) (b : Bool) (bs : List Nat) (w : World) (h : RowB w w.heap.size A k c bs) (hk : k ≤ 1000000) :
    Calls Try.prog 32 #[.slice A k c, .bool b] w (PutIs w bs [flagN b]) := by
  cases b with
  | true =>
    have hp := put_one A k c (z := 1) 1 bs w h hk (by omega) rfl
    rw [show sh 1 = [1] from sh_lt (by omega)] at hp
    have HP := Lib.hid hp
    clear hp h
    go_enter Try.func32, Try.ntmps32
    go_wp2_with fail
    refine HP.out.mono ?_; rintro e w' ⟨v, rfl, ho, hb⟩
    go_wp2_with fail
    go_ret
    exact ⟨v, rfl, ho, hb⟩
  | false =>
    have hp := put_one A k c (z := 0) 0 bs w h hk (by omega) rfl
    rw [show sh 0 = [0] from sh_lt (by omega)] at hp
    have HP := Lib.hid hp
    clear hp h
    go_enter Try.func32, Try.ntmps32
    go_wp2_with fail
    refine HP.out.mono ?_; rintro e w' ⟨v, rfl, ho, hb⟩
    go_wp2_with fail
    go_ret
    exact ⟨v, rfl, ho, hb⟩
set_option maxRecDepth 100000 in
theorem putBytes_any (A B : Option Addr) (k c m d : Nat) (bs xs : List Nat) (w : World) (h : RowB w w.heap.size A k c bs) (hk : k ≤ 1000000) (hx : RowB w w.heap.size B m d xs) (hm : m ≤ 1000000) :
    Calls Try.prog 33 #[.slice A k c, .slice B m d] w (PutIs w bs (sh xs.length ++ xs)) := by
  have hp := put_one A k c (z := (m : Int)) m bs w h hk (by omega) rfl
  have h10 := sh_ten (n := m) (by omega)
  have hbl := h.len
  have hl := hx.len
  have hal : (bs ++ sh m).length ≤ 1000010 := by rw [List.length_append]; omega
  have HP := Lib.hid hp; have HX := Lib.hid hx; have Hl := Lib.hid hl; have Hal := Lib.hid hal
  clear hp h hx hl h10 hbl hal
  go_enter Try.func33, Try.ntmps33
  go_wp2_with fail
  refine HP.out.mono ?_; rintro e w1 ⟨v, rfl, ho, hb⟩
  have hxr := Lib.hid (HX.out.below hb)
  have Ho := Lib.hid ho; have Hb := Lib.hid hb
  have hz := hb.size
  clear ho hb
  go_wp2_with (at_builtin; refine append_row rfl _ _ rfl w.heap.size _ (bs ++ sh m) rfl Ho.out w.heap.size B m d xs rfl hxr.out (by have := Hal.out; omega) hz ?_; intro v6 w6 hown6 hgrow6)
  go_ret
  exact ⟨v6, rfl, by rw [Hl.out, ← List.append_assoc]; exact hown6, below_grown Hb.out Ho.out hgrow6 hz⟩
end Go.Proofs.Ytnppkobckabpcaa
