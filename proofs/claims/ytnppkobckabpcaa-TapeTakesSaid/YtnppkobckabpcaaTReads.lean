/- The readers that are handed to take. -/
import Derived.Test.YtnppkobckabpcaaTRes
import Derived.Test.YtnppkobckabpcaaTShort
namespace Go.Proofs.Ytnppkobckabpcaa
open Go.RowKit

theorem rdS_eta (bs : List Nat) : rdS bs = ((rdS bs).1, (rdS bs).2.1, (rdS bs).2.2) := rfl
theorem rd_facts (bs : List Nat) : (rdS bs).2.1 ≤ bs.length ∧ ((rdS bs).2.2 = 0 ∨ ((rdS bs).1 = 0 ∧ (rdS bs).2.1 = 0 ∧ ((rdS bs).2.2 = 7 ∨ (rdS bs).2.2 = 120))) ∧ ((rdS bs).2.2 = 0 → 1 ≤ (rdS bs).2.1) := rdS_len (rdS_eta bs)
theorem rd_u64 {bs : List Nat} (h : ∀ b ∈ bs, b < 256) : (rdS bs).1 < 18446744073709551616 := by
  rcases (rd_facts bs).2.1 with h0 | h0
  · exact (rdS_ok h (by rw [← h0])).1
  · omega
/-- The error of Most. -/
def mostE (bs : List Nat) (m : Nat) : Int := if (rdS bs).2.2 = 0 ∧ m < (rdS bs).1 then 3 else ((rdS bs).2.2 : Int)
set_option maxRecDepth 100000 in
set_option maxHeartbeats 2000000 in
theorem most1_any (A : Option Addr) (n c B P m : Nat) (bs : List Nat) (w : World) (h : RowB w B A n c bs) (hP : w.cell? ⟨P, 0, none⟩ = some (.int .u64 (m : Int))) :
    Calls Try.prog 54 #[.slice A n c, .pointer (some ⟨P, 0, none⟩)] w (ReadIs w (.num .u64 ((rdS bs).1 : Int)) (rdS bs).2.1 (mostE bs m)) := by
  have hs := short_any A n c B bs w h
  unfold ShortIs at hs
  unfold mostE
  have hf := rd_facts bs
  have hu := rd_u64 h.byte
  generalize (rdS bs).1 = x at *
  generalize (rdS bs).2.1 = s at *
  generalize (rdS bs).2.2 = e at *
  have Hs := Lib.hid hs
  clear h hs hf
  by_cases he : e = 0
  · subst he
    by_cases hm : m < x
    · rw [if_pos ⟨rfl, hm⟩]
      have hd : decide ((m : Int) < (x : Int)) = true := by simp; omega
      have Hm := Lib.hid hm; have Hu := Lib.hid hu
      clear hm hu
      go_enter Try.func54, Try.ntmps54
      go_wp2_with fail
      refine Hs.out.mono ?_; rintro e w' ⟨rfl, rfl⟩
      go_wp2_with fail
      go_ret3
      exact ⟨_, rfl, rfl, Below.refl _ _⟩
    · rw [if_neg (fun h => hm h.2)]
      have hd : decide ((m : Int) < (x : Int)) = false := by simp; omega
      have Hm := Lib.hid hm; have Hu := Lib.hid hu
      clear hm hu
      go_enter Try.func54, Try.ntmps54
      go_wp2_with fail
      refine Hs.out.mono ?_; rintro e w' ⟨rfl, rfl⟩
      go_wp2_with fail
      go_ret3
      exact ⟨_, rfl, rfl, Below.refl _ _⟩
  · rw [if_neg (fun h => he h.1)]
    have hd : ((e : Int) == 0) = false := by simp; omega
    have He := Lib.hid he; have Hu := Lib.hid hu
    clear he hu
    go_enter Try.func54, Try.ntmps54
    go_wp2_with fail
    refine Hs.out.mono ?_; rintro e w' ⟨rfl, rfl⟩
    go_wp2_with fail
    go_ret3
    exact ⟨_, rfl, rfl, Below.refl _ _⟩
set_option maxRecDepth 100000 in
set_option maxHeartbeats 2000000 in
theorem int1_any (A : Option Addr) (n c B : Nat) (bs : List Nat) (w : World) (h : RowB w B A n c bs) :
    Calls Try.prog 49 #[.slice A n c] w (ReadIs w (.num .i64 (backZ ((rdS bs).1 : Int))) (rdS bs).2.1 ((rdS bs).2.2 : Int)) := by
  have hs := short_any A n c B bs w h
  unfold ShortIs at hs
  have hu := rd_u64 h.byte
  have hb := fun W => back_any ((rdS bs).1 : Int) W (by omega) (by omega)
  generalize (rdS bs).1 = x at *
  generalize (rdS bs).2.1 = s at *
  generalize (rdS bs).2.2 = e at *
  have Hs := Lib.hid hs; have Hb := Lib.hid hb
  clear h hs hu hb
  go_enter Try.func49, Try.ntmps49
  go_wp2_with fail
  refine Hs.out.mono ?_; rintro e w' ⟨rfl, rfl⟩
  go_wp2_with fail
  refine (Hb.out _).mono ?_; rintro e w' ⟨rfl, rfl⟩
  go_wp2_with fail
  go_ret3
  exact ⟨_, rfl, rfl, Below.refl _ _⟩
/-- What TakeFlag reads. -/
def flagR (bs : List Nat) : Bool × Nat × Int := if bs.length = 0 then (false, 0, 7) else if 1 < nthB bs 0 then (false, 0, 120) else (nthB bs 0 == 1, 1, 0)
set_option maxRecDepth 100000 in
set_option maxHeartbeats 2000000 in
theorem flag1_any (A : Option Addr) (n c B : Nat) (bs : List Nat) (w : World) (h : RowB w B A n c bs) :
    Calls Try.prog 56 #[.slice A n c] w (ReadIs w (.flag (flagR bs).1) (flagR bs).2.1 (flagR bs).2.2) := by
  have hl := h.len
  have hn : n ≤ 9223372036854775807 := by have := h.cap; have := h.top; unfold maxLen at this; omega
  unfold flagR
  rw [hl]
  by_cases h0 : n = 0
  · subst h0
    clear h hl hn
    go_enter Try.func56, Try.ntmps56
    go_wp2_with fail
    go_ret3
    exact ⟨_, rfl, rfl, Below.refl _ _⟩
  · rw [if_neg h0]
    have hd : ((n : Int) == 0) = false := by simp; omega
    obtain ⟨b1, o1, rfl, _, c1⟩ := h.at_ 0 (by omega)
    have hx := h.byte _ (nth_mem (l := bs) (i := 0) (by omega))
    unfold bv at c1
    rw [Nat.add_zero] at c1
    generalize nthB bs 0 = x at *
    have hn0 : 0 < n := by omega
    clear h hl h0
    by_cases h1 : 1 < x
    · rw [if_pos h1]
      have hd1 : decide ((1 : Int) < (x : Int)) = true := by simp; omega
      have H1 := Lib.hid h1; clear h1
      go_enter Try.func56, Try.ntmps56
      go_wp2_with fail
      go_ret3
      exact ⟨_, rfl, rfl, Below.refl _ _⟩
    · rw [if_neg h1]
      have hd1 : decide ((1 : Int) < (x : Int)) = false := by simp; omega
      have he : ((x : Int) == 1) = (x == 1) := by rw [Bool.eq_iff_iff]; simp; omega
      have H1 := Lib.hid h1; clear h1
      have He := Lib.hid he; clear he
      go_enter Try.func56, Try.ntmps56
      go_wp2_with fail
      go_ret3
      exact ⟨_, by rfl, by first | exact congrArg Value.bool He.out | (unfold Res.at_; rw [← He.out]), Below.refl _ _⟩
end Go.Proofs.Ytnppkobckabpcaa
