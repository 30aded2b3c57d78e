/- What the document says of what is asked. -/
import Derived.Test.YtnppkobckabpcaaTSay
namespace Go.Proofs.Ytnppkobckabpcaa
open Go.RowKit

theorem rint_any (A : Option Addr) (n c : Nat) (t err : Int) (bs : List Nat) (w : World) (h : RowB w w.heap.size A n c bs) :
    Calls Try.prog 45 #[tv A n c t err] w
      (RIs w A n c (goT n t err (rdS (rest bs t)).2.1 ((rdS (rest bs t)).2.2 : Int)).1 (goT n t err (rdS (rest bs t)).2.1 ((rdS (rest bs t)).2.2 : Int)).2.1 (.num .i64 (if (goT n t err (rdS (rest bs t)).2.1 ((rdS (rest bs t)).2.2 : Int)).2.2 then backZ ((rdS (rest bs t)).1 : Int) else 0))) := by
  have hc := fun W (hW : Below w.heap.size w W) => rtake_any A n c 18446744073709551615 t err bs W ((h.below hW).mono hW.size)
  rw [show ((18446744073709551615 : Nat) : Int) = 18446744073709551615 from rfl] at hc
  rw [mostE_max _ (rest_byte h.byte t)] at hc
  have hu := rd_u64 (rest_byte h.byte t)
  have := rint_step A n c t err _ _ _ w (by split <;> omega) (by split <;> omega) hc
  cases hb : (goT n t err (rdS (rest bs t)).2.1 ((rdS (rest bs t)).2.2 : Int)).2.2 <;> rw [hb] at this
  · rw [if_neg (by simp), show backZ 0 = 0 by unfold backZ; rfl] at this
    simpa using this
  · rw [if_pos rfl] at this
    simpa using this
theorem say_any (k : Int) (N : Nat) (M : Int) (A : Option Addr) (n c : Nat) (t err : Int) (bs : List Nat) (w : World) (h : RowB w w.heap.size A n c bs) (hM : M ≤ 9223372036854775807) :
    Calls Try.prog 25 #[.agg #[.int .i64 k, .int .u64 (N : Int), .int .i64 M], tv A n c t err] w
      (SayIs w A n c (askG (askK k) N M n bs t err).1 (askG (askK k) N M n bs t err).2.1 (askT (askK k) N M n bs t err)) := by
  rcases askK_five k with hk | hk | hk | hk | hk
  · rw [hk]
    have ee : askT 0 N M n bs t err = ⟨(askT 0 N M n bs t err).z, 0, false, []⟩ := by
      unfold askT; rw [readA_0]; split <;> rfl
    rw [ee]
    refine askS_num k (N : Int) M A n c t err _ _ _ bs w hk h (fun W hW => ?_)
    have h1 := rtake_any A n c 18446744073709551615 t err bs W hW
    unfold askT askG
    rw [readA_0]
    cases hb : (goT n t err (readA 0 N M (rest bs t)).2.1 (readA 0 N M (rest bs t)).2.2).2.2 <;> rw [readA_0] at hb <;> simp only [hb, if_true, if_false, Bool.false_eq_true] at h1 ⊢ <;> exact h1
  · rw [hk]
    have ee : askT 1 N M n bs t err = ⟨(askT 1 N M n bs t err).z, 0, false, []⟩ := by
      unfold askT; rw [readA_1]; split <;> rfl
    rw [ee]
    refine askS_most k (N : Int) M A n c t err _ _ _ bs w hk h (fun W hW => ?_)
    have h1 := rtake_any A n c N t err bs W hW
    unfold askT askG
    rw [readA_1]
    cases hb : (goT n t err (readA 1 N M (rest bs t)).2.1 (readA 1 N M (rest bs t)).2.2).2.2 <;> rw [readA_1] at hb <;> simp only [hb, if_true, if_false, Bool.false_eq_true] at h1 ⊢ <;> exact h1
  · rw [hk]
    have ee : askT 2 N M n bs t err = ⟨0, (askT 2 N M n bs t err).i, false, []⟩ := by
      unfold askT; rw [readA_2]; split <;> rfl
    rw [ee]
    refine askS_int k (N : Int) M A n c t err _ _ _ bs w hk h (fun W hW => ?_)
    have h1 := rint_any A n c t err bs W hW
    unfold askT askG
    rw [readA_2]
    cases hb : (goT n t err (readA 2 N M (rest bs t)).2.1 (readA 2 N M (rest bs t)).2.2).2.2 <;> rw [readA_2] at hb <;> simp only [hb, if_true, if_false, Bool.false_eq_true] at h1 ⊢ <;> exact h1
  · rw [hk]
    have ee : askT 3 N M n bs t err = ⟨0, 0, (askT 3 N M n bs t err).f, []⟩ := by
      unfold askT; rw [readA_3]; split <;> rfl
    rw [ee]
    refine askS_flag k (N : Int) M A n c t err _ _ _ bs w hk h (fun W hW => ?_)
    have h1 := rflag_any A n c t err bs W hW
    unfold askT askG
    rw [readA_3]
    cases hb : (goT n t err (readA 3 N M (rest bs t)).2.1 (readA 3 N M (rest bs t)).2.2).2.2 <;> rw [readA_3] at hb <;> simp only [hb, if_true, if_false, Bool.false_eq_true] at h1 ⊢ <;> exact h1
  · rw [hk]
    have ee : askT 4 N M n bs t err = ⟨0, 0, false, (askT 4 N M n bs t err).xs⟩ := by
      unfold askT; rw [readA_4]; split <;> rfl
    rw [ee]
    refine askS_bytes k (N : Int) M A n c t err _ _ _ bs w hk h (fun W hW => ?_)
    have h1 := rbytes_any A n c t err M bs W hW hM
    unfold askT askG
    rw [readA_4]
    cases hb : (goT n t err (readA 4 N M (rest bs t)).2.1 (readA 4 N M (rest bs t)).2.2).2.2 <;> rw [readA_4] at hb <;> simp only [hb, if_true, if_false, Bool.false_eq_true] at h1 ⊢ <;> exact h1
end Go.Proofs.Ytnppkobckabpcaa
