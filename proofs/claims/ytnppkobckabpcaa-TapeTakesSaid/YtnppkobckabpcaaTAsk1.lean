/- What is asked of a tape, and told. -/
import Derived.Test.YtnppkobckabpcaaTAsk
namespace Go.Proofs.Ytnppkobckabpcaa
open Go.RowKit

/-- What stands there, by what is asked: what is told, how many bytes, the error. -/
def readA (K : Int) (N : Nat) (M : Int) (bs : List Nat) : Told × Nat × Int :=
  if K = 0 then (⟨((rdS bs).1 : Int), 0, false, []⟩, (rdS bs).2.1, mostE bs 18446744073709551615)
  else if K = 1 then (⟨((rdS bs).1 : Int), 0, false, []⟩, (rdS bs).2.1, mostE bs N)
  else if K = 2 then (⟨0, backZ ((rdS bs).1 : Int), false, []⟩, (rdS bs).2.1, ((rdS bs).2.2 : Int))
  else if K = 3 then (⟨0, 0, (flagR bs).1, []⟩, (flagR bs).2.1, (flagR bs).2.2)
  else (⟨0, 0, false, (bytesR bs M).1⟩, (bytesR bs M).2.1, (bytesR bs M).2.2)
def noT : Told := ⟨0, 0, false, []⟩
def askK (k : Int) : Int := (IntKind.u64.wrap k).tmod 5
theorem askK_five (k : Int) : askK k = 0 ∨ askK k = 1 ∨ askK k = 2 ∨ askK k = 3 ∨ askK k = 4 := by
  unfold askK; rw [ask_wrap]; omega
/-- The tape then, and whether anything is told. -/
def askG (K : Int) (N : Nat) (M : Int) (n : Nat) (bs : List Nat) (t err : Int) : Int × Int × Bool := goT n t err (readA K N M (rest bs t)).2.1 (readA K N M (rest bs t)).2.2
def askT (K : Int) (N : Nat) (M : Int) (n : Nat) (bs : List Nat) (t err : Int) : Told := if (askG K N M n bs t err).2.2 then (readA K N M (rest bs t)).1 else noT
def AskOf (w : World) (K : Int) (N : Nat) (M : Int) (n : Nat) (bs : List Nat) (t err : Int) : Ending → World → Prop := AskIs w bs (askG K N M n bs t err).1 (askG K N M n bs t err).2.1 (askT K N M n bs t err)
theorem readA_0 (N : Nat) (M : Int) (bs : List Nat) : readA 0 N M bs = (⟨((rdS bs).1 : Int), 0, false, []⟩, (rdS bs).2.1, mostE bs 18446744073709551615) := by simp [readA]
theorem readA_1 (N : Nat) (M : Int) (bs : List Nat) : readA 1 N M bs = (⟨((rdS bs).1 : Int), 0, false, []⟩, (rdS bs).2.1, mostE bs N) := by simp [readA]
theorem readA_2 (N : Nat) (M : Int) (bs : List Nat) : readA 2 N M bs = (⟨0, backZ ((rdS bs).1 : Int), false, []⟩, (rdS bs).2.1, ((rdS bs).2.2 : Int)) := by simp [readA]
theorem readA_3 (N : Nat) (M : Int) (bs : List Nat) : readA 3 N M bs = (⟨0, 0, (flagR bs).1, []⟩, (flagR bs).2.1, (flagR bs).2.2) := by simp [readA]
theorem readA_4 (N : Nat) (M : Int) (bs : List Nat) : readA 4 N M bs = (⟨0, 0, false, (bytesR bs M).1⟩, (bytesR bs M).2.1, (bytesR bs M).2.2) := by simp [readA]
theorem ask_any (k : Int) (N : Nat) (M : Int) (A : Option Addr) (n c : Nat) (t err : Int) (bs : List Nat) (w : World) (h : RowB w w.heap.size A n c bs) (hn : n ≤ 1000000) (hM : M ≤ 9223372036854775807) :
    Calls Try.prog 24 #[.agg #[.int .i64 k, .int .u64 (N : Int), .int .i64 M], tv A n c t err] w (AskOf w (askK k) N M n bs t err) := by
  rcases askK_five k with hk | hk | hk | hk | hk
  · rw [hk]
    have ee : askT 0 N M n bs t err = ⟨(askT 0 N M n bs t err).z, 0, false, []⟩ := by
      unfold askT; rw [readA_0]; split <;> rfl
    unfold AskOf
    rw [ee]
    refine askT_num k (N : Int) M A n c t err _ _ _ bs w hk h (fun W hW => ?_)
    have h1 := take_any A n c t err bs W hW hn
    unfold MostIs pickR at h1
    unfold askT askG
    rw [readA_0]
    cases hb : (goT n t err (readA 0 N M (rest bs t)).2.1 (readA 0 N M (rest bs t)).2.2).2.2 <;> rw [readA_0] at hb <;> simp only [hb, if_true, if_false, Bool.false_eq_true] at h1 ⊢ <;> exact h1
  · rw [hk]
    have ee : askT 1 N M n bs t err = ⟨(askT 1 N M n bs t err).z, 0, false, []⟩ := by
      unfold askT; rw [readA_1]; split <;> rfl
    unfold AskOf
    rw [ee]
    refine askT_most k (N : Int) M A n c t err _ _ _ bs w hk h (fun W hW => ?_)
    have h1 := most_any A n c N t err bs W hW hn
    unfold MostIs pickR at h1
    unfold askT askG
    rw [readA_1]
    cases hb : (goT n t err (readA 1 N M (rest bs t)).2.1 (readA 1 N M (rest bs t)).2.2).2.2 <;> rw [readA_1] at hb <;> simp only [hb, if_true, if_false, Bool.false_eq_true] at h1 ⊢ <;> exact h1
  · rw [hk]
    have ee : askT 2 N M n bs t err = ⟨0, (askT 2 N M n bs t err).i, false, []⟩ := by
      unfold askT; rw [readA_2]; split <;> rfl
    unfold AskOf
    rw [ee]
    refine askT_int k (N : Int) M A n c t err _ _ _ bs w hk h (fun W hW => ?_)
    have h1 := takeInt_any A n c t err bs W hW hn
    unfold IntIs pickR at h1
    unfold askT askG
    rw [readA_2]
    cases hb : (goT n t err (readA 2 N M (rest bs t)).2.1 (readA 2 N M (rest bs t)).2.2).2.2 <;> rw [readA_2] at hb <;> simp only [hb, if_true, if_false, Bool.false_eq_true] at h1 ⊢ <;> exact h1
  · rw [hk]
    have ee : askT 3 N M n bs t err = ⟨0, 0, (askT 3 N M n bs t err).f, []⟩ := by
      unfold askT; rw [readA_3]; split <;> rfl
    unfold AskOf
    rw [ee]
    refine askT_flag k (N : Int) M A n c t err _ _ _ bs w hk h (fun W hW => ?_)
    have h1 := takeFlag_any A n c t err bs W hW hn
    unfold FlagIs pickR at h1
    unfold askT askG
    rw [readA_3]
    cases hb : (goT n t err (readA 3 N M (rest bs t)).2.1 (readA 3 N M (rest bs t)).2.2).2.2 <;> rw [readA_3] at hb <;> simp only [hb, if_true, if_false, Bool.false_eq_true] at h1 ⊢ <;> exact h1
  · rw [hk]
    have ee : askT 4 N M n bs t err = ⟨0, 0, false, (askT 4 N M n bs t err).xs⟩ := by
      unfold askT; rw [readA_4]; split <;> rfl
    unfold AskOf
    rw [ee]
    refine askT_bytes k (N : Int) M A n c t err _ _ _ bs w hk h (fun W hW => ?_)
    have h1 := takeBytes_any A n c t err M bs W hW hn hM
    unfold BytesIs pickR at h1
    unfold askT askG
    rw [readA_4]
    cases hb : (goT n t err (readA 4 N M (rest bs t)).2.1 (readA 4 N M (rest bs t)).2.2).2.2 <;> rw [readA_4] at hb <;> simp only [hb, if_true, if_false, Bool.false_eq_true] at h1 ⊢ <;> exact h1
end Go.Proofs.Ytnppkobckabpcaa
