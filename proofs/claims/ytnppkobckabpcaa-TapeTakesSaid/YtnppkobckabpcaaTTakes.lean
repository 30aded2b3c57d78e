/- Take, Most, TakeInt, TakeFlag, TakeBytes. -/
import Derived.Test.YtnppkobckabpcaaTTake
import Derived.Test.YtnppkobckabpcaaTReadB
namespace Go.Proofs.Ytnppkobckabpcaa
open Go.RowKit

/-- Where a tape stands then, its error, and whether it was taken. -/
def goT (n : Nat) (t err : Int) (s : Nat) (ee : Int) : Int × Int × Bool :=
  if checkT n t err ≠ 0 then (t, checkT n t err, false) else if ee ≠ 0 then (t, ee, false) else (t + s, 0, true)
theorem check_zero {n : Nat} {t err : Int} (h : checkT n t err = 0) : err = 0 ∧ n ≤ 16384 ∧ 0 ≤ t ∧ t ≤ n := by
  unfold checkT at h
  by_cases hb : badT n t = true
  · rw [if_pos hb] at h; omega
  · rw [if_neg hb] at h
    exact ⟨h, bad_false (by simpa using hb)⟩
/-- The tape's bytes from At on. -/
def rest (bs : List Nat) (t : Int) : List Nat := bs.drop t.toNat
def pickR (b : Bool) (r r0 : Res) : Res := if b then r else r0

theorem flagR_le (bs : List Nat) : (flagR bs).2.1 ≤ bs.length := by
  unfold flagR; split
  · simp
  · split
    · simp
    · simp; omega
theorem bytesR_le (bs : List Nat) (m : Int) : (bytesR bs m).2.1 ≤ bs.length := by
  unfold bytesR; split
  · simp
  · split
    · simp
    · split
      · simp
      · simp; omega
theorem take_u64 (P m : Nat) (A : Option Addr) (n c : Nat) (t err : Int) (bs : List Nat) (w : World) (h : RowB w w.heap.size A n c bs) (hn : n ≤ 1000000) (hP : P < w.heap.size) (hc : w.cell? ⟨P, 0, none⟩ = some (.int .u64 (m : Int))) :
    Calls Try.prog 53 #[tv A n c t err, .func (Fn.func 54) #[] #[.pointer (some ⟨P, 0, none⟩)]] w (TakeIs w bs (goT n t err ((rdS (rest bs t)).2.1) (mostE (rest bs t) m)).1 (goT n t err ((rdS (rest bs t)).2.1) (mostE (rest bs t) m)).2.1 (pickR (goT n t err ((rdS (rest bs t)).2.1) (mostE (rest bs t) m)).2.2 (.num .u64 ((rdS (rest bs t)).1 : Int)) (.num .u64 0))) := by
  by_cases hk : checkT n t err = 0
  · obtain ⟨rfl, h1, h2, h3⟩ := check_zero hk
    obtain ⟨tn, rfl⟩ : ∃ tn : Nat, t = (tn : Int) := ⟨t.toNat, by omega⟩
    have hl := h.len
    have hsz : tn + (rdS (rest bs (tn : Int))).2.1 ≤ n := by
      have : (rdS (rest bs (tn : Int))).2.1 ≤ (rest bs (tn : Int)).length := (rd_facts _).1
      unfold rest at this ⊢
      simp only [List.length_drop, Int.toNat_natCast, hl] at this ⊢
      omega
    refine take_on_u64 P A n c tn ((rdS (rest bs (tn : Int))).2.1) (mostE (rest bs (tn : Int)) m) (goT n (tn : Int) 0 ((rdS (rest bs (tn : Int))).2.1) (mostE (rest bs (tn : Int)) m)).1 (.num .u64 ((rdS (rest bs (tn : Int))).1 : Int)) (pickR (goT n (tn : Int) 0 ((rdS (rest bs (tn : Int))).2.1) (mostE (rest bs (tn : Int)) m)).2.2 (.num .u64 ((rdS (rest bs (tn : Int))).1 : Int)) (.num .u64 0)) bs w h h1 (by omega) hsz (fun A' n' c' W hb hr => ?_) (fun h0 => ?_) (fun h0 => ?_) |>.mono ?_
    · have hr' : RowB W W.heap.size A' n' c' (rest bs (tn : Int)) := by unfold rest; simpa using hr
      exact most1_any A' n' c' W.heap.size P m _ W hr' ((below_cell hb).1 P 0 hP |>.trans hc)
    · unfold goT pickR; rw [if_neg (by simpa using hk), if_neg (by simpa using h0)]; exact ⟨rfl, rfl⟩
    · unfold goT pickR; rw [if_neg (by simpa using hk), if_pos h0]; exact ⟨rfl, rfl⟩
    · intro e w' hh
      have e2 : (goT n (tn : Int) 0 ((rdS (rest bs (tn : Int))).2.1) (mostE (rest bs (tn : Int)) m)).2.1 = mostE (rest bs (tn : Int)) m := by
        unfold goT; rw [if_neg (by simpa using hk)]
        by_cases h0 : mostE (rest bs (tn : Int)) m = 0
        · rw [if_neg (by simpa using h0), h0]
        · rw [if_pos h0]
      rw [e2]; exact hh
  · have := take_off_u64 (.func (Fn.func 54) #[] #[.pointer (some ⟨P, 0, none⟩)]) A n c t err bs w h hn hk
    unfold goT pickR
    rw [if_pos hk]
    exact this
theorem take_i64 (A : Option Addr) (n c : Nat) (t err : Int) (bs : List Nat) (w : World) (h : RowB w w.heap.size A n c bs) (hn : n ≤ 1000000) :
    Calls Try.prog 48 #[tv A n c t err, .func (Fn.func 49) #[] #[]] w (TakeIs w bs (goT n t err ((rdS (rest bs t)).2.1) (((rdS (rest bs t)).2.2 : Int))).1 (goT n t err ((rdS (rest bs t)).2.1) (((rdS (rest bs t)).2.2 : Int))).2.1 (pickR (goT n t err ((rdS (rest bs t)).2.1) (((rdS (rest bs t)).2.2 : Int))).2.2 (.num .i64 (backZ ((rdS (rest bs t)).1 : Int))) (.num .i64 0))) := by
  by_cases hk : checkT n t err = 0
  · obtain ⟨rfl, h1, h2, h3⟩ := check_zero hk
    obtain ⟨tn, rfl⟩ : ∃ tn : Nat, t = (tn : Int) := ⟨t.toNat, by omega⟩
    have hl := h.len
    have hsz : tn + (rdS (rest bs (tn : Int))).2.1 ≤ n := by
      have : (rdS (rest bs (tn : Int))).2.1 ≤ (rest bs (tn : Int)).length := (rd_facts _).1
      unfold rest at this ⊢
      simp only [List.length_drop, Int.toNat_natCast, hl] at this ⊢
      omega
    refine take_on_i64  A n c tn ((rdS (rest bs (tn : Int))).2.1) (((rdS (rest bs (tn : Int))).2.2 : Int)) (goT n (tn : Int) 0 ((rdS (rest bs (tn : Int))).2.1) (((rdS (rest bs (tn : Int))).2.2 : Int))).1 (.num .i64 (backZ ((rdS (rest bs (tn : Int))).1 : Int))) (pickR (goT n (tn : Int) 0 ((rdS (rest bs (tn : Int))).2.1) (((rdS (rest bs (tn : Int))).2.2 : Int))).2.2 (.num .i64 (backZ ((rdS (rest bs (tn : Int))).1 : Int))) (.num .i64 0)) bs w h h1 (by omega) hsz (fun A' n' c' W hb hr => ?_) (fun h0 => ?_) (fun h0 => ?_) |>.mono ?_
    · have hr' : RowB W W.heap.size A' n' c' (rest bs (tn : Int)) := by unfold rest; simpa using hr
      exact int1_any A' n' c' W.heap.size _ W hr'
    · unfold goT pickR; rw [if_neg (by simpa using hk), if_neg (by simpa using h0)]; exact ⟨rfl, rfl⟩
    · unfold goT pickR; rw [if_neg (by simpa using hk), if_pos h0]; exact ⟨rfl, rfl⟩
    · intro e w' hh
      have e2 : (goT n (tn : Int) 0 ((rdS (rest bs (tn : Int))).2.1) (((rdS (rest bs (tn : Int))).2.2 : Int))).2.1 = ((rdS (rest bs (tn : Int))).2.2 : Int) := by
        unfold goT; rw [if_neg (by simpa using hk)]
        by_cases h0 : ((rdS (rest bs (tn : Int))).2.2 : Int) = 0
        · rw [if_neg (by simpa using h0), h0]
        · rw [if_pos h0]
      rw [e2]; exact hh
  · have := take_off_i64 (.func (Fn.func 49) #[] #[]) A n c t err bs w h hn hk
    unfold goT pickR
    rw [if_pos hk]
    exact this
theorem take_bool (A : Option Addr) (n c : Nat) (t err : Int) (bs : List Nat) (w : World) (h : RowB w w.heap.size A n c bs) (hn : n ≤ 1000000) :
    Calls Try.prog 55 #[tv A n c t err, .func (Fn.func 56) #[] #[]] w (TakeIs w bs (goT n t err ((flagR (rest bs t)).2.1) ((flagR (rest bs t)).2.2)).1 (goT n t err ((flagR (rest bs t)).2.1) ((flagR (rest bs t)).2.2)).2.1 (pickR (goT n t err ((flagR (rest bs t)).2.1) ((flagR (rest bs t)).2.2)).2.2 (.flag (flagR (rest bs t)).1) (.flag false))) := by
  by_cases hk : checkT n t err = 0
  · obtain ⟨rfl, h1, h2, h3⟩ := check_zero hk
    obtain ⟨tn, rfl⟩ : ∃ tn : Nat, t = (tn : Int) := ⟨t.toNat, by omega⟩
    have hl := h.len
    have hsz : tn + (flagR (rest bs (tn : Int))).2.1 ≤ n := by
      have : (flagR (rest bs (tn : Int))).2.1 ≤ (rest bs (tn : Int)).length := flagR_le _
      unfold rest at this ⊢
      simp only [List.length_drop, Int.toNat_natCast, hl] at this ⊢
      omega
    refine take_on_bool  A n c tn ((flagR (rest bs (tn : Int))).2.1) ((flagR (rest bs (tn : Int))).2.2) (goT n (tn : Int) 0 ((flagR (rest bs (tn : Int))).2.1) ((flagR (rest bs (tn : Int))).2.2)).1 (.flag (flagR (rest bs (tn : Int))).1) (pickR (goT n (tn : Int) 0 ((flagR (rest bs (tn : Int))).2.1) ((flagR (rest bs (tn : Int))).2.2)).2.2 (.flag (flagR (rest bs (tn : Int))).1) (.flag false)) bs w h h1 (by omega) hsz (fun A' n' c' W hb hr => ?_) (fun h0 => ?_) (fun h0 => ?_) |>.mono ?_
    · have hr' : RowB W W.heap.size A' n' c' (rest bs (tn : Int)) := by unfold rest; simpa using hr
      exact flag1_any A' n' c' W.heap.size _ W hr'
    · unfold goT pickR; rw [if_neg (by simpa using hk), if_neg (by simpa using h0)]; exact ⟨rfl, rfl⟩
    · unfold goT pickR; rw [if_neg (by simpa using hk), if_pos h0]; exact ⟨rfl, rfl⟩
    · intro e w' hh
      have e2 : (goT n (tn : Int) 0 ((flagR (rest bs (tn : Int))).2.1) ((flagR (rest bs (tn : Int))).2.2)).2.1 = (flagR (rest bs (tn : Int))).2.2 := by
        unfold goT; rw [if_neg (by simpa using hk)]
        by_cases h0 : (flagR (rest bs (tn : Int))).2.2 = 0
        · rw [if_neg (by simpa using h0), h0]
        · rw [if_pos h0]
      rw [e2]; exact hh
  · have := take_off_bool (.func (Fn.func 56) #[] #[]) A n c t err bs w h hn hk
    unfold goT pickR
    rw [if_pos hk]
    exact this
theorem take_bytes (P : Nat) (m : Int) (A : Option Addr) (n c : Nat) (t err : Int) (bs : List Nat) (w : World) (h : RowB w w.heap.size A n c bs) (hn : n ≤ 1000000) (hm : m ≤ 9223372036854775807) (hP : P < w.heap.size) (hc : w.cell? ⟨P, 0, none⟩ = some (.int .i64 m)) :
    Calls Try.prog 51 #[tv A n c t err, .func (Fn.func 52) #[] #[.pointer (some ⟨P, 0, none⟩)]] w (TakeIs w bs (goT n t err ((bytesR (rest bs t) m).2.1) ((bytesR (rest bs t) m).2.2)).1 (goT n t err ((bytesR (rest bs t) m).2.1) ((bytesR (rest bs t) m).2.2)).2.1 (pickR (goT n t err ((bytesR (rest bs t) m).2.1) ((bytesR (rest bs t) m).2.2)).2.2 (.bytes (bytesR (rest bs t) m).1) (.bytes []))) := by
  by_cases hk : checkT n t err = 0
  · obtain ⟨rfl, h1, h2, h3⟩ := check_zero hk
    obtain ⟨tn, rfl⟩ : ∃ tn : Nat, t = (tn : Int) := ⟨t.toNat, by omega⟩
    have hl := h.len
    have hsz : tn + (bytesR (rest bs (tn : Int)) m).2.1 ≤ n := by
      have : (bytesR (rest bs (tn : Int)) m).2.1 ≤ (rest bs (tn : Int)).length := bytesR_le _ _
      unfold rest at this ⊢
      simp only [List.length_drop, Int.toNat_natCast, hl] at this ⊢
      omega
    refine take_on_bytes P A n c tn ((bytesR (rest bs (tn : Int)) m).2.1) ((bytesR (rest bs (tn : Int)) m).2.2) (goT n (tn : Int) 0 ((bytesR (rest bs (tn : Int)) m).2.1) ((bytesR (rest bs (tn : Int)) m).2.2)).1 (.bytes (bytesR (rest bs (tn : Int)) m).1) (pickR (goT n (tn : Int) 0 ((bytesR (rest bs (tn : Int)) m).2.1) ((bytesR (rest bs (tn : Int)) m).2.2)).2.2 (.bytes (bytesR (rest bs (tn : Int)) m).1) (.bytes [])) bs w h h1 (by omega) hsz (fun A' n' c' W hb hr => ?_) (fun h0 => ?_) (fun h0 => ?_) |>.mono ?_
    · have hr' : RowB W W.heap.size A' n' c' (rest bs (tn : Int)) := by unfold rest; simpa using hr
      exact bytes1_any A' n' c' P m _ W hr' (by have := hr'.len; unfold rest at this; simp only [List.length_drop, hl] at this; omega) hm ((below_cell hb).1 P 0 hP |>.trans hc)
    · unfold goT pickR; rw [if_neg (by simpa using hk), if_neg (by simpa using h0)]; exact ⟨rfl, rfl⟩
    · unfold goT pickR; rw [if_neg (by simpa using hk), if_pos h0]; exact ⟨rfl, rfl⟩
    · intro e w' hh
      have e2 : (goT n (tn : Int) 0 ((bytesR (rest bs (tn : Int)) m).2.1) ((bytesR (rest bs (tn : Int)) m).2.2)).2.1 = (bytesR (rest bs (tn : Int)) m).2.2 := by
        unfold goT; rw [if_neg (by simpa using hk)]
        by_cases h0 : (bytesR (rest bs (tn : Int)) m).2.2 = 0
        · rw [if_neg (by simpa using h0), h0]
        · rw [if_pos h0]
      rw [e2]; exact hh
  · have := take_off_bytes (.func (Fn.func 52) #[] #[.pointer (some ⟨P, 0, none⟩)]) A n c t err bs w h hn hk
    unfold goT pickR
    rw [if_pos hk]
    exact this

theorem TakeIs.out {w w0 w1 : World} {Q : Nat} {bs : List Nat} {t err : Int} {r : Res} {s x : Value} (hb0 : Below w.heap.size w w0) (hQ : w.heap.size ≤ Q) (hQ2 : Q < w0.heap.size)
    (ho : OwnB w1 w0.heap.size s bs) (hr : r.at_ w1 w0.heap.size x) (hb : Below w0.heap.size w0 w1) :
    TakeIs w bs t err r (.returned (.tuple #[.agg #[s, .int .i64 t, .int .i64 err], x])) (((w1.setCell ⟨Q, 0, none⟩ s).setCell ⟨Q, 1, none⟩ (.int .i64 t)).setCell ⟨Q, 2, none⟩ (.int .i64 err)) :=
  ⟨_, _, rfl, ⟨_, rfl, (ho.set3 hQ2 _ _ _).mono hb0.size⟩, Res.mono (Res.set3 hr hQ2 _ _ _) hb0.size, below_set3 (gr_trans hb0 hb) hQ _ _ _⟩
end Go.Proofs.Ytnppkobckabpcaa
