/- The document's wheel: what stands ahead, whether there is a due of a number. -/
import Derived.Test.YtidgiohjgkfjcaaDoorQRow
namespace Go.Proofs.YtidgiohjgkfjcaaDoor
open Go.RowKit

/-- A row that is what it was, or lies in memory that was not there. -/
def NewRow (B : Nat) (A' A : Option Addr) : Prop := A' = A ∨ ∀ b o s, A' = some ⟨b, o, s⟩ → B ≤ b
theorem OwnD.from_ {w : World} {base n c : Nat} {A : Option Addr} {l : List (Int × Int)} (h : OwnD w base (.slice A n c) l) {b o : Nat} {s : _} (e : A = some ⟨b, o, s⟩) : base ≤ b := by
  subst e
  rcases h.2 with ⟨hv, h0⟩ | ⟨g, cap, cur, hv, hg, _⟩
  · cases hv
  · cases hv; exact hg
theorem rtime_any (t : Int) (w : World) :
    Calls Tryd.prog 10 #[.int .i64 t] w fun e w' => e = .returned (.bool (decide (timeQ t))) ∧ w' = w := by
  by_cases h0 : 0 ≤ t
  · by_cases h1 : t ≤ topQ
    · have e : decide (timeQ t) = true := decide_eq_true ⟨h0, h1⟩
      rw [e]
      unfold topQ at h1
      have d1 : decide (t ≤ 253402300799) = true := decide_eq_true h1
      have d0 : decide (0 ≤ t) = true := decide_eq_true h0
      clear e
      go_enter Tryd.func10, Tryd.ntmps10
      go_wp2_with go_in
      go_ret
      exact ⟨rfl, rfl⟩
    · have e : decide (timeQ t) = false := decide_eq_false fun h => h1 h.2
      rw [e]
      unfold topQ at h1
      have d1 : decide (t ≤ 253402300799) = false := decide_eq_false h1
      have d0 : decide (0 ≤ t) = true := decide_eq_true h0
      clear e
      go_enter Tryd.func10, Tryd.ntmps10
      go_wp2_with go_in
      go_ret
      exact ⟨rfl, rfl⟩
  · have e : decide (timeQ t) = false := decide_eq_false fun h => h0 h.1
    rw [e]
    have d0 : decide (0 ≤ t) = false := decide_eq_false h0
    clear e
    go_enter Tryd.func10, Tryd.ntmps10
    go_wp2_with go_in
    go_ret
    exact ⟨rfl, rfl⟩

set_option maxHeartbeats 1000000 in
theorem rbefore_any (a b : Int × Int) (w : World) :
    Calls Tryd.prog 38 #[dueV a, dueV b] w fun e w' => e = .returned (.bool (befQ a b)) ∧ Below w.heap.size w w' := by
  obtain ⟨a0, a1⟩ := a
  obtain ⟨b0, b1⟩ := b
  unfold dueV
  dsimp only
  have hB : Below w.heap.size w ((w.alloc (.cells #[.int .i64 a0, .int .u64 a1] 39)).alloc (.cells #[.int .i64 b0, .int .u64 b1] 39)) := ((Below.refl _ _).alloc (Nat.le_refl _) _).alloc (by simp) _
  rcases Int.lt_trichotomy a0 b0 with h | h | h
  · rw [show befQ (a0, a1) (b0, b1) = true from befQ_iff.2 (.inl h)]
    have d1 : decide (a0 < b0) = true := decide_eq_true h
    clear h
    go_enter Tryd.func38, Tryd.ntmps38
    go_wp2_with fail
    go_ret
    exact ⟨rfl, hB⟩
  · subst h
    have d1 : decide (a0 < a0) = false := by simp
    rw [show befQ (a0, a1) (a0, b1) = decide (a1 < b1) by unfold befQ; simp]
    go_enter Tryd.func38, Tryd.ntmps38
    go_wp2_with fail
    go_ret
    exact ⟨rfl, hB⟩
  · rw [show befQ (a0, a1) (b0, b1) = false from befQ_not.2 (.inl h)]
    have d1 : decide (a0 < b0) = false := decide_eq_false (by omega)
    have d2 : (a0 == b0) = false := by simp; omega
    clear h
    go_enter Tryd.func38, Tryd.ntmps38
    go_wp2_with fail
    go_ret
    exact ⟨rfl, hB⟩

set_option maxHeartbeats 1000000 in
theorem rhas_any9 (A : Option Addr) (n c : Nat) (l : List (Int × Int)) (m : Int) (w : World) (hr : DuesR w w.heap.size A n c l) :
    Calls Tryd.prog 37 #[.slice A n c, .int .u64 m] w fun e w' => e = .returned (.bool (hasQ m l)) ∧ Below w.heap.size w w' := by
  have hcap := hr.cap
  have htop := hr.top
  unfold maxLen at htop
  have HR := Lib.hid hr; clear hr
  go_enter Tryd.func37, Tryd.ntmps37
  go_wp2
  go_loopw [9] (fun i wr => ∃ k : Nat, k ≤ n ∧ i = .int .i64 k ∧ Hid (hasQ m (l.take k) = false) ∧ Below w.heap.size w wr) (fun i _ => n - (intOf i).toNat)
  case atStart => exact ⟨0, by omega, rfl, Lib.hid (by simp [hasQ]), Below.refl _ _⟩
  case round =>
    obtain ⟨k, hk, rfl, HF, hb⟩ := hrel
    by_cases hlt : k < n
    · have hkl : k < l.length := by rw [HR.out.len]; exact hlt
      obtain ⟨b1, o1, rfl, hlb, c1, c2⟩ := (HR.out.below hb).at_ k l[k] (List.getElem?_eq_getElem hkl)
      have Hk : hasQ m (l.take (k + 1)) = (hasQ m (l.take k) || decide (l[k].2 = m)) := by
        unfold hasQ; rw [List.take_succ_eq_append_getElem hkl, List.any_append]; simp
      rw [HF.out, Bool.false_or] at Hk
      have hbx := hb.alloc hb.size (.cells #[.int .i64 l[k].1, .int .u64 l[k].2] 39)
      by_cases he : l[k].2 = m
      · have hd : (l[k].2 == m) = true := by simp [he]
        have e1 : hasQ m l = true := hasQ_iff.2 ⟨l[k], List.getElem_mem hkl, he⟩
        clear Hk he
        generalize l[k].1 = y1 at *
        generalize l[k].2 = y2 at *
        go_wp2_with fail
        go_ret
        exact ⟨by rw [e1]; rfl, hbx⟩
      · have hd : (l[k].2 == m) = false := by simp [he]
        have Hf := Lib.hid (Hk.trans (decide_eq_false he))
        clear Hk he
        generalize l[k].1 = y1 at *
        generalize l[k].2 = y2 at *
        go_wp2_with fail
        go_roundw
        case rel => exact ⟨k + 1, by omega, by go_num, Hf, hbx⟩
        case measure => simp [intOf]; omega
    · have e1 : hasQ m l = false := by
        have := HF.out
        rwa [List.take_of_length_le (by have := HR.out.len; omega)] at this
      go_wp2
      go_ret
      exact ⟨by rw [e1]; rfl, hb⟩

def wheelV (t : Int) (A : Option Addr) (n c : Nat) : Value := .agg #[.int .i64 t, .slice A n c]
end Go.Proofs.YtidgiohjgkfjcaaDoor
