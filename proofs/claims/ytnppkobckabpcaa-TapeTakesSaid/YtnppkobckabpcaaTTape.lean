/- Tapes: Check, Over, Of, and the document's Right and off. -/
import Derived.Test.YtnppkobckabpcaaTBytes
namespace Go.Proofs.Ytnppkobckabpcaa
open Go.RowKit

theorem OwnB.set {w : World} {base : Nat} {v : Value} {bs : List Nat} (h : OwnB w base v bs) {p o : Nat} (hp : p < base) (u : Value) : OwnB (w.setCell ⟨p, o, none⟩ u) base v bs := ⟨ownsRow_setCell_below h.1 hp u, h.2⟩
theorem OwnB.set3 {w : World} {base : Nat} {v : Value} {bs : List Nat} (h : OwnB w base v bs) {p : Nat} (hp : p < base) (u0 u1 u2 : Value) :
    OwnB (((w.setCell ⟨p, 0, none⟩ u0).setCell ⟨p, 1, none⟩ u1).setCell ⟨p, 2, none⟩ u2) base v bs := ((h.set hp u0).set hp u1).set hp u2
theorem below_set {B : Nat} {a w : World} (h : Below B a w) {p o : Nat} (hp : B ≤ p) (u : Value) : Below B a (w.setCell ⟨p, o, none⟩ u) := h.setCell (p := ⟨p, o, none⟩) hp u
theorem below_set3 {B : Nat} {a w : World} (h : Below B a w) {p : Nat} (hp : B ≤ p) (u0 u1 u2 : Value) :
    Below B a (((w.setCell ⟨p, 0, none⟩ u0).setCell ⟨p, 1, none⟩ u1).setCell ⟨p, 2, none⟩ u2) := below_set (below_set (below_set h hp u0) hp u1) hp u2
def tv (A : Option Addr) (n c : Nat) (t err : Int) : Value := .agg #[.slice A n c, .int .i64 t, .int .i64 err]
def badT (n : Nat) (t : Int) : Bool := decide (16384 < n) || (decide (t < 0) || decide ((n : Int) < t))
def checkT (n : Nat) (t err : Int) : Int := if badT n t then 120 else err
theorem bad_cases (n : Nat) (t : Int) : (decide ((16384 : Int) < (n : Int)) = true ∧ badT n t = true) ∨
    (decide ((16384 : Int) < (n : Int)) = false ∧ decide (t < 0) = true ∧ badT n t = true) ∨
    (decide ((16384 : Int) < (n : Int)) = false ∧ decide (t < 0) = false ∧ decide ((n : Int) < t) = true ∧ badT n t = true) ∨
    (decide ((16384 : Int) < (n : Int)) = false ∧ decide (t < 0) = false ∧ decide ((n : Int) < t) = false ∧ badT n t = false) := by
  unfold badT
  by_cases h1 : 16384 < n <;> by_cases h2 : t < 0 <;> by_cases h3 : (n : Int) < t <;> simp [h1, h2, h3] <;> omega
theorem bad_false {n : Nat} {t : Int} (h : badT n t = false) : n ≤ 16384 ∧ 0 ≤ t ∧ t ≤ n := by
  unfold badT at h
  simp at h
  omega
set_option maxRecDepth 100000 in
set_option maxHeartbeats 2000000 in
theorem check_any (A : Option Addr) (n c : Nat) (t err : Int) (w : World) :
    Calls Try.prog 22 #[tv A n c t err] w fun e w' => e = .returned (.int .i64 (checkT n t err)) ∧ Below w.heap.size w w' := by
  unfold tv
  rcases bad_cases n t with ⟨h1, hb⟩ | ⟨h1, h2, hb⟩ | ⟨h1, h2, h3, hb⟩ | ⟨h1, h2, h3, hb⟩
  all_goals
    have Hb := Lib.hid hb; clear hb
    go_enter Try.func22, Try.ntmps22
    go_wp2_with fail
    go_ret
    exact ⟨by unfold checkT; rw [Hb.out]; rfl, (Below.refl _ _).alloc (Nat.le_refl _) _⟩
theorem right_cases (n : Nat) (t : Int) : (decide ((n : Int) ≤ (16384 : Int)) = false ∧ badT n t = true) ∨
    (decide ((n : Int) ≤ (16384 : Int)) = true ∧ decide (0 ≤ t) = false ∧ badT n t = true) ∨
    (decide ((n : Int) ≤ (16384 : Int)) = true ∧ decide (0 ≤ t) = true ∧ decide (t ≤ (n : Int)) = false ∧ badT n t = true) ∨
    (decide ((n : Int) ≤ (16384 : Int)) = true ∧ decide (0 ≤ t) = true ∧ decide (t ≤ (n : Int)) = true ∧ badT n t = false) := by
  unfold badT
  by_cases h1 : 16384 < n <;> by_cases h2 : t < 0 <;> by_cases h3 : (n : Int) < t <;> simp [h1, h2, h3] <;> omega
set_option maxRecDepth 100000 in
set_option maxHeartbeats 2000000 in
theorem right_any (A : Option Addr) (n c : Nat) (t err : Int) (w : World) :
    Calls Try.prog 21 #[tv A n c t err] w fun e w' => e = .returned (.bool (!badT n t)) ∧ Below w.heap.size w w' := by
  unfold tv
  rcases right_cases n t with ⟨h1, hb⟩ | ⟨h1, h2, hb⟩ | ⟨h1, h2, h3, hb⟩ | ⟨h1, h2, h3, hb⟩
  all_goals
    have Hb := Lib.hid hb; clear hb
    go_enter Try.func21, Try.ntmps21
    go_wp2_with fail
    go_ret
    exact ⟨by rw [Hb.out]; rfl, (Below.refl _ _).alloc (Nat.le_refl _) _⟩
/-- What Over tells. -/
def overT (n : Nat) (t err : Int) : Int := if checkT n t err ≠ 0 then checkT n t err else if t < n then 3 else 0
set_option maxRecDepth 100000 in
set_option maxHeartbeats 2000000 in
theorem over_any (A : Option Addr) (n c : Nat) (t err : Int) (w : World) :
    Calls Try.prog 23 #[tv A n c t err] w fun e w' => e = .returned (.int .i64 (overT n t err)) ∧ Below w.heap.size w w' := by
  have hck := fun W => check_any A n c t err W
  unfold overT
  generalize checkT n t err = k at *
  unfold tv at *
  have Hck := Lib.hid hck; clear hck
  by_cases hk : k = 0
  · subst hk
    rw [if_neg (by simp)]
    by_cases hlt : t < (n : Int)
    · have hd : decide (t < (n : Int)) = true := by simpa using hlt
      rw [if_pos hlt]
      have Hl := Lib.hid hlt; clear hlt
      go_enter Try.func23, Try.ntmps23
      go_wp2_with fail
      refine (Hck.out _).mono ?_; rintro e w1 ⟨rfl, hb1⟩
      obtain ⟨hc, hf⟩ := below_cell hb1
      go_wp2_with fail
      go_ret
      exact ⟨rfl, ((Below.refl _ w).alloc (Nat.le_refl _) _).trans (hb1.mono (by simp))⟩
    · have hd : decide (t < (n : Int)) = false := by simpa using hlt
      rw [if_neg hlt]
      have Hl := Lib.hid hlt; clear hlt
      go_enter Try.func23, Try.ntmps23
      go_wp2_with fail
      refine (Hck.out _).mono ?_; rintro e w1 ⟨rfl, hb1⟩
      obtain ⟨hc, hf⟩ := below_cell hb1
      go_wp2_with fail
      go_ret
      exact ⟨rfl, ((Below.refl _ w).alloc (Nat.le_refl _) _).trans (hb1.mono (by simp))⟩
  · rw [if_pos hk]
    have hd : (k != 0) = true := by simpa using hk
    have Hk := Lib.hid hk; clear hk
    go_enter Try.func23, Try.ntmps23
    go_wp2_with fail
    refine (Hck.out _).mono ?_; rintro e w1 ⟨rfl, hb1⟩
    obtain ⟨hc, hf⟩ := below_cell hb1
    go_wp2_with fail
    go_ret
    exact ⟨rfl, ((Below.refl _ w).alloc (Nat.le_refl _) _).trans (hb1.mono (by simp))⟩
/-- A value is a tape that reads these bytes in a row of its own. -/
def OwnT (w : World) (base : Nat) (v : Value) (bs : List Nat) (t err : Int) : Prop := ∃ s, v = .agg #[s, .int .i64 t, .int .i64 err] ∧ OwnB w base s bs
set_option maxRecDepth 100000 in
set_option maxHeartbeats 2000000 in
theorem of_long (A : Option Addr) (n c : Nat) (w : World) (h : 16384 < n) :
    Calls Try.prog 28 #[.slice A n c] w fun e w' => (∃ v, e = .returned v ∧ OwnT w' w.heap.size v [] 0 3) ∧ Below w.heap.size w w' := by
  have hd : decide ((16384 : Int) < (n : Int)) = true := by simp; omega
  clear h
  go_enter Try.func28, Try.ntmps28
  go_wp2_with fail
  refine bodyPost_ret (v := .agg #[.slice none 0 0, .int .i64 0, .int .i64 3]) (by simp [results, Try.results28, go_sem]) rfl ⟨⟨_, rfl, _, rfl, OwnB.nil _ _⟩, ?_⟩
  exact (Below.refl _ w).alloc (Nat.le_refl _) _
set_option maxRecDepth 100000 in
set_option maxHeartbeats 2000000 in
theorem of_any (A : Option Addr) (n c : Nat) (bs : List Nat) (w : World) (h : RowB w w.heap.size A n c bs) (hn : n ≤ 16384) :
    Calls Try.prog 28 #[.slice A n c] w fun e w' => (∃ v, e = .returned v ∧ OwnT w' w.heap.size v bs 0 0) ∧ Below w.heap.size w w' := by
  have hd : decide ((16384 : Int) < (n : Int)) = false := by simp; omega
  have H := Lib.hid h; clear h
  go_enter Try.func28, Try.ntmps28
  go_wp2_with fail
  refine (clone_bytes A n c bs _ ((H.out.below ((Below.refl _ w).alloc (Nat.le_refl _) _)).mono (by simp)) (by omega)).mono ?_; rintro e w1 ⟨v, rfl, ho, hb⟩
  obtain ⟨hc, hf⟩ := below_cell hb
  have hz : w.heap.size < w1.heap.size := by have := hb.size; simp at this; omega
  have hz2 : (w.alloc (.cells #[.slice none 0 0, .int .i64 0, .int .i64 0] 40)).heap.size = w.heap.size + 1 := by simp
  obtain ⟨A2, c2, rfl, _⟩ := ho.row
  go_wp2_with fail
  refine bodyPost_ret (v := .agg #[.slice A2 bs.length c2, .int .i64 0, .int .i64 0]) (by simp [results, Try.results28, go_sem, hc]) rfl ⟨⟨_, rfl, _, rfl, ((ho.set3 (by omega) _ _ _).mono (by omega))⟩, ?_⟩
  exact below_set3 (((Below.refl _ w).alloc (Nat.le_refl _) _).trans (hb.mono (by omega))) (Nat.le_refl _) _ _ _
end Go.Proofs.Ytnppkobckabpcaa
