/- The law's own rows: walked. -/
import Derived.Test.YthghcffibljclaaDoorRVOwn
import Derived.Lib.SliceRun
namespace Go.Proofs.YthghcffibljclaaDoor
open Go.RowKit

def cutZ (r : RowZ) : RowZ := { r with q := r.q.take 5 }
theorem cut_rowC (r : RowZ) (v : Value) : rowC (cutZ r) v = rowC r v := rfl
theorem qr_take {w : World} {A : Option Addr} {c : Nat} {q : List Int} (h1 : q.length ≤ c) (h2 : c ≤ maxLen) (h3 : A = none → c = 0) (h4 : Reads w A (q.map int1)) (k : Nat) (hk : k ≤ q.length) : QR w (.slice A k c) (q.take k) := by
  refine ⟨A, c, by rw [List.length_take, Nat.min_eq_left hk], by rw [List.length_take]; omega, h2, h3, ?_⟩
  rw [List.map_take]
  exact h4.take k
set_option maxRecDepth 100000 in
set_option maxHeartbeats 1000000 in
theorem clone_any (y : Value) (q : List Int) (w : World) (hq : QR w y q) (hl : q.length ≤ 100) :
    Calls Tryd.prog 18 #[y] w fun e w' => (∃ v, e = .returned v ∧ OwnT w' w.heap.size v q) ∧ Below w.heap.size w w' := by
  have HQ := Lib.hid hq; have HL := Lib.hid hl
  obtain ⟨A, c, rfl, h1, h2, h3, h4⟩ := hq
  clear hl
  cases A with
  | none =>
    have := h3 rfl
    subst this
    have h0 : q.length = 0 := by omega
    have hq0 : q = [] := List.length_eq_zero_iff.1 h0
    have HQ0 := Lib.hid hq0
    rw [h0]
    have hE := fun (W : World) => Lib.run_eql_slice_nil (P := Tryd.prog) W 31 2 none 0 0 0 0 Tryd.underlying31
    clear h1 h2 h3 h4 h0 hq0
    go_enter Tryd.func18, Tryd.ntmps18
    go_wp2_with fail
    go_ret
    exact ⟨⟨_, rfl, by rw [HQ0.out]; exact OwnT.nil _ _⟩, Below.refl _ _⟩
  | some ad =>
    have hE := fun (W : World) => Lib.run_eql_slice_nil (P := Tryd.prog) W 31 2 (some ad) q.length c 0 0 Tryd.underlying31
    have HN := Lib.hid (new_below w (.cells #[] 2))
    have HO : Hid (OwnT (w.alloc (.cells #[] 2)) w.heap.size (.slice (some ⟨w.heap.size, 0, none⟩) 0 0) []) := Lib.hid (World.ownsRow_lit w #[] 0 (Nat.le_refl _) (by decide) rfl)
    clear h1 h2 h3 h4
    go_enter Tryd.func18, Tryd.ntmps18
    go_wp2_with (at_builtin; refine list_times rfl _ _ rfl rfl rfl HO.out (HQ.out.on HN.out) HN.out.size (by have := HL.out; simp; omega) w HN.out ?_; intro v9 w9 ho9 hb9; have HO9 := Lib.hid ho9; have HB9 := Lib.hid hb9; clear ho9 hb9)
    go_ret
    exact ⟨⟨_, rfl, by simpa using HO9.out⟩, HB9.out⟩
end Go.Proofs.YthghcffibljclaaDoor
