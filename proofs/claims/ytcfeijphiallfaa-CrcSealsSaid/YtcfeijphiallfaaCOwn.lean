/- Bytes of one's own are written to. -/
import Derived.Test.YtcfeijphiallfaaCWakes
namespace Go.Proofs.Ytcfeijphiallfaa
open Go.RowKit

theorem nthB_get (l : List Nat) (i : Nat) (h : i < l.length) : nthB l i = l[i] := by
  unfold nthB; rw [List.getD_eq_getElem?_getD, List.getElem?_eq_getElem h]; rfl
theorem OwnB.spot {w : World} {base n c : Nat} {A : Option Addr} {bs : List Nat} (h : OwnB w base (.slice A n c) bs) {i : Nat} (hi : i < bs.length) :
    ∃ g, A = some ⟨g, 0, none⟩ ∧ base ≤ g ∧ g < w.heap.size ∧ n = bs.length ∧ w.cell? ⟨g, i, none⟩ = some (bv (nthB bs i)) ∧ w.frozen? ⟨g, i, none⟩ = false ∧
      ∀ x, x < 256 → OwnB (w.setCell ⟨g, i, none⟩ (bv x)) base (.slice A n c) (bs.set i x) := by
  obtain ⟨h, h256⟩ := h
  rcases h.2 with ⟨_, h0⟩ | ⟨g, cap, cur, hv, hg, hh, hn, hm, hs, r⟩
  · omega
  · cases hv
    rw [Nat.mul_one] at r hs
    have hlt : g < w.heap.size := (Array.getElem?_eq_some_iff.1 hh).1
    have hbox : Box w g 5 cur := hh
    refine ⟨g, rfl, hg, hlt, rfl, ?_, hbox.frozen i, fun x hx => ⟨?_, ?_⟩⟩
    · rw [hbox.cell i, ← bv_at bs i hi, ← r, List.getElem?_take, if_pos hi]; simp
    · refine ⟨by simp, .inr ⟨g, c, cur.setIfInBounds i (bv x), by rw [List.length_set], hg, hbox.set i (bv x), by rw [List.length_set]; exact hn, hm, by rw [Nat.mul_one, Array.size_setIfInBounds]; exact hs, ?_⟩⟩
      rw [Nat.mul_one, List.length_set, Array.toList_setIfInBounds, List.take_set, r, List.map_set]
    · intro y hy
      rcases List.mem_or_eq_of_mem_set hy with h | rfl
      · exact h256 y h
      · exact hx
theorem set_self (l : List Nat) (i : Nat) (h : i < l.length) : l.set i (nthB l i) = l := by
  rw [nthB_get l i h]; simp
/-- One byte that is another one. -/
theorem opens_one {l : List Nat} {i d : Nat} (hl : ∀ x ∈ l, x < 256) (hi : i < l.length) (hd : d < 256) (ho : opens l) : opens (l.set i (nthB l i ^^^ d)) ↔ d = 0 := by
  rw [nthB_get l i hi]
  refine opens_turn (from' := 8 * i) (m := 8 * (l.length - i)) hl (set_bytes hl (Nat.xor_lt_two_pow (n := 8) (hl _ (List.getElem_mem hi)) hd)) (by simp) (by omega) (le_set hl hi hd) (by omega) ho
end Go.Proofs.Ytcfeijphiallfaa
