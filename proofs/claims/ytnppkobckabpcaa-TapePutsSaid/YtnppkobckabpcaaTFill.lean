/- append into a new block that has room: what stands behind stays 0. -/
import Derived.Test.YtnppkobckabpcaaTItemS
namespace Go.Proofs.Ytnppkobckabpcaa
open Go.RowKit

/-- Bytes, and so many zeros behind them. -/
def filled (ns : List Nat) (k : Nat) : Array Value := (ns.map bv ++ List.replicate k (Value.int .u8 0)).toArray
theorem zeros_filled (k : Nat) : madeCells #[.int .u8 0] k = filled [] k := by
  apply Array.toList_inj.1
  unfold filled
  rw [toList_madeCells_one]; simp
theorem filled_at {ns : List Nat} {k j : Nat} (h : j < ns.length) : (filled ns k)[j]? = some (bv (nthB ns j)) := by
  unfold filled
  rw [List.getElem?_toArray, List.getElem?_append_left (by simpa using h), bv_at ns j h]
theorem filled_zero {ns : List Nat} {k j : Nat} (h : j < k) : (filled ns k)[ns.length + j]? = some (bv 0) := by
  unfold filled
  rw [List.getElem?_toArray, List.getElem?_append_right (by simp), List.length_map, Nat.add_sub_cancel_left, List.getElem?_replicate, if_pos h]; rfl
theorem fill_row {w : World} {ops : Array Oper} {rest : List Oper} {o : Oper} {a : Act} {Q : Exit → Act → World → Prop} (hgd : o.guard = none) (s x : Operand)
    (ho : o.op = .call { callee := .builtin .append, args := #[s, x], argTypes := #[22, 22] })
    (g k : Nat) (B : Nat) (A : Option Addr) (m c : Nat) (ns : List Nat) (hs : a.eval s = .slice (some ⟨g, 0, none⟩) 0 (m + k)) (hx : a.eval x = .slice A m c) (hr : RowB w B A m c ns)
    (hM : m + k ≤ maxLen) (hbox : Box w g 5 (madeCells #[.int .u8 0] (m + k)))
    (h : ∀ w', Box w' g 5 (filled ns k) → w.grownBy w' (some g) → wpList Try.prog ops Q rest (a.put o.dst (.slice (some ⟨g, 0, none⟩) m (m + k))) w') : wpList Try.prog ops Q (o :: rest) a w := by
  obtain ⟨i0, hi, hz0, hz1, hz2⟩ := info_parts (show (Try.prog.info? 5).map (fun i => (i.zero, i.size, i.bytes)) = some (some (.int .u8 0), 1, 1) by kernel_rfl)
  cases A with
  | none =>
    have hc := hr.nil rfl
    have hcap := hr.cap
    obtain rfl : c = 0 := hc
    obtain rfl : m = 0 := by omega
    have : ns = [] := List.length_eq_zero_iff.1 hr.len
    subst this
    have hown : w.ownsRow 0 5 1 (.slice (some ⟨g, 0, none⟩) 0 (0 + k)) 0 [] := by
      refine ⟨rfl, .inr ⟨g, 0 + k, _, rfl, Nat.zero_le _, hbox, Nat.zero_le _, hM, by rw [size_madeCells]; omega, rfl⟩⟩
    refine wpList_append_own_none hgd s x 22 ho 0 5 i0 1 Try.underlying22 hi _ 0 [] hs hown hx ?_
    exact h _ (by rw [zeros_filled] at hbox; simpa using hbox) (World.grownBy.refl _ _)
  | some ad =>
    refine wpList_plain hgd fun K hK => ?_
    have hnews : ∀ j u, (ns.map bv)[j]? = some u → w.cell? (ad.add j) = some u := fun j u hj => by
      have hjl : j < m := by have := (List.getElem?_eq_some_iff.1 hj).1; rw [List.length_map, hr.len] at this; exact this
      obtain ⟨b, o, e, hl, hc⟩ := hr.at_ j hjl
      injection e with e
      subst e
      rw [add_none, hc, ← bv_at ns j (by rw [hr.len]; exact hjl)]
      exact hj
    have hrun := run_append_room (P := Try.prog) w 22 o.type 5 i0 Try.underlying22 hi g 0 (m + k) _ hbox ad m c (ns.map bv) (by rw [hz1, List.length_map, hr.len, Nat.mul_one]) hnews (fun u hu => by obtain ⟨q, _, rfl⟩ := List.mem_map.1 hu; rfl) (by omega) (by rw [size_madeCells, List.length_map, hr.len]; omega)
    have hset := setRow_heap w g (madeCells #[.int .u8 0] (m + k)) ((madeCells #[.int .u8 0] (m + k)).toList.take (0 * i0.size) ++ ns.map bv ++ (madeCells #[.int .u8 0] (m + k)).toList.drop (0 * i0.size + (ns.map bv).length)).toArray 5 (0, 0) hbox
    have hgr : w.grownBy (w.setRow g ((madeCells #[.int .u8 0] (m + k)).toList.take (0 * i0.size) ++ ns.map bv ++ (madeCells #[.int .u8 0] (m + k)).toList.drop (0 * i0.size + (ns.map bv).length)).toArray) (some g) :=
      ⟨rfl, rfl, rfl, by simp, fun k _ hk => setRow_other w g k _ (fun e => hk (by simp [e]))⟩
    have hf : ((madeCells #[.int .u8 0] (m + k)).toList.take (0 * i0.size) ++ ns.map bv ++ (madeCells #[.int .u8 0] (m + k)).toList.drop (0 * i0.size + (ns.map bv).length)).toArray = filled ns k := by
      unfold filled
      rw [toList_madeCells_one, Nat.zero_mul, List.take_zero, List.nil_append, Nat.zero_add, List.length_map, hr.len, List.drop_replicate, Nat.add_sub_cancel_left]
    rw [hf] at hrun hset hgr
    rw [Nat.zero_add] at hrun
    unfold Oper.wp execOp
    simp only [ho, resolve, invoke, builtin, Sem.run_bind, Sem.run_pure, Result.andThen_ok, List.map_toArray, List.map_cons, List.map_nil, hs, hx, hrun]
    exact hK _ _ (h _ hset hgr)
end Go.Proofs.Ytnppkobckabpcaa
