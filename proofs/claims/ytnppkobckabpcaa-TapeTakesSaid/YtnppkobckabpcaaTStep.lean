/- append to bytes of one's own, as one step of a region that draws. -/
import Derived.Test.YtnppkobckabpcaaTRBytes
import Derived.Deep.RegionLaw
namespace Go.Proofs.Ytnppkobckabpcaa
open Go.RowKit

theorem step_append_row {w : World} {ops : Array Oper} {o : Oper} {a : Act} {K : Act → World → Prop} {Q : Exit → Act → World → Prop} {E : Prop} (hgd : o.guard = none) (s x : Operand)
    (ho : o.op = .call { callee := .builtin .append, args := #[s, x], argTypes := #[22, 22] })
    (base : Nat) (v : Value) (bs : List Nat) (hs : a.eval s = v) (hown : OwnB w base v bs)
    (B : Nat) (A : Option Addr) (m c : Nat) (ns : List Nat) (hx : a.eval x = .slice A m c) (hr : RowB w B A m c ns)
    (h63 : bs.length + m ≤ 140737488355328) (hbase : base ≤ w.heap.size)
    (h : ∀ v' w', OwnB w' base v' (bs ++ ns) → w.grownBy w' v.ownBlock → K (a.put o.dst v') w') : if Region.wanted o (yielded ops a.tmps) = true then Oper.wp Try.prog o a w K Q else E := by
  rw [if_pos (by simp [Region.wanted, hgd])]
  obtain ⟨i0, hi, hz0, hz1, hz2⟩ := info_parts (show (Try.prog.info? 5).map (fun i => (i.zero, i.size, i.bytes)) = some (some (.int .u8 0), 1, 1) by kernel_rfl)
  have h256 : ∀ x ∈ bs ++ ns, x < 256 := fun x hx => by
    rcases List.mem_append.1 hx with hx | hx
    · exact hown.2 x hx
    · exact hr.byte x hx
  cases A with
  | none =>
    have hc := hr.nil rfl
    have hcap := hr.cap
    obtain rfl : c = 0 := hc
    obtain rfl : m = 0 := by omega
    have : ns = [] := List.length_eq_zero_iff.1 hr.len
    subst this
    have hrun := run_append_owned_none (P := Try.prog) (w := w) base 22 o.type 5 i0 1 Try.underlying22 hi v bs.length (bs.map bv) hown.1
    unfold Oper.wp execOp
    simp only [ho, resolve, invoke, builtin, Sem.run_bind, Sem.run_pure, Result.andThen_ok, List.map_toArray, List.map_cons, List.map_nil, hs, hx, hrun]
    exact h _ _ (by simpa using hown) (World.grownBy.refl _ _)
  | some ad =>
    refine wp_append_own w s x 22 ho base 5 i0 (.int .u8 0) 1 1 Try.underlying22 hi hz0 hz1 hz2 rfl (by decide) v bs.length (bs.map bv) hs hown.1 ad m c (ns.map bv) hx (by rw [List.length_map, hr.len, Nat.mul_one]) (fun j u hj => ?_) (fun u hu => ?_) (by unfold maxLen; omega) (by omega) hbase ?_
    · have hjl : j < m := by have := (List.getElem?_eq_some_iff.1 hj).1; rw [List.length_map, hr.len] at this; exact this
      obtain ⟨b, o, e, hl, hc⟩ := hr.at_ j hjl
      injection e with e
      subst e
      rw [add_none, hc, ← bv_at ns j (by rw [hr.len]; exact hjl)]
      exact hj
    · obtain ⟨q, _, rfl⟩ := List.mem_map.1 hu; rfl
    · intro v' w' h1 h2 _
      exact h v' w' ⟨by rw [List.length_append, List.map_append, hr.len]; exact h1, h256⟩ h2
end Go.Proofs.Ytnppkobckabpcaa
