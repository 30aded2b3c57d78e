/- A load whose outcome is known, told by a structure (its arm fails at once where it does not fit). -/
import Derived.Test.YthghcffibljclaaDoorRVRowF
namespace Go.Proofs.YthghcffibljclaaDoor
open Go.RowKit

structure LoadS (W : World) (t : TypeId) (g o : Nat) (v : Value) : Prop where
  run : LoadIs W t g o v
theorem loadS {W : World} {t : TypeId} {g o : Nat} {v : Value} (h : LoadIs W t g o v) : LoadS W t g o v := ⟨h⟩
theorem list_loadS {w : World} {ops : Array Oper} {rest : List Oper} {o : Oper} {a : Act} {Q : Exit → Act → World → Prop} {t : TypeId} {g k : Nat} {v : Value} (hgd : o.guard = none) (x : Operand) (ho : o.op = .load t x) (hx : a.eval x = .pointer (some ⟨g, k, none⟩)) (hl : LoadS w t g k v)
    (h : wpList Tryd.prog ops Q rest (a.put o.dst v) w) : wpList Tryd.prog ops Q (o :: rest) a w := list_load hgd x ho hx hl.run h
theorem list_loadwS {w : World} {ops : Array Oper} {rest : List Oper} {o : Oper} {a : Act} {Q : Exit → Act → World → Prop} {t : TypeId} {g k : Nat} {v : Value} (x : Operand) (ho : o.op = .load t x) (hx : a.eval x = .pointer (some ⟨g, k, none⟩)) (hl : LoadS w t g k v) (hw : Region.wanted o (yielded ops a.tmps) = true)
    (h : wpList Tryd.prog ops Q rest (a.put o.dst v) w) : wpList Tryd.prog ops Q (o :: rest) a w := list_loadw hw x ho hx hl.run h
/-- An operation that its guard leaves out. -/
theorem list_skip {w : World} {ops : Array Oper} {rest : List Oper} {o : Oper} {a : Act} {Q : Exit → Act → World → Prop} (hw : Region.wanted o (yielded ops a.tmps) = false)
    (h : wpList Tryd.prog ops Q rest (a.put o.dst undef) w) : wpList Tryd.prog ops Q (o :: rest) a w :=
  wpList_step fun K hK => by
    rw [if_neg (by rw [hw]; decide)]
    exact hK _ _ h
structure StoreS (W : World) (t : TypeId) (g o : Nat) (v : Value) (W' : World) : Prop where
  run : StoreIs W t g o v W'
theorem storeS {W W' : World} {t : TypeId} {g o : Nat} {v : Value} (h : StoreIs W t g o v W') : StoreS W t g o v W' := ⟨h⟩
theorem list_storeS {w w' : World} {ops : Array Oper} {rest : List Oper} {o : Oper} {a : Act} {Q : Exit → Act → World → Prop} {t : TypeId} {g k : Nat} {v : Value} (hgd : o.guard = none) (x y : Operand) (ho : o.op = .store t x y) (hx : a.eval x = .pointer (some ⟨g, k, none⟩)) (hy : a.eval y = v) (hl : StoreS w t g k v w')
    (h : wpList Tryd.prog ops Q rest (a.put o.dst undef) w') : wpList Tryd.prog ops Q (o :: rest) a w := list_store hgd x y ho hx hy hl.run h

theorem list_skip2 {w : World} {ops : Array Oper} {rest : List Oper} {o : Oper} {a : Act} {Q : Exit → Act → World → Prop} {i d : Nat} {b : Bool} (hg : o.guard = some (i, b)) (hd : (ops[i]?).bind (·.dst) = some d) (hv : a.tmps[d]? = some (.bool (!b)))
    (h : wpList Tryd.prog ops Q rest (a.put o.dst undef) w) : wpList Tryd.prog ops Q (o :: rest) a w :=
  list_skip (by
    unfold Region.wanted yielded
    rw [hg]
    simp only [hd, Option.bind_some, hv]
    cases b <;> rfl) h
/-- The walk stops at the operation of a slot: nothing is done. -/
theorem list_stop {w : World} {ops : Array Oper} {rest : List Oper} {o : Oper} {a : Act} {Q : Exit → Act → World → Prop} (d : Nat) (_ho : o.dst = some d) (h : wpList Tryd.prog ops Q (o :: rest) a w) : wpList Tryd.prog ops Q (o :: rest) a w := h
end Go.Proofs.YthghcffibljclaaDoor
