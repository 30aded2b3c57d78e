/- append, copy and make of rows of a table and of times: laws that ask only that the cells can be read. -/
import Derived.Test.YthghcffibljclaaDoorR6
import Derived.Test.YthghcffibljclaaDoorRVMem
import Derived.Maps.AppendAt
import Derived.Deep.RegionLaw
namespace Go.Proofs.YthghcffibljclaaDoor
open Go.RowKit

theorem info_row : (Tryd.prog.info? 33).map (fun i => (i.zero, i.size, i.bytes)) = some (some (.agg #[.int .u32 0, .bool false, .int .u64 0, .int .u64 0, .int .u64 0, .int .u64 0, .int .u64 0, .int .i64 0, .int .i64 0, .int .i64 0, .int .i64 0, .bool false, .int .i64 0, .int .u64 0, .int .i64 0, .int .i64 0, .slice none 0 0]), 17, 144) := by kernel_rfl
section
variable {P : Program} {w : World} {base : Nat} {t ty e : TypeId} {i : TypeInfo} {z : Value} {size bytes : Nat}
/-- To a row of one's own what can be read is appended. -/
theorem run_append_reads (ht : P.underlying t = some (.slice e)) (hi : P.info? e = some i) (hz : i.zero = some z) (hsize : i.size = size) (hby : i.bytes = bytes) (hzs : z.cells.size = size) (hsz : 0 < size)
    {v : Value} {n : Nat} {xs : List Value} (hown : w.ownsRow base e size v n xs) {A : Option Addr} {m c : Nat} {news : List Value} (hA : A = none → c = 0) (hmc : m ≤ c) (hl : news.length = m * size) (hr : Reads w A news) (h1 : ∀ u ∈ news, u.oneCell' = true)
    (h63 : n + m ≤ maxLen) (hbytes : (n + m) * bytes ≤ 140737488355328) (hbase : base ≤ w.heap.size) :
    ∃ v' w', (Builtin.append_ #[t, t] ty #[v, .slice A m c]).run P w = .ok v' w' ∧ w'.ownsRow base e size v' (n + m) (xs ++ news) ∧ w.grownBy w' v.ownBlock ∧ (v'.ownBlock = v.ownBlock ∨ v'.ownBlock = some w.heap.size) := by
  cases A with
  | none =>
    have := hA rfl
    subst this
    obtain rfl : m = 0 := by omega
    obtain rfl : news = [] := List.eq_nil_of_length_eq_zero (by simpa using hl)
    exact ⟨v, w, run_append_owned_none (P := P) (w := w) base t ty e i size ht hi v n xs hown, by simpa using hown, World.grownBy.refl _ _, .inl rfl⟩
  | some ad =>
    by_cases hm : m = 0
    · subst hm
      obtain rfl : news = [] := List.eq_nil_of_length_eq_zero (by simpa using hl)
      obtain ⟨v', w', hr', ho, hg, _, ha⟩ := run_append_own_at (P := P) w base t ty e i z size bytes ht hi hz hsize hby hzs hsz v n xs hown ad 0 c [] (by simp) (fun j u hj => by simp at hj) (fun u hu => by cases hu) h63 hbytes hbase
      exact ⟨v', w', hr', ho, hg, ha⟩
    · obtain ⟨b, o, e', _⟩ := hr.some_ (by rw [hl]; exact Nat.mul_pos (by omega) hsz)
      cases e'
      obtain ⟨v', w', hr', ho, hg, _, ha⟩ := run_append_own_at (P := P) w base t ty e i z size bytes ht hi hz hsize hby hzs hsz v n xs hown ⟨b, o, none⟩ m c news hl (hr.addr) h1 h63 hbytes hbase
      exact ⟨v', w', hr', ho, hg, ha⟩
end
theorem wp_app {w w' : World} {o : Oper} {a : Act} {K : Act → World → Prop} {Q : Exit → Act → World → Prop} (s x : Operand) (t : TypeId) {v v' y : Value}
    (ho : o.op = .call { callee := .builtin .append, args := #[s, x], argTypes := #[t, t] }) (hs : a.eval s = v) (hx : a.eval x = y)
    (hr : (Builtin.append_ #[t, t] o.type #[v, y]).run Tryd.prog w = .ok v' w') (h : K (a.put o.dst v') w') : Oper.wp Tryd.prog o a w K Q := by
  unfold Oper.wp execOp
  simp only [ho, resolve, invoke, builtin, Sem.run_bind, Sem.run_pure, Result.andThen_ok, List.map_toArray, List.map_cons, List.map_nil, hs, hx, hr]
  exact h
theorem step_app {w w' : World} {ops : Array Oper} {o : Oper} {a : Act} {K : Act → World → Prop} {Q : Exit → Act → World → Prop} {E : Prop} (hgd : o.guard = none) (s x : Operand) (t : TypeId) {v v' y : Value}
    (ho : o.op = .call { callee := .builtin .append, args := #[s, x], argTypes := #[t, t] }) (hs : a.eval s = v) (hx : a.eval x = y)
    (hr : (Builtin.append_ #[t, t] o.type #[v, y]).run Tryd.prog w = .ok v' w') (h : K (a.put o.dst v') w') : if Region.wanted o (yielded ops a.tmps) = true then Oper.wp Tryd.prog o a w K Q else E := by
  rw [if_pos (by simp [Region.wanted, hgd])]
  exact wp_app s x t ho hs hx hr h
theorem list_app {w w' : World} {ops : Array Oper} {rest : List Oper} {o : Oper} {a : Act} {Q : Exit → Act → World → Prop} (hgd : o.guard = none) (s x : Operand) (t : TypeId) {v v' y : Value}
    (ho : o.op = .call { callee := .builtin .append, args := #[s, x], argTypes := #[t, t] }) (hs : a.eval s = v) (hx : a.eval x = y)
    (hr : (Builtin.append_ #[t, t] o.type #[v, y]).run Tryd.prog w = .ok v' w') (h : wpList Tryd.prog ops Q rest (a.put o.dst v') w') : wpList Tryd.prog ops Q (o :: rest) a w :=
  wpList_plain hgd fun _ hK => wp_app s x t ho hs hx hr (hK _ _ h)
theorem int1_one {q : List Int} : ∀ u ∈ q.map int1, u.oneCell' = true := by
  intro u hu
  obtain ⟨x, _, rfl⟩ := List.mem_map.1 hu
  rfl
/-- Times of one's own. -/
def OwnT (w : World) (base : Nat) (v : Value) (l : List Int) : Prop := w.ownsRow base 2 1 v l.length (l.map int1)
theorem OwnT.nil (w : World) (base : Nat) : OwnT w base (.slice none 0 0) [] := World.ownsRow_nil _ _ _ _
theorem OwnT.qr {w : World} {base : Nat} {v : Value} {l : List Int} (h : OwnT w base v l) : QR w v l := by
  have h0 := h
  rcases h.2 with ⟨rfl, hn⟩ | ⟨g, cap, cur, rfl, hg, hh, hn, hm, hs, ht⟩
  · obtain rfl : l = [] := List.length_eq_zero_iff.1 hn
    exact .nil w
  · refine ⟨_, cap, rfl, hn, hm, fun h => by (cases h), fun j u hj => ⟨g, 0, rfl, (Array.getElem?_eq_some_iff.1 hh).1, ?_⟩⟩
    have hjl := (List.getElem?_eq_some_iff.1 hj).1
    rw [List.length_map] at hjl
    rw [Nat.zero_add, World.ownsRow.cellAt h0 j (by omega)]
    exact hj
/-- To times of one's own what can be read is appended. -/
theorem run_app_times {w : World} {base : Nat} {v y : Value} {l q : List Int} (ty : TypeId) (h : OwnT w base v l) (hq : QR w y q) (hb : base ≤ w.heap.size) (hl : l.length + q.length ≤ 1000) :
    ∃ v' w', (Builtin.append_ #[31, 31] ty #[v, y]).run Tryd.prog w = .ok v' w' ∧ OwnT w' base v' (l ++ q) ∧ w.grownBy w' v.ownBlock := by
  obtain ⟨i, hi, hz0, hz1, hz2⟩ := info_parts info_i64
  obtain ⟨A, c, rfl, h1, h2, h3, h4⟩ := hq
  obtain ⟨v', w', hr, ho, hg, _⟩ := run_append_reads (P := Tryd.prog) (ty := ty) Tryd.underlying31 hi hz0 hz1 hz2 rfl (by decide) h h3 h1 (by rw [List.length_map]; omega) h4 int1_one (by unfold maxLen; omega) (by omega) hb
  refine ⟨v', w', hr, ?_, hg⟩
  unfold OwnT
  rw [List.length_append, List.map_append]
  exact ho
theorem list_times {w : World} {ops : Array Oper} {rest : List Oper} {o : Oper} {a : Act} {Q : Exit → Act → World → Prop} {base : Nat} {v y : Value} {l q : List Int} (hgd : o.guard = none) (s x : Operand)
    (ho : o.op = .call { callee := .builtin .append, args := #[s, x], argTypes := #[31, 31] }) (hs : a.eval s = v) (hx : a.eval x = y)
    (h : OwnT w base v l) (hq : QR w y q) (hb : base ≤ w.heap.size) (hl : l.length + q.length ≤ 1000) (W0 : World) (hB : Below base W0 w)
    (hk : ∀ v' w', OwnT w' base v' (l ++ q) → Below base W0 w' → wpList Tryd.prog ops Q rest (a.put o.dst v') w') : wpList Tryd.prog ops Q (o :: rest) a w := by
  obtain ⟨v', w', hr, ho2, hg⟩ := run_app_times o.type h hq hb hl
  exact list_app hgd s x _ ho hs hx hr (hk v' w' ho2 (hB.grown hg hb (fun k e => (World.ownsRow.lt h k e).1)))
/-- Full, or of one's own: what is appended to it takes nothing away. -/
def Full (w : World) (base : Nat) (v : Value) (n : Nat) (cs : List Value) : Prop :=
  (∃ A, v = .slice A n n ∧ n ≤ maxLen ∧ (A = none → n = 0) ∧ cs.length = n * 17 ∧ Reads w A cs) ∨ w.ownsRow base 33 17 v n cs
theorem Full.reads {w : World} {base n : Nat} {v : Value} {cs : List Value} (h : Full w base v n cs) : ∃ A c, v = .slice A n c ∧ n ≤ c ∧ c ≤ maxLen ∧ (A = none → c = 0) ∧ cs.length = n * 17 ∧ Reads w A cs := by
  rcases h with ⟨A, e, h1, h2, h3, h4⟩ | h
  · exact ⟨A, n, e, Nat.le_refl _, h1, h2, h3, h4⟩
  · have h0 := h
    rcases h.2 with ⟨rfl, hn⟩ | ⟨g, cap, cur, rfl, hg, hh, hn, hm, hs, ht⟩
    · subst hn
      have : cs = [] := List.eq_nil_of_length_eq_zero (by have := h.1; simpa using this)
      subst this
      exact ⟨none, 0, rfl, Nat.le_refl _, by decide, fun _ => rfl, rfl, .nil _ _⟩
    · refine ⟨_, cap, rfl, hn, hm, fun h => by (cases h), h.1, fun j u hj => ⟨g, 0, rfl, (Array.getElem?_eq_some_iff.1 hh).1, ?_⟩⟩
      have hjl := (List.getElem?_eq_some_iff.1 hj).1
      rw [Nat.zero_add, World.ownsRow.cellAt h0 j (by rw [← h.1]; exact hjl)]
      exact hj
theorem wp_cpy {w w' : World} {o : Oper} {a : Act} {K : Act → World → Prop} {Q : Exit → Act → World → Prop} (s x : Operand) (t : TypeId) {v v' y : Value}
    (ho : o.op = .call { callee := .builtin .copy, args := #[s, x], argTypes := #[t, t] }) (hs : a.eval s = v) (hx : a.eval x = y)
    (hr : (Builtin.copy_ #[t, t] o.type #[v, y]).run Tryd.prog w = .ok v' w') (h : K (a.put o.dst v') w') : Oper.wp Tryd.prog o a w K Q := by
  unfold Oper.wp execOp
  simp only [ho, resolve, invoke, builtin, Sem.run_bind, Sem.run_pure, Result.andThen_ok, List.map_toArray, List.map_cons, List.map_nil, hs, hx, hr]
  exact h
end Go.Proofs.YthghcffibljclaaDoor
