/- Bytes in memory: rows that can be read, rows of one's own; those of a page. -/
import Derived.Test.YtnhbkfmaaannnaaDoorEOf
import Derived.Below
import Derived.OwnWalk
import Derived.Laws.OwnMore
import Derived.Laws.MakeOwn
import Derived.Laws.AppendOwn
import Derived.Laws.AppendOwnNone
import Derived.Lib.SliceRun
import Derived.Deep.Draws
import Derived.WalkSpells
import Derived.Deep.QuietTactic
import Derived.BigQuiet
import Derived.RegionTactic
import Derived.ChangeAlike
import Derived.LoopTactic
namespace Go.Proofs.YtnhbkfmaaannnaaDoor
open Go.RowKit

def nthB (l : List Nat) (k : Nat) : Nat := l.getD k 0

theorem below_cell {W w1 : World} {B : Nat} (hb : Below B W w1) : (∀ b o, b < B → w1.cell? ⟨b, o, none⟩ = W.cell? ⟨b, o, none⟩) ∧ (∀ b o, b < B → w1.frozen? ⟨b, o, none⟩ = W.frozen? ⟨b, o, none⟩) :=
  ⟨fun b o h => hb.cell (p := ⟨b, o, none⟩) h, fun b o h => hb.frozen (p := ⟨b, o, none⟩) h⟩
theorem below_drew {B : Nat} {a w : World} (h : Below B a w) (n : Nat) : Below B a (w.drewN n) := ⟨h.os, h.tape, h.output, h.size, h.block⟩
theorem gr_trans {w w1 w2 : World} (h : Below w.heap.size w w1) (k : Below w1.heap.size w1 w2) : Below w.heap.size w w2 := h.trans (k.mono h.size)
theorem gr_alloc {w w1 : World} (h : Below w.heap.size w w1) (o : Obj) : Below w.heap.size w (w1.alloc o) := h.alloc h.size o
theorem own_below {W W' : World} {base : Nat} {e : TypeId} {size n : Nat} {v : Value} {xs : List Value} (h : W.ownsRow base e size v n xs) (hb : Below W.heap.size W W') : W'.ownsRow base e size v n xs := by
  refine ⟨h.1, ?_⟩
  rcases h.2 with h2 | ⟨g, cap, cur, hv, hg, hh, r⟩
  · exact .inl h2
  · exact .inr ⟨g, cap, cur, hv, hg, (hb.block g (Array.getElem?_eq_some_iff.1 hh).1).trans hh, r⟩
theorem own_mono {W : World} {base base' : Nat} {e : TypeId} {size n : Nat} {v : Value} {xs : List Value} (h : W.ownsRow base e size v n xs) (hb : base' ≤ base) : W.ownsRow base' e size v n xs := by
  refine ⟨h.1, ?_⟩
  rcases h.2 with h2 | ⟨g, cap, cur, hv, hg, r⟩
  · exact .inl h2
  · exact .inr ⟨g, cap, cur, hv, by omega, r⟩
theorem grown_drewN {a w : World} {row : Option Nat} (h : a.grownBy w row) (n : Nat) : a.grownBy (w.drewN n) row := ⟨h.os, h.tape, h.output, h.size, h.block⟩

/-- A byte as it stands in a cell. -/
def bv (b : Nat) : Value := .int .u8 (b : Int)
/-- The slice reads these bytes; its block lies below B. -/
structure RowB (w : World) (B : Nat) (A : Option Addr) (n c : Nat) (bs : List Nat) : Prop where
  len : bs.length = n
  byte : ∀ x ∈ bs, x < 256
  cap : n ≤ c
  top : c ≤ maxLen
  nil : A = none → c = 0
  at_ : ∀ k, k < n → ∃ b o, A = some ⟨b, o, none⟩ ∧ b < B ∧ w.cell? ⟨b, o + k, none⟩ = some (bv (nthB bs k))
theorem RowB.below {w w' : World} {B n c : Nat} {A : Option Addr} {bs : List Nat} (h : RowB w B A n c bs) (hb : Below B w w') : RowB w' B A n c bs :=
  ⟨h.len, h.byte, h.cap, h.top, h.nil, fun k hk => by
    obtain ⟨b, o, e, hl, hc⟩ := h.at_ k hk
    exact ⟨b, o, e, hl, ((below_cell hb).1 b _ hl).trans hc⟩⟩
theorem RowB.mono {w : World} {B B' n c : Nat} {A : Option Addr} {bs : List Nat} (h : RowB w B A n c bs) (hb : B ≤ B') : RowB w B' A n c bs :=
  ⟨h.len, h.byte, h.cap, h.top, h.nil, fun k hk => by
    obtain ⟨b, o, e, hl, hc⟩ := h.at_ k hk
    exact ⟨b, o, e, by omega, hc⟩⟩
theorem RowB.none_ (w : World) (B : Nat) : RowB w B none 0 0 [] := ⟨rfl, by simp, by omega, by omega, fun _ => rfl, fun k hk => absurd hk (by omega)⟩
theorem RowB.drewN {w : World} {B n c : Nat} {A : Option Addr} {bs : List Nat} (h : RowB w B A n c bs) (k : Nat) : RowB (w.drewN k) B A n c bs := ⟨h.len, h.byte, h.cap, h.top, h.nil, h.at_⟩
theorem add_none (b o k : Nat) : (⟨b, o, none⟩ : Addr).add k = ⟨b, o + k, none⟩ := by
  unfold Addr.add
  by_cases h0 : k = 0
  · subst h0; simp
  · simp [h0]
theorem nthB_drop (bs : List Nat) (k j : Nat) : nthB (bs.drop k) j = nthB bs (k + j) := by
  unfold nthB; rw [List.getD_eq_getElem?_getD, List.getD_eq_getElem?_getD, List.getElem?_drop]
theorem nthB_take (bs : List Nat) (k j : Nat) (h : j < k) : nthB (bs.take k) j = nthB bs j := by
  unfold nthB; rw [List.getD_eq_getElem?_getD, List.getD_eq_getElem?_getD, List.getElem?_take, if_pos h]
theorem RowB.drop {w : World} {B n c : Nat} {A : Option Addr} {bs : List Nat} (h : RowB w B A n c bs) {k : Nat} (hk : k ≤ n) : RowB w B (if c = k then A else A.map (·.add k)) (n - k) (c - k) (bs.drop k) := by
  have hcap := h.cap
  refine ⟨by rw [List.length_drop, h.len], fun x hx => h.byte x (List.drop_subset _ _ hx), by omega, by have := h.top; omega, fun e => ?_, fun j hj => ?_⟩
  · split at e
    · have := h.nil e; omega
    · cases A with
      | none => have := h.nil rfl; omega
      | some a => cases e
  · obtain ⟨b, o, rfl, hl, hc⟩ := h.at_ (k + j) (by omega)
    rw [if_neg (by omega)]
    exact ⟨b, o + k, by simp [add_none], hl, by rw [nthB_drop, Nat.add_assoc]; exact hc⟩
theorem RowB.take {w : World} {B n c : Nat} {A : Option Addr} {bs : List Nat} (h : RowB w B A n c bs) {k : Nat} (hk : k ≤ n) : RowB w B A k c (bs.take k) := by
  have hcap := h.cap
  refine ⟨by rw [List.length_take, h.len]; omega, fun x hx => h.byte x (List.take_subset _ _ hx), by omega, h.top, h.nil, fun j hj => ?_⟩
  obtain ⟨b, o, e, hl, hc⟩ := h.at_ j (by omega)
  exact ⟨b, o, e, hl, by rw [nthB_take _ _ _ hj]; exact hc⟩
theorem bv_at (bs : List Nat) (k : Nat) (hk : k < bs.length) : (bs.map bv)[k]? = some (bv (nthB bs k)) := by
  unfold nthB; rw [List.getElem?_map, List.getD_eq_getElem?_getD, List.getElem?_eq_getElem hk]; rfl
/-- A row of bytes of one's own: its block is not below base. -/
def OwnB (w : World) (base : Nat) (v : Value) (bs : List Nat) : Prop := w.ownsRow base 5 1 v bs.length (bs.map bv) ∧ ∀ x ∈ bs, x < 256
theorem OwnB.row {w : World} {base : Nat} {v : Value} {bs : List Nat} (h : OwnB w base v bs) : ∃ A c, v = .slice A bs.length c ∧ RowB w w.heap.size A bs.length c bs := by
  obtain ⟨h, h256⟩ := h
  rcases h.2 with ⟨rfl, h0⟩ | ⟨g, cap, cur, rfl, hg, hh, hn, hm, r⟩
  · have : bs = [] := List.length_eq_zero_iff.1 h0
    subst this
    exact ⟨none, 0, rfl, RowB.none_ w _⟩
  · refine ⟨_, cap, rfl, rfl, h256, hn, hm, (fun e => by cases e), fun k hk => ⟨g, 0, rfl, (Array.getElem?_eq_some_iff.1 hh).1, ?_⟩⟩
    rw [Nat.zero_add, h.cellAt k (by omega), bv_at bs k hk]
theorem OwnB.below {w w' : World} {base : Nat} {v : Value} {bs : List Nat} (h : OwnB w base v bs) (hb : Below w.heap.size w w') : OwnB w' base v bs := ⟨own_below h.1 hb, h.2⟩
theorem OwnB.mono {w : World} {base base' : Nat} {v : Value} {bs : List Nat} (h : OwnB w base v bs) (hb : base' ≤ base) : OwnB w base' v bs := ⟨own_mono h.1 hb, h.2⟩
theorem OwnB.drewN {w : World} {base : Nat} {v : Value} {bs : List Nat} (h : OwnB w base v bs) (n : Nat) : OwnB (w.drewN n) base v bs := ⟨h.1, h.2⟩
theorem OwnB.nil (w : World) (base : Nat) : OwnB w base (.slice none 0 0) [] := ⟨⟨rfl, .inl ⟨rfl, rfl⟩⟩, by simp⟩
theorem OwnB.alloc {w : World} {base : Nat} {v : Value} {bs : List Nat} (h : OwnB w base v bs) (o : Obj) : OwnB (w.alloc o) base v bs := ⟨h.1.alloc o, h.2⟩
/-- A new block of bytes, and nothing of it used. -/
theorem OwnB.made {w : World} {base c : Nat} {cur : Array Value} (hb : base ≤ w.heap.size) (hc : c ≤ maxLen) (hs : cur.size = c) : OwnB (w.alloc (.cells cur 5)) base (.slice (some ⟨w.heap.size, 0, none⟩) 0 c) [] :=
  ⟨⟨rfl, .inr ⟨_, c, cur, rfl, hb, heap_alloc_new w _, Nat.zero_le _, hc, by omega, rfl⟩⟩, by simp⟩

/-- append to bytes of one's own; what is appended may be nil. -/
theorem append_row {w : World} {ops : Array Oper} {rest : List Oper} {o : Oper} {a : Act} {Q : Exit → Act → World → Prop} (hgd : o.guard = none) (s x : Operand)
    (ho : o.op = .call { callee := .builtin .append, args := #[s, x], argTypes := #[71, 71] })
    (base : Nat) (v : Value) (bs : List Nat) (hs : a.eval s = v) (hown : OwnB w base v bs)
    (B : Nat) (A : Option Addr) (m c : Nat) (ns : List Nat) (hx : a.eval x = .slice A m c) (hr : RowB w B A m c ns)
    (h63 : bs.length + m ≤ 140737488355328) (hbase : base ≤ w.heap.size)
    (h : ∀ v' w', OwnB w' base v' (bs ++ ns) → w.grownBy w' v.ownBlock → wpList Tryd.prog ops Q rest (a.put o.dst v') w') : wpList Tryd.prog ops Q (o :: rest) a w := by
  obtain ⟨i0, hi, hz0, hz1, hz2⟩ := info_parts (show (Tryd.prog.info? 5).map (fun i => (i.zero, i.size, i.bytes)) = some (some (.int .u8 0), 1, 1) by kernel_rfl)
  have h256 : ∀ x ∈ bs ++ ns, x < 256 := fun x hx => by
    rcases List.mem_append.1 hx with hx | hx
    · exact hown.2 x hx
    · exact hr.byte x hx
  cases A with
  | none =>
    have hc := hr.nil rfl
    have hcap := hr.cap
    obtain rfl : c = 0 := hc
    obtain rfl : m = 0 := by omega
    have : ns = [] := List.length_eq_zero_iff.1 hr.len
    subst this
    refine wpList_append_own_none hgd s x 71 ho base 5 i0 1 Tryd.underlying71 hi v bs.length (bs.map bv) hs hown.1 hx ?_
    exact h _ _ (by simpa using hown) (World.grownBy.refl _ _)
  | some ad =>
    refine wpList_append_own w hgd s x 71 ho base 5 i0 (.int .u8 0) 1 1 Tryd.underlying71 hi hz0 hz1 hz2 rfl (by decide) v bs.length (bs.map bv) hs hown.1 ad m c (ns.map bv) hx (by rw [List.length_map, hr.len, Nat.mul_one]) (fun j u hj => ?_) (fun u hu => ?_) (by unfold maxLen; omega) (by omega) hbase ?_
    · have hjl : j < m := by have := (List.getElem?_eq_some_iff.1 hj).1; rw [List.length_map, hr.len] at this; exact this
      obtain ⟨b, o, e, hl, hc⟩ := hr.at_ j hjl
      injection e with e
      subst e
      rw [add_none, hc, ← bv_at ns j (by rw [hr.len]; exact hjl)]
      exact hj
    · obtain ⟨q, _, rfl⟩ := List.mem_map.1 hu; rfl
    · intro v' w' h1 h2 _
      exact h v' w' ⟨by rw [List.length_append, List.map_append, hr.len]; exact h1, h256⟩ h2
/-- What was grown so is new, or one's own. -/
theorem below_grown {w0 w w' : World} {base : Nat} {v : Value} {bs : List Nat} (hb : Below base w0 w) (hown : OwnB w base v bs) (hg : w.grownBy w' v.ownBlock) (hB : base ≤ w.heap.size) : Below base w0 w' :=
  hb.grown hg hB (fun k e => (hown.1.lt k e).1)
/-- One byte in a block of its own. -/
theorem RowB.one {w : World} {B b c : Nat} (hB : b < B) {z : Int} (x : Nat) (hx : x < 256) (hz : z = (x : Int)) (hc : w.cell? ⟨b, 0, none⟩ = some (.int .u8 z)) (h1 : 1 ≤ c) (h2 : c ≤ 64) : RowB w B (some ⟨b, 0, none⟩) 1 c [x] :=
  ⟨rfl, by simpa using hx, h1, by unfold maxLen; omega, (fun e => by cases e), fun k hk => ⟨b, 0, rfl, hB, by
    obtain rfl : k = 0 := by omega
    subst hz
    exact hc⟩⟩
/-- A new block with one byte: what is appended by 'append(x, c)'. -/
theorem RowB.fresh (w : World) {z : Int} (x : Nat) (hx : x < 256) (hz : z = (x : Int)) : RowB (w.alloc (.cells #[.int .u8 z] 5)) (w.heap.size + 1) (some ⟨w.heap.size, 0, none⟩) 1 1 [x] :=
  RowB.one (by omega) x hx hz (by rw [cell_of_row _ w.heap.size 0 _ _ _ (heap_alloc_new w _)]; rfl) (by omega) (by omega)
end Go.Proofs.YtnhbkfmaaannnaaDoor
