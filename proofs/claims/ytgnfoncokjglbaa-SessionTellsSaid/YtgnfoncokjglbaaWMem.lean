/- Rows of sessions in memory: what can be read, what is one's own; append. -/
import Derived.Test.YtgnfoncokjglbaaWPlain
import Derived.Test.YtgnfoncokjglbaaProg
import Derived.Below
import Derived.OwnWalk
import Derived.Laws.OwnMore
import Derived.Laws.MakeOwn
import Derived.Laws.AppendOwn
import Derived.Laws.AppendOwnNone
import Derived.Lib.SliceRun
import Derived.Deep.Draws
import Derived.WalkSpells
import Derived.Deep.QuietTactic
import Derived.BigQuiet
import Derived.RegionTactic
import Derived.ChangeAlike
import Derived.LoopTactic
import Derived.Lib.Hide
import Derived.Maps.AppendAt
import Derived.Deep.AppendLies
import Derived.Deep.RegionLaw
namespace Go.Proofs.Ytgnfoncokjglbaa
open Go.RowKit

/-- These cells can be read from there on. -/
def Reads (w : World) (A : Option Addr) (cs : List Value) : Prop := ∀ j u, cs[j]? = some u → ∃ b o, A = some ⟨b, o, none⟩ ∧ b < w.heap.size ∧ w.cell? ⟨b, o + j, none⟩ = some u
theorem Reads.on {w w' : World} {A : Option Addr} {cs : List Value} (h : Reads w A cs) (hb : Below w.heap.size w w') : Reads w' A cs := fun j u hj => by
  obtain ⟨b, o, e, hl, hc⟩ := h j u hj
  exact ⟨b, o, e, Nat.lt_of_lt_of_le hl hb.size, (hb.cell (p := ⟨b, o + j, none⟩) hl).trans hc⟩
theorem Reads.nil (w : World) (A : Option Addr) : Reads w A [] := fun j u hj => by simp at hj
theorem Reads.addr {w : World} {b o : Nat} {cs : List Value} (h : Reads w (some ⟨b, o, none⟩) cs) : ∀ j u, cs[j]? = some u → w.cell? ((⟨b, o, none⟩ : Addr).add j) = some u := fun j u hj => by
  obtain ⟨b', o', e, hl, hc⟩ := h j u hj
  cases e
  rw [show (⟨b, o, none⟩ : Addr).add j = ⟨b, o + j, none⟩ by unfold Addr.add; split <;> simp_all]
  exact hc
theorem Reads.some_ {w : World} {A : Option Addr} {cs : List Value} (h : Reads w A cs) (hn : 0 < cs.length) : ∃ b o, A = some ⟨b, o, none⟩ ∧ b < w.heap.size := by
  obtain ⟨b, o, e, hl, _⟩ := h 0 cs[0] (List.getElem?_eq_getElem hn)
  exact ⟨b, o, e, hl⟩
theorem Reads.take {w : World} {A : Option Addr} {cs : List Value} (h : Reads w A cs) (k : Nat) : Reads w A (cs.take k) := fun j u hj => by
  rw [List.getElem?_take] at hj
  split at hj
  · exact h j u hj
  · cases hj
theorem Reads.drop {w : World} {b o : Nat} {cs : List Value} (h : Reads w (some ⟨b, o, none⟩) cs) (k : Nat) : Reads w (some ⟨b, o + k, none⟩) (cs.drop k) := fun j u hj => by
  rw [List.getElem?_drop] at hj
  obtain ⟨b', o', e, hl, hc⟩ := h (k + j) u hj
  cases e
  exact ⟨b, o + k, rfl, hl, by rw [Nat.add_assoc]; exact hc⟩
theorem sinfo_parts {P : Program} {t : TypeId} {z : Value} {s b : Nat} (h : (P.info? t).map (fun i => (i.zero, i.size, i.bytes)) = some (some z, s, b)) : ∃ i, P.info? t = some i ∧ i.zero = some z ∧ i.size = s ∧ i.bytes = b := by
  cases hp : P.info? t with
  | none => rw [hp] at h; simp at h
  | some i =>
    rw [hp] at h
    simp at h
    exact ⟨i, rfl, h.1, h.2.1, h.2.2⟩
theorem info_ses : (Try.prog.info? 42).map (fun i => (i.zero, i.size, i.bytes)) = some (some (.agg #[.int .i64 0, .int .u64 0, .int .i64 0, .slice none 0 0]), 4, 48) := by kernel_rfl
theorem info_u32w : (Try.prog.info? 64).map (fun i => (i.zero, i.size, i.bytes)) = some (some (.int .u32 0), 1, 4) := by kernel_rfl
theorem info_intw : (Try.prog.info? 3).map (fun i => (i.zero, i.size, i.bytes)) = some (some (.int .i64 0), 1, 8) := by kernel_rfl
/-- Numbers as they stand in memory. -/
def nz (k : IntKind) (x : Int) : Value := .int k x
theorem nz_one {k : IntKind} {q : List Int} : ∀ u ∈ q.map (nz k), u.oneCell' = true := by
  intro u hu
  obtain ⟨x, _, rfl⟩ := List.mem_map.1 hu
  rfl
/-- A slice that reads these numbers. -/
structure NumR (w : World) (k : IntKind) (A : Option Addr) (n c : Nat) (q : List Int) : Prop where
  len : q.length = n
  cap : n ≤ c
  top : c ≤ maxLen
  non : A = none → c = 0
  rd : Reads w A (q.map (nz k))
theorem NumR.on {w w' : World} {k : IntKind} {A : Option Addr} {n c : Nat} {q : List Int} (h : NumR w k A n c q) (hb : Below w.heap.size w w') : NumR w' k A n c q := ⟨h.len, h.cap, h.top, h.non, h.rd.on hb⟩
theorem NumR.nil (w : World) (k : IntKind) : NumR w k none 0 0 [] := ⟨rfl, by omega, by decide, fun _ => rfl, .nil _ _⟩
theorem NumR.at_ {w : World} {k : IntKind} {A : Option Addr} {n c : Nat} {q : List Int} (h : NumR w k A n c q) {i : Nat} {x : Int} (hx : q[i]? = some x) : ∃ b o, A = some ⟨b, o, none⟩ ∧ b < w.heap.size ∧ w.cell? ⟨b, o + i, none⟩ = some (.int k x) :=
  h.rd i (nz k x) (by rw [List.getElem?_map, hx]; rfl)
theorem NumR.take {w : World} {k : IntKind} {A : Option Addr} {n c m : Nat} {q : List Int} (h : NumR w k A n c q) (hm : m ≤ n) : NumR w k A m c (q.take m) :=
  ⟨by rw [List.length_take, h.len]; omega, by have := h.cap; omega, h.top, h.non, by rw [List.map_take]; exact h.rd.take m⟩
def NR (w : World) (v : Value) (q : List Int) : Prop := ∃ A c, v = .slice A q.length c ∧ NumR w .u32 A q.length c q
theorem NR.on {w w' : World} {v : Value} {q : List Int} (h : NR w v q) (hb : Below w.heap.size w w') : NR w' v q := by
  obtain ⟨A, c, e, h⟩ := h
  exact ⟨A, c, e, h.on hb⟩
theorem NR.nil (w : World) : NR w (.slice none 0 0) [] := ⟨none, 0, rfl, .nil w _⟩
theorem NR.one {w : World} {v : Value} {q : List Int} (h : NR w v q) : v.oneCell' = true := by
  obtain ⟨A, c, rfl, _⟩ := h
  rfl
/-- A row, and the slice of its names. -/
abbrev SesM := SesZ × Value
def RepZ.Fit (r : RepZ) : Prop := (-9223372036854775808 ≤ r.err ∧ r.err ≤ 9223372036854775807) ∧ ∀ x ∈ r.names, 0 ≤ x ∧ x ≤ 4294967295
def SesZ.Fit (x : SesZ) : Prop := (-9223372036854775808 ≤ x.cl ∧ x.cl ≤ 9223372036854775807) ∧ (0 ≤ x.seq ∧ x.seq ≤ 18446744073709551615) ∧ x.rep.Fit
def sesC (m : SesM) : List Value := [.int .i64 m.1.cl, .int .u64 m.1.seq, .int .i64 m.1.rep.err, m.2]
def sesV (x : SesZ) (v : Value) : Value := .agg #[.int .i64 x.cl, .int .u64 x.seq, .int .i64 x.rep.err, v]
def repV (r : RepZ) (v : Value) : Value := .agg #[.int .i64 r.err, v]
def SesOk (w : World) (m : SesM) : Prop := m.1.Fit ∧ NR w m.2 m.1.rep.names
theorem SesOk.on {w w' : World} {m : SesM} (h : SesOk w m) (hb : Below w.heap.size w w') : SesOk w' m := ⟨h.1, h.2.on hb⟩
theorem sflat_len : ∀ {ms : List SesM}, (ms.flatMap sesC).length = ms.length * 4
  | [] => rfl
  | m :: ms => by
    rw [List.flatMap_cons, List.length_append, sflat_len, List.length_cons]
    simp [sesC]; omega
theorem sflat_at : ∀ {ms : List SesM} (k : Nat) (m : SesM), ms[k]? = some m → ∀ i, i < 4 → (ms.flatMap sesC)[k * 4 + i]? = (sesC m)[i]?
  | [], k, m, hk, i, hi => by simp at hk
  | x :: ms, k, m, hk, i, hi => by
    have hl : (sesC x).length = 4 := rfl
    cases k with
    | zero =>
      simp at hk; subst hk
      rw [List.flatMap_cons, Nat.zero_mul, Nat.zero_add, List.getElem?_append_left (by omega)]
    | succ k =>
      rw [List.flatMap_cons, List.getElem?_append_right (by rw [hl]; omega), hl, show (k + 1) * 4 + i - 4 = k * 4 + i by omega]
      exact sflat_at k m (by simpa using hk) i hi
theorem sflat_one {w : World} {ms : List SesM} (h : ∀ m ∈ ms, SesOk w m) : ∀ u ∈ ms.flatMap sesC, u.oneCell' = true := by
  intro u hu
  obtain ⟨m, hm, hu⟩ := List.mem_flatMap.1 hu
  have h1 := (h m hm).2.one
  simp only [sesC, List.mem_cons, List.not_mem_nil, or_false] at hu
  rcases hu with rfl | rfl | rfl | rfl
  · rfl
  · rfl
  · rfl
  · exact h1
/-- A slice that reads these rows. -/
structure SR (w : World) (A : Option Addr) (n c : Nat) (ms : List SesM) : Prop where
  len : ms.length = n
  cap : n ≤ c
  top : c ≤ maxLen
  non : A = none → c = 0
  rd : Reads w A (ms.flatMap sesC)
  ok : ∀ m ∈ ms, SesOk w m
theorem SR.on {w w' : World} {A : Option Addr} {n c : Nat} {ms : List SesM} (h : SR w A n c ms) (hb : Below w.heap.size w w') : SR w' A n c ms := ⟨h.len, h.cap, h.top, h.non, h.rd.on hb, fun m hm => (h.ok m hm).on hb⟩
theorem SR.nil (w : World) : SR w none 0 0 [] := ⟨rfl, by omega, by decide, fun _ => rfl, .nil _ _, fun m hm => by cases hm⟩
theorem SR.at_ {w : World} {A : Option Addr} {n c : Nat} {ms : List SesM} (h : SR w A n c ms) {k : Nat} {x : SesZ} {v : Value} (hk : ms[k]? = some (x, v)) : ∃ b o, A = some ⟨b, o, none⟩ ∧ b < w.heap.size ∧ w.cell? ⟨b, o + k * 4, none⟩ = some (.int .i64 x.cl) ∧ w.cell? ⟨b, o + k * 4 + 1, none⟩ = some (.int .u64 x.seq) ∧ w.cell? ⟨b, o + k * 4 + 2, none⟩ = some (.int .i64 x.rep.err) ∧ w.cell? ⟨b, o + k * 4 + 3, none⟩ = some v := by
  have hkl := (List.getElem?_eq_some_iff.1 hk).1
  obtain ⟨bl, of, rfl, hlt⟩ := h.rd.some_ (by rw [sflat_len]; omega)
  refine ⟨bl, of, rfl, hlt, ?_⟩
  have ha : ∀ i, i < 4 → ∀ u, (sesC (x, v))[i]? = some u → w.cell? ⟨bl, of + k * 4 + i, none⟩ = some u := fun i hi u hu => by
    obtain ⟨b', o', e', _, hc⟩ := h.rd (k * 4 + i) u (by rw [sflat_at k _ hk i hi]; exact hu)
    cases e'
    rw [Nat.add_assoc]
    exact hc
  exact ⟨ha 0 (by omega) _ rfl, ha 1 (by omega) _ rfl, ha 2 (by omega) _ rfl, ha 3 (by omega) _ rfl⟩
theorem SR.take {w : World} {A : Option Addr} {n c : Nat} {ms : List SesM} (h : SR w A n c ms) {k : Nat} (hk : k ≤ n) : SR w A k c (ms.take k) := by
  refine ⟨by rw [List.length_take, h.len]; omega, Nat.le_trans hk h.cap, h.top, h.non, fun j u hj => ?_, fun m hm => h.ok m (List.mem_of_mem_take hm)⟩
  refine h.rd j u ?_
  rw [← hj]
  conv => lhs; rw [← List.take_append_drop k ms]
  rw [List.flatMap_append, List.getElem?_append_left (List.getElem?_eq_some_iff.1 hj).1]
theorem SR.cutcap {w : World} {A : Option Addr} {n c d : Nat} {ms : List SesM} (h : SR w A n c ms) (h1 : n ≤ d) (h2 : d ≤ c) : SR w A n d ms :=
  ⟨h.len, h1, Nat.le_trans h2 h.top, fun e => by have := h.non e; omega, h.rd, h.ok⟩
theorem SR.drop {w : World} {bl of n c : Nat} {ms : List SesM} (h : SR w (some ⟨bl, of, none⟩) n c ms) {k : Nat} (hk : k ≤ n) : SR w (some ⟨bl, of + k * 4, none⟩) (n - k) (c - k) (ms.drop k) := by
  have hfl : ((ms.take k).flatMap sesC).length = k * 4 := by
    rw [sflat_len, List.length_take, h.len]
    congr 1
    omega
  refine ⟨by rw [List.length_drop, h.len], by have := h.cap; omega, by have := h.top; omega, fun e => (by cases e), fun j u hj => ?_, fun m hm => h.ok m (List.mem_of_mem_drop hm)⟩
  have h1 : (ms.flatMap sesC)[k * 4 + j]? = some u := by
    conv => lhs; rw [← List.take_append_drop k ms]
    rw [List.flatMap_append, List.getElem?_append_right (by rw [hfl]; omega), hfl, Nat.add_sub_cancel_left]
    exact hj
  obtain ⟨b, o, e, hl, hc⟩ := h.rd (k * 4 + j) u h1
  cases e
  exact ⟨bl, of + k * 4, rfl, hl, by rw [Nat.add_assoc]; exact hc⟩
/-- Block g is just these cells. -/
def SBox (w : World) (g : Nat) (t : TypeId) (cs : Array Value) : Prop := w.heap[g]? = some (.cells cs t (0, 0))
section
variable {w w' : World} {g : Nat} {t : TypeId} {cs : Array Value}
theorem SBox.lt (h : SBox w g t cs) : g < w.heap.size := by
  rcases Nat.lt_or_ge g w.heap.size with hlt | hge
  · exact hlt
  · unfold SBox at h; rw [Array.getElem?_eq_none hge] at h; cases h
theorem SBox.cell (h : SBox w g t cs) (i : Nat) : w.cell? ⟨g, i, none⟩ = cs[i]? := cell_of_row w g i cs t (0, 0) h
theorem SBox.frozen (h : SBox w g t cs) (i : Nat) : w.frozen? ⟨g, i, none⟩ = false := by
  unfold SBox at h
  simp [World.frozen?, h]
theorem SBox.new (w : World) (t : TypeId) (cs : Array Value) : SBox (w.alloc (.cells cs t)) w.heap.size t cs := heap_alloc_new w _
theorem SBox.alloc (h : SBox w g t cs) (o : Obj) : SBox (w.alloc o) g t cs := (Below.heap_alloc w o g h.lt).trans h
theorem SBox.set (h : SBox w g t cs) (i : Nat) (u : Value) : SBox (w.setCell ⟨g, i, none⟩ u) g t (cs.setIfInBounds i u) := by
  unfold SBox at h ⊢
  simp [World.setCell, Array.getElem?_modify, h]
theorem SBox.far (h : SBox w g t cs) {p i : Nat} (hp : g ≠ p) (u : Value) : SBox (w.setCell ⟨p, i, none⟩ u) g t cs := (Below.heap_setCell w ⟨p, i, none⟩ u g hp).trans h
theorem SBox.below {B : Nat} (h : SBox w g t cs) (hb : Below B w w') (hg : g < B) : SBox w' g t cs := (hb.block g hg).trans h
theorem SBox.on (h : SBox w g t cs) (hb : Below w.heap.size w w') : SBox w' g t cs := h.below hb h.lt
theorem SBox.drewN (h : SBox w g t cs) (n : Nat) : SBox (w.drewN n) g t cs := h
theorem SBox.grown {row : Option Nat} (h : SBox w g t cs) (hg : w.grownBy w' row) (hne : row ≠ some g) : SBox w' g t cs := by
  have := hg.block g h.lt
  first
    | exact (this hne).trans h
    | exact (this (Ne.symm hne)).trans h
end
theorem SBox.one {w : World} {g : Nat} {t : TypeId} {a : Value} (h : SBox w g t #[a]) : w.cell? ⟨g, 0, none⟩ = some a := h.cell 0
theorem SBox.two {w : World} {g : Nat} {t : TypeId} {a b : Value} (h : SBox w g t #[a, b]) : w.cell? ⟨g, 0, none⟩ = some a ∧ w.cell? ⟨g, 1, none⟩ = some b := ⟨h.cell 0, h.cell 1⟩
theorem SBox.four {w : World} {g : Nat} {t : TypeId} {a b c d : Value} (h : SBox w g t #[a, b, c, d]) : w.cell? ⟨g, 0, none⟩ = some a ∧ w.cell? ⟨g, 1, none⟩ = some b ∧ w.cell? ⟨g, 2, none⟩ = some c ∧ w.cell? ⟨g, 3, none⟩ = some d := ⟨h.cell 0, h.cell 1, h.cell 2, h.cell 3⟩
theorem new_below (w : World) (o : Obj) : Below w.heap.size w (w.alloc o) := (Below.refl _ _).alloc (Nat.le_refl _) _
section
variable {P : Program} {w : World} {base : Nat} {t ty e : TypeId} {i : TypeInfo} {z : Value} {size bytes : Nat}
/-- To a row of one's own what can be read is appended. -/
theorem run_append_reads (ht : P.underlying t = some (.slice e)) (hi : P.info? e = some i) (hz : i.zero = some z) (hsize : i.size = size) (hby : i.bytes = bytes) (hzs : z.cells.size = size) (hsz : 0 < size)
    {v : Value} {n : Nat} {xs : List Value} (hown : w.ownsRow base e size v n xs) {A : Option Addr} {m c : Nat} {news : List Value} (hA : A = none → c = 0) (hmc : m ≤ c) (hl : news.length = m * size) (hr : Reads w A news) (h1 : ∀ u ∈ news, u.oneCell' = true)
    (h63 : n + m ≤ maxLen) (hbytes : (n + m) * bytes ≤ 140737488355328) (hbase : base ≤ w.heap.size) :
    ∃ v' w', (Builtin.append_ #[t, t] ty #[v, .slice A m c]).run P w = .ok v' w' ∧ w'.ownsRow base e size v' (n + m) (xs ++ news) ∧ w.grownBy w' v.ownBlock ∧ (v'.ownBlock = v.ownBlock ∨ v'.ownBlock = some w.heap.size) := by
  cases A with
  | none =>
    have := hA rfl
    subst this
    obtain rfl : m = 0 := by omega
    obtain rfl : news = [] := List.eq_nil_of_length_eq_zero (by simpa using hl)
    exact ⟨v, w, run_append_owned_none (P := P) (w := w) base t ty e i size ht hi v n xs hown, by simpa using hown, World.grownBy.refl _ _, .inl rfl⟩
  | some ad =>
    by_cases hm : m = 0
    · subst hm
      obtain rfl : news = [] := List.eq_nil_of_length_eq_zero (by simpa using hl)
      obtain ⟨v', w', hr', ho, hg, _, ha⟩ := run_append_own_at (P := P) w base t ty e i z size bytes ht hi hz hsize hby hzs hsz v n xs hown ad 0 c [] (by simp) (fun j u hj => by simp at hj) (fun u hu => by cases hu) h63 hbytes hbase
      exact ⟨v', w', hr', ho, hg, ha⟩
    · obtain ⟨b, o, e', _⟩ := hr.some_ (by rw [hl]; exact Nat.mul_pos (by omega) hsz)
      cases e'
      obtain ⟨v', w', hr', ho, hg, _, ha⟩ := run_append_own_at (P := P) w base t ty e i z size bytes ht hi hz hsize hby hzs hsz v n xs hown ⟨b, o, none⟩ m c news hl (hr.addr) h1 h63 hbytes hbase
      exact ⟨v', w', hr', ho, hg, ha⟩
end
theorem wp_app {w w' : World} {o : Oper} {a : Act} {K : Act → World → Prop} {Q : Exit → Act → World → Prop} (s x : Operand) (t : TypeId) {v v' y : Value}
    (ho : o.op = .call { callee := .builtin .append, args := #[s, x], argTypes := #[t, t] }) (hs : a.eval s = v) (hx : a.eval x = y)
    (hr : (Builtin.append_ #[t, t] o.type #[v, y]).run Try.prog w = .ok v' w') (h : K (a.put o.dst v') w') : Oper.wp Try.prog o a w K Q := by
  unfold Oper.wp execOp
  simp only [ho, resolve, invoke, builtin, Sem.run_bind, Sem.run_pure, Result.andThen_ok, List.map_toArray, List.map_cons, List.map_nil, hs, hx, hr]
  exact h
theorem step_app {w w' : World} {ops : Array Oper} {o : Oper} {a : Act} {K : Act → World → Prop} {Q : Exit → Act → World → Prop} {E : Prop} (hgd : o.guard = none) (s x : Operand) (t : TypeId) {v v' y : Value}
    (ho : o.op = .call { callee := .builtin .append, args := #[s, x], argTypes := #[t, t] }) (hs : a.eval s = v) (hx : a.eval x = y)
    (hr : (Builtin.append_ #[t, t] o.type #[v, y]).run Try.prog w = .ok v' w') (h : K (a.put o.dst v') w') : if Region.wanted o (yielded ops a.tmps) = true then Oper.wp Try.prog o a w K Q else E := by
  rw [if_pos (by simp [Region.wanted, hgd])]
  exact wp_app s x t ho hs hx hr h
theorem list_app {w w' : World} {ops : Array Oper} {rest : List Oper} {o : Oper} {a : Act} {Q : Exit → Act → World → Prop} (hgd : o.guard = none) (s x : Operand) (t : TypeId) {v v' y : Value}
    (ho : o.op = .call { callee := .builtin .append, args := #[s, x], argTypes := #[t, t] }) (hs : a.eval s = v) (hx : a.eval x = y)
    (hr : (Builtin.append_ #[t, t] o.type #[v, y]).run Try.prog w = .ok v' w') (h : wpList Try.prog ops Q rest (a.put o.dst v') w') : wpList Try.prog ops Q (o :: rest) a w :=
  wpList_plain hgd fun _ hK => wp_app s x t ho hs hx hr (hK _ _ h)
/-- Numbers of one's own. -/
def OwnK (w : World) (k : IntKind) (t : TypeId) (base : Nat) (v : Value) (l : List Int) : Prop := w.ownsRow base t 1 v l.length (l.map (nz k))
theorem OwnK.nil (w : World) (k : IntKind) (t : TypeId) (base : Nat) : OwnK w k t base (.slice none 0 0) [] := World.ownsRow_nil _ _ _ _
theorem OwnK.numr {w : World} {k : IntKind} {t : TypeId} {base : Nat} {v : Value} {l : List Int} (h : OwnK w k t base v l) : ∃ A c, v = .slice A l.length c ∧ NumR w k A l.length c l := by
  have h0 := h
  rcases h.2 with ⟨rfl, hn⟩ | ⟨g, cap, cur, rfl, hg, hh, hn, hm, hs, ht⟩
  · obtain rfl : l = [] := List.length_eq_zero_iff.1 hn
    exact ⟨none, 0, rfl, .nil w _⟩
  · refine ⟨_, cap, rfl, rfl, hn, hm, fun h => by (cases h), fun j u hj => ⟨g, 0, rfl, (Array.getElem?_eq_some_iff.1 hh).1, ?_⟩⟩
    have hjl := (List.getElem?_eq_some_iff.1 hj).1
    rw [List.length_map] at hjl
    rw [Nat.zero_add, World.ownsRow.cellAt h0 j (by omega)]
    exact hj
theorem owns_mono {w : World} {base base' : Nat} {t : TypeId} {s n : Nat} {v : Value} {xs : List Value} (h : w.ownsRow base t s v n xs) (hb : base' ≤ base) : w.ownsRow base' t s v n xs := by
  refine ⟨h.1, ?_⟩
  rcases h.2 with h2 | ⟨g, cap, cur, hv, hg, r⟩
  · exact .inl h2
  · exact .inr ⟨g, cap, cur, hv, by omega, r⟩
theorem owns_on {w w' : World} {base : Nat} {t : TypeId} {s n : Nat} {v : Value} {xs : List Value} (h : w.ownsRow base t s v n xs) (hb : Below w.heap.size w w') : w'.ownsRow base t s v n xs := by
  refine ⟨h.1, ?_⟩
  rcases h.2 with h2 | ⟨g, cap, cur, hv, hg, hh, r⟩
  · exact .inl h2
  · exact .inr ⟨g, cap, cur, hv, hg, (hb.block g (Array.getElem?_eq_some_iff.1 hh).1).trans hh, r⟩
theorem owns_far {w : World} {base g i : Nat} {t : TypeId} {s n : Nat} {v : Value} {xs : List Value} (h : w.ownsRow base t s v n xs) (hg : v.ownBlock ≠ some g) (u : Value) : (w.setCell ⟨g, i, none⟩ u).ownsRow base t s v n xs := by
  refine ⟨h.1, ?_⟩
  rcases h.2 with h2 | ⟨b, cap, cur, rfl, hb, hh, r⟩
  · exact .inl h2
  · exact .inr ⟨b, cap, cur, rfl, hb, (Below.heap_setCell w ⟨g, i, none⟩ u b (fun e => hg (congrArg some e))).trans hh, r⟩
/-- Two rows of one's own of two types never meet. -/
theorem owns_types {W : World} {B B' n m s s' : Nat} {t t' : TypeId} {v v' : Value} {xs ys : List Value} (ht : t ≠ t') (h : W.ownsRow B t s v n xs) (h' : W.ownsRow B' t' s' v' m ys) : v.ownBlock = none ∨ v.ownBlock ≠ v'.ownBlock := by
  rcases h.2 with ⟨rfl, _⟩ | ⟨g, c, cur, rfl, _, hg, _⟩
  · exact .inl rfl
  · right
    rcases h'.2 with ⟨rfl, _⟩ | ⟨g', c', cur', rfl, _, hg', _⟩
    · intro he; cases he
    · intro he
      simp only [Value.ownBlock, Option.some.injEq] at he
      subst he
      rw [hg] at hg'
      cases hg'
      exact ht rfl
def OwnN (w : World) (base : Nat) (v : Value) (l : List Int) : Prop := OwnK w .u32 64 base v l
theorem OwnN.nr {w : World} {base : Nat} {v : Value} {l : List Int} (h : OwnN w base v l) : NR w v l := OwnK.numr h
theorem OwnN.kept {w w' : World} {base B : Nat} {v v2 : Value} {l : List Int} {n : Nat} {xs : List Value} (h : OwnN w base v l) (h2 : w.ownsRow B 42 4 v2 n xs) (hg : w.grownBy w' v2.ownBlock) : OwnN w' base v l := by
  refine World.ownsRow.kept h hg ?_
  rcases owns_types (by decide) h h2 with e | e
  · exact .inl e
  · exact .inr e
/-- Rows of one's own, each with names of one's own. -/
structure OwnS (w : World) (base : Nat) (v : Value) (ms : List SesM) : Prop where
  row : w.ownsRow base 42 4 v ms.length (ms.flatMap sesC)
  ok : ∀ m ∈ ms, m.1.Fit ∧ OwnN w base m.2 m.1.rep.names
theorem OwnS.nil (w : World) (base : Nat) : OwnS w base (.slice none 0 0) [] := ⟨World.ownsRow_nil _ _ _ _, fun m hm => by cases hm⟩
theorem OwnS.on {w w' : World} {base : Nat} {v : Value} {ms : List SesM} (h : OwnS w base v ms) (hb : Below w.heap.size w w') : OwnS w' base v ms := ⟨owns_on h.row hb, fun m hm => ⟨(h.ok m hm).1, owns_on (h.ok m hm).2 hb⟩⟩
theorem OwnS.mono {w : World} {base base' : Nat} {v : Value} {ms : List SesM} (h : OwnS w base v ms) (hb : base' ≤ base) : OwnS w base' v ms := ⟨owns_mono h.row hb, fun m hm => ⟨(h.ok m hm).1, owns_mono (h.ok m hm).2 hb⟩⟩
theorem OwnS.sr {w : World} {base : Nat} {v : Value} {ms : List SesM} (h : OwnS w base v ms) : ∃ A c, v = .slice A ms.length c ∧ SR w A ms.length c ms := by
  have h0 := h.row
  have hok : ∀ m ∈ ms, SesOk w m := fun m hm => ⟨(h.ok m hm).1, (h.ok m hm).2.nr⟩
  rcases h.row.2 with ⟨rfl, hn⟩ | ⟨g, cap, cur, rfl, hg, hh, hn, hm, hs, ht⟩
  · obtain rfl : ms = [] := List.length_eq_zero_iff.1 hn
    exact ⟨none, 0, rfl, .nil w⟩
  · refine ⟨_, cap, rfl, rfl, hn, hm, fun h => by (cases h), fun j u hj => ⟨g, 0, rfl, (Array.getElem?_eq_some_iff.1 hh).1, ?_⟩, hok⟩
    have hjl := (List.getElem?_eq_some_iff.1 hj).1
    rw [sflat_len] at hjl
    rw [Nat.zero_add, World.ownsRow.cellAt h0 j (by omega)]
    exact hj
/-- To numbers of one's own what can be read is appended. -/
theorem run_app_nums {w : World} {base n c : Nat} {v : Value} {A : Option Addr} {l q : List Int} (ty : TypeId) (h : OwnN w base v l) (hq : NumR w .u32 A n c q) (hb : base ≤ w.heap.size) (hl : l.length + q.length ≤ 9000000000) :
    ∃ v' w', (Builtin.append_ #[33, 33] ty #[v, .slice A n c]).run Try.prog w = .ok v' w' ∧ OwnN w' base v' (l ++ q) ∧ w.grownBy w' v.ownBlock := by
  obtain ⟨i, hi, hz0, hz1, hz2⟩ := sinfo_parts info_u32w
  obtain ⟨h0, h1, h2, h3, h4⟩ := hq
  subst h0
  obtain ⟨v', w', hr, ho, hg, _⟩ := run_append_reads (P := Try.prog) (ty := ty) Try.underlying33 hi hz0 hz1 hz2 rfl (by decide) h h3 h1 (by rw [List.length_map]; omega) h4 nz_one (by unfold maxLen; omega) (by omega) hb
  refine ⟨v', w', hr, ?_, hg⟩
  unfold OwnN OwnK
  rw [List.length_append, List.map_append]
  exact ho
theorem list_nums {w : World} {ops : Array Oper} {rest : List Oper} {o : Oper} {a : Act} {Q : Exit → Act → World → Prop} {base n c : Nat} {v : Value} {A : Option Addr} {l q : List Int} (hgd : o.guard = none) (s x : Operand)
    (ho : o.op = .call { callee := .builtin .append, args := #[s, x], argTypes := #[33, 33] }) (hs : a.eval s = v) (hx : a.eval x = .slice A n c)
    (h : OwnN w base v l) (hq : NumR w .u32 A n c q) (hb : base ≤ w.heap.size) (hl : l.length + q.length ≤ 9000000000) (W0 : World) (hB : Below base W0 w)
    (hk : ∀ v' w', OwnN w' base v' (l ++ q) → Below base W0 w' → w.grownBy w' v.ownBlock → wpList Try.prog ops Q rest (a.put o.dst v') w') : wpList Try.prog ops Q (o :: rest) a w := by
  obtain ⟨v', w', hr, ho2, hg⟩ := run_app_nums o.type h hq hb hl
  exact list_app hgd s x _ ho hs hx hr (hk v' w' ho2 (hB.grown hg hb (fun k e => (World.ownsRow.lt h k e).1)) hg)
/-- To rows of one's own one more is appended, which stands in a block. -/
theorem run_app_ses {w : World} {base g : Nat} {v : Value} {ms : List SesM} {x : SesZ} {u : Value} (ty : TypeId) (h : OwnS w base v ms) (hx : SBox w g 42 #[.int .i64 x.cl, .int .u64 x.seq, .int .i64 x.rep.err, u]) (hf : x.Fit) (hu : OwnN w base u x.rep.names) (hb : base ≤ w.heap.size) (hl : ms.length ≤ 1000) :
    ∃ v' w', (Builtin.append_ #[22, 22] ty #[v, .slice (some ⟨g, 0, none⟩) 1 1]).run Try.prog w = .ok v' w' ∧ OwnS w' base v' (ms ++ [(x, u)]) ∧ w.grownBy w' v.ownBlock := by
  obtain ⟨i, hi, hz0, hz1, hz2⟩ := sinfo_parts info_ses
  have hrd : Reads w (some ⟨g, 0, none⟩) (sesC (x, u)) := fun j y hj => ⟨g, 0, rfl, hx.lt, by
    rw [Nat.zero_add, hx.cell j]
    rw [show (#[.int .i64 x.cl, .int .u64 x.seq, .int .i64 x.rep.err, u] : Array Value) = (sesC (x, u)).toArray from rfl, List.getElem?_toArray]
    exact hj⟩
  obtain ⟨v', w', hr, ho, hg, _⟩ := run_append_reads (P := Try.prog) (ty := ty) Try.underlying22 hi hz0 hz1 hz2 rfl (by decide) h.row (A := some ⟨g, 0, none⟩) (m := 1) (c := 1) (news := sesC (x, u)) (fun e => by cases e) (Nat.le_refl _) rfl hrd (by
    have := sflat_one (w := w) (ms := [(x, u)]) (fun m hm => by rw [List.mem_singleton] at hm; subst hm; exact ⟨hf, hu.nr⟩)
    simpa using this) (by unfold maxLen; omega) (by omega) hb
  refine ⟨v', w', hr, ⟨?_, fun m hm => ?_⟩, hg⟩
  · rw [List.length_append, List.flatMap_append]
    simpa using ho
  · rcases List.mem_append.1 hm with hm | hm
    · exact ⟨(h.ok m hm).1, (h.ok m hm).2.kept h.row hg⟩
    · rw [List.mem_singleton] at hm
      subst hm
      exact ⟨hf, OwnN.kept hu h.row hg⟩
theorem list_ses {w : World} {ops : Array Oper} {rest : List Oper} {o : Oper} {a : Act} {Q : Exit → Act → World → Prop} {base g : Nat} {v : Value} {ms : List SesM} {x1 x2 x3 : Int} {u : Value} {q : List Int} (hgd : o.guard = none) (s y : Operand)
    (ho : o.op = .call { callee := .builtin .append, args := #[s, y], argTypes := #[22, 22] }) (hs : a.eval s = v) (hy : a.eval y = .slice (some ⟨g, 0, none⟩) 1 1)
    (h : OwnS w base v ms) (hx : SBox w g 42 #[.int .i64 x1, .int .u64 x2, .int .i64 x3, u]) (hf : SesZ.Fit ⟨x1, x2, x3, q⟩) (hu : OwnN w base u q) (hb : base ≤ w.heap.size) (hl : ms.length ≤ 1000) (W0 : World) (hB : Below base W0 w)
    (hk : ∀ v' w', OwnS w' base v' (ms ++ [(⟨x1, x2, x3, q⟩, u)]) → Below base W0 w' → w.grownBy w' v.ownBlock → wpList Try.prog ops Q rest (a.put o.dst v') w') : wpList Try.prog ops Q (o :: rest) a w := by
  obtain ⟨v', w', hr, ho2, hg⟩ := run_app_ses o.type h (x := ⟨x1, x2, x3, q⟩) hx hf hu hb hl
  exact list_app hgd s y _ ho hs hy hr (hk v' w' ho2 (hB.grown hg hb (fun k e => (World.ownsRow.lt h.row k e).1)) hg)
/-- Full, or of one's own: what is appended to it takes nothing away. -/
def Full (w : World) (base : Nat) (v : Value) (n : Nat) (cs : List Value) : Prop :=
  (∃ A, v = .slice A n n ∧ n ≤ maxLen ∧ (A = none → n = 0) ∧ cs.length = n * 4 ∧ Reads w A cs) ∨ w.ownsRow base 42 4 v n cs
theorem Full.reads {w : World} {base n : Nat} {v : Value} {cs : List Value} (h : Full w base v n cs) : ∃ A c, v = .slice A n c ∧ n ≤ c ∧ c ≤ maxLen ∧ (A = none → c = 0) ∧ cs.length = n * 4 ∧ Reads w A cs := by
  rcases h with ⟨A, e, h1, h2, h3, h4⟩ | h
  · exact ⟨A, n, e, Nat.le_refl _, h1, h2, h3, h4⟩
  · have h0 := h
    rcases h.2 with ⟨rfl, hn⟩ | ⟨g, cap, cur, rfl, hg, hh, hn, hm, hs, ht⟩
    · subst hn
      have : cs = [] := List.eq_nil_of_length_eq_zero (by have := h.1; simpa using this)
      subst this
      exact ⟨none, 0, rfl, Nat.le_refl _, by decide, fun _ => rfl, rfl, .nil _ _⟩
    · refine ⟨_, cap, rfl, hn, hm, fun h => by (cases h), h.1, fun j u hj => ⟨g, 0, rfl, (Array.getElem?_eq_some_iff.1 hh).1, ?_⟩⟩
      have hjl := (List.getElem?_eq_some_iff.1 hj).1
      rw [Nat.zero_add, World.ownsRow.cellAt h0 j (by rw [← h.1]; exact hjl)]
      exact hj
theorem run_app_rows {w : World} {base n m c : Nat} {v : Value} {cs news : List Value} {A : Option Addr} (ty : TypeId) (h : Full w base v n cs) (hA : A = none → c = 0) (hmc : m ≤ c) (hl : news.length = m * 4) (hr : Reads w A news) (h1 : ∀ u ∈ news, u.oneCell' = true) (hb : base ≤ w.heap.size) (hle : n + m ≤ 1000) :
    ∃ v' w', (Builtin.append_ #[22, 22] ty #[v, .slice A m c]).run Try.prog w = .ok v' w' ∧ Full w' base v' (n + m) (cs ++ news) ∧ Below base w w' := by
  obtain ⟨i, hi, hz0, hz1, hz2⟩ := sinfo_parts info_ses
  rcases h with ⟨A1, rfl, g1, g2, g3, g4⟩ | h
  · by_cases hm : m = 0
    · subst hm
      obtain rfl : news = [] := List.eq_nil_of_length_eq_zero (by simpa using hl)
      refine ⟨.slice A1 n n, w, ?_, .inl ⟨A1, rfl, g1, g2, by simpa using g3, by simpa using g4⟩, Below.refl _ _⟩
      cases A1 with
      | none =>
        have := g2 rfl
        subst this
        cases A <;> simp [Builtin.append_, run_underlying Try.underlying22, sizeOf, typeInfo, hi, Builtin.lenOf, Builtin.firstCells, loadCells, loadCellsFrom]
      | some ad =>
        cases A <;> simp [Builtin.append_, run_underlying Try.underlying22, sizeOf, typeInfo, hi, Builtin.lenOf, Builtin.firstCells, loadCells, loadCellsFrom, storeCells]
    · obtain ⟨b2, o2, rfl, hb2⟩ := hr.some_ (by rw [hl]; omega)
      have hge := grownCap_ge w (n + m) n 42
      have hcm := grownCap_le_maxLen w (n + m) n 42 (by unfold maxLen; omega)
      have own : ∀ xs : List Value, xs.length = n * 4 → (w.drew.alloc (.cells (xs.toArray ++ news.toArray ++ Builtin.zeroCells (Value.agg #[.int .i64 0, .int .u64 0, .int .i64 0, .slice none 0 0]).cells (grownCap w (n + m) n 42 - (n + m))) 42)).ownsRow base 42 4 (.slice (some ⟨w.heap.size, 0, none⟩) (n + m) (grownCap w (n + m) n 42)) (n + m) (xs ++ news) := by
        intro xs hxs
        refine ⟨by rw [List.length_append, hxs, hl]; omega, .inr ⟨w.heap.size, _, _, rfl, hb, heap_alloc_new w.drew _, hge, hcm, ?_, ?_⟩⟩
        · simp only [Array.size_append, List.size_toArray, size_zeroCells, hxs, hl]
          have : (Value.agg #[.int .i64 0, .int .u64 0, .int .i64 0, .slice none 0 0]).cells.size = 4 := rfl
          rw [this]; omega
        · simp only [Array.toList_append]
          rw [show (n + m) * 4 = (xs ++ news).length by rw [List.length_append, hxs, hl]; omega]
          exact List.take_left
      have hB : ∀ o, Below base w (w.drew.alloc o) := fun o => (Below.refl _ w).drew.alloc hb o
      cases A1 with
      | none =>
        have := g2 rfl
        subst this
        obtain rfl : cs = [] := List.eq_nil_of_length_eq_zero (by simpa using g3)
        have hr' := run_append_nil (P := Try.prog) w 22 ty 42 i _ Try.underlying22 hi hz0 ⟨b2, o2, none⟩ m c news (by rw [hz1]; exact hl) (hr.addr) (by omega) (by omega) (by rw [hz2]; omega)
        have hh := own [] rfl
        simp only [Nat.zero_add, List.nil_append, Array.empty_append] at hh ⊢
        exact ⟨_, _, hr', .inr hh, hB _⟩
      | some ad =>
        by_cases hn : n = 0
        · subst hn
          obtain rfl : cs = [] := List.eq_nil_of_length_eq_zero (by simpa using g3)
          have hr' := run_append_grow (P := Try.prog) w 22 ty 42 i _ Try.underlying22 hi hz0 ad 0 0 [] (by simp) (fun j u hj => by simp at hj) ⟨b2, o2, none⟩ m c news (by rw [hz1]; exact hl) (hr.addr) (by omega) (by omega) (growslice_fits (by omega) (by rw [hz2]; omega))
          exact ⟨_, _, hr', .inr (own [] rfl), hB _⟩
        · obtain ⟨b1, o1, e1, _⟩ := g4.some_ (by rw [g3]; omega)
          cases e1
          have hr' := run_append_grow (P := Try.prog) w 22 ty 42 i _ Try.underlying22 hi hz0 ⟨b1, o1, none⟩ n n cs (by rw [hz1]; exact g3) (g4.addr) ⟨b2, o2, none⟩ m c news (by rw [hz1]; exact hl) (hr.addr) (by omega) (by omega) (growslice_fits (by omega) (by rw [hz2]; omega))
          exact ⟨_, _, hr', .inr (own cs g3), hB _⟩
  · obtain ⟨v', w', hr', ho, hg, _⟩ := run_append_reads (P := Try.prog) (ty := ty) Try.underlying22 hi hz0 hz1 hz2 rfl (by decide) h hA hmc hl hr h1 (by unfold maxLen; omega) (by omega) hb
    exact ⟨v', w', hr', .inr ho, (Below.refl _ _).grown hg hb (fun k e => (World.ownsRow.lt h k e).1)⟩
theorem list_rows {w : World} {ops : Array Oper} {rest : List Oper} {o : Oper} {a : Act} {Q : Exit → Act → World → Prop} {base n m c : Nat} {v : Value} {cs news : List Value} {A : Option Addr} (hgd : o.guard = none) (s x : Operand)
    (ho : o.op = .call { callee := .builtin .append, args := #[s, x], argTypes := #[22, 22] }) (hs : a.eval s = v) (hx : a.eval x = .slice A m c)
    (h : Full w base v n cs) (hA : A = none → c = 0) (hmc : m ≤ c) (hl : news.length = m * 4) (hr : Reads w A news) (h1 : ∀ u ∈ news, u.oneCell' = true) (hb : base ≤ w.heap.size) (hle : n + m ≤ 1000) (W0 : World) (hB : Below base W0 w)
    (hk : ∀ v' w', Full w' base v' (n + m) (cs ++ news) → Below base W0 w' → wpList Try.prog ops Q rest (a.put o.dst v') w') : wpList Try.prog ops Q (o :: rest) a w := by
  obtain ⟨v', w', hr', ho2, hg⟩ := run_app_rows o.type h hA hmc hl hr h1 hb hle
  exact list_app hgd s x _ ho hs hx hr' (hk v' w' ho2 (hB.trans hg))
end Go.Proofs.Ytgnfoncokjglbaa
