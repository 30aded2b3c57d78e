/- Step: walked. -/
import Derived.Test.YthghcffibljclaaDoorRXOccur
import Derived.Test.YthghcffibljclaaDoorRXBegin
import Derived.Test.YthghcffibljclaaDoorRXHead
import Derived.Test.YthghcffibljclaaDoorRXTold
namespace Go.Proofs.YthghcffibljclaaDoor
open Go.RowKit

/-- A slice that reads launches. -/
def LasR (w : World) (y : Value) (o : List LaZ) : Prop := ∃ A c, y = .slice A o.length c ∧ o.length ≤ c ∧ c ≤ 1 ∧ (A = none → c = 0) ∧ Reads w A (o.flatMap laC)
theorem LasR.nil (w : World) : LasR w (.slice none 0 0) [] := ⟨none, 0, rfl, Nat.le_refl _, by omega, fun _ => rfl, .nil _ _⟩
theorem LasR.on {w w' : World} {y : Value} {o : List LaZ} (h : LasR w y o) (hb : Below w.heap.size w w') : LasR w' y o := by
  obtain ⟨A, c, e, h1, h2, h3, h4⟩ := h
  exact ⟨A, c, e, h1, h2, h3, h4.on hb⟩
theorem CourseAt.told {w : World} {g : Nat} {r : RowZ} {v : Value} {o : List LaZ} (h : CourseAt w g r v o) (ho : o.length ≤ 1) : LasR w (.slice (some ⟨g, 17, none⟩) o.length o.length) o := by
  refine ⟨_, _, rfl, Nat.le_refl _, ho, fun h => (by cases h), ?_⟩
  obtain ⟨hf, hx⟩ := h
  obtain ⟨n, ob, a, b, c, d, e, t, ov, ca, re, pa, nx, num, due, tr, q, x0, x1, x2, x3, rfl, ht, hc⟩ := course_letters hf v o
  rw [hc] at hx
  intro j u hj
  refine ⟨g, 17, rfl, D.Box.lt hx, ?_⟩
  match o, ho with
  | [], _ => simp at hj
  | [la], _ =>
    simp only [List.flatMap_cons, List.flatMap_nil, List.append_nil] at hj
    have ht : laC la = [x0, x1, x2, x3] := ht
    rw [ht] at hj
    have hl := (List.getElem?_eq_some_iff.1 hj).1
    match j, hj with
    | 0, hj => simp at hj; subst hj; exact D.Box.cell hx 17
    | 1, hj => simp at hj; subst hj; exact D.Box.cell hx 18
    | 2, hj => simp at hj; subst hj; exact D.Box.cell hx 19
    | 3, hj => simp at hj; subst hj; exact D.Box.cell hx 20
def zeroR : RowZ := ⟨zeroJ, false, 0, 0, 0, 0, []⟩
def zeroRV : Value := rowV zeroR (.slice none 0 0)
/-- A row with a queue of one's own, and launches. -/
def RowTold (B : Nat) (r : RowZ) (o : List LaZ) (z y : Value) (w : World) : Prop := (∃ v, z = rowV r v ∧ SliT w B v r.q) ∧ LasR w y o ∧ ∀ b, y.ownBlock = some b → B ≤ b
/-- What Step comes to. -/
def StepOk (ev : List (BitVec 64) → Bool) (r : RowZ) (now num : Int) : Prop := r.Right ev ∧ D.timeB now = true ∧ num ≠ 0
def StepIs (ev : List (BitVec 64) → Bool) (r : RowZ) (now num : Int) (B : Nat) (e : Ending) (w : World) : Prop :=
  (¬ StepOk ev r now num ∧ e = .returned (.tuple #[zeroRV, .slice none 0 0, .int .i64 230])) ∨
  (StepOk ev r now num ∧ ∃ l nx z y, Occ r now l nx ∧ e = .returned (.tuple #[z, y, .int .i64 0]) ∧ RowTold B (stepZ num r l nx).1 (stepZ num r l nx).2 z y w)
theorem Reads.kept {g : Nat} {v v' : Value} {w w' : World} {A : Option Addr} {cs : List Value} (h : Reads w A cs) (hk : Kept g v v' w w') (hA : ∀ b o, A = some ⟨b, o, none⟩ → b ≠ g ∧ v.ownBlock ≠ some b) : Reads w' A cs := fun j u hj => by
  obtain ⟨b, o, e, hl, hc⟩ := h j u hj
  obtain ⟨h1, h2⟩ := hA b o e
  exact ⟨b, o, e, Nat.lt_of_lt_of_le hl hk.size, (World.cell?_of_block (hk.block b hl h1 h2).1).trans hc⟩
/-- The course behind so many that were taken. -/
structure Course (g base : Nat) (s : RowZ × List LaZ) (v : Value) (w : World) : Prop where
  at_ : CourseAt w g s.1 v s.2
  own : OwnT w base v s.1.q
theorem takeZ_inv {num t : Int} {s : RowZ × List LaZ} (h1 : s.1.num = 0 → s.1.due = 0 ∧ s.1.tr = 0 ∧ s.2 = []) (h2 : s.2.length ≤ 1) (h3 : s.1.q.length ≤ 5) (hn : num ≠ 0) : ((takeZ num s t).1.num = 0 → (takeZ num s t).1.due = 0 ∧ (takeZ num s t).1.tr = 0 ∧ (takeZ num s t).2 = []) ∧ (takeZ num s t).2.length ≤ 1 ∧ (takeZ num s t).1.q.length ≤ 5 := by
  obtain ⟨r, o⟩ := s
  simp only at h1 h2 h3
  by_cases h : r.num = 0
  · obtain ⟨_, _, rfl⟩ := h1 h
    rw [take_yes h]
    exact ⟨fun e => absurd e hn, by simp, h3⟩
  · by_cases hw : r.j.ov = 1 ∧ r.q.length < 3
    · rw [take_wait h hw]
      exact ⟨fun e => absurd e h, h2, by simp only [List.length_append, List.length_singleton]; omega⟩
    · rw [take_lost h hw]
      exact ⟨h1, h2, h3⟩
theorem takesZ_inv {num : Int} {r : RowZ} (h1 : r.num = 0 → r.due = 0 ∧ r.tr = 0) (h3 : r.q.length ≤ 5) (hn : num ≠ 0) : ∀ l : List Int, ((takesZ num r l).1.num = 0 → (takesZ num r l).1.due = 0 ∧ (takesZ num r l).1.tr = 0 ∧ (takesZ num r l).2 = []) ∧ (takesZ num r l).2.length ≤ 1 ∧ (takesZ num r l).1.q.length ≤ 5 := by
  have key : ∀ (l : List Int) (s : RowZ × List LaZ), (s.1.num = 0 → s.1.due = 0 ∧ s.1.tr = 0 ∧ s.2 = []) → s.2.length ≤ 1 → s.1.q.length ≤ 5 → ((l.foldl (takeZ num) s).1.num = 0 → (l.foldl (takeZ num) s).1.due = 0 ∧ (l.foldl (takeZ num) s).1.tr = 0 ∧ (l.foldl (takeZ num) s).2 = []) ∧ (l.foldl (takeZ num) s).2.length ≤ 1 ∧ (l.foldl (takeZ num) s).1.q.length ≤ 5 := by
    intro l
    induction l with
    | nil => intro s a b c; exact ⟨a, b, c⟩
    | cons t l ih =>
      intro s a b c
      obtain ⟨a', b', c'⟩ := takeZ_inv (t := t) a b c hn
      exact ih _ a' b' c'
  intro l
  exact key l (r, []) (fun e => ⟨(h1 e).1, (h1 e).2, rfl⟩) (by simp) h3
theorem qr_one' {w : World} {v : Value} {q : List Int} (h : QR w v q) : v.oneCell' = true := by
  obtain ⟨A, c, rfl, _⟩ := h
  rfl
theorem course_var (w : World) (r : RowZ) (v : Value) (hf : r.Fit) (hv : v.oneCell' = true) : ∃ W, StoreIs (w.alloc (.cells #[.int .u32 0, .bool false, .int .u64 0, .int .u64 0, .int .u64 0, .int .u64 0, .int .u64 0, .int .i64 0, .int .i64 0, .int .i64 0, .int .i64 0, .bool false, .int .i64 0, .int .u64 0, .int .i64 0, .int .i64 0, .slice none 0 0, .int .u64 0, .int .u32 0, .int .i64 0, .int .i64 0, .int .i64 0] 68)) 68 w.heap.size 0 (.agg (courseC r v []).toArray) W ∧ CourseAt W w.heap.size r v [] ∧ Below w.heap.size w W := by
  have hb := D.Box.new w 68 #[.int .u32 0, .bool false, .int .u64 0, .int .u64 0, .int .u64 0, .int .u64 0, .int .u64 0, .int .i64 0, .int .i64 0, .int .i64 0, .int .i64 0, .bool false, .int .i64 0, .int .u64 0, .int .i64 0, .int .i64 0, .slice none 0 0, .int .u64 0, .int .u32 0, .int .i64 0, .int .i64 0, .int .i64 0]
  have hlen := courseC_len hf v []
  refine ⟨_, store_all hb (by rw [hlen]; rfl) (by rw [size_course, hlen]) (courseC_one hf hv), ⟨hf, hb.setRow _⟩, below_setRow (new_below w _) (Nat.le_refl _) _⟩
theorem occ_len {r : RowZ} {now nx : Int} {l : List Int} (h : Occ r now l nx) : l.length ≤ 4 := by
  rcases h with ⟨_, rfl, _⟩ | ⟨_, _, _, h | ⟨_, t, _, h | h⟩⟩
  · simp
  · exact chain_len _ _ _ _ h.2
  · rw [h.2]; simp
  · rw [h.2]; simp
theorem occAll_ok {ev : List (BitVec 64) → Bool} {r : RowZ} {now nx : Int} {l : List Int} (h1 : r.Right ev) (h2 : D.timeB now = true) (h : OccAll ev r now l nx) : Occ r now l nx := by
  rcases h with ⟨_, _, h⟩ | ⟨h, _⟩
  · exact h
  · exact absurd ⟨h1, h2⟩ h
theorem occAll_len {ev : List (BitVec 64) → Bool} {r : RowZ} {now nx : Int} {l : List Int} (h1 : r.Right ev) (h2 : D.timeB now = true) (h : OccAll ev r now l nx) : l.length ≤ 1000 := by
  have := occ_len (occAll_ok h1 h2 h)
  omega
/-- What stands at each round: so many were taken. -/
structure TakenAt (num : Int) (r : RowZ) (l : List Int) (g b0 : Nat) (A : Option Addr) (k : Nat) (v : Value) (w : World) : Prop where
  at_ : CourseAt w g (takesZ num r (l.take k)).1 v (takesZ num r (l.take k)).2
  own : OwnT w b0 v (takesZ num r (l.take k)).1.q
  off : v.ownBlock ≠ some g
  rd : Reads w A (l.map int1)
  sep : ∀ b o, A = some ⟨b, o, none⟩ → b < w.heap.size ∧ b ≠ g ∧ v.ownBlock ≠ some b
theorem TakenAt.next {num : Int} {r : RowZ} {l : List Int} {g b0 : Nat} {A : Option Addr} {k : Nat} {v : Value} {w : World} (h : TakenAt num r l g b0 A k v w) {t : Int} (ht : l[k]? = some t) {e : Ending} {w' : World} (hx : TakeIs g b0 v (takeZ num ((takesZ num r (l.take k)).1, (takesZ num r (l.take k)).2) t) w e w') : (∃ y, e = .returned y) ∧ (∃ v', TakenAt num r l g b0 A (k + 1) v' w') ∧ Below b0 w w' := by
  obtain ⟨he, v', h1, h2, h3, h4, h5⟩ := hx
  have e1 : takeZ num ((takesZ num r (l.take k)).1, (takesZ num r (l.take k)).2) t = takesZ num r (l.take (k + 1)) := (takes_snoc ht).symm
  rw [e1] at h1 h2
  refine ⟨he, ⟨v', h1, h2, h3, h.rd.kept h4 (fun b o e => (h.sep b o e).2), fun b o e => ?_⟩, h5⟩
  obtain ⟨s1, s2, s3⟩ := h.sep b o e
  exact ⟨Nat.lt_of_lt_of_le s1 h4.size, s2, (h4.block b s1 s2 s3).2⟩
theorem row_put {W : World} {p : Nat} {cs : Array Value} {r : RowZ} {v : Value} (hz : D.Box W p 33 cs) (hn : cs.size = 17) (hf : r.Fit) (hv : v.oneCell' = true) :
    ∃ W', StoreIs W 33 p 0 (rowV r v) W' ∧ (loadVar 33 ⟨p, 0, none⟩).run Tryd.prog W' = .ok (rowV r v) W' ∧ W' = W.setRow p (rowC r v).toArray := by
  have hlen := rowC_len hf v
  exact ⟨_, store_all hz (by rw [hlen, hn]) (by rw [size_row, hlen]) (rowC_one hf hv), loadVar_of (hz.setRow _) 17 und_row size_row hlen, rfl⟩
theorem wp_store_is {w w' : World} {o : Oper} {a : Act} {K : Act → World → Prop} {Q : Exit → Act → World → Prop} {t : TypeId} {g k : Nat} {v : Value} (x y : Operand) (ho : o.op = .store t x y) (hx : a.eval x = .pointer (some ⟨g, k, none⟩)) (hy : a.eval y = v) (hl : StoreIs w t g k v w') (h : K (a.put o.dst undef) w') : Oper.wp Tryd.prog o a w K Q := by
  unfold Oper.wp execOp
  simp only [ho, hx, hy, Sem.run_bind, Sem.run_pure]
  rw [hl]
  exact h
theorem course_range {W : World} {g : Nat} {r : RowZ} {v : Value} {o : List LaZ} (h : CourseAt W g r v o) : W.rangeAt g 0 (rowC r v) := range_of h.2 0 _ fun j u hj => by
  have hlt := (List.getElem?_eq_some_iff.1 hj).1
  rw [Nat.zero_add]
  unfold courseC
  rw [List.append_assoc, List.getElem?_append_left hlt]
  exact hj
/-- The row is stored as a result: what else stands, stands. -/
theorem row_result {B p g : Nat} {r : RowZ} {v : Value} {o : List LaZ} {w0 W W1 : World} (hz : D.Box W p 33 zeroC.toArray) (hc : CourseAt W g r v o) (ho : SliT W B v r.q) (hlen : o.length ≤ 1) (hpB : p < B) (hpg : p ≠ g) (hBp : w0.heap.size ≤ p) (hb0 : Below w0.heap.size w0 W) (hb : Below W.heap.size W W1) :
    ∃ W', StoreIs W1 33 p 0 (.agg (rowC r v).toArray) W' ∧ (loadVar 33 ⟨p, 0, none⟩).run Tryd.prog W' = .ok (.agg (rowC r v).toArray) W' ∧ Below w0.heap.size w0 W' ∧ SliT W' B v r.q ∧ LasR W' (.slice (some ⟨g, 17, none⟩) o.length o.length) o ∧ W'.rangeAt g 0 (rowC r v) := by
  have hz1 := D.Box.belowAll hz hb
  obtain ⟨W', h1, h2, h3⟩ := row_put hz1 rfl hc.1 (qr_one' ho.qr)
  have hc1 : CourseAt W' g r v o := (hc.on hb).same (by rw [h3]; exact setRow_other _ _ _ _ (fun e => hpg e.symm))
  refine ⟨W', h1, h2, ?_, (ho.on hb).same (fun b e _ => by rw [h3]; exact setRow_other _ _ _ _ (fun e2 => by have := (ho.lt b e).1; omega)), hc1.told hlen, course_range hc1⟩
  rw [h3]
  exact below_setRow (hb0.trans (hb.mono hb0.size)) hBp _
theorem zero_rowC : rowC zeroR (.slice none 0 0) = zeroC := rfl
theorem zeroR_fit : zeroR.Fit := ⟨zeroJ_fit, Int.le_refl _⟩
theorem results_cell3 {f : Func} {tmps : Array Value} {W : World} {g k m n : Nat} {t : TypeId} {v u x : Value} (hr : f.results = #[.cell k t, .tmp m, .tmp n]) (he : tmps[k]?.getD undef = .pointer (some ⟨g, 0, none⟩)) (hm : tmps[m]?.getD undef = u) (hn : tmps[n]?.getD undef = x) (hl : (loadVar t ⟨g, 0, none⟩).run Tryd.prog W = .ok v W) : (results f tmps).run Tryd.prog W = .ok (.tuple #[v, u, x]) W := by
  unfold results
  rw [hr]
  simp [he, hm, hn, asAddr, hl]
set_option maxRecDepth 100000 in
set_option maxHeartbeats 4000000 in
theorem dstep_any (ev : List (BitVec 64) → Bool) (hev : EvIs ev) (r : RowZ) (v : Value) (now num : Int) (w : World) (hL : LaidC w) (hf : r.Fit) (hq : QR w v r.q) (hl : r.q.length ≤ 5) (hn : 0 ≤ num) :
    Calls Tryd.prog 9 #[rowV r v, .int .i64 now, .int .u64 num] w fun e w' => StepIs ev r now num w.heap.size e w' ∧ Below w.heap.size w w' := by
  have HRV : Hid (rowV r v = .agg (rowC r v).toArray) := Lib.hid rfl
  have hx0 := (D.Box.new w 33 (rowC r v).toArray).alloc (.cells zeroC.toArray 33)
  have hz0 : D.Box ((w.alloc (.cells (rowC r v).toArray 33)).alloc (.cells zeroC.toArray 33)) (w.heap.size + 1) 33 zeroC.toArray := by
    have := D.Box.new (w.alloc (.cells (rowC r v).toArray 33)) 33 zeroC.toArray
    rwa [World.size_alloc] at this
  have hb0 : Below w.heap.size w ((w.alloc (.cells (rowC r v).toArray 33)).alloc (.cells zeroC.toArray 33)) := ((Below.refl _ w).alloc (Nat.le_refl _) _).alloc (by simp) _
  have hs0 : ((w.alloc (.cells (rowC r v).toArray 33)).alloc (.cells zeroC.toArray 33)).heap.size = w.heap.size + 2 := by simp
  obtain ⟨W0, hW0⟩ : ∃ W : World, W = (w.alloc (.cells (rowC r v).toArray 33)).alloc (.cells zeroC.toArray 33) := ⟨_, rfl⟩
  rw [← hW0] at hx0 hz0 hb0 hs0
  have HLR := Lib.hid (row_load hf hx0); have HX0 := Lib.hid hx0; have HZ0 := Lib.hid hz0; have HB0 := Lib.hid hb0; have HS0 := Lib.hid hs0; have HF := Lib.hid hf; have HN := Lib.hid hn; have HQL : Hid (r.q.length ≤ 100) := Lib.hid (by omega); have HQ5 := Lib.hid hl
  have HCK := Lib.hid (checkrow_any ev hev r v W0 (hL.on hb0) hf (hq.on hb0))
  have HMY := Lib.hid (fun W => D.may_any now W)
  have HQ0 := Lib.hid (hq.on hb0)
  have HOC := Lib.hid (fun W (hb : Below W0.heap.size W0 W) => occur_any ev hev r v now W ((hL.on hb0).on hb) hf (HQ0.out.on hb))
  have HBAD : Hid (¬ StepOk ev r now num → ∀ w', StepIs ev r now num w.heap.size (.returned (.tuple #[zeroRV, .slice none 0 0, .int .i64 230])) w') := Lib.hid (fun h w' => .inl ⟨h, rfl⟩)
  have HOK : Hid (StepOk ev r now num → ∀ l nx z y w', Occ r now l nx → RowTold w.heap.size (stepZ num r l nx).1 (stepZ num r l nx).2 z y w' → StepIs ev r now num w.heap.size (.returned (.tuple #[z, y, .int .i64 0])) w') := Lib.hid (fun h l nx z y w' h1 h2 => .inr ⟨h, l, nx, z, y, h1, rfl, h2⟩)
  have HEXIT : Hid (∀ W, Below W0.heap.size W0 W → ∃ W', StoreIs W 33 (w.heap.size + 1) 0 zeroRV W' ∧ (loadVar 33 ⟨w.heap.size + 1, 0, none⟩).run Tryd.prog W' = .ok zeroRV W' ∧ Below w.heap.size w W') := Lib.hid (fun W hb => by
    obtain ⟨W', h1, h2, h3⟩ := row_put (D.Box.belowAll HZ0.out hb) rfl zeroR_fit (v := .slice none 0 0) rfl
    exact ⟨W', h1, h2, by rw [h3]; exact below_setRow (HB0.out.trans (hb.mono HB0.out.size)) (Nat.le_succ _) _⟩)
  have HZRV : Hid (zeroRV = .agg zeroC.toArray) := Lib.hid rfl
  have hSO : StepOk ev r now num ↔ (r.Right ev ∧ D.timeB now = true ∧ num ≠ 0) := Iff.rfl
  have HSO := Lib.hid hSO
  rw [HRV.out]
  rw [HRV.out] at HLR HCK HOC
  generalize StepIs ev r now num w.heap.size = SI at *
  clear hx0 hz0 hb0 hs0 hf hq hL hev hn hSO hl
  go_enter Tryd.func9, Tryd.ntmps9
  go_upto_region 1 with fail
  rw [← hW0]
  clear hW0
  go_wp2_with (refine list_load rfl _ rfl rfl HLR.out ?_)
  refine HCK.out.mono ?_
  rintro e w1 ⟨hck, hb⟩
  have HB1 := Lib.hid hb
  clear hb HCK
  rcases hck with ⟨hp, rfl⟩ | ⟨hp, rfl⟩
  case inr =>
    have HR := Lib.hid (HBAD.out (fun h => hp (HSO.out.1 h).1))
    obtain ⟨W', hs, hl, hb'⟩ := HEXIT.out _ HB1.out
    have HS := Lib.hid hs; have HL := Lib.hid hl; have HB' := Lib.hid hb'
    rw [HZRV.out] at HS HL HR
    clear hp HBAD HOK HLR hs hl hb'
    go_wp2_with (refine list_store rfl _ _ rfl rfl rfl HS.out ?_)
    exact bodyPost_ret (v := .tuple #[.agg zeroC.toArray, .slice none 0 0, .int .i64 230]) (results_cell3 Tryd.results9 (by rfl) (by rfl) (by rfl) HL.out) rfl ⟨HR.out _, HB'.out⟩
  have HP := Lib.hid hp
  clear hp
  go_wp2_with fail
  refine (HMY.out _).mono ?_
  rintro e w2 ⟨rfl, rfl⟩
  clear HMY
  cases htb : D.timeB now with
  | false =>
    have HR := Lib.hid (HBAD.out (fun h => by have := (HSO.out.1 h).2.1; rw [htb] at this; cases this))
    obtain ⟨W', hs, hl, hb'⟩ := HEXIT.out _ HB1.out
    have HS := Lib.hid hs; have HL := Lib.hid hl; have HB' := Lib.hid hb'
    rw [HZRV.out] at HS HL HR
    clear htb HBAD HOK HLR hs hl hb'
    go_wp2_with (refine list_store rfl _ _ rfl rfl rfl HS.out ?_)
    exact bodyPost_ret (v := .tuple #[.agg zeroC.toArray, .slice none 0 0, .int .i64 230]) (results_cell3 Tryd.results9 (by rfl) (by rfl) (by rfl) HL.out) rfl ⟨HR.out _, HB'.out⟩
  | true =>
  by_cases h0 : num = 0
  · have HR := Lib.hid (HBAD.out (fun h => (HSO.out.1 h).2.2 h0))
    obtain ⟨W', hs, hl, hb'⟩ := HEXIT.out _ HB1.out
    have HS := Lib.hid hs; have HL := Lib.hid hl; have HB' := Lib.hid hb'
    rw [HZRV.out] at HS HL HR
    clear htb HBAD HOK HLR hs hl hb'
    have q0 : (num == 0) = true := by simpa using h0
    clear h0
    go_wp2_with (refine list_store rfl _ _ rfl rfl rfl HS.out ?_)
    exact bodyPost_ret (v := .tuple #[.agg zeroC.toArray, .slice none 0 0, .int .i64 230]) (results_cell3 Tryd.results9 (by rfl) (by rfl) (by rfl) HL.out) rfl ⟨HR.out _, HB'.out⟩
  · have q0 : (num == 0) = false := by simpa using h0
    have HR := Lib.hid (HOK.out (HSO.out.2 ⟨HP.out, htb, h0⟩))
    have HNZ := Lib.hid h0; have htb' := htb; have HTB := Lib.hid htb
    clear htb h0 HBAD HOK HEXIT HSO
    have HLR1 := Lib.hid (row_load HF.out (D.Box.belowAll HX0.out HB1.out))
    rw [HRV.out] at HLR1
    have HBE := Lib.hid (begin_any r v w1 HF.out (HQ0.out.on HB1.out) HQL.out)
    rw [HRV.out] at HBE
    clear HLR
    go_wp2_with (refine list_load rfl _ rfl rfl HLR1.out ?_)
    refine HBE.out.mono ?_
    rintro e w3 ⟨⟨vq, rfl, hoq⟩, hb⟩
    have HB3 := Lib.hid (HB1.out.trans (hb.mono HB1.out.size)); have HOQ := Lib.hid hoq
    have hbs := hb.size; have hbw := hb
    clear hoq hb HBE HLR1
    unfold courseV
    obtain ⟨W4, hs4, hc4, hb4⟩ := course_var w3 r vq HF.out (qr_one' HOQ.out.qr)
    have HS4 := Lib.hid hs4; have HC4 := Lib.hid hc4; have HB4 := Lib.hid (HB3.out.trans (hb4.mono HB3.out.size))
    have HO4 : Hid (OwnT W4 w1.heap.size vq r.q) := Lib.hid (own_below HOQ.out hb4)
    have HVG : Hid (vq.ownBlock ≠ some w3.heap.size) := Lib.hid (fun e => by have := (World.ownsRow.lt HOQ.out _ e).2; omega)
    have HLT3 : Hid (w1.heap.size ≤ w3.heap.size) := Lib.hid hbs
    have HLR4 := Lib.hid (row_load HF.out (D.Box.belowAll HX0.out HB4.out))
    rw [HRV.out] at HLR4
    have HOC4 := Lib.hid (HOC.out _ HB4.out)
    have hb15 : Below w1.heap.size w1 W4 := hbw.trans (hb4.mono hbs)
    have HIDL : Hid (r.num = 0 → r.due = 0 ∧ r.tr = 0) := Lib.hid (fun e => ⟨(HP.out.idle e).1, (HP.out.idle e).2.1⟩)
    clear hs4 hc4 hb4 HOC HOQ HB3 hbs hbw
    go_wp2_with (first | refine list_store rfl _ _ rfl rfl rfl HS4.out ?_ | refine list_load rfl _ rfl rfl HLR4.out ?_)
    generalize w3.heap.size = g at *
    refine HOC4.out.mono ?_
    rintro e w5 ⟨⟨y, l, nx, rfl, hoy, hocc⟩, hb⟩
    obtain ⟨Ay, cy, rfl⟩ := own_slice0 hoy
    have HT0 : Hid (TakenAt num r l g w1.heap.size Ay 0 vq w5) := Lib.hid (by
      refine ⟨HC4.out.on hb, own_below HO4.out hb, HVG.out, ?_, fun b o e => ?_⟩
      · obtain ⟨A', c', e', _, _, _, h4⟩ := hoy.qr
        cases e'
        exact h4
      · have h1 := World.ownsRow.lt hoy b (by rw [e]; rfl)
        refine ⟨h1.2, fun e => ?_, fun e => ?_⟩
        · have := HC4.out.lt; omega
        · have := (World.ownsRow.lt HO4.out b e).2; omega)
    have HB5 := Lib.hid (HB4.out.trans (hb.mono HB4.out.size)); have HOCC := Lib.hid hocc
    have HB15 : Hid (Below w1.heap.size w1 w5) := Lib.hid (hb15.trans (hb.mono hb15.size))
    have HINV := Lib.hid (takesZ_inv (num := num) (r := r) HIDL.out HQ5.out HNZ.out)
    have HLEN : Hid (l.length ≤ 1000) := Lib.hid (occAll_len HP.out htb' hocc)
    clear hoy hocc hb hb15 HOC4 HLR4 HC4 HO4 HS4 HVG
    have hll : l.length ≤ 1000 := HLEN.out
    have HLL := Lib.hid hll
    clear hll
    go_wp2_with fail
    obtain ⟨nn, hnn⟩ : ∃ nn, l.length = nn := ⟨_, rfl⟩
    rw [hnn]
    have HNN := Lib.hid hnn
    have hn1000 : nn ≤ 1000 := by rw [← hnn]; exact HLL.out
    clear hnn
    go_loopw [37] (fun i wr => ∃ (k : Nat) (vk : Value), k ≤ nn ∧ i = .int .i64 (k : Int) ∧ Hid (TakenAt num r l g w1.heap.size Ay k vk wr) ∧ Below w1.heap.size w1 wr) (fun i _ => nn - (intOf i).toNat)
    case atStart => exact ⟨0, vq, Nat.zero_le _, rfl, HT0, HB15.out⟩
    case round =>
      obtain ⟨k, vk, hk, rfl, HT, hb⟩ := hrel
      have HB := Lib.hid hb
      clear hb
      by_cases hlt : k < nn
      · obtain ⟨t, ht⟩ : ∃ t, l[k]? = some t := ⟨_, List.getElem?_eq_getElem (by have := HNN.out; omega)⟩
        obtain ⟨b, o, rfl, hbl, ck⟩ := qr_at HT.out.rd ht
        have HTK := Lib.hid (take_any g w1.heap.size (takesZ num r (l.take k)).1 vk (takesZ num r (l.take k)).2 t num wr HT.out.at_ HT.out.own HT.out.off HLT3.out (HINV.out (l.take k)).2.2 (HINV.out (l.take k)).1 (by have := HN.out; have := HNZ.out; omega))
        have HNEXT := Lib.hid (fun e w' h => HT.out.next ht (e := e) (w' := w') h)
        have g1 : (0 : Int) ≤ (k : Int) := by omega
        have g2 : (k : Int) < (nn : Int) := by omega
        clear hbl ht
        go_wp2_with fail
        refine HTK.out.mono ?_
        intro e w7 hx
        obtain ⟨⟨y, rfl⟩, ⟨v', hv'⟩, hb⟩ := HNEXT.out e w7 hx
        have HV := Lib.hid hv'; have HB7 := Lib.hid (HB.out.trans hb)
        clear hx hv' hb HTK HNEXT ck
        go_wp2_with fail
        go_roundw
        case rel => exact ⟨k + 1, v', by omega, by go_num, HV, HB7.out⟩
        case measure => simp [intOf]; omega
      · have hkn : k = nn := by omega
        subst hkn
        have hfull : l.take k = l := List.take_of_length_le (by have := HNN.out; omega)
        have hat := HT.out.at_; have hown := HT.out.own
        rw [hfull] at hat hown
        have hi2 := (HINV.out l).2.1
        have c12 := hat.cells.nx; have f12 := hat.frozen 12
        have hat2 := hat.setNx nx
        have hbs2 := Below.setCell (p := ⟨g, 12, none⟩) (Below.refl w1.heap.size wr) HLT3.out (.int .i64 nx)
        have hown2 := (Spares.cell g 12 wr (.int .i64 nx)).own2 hown HT.out.off
        have HR2 : Hid (∀ w', SliT w' w1.heap.size vk (takesZ num r l).1.q → LasR w' (.slice (some ⟨g, 17, none⟩) (takesZ num r l).2.length (takesZ num r l).2.length) (takesZ num r l).2 → SI (.returned (.tuple #[.agg (rowC (nextR (takesZ num r l).1 nx) vk).toArray, .slice (some ⟨g, 17, none⟩) (takesZ num r l).2.length (takesZ num r l).2.length, .int .i64 0])) w') := Lib.hid (fun w' h1 h2 => HR.out l nx _ _ w' (occAll_ok HP.out HTB.out HOCC.out) ⟨⟨vk, rfl, h1.low (Nat.le_trans HB0.out.size HB1.out.size)⟩, h2, fun b e => by simp [Value.ownBlock] at e; rw [← e]; exact Nat.le_trans (Nat.le_trans HB0.out.size HB1.out.size) HLT3.out⟩)
        have HBW : Hid (Below w.heap.size w (wr.setCell ⟨g, 12, none⟩ (.int .i64 nx))) := Lib.hid (HB0.out.trans ((HB1.out.trans ((HB.out.trans hbs2).mono HB1.out.size)).mono HB0.out.size))
        have hz2 : D.Box (wr.setCell ⟨g, 12, none⟩ (.int .i64 nx)) (w.heap.size + 1) 33 zeroC.toArray := (D.Box.belowAll HZ0.out (HB1.out.trans ((HB.out.trans hbs2).mono HB1.out.size)))
        have HAT := Lib.hid hat2; have HI2 := Lib.hid hi2
        have hpb : w.heap.size + 1 < w1.heap.size := by have := HS0.out; have := HB1.out.size; omega
        have hpg : w.heap.size + 1 ≠ g := by have := HLT3.out; omega
        have HPUT := Lib.hid (fun W1 hb => row_result (w0 := w) (W1 := W1) hz2 hat2 (OwnT.sli hown2) hi2 hpb hpg (Nat.le_succ _) HBW.out hb)
        have HLCH := Lib.hid (fun W1 (hb : Below (wr.setCell ⟨g, 12, none⟩ (.int .i64 nx)).heap.size (wr.setCell ⟨g, 12, none⟩ (.int .i64 nx)) W1) => launches_any g _ _ _ W1 (hat2.on hb) hi2)
        obtain ⟨dr, hdr1, hdr2⟩ := und_row
        have hdr3 : (Tryd.prog.info? 33).map (·.size) = some (rowC (nextR (takesZ num r l).1 nx) vk).length := by rw [size_row, rowC_len hat2.1]
        have HK := Lib.hid (fun W1 (hb : Below (wr.setCell ⟨g, 12, none⟩ (.int .i64 nx)).heap.size (wr.setCell ⟨g, 12, none⟩ (.int .i64 nx)) W1) => course_range (hat2.on hb))
        generalize hCR : rowC (nextR (takesZ num r l).1 nx) vk = CR at *
        generalize hNO : (takesZ num r l).2.length = NO at *
        clear hat hown hi2 hfull hat2 hbs2 hown2 hz2 hpb hpg
        go_wp2_with fail
        generalize wr.setCell ⟨g, 12, none⟩ (.int .i64 nx) = w7 at *
        have hBE := Below.refl w7.heap.size w7
        refine wp_region_held_drew (S := (fun w' => w'.rangeAt g 0 CR)) (by kernel_rfl) (HK.out _ hBE.drew) (fun hHeld => ?_)
        replace hBE := hBE.drew
        refine wpAnyH_take (i := 0) (oi := { dst := some 48, op := Op.fieldAddr 68 (Operand.tmp 9) 0, type := 0, pos := "due.go:44", after := #[], guard := none }) (v := ?zv0) rfl (by kernel_rfl) (by kernel_rfl) (by kernel_rfl) (fun _ _ _ h => h) (Or.inl ⟨by rfl, ?zh0⟩) (by assumption) ?zr0
        case zh0 => (intro w hSw; (try dsimp only at hSw); go_simp; (try with_reducible rfl))
        try simp only [Act.put, List.setIfInBounds_toArray, List.set_cons_zero, List.set_cons_succ]
        refine wpAnyH_take (i := 1) (oi := { dst := some 49, op := Op.load 33 (Operand.tmp 48), type := 33, pos := "due.go:44", after := #[{ on := 0, ground := Ground.data }], guard := none }) (v := .agg CR.toArray) rfl (by kernel_rfl) (by kernel_rfl) (by kernel_rfl) (fun _ _ _ h => h) (yieldsIf_load_mid (by rfl) _ _ rfl _ _ rfl CR dr (fun _ hw => hw) hdr1 hdr2 hdr3) (by assumption) ?_
        try simp only [Act.put, List.setIfInBounds_toArray, List.set_cons_zero, List.set_cons_succ]
        refine wpAnyH_ready (rs := [2]) (by kernel_rfl) (by simp) (AllReadyH.cons (o := { dst := some 50, op := Op.call { callee := Callee.value (Operand.func 23), args := #[Operand.tmp 9], argTypes := #[68] }, type := 39, pos := "due.go:44", after := #[], guard := none }) rfl (fun K hK => ?_) (AllReadyH.nil))
        go_simp
        refine (HLCH.out _ hBE).mono ?_
        rintro e w8 ⟨rfl, hb⟩
        replace hBE := hBE.trans (hb.mono hBE.size)
        clear hb
        refine hK.out _ _ (HK.out _ hBE) (fun hHeld2 => ?_)
        clear hK K hHeld
        have hHeld := hHeld2
        clear hHeld2
        try simp only [Act.put, List.setIfInBounds_toArray, List.set_cons_zero, List.set_cons_succ]
        refine wpAnyH_ready (rs := [3]) (by kernel_rfl) (by simp) (AllReadyH.cons (o := { dst := none, op := Op.store 33 (Operand.tmp 6) (Operand.tmp 49), type := 0, pos := "due.go:44", after := #[{ on := 1, ground := Ground.data }, { on := 2, ground := Ground.chain }, { on := 0, ground := Ground.phase }, { on := 1, ground := Ground.phase }, { on := 2, ground := Ground.textOnly Departure.lateStoresUnsure }], guard := none }) rfl (fun K hK => ?_) (AllReadyH.nil))
        obtain ⟨W9, hs9, hl9, hb9, ho9, hla9, hS9⟩ := HPUT.out _ hBE
        refine wp_store_is _ _ rfl rfl rfl hs9 ?_
        refine hK.out _ _ hS9 (fun hHeld2 => ?_)
        clear hK K hHeld
        have hHeld := hHeld2
        clear hHeld2 hS9
        try simp only [Act.put]
        refine wpAnyH_take (i := 4) (oi := { dst := some 7, op := Op.assign (Operand.tmp 50), type := 39, pos := "due.go:44", after := #[{ on := 2, ground := Ground.data }, { on := 3, ground := Ground.chain }, { on := 0, ground := Ground.phase }, { on := 1, ground := Ground.phase }, { on := 2, ground := Ground.phase }, { on := 3, ground := Ground.phase }], guard := none }) (v := ?zv1) rfl (by kernel_rfl) (by kernel_rfl) (by kernel_rfl) (fun _ _ _ h => h) (Or.inl ⟨by rfl, ?zh1⟩) (by assumption) ?zr1
        case zh1 => (intro w hSw; (try dsimp only at hSw); go_simp; (try with_reducible rfl))
        try simp only [Act.put, List.setIfInBounds_toArray, List.set_cons_zero, List.set_cons_succ]
        refine wpAnyH_take (i := 5) (oi := { dst := some 8, op := Op.assign (Operand.const (Value.int IntKind.i64 0)), type := 37, pos := "due.go:44", after := #[{ on := 4, ground := Ground.chain }, { on := 0, ground := Ground.phase }, { on := 1, ground := Ground.phase }, { on := 2, ground := Ground.phase }, { on := 3, ground := Ground.phase }, { on := 4, ground := Ground.phase }], guard := none }) (v := ?zv2) rfl (by kernel_rfl) (by kernel_rfl) (by kernel_rfl) (fun _ _ _ h => h) (Or.inl ⟨by rfl, ?zh2⟩) (by assumption) ?zr2
        case zh2 => (intro w hSw; (try dsimp only at hSw); go_simp; (try with_reducible rfl))
        try simp only [Act.put, List.setIfInBounds_toArray, List.set_cons_zero, List.set_cons_succ]
        refine wpAnyH_done (by kernel_rfl) ?_ _
        clear hHeld
        go_wp2_with fail
        exact bodyPost_ret (v := .tuple #[.agg CR.toArray, .slice (some ⟨g, 17, none⟩) NO NO, .int .i64 0]) (results_cell3 Tryd.results9 (by rfl) (by rfl) (by rfl) hl9) rfl ⟨HR2.out _ ho9 hla9, hb9⟩
end Go.Proofs.YthghcffibljclaaDoor
