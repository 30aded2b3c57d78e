/- What ran is answered: walked. -/
import Derived.Test.YthghcffibljclaaDoorRXTake
namespace Go.Proofs.YthghcffibljclaaDoor
open Go.RowKit

/-- A slice of times in a block of one's own, at or above B. -/
def SliT (w : World) (B : Nat) (v : Value) (q : List Int) : Prop := (v = .slice none 0 0 ∧ q = []) ∨ ∃ b o c cur, v = .slice (some ⟨b, o, none⟩) q.length c ∧ B ≤ b ∧ w.heap[b]? = some (.cells cur 2 (0, 0)) ∧ q.length ≤ c ∧ c ≤ maxLen ∧ o + q.length ≤ cur.size ∧ ∀ j x, q[j]? = some x → cur[o + j]? = some (.int .i64 x)
theorem OwnT.sli {w : World} {B : Nat} {v : Value} {q : List Int} (h : OwnT w B v q) : SliT w B v q := by
  rcases h.2 with ⟨rfl, hn⟩ | ⟨b, cap, cur, rfl, hb, hh, hn, hm, hs, ht⟩
  · exact .inl ⟨rfl, List.length_eq_zero_iff.1 hn⟩
  · refine .inr ⟨b, 0, cap, cur, rfl, hb, hh, hn, hm, by omega, fun j x hj => ?_⟩
    have hjl := (List.getElem?_eq_some_iff.1 hj).1
    have h1 : (cur.toList.take (q.length * 1))[j]? = some (.int .i64 x) := by rw [ht, List.getElem?_map, hj]; rfl
    rw [List.getElem?_take_of_lt (by omega)] at h1
    rw [Nat.zero_add, ← Array.getElem?_toList]
    exact h1
theorem SliT.qr {w : World} {B : Nat} {v : Value} {q : List Int} (h : SliT w B v q) : QR w v q := by
  rcases h with ⟨rfl, rfl⟩ | ⟨b, o, c, cur, rfl, hb, hh, hn, hm, hs, ht⟩
  · exact .nil w
  · refine ⟨_, c, rfl, hn, hm, fun e => (by cases e), fun j u hj => ⟨b, o, rfl, (Array.getElem?_eq_some_iff.1 hh).1, ?_⟩⟩
    rw [List.getElem?_map] at hj
    cases hq : q[j]? with
    | none => rw [hq] at hj; cases hj
    | some x =>
      rw [hq] at hj
      cases hj
      have := ht j x hq
      simp [World.cell?, hh, this, int1]
theorem SliT.same {w w' : World} {B : Nat} {v : Value} {q : List Int} (h : SliT w B v q) (hd : ∀ b, v.ownBlock = some b → b < w.heap.size → w'.heap[b]? = w.heap[b]?) : SliT w' B v q := by
  rcases h with h | ⟨b, o, c, cur, rfl, hb, hh, r⟩
  · exact .inl h
  · exact .inr ⟨b, o, c, cur, rfl, hb, (hd b rfl (Array.getElem?_eq_some_iff.1 hh).1).trans hh, r⟩
theorem SliT.on {w w' : World} {B : Nat} {v : Value} {q : List Int} (h : SliT w B v q) (hb : Below w.heap.size w w') : SliT w' B v q := h.same fun b _ hl => hb.block b hl
theorem SliT.low {w : World} {B B' : Nat} {v : Value} {q : List Int} (h : SliT w B' v q) (hb : B ≤ B') : SliT w B v q := by
  rcases h with h | ⟨b, o, c, cur, e, h1, r⟩
  · exact .inl h
  · exact .inr ⟨b, o, c, cur, e, Nat.le_trans hb h1, r⟩
theorem SliT.lt {w : World} {B : Nat} {v : Value} {q : List Int} (h : SliT w B v q) : ∀ b, v.ownBlock = some b → B ≤ b ∧ b < w.heap.size := by
  rcases h with ⟨rfl, _⟩ | ⟨b, o, c, cur, rfl, h1, hh, r⟩
  · intro b e; cases e
  · intro b' e
    simp [Value.ownBlock] at e
    subst e
    exact ⟨h1, (Array.getElem?_eq_some_iff.1 hh).1⟩
/-- All but the first one. -/
theorem SliT.rest {w : World} {B : Nat} {b n c : Nat} {x : Int} {q : List Int} (h : OwnT w B (.slice (some ⟨b, 0, none⟩) n c) (x :: q)) : SliT w B (.slice (some ⟨b, 1, none⟩) q.length (c - 1)) q := by
  rcases h.2 with ⟨e, _⟩ | ⟨b', cap, cur, e, hb, hh, hn, hm, hs, ht⟩
  · cases e
  · cases e
    have hn : (x :: q).length ≤ c := hn
    rw [List.length_cons] at hn
    refine .inr ⟨b, 1, c - 1, cur, rfl, hb, hh, by omega, by omega, by omega, fun j y hj => ?_⟩
    have hjl := (List.getElem?_eq_some_iff.1 hj).1
    have h1 : (cur.toList.take ((x :: q).length * 1))[j + 1]? = some (.int .i64 y) := by rw [ht, List.getElem?_map, List.getElem?_cons_succ, hj]; rfl
    rw [List.getElem?_take_of_lt (by rw [List.length_cons]; omega)] at h1
    rw [Nat.add_comm 1 j, ← Array.getElem?_toList]
    exact h1
theorem SliT.rest1 {w : World} {B : Nat} {b n : Nat} {x : Int} {q : List Int} (h : OwnT w B (.slice (some ⟨b, 0, none⟩) n 1) (x :: q)) : q = [] ∧ SliT w B (.slice (some ⟨b, 0, none⟩) 0 0) [] := by
  rcases h.2 with ⟨e, _⟩ | ⟨b', cap, cur, e, hb, hh, hn, hm, hs, ht⟩
  · cases e
  · cases e
    have hn : (x :: q).length ≤ 1 := hn
    rw [List.length_cons] at hn
    refine ⟨List.length_eq_zero_iff.1 (by omega), .inr ⟨b, 0, 0, cur, rfl, hb, hh, Nat.le_refl _, by omega, by simp, fun j y hj => ?_⟩⟩
    simp at hj
/-- What an answer comes to. -/
def AnswerIs (g B : Nat) (r : RowZ) (ok : Bool) (fresh : Int) (w : World) (e : Ending) (w' : World) : Prop := e = .returned (.bool (endZ ok fresh r).2.2) ∧ ∃ v', CourseAt w' g (endZ ok fresh r).1 v' (endZ ok fresh r).2.1 ∧ SliT w' B v' (endZ ok fresh r).1.q ∧ v'.ownBlock ≠ some g ∧ Below B w w'
theorem end_again {ok : Bool} {fresh : Int} {r : RowZ} (h : ok = false ∧ r.tr < r.j.re) : endZ ok fresh r = (runR r fresh r.due (r.tr + 1), [⟨fresh, r.j.n, r.due, r.tr + 1⟩], false) := by
  unfold endZ; rw [if_pos h]; rfl
theorem end_head {ok : Bool} {fresh t : Int} {q : List Int} {r : RowZ} (h : ¬ (ok = false ∧ r.tr < r.j.re)) (hq : r.q = t :: q) : endZ ok fresh r = ({ runR r fresh t 0 with q := q }, [⟨fresh, r.j.n, t, 0⟩], false) := by
  unfold endZ; rw [if_neg h, hq]; rfl
theorem end_idle {ok : Bool} {fresh : Int} {r : RowZ} (h : ¬ (ok = false ∧ r.tr < r.j.re)) (hq : r.q = []) : endZ ok fresh r = (runR r 0 0 0, [], r.j.o && decide (r.nx = -1)) := by
  unfold endZ; rw [if_neg h, hq]; rfl
set_option maxRecDepth 100000 in
set_option maxHeartbeats 4000000 in
theorem answer_again (g B : Nat) (r : RowZ) (v : Value) (ok : Bool) (fresh : Int) (w : World) (hc : CourseAt w g r v []) (ho : OwnT w B v r.q) (hg : v.ownBlock ≠ some g) (hbg : B ≤ g) (hf : 0 ≤ fresh) (ht0 : 0 ≤ r.tr) (ht1 : r.tr ≤ 100) (_hql : r.q.length ≤ 5) (hag : ok = false ∧ r.tr < r.j.re) :
    Calls Tryd.prog 24 #[.pointer (some ⟨g, 0, none⟩), .bool ok, .int .u64 fresh] w (AnswerIs g B r ok fresh w) := by
  have hcl := hc.cells
  have c10 := hcl.re; have c14 := hcl.due; have c15 := hcl.tr; have c16 := hcl.q; have c1 := hcl.ob; have c12 := hcl.nx
  have HBG := Lib.hid hbg; have HO := Lib.hid ho; have HG := Lib.hid hg; have HLT := Lib.hid hc.lt
  obtain ⟨rfl, htr⟩ := hag
  have HLA := Lib.hid (fun W (hb : Below w.heap.size w W) => launch_any g r v fresh r.due (r.tr + 1) W (hc.on hb) hf)
  unfold goV at HLA
  have HF : Hid (∀ W w', Below w.heap.size w W → CourseAt w' g (runR r fresh r.due (r.tr + 1)) v [⟨fresh, r.j.n, r.due, r.tr + 1⟩] → Spares g W w' → Below g W w' → AnswerIs g B r false fresh w (.returned (.bool false)) w') := Lib.hid (fun W w' hb h1 h2 h3 => by
    unfold AnswerIs
    rw [end_again ⟨rfl, htr⟩]
    exact ⟨rfl, v, h1, (((Spares.below hb).trans h2).own2 HO.out HG.out).sli, HG.out, (hb.mono (Nat.le_trans HBG.out (Nat.le_of_lt HLT.out))).trans (h3.mono HBG.out)⟩)
  have q1 : decide (r.tr < r.j.re) = true := decide_eq_true htr
  have q2 : IntKind.i64.wrap (r.tr + 1) = r.tr + 1 := by rw [IntKind.wrap_i64]; omega
  generalize AnswerIs g B r false fresh w = AI at *
  clear hc hcl ho hg hbg hf ht0 ht1 _hql htr c1 c12 c16
  go_enter Tryd.func24, Tryd.ntmps24
  go_wp2_with fail
  go_quiet (fail)
  go_wp2_with fail
  go_region_with (first | (go_at_call 39; (refine (HLA.out _ (bdrewN (Below.refl _ w) _)).mono ?_); rintro e w9 ⟨⟨y, rfl⟩, h1, h2, h3⟩; have HT := Lib.hid (HF.out _ _ (bdrewN (Below.refl _ w) _) h1 h2 h3); clear h1 h2 h3))
  all_goals
    clear HLA HF
    go_wp2_with fail
    exact HT.out

set_option maxRecDepth 100000 in
set_option maxHeartbeats 4000000 in
theorem answer_idle (g B : Nat) (r : RowZ) (v : Value) (ok : Bool) (fresh : Int) (w : World) (hc : CourseAt w g r v []) (ho : OwnT w B v r.q) (hg : v.ownBlock ≠ some g) (hbg : B ≤ g) (_hf : 0 ≤ fresh) (_ht0 : 0 ≤ r.tr) (_ht1 : r.tr ≤ 100) (_hql : r.q.length ≤ 5) (hag : ¬ (ok = false ∧ r.tr < r.j.re)) (hq : r.q = []) :
    Calls Tryd.prog 24 #[.pointer (some ⟨g, 0, none⟩), .bool ok, .int .u64 fresh] w (AnswerIs g B r ok fresh w) := by
  have hcl := hc.cells
  have c10 := hcl.re; have c14 := hcl.due; have c15 := hcl.tr; have c16 := hcl.q; have c1 := hcl.ob; have c12 := hcl.nx
  have HBG := Lib.hid hbg; have HO := Lib.hid ho; have HG := Lib.hid hg; have HLT := Lib.hid hc.lt
  have HST : Hid (∀ W, Below w.heap.size w W → ∃ W3, StoreIs W 30 g 13 (.agg #[.int .u64 0, .int .i64 0, .int .i64 0]) W3 ∧ W3.cell? ⟨g, 1, none⟩ = some (.bool r.j.o) ∧ W3.cell? ⟨g, 12, none⟩ = some (.int .i64 r.nx) ∧ ∀ b w', b = (r.j.o && decide (r.nx = -1)) → Below W3.heap.size W3 w' → AnswerIs g B r ok fresh w (.returned (.bool b)) w') := Lib.hid (fun W hb => by
    obtain ⟨W3, hs3, hc3, cs3, hw3⟩ := (hc.on hb).setRun 0 0 0 (Int.le_refl _)
    refine ⟨W3, hs3, hc3.cells.ob, hc3.cells.nx, fun b w' e hb3 => ?_⟩
    unfold AnswerIs
    rw [end_idle hag hq]
    have h2 := (((Spares.below hb).trans (Spares.row g cs3 hw3)).own2 HO.out HG.out)
    refine ⟨by rw [e], v, hc3.on hb3, OwnT.sli (own_below h2 hb3), HG.out, ?_⟩
    have h3 : Below B w W3 := by rw [hw3]; exact below_setRow (hb.mono (Nat.le_trans hbg (Nat.le_of_lt hc.lt))) hbg _
    exact h3.trans (hb3.mono (Nat.le_trans hbg (Nat.le_of_lt hc3.lt))))
  generalize AnswerIs g B r ok fresh w = AI at *
  rw [hq] at ho
  obtain ⟨A, k, rfl⟩ := own_slice0 ho
  rw [List.length_nil] at c16
  have hag2 : ok = true ∨ (ok = false ∧ decide (r.tr < r.j.re) = false) := by
    cases ok with
    | true => exact .inl rfl
    | false => exact .inr ⟨rfl, decide_eq_false (fun h => hag ⟨rfl, h⟩)⟩
  clear hc hcl ho hg hbg _hf _ht0 _ht1 _hql hag c1 c12 c14 HO HG
  rcases hag2 with rfl | ⟨rfl, q1⟩
  all_goals
    go_enter Tryd.func24, Tryd.ntmps24
    go_wp2_with fail
    go_quiet (fail)
    obtain ⟨W3, hs3, d1, d12, hfin⟩ := HST.out _ (bdrewN (Below.refl _ w) nq)
    have HS3 := Lib.hid hs3; have HFIN := Lib.hid hfin
    clear hs3 hfin HST
    go_wp2_with (refine list_store rfl _ _ rfl rfl rfl HS3.out ?_)
    all_goals exact HFIN.out _ _ (by rw [Bool.eq_iff_iff]; simp [*]) (Below.refl _ _)

end Go.Proofs.YthghcffibljclaaDoor
