/- What ran is answered: the queue's first one: walked. -/
import Derived.Test.YthghcffibljclaaDoorRXAnswer
namespace Go.Proofs.YthghcffibljclaaDoor
open Go.RowKit

set_option maxRecDepth 100000 in
set_option maxHeartbeats 4000000 in
theorem answer_head (g B : Nat) (r : RowZ) (v : Value) (ok : Bool) (fresh : Int) (w : World) (hc : CourseAt w g r v []) (ho : OwnT w B v r.q) (hg : v.ownBlock ≠ some g) (hbg : B ≤ g) (hf : 0 ≤ fresh) (_ht0 : 0 ≤ r.tr) (_ht1 : r.tr ≤ 100) (hql : r.q.length ≤ 5) (hag : ¬ (ok = false ∧ r.tr < r.j.re)) (t : Int) (q : List Int) (hq : r.q = t :: q) :
    Calls Tryd.prog 24 #[.pointer (some ⟨g, 0, none⟩), .bool ok, .int .u64 fresh] w (AnswerIs g B r ok fresh w) := by
  have hcl := hc.cells
  have c10 := hcl.re; have c14 := hcl.due; have c15 := hcl.tr; have c16 := hcl.q; have c1 := hcl.ob; have c12 := hcl.nx
  have HBG := Lib.hid hbg; have HO := Lib.hid ho; have HG := Lib.hid hg; have HLT := Lib.hid hc.lt
  obtain ⟨A, k, rfl⟩ := own_slice0 ho
  have hlen : r.q.length = q.length + 1 := by rw [hq, List.length_cons]
  have hcell : ∀ W, Below w.heap.size w W → ∃ b, A = some ⟨b, 0, none⟩ ∧ W.cell? ⟨b, 0, none⟩ = some (.int .i64 t) := fun W hb => by
    rcases ho.2 with ⟨e, _⟩ | ⟨b, cap, cur, e, _⟩
    · injection e with _ e2 _
      omega
    · injection e with e1 _ _
      obtain ⟨A', c', e', _, _, _, h4⟩ := OwnT.qr (base := B) (l := r.q) (own_below ho hb)
      injection e' with e'
      obtain ⟨b', o', e'', _, hc0⟩ := h4 0 (int1 t) (by rw [hq]; rfl)
      rw [e', e''] at e1
      cases e1
      exact ⟨b, by rw [e', e''], hc0⟩
  have HCELL := Lib.hid hcell; have HLEN := Lib.hid hlen
  have HLA := Lib.hid (fun W (hb : Below w.heap.size w W) => launch_any g r (.slice A r.q.length k) fresh t 0 W (hc.on hb) hf)
  unfold goV at HLA
  have HF : Hid (∀ W w' v', Below w.heap.size w W → CourseAt w' g { runR r fresh t 0 with q := q } v' [⟨fresh, r.j.n, t, 0⟩] → SliT w' B v' q → v'.ownBlock ≠ some g → Below B W w' → AnswerIs g B r ok fresh w (.returned (.bool false)) w') := Lib.hid (fun W w' v' hb h1 h2 h3 h4 => by
    unfold AnswerIs
    rw [end_head hag hq]
    exact ⟨rfl, v', h1, h2, h3, (hb.mono (Nat.le_trans hbg (Nat.le_of_lt hc.lt))).trans h4⟩)
  have hag2 : ok = true ∨ (ok = false ∧ decide (r.tr < r.j.re) = false) := by
    cases ok with
    | true => exact .inl rfl
    | false => exact .inr ⟨rfl, decide_eq_false (fun h => hag ⟨rfl, h⟩)⟩
  have g1 : decide ((0 : Int) < ((q.length + 1 : Nat) : Int)) = true := decide_eq_true (by omega)
  have g2 : (0 : Int) < ((q.length + 1 : Nat) : Int) := by omega
  generalize AnswerIs g B r ok fresh w = AI at *
  rw [hlen] at c16 HLA
  obtain ⟨b, rfl, cq⟩ := hcell w (Below.refl _ w)
  have hcap : q.length + 1 ≤ k := by
    obtain ⟨A', c', e', h1, _⟩ := OwnT.qr (base := B) (l := r.q) ho
    injection e' with _ _ e3
    omega
  have g3 : (1 : Int) ≤ ((q.length + 1 : Nat) : Int) := by omega
  have g4 : ((q.length + 1 : Nat) : Int) ≤ (k : Int) := by omega
  have g5 : (1 : Int) ≤ (k : Int) := by omega
  clear hc hcl ho hg hbg hf _ht0 _ht1 hql hag c1 c12 c14 hcell
  rcases hag2 with rfl | ⟨rfl, q1⟩
  all_goals
    go_enter Tryd.func24, Tryd.ntmps24
    go_wp2_with fail
    go_quiet (fail)
    go_wp2_with fail
    refine (HLA.out _ (bdrewN (Below.refl _ w) nq)).mono ?_
    rintro e w9 ⟨⟨y, rfl⟩, h1, h2, h3⟩
    have c16 := h1.cells.q; have f16 := h1.frozen 16
    have HC9 := Lib.hid h1; have HO9 := Lib.hid (((Spares.below (bdrewN (Below.refl _ w) nq)).trans h2).own2 HO.out HG.out); have HB9 := Lib.hid (h3.mono HBG.out)
    have hbg9 : b ≠ g := fun e => HG.out (by rw [← e]; rfl)
    clear h1 h2 h3 HLA HCELL cq
    go_wp2_with fail
    case inl =>
      have hk : k = 1 := by assumption
      subst hk
      have ho := HO9.out
      rw [hq] at ho
      obtain ⟨rfl, hsl⟩ := SliT.rest1 ho
      have hsl2 : SliT (w9.setCell ⟨g, 16, none⟩ (.slice (some ⟨b, 0, none⟩) 0 0)) B (.slice (some ⟨b, 0, none⟩) 0 0) [] := hsl.same fun b' e _ => by
        simp [Value.ownBlock] at e
        exact Below.heap_setCell w9 ⟨g, 16, none⟩ _ b' (by rw [← e]; exact hbg9)
      exact HF.out _ _ _ (bdrewN (Below.refl _ w) nq) (HC9.out.setQ _ []) hsl2 (fun e => hbg9 (by simp [Value.ownBlock] at e; exact e)) (HB9.out.setCell (p := ⟨g, 16, none⟩) HBG.out _)
    case inr =>
      have ho := HO9.out
      rw [hq] at ho
      have hsl := SliT.rest ho
      have hsl2 : SliT (w9.setCell ⟨g, 16, none⟩ (.slice (some ⟨b, 1, none⟩) q.length (k - 1))) B (.slice (some ⟨b, 1, none⟩) q.length (k - 1)) q := hsl.same fun b' e _ => by
        simp [Value.ownBlock] at e
        exact Below.heap_setCell w9 ⟨g, 16, none⟩ _ b' (by rw [← e]; exact hbg9)
      exact HF.out _ _ _ (bdrewN (Below.refl _ w) nq) (HC9.out.setQ _ q) hsl2 (fun e => hbg9 (by simp [Value.ownBlock] at e; exact e)) (HB9.out.setCell (p := ⟨g, 16, none⟩) HBG.out _)
theorem answer_any (g B : Nat) (r : RowZ) (v : Value) (ok : Bool) (fresh : Int) (w : World) (hc : CourseAt w g r v []) (ho : OwnT w B v r.q) (hg : v.ownBlock ≠ some g) (hbg : B ≤ g) (hf : 0 ≤ fresh) (ht0 : 0 ≤ r.tr) (ht1 : r.tr ≤ 100) (hql : r.q.length ≤ 5) :
    Calls Tryd.prog 24 #[.pointer (some ⟨g, 0, none⟩), .bool ok, .int .u64 fresh] w (AnswerIs g B r ok fresh w) := by
  by_cases hag : ok = false ∧ r.tr < r.j.re
  · exact answer_again g B r v ok fresh w hc ho hg hbg hf ht0 ht1 hql hag
  · cases hq : r.q with
    | nil => exact answer_idle g B r v ok fresh w hc ho hg hbg hf ht0 ht1 hql hag hq
    | cons t q => exact answer_head g B r v ok fresh w hc ho hg hbg hf ht0 ht1 hql hag t q hq
end Go.Proofs.YthghcffibljclaaDoor
