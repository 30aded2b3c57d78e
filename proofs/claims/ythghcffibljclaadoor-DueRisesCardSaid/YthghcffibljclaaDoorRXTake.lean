/- What is offered is taken: walked. -/
import Derived.Test.YthghcffibljclaaDoorRXCourse
import Derived.Test.YthghcffibljclaaDoorRVTimesB
namespace Go.Proofs.YthghcffibljclaaDoor
open Go.RowKit

theorem run_app_kept {w : World} {base : Nat} {v y : Value} {l q : List Int} (g : Nat) (ty : TypeId) (h : OwnT w base v l) (hq : QR w y q) (hb : base ≤ w.heap.size) (hl : l.length + q.length ≤ 1000) :
    ∃ v' w', (Builtin.append_ #[31, 31] ty #[v, y]).run Tryd.prog w = .ok v' w' ∧ OwnT w' base v' (l ++ q) ∧ Kept g v v' w w' ∧ (g < w.heap.size → v.ownBlock ≠ some g → w'.heap[g]? = w.heap[g]? ∧ v'.ownBlock ≠ some g) ∧ Below base w w' := by
  obtain ⟨i, hi, hz0, hz1, hz2⟩ := info_parts info_i64
  obtain ⟨A, c, rfl, h1, h2, h3, h4⟩ := hq
  obtain ⟨v', w', hr, ho, hg, hv⟩ := run_append_reads (P := Tryd.prog) (ty := ty) Tryd.underlying31 hi hz0 hz1 hz2 rfl (by decide) h h3 h1 (by rw [List.length_map]; omega) h4 int1_one (by unfold maxLen; omega) (by omega) hb
  have hv2 : ∀ b, b < w.heap.size → v.ownBlock ≠ some b → v'.ownBlock ≠ some b := fun b hbl hn => by
    rcases hv with hv | hv
    · rw [hv]; exact hn
    · rw [hv]; intro e; injection e with e; omega
  refine ⟨v', w', hr, ?_, ⟨hg.size, fun b hbl _ hn => ⟨hg.block b hbl (fun e => hn e.symm), hv2 b hbl hn⟩⟩, fun hgl hn => ⟨hg.block g hgl (fun e => hn e.symm), hv2 g hgl hn⟩, (Below.refl _ _).grown hg hb (fun k e => (World.ownsRow.lt h k e).1)⟩
  unfold OwnT
  rw [List.length_append, List.map_append]
  exact ho
theorem list_take {w : World} {ops : Array Oper} {rest : List Oper} {o : Oper} {a : Act} {Q : Exit → Act → World → Prop} {base : Nat} {v y : Value} {l q : List Int} (g : Nat) (hgd : o.guard = none) (s x : Operand)
    (ho : o.op = .call { callee := .builtin .append, args := #[s, x], argTypes := #[31, 31] }) (hs : a.eval s = v) (hx : a.eval x = y)
    (h : OwnT w base v l) (hq : QR w y q) (hb : base ≤ w.heap.size) (hl : l.length + q.length ≤ 1000)
    (hk : ∀ v' w', OwnT w' base v' (l ++ q) → Kept g v v' w w' → (g < w.heap.size → v.ownBlock ≠ some g → w'.heap[g]? = w.heap[g]? ∧ v'.ownBlock ≠ some g) → Below base w w' → wpList Tryd.prog ops Q rest (a.put o.dst v') w') : wpList Tryd.prog ops Q (o :: rest) a w := by
  obtain ⟨v', w', hr, ho2, hg, hgg, hd⟩ := run_app_kept g o.type h hq hb hl
  exact list_app hgd s x _ ho hs hx hr (hk v' w' ho2 hg hgg hd)
/-- What a call that takes leaves behind. -/
def TakeIs (g base : Nat) (v : Value) (s : RowZ × List LaZ) (w : World) (e : Ending) (w' : World) : Prop := (∃ y, e = .returned y) ∧ ∃ v', CourseAt w' g s.1 v' s.2 ∧ OwnT w' base v' s.1.q ∧ v'.ownBlock ≠ some g ∧ Kept g v v' w w' ∧ Below base w w'
theorem take_yes {num at_ : Int} {r : RowZ} {o : List LaZ} (h : r.num = 0) : takeZ num (r, o) at_ = (runR r num at_ 0, o ++ [⟨num, r.j.n, at_, 0⟩]) := by
  unfold takeZ
  rw [if_pos h]
  rfl
theorem take_wait {num at_ : Int} {r : RowZ} {o : List LaZ} (h : r.num ≠ 0) (h2 : r.j.ov = 1 ∧ r.q.length < 3) : takeZ num (r, o) at_ = ({ r with q := r.q ++ [at_] }, o) := by
  unfold takeZ
  rw [if_neg h, if_pos h2]
theorem take_lost {num at_ : Int} {r : RowZ} {o : List LaZ} (h : r.num ≠ 0) (h2 : ¬ (r.j.ov = 1 ∧ r.q.length < 3)) : takeZ num (r, o) at_ = (r, o) := by
  unfold takeZ
  rw [if_neg h, if_neg h2]
theorem own_block {w w' : World} {base : Nat} {v : Value} {q : List Int} (ho : OwnT w base v q) (h : ∀ b, v.ownBlock = some b → b < w.heap.size → w'.heap[b]? = w.heap[b]?) : OwnT w' base v q := by
  refine ⟨ho.1, ?_⟩
  rcases ho.2 with h2 | ⟨b, cap, cur, rfl, hb, hh, r⟩
  · exact .inl h2
  · exact .inr ⟨b, cap, cur, rfl, hb, (h b rfl (Array.getElem?_eq_some_iff.1 hh).1).trans hh, r⟩
theorem Spares.own2 {g base : Nat} {v : Value} {w w' : World} {q : List Int} (h : Spares g w w') (ho : OwnT w base v q) (hg : v.ownBlock ≠ some g) : OwnT w' base v q := own_block ho fun b hb hl => h.block b hl (fun e => hg (by rw [hb, e]))
theorem CourseAt.same {W w3 : World} {g : Nat} {r : RowZ} {v : Value} {o : List LaZ} (h : CourseAt W g r v o) (hd : w3.heap[g]? = W.heap[g]?) : CourseAt w3 g r v o := ⟨h.1, hd.trans h.2⟩
set_option maxRecDepth 100000 in
set_option maxHeartbeats 4000000 in
theorem take_any (g base : Nat) (r : RowZ) (v : Value) (o : List LaZ) (at_ num : Int) (w : World) (hc : CourseAt w g r v o) (ho : OwnT w base v r.q) (hg : v.ownBlock ≠ some g) (hbg : base ≤ g) (h3 : r.q.length ≤ 5) (hi : r.num = 0 → r.due = 0 ∧ r.tr = 0 ∧ o = []) (hn : 0 < num) :
    Calls Tryd.prog 22 #[.pointer (some ⟨g, 0, none⟩), .int .i64 at_, .int .u64 num] w (TakeIs g base v (takeZ num (r, o) at_) w) := by
  have hbs : base ≤ w.heap.size := Nat.le_trans hbg (Nat.le_of_lt hc.lt)
  have HR := Lib.hid hc.run; have HBG := Lib.hid hbg
  have hcl := hc.cells
  have c8 := hcl.ov; have c16 := hcl.q
  have f16 := hc.frozen 16
  unfold goV at HR
  by_cases h0 : r.num = 0
  · obtain ⟨e1, e2, rfl⟩ := hi h0
    have HLA := Lib.hid (launch_any g r v num at_ 0 w hc (by omega))
    unfold goV at HLA
    rw [take_yes h0]
    rw [h0, e1, e2] at HR
    have HO := Lib.hid ho; have HG := Lib.hid hg
    have HF : Hid (∀ y w', CourseAt w' g (runR r num at_ 0) v [⟨num, r.j.n, at_, 0⟩] → Spares g w w' → Below g w w' → TakeIs g base v (runR r num at_ 0, [⟨num, r.j.n, at_, 0⟩]) w (.returned y) w') := Lib.hid (fun y w' h1 h2 h3 => ⟨⟨y, rfl⟩, v, h1, h2.own2 HO.out HG.out, HG.out, h2.kept v, h3.mono HBG.out⟩)
    rw [List.nil_append]
    generalize TakeIs g base v (runR r num at_ 0, [⟨num, r.j.n, at_, 0⟩]) w = TI at *
    clear hc hcl c8 c16 f16 ho hg hi h0 e1 e2 h3 hbs
    go_enter Tryd.func22, Tryd.ntmps22
    go_wp2_with (refine list_load rfl _ rfl rfl HR.out ?_)
    refine HLA.out.mono ?_
    rintro e w1 ⟨⟨y, rfl⟩, h1, h2, h3⟩
    have HT := Lib.hid (fun z => HF.out z w1 h1 h2 h3)
    clear h1 h2 h3 HF HLA HR
    go_wp2_with fail
    exact bodyPost_end (v := .tuple #[]) (by simp [results, Tryd.results22, go_sem]) rfl (HT.out _)
  · have q0 : (r.num == 0) = false := by simpa using h0
    by_cases hw : r.j.ov = 1 ∧ r.q.length < 3
    · rw [take_wait h0 hw]
      obtain ⟨hw1, hw2⟩ := hw
      rw [hw1] at c8
      obtain ⟨A, k, rfl⟩ := own_slice0 ho
      have g3 : (r.q.length : Int) < 3 := by omega
      have g4 : decide ((r.q.length : Int) < 3) = true := decide_eq_true g3
      have HC := Lib.hid hc; have HG := Lib.hid hg; have HBS := Lib.hid hbs; have HN3 := Lib.hid hw2; have HO := Lib.hid ho; have HLT := Lib.hid hc.lt
      have HF : Hid (∀ y v' w', OwnT w' base v' (r.q ++ [at_]) → v'.ownBlock ≠ some g → Kept g (.slice A r.q.length k) v' w w' → Below base w w' → CourseAt w' g { r with q := r.q ++ [at_] } v' o → TakeIs g base (.slice A r.q.length k) ({ r with q := r.q ++ [at_] }, o) w (.returned y) w') := Lib.hid (fun y v' w' h1 h0 h2 h3 h4 => ⟨⟨y, rfl⟩, v', h4, h1, h0, h2, h3⟩)
      have HB0 := Lib.hid (new_below w (.cells #[.int .i64 at_] 2))
      have HQ1 := Lib.hid (qr_one w at_)
      have HO1 := Lib.hid (OwnT.below ho (new_below w (.cells #[.int .i64 at_] 2)))
      have HC1 := Lib.hid (hc.on (new_below w (.cells #[.int .i64 at_] 2)))
      generalize TakeIs g base (.slice A r.q.length k) ({ r with q := r.q ++ [at_] }, o) w = TI at *
      clear hc hcl ho hg hi h0 hw1 hw2 h3 hbs
      go_enter Tryd.func22, Tryd.ntmps22
      go_wp2_with (first | refine list_load rfl _ rfl rfl HR.out ?_ | (at_builtin; refine list_take (q := [at_]) g rfl _ _ rfl rfl rfl HO1.out HQ1.out (Nat.le_trans HBS.out HB0.out.size) (by simp; have := HN3.out; omega) ?_; intro v3 w3 ho3 hk3 hgg3 hd3; replace ho3 : OwnT w3 base v3 (r.q ++ [at_]) := ho3; replace hk3 : Kept g (.slice A r.q.length k) v3 _ _ := hk3; have hgg3 := hgg3 HC1.out.lt HG.out; obtain ⟨A3, k3, rfl⟩ := own_slice0 ho3; have HO3 := Lib.hid ho3; have HK3 := Lib.hid hk3; have HD3 := Lib.hid hd3; have HGG := Lib.hid hgg3; clear c8 c16 f16 ho3 hk3 hd3 hgg3; have hc3 := HC1.out.same HGG.out.1; have f16 := hc3.frozen 16; have c16 := hc3.cells.q))
      have HS3 : Hid (Spares g w3 (w3.setCell ⟨g, 16, none⟩ (.slice A3 (r.q ++ [at_]).length k3))) := Lib.hid (Spares.cell g 16 w3 _)
      have h1 := HS3.out.own2 HO3.out HGG.out.2; have h0 := HGG.out.2
      have h2 := ((Kept.below (g := g) (.slice A r.q.length k) HB0.out).trans HK3.out).trans (HS3.out.kept _)
      have h4 := hc3.setQ (.slice A3 (r.q ++ [at_]).length k3) (r.q ++ [at_])
      have hlen : (r.q ++ [at_]).length = r.q.length + 1 := by simp
      rw [hlen] at h1 h2 h4 h0
      exact bodyPost_end (v := .tuple #[]) (by simp [results, Tryd.results22, go_sem]) rfl (HF.out _ _ _ h1 h0 h2 (((HB0.out.mono (Nat.le_trans HBG.out (Nat.le_of_lt HLT.out))).trans HD3.out).setCell (p := ⟨g, 16, none⟩) HBG.out _) h4)
    · rw [take_lost h0 hw]
      have g4 : decide ((r.q.length : Int) < 3) = false ∨ (r.j.ov == 1) = false := by
        by_cases h1 : r.j.ov = 1
        · left; simp; omega
        · right; simpa using h1
      obtain ⟨A, k, rfl⟩ := own_slice0 ho
      have HT : Hid (∀ y, TakeIs g base (.slice A r.q.length k) (r, o) w (.returned y) w) := Lib.hid (fun y => ⟨⟨y, rfl⟩, _, hc, ho, hg, Kept.refl _ _ _, Below.refl _ _⟩)
      generalize TakeIs g base (.slice A r.q.length k) (r, o) w = TI at *
      generalize r.j.ov = ov at *
      clear hc hcl ho hg hi h0 hw h3 hbs
      rcases g4 with g4 | g4
      · go_enter Tryd.func22, Tryd.ntmps22
        go_wp2_with (first | refine list_load rfl _ rfl rfl HR.out ?_)
        all_goals exact bodyPost_end (v := .tuple #[]) (by simp [results, Tryd.results22, go_sem]) rfl (HT.out _)
      · go_enter Tryd.func22, Tryd.ntmps22
        go_wp2_with (first | refine list_load rfl _ rfl rfl HR.out ?_)
        exact bodyPost_end (v := .tuple #[]) (by simp [results, Tryd.results22, go_sem]) rfl (HT.out _)
end Go.Proofs.YthghcffibljclaaDoor
