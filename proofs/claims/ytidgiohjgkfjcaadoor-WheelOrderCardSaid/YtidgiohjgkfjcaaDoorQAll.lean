/- All: walked. -/
import Derived.Test.YtidgiohjgkfjcaaDoorQLen
import Derived.Test.YtidgiohjgkfjcaaDoorQAppend
namespace Go.Proofs.YtidgiohjgkfjcaaDoor
open Go.RowKit

attribute [local go_sem] Oper.semAt_some

theorem wpIn_append9 {F : Fence} {n : Nat} {w w' : World} {o : Oper} {a : Act} {K : Act → World → Prop} {Q : Exit → Act → World → Prop} (s x : Operand) {v v' y : Value}
    (ho : o.op = .call { callee := .builtin .append, args := #[s, x], argTypes := #[29, 29] }) (hs : a.eval s = v) (hx : a.eval x = y)
    (hr : (Builtin.append_ #[29, 29] o.type #[v, y]).run Tryd.prog w = .ok v' w') (h : K (a.put o.dst v') w') : o.wpIn F n Tryd.prog a w K Q := by
  unfold Oper.wpIn
  refine ⟨by simp [Oper.about, ho, resolve, Target.leads, Sem.run_pure], ?_⟩
  rw [Oper.semAt_plain F _ _ (by rw [ho]; intro c hc'; cases hc')]
  simp only [execOp, ho, resolve, invoke, builtin, Sem.run_bind, Sem.run_pure, Result.andThen_ok, List.map_toArray, List.map_cons, List.map_nil, hs, hx, hr]
  exact h
theorem listIn_own9 {F : Fence} {n : Nat} {w : World} {ops : Array Oper} {rest : List Oper} {o : Oper} {a : Act} {Q : Exit → Act → World → Prop} {base B N m c : Nat} {v : Value} {A2 : Option Addr} {l1 l2 : List (Int × Int)} (hgd : o.guard = none) (s x : Operand)
    (ho : o.op = .call { callee := .builtin .append, args := #[s, x], argTypes := #[29, 29] }) (hs : a.eval s = v) (hx : a.eval x = .slice A2 m c)
    (h1 : OwnD w base v l1) (h2 : DuesR w B A2 m c l2) (hb : base ≤ w.heap.size) (hn : l1.length + m ≤ N) (hle : N ≤ 100000) (hA : A2 = none → c = 0)
    (h : ∀ v' w', OwnD w' base v' (l1 ++ l2) → w.grownBy w' v.ownBlock → (v'.ownBlock = v.ownBlock ∨ v'.ownBlock = some w.heap.size) → wpListIn F n Tryd.prog ops Q rest (a.put o.dst v') w') : wpListIn F n Tryd.prog ops Q (o :: rest) a w := by
  obtain ⟨v', w', hr, ho2, hg, ha⟩ := run_append_dues (w := w) o.type h1 h2 hb hn hle hA
  exact wpListIn_plain hgd fun K hK => wpIn_append9 s x ho hs hx hr (hK _ _ (h v' w' ho2 hg ha))
theorem OwnD.turned {w w' : World} {base : Nat} {v : Value} {l : List (Int × Int)} (h : OwnD w base v l) {row : Option Nat} (hg : w.grownBy w' row) (hr : ∀ r, row = some r → ∃ o : Obj, w.heap[r]? = some o ∧ o.isCells = false) : OwnD w' base v l := by
  refine ⟨h.1, ?_⟩
  rcases h.2 with h2 | ⟨g, cap, cur, hv, hb, hh, r⟩
  · exact .inl h2
  · refine .inr ⟨g, cap, cur, hv, hb, (hg.block g (Array.getElem?_eq_some_iff.1 hh).1 (fun e => ?_)).trans hh, r⟩
    obtain ⟨o, ho, hn⟩ := hr g e.symm
    rw [hh] at ho
    cases ho
    cases hn
theorem OwnD.put {w : World} {base l : Nat} {v : Value} {m : List (Int × Int)} (h : OwnD w base v m) (hl : ∃ o : Obj, w.heap[l]? = some o ∧ o.isCells = false) (o : Obj) : OwnD (w.putObj l o) base v m :=
  h.turned (grownBy_putObj' w l o) (fun r e => by cases e; exact hl)
theorem keeps_below {B : Nat} {w w' : World} (h : Below B w w') : (∀ k, B ≤ k → ∀ o : Obj, w.heap[k]? = some o → o.isCells = false → w'.heap[k]? = some o) → KeepsOthers w w' := fun h2 =>
  ⟨h.size, fun k o hk ho => by
    by_cases e : k < B
    · exact (h.block k e).trans hk
    · exact h2 k (by omega) o hk ho⟩
theorem keeps_grown {w w' : World} {base : Nat} {v : Value} {l : List (Int × Int)} (hown : OwnD w base v l) (hg : w.grownBy w' v.ownBlock) : KeepsOthers w w' :=
  ⟨hg.size, fun k o hk ho => by
    refine (hg.block k (Array.getElem?_eq_some_iff.1 hk).1 (fun e => ?_)).trans hk
    rcases hown.2 with ⟨rfl, _⟩ | ⟨g, cap, cur, rfl, _, hh, _⟩
    · cases e
    · have e : k = g := Option.some.inj e
      subst e
      rw [hh] at hk
      cases hk
      cases ho⟩
set_option maxRecDepth 100000 in
set_option maxHeartbeats 2000000 in
theorem all_in9 (n : Nat) (hn : 3 ≤ n) (p : Nat) (t : Int) (S : Nat → List (Int × Int)) (V : Nat → Option Addr × Nat) (w : World) (hW : WhAt w w.heap.size p t S V) (hT : Tab w) (hg : 0 < w.heap.size) (h64 : (upto S 320).length ≤ 64) :
    CallsIn Fence.wide n Tryd.prog 23 #[.pointer (some ⟨p, 0, none⟩)] w fun e w' => ∃ v, e = .returned v ∧ OwnD w' w.heap.size v (upto S 320) ∧ Below w.heap.size w w' := by
  have h1 : 1 ≤ n := by omega
  have HW := Lib.hid hW
  have HFI := Lib.hid (fun W => filled_any (.pointer (some ⟨p, 0, none⟩)) W ⟨_, rfl⟩)
  clear hW
  refine callsIn_of_wp_marks Tryd.func23 rfl trivial ?_ rfl
  simp only [Tryd.ntmps23, List.size_toArray, List.length_cons, List.length_nil, Nat.reduceAdd, Nat.reduceSub, Array.replicate_succ, Array.replicate_zero, List.push_toArray, List.append_toArray, List.nil_append, List.cons_append]
  gi_wp2_with fail
  refine ⟨trivial, (callsIn_wide.2 (HFI.out _)).mono ?_⟩
  rintro e w1 ⟨rfl, rfl⟩
  gi_wp2_with fail
  obtain ⟨W, hWe⟩ : ∃ W, W = (w.alloc (.cells #[.slice none 0 0] 29)).alloc (.cells #[.pointer (some ⟨p, 0, none⟩)] 24) := ⟨_, rfl⟩
  have hB : Below w.heap.size w W := by rw [hWe]; exact ((Below.refl _ _).alloc (Nat.le_refl _) _).alloc (by simp) _
  have bN : QBox W w.heap.size 29 #[.slice none 0 0] := by rw [hWe]; exact (QBox.new _ _ _).alloc _
  have bP : QBox W (w.heap.size + 1) 24 #[.pointer (some ⟨p, 0, none⟩)] := by
    rw [hWe]
    have := QBox.new (w.alloc (.cells #[.slice none 0 0] 29)) 24 #[.pointer (some ⟨p, 0, none⟩)]
    rwa [World.size_alloc] at this
  have hsz : W.heap.size = w.heap.size + 2 := by rw [hWe]; simp
  rw [← hWe]
  clear hWe
  have hlow := HW.out.low
  have H64 := Lib.hid h64
  have hpn : p ≠ w.heap.size := Nat.ne_of_lt hlow
  clear h64
  refine wpIn_rangeSt (σ := WSt) (α := WX) rfl h1 (gf := 56) (lb := #[.pointer (some ⟨w.heap.size + 1, 0, none⟩)]) rfl trivial (enters_of Tryd.func56 (by kernel_rfl) rfl)
    (filled_st (n - 1) (by omega) p (w.heap.size + 1)) (fun _ => rfl)
    (fun s W' => (s.S = S ∧ s.V = V ∧ s.k ≤ 320) ∧ (∃ v, QBox W' w.heap.size 29 #[v] ∧ OwnD W' (w.heap.size + 2) v (upto S s.k)) ∧ QBox W' (w.heap.size + 1) 24 #[.pointer (some ⟨p, 0, none⟩)] ∧ Below w.heap.size w W')
    (fun _ _ => False) ⟨0, S, V⟩ rfl
    (fun s W' h => by
      obtain ⟨⟨rfl, rfl, _⟩, _, h2, h3⟩ := h
      exact ⟨⟨_, _, HW.out.below h3⟩, h2, hT.below hg h3, Nat.lt_of_lt_of_le hg h3.size⟩)
    (fun s => (bears_const _ _).and (Bears.and (fun A B row h hg hr => by
      obtain ⟨v, h1, h2⟩ := h
      exact ⟨v, h1.turned hg (fun r e => (hr r e).2), h2.turned hg (fun r e => (hr r e).2)⟩) ((bears_box _ _ _ _).and (bears_below (Nat.le_refl _) (by omega)))))
    (fun c => bears_const _ _) ⟨⟨rfl, rfl, Nat.zero_le _⟩, ⟨_, bN, OwnD.nil _ _⟩, bP, hB⟩ ?round ?done ?stop
  case round =>
    rintro l s ⟨j, A, m, c⟩ W' hl hlo ⟨⟨rfl, rfl, hk⟩, ⟨v, hn, ho⟩, hp, hb⟩ ⟨g1, g2, g3, g4, g5, g6, g7⟩
    dsimp only at g1 g2 g3 g4 g5 g6 g7
    unfold wenc
    dsimp only
    have hu : upto s.S j = upto s.S s.k := upto_skip g1 g4
    have hu1 : upto s.S (j + 1) = upto s.S s.k ++ s.S j := by rw [upto_succ, hu]
    have hu2 := upto_len_mono s.S (show j + 1 ≤ 320 by omega)
    have hle : (upto s.S s.k).length + m ≤ 64 := by have := H64.out; rw [hu1, List.length_append] at hu2; omega
    have HU1 := Lib.hid hu1
    have HDU := Lib.hid ((HW.out.below hb).due j g2)
    rw [← g5, ← g6, ← g7] at HDU
    have hds := (show A = none → c = 0 from fun e => by
      rcases HDU.out.shape with ⟨_, h⟩ | ⟨b, o, h⟩
      · exact h
      · rw [h] at e; cases e)
    have HDS := Lib.hid hds
    clear hu hu1 hu2 g4 g3 g5 g6 g7 hds
    gi_wp2_with fail
    refine ⟨.refl _, fun o => ?_⟩
    have hn2 := hn.put hlo o
    have hp2 := hp.put hlo o
    have ho2 := ho.put hlo o
    have hb2 := below_put hb (Nat.le_refl _) (show w.heap.size ≤ l by omega) o
    have hd2 := HDU.out.below (show Below w.heap.size W' (W'.putObj l o) from (Below.refl w.heap.size W').grown (grownBy_putObj' W' l o) hb.size (fun k e => by cases e; omega))
    have HN2 := Lib.hid hn2; have HP2 := Lib.hid hp2; have HB2 := Lib.hid hb2; have HO2 := Lib.hid ho2; have HD2 := Lib.hid hd2
    have e0 : (W'.putObj l o).cell? ⟨w.heap.size, 0, none⟩ = some v := hn2.cell 0
    have f0 := hn2.frozen 0
    have HSZ := Lib.hid (show w.heap.size + 2 ≤ (W'.putObj l o).heap.size by have := HP2.out.lt; omega)
    clear hn hp hb hn2 hp2 hb2 ho ho2 hd2 HDU
    generalize W'.putObj l o = W2 at *
    gi_wp2_with (gi_at_builtin; refine listIn_own9 (N := 100) rfl _ _ rfl rfl rfl HO2.out HD2.out.row HSZ.out (by omega) (by decide) HDS.out ?_; intro v4 w4 hown4 hg4 _; (have hn4 := QBox.grown HN2.out hg4 (fun e => by have := (World.ownsRow.lt HO2.out _ e).1; omega)); (have e4 := hn4.cell 0); (have f4 := hn4.frozen 0); (have hr4 := hown4.rowN); obtain ⟨A4, n4, c4, rfl, _⟩ := hr4)
    have hp4 := QBox.grown HP2.out hg4 (fun e => by have := (World.ownsRow.lt HO2.out _ e).1; omega)
    have hb4 := below_own9 HB2.out (HO2.out.mono (show w.heap.size ≤ w.heap.size + 2 by omega)) hg4 HB2.out.size
    refine ⟨(keeps_grown HO2.out hg4).trans (KeepsOthers.setCell _ _ _), ⟨j + 1, s.S, s.V⟩, rfl, ⟨rfl, rfl, by show j + 1 ≤ 320; omega⟩, ⟨_, hn4.set 0 _, ?_⟩, hp4.far (by omega) _, hb4.setCell (Nat.le_refl _) _⟩
    show OwnD _ _ _ (upto s.S (j + 1))
    rw [HU1.out]
    exact hown4.far (by omega) _
  case done =>
    rintro B s W' hB2 hE ⟨⟨rfl, rfl, hk⟩, ⟨v, hn, ho⟩, hp, hb⟩ hD
    have hu : upto s.S 320 = upto s.S s.k := upto_skip hk hE
    rw [← hu] at ho
    have e0 : W'.cell? ⟨w.heap.size, 0, none⟩ = some v := hn.cell 0
    have HB2 := Lib.hid hb
    have HD := Lib.hid hD
    have HO := Lib.hid ho
    obtain ⟨A, n4, c4, rfl, _⟩ := ho.rowN
    clear hn hp hb hu hD ho
    gi_wp2_with fail
    refine ⟨by simp, .inl ⟨_, _, rfl, run_takeDeferred HD.out, ?_⟩⟩
    refine ⟨.slice A n4 c4, by simp [results, Tryd.f23, go_sem], _, rfl, (HO.out.put ⟨_, HD.out, rfl⟩ _).mono (by omega), HB2.out.trans (belowK_b (w := w) (Nat.le_refl _) _ B _ _ (by omega) HD.out rfl rfl)⟩
  case stop => rintro B c W' _ h; exact h.elim
theorem all_any9 (p : Nat) (t : Int) (S : Nat → List (Int × Int)) (V : Nat → Option Addr × Nat) (w : World) (hW : WhAt w w.heap.size p t S V) (hT : Tab w) (hg : 0 < w.heap.size) (h64 : (upto S 320).length ≤ 64) :
    Calls Tryd.prog 23 #[.pointer (some ⟨p, 0, none⟩)] w fun e w' => ∃ v, e = .returned v ∧ OwnD w' w.heap.size v (upto S 320) ∧ Below w.heap.size w w' :=
  callsIn_wide.1 (all_in9 3 (by omega) p t S V w hW hT hg h64)
end Go.Proofs.YtidgiohjgkfjcaaDoor
