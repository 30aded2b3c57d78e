/- What is done to a row: it is paused; it goes on: walked. -/
import Derived.Test.YthngjbnbloboiaaGreatDoorKVLay
import Derived.Test.YthngjbnbloboiaaGreatDoorKVTimesB
import Derived.Test.YthngjbnbloboiaaGreatDoorKVMax
namespace Go.Proofs.YthngjbnbloboiaaGreatDoor
open Go.RowKit

theorem rown_pau {r : RowZ} (hf : r.Fit) (v : Value) (now : Int) : ((rowNC r v now).toArray.setIfInBounds 11 (.bool true)).setIfInBounds 12 (.int .i64 (-1)) = (rowNC (pauF r) v now).toArray := by
  obtain ⟨⟨n, o, L, t, ov, ca, re⟩, pa, nx, num, due, tr, q⟩ := r
  obtain ⟨⟨_, _, hl5⟩, _⟩ := hf
  obtain ⟨a, b, c, d, e, rfl⟩ := list_five hl5
  rfl
theorem rown_res {r : RowZ} (hf : r.Fit) (v : Value) (now nx : Int) : ((rowNC r v now).toArray.setIfInBounds 11 (.bool false)).setIfInBounds 12 (.int .i64 nx) = (rowNC { r with pa := false, nx := nx } v now).toArray := by
  obtain ⟨⟨n, o, L, t, ov, ca, re⟩, pa, nx', num, due, tr, q⟩ := r
  obtain ⟨⟨_, _, hl5⟩, _⟩ := hf
  obtain ⟨a, b, c, d, e, rfl⟩ := list_five hl5
  rfl
theorem rown_put {r : RowZ} (hf : r.Fit) (v : Value) (now now' : Int) : (rowNC r v now).toArray.setIfInBounds 17 (.int .i64 now') = (rowNC r v now').toArray := by
  obtain ⟨⟨n, o, L, t, ov, ca, re⟩, pa, nx', num, due, tr, q⟩ := r
  obtain ⟨⟨_, _, hl5⟩, _⟩ := hf
  obtain ⟨a, b, c, d, e, rfl⟩ := list_five hl5
  rfl
theorem TabIs.one {w : World} {r : RowZ} {v : Value} {g : Nat} {e : Ending} (he : e = .returned (.slice (some ⟨g, 0, none⟩) 1 1)) (h : TabR w (some ⟨g, 0, none⟩) 1 1 [(r, v)]) : TabIs [r] e w := ⟨_, _, _, _, he, h, rfl⟩
set_option maxRecDepth 100000 in
set_option maxHeartbeats 1000000 in
theorem paused_any (r : RowZ) (v : Value) (now : Int) (w : World) (hf : r.Fit) (hq : QR w v r.q) :
    Calls Tryz.prog 36 #[rowNV r v now] w fun e w' => TabIs [pauF r] e w' ∧ Below w.heap.size w w' := by
  have hx0 := D.Box.new w 75 (rowNC r v now).toArray
  have hb0 := new_below w (.cells (rowNC r v now).toArray 75)
  obtain ⟨W0, hW0⟩ : ∃ W : World, W = w.alloc (.cells (rowNC r v now).toArray 75) := ⟨_, rfl⟩
  rw [← hW0] at hx0 hb0
  have hf2 : (pauF r).Fit := hf
  have hx2 := (hx0.set 11 (.bool true)).set 12 (.int .i64 (-1))
  rw [rown_pau hf] at hx2
  have hb2 := (hb0.setCell (p := ⟨w.heap.size, 11, none⟩) (Nat.le_refl _) (.bool true)).setCell (p := ⟨w.heap.size, 12, none⟩) (Nat.le_refl _) (.int .i64 (-1))
  have hl2 := rown_load hf2 hx2
  have hcf := cellsF_of hf (rown_range hx0)
  have c11 := hcf.pa; have c12 := hcf.nx
  rw [Nat.zero_add] at c11 c12
  have f11 := hx0.frozen 11; have f12 := hx0.frozen 12
  have hit := itself_any (pauF r) v now _ hf2 (hq.on hb2)
  have HIT := Lib.hid hit; have HL2 := Lib.hid hl2; have HB2 := Lib.hid hb2
  have HRV : Hid (rowNV r v now = .agg (rowNC r v now).toArray) := Lib.hid rfl
  rw [HRV.out]
  have HRES : Hid (∀ g w', TabR w' (some ⟨g, 0, none⟩) 1 1 [(pauF r, v)] → TabIs [pauF r] (.returned (.slice (some ⟨g, 0, none⟩) 1 1)) w') := Lib.hid (fun g w' h => .one rfl h)
  generalize TabIs [pauF r] = TI at *
  clear hx0 hx2 hb0 hb2 hl2 hcf hit hq HRV
  go_enter Tryz.func36, Tryz.ntmps36
  go_upto_region 1 with fail
  rw [← hW0]
  clear hW0
  go_upto_region 2 with fail
  clear c11 c12 f11 f12
  generalize (W0.setCell ⟨w.heap.size, 11, none⟩ (.bool true)).setCell ⟨w.heap.size, 12, none⟩ (.int .i64 (-1)) = W2 at *
  go_wp2_with (refine list_load rfl _ rfl rfl HL2.out ?_)
  refine HIT.out.mono ?_
  rintro e w3 ⟨g, rfl, ht, hb⟩
  have HT := Lib.hid (HRES.out g w3 ht); have HB := Lib.hid (HB2.out.trans (hb.mono HB2.out.size))
  clear ht hb
  go_wp2_with fail
  go_ret
  exact ⟨HT.out, HB.out⟩
/-- When a row goes on next. -/
def NextOf (ev : List (BitVec 64) → Bool) (r : RowZ) (now nx : Int) : Prop := ∃ m, Greatest (r.line' ++ [now]) m ∧ (FirstT (r.j.TT ev) m nx true ∨ ∃ t, FirstT (r.j.TT ev) m t false ∧ nx = -1)
def NextTold (ev : List (BitVec 64) → Bool) (r : RowZ) (now : Int) (e : Ending) : Prop := ∃ nx, e = .returned (.int .i64 nx) ∧ NextOf ev r now nx
theorem step_times {w : World} {ops : Array Oper} {o : Oper} {a : Act} {K : Act → World → Prop} {Q : Exit → Act → World → Prop} {E : Prop} {base : Nat} {v y : Value} {l q : List Int} (hgd : o.guard = none) (s x : Operand)
    (ho : o.op = .call { callee := .builtin .append, args := #[s, x], argTypes := #[37, 37] }) (hs : a.eval s = v) (hx : a.eval x = y)
    (h : OwnT w base v l) (hq : QR w y q) (hb : base ≤ w.heap.size) (hl : l.length + q.length ≤ 1000) (W0 : World) (hB : Below base W0 w)
    (hk : ∀ v' w', OwnT w' base v' (l ++ q) → Below base W0 w' → K (a.put o.dst v') w') : if Region.wanted o (yielded ops a.tmps) = true then Oper.wp Tryz.prog o a w K Q else E := by
  obtain ⟨v', w', hr, ho2, hg⟩ := run_app_times o.type h hq hb hl
  exact step_app hgd s x _ ho hs hx hr (hk v' w' ho2 (hB.grown hg hb (fun k e => (World.ownsRow.lt h k e).1)))
end Go.Proofs.YthngjbnbloboiaaGreatDoor
