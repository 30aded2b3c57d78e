/- What is offered: the closures: walked. -/
import Derived.Test.YthghcffibljclaaDoorR7
import Derived.Test.YthghcffibljclaaDoorRXPlain
import Derived.Test.YthghcffibljclaaDoorRVCheckR
namespace Go.Proofs.YthghcffibljclaaDoor
open Go.RowKit

theorem own_one (W : World) (x : Int) : OwnT (W.alloc (.cells #[.int .i64 x] 2)) W.heap.size (.slice (some ⟨W.heap.size, 0, none⟩) 1 1) [x] :=
  ⟨rfl, .inr ⟨W.heap.size, 1, _, rfl, Nat.le_refl _, heap_alloc_new W _, Nat.le_refl _, by decide, rfl, rfl⟩⟩
/-- The last time, if it is not ahead of the least one. -/
def TailIs (T : Int → Prop) (now least : Int) (B : Nat) (e : Ending) (w : World) : Prop := ∃ t ok y l, LastT T now t ok ∧ e = .returned y ∧ OwnT w B y l ∧ ((ok = true ∧ least ≤ t ∧ l = [t]) ∨ (¬ (ok = true ∧ least ≤ t) ∧ l = []))
set_option maxRecDepth 100000 in
set_option maxHeartbeats 4000000 in
theorem offers1_any (ev : List (BitVec 64) → Bool) (hev : EvIs ev) (r : RowZ) (v : Value) (gr gn : Nat) (now least : Int) (w : World) (hL : LaidC w) (hr : RowAt w gr r v) (hn : w.cell? ⟨gn, 0, none⟩ = some (.int .i64 now)) :
    Calls Tryd.prog 45 #[.int .i64 least, .pointer (some ⟨gr, 0, none⟩), .pointer (some ⟨gn, 0, none⟩)] w fun e w' => TailIs (r.j.TT ev) now least w.heap.size e w' ∧ Below w.heap.size w w' := by
  have HLJ := Lib.hid (row_job hr.1 hr.2)
  have HLA := Lib.hid (jlatest_any ev hev r.j now w hL hr.1.1)
  unfold TimeIs at HLA
  have h1 : Hid (∀ t ok y w', LastT (r.j.TT ev) now t ok → (ok = true ∧ least ≤ t) → OwnT w' w.heap.size y [t] → TailIs (r.j.TT ev) now least w.heap.size (Ending.returned y) w') := Lib.hid (fun t ok y w' h1 h2 h3 => ⟨t, ok, y, [t], h1, rfl, h3, .inl ⟨h2.1, h2.2, rfl⟩⟩)
  have h2 : Hid (∀ t ok w', LastT (r.j.TT ev) now t ok → ¬ (ok = true ∧ least ≤ t) → TailIs (r.j.TT ev) now least w.heap.size (.returned (.slice none 0 0)) w') := Lib.hid (fun t ok w' h1 h2 => ⟨t, ok, _, [], h1, rfl, OwnT.nil _ _, .inr ⟨h2, rfl⟩⟩)
  generalize TailIs (r.j.TT ev) now least w.heap.size = TI at *
  generalize r.j.TT ev = TT at *
  clear hL hr hev
  go_enter Tryd.func45, Tryd.ntmps45
  go_wp2_with (refine list_load rfl _ rfl rfl HLJ.out ?_)
  refine HLA.out.mono ?_
  rintro e w1 ⟨⟨t, ok, rfl, hf⟩, hb⟩
  have HB := Lib.hid hb; have HF := Lib.hid hf
  clear hb hf HLJ HLA
  cases ok with
  | false =>
    have HR := Lib.hid (fun w' => h2.out t false w' HF.out (by simp))
    clear h1 h2 HF
    go_wp2_with fail
    go_ret
    exact ⟨HR.out _, HB.out⟩
  | true =>
    by_cases hlt : t < least
    · have q1 : decide (t < least) = true := decide_eq_true hlt
      have HR := Lib.hid (fun w' => h2.out t true w' HF.out (by omega))
      clear h1 h2 HF
      go_wp2_with fail
      go_ret
      exact ⟨HR.out _, HB.out⟩
    · have q1 : decide (t < least) = false := decide_eq_false hlt
      have HR := Lib.hid (fun y w' h => h1.out t true y w' HF.out ⟨rfl, by omega⟩ h)
      clear h1 h2 HF
      go_wp2_with fail
      go_ret
      exact ⟨HR.out _ _ (OwnT.low (own_one w1 t) HB.out.size), HB.out.alloc HB.out.size _⟩
set_option maxRecDepth 100000 in
set_option maxHeartbeats 4000000 in
theorem offers2_any (ev : List (BitVec 64) → Bool) (hev : EvIs ev) (r : RowZ) (v : Value) (gl gr gn : Nat) (now : Int) (w : World) (hL : LaidC w) (hr : RowAt w gr r v) (hn : w.cell? ⟨gn, 0, none⟩ = some (.int .i64 now)) (hl : w.cell? ⟨gl, 0, none⟩ = some (.func (.func 45) #[] #[.pointer (some ⟨gr, 0, none⟩), .pointer (some ⟨gn, 0, none⟩)])) (h0 : 0 ≤ now ∧ now ≤ 253402300799) :
    Calls Tryd.prog 46 #[.pointer (some ⟨gl, 0, none⟩), .pointer (some ⟨gn, 0, none⟩)] w fun e w' => TailIs (r.j.TT ev) now (now - 59) w.heap.size e w' ∧ Below w.heap.size w w' := by
  have HO := Lib.hid (offers1_any ev hev r v gr gn now (now - 59) w hL hr hn)
  unfold TailIs at HO
  have hw : IntKind.i64.wrap (now - 59) = now - 59 := by rw [IntKind.wrap_i64]; omega
  have h1 : Hid (∀ e w', (∃ t ok y l, LastT (r.j.TT ev) now t ok ∧ e = Ending.returned y ∧ OwnT w' w.heap.size y l ∧ ((ok = true ∧ now - 59 ≤ t ∧ l = [t]) ∨ (¬ (ok = true ∧ now - 59 ≤ t) ∧ l = []))) → ∃ y, e = Ending.returned y ∧ TailIs (r.j.TT ev) now (now - 59) w.heap.size (Ending.returned y) w') := Lib.hid (fun e w' ⟨t, ok, y, l, h1, h2, h3, h4⟩ => ⟨y, h2, t, ok, y, l, h1, rfl, h3, h4⟩)
  generalize TailIs (r.j.TT ev) now (now - 59) w.heap.size = TI at *
  generalize r.j.TT ev = TT at *
  clear hL hr hev h0
  go_enter Tryd.func46, Tryd.ntmps46
  go_wp2_with fail
  refine HO.out.mono ?_
  rintro e w1 ⟨hx, hb⟩
  obtain ⟨y, rfl, hy⟩ := h1.out e w1 hx
  have HB := Lib.hid hb; have HY := Lib.hid hy
  clear hx hb hy h1 HO
  go_wp2_with fail
  go_ret
  exact ⟨HY.out, HB.out⟩
set_option maxRecDepth 100000 in
set_option maxHeartbeats 4000000 in
theorem offers3_any (ev : List (BitVec 64) → Bool) (hev : EvIs ev) (r : RowZ) (v : Value) (gl gr gn : Nat) (now : Int) (w : World) (hL : LaidC w) (hr : RowAt w gr r v) (hn : w.cell? ⟨gn, 0, none⟩ = some (.int .i64 now)) (hl : w.cell? ⟨gl, 0, none⟩ = some (.func (.func 45) #[] #[.pointer (some ⟨gr, 0, none⟩), .pointer (some ⟨gn, 0, none⟩)])) :
    Calls Tryd.prog 47 #[.pointer (some ⟨gl, 0, none⟩), .pointer (some ⟨gr, 0, none⟩)] w fun e w' => TailIs (r.j.TT ev) now r.nx w.heap.size e w' ∧ Below w.heap.size w w' := by
  have HO := Lib.hid (offers1_any ev hev r v gr gn now r.nx w hL hr hn)
  have c12 := (cellsF_of hr.1 (row_range hr.2)).nx
  rw [Nat.zero_add] at c12
  unfold TailIs at HO
  have h1 : Hid (∀ e w', (∃ t ok y l, LastT (r.j.TT ev) now t ok ∧ e = Ending.returned y ∧ OwnT w' w.heap.size y l ∧ ((ok = true ∧ r.nx ≤ t ∧ l = [t]) ∨ (¬ (ok = true ∧ r.nx ≤ t) ∧ l = []))) → ∃ y, e = Ending.returned y ∧ TailIs (r.j.TT ev) now r.nx w.heap.size (Ending.returned y) w') := Lib.hid (fun e w' ⟨t, ok, y, l, h1, h2, h3, h4⟩ => ⟨y, h2, t, ok, y, l, h1, rfl, h3, h4⟩)
  generalize TailIs (r.j.TT ev) now r.nx w.heap.size = TI at *
  generalize r.j.TT ev = TT at *
  clear hL hr hev
  go_enter Tryd.func47, Tryd.ntmps47
  go_wp2_with fail
  refine HO.out.mono ?_
  rintro e w1 ⟨hx, hb⟩
  obtain ⟨y, rfl, hy⟩ := h1.out e w1 hx
  have HB := Lib.hid hb; have HY := Lib.hid hy
  clear hx hb hy h1 HO
  go_wp2_with fail
  go_ret
  exact ⟨HY.out, HB.out⟩
/-- The first four from Next on. -/
def FourIs (T : Int → Prop) (nx now : Int) (B : Nat) (e : Ending) (w : World) : Prop := ∃ y l, e = .returned y ∧ OwnT w B y l ∧ Chain T (nx - 1) now 4 l
set_option maxRecDepth 100000 in
set_option maxHeartbeats 4000000 in
theorem offers4_any (ev : List (BitVec 64) → Bool) (hev : EvIs ev) (r : RowZ) (v : Value) (gr gn : Nat) (now : Int) (w : World) (hL : LaidC w) (hr : RowAt w gr r v) (hn : w.cell? ⟨gn, 0, none⟩ = some (.int .i64 now)) (h0 : 0 ≤ r.nx ∧ r.nx ≤ 253402300799) (hj : r.j.err ev = 0) :
    Calls Tryd.prog 48 #[.pointer (some ⟨gr, 0, none⟩), .pointer (some ⟨gn, 0, none⟩)] w fun e w' => FourIs r.j.T r.nx now w.heap.size e w' ∧ Below w.heap.size w w' := by
  have HLJ := Lib.hid (row_job hr.1 hr.2)
  have c12 := (cellsF_of hr.1 (row_range hr.2)).nx
  rw [Nat.zero_add] at c12
  have hw : IntKind.i64.wrap (r.nx - 1) = r.nx - 1 := by rw [IntKind.wrap_i64]; omega
  have HT := Lib.hid (jtimes_any ev hev r.j (r.nx - 1) now 4 w hL hr.1.1)
  have h1 : Hid (∀ e w', TimesIs ev r.j (r.nx - 1) now 4 w.heap.size e w' → ∃ y z, e = Ending.returned (.tuple #[y, z]) ∧ FourIs r.j.T r.nx now w.heap.size (Ending.returned y) w') := Lib.hid (fun e w' h => by
    rcases h with ⟨h, _⟩ | ⟨_, h, _⟩ | ⟨_, _, _, y, l, rfl, h1, h2⟩
    · exact absurd hj h
    · omega
    · exact ⟨y, _, rfl, y, l, rfl, h1, h2⟩)
  have hsp : spanV (r.nx - 1) now = .agg #[.int .i64 (r.nx - 1), .int .i64 now] := rfl
  rw [hsp] at HT
  generalize TimesIs ev r.j (r.nx - 1) now 4 w.heap.size = TI at *
  generalize FourIs r.j.T r.nx now w.heap.size = FI at *
  clear hL hr hev h0 hj hsp
  go_enter Tryd.func48, Tryd.ntmps48
  go_wp2_with (refine list_load rfl _ rfl rfl HLJ.out ?_)
  refine HT.out.mono ?_
  rintro e w1 ⟨hx, hb⟩
  obtain ⟨y, z, rfl, hy⟩ := h1.out e w1 hx
  have HB := Lib.hid hb; have HY := Lib.hid hy
  clear hx hb hy h1 HT HLJ
  go_wp2_with fail
  go_ret
  exact ⟨HY.out, HB.out⟩
end Go.Proofs.YthghcffibljclaaDoor
