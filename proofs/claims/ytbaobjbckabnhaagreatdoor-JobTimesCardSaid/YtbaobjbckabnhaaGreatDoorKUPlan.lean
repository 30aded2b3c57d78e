/- Plans, First and Latest: walked, of the program. -/
import Derived.Test.YtbaobjbckabnhaaGreatDoorKUCheck
import Derived.Laws.EntriesVeiled
namespace Go.Proofs.YtbaobjbckabnhaaGreatDoor
open Go.RowKit

/-- What a call tells that tells a time, and whether there is one. -/
def TimeIs (R : Int → Bool → Prop) (x : Ending) : Prop := ∃ (t : Int) (ok : Bool), x = .returned (.tuple #[.int .i64 t, .bool ok]) ∧ R t ok
theorem next_first (L : List (BitVec 64)) (a : Int) (w : World) (hL : LaidC w) (h5 : L.length = 5) :
    Calls Tryz.prog 23 #[cronV L, .int .i64 a] w fun x w' => TimeIs (FirstT (TC L) a) x ∧ Below w.heap.size w w' := by
  refine (next_any L a w hL h5).mono ?_
  rintro x w' ⟨h, hb⟩
  refine ⟨?_, hb⟩
  rcases h with ⟨t, ht, rfl⟩ | ⟨hn, rfl⟩
  · exact ⟨t, true, rfl, firstT_next ht⟩
  · exact ⟨0, false, rfl, firstT_none (TC_times L) (TC_window L) hn⟩
theorem last_latest (L : List (BitVec 64)) (a : Int) (w : World) (hL : LaidC w) (h5 : L.length = 5) :
    Calls Tryz.prog 92 #[cronV L, .int .i64 a] w fun x w' => TimeIs (LastT (TC L) a) x ∧ Below w.heap.size w w' := by
  refine (nlast_any L a w hL h5).mono ?_
  rintro x w' ⟨h, hb⟩
  refine ⟨?_, hb⟩
  rcases h with ⟨t, ht, rfl⟩ | ⟨hn, rfl⟩
  · exact ⟨t, true, rfl, lastT_last ht⟩
  · exact ⟨0, false, rfl, lastT_none (TC_times L) (TC_window L) hn⟩
set_option maxRecDepth 100000 in
theorem told_any (g : Nat) (t : Int) (z : Bool) (w : World) (hc : w.cell? ⟨g, 0, none⟩ = some (.int .i64 t)) :
    Calls Tryz.prog 87 #[.bool z, .pointer (some ⟨g, 0, none⟩)] w fun x w' => x = .returned (.tuple #[.int .i64 (if z = true then t else 0), .bool z]) ∧ w' = w := by
  cases z with
  | true =>
    go_enter Tryz.func87, Tryz.ntmps87
    go_wp2_with fail
    exact bodyPost_ret (v := .tuple #[.int .i64 t, .bool true]) (by simp [results, Tryz.results87, go_sem]) rfl ⟨rfl, rfl⟩
  | false =>
    go_enter Tryz.func87, Tryz.ntmps87
    go_wp2_with fail
    exact bodyPost_ret (v := .tuple #[.int .i64 0, .bool false]) (by simp [results, Tryz.results87, go_sem]) rfl ⟨rfl, rfl⟩
abbrev toldV (g : Nat) : Value := .func (.func 87) #[] #[.pointer (some ⟨g, 0, none⟩)]
set_option maxRecDepth 100000 in
theorem first1_any (g h : Nat) (t a : Int) (w : World) (hc : w.cell? ⟨g, 0, none⟩ = some (.int .i64 t)) (hh : w.cell? ⟨h, 0, none⟩ = some (toldV g)) :
    Calls Tryz.prog 88 #[.int .i64 a, .pointer (some ⟨h, 0, none⟩), .pointer (some ⟨g, 0, none⟩)] w fun x w' => TimeIs (FirstT (fun u => u = t) a) x ∧ w' = w := by
  have hE : ∀ (args : Array Value) (W : World), (callFunc 87 args).run Tryz.prog W = .ok (.enter 87 args) W := enters_of Tryz.func87 (by kernel_rfl) rfl
  unfold toldV at hh
  have hf := firstT_alone t a
  by_cases hr : a < t
  · have HT := Lib.hid (told_any g t true w hc)
    rw [if_pos hr, decide_eq_true hr] at hf
    have HF := Lib.hid hf
    have hd : decide (a < t) = true := decide_eq_true hr
    clear hf
    go_enter Tryz.func88, Tryz.ntmps88
    go_wp2_with fail
    refine HT.out.mono ?_
    rintro x w' ⟨rfl, rfl⟩
    go_wp2_with fail
    exact bodyPost_ret (v := .tuple #[.int .i64 t, .bool true]) (by simp [results, Tryz.results88, go_sem]) rfl ⟨⟨_, _, rfl, HF.out⟩, rfl⟩
  · have HT := Lib.hid (told_any g t false w hc)
    rw [if_neg hr, decide_eq_false hr] at hf
    have HF := Lib.hid hf
    have hd : decide (a < t) = false := decide_eq_false hr
    clear hf
    go_enter Tryz.func88, Tryz.ntmps88
    go_wp2_with fail
    refine HT.out.mono ?_
    rintro x w' ⟨rfl, rfl⟩
    go_wp2_with fail
    exact bodyPost_ret (v := .tuple #[.int .i64 0, .bool false]) (by simp [results, Tryz.results88, go_sem]) rfl ⟨⟨_, _, rfl, HF.out⟩, rfl⟩
set_option maxRecDepth 100000 in
theorem latest1_any (g h : Nat) (t a : Int) (w : World) (hc : w.cell? ⟨g, 0, none⟩ = some (.int .i64 t)) (hh : w.cell? ⟨h, 0, none⟩ = some (toldV g)) :
    Calls Tryz.prog 89 #[.int .i64 a, .pointer (some ⟨h, 0, none⟩), .pointer (some ⟨g, 0, none⟩)] w fun x w' => TimeIs (LastT (fun u => u = t) a) x ∧ w' = w := by
  have hE : ∀ (args : Array Value) (W : World), (callFunc 87 args).run Tryz.prog W = .ok (.enter 87 args) W := enters_of Tryz.func87 (by kernel_rfl) rfl
  unfold toldV at hh
  have hf := lastT_alone t a
  by_cases hr : t ≤ a
  · have HT := Lib.hid (told_any g t true w hc)
    rw [if_pos hr, decide_eq_true hr] at hf
    have HF := Lib.hid hf
    have hd : decide (t ≤ a) = true := decide_eq_true hr
    clear hf
    go_enter Tryz.func89, Tryz.ntmps89
    go_wp2_with fail
    refine HT.out.mono ?_
    rintro x w' ⟨rfl, rfl⟩
    go_wp2_with fail
    exact bodyPost_ret (v := .tuple #[.int .i64 t, .bool true]) (by simp [results, Tryz.results89, go_sem]) rfl ⟨⟨_, _, rfl, HF.out⟩, rfl⟩
  · have HT := Lib.hid (told_any g t false w hc)
    rw [if_neg hr, decide_eq_false hr] at hf
    have HF := Lib.hid hf
    have hd : decide (t ≤ a) = false := decide_eq_false hr
    clear hf
    go_enter Tryz.func89, Tryz.ntmps89
    go_wp2_with fail
    refine HT.out.mono ?_
    rintro x w' ⟨rfl, rfl⟩
    go_wp2_with fail
    exact bodyPost_ret (v := .tuple #[.int .i64 0, .bool false]) (by simp [results, Tryz.results89, go_sem]) rfl ⟨⟨_, _, rfl, HF.out⟩, rfl⟩
set_option maxRecDepth 100000 in
theorem first2_any (g : Nat) (L : List (BitVec 64)) (a : Int) (w : World) (hL : LaidC w) (hc : CronAt w g L) :
    Calls Tryz.prog 90 #[.int .i64 a, .pointer (some ⟨g, 0, none⟩)] w fun x w' => TimeIs (FirstT (TC L) a) x ∧ Below w.heap.size w w' := by
  have HN := Lib.hid (next_first L a w hL hc.1)
  obtain ⟨p, q, r, s, u, rfl⟩ := list_five hc.1
  obtain ⟨c0, c1, c2, c3, c4⟩ := hc.five
  clear hc hL
  rw [cronV_five] at *
  unfold fiveV at *
  go_enter Tryz.func90, Tryz.ntmps90
  go_wp2_with fail
  refine HN.out.mono ?_
  rintro x w' ⟨⟨t, ok, rfl, ht⟩, hb⟩
  have HT := Lib.hid ht; have HB := Lib.hid hb
  clear ht hb
  go_wp2_with fail
  exact bodyPost_ret (v := .tuple #[.int .i64 t, .bool ok]) (by simp [results, Tryz.results90, go_sem]) rfl ⟨⟨_, _, rfl, HT.out⟩, HB.out⟩
set_option maxRecDepth 100000 in
theorem latest2_any (g : Nat) (L : List (BitVec 64)) (a : Int) (w : World) (hL : LaidC w) (hc : CronAt w g L) :
    Calls Tryz.prog 91 #[.int .i64 a, .pointer (some ⟨g, 0, none⟩)] w fun x w' => TimeIs (LastT (TC L) a) x ∧ Below w.heap.size w w' := by
  have HN := Lib.hid (last_latest L a w hL hc.1)
  obtain ⟨p, q, r, s, u, rfl⟩ := list_five hc.1
  obtain ⟨c0, c1, c2, c3, c4⟩ := hc.five
  clear hc hL
  rw [cronV_five] at *
  unfold fiveV at *
  go_enter Tryz.func91, Tryz.ntmps91
  go_wp2_with fail
  refine HN.out.mono ?_
  rintro x w' ⟨⟨t, ok, rfl, ht⟩, hb⟩
  have HT := Lib.hid ht; have HB := Lib.hid hb
  clear ht hb
  go_wp2_with fail
  exact bodyPost_ret (v := .tuple #[.int .i64 t, .bool ok]) (by simp [results, Tryz.results91, go_sem]) rfl ⟨⟨_, _, rfl, HT.out⟩, HB.out⟩
/-- A function value that tells times. -/
def TellsF (R : Int → Int → Bool → Prop) (w : World) (f : Nat) (lb : Array Value) : Prop :=
  (∀ (args : Array Value) (W : World), (callFunc f args).run Tryz.prog W = .ok (.enter f args) W) ∧
  ∀ (a : Int) (W : World), Below w.heap.size w W → Calls Tryz.prog f (#[.int .i64 a] ++ lb) W fun x W' => TimeIs (R a) x ∧ Below W.heap.size W W'
theorem TellsF.on {R : Int → Int → Bool → Prop} {w w' : World} {f : Nat} {lb : Array Value} (h : TellsF R w f lb) (hb : Below w.heap.size w w') : TellsF R w' f lb :=
  ⟨h.1, fun a W hW => h.2 a W (hb.trans (hW.mono hb.size))⟩
/-- What a plan is: two functions that tell a job's times. -/
def PlanIs (T : Int → Prop) (w : World) (v : Value) : Prop := ∃ f g lb lb', v = .agg #[.func (.func f) #[] lb, .func (.func g) #[] lb'] ∧ TellsF (FirstT T) w f lb ∧ TellsF (LastT T) w g lb'
theorem plan_alone {W : World} {g h : Nat} {t : Int} (hg : g < W.heap.size) (hh : h < W.heap.size) (cg : W.cell? ⟨g, 0, none⟩ = some (.int .i64 t)) (ch : W.cell? ⟨h, 0, none⟩ = some (toldV g)) :
    PlanIs (fun u => u = t) W (.agg #[.func (.func 88) #[] #[.pointer (some ⟨h, 0, none⟩), .pointer (some ⟨g, 0, none⟩)], .func (.func 89) #[] #[.pointer (some ⟨h, 0, none⟩), .pointer (some ⟨g, 0, none⟩)]]) := by
  refine ⟨88, 89, _, _, rfl, ⟨enters_of Tryz.func88 (by kernel_rfl) rfl, fun a W' hW => ?_⟩, ⟨enters_of Tryz.func89 (by kernel_rfl) rfl, fun a W' hW => ?_⟩⟩
  · refine Calls.mono (first1_any g h t a W' ((hW.cell (p := ⟨g, 0, none⟩) hg).trans cg) ((hW.cell (p := ⟨h, 0, none⟩) hh).trans ch)) ?_
    rintro x w' ⟨hx, rfl⟩
    exact ⟨hx, Below.refl _ _⟩
  · refine Calls.mono (latest1_any g h t a W' ((hW.cell (p := ⟨g, 0, none⟩) hg).trans cg) ((hW.cell (p := ⟨h, 0, none⟩) hh).trans ch)) ?_
    rintro x w' ⟨hx, rfl⟩
    exact ⟨hx, Below.refl _ _⟩
theorem plan_recurring {W : World} {g : Nat} {L : List (BitVec 64)} (hL : LaidC W) (hc : CronAt W g L) :
    PlanIs (TC L) W (.agg #[.func (.func 90) #[] #[.pointer (some ⟨g, 0, none⟩)], .func (.func 91) #[] #[.pointer (some ⟨g, 0, none⟩)]]) := by
  refine ⟨90, 91, _, _, rfl, ⟨enters_of Tryz.func90 (by kernel_rfl) rfl, fun a W' hW => ?_⟩, ⟨enters_of Tryz.func91 (by kernel_rfl) rfl, fun a W' hW => ?_⟩⟩
  · exact first2_any g L a W' (hL.on hW) (hc.on hW)
  · exact latest2_any g L a W' (hL.on hW) (hc.on hW)
/-- A plan in memory: what its functions have captured lies at or above B. -/
def PlanAt (T : Int → Prop) (B : Nat) (w : World) (u v : Value) : Prop :=
  (∃ (g h : Nat) (t : Int), B ≤ g ∧ B ≤ h ∧ g < w.heap.size ∧ h < w.heap.size ∧ T = (fun u => u = t) ∧ u = .func (.func 88) #[] #[.pointer (some ⟨h, 0, none⟩), .pointer (some ⟨g, 0, none⟩)] ∧ v = .func (.func 89) #[] #[.pointer (some ⟨h, 0, none⟩), .pointer (some ⟨g, 0, none⟩)] ∧ w.cell? ⟨g, 0, none⟩ = some (.int .i64 t) ∧ w.cell? ⟨h, 0, none⟩ = some (toldV g)) ∨
  (∃ (g : Nat) (L : List (BitVec 64)), B ≤ g ∧ T = TC L ∧ u = .func (.func 90) #[] #[.pointer (some ⟨g, 0, none⟩)] ∧ v = .func (.func 91) #[] #[.pointer (some ⟨g, 0, none⟩)] ∧ CronAt w g L)
theorem cell_far {w : World} {g p i : Nat} {x : Value} (h : w.cell? ⟨g, 0, none⟩ = some x) (hn : g ≠ p) (y : Value) : (w.setCell ⟨p, i, none⟩ y).cell? ⟨g, 0, none⟩ = some x := by
  rw [← h]
  simp [World.cell?, Below.heap_setCell w ⟨p, i, none⟩ y g hn]
theorem PlanAt.far {T : Int → Prop} {B p i : Nat} {w : World} {u v : Value} (h : PlanAt T B w u v) (hp : p < B) (y : Value) : PlanAt T B (w.setCell ⟨p, i, none⟩ y) u v := by
  rcases h with ⟨g, h, t, a, b, c, d, e, f, k, l, m⟩ | ⟨g, L, a, b, c, d, e⟩
  · exact .inl ⟨g, h, t, a, b, by simpa using c, by simpa using d, e, f, k, cell_far l (by omega) y, cell_far m (by omega) y⟩
  · exact .inr ⟨g, L, a, b, c, d, e.far (by omega) y⟩
theorem PlanAt.low {T : Int → Prop} {B C : Nat} {w : World} {u v : Value} (h : PlanAt T B w u v) (hc : C ≤ B) : PlanAt T C w u v := by
  rcases h with ⟨g, h, t, a, b, c⟩ | ⟨g, L, a, c⟩
  · exact .inl ⟨g, h, t, by omega, by omega, c⟩
  · exact .inr ⟨g, L, by omega, c⟩
theorem PlanAt.tells {T : Int → Prop} {B : Nat} {w : World} {u v : Value} (h : PlanAt T B w u v) (hL : LaidC w) : PlanIs T w (.agg #[u, v]) := by
  rcases h with ⟨g, h, t, a, b, c, d, rfl, rfl, rfl, l, m⟩ | ⟨g, L, a, rfl, rfl, rfl, e⟩
  · exact plan_alone c d l m
  · exact plan_recurring hL e
set_option maxRecDepth 100000 in
theorem alone_any (t : Int) (w : World) :
    Calls Tryz.prog 54 #[.int .i64 t] w fun x w' => ∃ f g l l', x = .returned (.agg #[.func f #[] l, .func g #[] l']) ∧ PlanAt (fun u => u = t) w.heap.size w' (.func f #[] l) (.func g #[] l') ∧ Below w.heap.size w w' := by
  go_enter Tryz.func54, Tryz.ntmps54
  go_wp2_with fail
  refine bodyPost_ret (v := .agg #[.func (.func 88) #[] #[.pointer (some ⟨w.heap.size + 1 + 1, 0, none⟩), .pointer (some ⟨w.heap.size, 0, none⟩)], .func (.func 89) #[] #[.pointer (some ⟨w.heap.size + 1 + 1, 0, none⟩), .pointer (some ⟨w.heap.size, 0, none⟩)]]) (by simp [results, Tryz.results54, go_sem]) rfl ⟨_, _, _, _, rfl, .inl ⟨w.heap.size, w.heap.size + 1 + 1, t, Nat.le_refl _, by omega, ?_, ?_, rfl, rfl, rfl, ?_, ?_⟩, ?_⟩
  · simp; omega
  · simp
  · exact D.Box.cell (((D.Box.new w 2 #[.int .i64 t]).alloc _).alloc _) 0
  · have hbx := D.Box.new ((w.alloc (.cells #[.int .i64 t] 2)).alloc (.cells #[.func (.func 88) #[] #[.pointer (some ⟨w.heap.size + 1 + 1, 0, none⟩), .pointer (some ⟨w.heap.size, 0, none⟩)], .func (.func 89) #[] #[.pointer (some ⟨w.heap.size + 1 + 1, 0, none⟩), .pointer (some ⟨w.heap.size, 0, none⟩)]] 68)) 146 #[toldV w.heap.size]
    rw [World.size_alloc, World.size_alloc] at hbx
    exact D.Box.cell hbx 0
  · exact (((Below.refl _ w).alloc (Nat.le_refl _) _).alloc (by simp) _).alloc (by simp; omega) _
set_option maxRecDepth 100000 in
theorem recurring_any (L : List (BitVec 64)) (w : World) (h5 : L.length = 5) :
    Calls Tryz.prog 55 #[cronV L] w fun x w' => ∃ f g l l', x = .returned (.agg #[.func f #[] l, .func g #[] l']) ∧ PlanAt (TC L) w.heap.size w' (.func f #[] l) (.func g #[] l') ∧ Below w.heap.size w w' := by
  obtain ⟨p, q, r, s, u, rfl⟩ := list_five h5
  rw [cronV_five] at *
  unfold fiveV at *
  clear h5
  go_enter Tryz.func55, Tryz.ntmps55
  go_wp2_with fail
  refine bodyPost_ret (v := .agg #[.func (.func 90) #[] #[.pointer (some ⟨w.heap.size, 0, none⟩)], .func (.func 91) #[] #[.pointer (some ⟨w.heap.size, 0, none⟩)]]) (by simp [results, Tryz.results55, go_sem]) rfl ⟨_, _, _, _, rfl, .inr ⟨w.heap.size, _, Nat.le_refl _, rfl, rfl, rfl, (CronAt.new w p q r s u).alloc _⟩, ((Below.refl _ w).alloc (Nat.le_refl _) _).alloc (by simp) _⟩
end Go.Proofs.YtbaobjbckabnhaaGreatDoor
