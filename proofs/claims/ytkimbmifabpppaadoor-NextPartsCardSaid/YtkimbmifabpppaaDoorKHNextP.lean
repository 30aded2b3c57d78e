/- Next, Last and Ever: walked, of the program. -/
import Derived.Test.YtkimbmifabpppaaDoorKHSearch
import Derived.Test.YtkimbmifabpppaaDoorKHWindow
namespace Go.Proofs.YtkimbmifabpppaaDoor
open Go.RowKit

/-- What Next comes to. -/
def NextIs (L : List (BitVec 64)) (a : Int) (x : Ending) : Prop :=
  (∃ t : Int, IsNext (TC L) a t ∧ x = .returned (.tuple #[.int .i64 t, .bool true])) ∨ (NoNext (TC L) a ∧ x = .returned (.tuple #[.int .i64 0, .bool false]))
def LastIs (L : List (BitVec 64)) (a : Int) (x : Ending) : Prop :=
  (∃ t : Int, IsLast (TC L) a t ∧ x = .returned (.tuple #[.int .i64 t, .bool true])) ∨ (NoLast (TC L) a ∧ x = .returned (.tuple #[.int .i64 0, .bool false]))
theorem next_of_search {L : List (BitVec 64)} (hk : crB L = true) {a : Int} {x : Ending} (h : SearchIs L (dayOf a) 1 (fun u => decide (a < u) = true) x) : NextIs L a x := by
  simp only [decide_eq_true_eq] at h
  rcases h with ⟨k, u, hk2, hn, hh, rfl⟩ | ⟨hn, rfl⟩
  · exact .inl ⟨u, next_hit hk hk2 hn hh, rfl⟩
  · exact .inr ⟨next_miss hn, rfl⟩
theorem last_of_search {L : List (BitVec 64)} (hk : crB L = true) {a : Int} {x : Ending} (h : SearchIs L (dayOf a) (-1) (fun u => decide (u ≤ a) = true) x) : LastIs L a x := by
  simp only [decide_eq_true_eq] at h
  rcases h with ⟨k, u, hk2, hn, hh, rfl⟩ | ⟨hn, rfl⟩
  · exact .inl ⟨u, last_hit hk hk2 hn hh, rfl⟩
  · exact .inr ⟨last_miss hn, rfl⟩
theorem enters_next : ∀ (args : Array Value) (W : World), (callFunc 27 args).run Tryd.prog W = .ok (.enter 27 args) W := enters_of Tryd.func27 (by kernel_rfl) rfl
theorem enters_last : ∀ (args : Array Value) (W : World), (callFunc 28 args).run Tryd.prog W = .ok (.enter 28 args) W := enters_of Tryd.func28 (by kernel_rfl) rfl
theorem search_next (L : List (BitVec 64)) (a : Int) (p : Nat) (w : World) (hL : LaidC w) (h5 : L.length = 5) (hp : p < w.heap.size) (hb : w.cell? ⟨p, 0, none⟩ = some (.int .i64 a)) :
    Calls Tryd.prog 26 #[cronV L, .int .i64 a, .int .i64 1, .func (.func 27) #[] #[.pointer (some ⟨p, 0, none⟩)]] w fun x w' => NextIs L a x ∧ Below w.heap.size w w' := by
  cases hk : crB L with
  | false =>
    refine (search_no L a 1 _ p w hL h5 hk).mono ?_
    rintro x w' ⟨rfl, h⟩
    exact ⟨.inr ⟨(fun u hu => absurd (hk.symm.trans hu.1) (by simp)), rfl⟩, h⟩
  | true =>
    refine (callsIn_wide.1 (search_in 3 (by omega) L a 1 27 p (fun u => decide (a < u)) w hL h5 hk (.inl rfl) enters_next (fun u W hW => sought_next u a p W ((hW.cell (p := ⟨p, 0, none⟩) hp).trans hb)))).mono ?_
    rintro x w' ⟨h, h2⟩
    exact ⟨next_of_search hk h, h2⟩
theorem search_last (L : List (BitVec 64)) (a : Int) (p : Nat) (w : World) (hL : LaidC w) (h5 : L.length = 5) (hp : p < w.heap.size) (hb : w.cell? ⟨p, 0, none⟩ = some (.int .i64 a)) :
    Calls Tryd.prog 26 #[cronV L, .int .i64 a, .int .i64 (-1), .func (.func 28) #[] #[.pointer (some ⟨p, 0, none⟩)]] w fun x w' => LastIs L a x ∧ Below w.heap.size w w' := by
  cases hk : crB L with
  | false =>
    refine (search_no L a (-1) _ p w hL h5 hk).mono ?_
    rintro x w' ⟨rfl, h⟩
    exact ⟨.inr ⟨(fun u hu => absurd (hk.symm.trans hu.1) (by simp)), rfl⟩, h⟩
  | true =>
    refine (callsIn_wide.1 (search_in 3 (by omega) L a (-1) 28 p (fun u => decide (u ≤ a)) w hL h5 hk (.inr rfl) enters_last (fun u W hW => sought_last u a p W ((hW.cell (p := ⟨p, 0, none⟩) hp).trans hb)))).mono ?_
    rintro x w' ⟨h, h2⟩
    exact ⟨last_of_search hk h, h2⟩
theorem pair_cells (w : World) (a b c d e : BitVec 64) (t : Int) :
    ∃ W : World, W = (w.alloc (.cells #[.int .u64 (U a), .int .u64 (U b), .int .u64 (U c), .int .u64 (U d), .int .u64 (U e)] 25)).alloc (.cells #[.int .i64 t] 2) ∧ Below w.heap.size w W ∧ CronAt W w.heap.size [a, b, c, d, e] ∧ D.Box W (w.heap.size + 1) 2 #[.int .i64 t] ∧ W.heap.size = w.heap.size + 2 := by
  refine ⟨_, rfl, ((Below.refl _ w).alloc (Nat.le_refl _) _).alloc (by simp) _, (CronAt.new w a b c d e).alloc _, ?_, by simp⟩
  have := D.Box.new (w.alloc (.cells #[.int .u64 (U a), .int .u64 (U b), .int .u64 (U c), .int .u64 (U d), .int .u64 (U e)] 25)) 2 #[.int .i64 t]
  rwa [World.size_alloc] at this
set_option maxRecDepth 100000 in
theorem next_any (L : List (BitVec 64)) (t : Int) (w : World) (hL : LaidC w) (h5 : L.length = 5) :
    Calls Tryd.prog 11 #[cronV L, .int .i64 t] w fun x w' => NextIs L t x ∧ Below w.heap.size w w' := by
  obtain ⟨a, b, c, d, e, rfl⟩ := list_five h5
  obtain ⟨W, hW, hb, hc, hx, hs⟩ := pair_cells w a b c d e t
  have HS := Lib.hid (search_next [a, b, c, d, e] t (w.heap.size + 1) W (hL.on hb) rfl (by omega) hx.one.1)
  have HB := Lib.hid hb
  obtain ⟨c0, c1, c2, c3, c4⟩ := hc.five
  obtain ⟨e0, _⟩ := hx.one
  clear hL h5 hb hs hx hc
  rw [cronV_five] at *
  unfold fiveV at *
  go_enter Tryd.func11, Tryd.ntmps11
  go_wp2_with fail
  rw [← hW]
  clear hW
  refine HS.out.mono ?_
  rintro x w' ⟨h, hb⟩
  have HB2 := Lib.hid (HB.out.trans (hb.mono HB.out.size))
  clear hb HS
  rcases h with ⟨u, hu, rfl⟩ | ⟨hn, rfl⟩
  · have HU := Lib.hid hu
    clear hu
    go_wp2_with fail
    exact bodyPost_ret (v := .tuple #[.int .i64 u, .bool true]) (by simp [results, Tryd.results11, go_sem]) rfl ⟨.inl ⟨u, HU.out, rfl⟩, HB2.out⟩
  · have HU := Lib.hid hn
    clear hn
    go_wp2_with fail
    exact bodyPost_ret (v := .tuple #[.int .i64 0, .bool false]) (by simp [results, Tryd.results11, go_sem]) rfl ⟨.inr ⟨HU.out, rfl⟩, HB2.out⟩
set_option maxRecDepth 100000 in
theorem nlast_any (L : List (BitVec 64)) (t : Int) (w : World) (hL : LaidC w) (h5 : L.length = 5) :
    Calls Tryd.prog 12 #[cronV L, .int .i64 t] w fun x w' => LastIs L t x ∧ Below w.heap.size w w' := by
  obtain ⟨a, b, c, d, e, rfl⟩ := list_five h5
  obtain ⟨W, hW, hb, hc, hx, hs⟩ := pair_cells w a b c d e t
  have HS := Lib.hid (search_last [a, b, c, d, e] t (w.heap.size + 1) W (hL.on hb) rfl (by omega) hx.one.1)
  have HB := Lib.hid hb
  obtain ⟨c0, c1, c2, c3, c4⟩ := hc.five
  obtain ⟨e0, _⟩ := hx.one
  clear hL h5 hb hs hx hc
  rw [cronV_five] at *
  unfold fiveV at *
  go_enter Tryd.func12, Tryd.ntmps12
  go_wp2_with fail
  rw [← hW]
  clear hW
  refine HS.out.mono ?_
  rintro x w' ⟨h, hb⟩
  have HB2 := Lib.hid (HB.out.trans (hb.mono HB.out.size))
  clear hb HS
  rcases h with ⟨u, hu, rfl⟩ | ⟨hn, rfl⟩
  · have HU := Lib.hid hu
    clear hu
    go_wp2_with fail
    exact bodyPost_ret (v := .tuple #[.int .i64 u, .bool true]) (by simp [results, Tryd.results12, go_sem]) rfl ⟨.inl ⟨u, HU.out, rfl⟩, HB2.out⟩
  · have HU := Lib.hid hn
    clear hn
    go_wp2_with fail
    exact bodyPost_ret (v := .tuple #[.int .i64 0, .bool false]) (by simp [results, Tryd.results12, go_sem]) rfl ⟨.inr ⟨HU.out, rfl⟩, HB2.out⟩
/-- Whether a time's day is within the Horizon. -/
def EverZ (L : List (BitVec 64)) : Prop := ∃ u, TC L u ∧ u / 86400 ≤ 2922
theorem ever_of_next {L : List (BitVec 64)} {t : Int} (h : IsNext (TC L) (-1) t) : EverZ L := ⟨t, h.1, by have := h.2.2.1; have e : dayOf (-1) = 0 := rfl; omega⟩
theorem never_of_next {L : List (BitVec 64)} (h : NoNext (TC L) (-1)) : ¬ EverZ L := by
  rintro ⟨u, hu, h2⟩
  have := h u hu (by have := hu.2.1.1; omega)
  have e : dayOf (-1) = 0 := rfl
  omega
set_option maxRecDepth 100000 in
theorem ever_any (L : List (BitVec 64)) (w : World) (hL : LaidC w) (h5 : L.length = 5) :
    Calls Tryd.prog 15 #[cronV L] w fun x w' => ∃ z : Bool, x = .returned (.bool z) ∧ (z = true ↔ EverZ L) ∧ Below w.heap.size w w' := by
  obtain ⟨a, b, c, d, e, rfl⟩ := list_five h5
  obtain ⟨W, hW, hb, hc⟩ : ∃ W : World, W = w.alloc (.cells #[.int .u64 (U a), .int .u64 (U b), .int .u64 (U c), .int .u64 (U d), .int .u64 (U e)] 25) ∧ Below w.heap.size w W ∧ CronAt W w.heap.size [a, b, c, d, e] := ⟨_, rfl, (Below.refl _ w).alloc (Nat.le_refl _) _, CronAt.new w a b c d e⟩
  have HS := Lib.hid (next_any [a, b, c, d, e] (-1) W (hL.on hb) rfl)
  have HB := Lib.hid hb
  obtain ⟨c0, c1, c2, c3, c4⟩ := hc.five
  clear hL h5 hb hc
  rw [cronV_five] at *
  unfold fiveV at *
  go_enter Tryd.func15, Tryd.ntmps15
  go_wp2_with fail
  rw [← hW]
  clear hW
  refine HS.out.mono ?_
  rintro x w' ⟨h, hb⟩
  have HB2 := Lib.hid (HB.out.trans (hb.mono HB.out.size))
  clear hb HS
  rcases h with ⟨u, hu, rfl⟩ | ⟨hn, rfl⟩
  · have HU := Lib.hid (ever_of_next hu)
    clear hu
    go_wp2_with fail
    go_ret
    exact ⟨true, rfl, ⟨fun _ => HU.out, fun _ => rfl⟩, HB2.out⟩
  · have HU := Lib.hid (never_of_next hn)
    clear hn
    go_wp2_with fail
    go_ret
    exact ⟨false, rfl, ⟨fun h => (by cases h), fun h => absurd h HU.out⟩, HB2.out⟩
end Go.Proofs.YtkimbmifabpppaaDoor
