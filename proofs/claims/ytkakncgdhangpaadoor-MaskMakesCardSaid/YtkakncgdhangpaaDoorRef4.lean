/- The plain answers of layer 1: Runs; and slices.Equal at runs. -/
import Derived.Test.YtkakncgdhangpaaDoorRef3
import Derived.Test.YtkakncgdhangpaaDoorRunsM
import Derived.Deep.QuietTactic
import Derived.BigQuiet
namespace Go.Proofs.YtkakncgdhangpaaDoor
open Go.RowKit

theorem flat_at2 (l : List (Nat × Nat)) (k : Nat) (r : Nat × Nat) (h : l[k]? = some r) : (l.flatMap renc)[k * 2]? = some (.int .i64 (r.1 : Int)) ∧ (l.flatMap renc)[k * 2 + 1]? = some (.int .i64 (r.2 : Int)) := by
  induction l generalizing k with
  | nil => simp at h
  | cons a l ih =>
    cases k with
    | zero => simp at h; subst h; simp [renc]
    | succ k =>
      have := ih k (by simpa using h)
      rw [List.flatMap_cons, show renc a = [.int .i64 (a.1 : Int), .int .i64 (a.2 : Int)] from rfl]
      rw [show (k + 1) * 2 = k * 2 + 1 + 1 by omega]
      simpa using this
theorem flat_len2 : ∀ l : List (Nat × Nat), (l.flatMap renc).length = l.length * 2
  | [] => rfl
  | a :: l => by rw [List.flatMap_cons, List.length_append, flat_len2 l, List.length_cons]; simp [renc]; omega
theorem flat_set : ∀ (pre : List (Nat × Nat)) (b e q : Nat), ((pre ++ [(b, e)]).flatMap renc).set (pre.length * 2 + 1) (.int .i64 (q : Int)) = (pre ++ [(b, q)]).flatMap renc
  | [], b, e, q => by simp [renc]
  | a :: pre, b, e, q => by
    rw [List.cons_append, List.flatMap_cons, List.cons_append, List.flatMap_cons, ← flat_set pre b e q, show renc a = [.int .i64 (a.1 : Int), .int .i64 (a.2 : Int)] from rfl, List.length_cons,
      show (pre.length + 1) * 2 + 1 = pre.length * 2 + 1 + 1 + 1 by omega]
    rfl
theorem run_cells2 {w : World} {base : Nat} {A : Option Addr} {c n : Nat} {l : List (Nat × Nat)} (h : w.ownsRow base 46 2 (.slice A n c) n (l.flatMap renc)) (k : Nat) (r : Nat × Nat) (hk : l[k]? = some r) (hn : k < n) :
    ∃ g, A = some ⟨g, 0, none⟩ ∧ g < w.heap.size ∧ w.cell? ⟨g, k * 2, none⟩ = some (.int .i64 (r.1 : Int)) ∧ w.cell? ⟨g, k * 2 + 1, none⟩ = some (.int .i64 (r.2 : Int)) := by
  obtain ⟨f0, f1⟩ := flat_at2 l k r hk
  rcases h.2 with ⟨hv, h0⟩ | ⟨g, cap, cur, hv, hg, hh, _⟩
  · omega
  · injection hv with e1 e2 e3
    subst e1; subst e3
    exact ⟨g, rfl, (Array.getElem?_eq_some_iff.1 hh).1, by rw [h.cellAt _ (by omega), f0], by rw [h.cellAt _ (by omega), f1]⟩

set_option maxRecDepth 100000 in
set_option maxHeartbeats 2000000 in
theorem rruns_any (x : BitVec 64) (w : World) :
    Calls Tryd.prog 22 #[.int .u64 (U x)] w fun e w' => ∃ v, e = .returned v ∧ w'.ownsRow w.heap.size 46 2 v (runsOf x).length ((runsOf x).flatMap renc) ∧ Below w.heap.size w w' := by
  have hlen : (elems x).length ≤ 64 := by rw [pop_eq]; exact pop_le x
  obtain ⟨i0, hi, hz0, hz1, hz2⟩ := info_parts info_run
  go_enter Tryd.func22, Tryd.ntmps22
  go_wp2_with fail
  refine (rall_any x w).mono ?_; rintro e wA ⟨av, rfl, hav, hbA⟩
  obtain ⟨A, c, rfl⟩ := own_slice0 hav
  go_wp2
  go_loopw [3, 9] (fun v i wr => ∃ (k : Nat) (acc : List (Nat × Nat)), k ≤ (elems x).length ∧ i = .int .i64 k ∧ acc.length ≤ k ∧ RInv x k acc ∧ wr.ownsRow wA.heap.size 46 2 v acc.length (acc.flatMap renc) ∧ Below wA.heap.size wA wr) (fun _ i _ => (elems x).length - (intOf i).toNat)
  case atStart => exact ⟨0, [], by omega, rfl, Nat.le_refl _, RInv.zero x, World.ownsRow_nil _ _ _ _, Below.refl _ _⟩
  case round =>
    obtain ⟨k, acc, hk, rfl, hal, hinv, hrow, hb⟩ := hrel
    by_cases hlt : k < (elems x).length
    · have hle := hb.size
      have hq : (elems x)[k]? = some (elems x)[k] := List.getElem?_eq_getElem hlt
      have hcells := own_below hav hb
      obtain ⟨A', c', e1, ha⟩ := own_arr0 hcells (fun k => .int .i64 (nthI ((elems x).map fun k : Nat => (k : Int)) k)) (fun k hk => nthI_row _ k hk)
      cases e1
      obtain ⟨g, o, rfl, hc⟩ := ha k hlt
      dsimp only at hc
      rw [nthI_at x k hlt] at hc
      generalize (elems x)[k] = q at hq hc
      have hq64 := elems_lt (List.mem_of_getElem? hq)
      clear ha hcells
      rcases hh : hasB x ((q : Int) - 1) with _ | _
      · have Hi := Lib.hid (hinv.push hq hh)
        have Hq := Lib.hid hq; clear hq hinv
        go_wp2_with (first
          | (go_at_call 29; refine (rhas_any x ((q : Int) - 1) _).mono ?_; rintro e w' ⟨rfl, rfl⟩)
          | (at_builtin; refine wpList_append_own _ rfl _ _ 44 rfl wA.heap.size 46 i0 (.agg #[.int .i64 0, .int .i64 0]) 2 16 Tryd.underlying44 hi hz0 hz1 hz2 rfl (by decide) _ _ _ rfl (hrow.alloc _) ⟨wr.heap.size, 0, none⟩ 1 1 [.int .i64 (q : Int), .int .i64 (q : Int)] rfl rfl (cells_two _ _ _ _) (by simp [Value.oneCell']) (by unfold maxLen; omega) (by omega) (by simp; omega) ?_; intro v' w5 hown5 hgrow5 _))
        go_roundw
        case rel =>
          exact ⟨k + 1, _, by omega, by go_num, by simp; omega, Hi.out, by simpa [renc] using hown5, (hb.alloc hle (.cells #[.int .i64 (q : Int), .int .i64 (q : Int)] 46)).grown hgrow5 (by simp; omega) (fun j e => (hrow.lt j e).1)⟩
        case measure => simp [intOf]; omega
      · obtain ⟨pre, b, e, rfl, hinv2⟩ := hinv.grow hq hh
        have Hi := Lib.hid hinv2
        have Hq := Lib.hid hq; clear hq hinv hinv2
        obtain ⟨B, d, rfl⟩ := own_slice0 hrow
        have hl1 : (pre ++ [(b, e)]).length = pre.length + 1 := by simp
        rw [hl1] at hrow hal
        obtain ⟨g2, rfl, hg2, k0, k1⟩ := run_cells2 hrow pre.length (b, e) (by simp) (by omega)
        have f1 := hrow.frozenAt (pre.length * 2 + 1)
        have Hst := Lib.hid (hrow.stored (pre.length * 2 + 1) (.int .i64 (q : Int)))
        have Hlo := Lib.hid (fun j e => (hrow.lt j e).1)
        have Hfs := Lib.hid (flat_set pre b e q)
        clear hrow
        rw [hl1]
        have hp0 : (0 : Int) ≤ (pre.length : Int) := by omega
        have hp1 : (pre.length : Int) < (pre.length : Int) + 1 := by omega
        clear hl1
        dsimp only at k0 k1
        generalize hm : pre.length = m at *
        have Hm := Lib.hid hm; clear hm
        go_wp2_with (go_at_call 29; refine (rhas_any x ((q : Int) - 1) _).mono ?_; rintro e w' ⟨rfl, rfl⟩)
        go_roundw
        case rel =>
          refine ⟨k + 1, pre ++ [(b, q)], by omega, by go_num, by simp [Hm.out]; omega, Hi.out, ?_, hb.grown Hst.out.2 (by omega) (fun j e => Hlo.out j e)⟩
          rw [← Hfs.out, List.length_append, Hm.out]
          exact Hst.out.1
        case measure => simp [intOf]; omega
    · have hke : k = (elems x).length := by omega
      have Hf := Lib.hid (RInv.fin (by rw [hke] at hinv; exact hinv))
      clear hinv hke
      go_wp2
      go_ret
      exact ⟨_, rfl, by rw [← Hf.out]; exact own_mono hrow hbA.size, gr_trans' hbA hb⟩
end Go.Proofs.YtkakncgdhangpaaDoor
