/- MaskBack walked. -/
import Derived.Test.YtkakncgdhangpaaDoorBackM
import Derived.Test.YtkakncgdhangpaaDoorWakes
import Derived.Test.YtkakncgdhangpaaDoorSets
import Derived.Deep.QuietTactic
import Derived.BigQuiet
import Derived.Deep.RegionHeld3
import Derived.Deep.DeepCutAuto
namespace Go.Proofs.YtkakncgdhangpaaDoor
open Go.RowKit

theorem own_arr {w : World} {base : Nat} {e : TypeId} {v : Value} {n : Nat} {xs : List Value} (h : w.ownsRow base e 1 v n xs) (f : Nat → Value) (hf : ∀ k, k < n → xs[k]? = some (f k)) : ∃ A c, v = .slice A n c ∧ Arr w A n f := by
  rcases h.2 with ⟨rfl, rfl⟩ | ⟨g, cap, cur, rfl, hg, hh, r⟩
  · exact ⟨_, _, rfl, fun k hk => absurd hk (by omega)⟩
  · refine ⟨_, _, rfl, fun k hk => ⟨g, 0, rfl, ?_⟩⟩
    rw [Nat.zero_add, h.cellAt k (by omega), hf k hk]
theorem nthI_elems (x : BitVec 64) (k : Nat) (hk : k < (elems x).length) : ((elems x).map ienc)[k]? = some (.int .i64 (nthI ((elems x).map fun k : Nat => (k : Int)) k)) := by
  unfold nthI
  rw [List.getElem?_map, List.getD_eq_getElem?_getD, List.getElem?_map, List.getElem?_eq_getElem hk]
  rfl
theorem of_all (x : BitVec 64) (v : Value) (base : Nat) (w : World) (h : w.ownsRow base 3 1 v (elems x).length ((elems x).map ienc)) :
    Calls Tryd.prog 12 #[v] w fun e w' => e = .returned (.tuple #[.int .u64 (U x), .int .i64 0]) ∧ w = w' := by
  obtain ⟨A, c, rfl, ha⟩ := own_arr h (fun k => .int .i64 (nthI ((elems x).map fun k : Nat => (k : Int)) k)) (fun k hk => nthI_elems x k hk)
  have hl : (elems x).length ≤ 64 := by rw [pop_eq]; exact pop_le x
  have := of_any A (elems x).length c ((elems x).map fun k : Nat => (k : Int)) w (by simp) (by unfold maxLen; omega) ha
  rw [ofs_elems] at this
  exact this
theorem info_mask : (Tryd.prog.info? 28).map (fun i => (i.zero, i.size, i.bytes)) = some (some (.int .u64 0), 1, 8) := by kernel_rfl
def menc (m : BitVec 64) : Value := .int .u64 (U m)

/-- What stands between two rounds: those that have been stand in the row of masks. -/
structure BackRel (x : BitVec 64) (wA : World) (k : Nat) (av : Value) (wr : World) : Prop where
  le : k ≤ (runsOf x).length
  all : wr.ownsRow wA.heap.size 28 1 av k (((runsOf x).take k).map fun r => menc (segOf r))
  below : Below wA.heap.size wA wr

theorem flat_at (l : List (Nat × Nat)) (k : Nat) (r : Nat × Nat) (h : l[k]? = some r) : (l.flatMap renc)[k * 2]? = some (.int .i64 (r.1 : Int)) ∧ (l.flatMap renc)[k * 2 + 1]? = some (.int .i64 (r.2 : Int)) := by
  induction l generalizing k with
  | nil => simp at h
  | cons a l ih =>
    cases k with
    | zero => simp at h; subst h; simp [renc]
    | succ k =>
      have := ih k (by simpa using h)
      rw [List.flatMap_cons, show renc a = [.int .i64 (a.1 : Int), .int .i64 (a.2 : Int)] from rfl]
      rw [show (k + 1) * 2 = k * 2 + 1 + 1 by omega]
      simpa using this
theorem run_cells {w : World} {base : Nat} {A : Option Addr} {c : Nat} {l : List (Nat × Nat)} (h : w.ownsRow base 46 2 (.slice A l.length c) l.length (l.flatMap renc)) (k : Nat) (r : Nat × Nat) (hk : l[k]? = some r) :
    ∃ g, A = some ⟨g, 0, none⟩ ∧ g < w.heap.size ∧ w.cell? ⟨g, k * 2, none⟩ = some (.int .i64 (r.1 : Int)) ∧ w.cell? ⟨g, k * 2 + 1, none⟩ = some (.int .i64 (r.2 : Int)) := by
  have hlt : k < l.length := (List.getElem?_eq_some_iff.1 hk).1
  obtain ⟨f0, f1⟩ := flat_at l k r hk
  rcases h.2 with ⟨hv, h0⟩ | ⟨g, cap, cur, hv, hg, hh, _⟩
  · omega
  · injection hv with e1 e2 e3
    subst e1; subst e3
    exact ⟨g, rfl, (Array.getElem?_eq_some_iff.1 hh).1, by rw [h.cellAt _ (by omega), f0], by rw [h.cellAt _ (by omega), f1]⟩

theorem act_put_some (l : List Value) (df : List Deferred) (d : Nat) (v : Value) : Act.put { tmps := l.toArray, defers := df } (some d) v = { tmps := (l.set d v).toArray, defers := df } := by simp [Act.put]
theorem set0 (a v : Value) (l : List Value) : (a :: l).set 0 v = v :: l := rfl
theorem set1 (a v : Value) (l : List Value) (n : Nat) : (a :: l).set (n + 1) v = a :: l.set n v := rfl
theorem held_weaken {P : Program} {md : Region.Mode} {ops : Array Oper} {Q : Exit → Act → World → Prop} {S S' : World → Prop} (h : ∀ w, S' w → S w) :
    ∀ (fuel : Nat) (listed : Array Bool) (a : Act) (w : World), wpAnyH P md ops Q S' fuel listed a w → wpAnyH P md ops Q S fuel listed a w
  | 0, _, _, _, k => k
  | fuel + 1, _, _, _, k => ⟨k.1, fun i hi => wpOp_mono (fun a' w' k' => ⟨h _ k'.1, held_weaken h fuel _ a' w' k'.2⟩) (k.2 i hi)⟩
theorem tab_drew {w : World} (h : Tab w) : Tab w.drew := h
theorem prev_gap {x : BitVec 64} {j a b : Nat} (h : (runsOf x)[j + 1]? = some (a, b)) : ∃ p, (runsOf x)[j]? = some p ∧ p.2 + 1 < a ∧ a < 64 := by
  obtain ⟨hl, he⟩ := List.getElem?_eq_some_iff.1 h
  have hp := List.pairwise_iff_getElem.1 (runs_gap x) j (j + 1) (by omega) hl (by omega)
  rw [he] at hp
  obtain ⟨k, e, h1, h2, h3, h4, _⟩ := run_mem (List.mem_of_getElem? h)
  injection h1 with h1 h5
  exact ⟨_, List.getElem?_eq_getElem (by omega), hp, by omega⟩
theorem runs_prev (x : BitVec 64) (j n : Nat) (hn : (runsOf x).length = n) {p : Nat × Nat} (hp : (runsOf x)[j]? = some p) (W : World) (hT : Tab W) (hg : 0 < W.heap.size) :
    Calls Tryd.prog 21 #[.int .u64 (U x)] W fun e W' => ∃ g2 c2, e = .returned (.slice (some ⟨g2, 0, none⟩) n c2) ∧ W'.cell? ⟨g2, j * 2 + 1, none⟩ = some (.int .i64 (p.2 : Int)) ∧ Below W.heap.size W W' := by
  refine (runs_any x W hT hg).mono ?_
  rintro e W' ⟨v, rfl, hv, hb⟩
  have hl : j < (runsOf x).length := (List.getElem?_eq_some_iff.1 hp).1
  rcases hv.2 with ⟨_, h0⟩ | ⟨g, cap, cur, rfl, hgg⟩
  · omega
  · obtain ⟨g', e1, _, _, c1⟩ := run_cells hv j p hp
    cases e1
    rw [hn]
    exact ⟨_, _, rfl, c1, hb⟩

set_option maxRecDepth 100000 in
set_option maxHeartbeats 1000000 in
theorem back_walk (x : BitVec 64) (w : World) (hT : Tab w) (hg : 0 < w.heap.size) :
    Calls Tryd.prog 6 #[.int .u64 (U x)] w fun e w' => e = .returned (.bool true) ∧ Below w.heap.size w w' := by
  have e1 : (U x != U x) = false := U_ne rfl
  obtain ⟨i0, hi, hz0, hz1, hz2⟩ := info_parts info_mask
  go_enter Tryd.func6, Tryd.ntmps6
  go_wp2_with fail
  refine (wakes_any w hT hg).mono ?_; rintro e w1 ⟨rfl, hb1⟩
  have hT1 := hT.below hg hb1
  have hg1 : 0 < w1.heap.size := Nat.lt_of_lt_of_le hg hb1.size
  clear hT hg
  go_wp2_with fail
  refine (all_any x w1 hT1 hg1).mono ?_; rintro e w2 ⟨v, rfl, hv, hb2⟩
  go_wp2_with fail
  refine (of_all x v _ w2 hv).mono ?_; rintro e w3 ⟨rfl, rfl⟩
  have hT2 := hT1.below hg1 hb2
  have hg2 : 0 < w2.heap.size := Nat.lt_of_lt_of_le hg1 hb2.size
  clear hT1 hg1 hv
  go_wp2_with fail
  refine (runs_any x w2 hT2 hg2).mono ?_; rintro e w3 ⟨rv, rfl, hr, hb3⟩
  have hT3 := hT2.below hg2 hb3
  have hg3 : 0 < w3.heap.size := Nat.lt_of_lt_of_le hg2 hb3.size
  clear hT2 hg2
  obtain ⟨len, cap, rfl, hlen⟩ : ∃ A c, rv = .slice A (runsOf x).length c ∧ True := by
    rcases hr.2 with ⟨rfl, h⟩ | ⟨g, cap, cur, rfl, _⟩
    · exact ⟨none, 0, by rw [h], trivial⟩
    · exact ⟨_, _, rfl, trivial⟩
  have hn64 : (runsOf x).length ≤ 64 := by
    unfold runsOf; rw [List.length_map, pop_eq]; exact pop_le _
  go_wp2
  go_loopw [5, 28] (fun av i wr => ∃ k : Nat, i = .int .i64 k ∧ BackRel x w3 k av wr) (fun _ i _ => (runsOf x).length - (intOf i).toNat)
  case atStart => exact ⟨0, rfl, Nat.zero_le _, World.ownsRow_nil _ _ _ _, Below.refl _ _⟩
  case round =>
    obtain ⟨k, rfl, hR⟩ := hrel
    obtain ⟨hk, hall, hbw⟩ := hR
    have hruns := own_below hr hbw
    by_cases hlt : k < (runsOf x).length
    · obtain ⟨r, hrk⟩ : ∃ r, (runsOf x)[k]? = some r := ⟨_, List.getElem?_eq_getElem hlt⟩
      obtain ⟨g, rfl, hgl, c0, c1⟩ := run_cells hruns k r hrk
      have hmem : r ∈ runsOf x := List.mem_of_getElem? hrk
      have hsp := fun w => span_any r.1 r.2 1 w
      simp only [run_span hmem, maskErr] at hsp
      obtain ⟨a, b⟩ := r
      dsimp only at c0 c1 hsp
      generalize hs : segOf (a, b) = sg at *
      have Hs := Lib.hid hs; clear hs
      have HS := Lib.hid hsp; clear hsp
      have Hrk := Lib.hid hrk; clear hrk
      generalize hn : (runsOf x).length = n at *
      have Hn := Lib.hid hn; clear hn
      go_upto_region 11 with (go_at_call 15; refine (HS.out _).mono ?_; rintro e w4 ⟨rfl, rfl⟩)
      have hbn := hbw.alloc hbw.size (.cells #[.int .i64 (a : Int), .int .i64 (b : Int)] 46)
      go_cut [59] (fun s59 wx => s59 = .bool false ∧ Below (wr.heap.size + 1) (wr.alloc (.cells #[.int .i64 (a : Int), .int .i64 (b : Int)] 46)) wx)
      case first =>
        by_cases hk0 : k = 0
        · subst hk0
          go_quiet (fail)
          go_wp2_with fail
          go_meet
          exact ⟨rfl, ⟨rfl, rfl, rfl, Nat.le_refl _, fun _ _ => rfl⟩⟩
        · obtain ⟨j, rfl⟩ : ∃ j, k = j + 1 := ⟨k - 1, by omega⟩
          obtain ⟨p, hpj, hgap, ha64⟩ := prev_gap Hrk.out
          have hTn : Tab (wr.alloc (.cells #[.int .i64 (a : Int), .int .i64 (b : Int)] 46)) := hT3.below hg3 hbn
          have HR := Lib.hid (runs_prev x j n Hn.out hpj)
          have hle : ((p.2 : Int)) + 1 < (a : Int) := by omega
          have hp64 : (p.2 : Int) ≤ 64 := by omega
          have hj : (j : Int) < (n : Int) := by omega
          have hj0 : (0 : Int) ≤ (j : Int) := by omega
          have hwj : IntKind.i64.wrap (j : Int) = (j : Int) := by rw [IntKind.wrap_i64]; omega
          have hwp : IntKind.i64.wrap ((p.2 : Int) + 1) = (p.2 : Int) + 1 := by rw [IntKind.wrap_i64]; omega
          have hdec : decide ((a : Int) ≤ (p.2 : Int) + 1) = false := by simp; omega
          have ca : (wr.alloc (.cells #[.int .i64 (a : Int), .int .i64 (b : Int)] 46)).cell? ⟨wr.heap.size, 0, none⟩ = some (.int .i64 (a : Int)) := by go_simp
          refine wp_region_noPanic ?_
          refine wp_region_held_drew (S := fun w' => w'.cell? ⟨wr.heap.size, 0, none⟩ = some (.int .i64 (a : Int))) (by kernel_rfl) ca ?_
          intro hS0
          refine wpAnyH_take (i := 0) (oi := { dst := some 41, op := _, type := _, pos := _, after := _, guard := _ }) (v := ?_) rfl (by kernel_rfl) (by kernel_rfl) (by kernel_rfl) (fun _ _ _ h => h) (Or.inl ⟨by rfl, ?_⟩) hS0 ?_
          rotate_left
          · intro wS hSw; first | (go_simp; done) | (go_simp; with_reducible rfl) | with_reducible rfl
          simp only [act_put_some, set0, set1]
          refine wpAnyH_take (i := 1) (oi := { dst := some 42, op := _, type := _, pos := _, after := _, guard := _ }) (v := ?_) rfl (by kernel_rfl) (by kernel_rfl) (by kernel_rfl) (fun _ _ _ h => h) (Or.inl ⟨by rfl, ?_⟩) hS0 ?_
          rotate_left
          · intro wS hSw; first | (go_simp; done) | (go_simp; with_reducible rfl) | with_reducible rfl
          simp only [act_put_some, set0, set1]
          refine wpAnyH_take (i := 2) (oi := { dst := some 43, op := _, type := _, pos := _, after := _, guard := _ }) (v := ?_) rfl (by kernel_rfl) (by kernel_rfl) (by kernel_rfl) (fun _ _ _ h => h) (Or.inl ⟨by rfl, ?_⟩) hS0 ?_
          rotate_left
          · intro wS hSw; first | (go_simp; done) | (go_simp; with_reducible rfl) | with_reducible rfl
          simp only [act_put_some, set0, set1]
          refine wpAnyH_take (i := 3) (oi := { dst := some 44, op := _, type := _, pos := _, after := _, guard := _ }) (v := ?_) rfl (by kernel_rfl) (by kernel_rfl) (by kernel_rfl) (fun _ _ _ h => h) (Or.inl ⟨by rfl, ?_⟩) hS0 ?_
          rotate_left
          · intro wS hSw; first | (go_simp; done) | (go_simp; with_reducible rfl) | with_reducible rfl
          simp only [act_put_some, set0, set1]
          refine wpAnyH_take (i := 4) (oi := { dst := some 45, op := _, type := _, pos := _, after := _, guard := _ }) (v := ?_) rfl (by kernel_rfl) (by kernel_rfl) (by kernel_rfl) (fun _ _ _ h => h) (Or.inl ⟨by rfl, ?_⟩) hS0 ?_
          rotate_left
          · intro wS hSw; first | (go_simp; done) | (go_simp; with_reducible rfl) | with_reducible rfl
          simp only [act_put_some, set0, set1]
          refine wpAnyH_take (i := 5) (oi := { dst := some 46, op := _, type := _, pos := _, after := _, guard := _ }) (v := ?_) rfl (by kernel_rfl) (by kernel_rfl) (by kernel_rfl) (fun _ _ _ h => h) (Or.inl ⟨by rfl, ?_⟩) hS0 ?_
          rotate_left
          · intro wS hSw; first | (go_simp; done) | (go_simp; with_reducible rfl) | with_reducible rfl
          simp only [act_put_some, set0, set1]
          refine wpAnyH_take (i := 6) (oi := { dst := some 47, op := _, type := _, pos := _, after := _, guard := _ }) (v := ?_) rfl (by kernel_rfl) (by kernel_rfl) (by kernel_rfl) (fun _ _ _ h => h) (Or.inl ⟨by rfl, ?_⟩) hS0 ?_
          rotate_left
          · intro wS hSw; first | (go_simp; done) | (go_simp; with_reducible rfl) | with_reducible rfl
          simp only [act_put_some, set0, set1]
          refine wpAnyH_take (i := 8) (oi := { dst := some 49, op := _, type := _, pos := _, after := _, guard := _ }) (v := ?_) rfl (by kernel_rfl) (by kernel_rfl) (by kernel_rfl) (fun _ _ _ h => h) (Or.inl ⟨by rfl, ?_⟩) hS0 ?_
          rotate_left
          · intro wS hSw; first | (go_simp; done) | (go_simp; with_reducible rfl) | with_reducible rfl
          simp only [act_put_some, set0, set1]
          refine wpAnyH_take (i := 9) (oi := { dst := some 50, op := _, type := _, pos := _, after := _, guard := _ }) (v := ?_) rfl (by kernel_rfl) (by kernel_rfl) (by kernel_rfl) (fun _ _ _ h => h) (Or.inl ⟨by rfl, ?_⟩) hS0 ?_
          rotate_left
          · intro wS hSw; first | (go_simp; done) | (go_simp; with_reducible rfl) | with_reducible rfl
          simp only [act_put_some, set0, set1]
          refine wpAnyH_take (i := 14) (oi := { dst := some 55, op := _, type := _, pos := _, after := _, guard := _ }) (v := ?_) rfl (by kernel_rfl) (by kernel_rfl) (by kernel_rfl) (fun _ _ _ h => h) (Or.inl ⟨by rfl, ?_⟩) hS0 ?_
          rotate_left
          · intro wS hSw; first | (go_simp; done) | (go_simp; with_reducible rfl) | with_reducible rfl
          simp only [act_put_some, set0, set1]
          refine wpAnyH_take (i := 15) (oi := { dst := some 56, op := _, type := _, pos := _, after := _, guard := _ }) (v := ?_) rfl (by kernel_rfl) (by kernel_rfl) (by kernel_rfl) (fun _ _ _ h => h) (Or.inl ⟨by rfl, ?_⟩) hS0 ?_
          rotate_left
          · intro wS hSw; first | (go_simp; done) | (go_simp; with_reducible rfl) | with_reducible rfl
          simp only [act_put_some, set0, set1]
          refine wpAnyH_ready (rs := [7]) (by kernel_rfl) (by simp) ?_
          refine AllReadyH.cons (o := { dst := some 48, op := _, type := _, pos := _, after := _, guard := _ }) rfl (fun K hK => ?_) AllReadyH.nil
          go_simp
          refine (HR.out _ (tab_drew hTn) (by simp)).mono ?_
          rintro e w6 ⟨g2, c2, rfl, hc2, hb6⟩
          have hca := ((below_cell hb6).1 wr.heap.size 0 (by simp)).trans ca
          refine hK.out _ _ hca (fun _ => held_weaken (S' := fun w' => w'.cell? ⟨wr.heap.size, 0, none⟩ = some (.int .i64 (a : Int)) ∧ w'.cell? ⟨g2, j * 2 + 1, none⟩ = some (.int .i64 (p.2 : Int))) (fun w h => h.1) _ _ _ _ ?_)
          clear hK K
          have hS1 : w6.cell? ⟨wr.heap.size, 0, none⟩ = some (.int .i64 (a : Int)) ∧ w6.cell? ⟨g2, j * 2 + 1, none⟩ = some (.int .i64 (p.2 : Int)) := ⟨hca, hc2⟩
          try simp only [act_put_some, set0, set1]
          refine wpAnyH_take (i := 10) (oi := { dst := some 51, op := _, type := _, pos := _, after := _, guard := _ }) (v := ?_) rfl (by kernel_rfl) (by kernel_rfl) (by kernel_rfl) (fun _ _ _ h => h) (Or.inl ⟨by rfl, ?_⟩) hS1 ?_
          rotate_left
          · intro wS hSw; first | (go_simp; done) | (go_simp; with_reducible rfl) | with_reducible rfl
          simp only [act_put_some, set0, set1]
          refine wpAnyH_take (i := 11) (oi := { dst := some 52, op := _, type := _, pos := _, after := _, guard := _ }) (v := ?_) rfl (by kernel_rfl) (by kernel_rfl) (by kernel_rfl) (fun _ _ _ h => h) (Or.inl ⟨by rfl, ?_⟩) hS1 ?_
          rotate_left
          · intro wS hSw; first | (go_simp; done) | (go_simp; with_reducible rfl) | with_reducible rfl
          simp only [act_put_some, set0, set1]
          refine wpAnyH_take (i := 12) (oi := { dst := some 53, op := _, type := _, pos := _, after := _, guard := _ }) (v := ?_) rfl (by kernel_rfl) (by kernel_rfl) (by kernel_rfl) (fun _ _ _ h => h) (Or.inl ⟨by rfl, ?_⟩) hS1 ?_
          rotate_left
          · intro wS hSw; first | (go_simp; done) | (go_simp; with_reducible rfl) | with_reducible rfl
          simp only [act_put_some, set0, set1]
          refine wpAnyH_take (i := 13) (oi := { dst := some 54, op := _, type := _, pos := _, after := _, guard := _ }) (v := ?_) rfl (by kernel_rfl) (by kernel_rfl) (by kernel_rfl) (fun _ _ _ h => h) (Or.inl ⟨by rfl, ?_⟩) hS1 ?_
          rotate_left
          · intro wS hSw; first | (go_simp; done) | (go_simp; with_reducible rfl) | with_reducible rfl
          simp only [act_put_some, set0, set1]
          refine wpAnyH_take (i := 16) (oi := { dst := some 57, op := _, type := _, pos := _, after := _, guard := _ }) (v := ?_) rfl (by kernel_rfl) (by kernel_rfl) (by kernel_rfl) (fun _ _ _ h => h) (Or.inl ⟨by rfl, ?_⟩) hS1 ?_
          rotate_left
          · intro wS hSw; first | (go_simp; done) | (go_simp; with_reducible rfl) | with_reducible rfl
          simp only [act_put_some, set0, set1]
          refine wpAnyH_take (i := 17) (oi := { dst := some 58, op := _, type := _, pos := _, after := _, guard := _ }) (v := ?_) rfl (by kernel_rfl) (by kernel_rfl) (by kernel_rfl) (fun _ _ _ h => h) (Or.inl ⟨by rfl, ?_⟩) hS1 ?_
          rotate_left
          · intro wS hSw; first | (go_simp; done) | (go_simp; with_reducible rfl) | with_reducible rfl
          simp only [act_put_some, set0, set1]
          refine wpAnyH_take (i := 18) (oi := { dst := some 59, op := _, type := _, pos := _, after := _, guard := _ }) (v := ?_) rfl (by kernel_rfl) (by kernel_rfl) (by kernel_rfl) (fun _ _ _ h => h) (Or.inl ⟨by rfl, ?_⟩) hS1 ?_
          rotate_left
          · intro wS hSw; first | (go_simp; done) | (go_simp; with_reducible rfl) | with_reducible rfl
          simp only [act_put_some, set0, set1]
          refine wpAnyH_done (by kernel_rfl) ?_ _
          simp only [NoPanic]
          go_wp2_with fail
          go_meet
          exact ⟨rfl, ⟨hb6.os, hb6.tape, hb6.output, hb6.size, fun i hi => hb6.block i (by simp; omega)⟩⟩
      case rest =>
        obtain ⟨rfl, hbx⟩ := hcut
        have hbx' : Below (wr.alloc (.cells #[.int .i64 (a : Int), .int .i64 (b : Int)] 46)).heap.size (wr.alloc (.cells #[.int .i64 (a : Int), .int .i64 (b : Int)] 46)) wc := by simpa using hbx
        have hall' := own_below (hall.alloc (.cells #[.int .i64 (a : Int), .int .i64 (b : Int)] 46)) hbx'
        have hbc : Below w3.heap.size w3 wc := hbn.trans (hbx'.mono (by simp; have := hbw.size; omega))
        have hszc := hbc.size
        clear hall hbx hbx' hbn hruns
        go_wp2_with (at_builtin; refine wpList_append_own _ rfl _ _ 40 rfl w3.heap.size 28 i0 (.int .u64 0) 1 8 Tryd.underlying40 hi hz0 hz1 hz2 rfl (by decide) _ _ _ rfl (hall'.alloc _) ⟨wc.heap.size, 0, none⟩ 1 1 [.int .u64 (U sg)] rfl rfl (cell_one_new _ _ _) (by simp [Value.oneCell']) (by unfold maxLen; omega) (by omega) (by simp; omega) ?_; intro v' w5 hown5 hgrow5 _)
        go_roundw
        case rel =>
          refine ⟨k + 1, by go_num, by rw [Hn.out]; omega, ?_, ?_⟩
          · rw [List.take_add_one, Hrk.out]
            simpa [Hs.out, menc] using hown5
          · exact (hbc.alloc hszc (.cells #[.int .u64 (U sg)] 28)).grown hgrow5 (by simp; omega) (fun j e => (hall'.lt j e).1)
        case measure => simp [intOf]; omega
    · obtain rfl : k = (runsOf x).length := by omega
      obtain ⟨A, c, rfl, ha⟩ := own_arr hall (fun j => .int .u64 (U (nth ((runsOf x).map segOf) j))) (by
        intro j hj
        rw [List.take_length, List.getElem?_map]
        unfold nth
        rw [List.getD_eq_getElem?_getD, List.getElem?_map, List.getElem?_eq_getElem hj]
        rfl)
      have ho := or_any A _ c ((runsOf x).map segOf) wr (by simp) (by unfold maxLen; omega) ha
      rw [runs_join] at ho
      have HO := Lib.hid ho; clear ho
      generalize hn : (runsOf x).length = n at *
      have Hn := Lib.hid hn; clear hn
      clear hall ha
      go_wp2_with (go_at_call 31; refine HO.out.mono ?_; rintro e w5 ⟨rfl, rfl⟩)
      go_ret
      exact ⟨rfl, gr_trans (gr_trans (gr_trans hb1 hb2) hb3) hbw⟩
end Go.Proofs.YtkakncgdhangpaaDoor
