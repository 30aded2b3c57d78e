/- filled; Len: walked. -/
import Derived.Test.YtidgiohjgkfjcaaDoorQFilled
import Derived.RangeFuncBox
import Derived.RangeFuncLeaves
import Derived.RangeFuncNested
import Derived.RangeFuncCalls
namespace Go.Proofs.YtidgiohjgkfjcaaDoor
open Go.RowKit

attribute [local go_sem] Oper.semAt_some

theorem QBox.turned {w w' : World} {g : Nat} {t : TypeId} {cs : Array Value} (h : QBox w g t cs) {row : Option Nat} (hg : w.grownBy w' row) (hr : ∀ r, row = some r → ∃ o : Obj, w.heap[r]? = some o ∧ o.isCells = false) : QBox w' g t cs := by
  refine (hg.block g h.lt (fun e => ?_)).trans h
  obtain ⟨o, ho, hn⟩ := hr g e.symm
  unfold QBox at h
  rw [h] at ho
  cases ho
  cases hn
theorem QBox.put {w : World} {g l : Nat} {t : TypeId} {cs : Array Value} (h : QBox w g t cs) (hl : ∃ o : Obj, w.heap[l]? = some o ∧ o.isCells = false) (o : Obj) : QBox (w.putObj l o) g t cs :=
  h.turned (grownBy_putObj' w l o) (fun r e => by cases e; exact hl)
theorem WhAt.put {w : World} {B p l : Nat} {t : Int} {S : Nat → List (Int × Int)} {V : Nat → Option Addr × Nat} (h : WhAt w B p t S V) (hl : ∃ o : Obj, w.heap[l]? = some o ∧ o.isCells = false) (o : Obj) : WhAt (w.putObj l o) B p t S V :=
  h.turned (grownBy_putObj' w l o) (fun r e => by cases e; exact hl)
theorem below_put {B l : Nat} {w0 w : World} (h : Below B w0 w) (hB : B ≤ w0.heap.size) (hl : B ≤ l) (o : Obj) : Below B w0 (w.putObj l o) :=
  h.grown (grownBy_putObj' w l o) (Nat.le_trans hB h.size) (fun k e => by cases e; exact hl)
theorem bears_box (B g : Nat) (t : TypeId) (cs : Array Value) : Bears B (fun W => QBox W g t cs) := fun _ _ _ h hg hr => h.turned hg (fun r e => (hr r e).2)
theorem bears_wh (B C p : Nat) (t : Int) (S : Nat → List (Int × Int)) (V : Nat → Option Addr × Nat) : Bears B (fun W => WhAt W C p t S V) := fun _ _ _ h hg hr => h.turned hg (fun r e => (hr r e).2)
theorem filled_any (v : Value) (w : World) (hv : ∃ a, v = .pointer a) :
    Calls Tryd.prog 47 #[v] w fun e w' => e = .returned (.func (.func 56) #[] #[.pointer (some ⟨w.heap.size, 0, none⟩)]) ∧ w' = w.alloc (.cells #[v] 24) := by
  obtain ⟨a, rfl⟩ := hv
  go_enter Tryd.func47, Tryd.ntmps47
  go_wp2_with fail
  go_ret
  exact ⟨rfl, rfl⟩
/-- Up to place k. -/
def upto (S : Nat → List (Int × Int)) (k : Nat) : List (Int × Int) := (List.range k).flatMap S
theorem upto_skip {S : Nat → List (Int × Int)} {k j : Nat} (h : k ≤ j) (h0 : ∀ i, k ≤ i → i < j → S i = []) : upto S j = upto S k := by
  induction j with
  | zero => have : k = 0 := by omega
            subst this; rfl
  | succ j ih =>
    by_cases e : k = j + 1
    · rw [e]
    · unfold upto at ih ⊢
      rw [flat_snoc, ih (by omega) (fun i h1 h2 => h0 i h1 (by omega)), h0 j (by omega) (by omega), List.append_nil]
theorem upto_succ (S : Nat → List (Int × Int)) (k : Nat) : upto S (k + 1) = upto S k ++ S k := flat_snoc S k
theorem upto_len_mono (S : Nat → List (Int × Int)) {k j : Nat} (h : k ≤ j) : (upto S k).length ≤ (upto S j).length := by
  induction j with
  | zero => have : k = 0 := by omega
            subst this; exact Nat.le_refl _
  | succ j ih =>
    by_cases e : k = j + 1
    · rw [e]; exact Nat.le_refl _
    · rw [upto_succ, List.length_append]; have := ih (by omega); omega
set_option maxRecDepth 100000 in
set_option maxHeartbeats 2000000 in
theorem len_in (n : Nat) (hn : 3 ≤ n) (p : Nat) (t : Int) (S : Nat → List (Int × Int)) (V : Nat → Option Addr × Nat) (w : World) (hW : WhAt w w.heap.size p t S V) (hT : Tab w) (hg : 0 < w.heap.size) (h64 : (upto S 320).length ≤ 64) :
    CallsIn Fence.wide n Tryd.prog 24 #[.pointer (some ⟨p, 0, none⟩)] w fun e w' => e = .returned (.int .i64 ((upto S 320).length : Int)) ∧ Below w.heap.size w w' := by
  have h1 : 1 ≤ n := by omega
  have HW := Lib.hid hW
  have HFI := Lib.hid (fun W => filled_any (.pointer (some ⟨p, 0, none⟩)) W ⟨_, rfl⟩)
  clear hW
  refine callsIn_of_wp_marks Tryd.func24 rfl trivial ?_ rfl
  simp only [Tryd.ntmps24, List.size_toArray, List.length_cons, List.length_nil, Nat.reduceAdd, Nat.reduceSub, Array.replicate_succ, Array.replicate_zero, List.push_toArray, List.append_toArray, List.nil_append, List.cons_append]
  gi_wp2_with fail
  refine ⟨trivial, (callsIn_wide.2 (HFI.out _)).mono ?_⟩
  rintro e w1 ⟨rfl, rfl⟩
  gi_wp2_with fail
  obtain ⟨W, hWe⟩ : ∃ W, W = (w.alloc (.cells #[.int .i64 0] 3)).alloc (.cells #[.pointer (some ⟨p, 0, none⟩)] 24) := ⟨_, rfl⟩
  have hB : Below w.heap.size w W := by rw [hWe]; exact ((Below.refl _ _).alloc (Nat.le_refl _) _).alloc (by simp) _
  have bN : QBox W w.heap.size 3 #[.int .i64 0] := by rw [hWe]; exact (QBox.new _ _ _).alloc _
  have bP : QBox W (w.heap.size + 1) 24 #[.pointer (some ⟨p, 0, none⟩)] := by
    rw [hWe]
    have := QBox.new (w.alloc (.cells #[.int .i64 0] 3)) 24 #[.pointer (some ⟨p, 0, none⟩)]
    rwa [World.size_alloc] at this
  have hsz : W.heap.size = w.heap.size + 2 := by rw [hWe]; simp
  rw [← hWe]
  clear hWe
  have hlow := HW.out.low
  have H64 := Lib.hid h64
  have hpn : p ≠ w.heap.size := Nat.ne_of_lt hlow
  clear h64
  refine wpIn_rangeSt (σ := WSt) (α := WX) rfl h1 (gf := 56) (lb := #[.pointer (some ⟨w.heap.size + 1, 0, none⟩)]) rfl trivial (enters_of Tryd.func56 (by kernel_rfl) rfl)
    (filled_st (n - 1) (by omega) p (w.heap.size + 1)) (fun _ => rfl)
    (fun s W' => (s.S = S ∧ s.V = V ∧ s.k ≤ 320) ∧ QBox W' w.heap.size 3 #[.int .i64 ((upto S s.k).length : Int)] ∧ QBox W' (w.heap.size + 1) 24 #[.pointer (some ⟨p, 0, none⟩)] ∧ Below w.heap.size w W')
    (fun _ _ => False) ⟨0, S, V⟩ rfl
    (fun s W' h => by
      obtain ⟨⟨rfl, rfl, _⟩, _, h2, h3⟩ := h
      exact ⟨⟨_, _, HW.out.below h3⟩, h2, hT.below hg h3, Nat.lt_of_lt_of_le hg h3.size⟩)
    (fun s => (bears_const _ _).and ((bears_box _ _ _ _).and ((bears_box _ _ _ _).and (bears_below (Nat.le_refl _) (by omega)))))
    (fun c => bears_const _ _) ⟨⟨rfl, rfl, Nat.zero_le _⟩, bN, bP, hB⟩ ?round ?done ?stop
  case round =>
    rintro l s ⟨j, A, m, c⟩ W' hl hlo ⟨⟨rfl, rfl, hk⟩, hn, hp, hb⟩ ⟨g1, g2, g3, g4, g5, g6, g7⟩
    dsimp only at g1 g2 g3 g4 g5 g6 g7
    unfold wenc
    dsimp only
    subst g6
    have hu : upto s.S j = upto s.S s.k := upto_skip g1 g4
    have hu1 : (upto s.S (j + 1)).length = (upto s.S s.k).length + (s.S j).length := by rw [upto_succ, List.length_append, hu]
    have hu2 := upto_len_mono s.S (show j + 1 ≤ 320 by omega)
    have hle : (upto s.S s.k).length + (s.S j).length ≤ 64 := by have := H64.out; omega
    have HU1 := Lib.hid hu1
    generalize (upto s.S s.k).length = a at *
    generalize (s.S j).length = m at *
    clear hu hu1 hu2 g4 g3
    gi_wp2_with fail
    refine ⟨.refl _, fun o => ?_⟩
    have hn2 := hn.put hlo o
    have hp2 := hp.put hlo o
    have hb2 := below_put hb (Nat.le_refl _) (show w.heap.size ≤ l by omega) o
    have HN2 := Lib.hid hn2; have HP2 := Lib.hid hp2; have HB2 := Lib.hid hb2
    have e0 : (W'.putObj l o).cell? ⟨w.heap.size, 0, none⟩ = some (.int .i64 (a : Int)) := hn2.cell 0
    have f0 := hn2.frozen 0
    clear hn hp hb hn2 hp2 hb2
    generalize W'.putObj l o = W2 at *
    gi_wp2_with fail
    refine ⟨KeepsOthers.setCell _ _ _, ⟨j + 1, s.S, s.V⟩, rfl, ⟨rfl, rfl, by show j + 1 ≤ 320; omega⟩, ?_, HP2.out.far (by omega) _, HB2.out.setCell (Nat.le_refl _) _⟩
    have := HN2.out.set 0 (.int .i64 ((a : Int) + (m : Int)))
    show QBox _ _ _ #[.int .i64 ((upto s.S (j + 1)).length : Int)]
    rw [HU1.out, show (((a + m : Nat)) : Int) = (a : Int) + (m : Int) by omega]
    exact this
  case done =>
    rintro B s W' hB2 hE ⟨⟨rfl, rfl, hk⟩, hn, hp, hb⟩ hD
    have hu : upto s.S 320 = upto s.S s.k := upto_skip hk hE
    rw [← hu] at hn
    have e0 : W'.cell? ⟨w.heap.size, 0, none⟩ = some (.int .i64 ((upto s.S 320).length : Int)) := hn.cell 0
    have HB2 := Lib.hid hb
    have HD := Lib.hid hD
    obtain ⟨a, hua⟩ : ∃ a, a = (upto s.S 320).length := ⟨_, rfl⟩
    rw [← hua] at e0
    have HUA := Lib.hid hua
    clear hn hp hb hu hD hua
    gi_wp2_with fail
    refine ⟨by simp, .inl ⟨_, _, rfl, run_takeDeferred HD.out, ?_⟩⟩
    refine ⟨.int .i64 (a : Int), by simp [results, Tryd.f24, go_sem], by rw [HUA.out], HB2.out.trans (belowK_b (w := w) (Nat.le_refl _) _ B _ _ (by omega) HD.out rfl rfl)⟩
  case stop => rintro B c W' _ h; exact h.elim
theorem len_any (p : Nat) (t : Int) (S : Nat → List (Int × Int)) (V : Nat → Option Addr × Nat) (w : World) (hW : WhAt w w.heap.size p t S V) (hT : Tab w) (hg : 0 < w.heap.size) (h64 : (upto S 320).length ≤ 64) :
    Calls Tryd.prog 24 #[.pointer (some ⟨p, 0, none⟩)] w fun e w' => e = .returned (.int .i64 ((upto S 320).length : Int)) ∧ Below w.heap.size w w' :=
  callsIn_wide.1 (len_in 3 (by omega) p t S V w hW hT hg h64)
end Go.Proofs.YtidgiohjgkfjcaaDoor
