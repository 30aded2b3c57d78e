/- A cron in memory; fields, put, Check: walked, of the program. -/
import Derived.Test.YtmjjdccpnepjjaaGreatDoorK3
import Derived.Test.YtmjjdccpnepjjaaGreatDoorK5
import Derived.Test.YtmjjdccpnepjjaaGreatDoorKGRun
import Derived.Test.YtmjjdccpnepjjaaGreatDoorKGRFields
namespace Go.Proofs.YtmjjdccpnepjjaaGreatDoor
open Go.RowKit

def cronV (L : List (BitVec 64)) : Value := .agg (L.map menc).toArray
theorem cronV_five (a b c d e : BitVec 64) : cronV [a, b, c, d, e] = fiveV a b c d e := rfl
theorem list_five {L : List (BitVec 64)} (h : L.length = 5) : ∃ a b c d e, L = [a, b, c, d, e] := by
  match L, h with
  | [a, b, c, d, e], _ => exact ⟨a, b, c, d, e, rfl⟩
/-- A cron stands in block g. -/
def CronAt (w : World) (g : Nat) (L : List (BitVec 64)) : Prop := L.length = 5 ∧ D.Box w g 27 (L.map menc).toArray
section
variable {w w' : World} {g : Nat} {L : List (BitVec 64)}
theorem CronAt.lt (h : CronAt w g L) : g < w.heap.size := D.Box.lt h.2
theorem CronAt.below {B : Nat} (h : CronAt w g L) (hb : Below B w w') (hg : g < B) : CronAt w' g L := ⟨h.1, D.Box.below h.2 hb hg⟩
theorem CronAt.on (h : CronAt w g L) (hb : Below w.heap.size w w') : CronAt w' g L := h.below hb h.lt
theorem CronAt.cell (h : CronAt w g L) {k : Nat} (hk : k < 5) : w.cell? ⟨g, k, none⟩ = some (.int .u64 (U (L.getD k 0#64))) := by
  rw [D.Box.cell h.2 k, List.getElem?_toArray, List.getElem?_map, List.getD_eq_getElem?_getD, List.getElem?_eq_getElem (by rw [h.1]; exact hk)]; rfl
theorem CronAt.frozen (h : CronAt w g L) (k : Nat) : w.frozen? ⟨g, k, none⟩ = false := D.Box.frozen h.2 k
theorem CronAt.set (h : CronAt w g L) (k : Nat) (m : BitVec 64) : CronAt (w.setCell ⟨g, k, none⟩ (.int .u64 (U m))) g (L.set k m) := by
  refine ⟨by rw [List.length_set]; exact h.1, ?_⟩
  have := D.Box.set h.2 k (menc m)
  rw [List.map_set, ← List.setIfInBounds_toArray]
  exact this
theorem CronAt.new (w : World) (a b c d e : BitVec 64) : CronAt (w.alloc (.cells #[.int .u64 (U a), .int .u64 (U b), .int .u64 (U c), .int .u64 (U d), .int .u64 (U e)] 27)) w.heap.size [a, b, c, d, e] := ⟨rfl, D.Box.new _ _ _⟩
theorem CronAt.alloc (h : CronAt w g L) (o : Obj) : CronAt (w.alloc o) g L := ⟨h.1, D.Box.alloc h.2 o⟩
theorem CronAt.five {a b c d e : BitVec 64} (h : CronAt w g [a, b, c, d, e]) :
    w.cell? ⟨g, 0, none⟩ = some (.int .u64 (U a)) ∧ w.cell? ⟨g, 1, none⟩ = some (.int .u64 (U b)) ∧ w.cell? ⟨g, 2, none⟩ = some (.int .u64 (U c)) ∧ w.cell? ⟨g, 3, none⟩ = some (.int .u64 (U d)) ∧ w.cell? ⟨g, 4, none⟩ = some (.int .u64 (U e)) :=
  ⟨h.cell (k := 0) (by omega), h.cell (k := 1) (by omega), h.cell (k := 2) (by omega), h.cell (k := 3) (by omega), h.cell (k := 4) (by omega)⟩
theorem CronAt.set5 {a b c d e : BitVec 64} (h : CronAt w g [a, b, c, d, e]) (a' b' c' d' e' : BitVec 64) :
    CronAt (((((w.setCell ⟨g, 0, none⟩ (.int .u64 (U a'))).setCell ⟨g, 1, none⟩ (.int .u64 (U b'))).setCell ⟨g, 2, none⟩ (.int .u64 (U c'))).setCell ⟨g, 3, none⟩ (.int .u64 (U d'))).setCell ⟨g, 4, none⟩ (.int .u64 (U e'))) g [a', b', c', d', e'] :=
  ((((h.set 0 a').set 1 b').set 2 c').set 3 d').set 4 e'
theorem CronAt.far (h : CronAt w g L) {p i : Nat} (hp : g ≠ p) (u : Value) : CronAt (w.setCell ⟨p, i, none⟩ u) g L := ⟨h.1, D.Box.far h.2 hp u⟩
end
/-- Below B, only block g may have turned. -/
structure Sole (g B : Nat) (w w' : World) : Prop where
  os : w'.os = w.os
  tape : w'.tape = w.tape
  output : w'.output = w.output
  size : w.heap.size ≤ w'.heap.size
  block : ∀ k, k < B → k ≠ g → w'.heap[k]? = w.heap[k]?
theorem Sole.below {g B C : Nat} {a b : World} (h : Sole g B a b) (hg : C ≤ g) (hB : C ≤ B) : Below C a b := ⟨h.os, h.tape, h.output, h.size, fun k hk => h.block k (by omega) (by omega)⟩
theorem Sole.of {g B : Nat} {a b : World} (h : Below B a b) : Sole g B a b := ⟨h.os, h.tape, h.output, h.size, fun k hk _ => h.block k hk⟩
theorem Sole.set {g B i : Nat} {a b : World} (h : Sole g B a b) (u : Value) : Sole g B a (b.setCell ⟨g, i, none⟩ u) :=
  ⟨h.os, h.tape, h.output, by simpa using h.size, fun k hk hn => (Below.heap_setCell b ⟨g, i, none⟩ u k hn).trans (h.block k hk hn)⟩
theorem Sole.trans {g B : Nat} {a b c : World} (h : Sole g B a b) (k : Sole g B b c) : Sole g B a c :=
  ⟨k.os.trans h.os, k.tape.trans h.tape, k.output.trans h.output, Nat.le_trans h.size k.size, fun i hi hn => (k.block i hi hn).trans (h.block i hi hn)⟩
theorem Sole.mono {g B C : Nat} {a b : World} (h : Sole g B a b) (hC : C ≤ B) : Sole g C a b := ⟨h.os, h.tape, h.output, h.size, fun k hk => h.block k (by omega)⟩

def ptrsV (g : Nat) : Value := .agg #[.pointer (some ⟨g, 0, none⟩), .pointer (some ⟨g, 1, none⟩), .pointer (some ⟨g, 2, none⟩), .pointer (some ⟨g, 3, none⟩), .pointer (some ⟨g, 4, none⟩)]
theorem index_ptrs (g k : Nat) (hk : k < 5) (w : World) : (Instr.index 84 (ptrsV g) (.int .i64 (k : Int))).run Tryz.prog w = .ok (.pointer (some ⟨g, k, none⟩)) w := by
  rcases five hk with rfl | rfl | rfl | rfl | rfl <;>
  simp [Instr.index, asIntOf, Sem.run_bind, run_underlying Tryz.underlying84, Tryz.sizeOf83, Tryz.isAgg83, Go.part, Result.andThen, ptrsV]
set_option maxRecDepth 100000 in
theorem fields_any (g : Nat) (w : World) :
    Calls Tryz.prog 35 #[.pointer (some ⟨g, 0, none⟩)] w fun x w' => x = .returned (ptrsV g) ∧ Below w.heap.size w w' := by
  unfold ptrsV
  go_enter Tryz.func35, Tryz.ntmps35
  go_wp2_with fail
  go_region
  go_wp2_with fail
  refine bodyPost_ret (v := .agg #[.pointer (some ⟨g, 0, none⟩), .pointer (some ⟨g, 1, none⟩), .pointer (some ⟨g, 2, none⟩), .pointer (some ⟨g, 3, none⟩), .pointer (some ⟨g, 4, none⟩)]) (by simp [results, Tryz.results35, go_sem]) rfl ⟨rfl, ((Below.refl _ _).alloc (Nat.le_refl _) _).drew⟩
/-- put: what Read tells of the text goes into its field. -/
def putV (k : Nat) (l : List UInt8) : Value := .tuple #[.int .i64 ((readL k l).2.1 : Int), .int .i64 (readL k l).2.2]
set_option maxRecDepth 100000 in
theorem put_any (g k : Nat) (l : List UInt8) (L : List (BitVec 64)) (w : World) (hL : Laid w) (hk : k < 5) (hl : l.length ≤ 256) (hC : CronAt w g L) :
    Calls Tryz.prog 34 #[.pointer (some ⟨g, 0, none⟩), .int .i64 (k : Int), strV l] w fun x w' => x = .returned (putV k l) ∧ CronAt w' g (L.set k (readL k l).1) ∧ Sole g w.heap.size w w' := by
  have HR := Lib.hid (fun W hW => read_l k l W hW hk (by unfold maxLen; omega))
  have HL := Lib.hid hL; have HC := Lib.hid hC
  clear hL hC hl
  unfold readV at HR
  unfold putV strV at *
  generalize readL k l = r at *
  obtain ⟨m, p, z⟩ := r
  simp only at HR ⊢
  go_enter Tryz.func34, Tryz.ntmps34
  go_wp2_with fail
  refine (HR.out _ HL.out).mono ?_
  rintro x w1 ⟨rfl, hb⟩
  have HB1 := Lib.hid hb; have HC1 := Lib.hid (HC.out.on hb)
  clear hb
  go_wp2_with fail
  refine (fields_any g w1).mono ?_
  rintro x w2 ⟨rfl, hb⟩
  have HB2 : Hid (Below w.heap.size w w2) := Lib.hid (HB1.out.trans (hb.mono HB1.out.size)); have HC2 := Lib.hid (HC1.out.on hb)
  clear hb
  have hix := fun W => index_ptrs g k hk W
  have hc := HC2.out.cell hk
  have hf := HC2.out.frozen k
  go_wp2_with fail
  go_ret2
  exact ⟨rfl, HC2.out.set k m, (Sole.of HB2.out).set _⟩
/-! which crons may be -/
def crB (L : List (BitVec 64)) : Bool := (List.range 5).all fun k => fieldB k (L.getD k 0#64)
theorem crB_five (a b c d e : BitVec 64) : crB [a, b, c, d, e] = fiveB a b c d e := by
  have hr : List.range 5 = [0, 1, 2, 3, 4] := by decide
  simp [crB, fiveB, hr]
theorem crB_yes {L : List (BitVec 64)} (h : ∀ k, k < 5 → fieldB k (L.getD k 0#64) = true) : crB L = true := by
  unfold crB
  rw [List.all_eq_true]
  exact fun k hk => h k (List.mem_range.1 hk)
theorem crB_no {L : List (BitVec 64)} {k : Nat} (hk : k < 5) (h : fieldB k (L.getD k 0#64) = false) : crB L = false := by
  cases hb : crB L with
  | false => rfl
  | true =>
    have := List.all_eq_true.1 hb k (List.mem_range.2 hk)
    rw [h] at this; cases this
theorem crB_at {L : List (BitVec 64)} (h : crB L = true) {k : Nat} (hk : k < 5) : fieldB k (L.getD k 0#64) = true := List.all_eq_true.1 h k (List.mem_range.2 hk)
def crE (L : List (BitVec 64)) : Int := if crB L then 0 else 170
set_option maxRecDepth 100000 in
set_option maxHeartbeats 1000000 in
theorem ccheck_any (L : List (BitVec 64)) (w : World) (hL : Laid w) (h5 : L.length = 5) :
    Calls Tryz.prog 15 #[cronV L] w fun x w' => x = .returned (.int .i64 (crE L)) ∧ Below w.heap.size w w' := by
  have HY : Hid ((∀ k, k < 5 → fieldB k (L.getD k 0#64) = true) → crE L = 0) := Lib.hid (fun h => by unfold crE; rw [if_pos (crB_yes h)])
  have HN : Hid (∀ k, k < 5 → fieldB k (L.getD k 0#64) = false → crE L = 170) := Lib.hid (fun k hk h => by unfold crE; rw [crB_no hk h]; rfl)
  have HL := Lib.hid hL
  clear hL
  obtain ⟨a, b, c, d, e, rfl⟩ := list_five h5
  rw [cronV_five]
  unfold fiveV
  generalize crE [a, b, c, d, e] = z at *
  go_enter Tryz.func15, Tryz.ntmps15
  go_wp2_with fail
  have HC0 := Lib.hid (CronAt.new w a b c d e)
  have HB0 : Hid (Below w.heap.size w (w.alloc (.cells #[.int .u64 (U a), .int .u64 (U b), .int .u64 (U c), .int .u64 (U d), .int .u64 (U e)] 27))) := Lib.hid ((Below.refl w.heap.size w).alloc (Nat.le_refl _) _)
  generalize [a, b, c, d, e] = L at *
  generalize w.alloc _ = w0 at *
  refine (fields_any w.heap.size w0).mono ?_
  rintro x w1 ⟨rfl, hb⟩
  have HB1 : Hid (Below w.heap.size w w1) := Lib.hid (HB0.out.trans (hb.mono HB0.out.size)); have HC1 := Lib.hid (HC0.out.on hb)
  clear hb HC0 HB0
  go_wp2_with fail
  go_loopw [3, 4, 6] (fun _ _ i wr => ∃ j : Nat, j ≤ 5 ∧ i = .int .i64 (j : Int) ∧ Below w.heap.size w wr ∧ CronAt wr w.heap.size L ∧ ∀ q : Nat, q < j → fieldB q (L.getD q 0#64) = true) (fun _ _ i _ => 5 - (intOf i).toNat)
  case atStart => exact ⟨0, by omega, rfl, HB1.out, HC1.out, fun q hq => by omega⟩
  case round =>
    obtain ⟨j, hj, rfl, hb, hc, hall⟩ := hrel
    have HB := Lib.hid hb; have HC := Lib.hid hc; have HA := Lib.hid hall
    clear hb hc hall
    by_cases hlt : j < 5
    · have hj5 : (j : Int) < 5 := by omega
      have hix := fun W => index_ptrs w.heap.size j hlt W
      have hcell := HC.out.cell hlt
      have HR := Lib.hid (fun W hW => check_yes j (L.getD j 0#64) W hW hlt)
      have HLr := Lib.hid (HL.out.on HB.out)
      have HN' := Lib.hid (HN.out j hlt)
      have HN2 : Hid (fieldB j (L.getD j 0#64) = true → ∀ q : Nat, q < j + 1 → fieldB q (L.getD q 0#64) = true) := Lib.hid (fun h q hq => by
        rcases Nat.lt_succ_iff_lt_or_eq.1 hq with h' | rfl
        · exact HA.out q h'
        · exact h)
      generalize L.getD j 0#64 = m at *
      generalize fieldB j m = y at *
      go_wp2_with fail
      refine (HR.out _ HLr.out).mono ?_
      rintro x w2 ⟨rfl, hb⟩
      have HB2 : Hid (Below w.heap.size w w2) := Lib.hid (HB.out.trans (hb.mono HB.out.size))
      have HC2 := Lib.hid (HC.out.on hb)
      clear hb
      cases y with
      | true =>
        go_wp2_with fail
        go_roundw
        case rel => exact ⟨j + 1, by omega, by go_num, HB2.out, HC2.out, HN2.out (by simp)⟩
        case measure => simp [intOf]; omega
      | false =>
        go_wp2_with fail
        go_ret
        exact ⟨by rw [HN'.out (by simp)]; rfl, HB2.out⟩
    · have hj5 : j = 5 := by omega
      subst hj5
      go_wp2_with fail
      go_ret
      exact ⟨by rw [HY.out HA.out]; rfl, HB.out⟩
end Go.Proofs.YtmjjdccpnepjjaaGreatDoor
