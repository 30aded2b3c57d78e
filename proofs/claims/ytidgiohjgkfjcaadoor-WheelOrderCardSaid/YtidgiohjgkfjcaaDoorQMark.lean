/- busy.first, busy.mark, level.set: walked. -/
import Derived.Test.YtidgiohjgkfjcaaDoorQHeap
import Derived.Test.YtidgiohjgkfjcaaDoorOf
import Derived.Deep.RegionHeld3
import Derived.Deep.RegionWith
namespace Go.Proofs.YtidgiohjgkfjcaaDoor
open Go.RowKit

theorem first9 (x : BitVec 64) (b : Int) (w : World) (hT : Tab w) (hg : 0 < w.heap.size) :
    Calls Tryd.prog 48 #[.int .u64 (U x), .int .i64 b] w fun e W' => e = .returned (some2 (least x b)) ∧ Below w.heap.size w W' := by
  have HF := Lib.hid (first_any x b w hT hg)
  unfold some2 at HF ⊢
  generalize least x b = o at *
  clear hT
  go_enter Tryd.func48, Tryd.ntmps48
  go_wp2_with fail
  refine HF.out.mono ?_
  rintro e w1 ⟨rfl, hb⟩
  have HB := Lib.hid hb; clear hb
  go_wp2_with fail
  refine bodyPost_ret (v := .tuple #[.int .i64 ((o.getD 0 : Nat) : Int), .bool o.isSome]) (by simp [results, Tryd.results48, go_sem]) rfl ⟨rfl, HB.out⟩
/-- A mask with a slot marked, or not. -/
def markB (m : BitVec 64) (s : Nat) (has : Bool) : BitVec 64 := if has then m ||| BitVec.twoPow 64 s else m &&& ~~~(BitVec.twoPow 64 s)
theorem markB_bit (m : BitVec 64) (s i : Nat) (has : Bool) (hi : i < 64) : (markB m s has).getLsbD i = if i = s then has else m.getLsbD i := by
  unfold markB
  have hc : i = s ∨ i ≠ s := by omega
  cases has with
  | true =>
    rcases hc with rfl | e
    · simp [hi]
    · simp [BitVec.getLsbD_twoPow, e, Ne.symm e]
  | false =>
    rcases hc with rfl | e
    · simp [hi]
    · simp [e, hi]
theorem of_one (s g : Nat) (hs : s < 64) (w : World) (h : w.cell? ⟨g, 0, none⟩ = some (.int .i64 s)) :
    Calls Tryd.prog 62 #[.slice (some ⟨g, 0, none⟩) 1 1] w fun e w' => e = .returned (.tuple #[.int .u64 (U (BitVec.twoPow 64 s)), .int .i64 0]) ∧ w = w' := by
  refine (of_any (some ⟨g, 0, none⟩) 1 1 [(s : Int)] w rfl (by decide) (fun k hk => ⟨g, 0, rfl, ?_⟩)).mono ?_
  · obtain rfl : k = 0 := by omega
    simpa [nthI] using h
  · rintro e w' ⟨rfl, rfl⟩
    refine ⟨?_, rfl⟩
    have : ofs [(s : Int)] 0#64 = some (BitVec.twoPow 64 s) := by
      unfold ofs
      rw [if_pos (by unfold inside; omega)]
      simp [ofs]
    rw [this]; rfl
theorem or_two9 (x y : BitVec 64) (g : Nat) (w : World) (h0 : w.cell? ⟨g, 0, none⟩ = some (.int .u64 (U x))) (h1 : w.cell? ⟨g, 1, none⟩ = some (.int .u64 (U y))) :
    Calls Tryd.prog 63 #[.slice (some ⟨g, 0, none⟩) 2 2] w fun e w' => e = .returned (.int .u64 (U (x ||| y))) ∧ w = w' := by
  have h := or_any (some ⟨g, 0, none⟩) 2 2 [x, y] w rfl (by decide) (fun k hk => ⟨g, 0, rfl, by
    match k, hk with
    | 0, _ => simpa [nth] using h0
    | 1, _ => simpa [nth] using h1⟩)
  have e : folds g_or [x, y] 0#64 = x ||| y := by simp [folds, g_or]
  rw [e] at h
  exact h
set_option maxRecDepth 100000 in
set_option maxHeartbeats 1000000 in
theorem mark_any (p o s : Nat) (m : BitVec 64) (has : Bool) (w : World) (hs : s < 64) (hp : p < w.heap.size) (hc : w.cell? ⟨p, o, none⟩ = some (.int .u64 (U m))) (hf : w.frozen? ⟨p, o, none⟩ = false) :
    Calls Tryd.prog 58 #[.pointer (some ⟨p, o, none⟩), .int .i64 s, .bool has] w fun e w' => (∃ v, e = .returned v) ∧ ∃ w1, Below w.heap.size w w1 ∧ w' = w1.setCell ⟨p, o, none⟩ (.int .u64 (U (markB m s has))) := by
  have HS := Lib.hid hs; have HP := Lib.hid hp; have HC := Lib.hid hc; have HF := Lib.hid hf
  clear hs hp hc hf
  go_enter Tryd.func58, Tryd.ntmps58
  go_wp2_with fail
  refine (of_one s w.heap.size HS.out _ ((QBox.new w 3 #[.int .i64 (s : Int)]).cell 0)).mono ?_
  rintro e w' ⟨rfl, rfl⟩
  obtain ⟨w1, hw1, hb1⟩ : ∃ W, W = w.alloc (.cells #[.int .i64 (s : Int)] 3) ∧ Below w.heap.size w W := ⟨_, rfl, (Below.refl _ _).alloc (Nat.le_refl _) _⟩
  rw [← hw1]
  have hc := ((qbelow_cell hb1).1 p o HP.out).trans HC.out
  have hf := ((qbelow_cell hb1).2 p o HP.out).trans HF.out
  have HP1 := Lib.hid (Nat.lt_of_lt_of_le HP.out hb1.size)
  have HB1 := Lib.hid hb1
  clear hw1 hb1
  cases has with
  | true =>
    go_wp2_with fail
    obtain ⟨w2, hw2, hb2⟩ : ∃ W, W = w1.alloc (.cells #[.int .u64 (U m), .int .u64 (U (BitVec.twoPow 64 s))] 107) ∧ Below w1.heap.size w1 W := ⟨_, rfl, (Below.refl _ _).alloc (Nat.le_refl _) _⟩
    refine (or_two9 m (BitVec.twoPow 64 s) w1.heap.size _ ((QBox.new w1 107 #[.int .u64 (U m), .int .u64 (U (BitVec.twoPow 64 s))]).cell 0) ((QBox.new w1 107 #[.int .u64 (U m), .int .u64 (U (BitVec.twoPow 64 s))]).cell 1)).mono ?_
    rintro e w' ⟨rfl, rfl⟩
    rw [← hw2]
    have hc2 := ((qbelow_cell hb2).1 p o HP1.out).trans hc
    have hf2 := ((qbelow_cell hb2).2 p o HP1.out).trans hf
    have HB2 := Lib.hid (HB1.out.trans (hb2.mono HB1.out.size))
    clear hw2 hb2 hc hf
    go_wp2_with fail
    go_end0
    exact ⟨⟨_, rfl⟩, w2, HB2.out, rfl⟩
  | false =>
    go_wp2_with fail
    refine (less_any m (BitVec.twoPow 64 s) _).mono ?_
    rintro e w2 ⟨rfl, hb2⟩
    have hc2 := ((qbelow_cell hb2).1 p o HP1.out).trans hc
    have hf2 := ((qbelow_cell hb2).2 p o HP1.out).trans hf
    have HB2 := Lib.hid (HB1.out.trans (hb2.mono HB1.out.size))
    clear hb2 hc hf
    go_wp2_with fail
    go_end0
    exact ⟨⟨_, rfl⟩, w2, HB2.out, rfl⟩
theorem below_both {B : Nat} {X Y : World} (h : Below B X Y) (a : Addr) (u : Value) : Below B (X.setCell a u) (Y.setCell a u) :=
  ⟨h.os, h.tape, h.output, by simpa using h.size, fun k hk => by simp only [World.setCell, Array.getElem?_modify]; rw [h.block k hk]⟩
set_option maxRecDepth 100000 in
set_option maxHeartbeats 1000000 in
theorem set_anyB (B p n s : Nat) (t : Int) (S : Nat → List (Int × Int)) (V : Nat → Option Addr × Nat) (A : Option Addr) (N c : Nat) (l : List (Int × Int)) (w : World) (hW : WhAt w B p t S V) (hB : B ≤ w.heap.size) (hn : n < 5) (hs : s < 64) (hd : DuesT w B A N c l) :
    Calls Tryd.prog 51 #[.pointer (some ⟨p, 1 + n * 65, none⟩), .int .i64 s, .slice A N c] w fun e w' => (∃ v, e = .returned v) ∧ WhAt w' B p t (setL (n * 64 + s) l S) (setL (n * 64 + s) (A, c) V) ∧ Only p w w' := by
  have hN := hd.row.len
  subst hN
  have hf := hW.frozen (1 + n * 65 + 1 + s)
  have hc := hW.slot n s hn hs
  have HW := Lib.hid hW; have HD := Lib.hid hd; have HN := Lib.hid hn
  have hcap := hd.row.cap
  have htop := hd.row.top
  unfold maxLen at htop
  have hi0 : (0 : Int) ≤ (s : Int) := by omega
  have hi1 : (s : Int) < 64 := by omega
  clear hW hd hn
  go_enter Tryd.func51, Tryd.ntmps51
  go_wp2_with fail
  obtain ⟨m, hm, hbit⟩ := HW.out.mask n HN.out
  have hz : decide (0 < l.length) = !l.isEmpty := by cases l <;> simp
  refine (mark_any p (1 + n * 65) s m (decide (0 < l.length)) _ hs (by simpa using HW.out.lt) ((cell_other (fun _ => by omega)).trans hm) (by have := HW.out.frozen (1 + n * 65); obtain ⟨cs, hcs, _⟩ := set_ty (i := 1 + n * 65 + 1 + s) (u := .slice A l.length c) HW.out.ty; simp [World.frozen?, hcs])).mono ?_
  rintro e w' ⟨⟨v, rfl⟩, w1, hb1, rfl⟩
  obtain ⟨w2, hw2⟩ : ∃ w2, w2 = w1.setCell ⟨p, 1 + n * 65, none⟩ (.int .u64 (U (markB m s (decide (0 < l.length))))) := ⟨_, rfl⟩
  rw [← hw2]
  have hZ : Below w.heap.size ((w.setCell ⟨p, 1 + n * 65 + 1 + s, none⟩ (.slice A l.length c)).setCell ⟨p, 1 + n * 65, none⟩ (.int .u64 (U (markB m s (decide (0 < l.length)))))) w2 := by
    rw [hw2]; exact below_both (hb1.mono (by simp)) _ _
  have HF := Lib.hid ((HW.out.setSlot HN.out hs HD.out (m := markB m s (decide (0 < l.length))) (fun i hi => by
    rw [markB_bit _ _ _ _ hi, hz]
    by_cases e : i = s
    · subst e; rw [if_pos rfl, setL_same]
    · rw [if_neg e, setL_other _ _ (by omega)]; exact hbit i hi)).below (hZ.mono hB))
  have HO := Lib.hid (((Only.set p (1 + n * 65 + 1 + s) w (.slice A l.length c)).trans (.set p (1 + n * 65) _ (.int .u64 (U (markB m s (decide (0 < l.length))))))).trans (Only.of (p := p) (hZ.mono (by simp))))
  clear hw2 hZ hb1 hc hf hm hbit hz
  go_wp2_with fail
  go_end0
  exact ⟨⟨_, rfl⟩, HF.out, HO.out⟩
theorem set_any9 (p n s : Nat) (t : Int) (S : Nat → List (Int × Int)) (V : Nat → Option Addr × Nat) (A : Option Addr) (N c : Nat) (l : List (Int × Int)) (w : World) (hW : WhAt w w.heap.size p t S V) (hn : n < 5) (hs : s < 64) (hd : DuesT w w.heap.size A N c l) :
    Calls Tryd.prog 51 #[.pointer (some ⟨p, 1 + n * 65, none⟩), .int .i64 s, .slice A N c] w fun e w' => (∃ v, e = .returned v) ∧ WhAt w' w'.heap.size p t (setL (n * 64 + s) l S) (setL (n * 64 + s) (A, c) V) ∧ Only p w w' := by
  refine (set_anyB w.heap.size p n s t S V A N c l w hW (Nat.le_refl _) hn hs hd).mono ?_
  rintro e w' ⟨h1, h2, h3⟩
  exact ⟨h1, h2.mono h3.size, h3⟩
end Go.Proofs.YtidgiohjgkfjcaaDoor
