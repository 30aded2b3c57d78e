/- The wheel's iterator over the slots that have dues: walked, whatever the loop's body turns. -/
import Derived.Test.YtidgiohjgkfjcaaDoorQMark
import Derived.Test.YtidgiohjgkfjcaaDoorQRange
import Derived.Test.YtidgiohjgkfjcaaDoorQPlaceOf
import Derived.LoopTactic
import Derived.TacticsInMore
import Derived.OwnWalkIn
import Derived.LoopIn
import Derived.LoopNIn
namespace Go.Proofs.YtidgiohjgkfjcaaDoor
open Go.RowKit

attribute [local go_sem] Oper.semAt_some

/-- How far the iterator has come, and what the places hold. -/
structure WSt where
  k : Nat
  S : Nat → List (Int × Int)
  V : Nat → Option Addr × Nat
/-- What it tells: a place's number, and the slice. -/
structure WX where
  j : Nat
  A : Option Addr
  n : Nat
  c : Nat
def wenc (x : WX) : Array Value := #[plV x.j, .slice x.A x.n x.c]
/-- What it reads. -/
structure WRd (p b : Nat) (s : WSt) (W : World) : Prop where
  wh : ∃ B t, WhAt W B p t s.S s.V
  box : QBox W b 24 #[.pointer (some ⟨p, 0, none⟩)]
  tab : Tab W
  lt : 0 < W.heap.size
/-- What comes next. -/
structure WC (s : WSt) (x : WX) : Prop where
  ge : s.k ≤ x.j
  lt : x.j < 320
  ne : s.S x.j ≠ []
  none_ : ∀ i, s.k ≤ i → i < x.j → s.S i = []
  A : x.A = (s.V x.j).1
  n : x.n = (s.S x.j).length
  c : x.c = (s.V x.j).2
def WD (_ : WSt) (x : WX) (s' : WSt) : Prop := s'.k = x.j + 1
def WE (s : WSt) : Prop := ∀ i, s.k ≤ i → i < 320 → s.S i = []
/-- What first tells of a level's slots. -/
def WIn (s : WSt) (n : Nat) : Option Nat → Prop
  | some sl => sl < 64 ∧ s.k ≤ n * 64 + sl ∧ s.S (n * 64 + sl) ≠ [] ∧ ∀ i, s.k ≤ i → i < n * 64 + sl → s.S i = []
  | none => s.k ≤ (n + 1) * 64 ∧ ∀ i, s.k ≤ i → i < (n + 1) * 64 → s.S i = []
theorem least_in {s : WSt} {n : Nat} {m : BitVec 64} (hb : ∀ i, i < 64 → m.getLsbD i = !(s.S (n * 64 + i)).isEmpty) {f : Nat} (hf : f ≤ 64) (hk : s.k ≤ n * 64 + f) (h0 : ∀ i, s.k ≤ i → i < n * 64 + f → s.S i = []) : WIn s n (least m f) := by
  have bit : ∀ i, i < 64 → (m.getLsbD i = true ↔ s.S (n * 64 + i) ≠ []) := fun i hi => by rw [hb i hi]; simp
  cases h : least m f with
  | some sl =>
    have hmem : sl ∈ elems m := List.mem_of_find?_eq_some h
    have hsl := elems_lt hmem
    have hge : f ≤ sl := by have := List.find?_some h; simpa using this
    refine ⟨hsl, by omega, (bit sl hsl).1 (mem_elems.1 hmem), fun i h1 h2 => ?_⟩
    by_cases h3 : i < n * 64 + f
    · exact h0 i h1 h3
    · apply Classical.byContradiction
      intro hne
      have hi : i - n * 64 < 64 := by omega
      have hm2 : i - n * 64 ∈ elems m := mem_elems.2 ((bit _ hi).2 (by rw [show n * 64 + (i - n * 64) = i by omega]; exact hne))
      have hs : (elems m).Pairwise (· < ·) := List.Pairwise.filter _ List.pairwise_lt_range
      unfold least at h
      obtain ⟨_, l1, l2, he, hall⟩ := List.find?_eq_some_iff_append.1 h
      rw [he] at hm2 hs
      rcases List.mem_append.1 hm2 with hm2 | hm2
      · have := hall _ hm2; simp at this; omega
      · rcases List.mem_cons.1 hm2 with e | hm2
        · omega
        · have := (List.pairwise_cons.1 (List.pairwise_append.1 hs).2.1).1 _ hm2
          omega
  | none =>
    refine ⟨by omega, fun i h1 h2 => ?_⟩
    by_cases h3 : i < n * 64 + f
    · exact h0 i h1 h3
    · apply Classical.byContradiction
      intro hne
      have hi : i - n * 64 < 64 := by omega
      have hm2 : i - n * 64 ∈ elems m := mem_elems.2 ((bit _ hi).2 (by rw [show n * 64 + (i - n * 64) = i by omega]; exact hne))
      have := List.find?_eq_none.1 h _ hm2
      simp at this
      omega
def okOf : Value → Nat | .bool true => 64 | _ => 0
theorem plV_at (n sl : Nat) (h : sl < 64) : plV (n * 64 + sl) = .agg #[.int .i64 (n : Int), .int .i64 (sl : Int)] := by
  unfold plV
  rw [show (n * 64 + sl) / 64 = n by omega, show (n * 64 + sl) % 64 = sl by omega]
set_option maxRecDepth 100000 in
set_option maxHeartbeats 2000000 in
theorem filled_st (n : Nat) (hn : 1 ≤ n) (p b : Nat) : SeqSt Fence.wide n Tryd.prog 56 #[.pointer (some ⟨b, 0, none⟩)] wenc (WRd p b) (fun s => s.k = 0) WC WD WE := by
  intro l J Jx s0 W hA hR hJ hY h0
  have HR := Lib.hid hR
  have HJ0 := Lib.hid h0
  have HK0 : Hid (s0.k ≤ 0 * 64) := Lib.hid (by rw [hA]; exact Nat.zero_le _)
  have HBE := Lib.hid hJ
  have HY := Lib.hid hY
  have e0 : W.cell? ⟨b, 0, none⟩ = some (.pointer (some ⟨p, 0, none⟩)) := (hR _ _ h0).box.cell 0
  clear hR h0 hJ hY hA
  refine callsIn_of_wp Tryd.func56 rfl trivial ?_ rfl
  simp only [Tryd.ntmps56, List.size_toArray, List.length_cons, List.length_nil, Nat.reduceAdd, Nat.reduceSub, Array.replicate_succ, Array.replicate_zero, List.push_toArray, List.append_toArray, List.nil_append, List.cons_append]
  gi_wp2_with fail
  gi_loopw [9] (fun i wr => ∃ (m : Nat) (s : WSt), m ≤ 5 ∧ i = .int .i64 (m : Int) ∧ s.k ≤ m * 64 ∧ Hid (∀ i, s.k ≤ i → i < m * 64 → s.S i = []) ∧ J s wr) (fun i _ => 5 - (intOf i).toNat)
  case atStart => exact ⟨0, s0, by omega, rfl, HK0.out, Lib.hid (fun i h1 h2 => by omega), HJ0.out⟩
  case round =>
    clear HJ0 e0
    obtain ⟨m, s, hm, rfl, hk, HN, hj⟩ := hrel
    obtain ⟨⟨B, t, hwh⟩, hbox, htab, hlt⟩ := HR.out s wr hj
    have e0 := hbox.cell 0
    have e0 : wr.cell? ⟨b, 0, none⟩ = some (.pointer (some ⟨p, 0, none⟩)) := e0
    have HK := Lib.hid hk
    have HJ := Lib.hid hj
    by_cases hm5 : m < 5
    · obtain ⟨mk, hmk, hbit⟩ := hwh.mask m hm5
      have hm50 : (0 : Int) ≤ (m : Int) := by omega
      have hm51 : (m : Int) < 5 := by omega
      have HF := Lib.hid (first9 mk 0 wr htab hlt)
      have HIN := Lib.hid (least_in (s := s) hbit (f := 0) (by omega) hk (fun i h1 h2 => HN.out i h1 (by omega)))
      clear hwh hbox htab hlt hk hbit hj
      gi_wp2_with fail
      refine ⟨trivial, (callsIn_wide.2 HF.out).mono ?_⟩
      rintro e w1 ⟨rfl, hb1⟩
      have HJ1 := Lib.hid ((HBE.out s).below HJ.out hb1)
      unfold some2
      generalize hle : least mk 0 = o at *
      have HI : Hid (WIn s m o) := HIN
      clear hb1 HF HJ HIN hle hmk e0 HK HN
      gi_wp2_with fail
      gi_loopw [5, 6] (fun sv ov wr => ∃ (s : WSt) (o : Option Nat), sv = .int .i64 ((o.getD 0 : Nat) : Int) ∧ ov = .bool o.isSome ∧ Hid (WIn s m o) ∧ J s wr) (fun sv ov _ => okOf ov - (intOf sv).toNat)
      case atStart => exact ⟨s, o, rfl, rfl, HI, HJ1.out⟩
      case round =>
        clear HI HJ1
        obtain ⟨s, o, rfl, rfl, HI, hj⟩ := hrel
        have HJ := Lib.hid hj
        cases o with
        | none =>
          clear hj
          obtain ⟨i1, i2⟩ := HI.out
          have HI2 := Lib.hid i2
          clear i2
          gi_wp2_with fail
          go_roundw
          case rel => exact ⟨m + 1, s, by omega, by go_num, i1, HI2.out, HJ.out⟩
          case measure => simp [intOf]; omega
        | some sl =>
          obtain ⟨h64, h1, h2, h3⟩ := HI.out
          obtain ⟨⟨B, t, hwh⟩, hbox, htab, hlt⟩ := HR.out s wr hj
          have hsl := hwh.slot m sl hm5 h64
          have hsl0 : (0 : Int) ≤ (sl : Int) := by omega
          have hsl1 : (sl : Int) < 64 := by omega
          obtain ⟨fn, tmps, assign, body, hy, hRI⟩ := HY.out s ⟨m * 64 + sl, (s.V (m * 64 + sl)).1, (s.S (m * 64 + sl)).length, (s.V (m * 64 + sl)).2⟩ wr hj ⟨h1, by show m * 64 + sl < 320; omega, h2, h3, rfl, rfl, rfl⟩
          unfold wenc at hy
          dsimp only at hy
          rw [plV_at m sl h64] at hy
          have HRI := Lib.hid hRI
          clear hRI hwh hbox htab hlt h1 h2 h3 hj HI
          generalize (s.S (m * 64 + sl)).length = N at *
          generalize s.V (m * 64 + sl) = VA at *
          obtain ⟨A, c⟩ := VA
          dsimp only at hsl hy HRI
          gi_wp2_with fail
          refine HRI.out.mono ?_
          rintro e w3 (⟨rfl, s', hD, hj⟩ | ⟨rfl, hjx⟩)
          · obtain ⟨⟨B', t', hwh⟩, hbox, htab, hlt⟩ := HR.out s' w3 hj
            obtain ⟨mk', hmk', hbit⟩ := hwh.mask m hm5
            have hD2 : s'.k = m * 64 + sl + 1 := hD
            have HF := Lib.hid (first9 mk' ((sl : Int) + 1) w3 htab hlt)
            have HIN := Lib.hid (least_in (s := s') hbit (f := sl + 1) (by omega) (by omega) (fun i h1 h2 => by omega))
            rw [show (((sl + 1 : Nat) : Int)) = (sl : Int) + 1 by omega] at HIN
            have HJ3 := Lib.hid hj
            have HD := Lib.hid hD2
            clear hwh hbox htab hlt hbit hj hD hD2 hy hsl HRI HJ
            gi_wp2_with fail
            refine ⟨trivial, (callsIn_wide.2 HF.out).mono ?_⟩
            rintro e w4 ⟨rfl, hb4⟩
            have HJ4 := Lib.hid ((HBE.out s').below HJ3.out hb4)
            unfold some2
            generalize hle : least mk' ((sl : Int) + 1) = o' at *
            clear hb4 HF HJ3 hle hmk'
            gi_wp2_with fail
            go_roundw
            case rel => exact ⟨s', o', rfl, rfl, HIN, HJ4.out⟩
            case measure =>
              cases o' with
              | none => simp [intOf, okOf]; omega
              | some q =>
                have h1 := HIN.out.1
                have h2 := HIN.out.2.1
                have h3 := HD.out
                simp [intOf, okOf]; omega
          · have HX := Lib.hid hjx
            clear hjx hy hsl HRI HJ
            gi_wp2_with fail
            refine bodyPost_ret (results_none rfl _ _ _) rfl ?_
            exact ⟨⟨_, rfl⟩, .inr HX.out⟩
    · have h5 : m = 5 := by omega
      have HE : Hid (WE s) := Lib.hid (fun i h1 h2 => HN.out i h1 (by omega))
      clear hwh hbox htab hlt hj hk
      gi_wp2_with fail
      go_end0
      exact ⟨⟨_, rfl⟩, .inl ⟨s, HE.out, HJ.out⟩⟩
end Go.Proofs.YtidgiohjgkfjcaaDoor
