/- slices.Contains of dues; slices.IsSorted of names: walked, where they answer true. -/
import Derived.Test.YthngjbnbloboiaaGreatDoorKVDues
namespace Go.Proofs.YthngjbnbloboiaaGreatDoor
open Go.RowKit

/-- What dues of one's own read. -/
theorem own_dues {w : World} {B : Nat} {v : Value} {l : List (Int × Int)} (h : OwnD w B v l) : ∃ A c, v = .slice A l.length c ∧ l.length ≤ c ∧ ∀ (k : Nat) (d : Int × Int), l[k]? = some d → ∃ b, A = some ⟨b, 0, none⟩ ∧ b < w.heap.size ∧ w.cell? ⟨b, k * 2, none⟩ = some (.int .i64 d.1) ∧ w.cell? ⟨b, k * 2 + 1, none⟩ = some (.int .u64 d.2) := by
  rcases h.at_due with ⟨rfl, rfl⟩ | ⟨g, cap, rfl, _, hd⟩
  · exact ⟨none, 0, rfl, Nat.le_refl _, fun k d hk => by simp at hk⟩
  · exact ⟨_, cap, rfl, hd.le, fun k d hk => ⟨g, rfl, hd.lt, hd.cell hk⟩⟩
set_option maxRecDepth 100000 in
set_option maxHeartbeats 1000000 in
theorem index_due (v : Value) (l : List (Int × Int)) (d : Int × Int) (B : Nat) (w : World) (ho : OwnD w B v l) (hn : l.length ≤ 100) (hd : d ∈ l) :
    Calls Tryz.prog 47 #[v, dueV d] w fun e w' => (∃ k : Nat, e = .returned (.int .i64 (k : Int))) ∧ Below w.heap.size w w' := by
  obtain ⟨A, c, rfl, hcap, hat⟩ := own_dues ho
  obtain ⟨i, hi⟩ := List.mem_iff_getElem?.1 hd
  have HI := Lib.hid hi; have HAT := Lib.hid hat
  obtain ⟨n, hln⟩ : ∃ n, l.length = n := ⟨_, rfl⟩
  rw [hln] at hcap hn ⊢
  have HLN := Lib.hid hln
  obtain ⟨d0, d1⟩ := d
  unfold dueV
  simp only
  have hb0 := new_below w (.cells #[.int .i64 d0, .int .u64 d1] 55)
  have hx0 := D.Box.new w 55 #[.int .i64 d0, .int .u64 d1]
  obtain ⟨W0, hW0⟩ : ∃ W : World, W = w.alloc (.cells #[.int .i64 d0, .int .u64 d1] 55) := ⟨_, rfl⟩
  rw [← hW0] at hx0 hb0
  have HB0 := Lib.hid hb0; have HX0 := Lib.hid hx0
  clear hx0 hb0 ho hd hi hat hln
  go_enter Tryz.func47, Tryz.ntmps47
  go_upto_region 1 with fail
  rw [← hW0]
  clear hW0
  go_wp2_with fail
  go_loopw [8] (fun iv wr => ∃ k : Nat, k ≤ i ∧ iv = .int .i64 (k : Int) ∧ Below W0.heap.size W0 wr) (fun iv _ => n - (intOf iv).toNat)
  case atStart => exact ⟨0, Nat.zero_le _, rfl, Below.refl _ _⟩
  case round =>
    obtain ⟨k, hk, rfl, hb⟩ := hrel
    have HB := Lib.hid hb
    have hin : i < n := by have := (List.getElem?_eq_some_iff.1 HI.out).1; have := HLN.out; omega
    obtain ⟨x, hx⟩ : ∃ x, l[k]? = some x := ⟨_, List.getElem?_eq_getElem (by have := HLN.out; omega)⟩
    obtain ⟨b, rfl, hbl, c0, c1⟩ := HAT.out k x hx
    have HBW := Lib.hid (HB0.out.trans (hb.mono HB0.out.size))
    have e0 : wr.cell? ⟨b, k * 2, none⟩ = some (.int .i64 x.1) := (HBW.out.cell (p := ⟨b, k * 2, none⟩) hbl).trans c0
    have e1 : wr.cell? ⟨b, k * 2 + 1, none⟩ = some (.int .u64 x.2) := (HBW.out.cell (p := ⟨b, k * 2 + 1, none⟩) hbl).trans c1
    have y0 : wr.cell? ⟨w.heap.size, 0, none⟩ = some (.int .i64 d0) := D.Box.cell (D.Box.belowAll HX0.out hb) 0
    have y1 : wr.cell? ⟨w.heap.size, 1, none⟩ = some (.int .u64 d1) := D.Box.cell (D.Box.belowAll HX0.out hb) 1
    have g1 : (0 : Int) ≤ (k : Int) := by omega
    have g2 : (k : Int) < (n : Int) := by omega
    have HXK := Lib.hid hx
    obtain ⟨x0, x1⟩ := x
    simp only at e0 e1
    clear hb hx c0 c1
    by_cases he : d0 = x0 ∧ d1 = x1
    · obtain ⟨rfl, rfl⟩ := he
      go_wp2_with fail
      go_quiet (fail)
      go_wp2_with fail
      go_ret
      exact ⟨⟨k, rfl⟩, bdrewN HBW.out _⟩
    · have hki : k ≠ i := fun e => by
        subst e
        rw [HI.out] at HXK
        have := HXK.out
        cases this
        exact he ⟨rfl, rfl⟩
      have hq : (d0 == x0 && d1 == x1) = false := by
        cases h : (d0 == x0 && d1 == x1) with
        | false => rfl
        | true =>
          rw [Bool.and_eq_true, beq_iff_eq, beq_iff_eq] at h
          exact absurd h he
      have hq2 : d0 = x0 → ¬ d1 = x1 := fun h1 h2 => he ⟨h1, h2⟩
      have HBI := Lib.hid HB.out
      clear he
      by_cases h0 : d0 = x0
      · have h1 : (d1 == x1) = false := by simpa using hq2 h0
        subst h0
        clear hq hq2
        go_wp2_with fail
        go_quiet (fail)
        go_wp2_with fail
        go_roundw
        case rel => exact ⟨k + 1, by omega, by go_num, bdrewN HBI.out _⟩
        case measure => simp [intOf]; omega
      · have h1 : (d0 == x0) = false := by simpa using h0
        clear hq hq2 h0
        go_wp2_with fail
        go_quiet (fail)
        go_wp2_with fail
        go_roundw
        case rel => exact ⟨k + 1, by omega, by go_num, bdrewN HBI.out _⟩
        case measure => simp [intOf]; omega
set_option maxRecDepth 100000 in
set_option maxHeartbeats 1000000 in
theorem contains_due (v : Value) (l : List (Int × Int)) (d : Int × Int) (B : Nat) (w : World) (ho : OwnD w B v l) (hn : l.length ≤ 100) (hd : d ∈ l) :
    Calls Tryz.prog 17 #[v, dueV d] w fun e w' => e = .returned (.bool true) ∧ Below w.heap.size w w' := by
  have hb0 := new_below w (.cells #[.int .i64 d.1, .int .u64 d.2] 55)
  have HIX := Lib.hid (index_due v l d B _ (ho.below hb0) hn hd)
  have HB0 := Lib.hid hb0
  obtain ⟨A, c, rfl⟩ := ho.slice
  unfold dueV at *
  clear hb0 ho hn hd
  go_enter Tryz.func17, Tryz.ntmps17
  go_wp2_with fail
  refine HIX.out.mono ?_
  rintro e w1 ⟨⟨k, rfl⟩, hb⟩
  have HB1 := Lib.hid (HB0.out.trans (hb.mono HB0.out.size))
  have g1 : (0 : Int) ≤ (k : Int) := by omega
  clear hb
  go_wp2_with fail
  go_ret
  exact ⟨by first | rfl | simp, HB1.out⟩
theorem less_u32 (a b : Int) (w : World) (h : b ≤ a) : Calls Tryz.prog 48 #[.int .u32 a, .int .u32 b] w fun e w' => e = .returned (.bool false) ∧ w' = w := by
  have hd : decide (a < b) = false := decide_eq_false (by omega)
  clear h
  go_enter Tryz.func48, Tryz.ntmps48
  go_wp2_with go_in
  go_ret
  exact ⟨rfl, rfl⟩
set_option maxRecDepth 100000 in
set_option maxHeartbeats 1000000 in
theorem sorted_names (v : Value) (ns : List Int) (B : Nat) (w : World) (ho : w.ownsRow B 23 1 v ns.length (ns.map nameV)) (hn : ns.length ≤ 100) (hp : ns.Pairwise (· < ·)) :
    Calls Tryz.prog 18 #[v] w fun e w' => e = .returned (.bool true) ∧ Below w.heap.size w w' := by
  have HO := Lib.hid ho; have HP := Lib.hid hp
  obtain ⟨n, hln⟩ : ∃ n, ns.length = n := ⟨_, rfl⟩
  have HLN := Lib.hid hln
  have HAT : Hid (∀ A c, v = .slice A n c → ∀ (k : Nat) (x : Int), ns[k]? = some x → ∃ b, A = some ⟨b, 0, none⟩ ∧ b < w.heap.size ∧ w.cell? ⟨b, k, none⟩ = some (.int .u32 x)) := Lib.hid (fun A c e k x hk => by
    subst e
    have hkl := (List.getElem?_eq_some_iff.1 hk).1
    rcases ho.2 with ⟨_, h0⟩ | ⟨g, cap, cur, hv, hg, hh, r⟩
    · omega
    · injection hv with e1 e2 e3
      subst e1 e3
      refine ⟨g, rfl, (Array.getElem?_eq_some_iff.1 hh).1, ?_⟩
      rw [← hln] at HO
      have := World.ownsRow.cellAt HO.out k (by omega)
      rw [this, List.getElem?_map, hk]; rfl)
  obtain ⟨A, c, rfl⟩ := own_slice0 ho
  rw [hln] at hn ⊢

  have HAT2 := Lib.hid (HAT.out A c (by rw [hln]))
  have hw1 : IntKind.i64.wrap ((n : Int) - 1) = (n : Int) - 1 := by rw [IntKind.wrap_i64]; omega
  clear ho hp HO HAT
  go_enter Tryz.func18, Tryz.ntmps18
  go_wp2_with fail
  go_loopw [3] (fun iv wr => ∃ k : Nat, k ≤ n ∧ iv = .int .i64 ((k : Int) - 1) ∧ Below w.heap.size w wr) (fun iv _ => (intOf iv + 1).toNat)
  case atStart => exact ⟨n, Nat.le_refl _, rfl, Below.refl _ _⟩
  case round =>
    obtain ⟨k, hk, rfl, hb⟩ := hrel
    have HB := Lib.hid hb
    clear hb
    by_cases hlt : 2 ≤ k
    · obtain ⟨k, rfl⟩ : ∃ j, k = j + 2 := ⟨k - 2, by omega⟩
      obtain ⟨x, hx⟩ : ∃ x, ns[k]? = some x := ⟨_, List.getElem?_eq_getElem (by have := HLN.out; omega)⟩
      obtain ⟨y, hy⟩ : ∃ y, ns[k + 1]? = some y := ⟨_, List.getElem?_eq_getElem (by have := HLN.out; omega)⟩
      obtain ⟨b, rfl, hbl, c0'⟩ := HAT2.out k x hx
      obtain ⟨b2, e2, _, c1'⟩ := HAT2.out (k + 1) y hy
      cases e2
      have c0 := (HB.out.cell (p := ⟨b, k, none⟩) hbl).trans c0'
      have c1 := (HB.out.cell (p := ⟨b, k + 1, none⟩) hbl).trans c1'
      have hxy : x ≤ y := by
        have h1 := (List.getElem?_eq_some_iff.1 hx).1
        have h2 := (List.getElem?_eq_some_iff.1 hy).1
        have := List.pairwise_iff_getElem.1 HP.out k (k + 1) h1 h2 (by omega)
        rw [(List.getElem?_eq_some_iff.1 hx).2, (List.getElem?_eq_some_iff.1 hy).2] at this
        omega
      have HLS := Lib.hid (fun W => less_u32 y x W hxy)
      have e0 : (((k + 2 : Nat) : Int) - 1) = ((k + 1 : Nat) : Int) := by omega
      rw [e0]
      have g0 : (0 : Int) < (k : Int) + 1 := by omega
      have g1 : (0 : Int) ≤ (k : Int) + 1 := by omega
      have g2 : (k : Int) + 1 < (n : Int) := by omega
      have g3 : (0 : Int) ≤ (k : Int) := by omega
      have g4 : (k : Int) < (n : Int) := by omega
      have w1 : IntKind.i64.wrap ((k : Int) + 1 - 1) = (k : Int) := by rw [IntKind.wrap_i64]; omega
      have w2 : IntKind.i64.wrap (k : Int) = (k : Int) := by rw [IntKind.wrap_i64]; omega
      clear hx hy hxy e0 c0' c1' hbl
      go_wp2_with fail
      go_quiet ((go_at_call 48; with_reducible exact Calls.quiet_of_same (HLS.out _)))
      go_wp2_with fail
      go_roundw
      case rel => exact ⟨k + 1, by omega, by go_num, bdrewN HB.out _⟩
      case measure => simp [intOf]; omega
    · have g0 : ¬ (0 : Int) < (k : Int) - 1 := by omega
      have g1 : decide ((0 : Int) < (k : Int) - 1) = false := decide_eq_false g0
      go_wp2_with fail
      go_ret
      exact ⟨rfl, HB.out⟩
end Go.Proofs.YthngjbnbloboiaaGreatDoor
