/- NextTells: when a cron matches next, and did last, and whether ever: walked. -/
import Derived.Test.YtkimbmifabpppaaDoorKHTurns
import Derived.Test.YtkimbmifabpppaaDoorKHRSome
namespace Go.Proofs.YtkimbmifabpppaaDoor
open Go.RowKit

/-- What Next tells, by its two values. -/
def NextV (L : List (BitVec 64)) (a u : Int) (z : Bool) : Prop := (z = true ∧ IsNext (TC L) a u) ∨ (z = false ∧ u = 0 ∧ NoNext (TC L) a)
def LastV (L : List (BitVec 64)) (a u : Int) (z : Bool) : Prop := (z = true ∧ IsLast (TC L) a u) ∨ (z = false ∧ u = 0 ∧ NoLast (TC L) a)
theorem NextIs.v {L : List (BitVec 64)} {a : Int} {x : Ending} (h : NextIs L a x) : ∃ (u : Int) (z : Bool), x = .returned (.tuple #[.int .i64 u, .bool z]) ∧ NextV L a u z := by
  rcases h with ⟨u, hu, rfl⟩ | ⟨hn, rfl⟩
  · exact ⟨u, true, rfl, .inl ⟨rfl, hu⟩⟩
  · exact ⟨0, false, rfl, .inr ⟨rfl, rfl, hn⟩⟩
theorem LastIs.v {L : List (BitVec 64)} {a : Int} {x : Ending} (h : LastIs L a x) : ∃ (u : Int) (z : Bool), x = .returned (.tuple #[.int .i64 u, .bool z]) ∧ LastV L a u z := by
  rcases h with ⟨u, hu, rfl⟩ | ⟨hn, rfl⟩
  · exact ⟨u, true, rfl, .inl ⟨rfl, hu⟩⟩
  · exact ⟨0, false, rfl, .inr ⟨rfl, rfl, hn⟩⟩
theorem nextv_one {L : List (BitVec 64)} {a u u' : Int} {z z' : Bool} (h : NextV L a u z) (h' : NextV L a u' z') : u = u' ∧ z = z' := by
  rcases h with ⟨rfl, h⟩ | ⟨rfl, rfl, h⟩ <;> rcases h' with ⟨rfl, h'⟩ | ⟨rfl, rfl, h'⟩
  · exact ⟨next_one h h', rfl⟩
  · exact (next_none h h').elim
  · exact (next_none h' h).elim
  · exact ⟨rfl, rfl⟩
theorem lastv_one {L : List (BitVec 64)} {a u u' : Int} {z z' : Bool} (h : LastV L a u z) (h' : LastV L a u' z') : u = u' ∧ z = z' := by
  rcases h with ⟨rfl, h⟩ | ⟨rfl, rfl, h⟩ <;> rcases h' with ⟨rfl, h'⟩ | ⟨rfl, rfl, h'⟩
  · exact ⟨last_one h h', rfl⟩
  · exact (last_none h h').elim
  · exact (last_none h' h).elim
  · exact ⟨rfl, rfl⟩
theorem nextv_no {L : List (BitVec 64)} {a u : Int} {z : Bool} (hk : crB L = false) (h : NextV L a u z) : u = 0 ∧ z = false := by
  rcases h with ⟨rfl, h⟩ | ⟨rfl, rfl, h⟩
  · exact absurd (hk.symm.trans h.1.1) (by simp)
  · exact ⟨rfl, rfl⟩
theorem lastv_no {L : List (BitVec 64)} {a u : Int} {z : Bool} (hk : crB L = false) (h : LastV L a u z) : u = 0 ∧ z = false := by
  rcases h with ⟨rfl, h⟩ | ⟨rfl, rfl, h⟩
  · exact absurd (hk.symm.trans h.1.1) (by simp)
  · exact ⟨rfl, rfl⟩
/-- Numbers that came in. -/
def NumsAt (K : IntKind) (P : Int → Prop) (w : World) (B : Nat) (A : Option Addr) (n : Nat) : Prop := ∀ k, k < n → ∃ (b o : Nat) (t : Int), A = some ⟨b, o, none⟩ ∧ b < B ∧ w.cell? ⟨b, o + k, none⟩ = some (.int K t) ∧ P t
theorem NumsAt.on {K : IntKind} {P : Int → Prop} {w w' : World} {B : Nat} {A : Option Addr} {n : Nat} (h : NumsAt K P w B A n) (hb : Below B w w') : NumsAt K P w' B A n := by
  intro k hk
  obtain ⟨b, o, t, e, hlt, hc, hp⟩ := h k hk
  exact ⟨b, o, t, e, hlt, (hb.cell (p := ⟨b, o + k, none⟩) hlt).trans hc, hp⟩
set_option maxRecDepth 100000 in
set_option maxHeartbeats 2000000 in
theorem ntells_walk (a b c d e : BitVec 64) (A : Option Addr) (n cap : Nat) (w : World) (hL : LaidC w) (hn : n ≤ maxLen) (hN : NumsAt .i64 (fun _ => True) w w.heap.size A n) :
    Calls Tryd.prog 3 #[cronV [a, b, c, d, e], .slice A n cap] w fun x w' => x = .returned (.bool true) ∧ Below w.heap.size w w' := by
  obtain ⟨WB, hWB, hb0, hc0⟩ := cron_cell1 w a b c d e
  have HWK := Lib.hid hwakes_any
  have HNX := Lib.hid (fun t W hW => (next_any [a, b, c, d, e] t W hW rfl).mono fun x w' h => (⟨h.1.v, h.2⟩ : (∃ (u : Int) (z : Bool), x = .returned (.tuple #[.int .i64 u, .bool z]) ∧ NextV [a, b, c, d, e] t u z) ∧ Below W.heap.size W w'))
  have HLS := Lib.hid (fun t W hW => (nlast_any [a, b, c, d, e] t W hW rfl).mono fun x w' h => (⟨h.1.v, h.2⟩ : (∃ (u : Int) (z : Bool), x = .returned (.tuple #[.int .i64 u, .bool z]) ∧ LastV [a, b, c, d, e] t u z) ∧ Below W.heap.size W w'))
  have HEV := Lib.hid (fun W hW => ever_any [a, b, c, d, e] W hW rfl)
  have HRT := Lib.hid (fun W => crB_five' a b c d e W)
  have HB0 := Lib.hid hb0; have HC := Lib.hid hc0; have HL := Lib.hid (hL.on hb0)
  have HX0 := Lib.hid (Below.refl WB.heap.size WB)
  have HNN := Lib.hid (hN.on hb0)
  have hwb := hb0.size
  rcases Bool.eq_false_or_eq_true (crB [a, b, c, d, e]) with hk | hk
  case inl =>
    have HK := Lib.hid hk
    rw [hk] at HRT
    have HRN := Lib.hid (fun t W => (rnext_any a b c d e t W hk).mono fun x w' h => (⟨h.1.v, h.2⟩ : (∃ (u : Int) (z : Bool), x = .returned (.tuple #[.int .i64 u, .bool z]) ∧ NextV [a, b, c, d, e] t u z) ∧ Below W.heap.size W w'))
    have HRL := Lib.hid (fun t W => (nrlast_any a b c d e t W hk).mono fun x w' h => (⟨h.1.v, h.2⟩ : (∃ (u : Int) (z : Bool), x = .returned (.tuple #[.int .i64 u, .bool z]) ∧ LastV [a, b, c, d, e] t u z) ∧ Below W.heap.size W w'))
    have HRE := Lib.hid (fun W => rever_any a b c d e W hk)
    rw [cronV_five] at *
    unfold fiveV at *
    clear hL hb0 hc0 hN hk
    go_enter Tryd.func3, Tryd.ntmps3
    go_wp2_with fail
    rw [← hWB]
    clear hWB
    refine (HWK.out _ HL.out).mono ?_
    rintro x w1 ⟨rfl, hb⟩
    have HX1 := Lib.hid (HX0.out.trans (hb.mono HX0.out.size))
    clear hb HX0
    obtain ⟨c0, c1, c2, c3, c4⟩ := (HC.out.on HX1.out).five
    go_wp2_with fail
    refine (HRT.out _).mono ?_
    rintro x w2 ⟨rfl, hb⟩
    have HX2 := Lib.hid (HX1.out.trans (hb.mono HX1.out.size))
    clear hb HX1 c0 c1 c2 c3 c4
    go_wp2_with fail
    go_loopw [22] (fun i wr => ∃ k : Nat, k ≤ n ∧ k ≤ 4 ∧ i = .int .i64 (k : Int) ∧ Below WB.heap.size WB wr) (fun i _ => n - (intOf i).toNat)
    case atStart => exact ⟨0, Nat.zero_le _, by omega, rfl, HX2.out⟩
    case round =>
      clear HX2
      obtain ⟨k, hk, hk4, rfl, hx⟩ := hrel
      have HX := Lib.hid hx
      clear hx
      by_cases hlt : k < n
      · by_cases hk5 : k = 4
        · subst hk5
          obtain ⟨bb, off, t, hA, hlb, hc, _⟩ := (HNN.out.on (HX.out.mono hwb)) 4 hlt
          subst hA
          rw [show ((4 : Nat) : Int) = 4 by rfl]
          have hi4 : (4 : Int) < (n : Int) := by omega
          obtain ⟨c0, c1, c2, c3, c4⟩ := (HC.out.on HX.out).five
          go_wp2_with fail
          clear c0 c1 c2 c3 c4 hc
          have HX0 := HX
          refine (HEV.out _ (HL.out.on HX0.out)).mono ?_
          rintro x v1 ⟨z1, rfl, hz1, hb⟩
          have HX1 := Lib.hid (HX0.out.trans (hb.mono HX0.out.size))
          clear hb HX0
          have HZ1 := Lib.hid hz1
          clear hz1
          obtain ⟨c0, c1, c2, c3, c4⟩ := (HC.out.on HX1.out).five
          go_wp2_with fail
          clear c0 c1 c2 c3 c4
          refine (HRE.out _).mono ?_
          rintro x v2 ⟨z2, rfl, hz2, hb⟩
          have HX2 := Lib.hid (HX1.out.trans (hb.mono HX1.out.size))
          clear hb HX1
          have hzz : z1 = z2 := by
            cases z1 <;> cases z2
            · rfl
            · exact absurd (HZ1.out.2 (hz2.1 rfl)) (by simp)
            · exact absurd (hz2.2 (HZ1.out.1 rfl)) (by simp)
            · rfl
          subst hzz
          clear hz2
          go_wp2_with fail
          go_ret
          exact ⟨rfl, HB0.out.trans (HX2.out.mono HB0.out.size)⟩
        · obtain ⟨bb, off, t, hA, hlb, hc, _⟩ := (HNN.out.on (HX.out.mono hwb)) k hlt
          subst hA
          have hd4 : ((k : Int) == 4) = false := by simp; omega
          have hk0 : (0 : Int) ≤ (k : Int) := by omega
          have hkn : (k : Int) < (n : Int) := by omega
          have HX0 := HX
          obtain ⟨c0, c1, c2, c3, c4⟩ := (HC.out.on HX0.out).five
          go_wp2_with fail
          clear c0 c1 c2 c3 c4
          refine (HNX.out t _ (HL.out.on HX0.out)).mono ?_
          rintro x v1 ⟨⟨u, z, rfl, hu⟩, hb⟩
          have HX1 := Lib.hid (HX0.out.trans (hb.mono HX0.out.size))
          clear hb HX0
          have HU := Lib.hid hu
          clear hu hc
          obtain ⟨c0, c1, c2, c3, c4⟩ := (HC.out.on HX1.out).five
          go_wp2_with fail
          clear c0 c1 c2 c3 c4
          refine (HLS.out t _ (HL.out.on HX1.out)).mono ?_
          rintro x v2 ⟨⟨u2, z2, rfl, hu2⟩, hb⟩
          have HX2 := Lib.hid (HX1.out.trans (hb.mono HX1.out.size))
          clear hb HX1
          have HU2 := Lib.hid hu2
          clear hu2
          obtain ⟨c0, c1, c2, c3, c4⟩ := (HC.out.on HX2.out).five
          go_wp2_with fail
          clear c0 c1 c2 c3 c4
          refine (HRN.out t _).mono ?_
          rintro x v3 ⟨⟨u3, z3, rfl, hu3⟩, hb⟩
          have HX3 := Lib.hid (HX2.out.trans (hb.mono HX2.out.size))
          clear hb HX2
          obtain ⟨rfl, rfl⟩ := nextv_one HU.out hu3
          clear hu3
          obtain ⟨c0, c1, c2, c3, c4⟩ := (HC.out.on HX3.out).five
          go_wp2_with fail
          clear c0 c1 c2 c3 c4
          refine (HRL.out t _).mono ?_
          rintro x v4 ⟨⟨u4, z4, rfl, hu4⟩, hb⟩
          have HX4 := Lib.hid (HX3.out.trans (hb.mono HX3.out.size))
          clear hb HX3
          obtain ⟨rfl, rfl⟩ := lastv_one HU2.out hu4
          clear hu4
          go_wp2_with fail
          go_roundw
          case rel => exact ⟨k + 1, by omega, by omega, by go_num, HX4.out⟩
          case measure => simp [intOf]; omega
      · have hkn : k = n := by omega
        subst hkn
        obtain ⟨c0, c1, c2, c3, c4⟩ := (HC.out.on HX.out).five
        go_wp2_with fail
        clear c0 c1 c2 c3 c4
        have HX0 := HX
        refine (HEV.out _ (HL.out.on HX0.out)).mono ?_
        rintro x v1 ⟨z1, rfl, hz1, hb⟩
        have HX1 := Lib.hid (HX0.out.trans (hb.mono HX0.out.size))
        clear hb HX0
        have HZ1 := Lib.hid hz1
        clear hz1
        obtain ⟨c0, c1, c2, c3, c4⟩ := (HC.out.on HX1.out).five
        go_wp2_with fail
        clear c0 c1 c2 c3 c4
        refine (HRE.out _).mono ?_
        rintro x v2 ⟨z2, rfl, hz2, hb⟩
        have HX2 := Lib.hid (HX1.out.trans (hb.mono HX1.out.size))
        clear hb HX1
        have hzz : z1 = z2 := by
          cases z1 <;> cases z2
          · rfl
          · exact absurd (HZ1.out.2 (hz2.1 rfl)) (by simp)
          · exact absurd (hz2.2 (HZ1.out.1 rfl)) (by simp)
          · rfl
        subst hzz
        clear hz2
        go_wp2_with fail
        go_ret
        exact ⟨rfl, HB0.out.trans (HX2.out.mono HB0.out.size)⟩
  case inr =>
    have HK := Lib.hid hk
    rw [hk] at HRT
    rw [cronV_five] at *
    unfold fiveV at *
    clear hL hb0 hc0 hN hk
    go_enter Tryd.func3, Tryd.ntmps3
    go_wp2_with fail
    rw [← hWB]
    clear hWB
    refine (HWK.out _ HL.out).mono ?_
    rintro x w1 ⟨rfl, hb⟩
    have HX1 := Lib.hid (HX0.out.trans (hb.mono HX0.out.size))
    clear hb HX0
    obtain ⟨c0, c1, c2, c3, c4⟩ := (HC.out.on HX1.out).five
    go_wp2_with fail
    refine (HRT.out _).mono ?_
    rintro x w2 ⟨rfl, hb⟩
    have HX2 := Lib.hid (HX1.out.trans (hb.mono HX1.out.size))
    clear hb HX1 c0 c1 c2 c3 c4
    go_wp2_with fail
    go_loopw [22] (fun i wr => ∃ k : Nat, k ≤ n ∧ k ≤ 4 ∧ i = .int .i64 (k : Int) ∧ Below WB.heap.size WB wr) (fun i _ => n - (intOf i).toNat)
    case atStart => exact ⟨0, Nat.zero_le _, by omega, rfl, HX2.out⟩
    case round =>
      clear HX2
      obtain ⟨k, hk, hk4, rfl, hx⟩ := hrel
      have HX := Lib.hid hx
      clear hx
      by_cases hlt : k < n
      · by_cases hk5 : k = 4
        · subst hk5
          obtain ⟨bb, off, t, hA, hlb, hc, _⟩ := (HNN.out.on (HX.out.mono hwb)) 4 hlt
          subst hA
          rw [show ((4 : Nat) : Int) = 4 by rfl]
          have hi4 : (4 : Int) < (n : Int) := by omega
          obtain ⟨c0, c1, c2, c3, c4⟩ := (HC.out.on HX.out).five
          go_wp2_with fail
          clear c0 c1 c2 c3 c4 hc
          have HX0 := HX
          refine (HEV.out _ (HL.out.on HX0.out)).mono ?_
          rintro x v1 ⟨z1, rfl, hz1, hb⟩
          have HX1 := Lib.hid (HX0.out.trans (hb.mono HX0.out.size))
          clear hb HX0
          have hzf : z1 = false := by
            cases z1
            · rfl
            · obtain ⟨u, hu, _⟩ := hz1.1 rfl
              exact absurd (HK.out.symm.trans hu.1) (by simp)
          subst hzf
          clear hz1
          go_wp2_with fail
          go_ret
          exact ⟨rfl, HB0.out.trans (HX1.out.mono HB0.out.size)⟩
        · obtain ⟨bb, off, t, hA, hlb, hc, _⟩ := (HNN.out.on (HX.out.mono hwb)) k hlt
          subst hA
          have hd4 : ((k : Int) == 4) = false := by simp; omega
          have hk0 : (0 : Int) ≤ (k : Int) := by omega
          have hkn : (k : Int) < (n : Int) := by omega
          have HX0 := HX
          obtain ⟨c0, c1, c2, c3, c4⟩ := (HC.out.on HX0.out).five
          go_wp2_with fail
          clear c0 c1 c2 c3 c4
          refine (HNX.out t _ (HL.out.on HX0.out)).mono ?_
          rintro x v1 ⟨⟨u, z, rfl, hu⟩, hb⟩
          have HX1 := Lib.hid (HX0.out.trans (hb.mono HX0.out.size))
          clear hb HX0
          obtain ⟨rfl, rfl⟩ := nextv_no HK.out hu
          clear hu hc
          obtain ⟨c0, c1, c2, c3, c4⟩ := (HC.out.on HX1.out).five
          go_wp2_with fail
          clear c0 c1 c2 c3 c4
          refine (HLS.out t _ (HL.out.on HX1.out)).mono ?_
          rintro x v2 ⟨⟨u2, z2, rfl, hu2⟩, hb⟩
          have HX2 := Lib.hid (HX1.out.trans (hb.mono HX1.out.size))
          clear hb HX1
          obtain ⟨rfl, rfl⟩ := lastv_no HK.out hu2
          clear hu2
          go_wp2_with fail
          go_roundw
          case rel => exact ⟨k + 1, by omega, by omega, by go_num, HX2.out⟩
          case measure => simp [intOf]; omega
      · have hkn : k = n := by omega
        subst hkn
        obtain ⟨c0, c1, c2, c3, c4⟩ := (HC.out.on HX.out).five
        go_wp2_with fail
        clear c0 c1 c2 c3 c4
        have HX0 := HX
        refine (HEV.out _ (HL.out.on HX0.out)).mono ?_
        rintro x v1 ⟨z1, rfl, hz1, hb⟩
        have HX1 := Lib.hid (HX0.out.trans (hb.mono HX0.out.size))
        clear hb HX0
        have hzf : z1 = false := by
          cases z1
          · rfl
          · obtain ⟨u, hu, _⟩ := hz1.1 rfl
            exact absurd (HK.out.symm.trans hu.1) (by simp)
        subst hzf
        clear hz1
        go_wp2_with fail
        go_ret
        exact ⟨rfl, HB0.out.trans (HX1.out.mono HB0.out.size)⟩
end Go.Proofs.YtkimbmifabpppaaDoor
