/- TimesRead, walked. -/
import Derived.Test.YtnhbkfmaaannnaaDoorEArgs
namespace Go.Proofs.YtnhbkfmaaannnaaDoor
open Go.RowKit

def nthI (l : List Int) (k : Nat) : Int := l.getD k 0
/-- A row of int64s, where it lies. -/
def ArrT (w : World) (B : Nat) (A : Option Addr) (n : Nat) (zs : List Int) : Prop :=
  ∀ k, k < n → ∃ b o, A = some ⟨b, o, none⟩ ∧ b < B ∧ w.cell? ⟨b, o + k, none⟩ = some (.int .i64 (nthI zs k)) ∧ I64 (nthI zs k)
theorem ArrT.on {w w' : World} {B n : Nat} {A : Option Addr} {zs : List Int} (h : ArrT w B A n zs) (hb : Below B w w') : ArrT w' B A n zs := fun k hk => by
  obtain ⟨b, o, e, hl, hc, hi⟩ := h k hk
  exact ⟨b, o, e, hl, (hb.cell (p := ⟨b, o + k, none⟩) hl).trans hc, hi⟩
theorem floor_facts {t u : Int} (h : FloorZ t u) : TimeZ (t / u * u) ∧ t / u * u ≤ t ∧ t - t / u * u < u ∧ (t / u * u) % u = 0 ∧ t / u * u / u * u = t / u * u ∧ FloorZ (t / u * u) u := by
  obtain ⟨⟨a, b⟩, c⟩ := h
  have e := Int.mul_ediv_add_emod t u
  rw [Int.mul_comm] at e
  have m0 : 0 ≤ t % u := Int.emod_nonneg _ (by omega)
  have m1 : t % u < u := Int.emod_lt_of_pos _ (by omega)
  have p : 0 ≤ t / u * u := Int.mul_nonneg (Int.ediv_nonneg a (by omega)) (by omega)
  have q : t / u * u / u = t / u := Int.mul_ediv_cancel _ (by omega)
  have r : (t / u * u) % u = 0 := Int.mul_emod_left _ _
  exact ⟨⟨p, by omega⟩, by omega, by omega, r, by rw [q], ⟨p, by omega⟩, c⟩
theorem read_facts (z t : Int) : (readZ z t = z ∧ (TimeZ t → t ≤ z)) ∨ (readZ z t = t ∧ z < t ∧ TimeZ t) := by
  unfold readZ
  by_cases h : TimeZ t
  · rw [if_pos h]
    by_cases h2 : z < t
    · rw [if_pos h2]; exact .inr ⟨rfl, h2, h⟩
    · rw [if_neg h2]; exact .inl ⟨rfl, fun _ => by omega⟩
  · rw [if_neg h]; exact .inl ⟨rfl, fun k => absurd k h⟩
set_option maxRecDepth 100000 in
set_option maxHeartbeats 1000000 in
theorem read_walk (z0 u : Int) (A : Option Addr) (n c : Nat) (zs : List Int) (w : World) (hL : Laid w) (hn : n ≤ maxLen) (hz : ArrT w w.heap.size A n zs) :
    Calls Tryd.prog 8 #[.int .i64 z0, .slice A n c, .int .i64 u] w fun e w' => e = .returned (.bool true) ∧ Below w.heap.size w w' := by
  unfold maxLen at hn
  have HL := Lib.hid hL; have HZ := Lib.hid hz
  clear hL hz
  go_enter Tryd.func8, Tryd.ntmps8
  go_wp2_with fail
  refine (wakes_any w HL.out).mono ?_
  rintro e w2 ⟨rfl, hb⟩
  have HB := Lib.hid hb; have HZ2 := Lib.hid (HZ.out.on hb)
  clear hb HL HZ
  go_wp2_with fail
  go_loop [7, 19] (fun v i => ∃ (k : Nat) (z : Int), k ≤ n ∧ i = .int .i64 k ∧ v = .int .i64 z ∧ (TimeZ z0 → TimeZ z)) (fun _ i => n - (intOf i).toNat)
  case atStart => exact ⟨0, z0, Nat.zero_le _, rfl, rfl, id⟩
  case round =>
    obtain ⟨k, z, hk, rfl, rfl, htz⟩ := hrel
    have HTZ := Lib.hid htz
    clear htz
    by_cases hgo : k < n ∧ k ≠ 60
    · obtain ⟨hlt, h60⟩ := hgo
      obtain ⟨b, o, rfl, _, hc, _⟩ := HZ2.out k hlt
      have h60' : ((k : Int) == 60) = false := by simp; omega
      generalize nthI zs k = t at *
      have hr := read_facts z t
      have hre := read_any z t w2
      have HRE := Lib.hid hre
      clear hre
      rcases hr with ⟨e, hle⟩ | ⟨e, hlt2, htt⟩
      · rw [e] at HRE
        clear e
        by_cases h1 : TimeZ z0
        · have q1 := timeB_yes h1
          have q2 := timeB_yes (HTZ.out h1)
          by_cases h2 : TimeZ t
          · have q3 := timeB_yes h2
            have q4 : decide (z < t) = false := by have := hle h2; simp; omega
            clear hle h1 h2 h60
            go_wp2_with (first
              | (go_at_call 22; refine HRE.out.mono ?_; rintro e w' ⟨rfl, rfl⟩)
              | (go_at_call 13; refine (may_any _ _).mono ?_; rintro e w' ⟨rfl, rfl⟩))
            go_round
            case rel => exact ⟨k + 1, z, by omega, by go_num, rfl, HTZ.out⟩
            case measure => simp [intOf]; omega
          · have q3 := timeB_no h2
            clear hle h1 h2 h60
            go_wp2_with (first
              | (go_at_call 22; refine HRE.out.mono ?_; rintro e w' ⟨rfl, rfl⟩)
              | (go_at_call 13; refine (may_any _ _).mono ?_; rintro e w' ⟨rfl, rfl⟩))
            go_round
            case rel => exact ⟨k + 1, z, by omega, by go_num, rfl, HTZ.out⟩
            case measure => simp [intOf]; omega
        · have q1 := timeB_no h1
          by_cases h2 : TimeZ t
          · have q3 := timeB_yes h2
            have q4 : decide (z < t) = false := by have := hle h2; simp; omega
            clear hle h1 h2 h60
            go_wp2_with (first
              | (go_at_call 22; refine HRE.out.mono ?_; rintro e w' ⟨rfl, rfl⟩)
              | (go_at_call 13; refine (may_any _ _).mono ?_; rintro e w' ⟨rfl, rfl⟩))
            go_round
            case rel => exact ⟨k + 1, z, by omega, by go_num, rfl, HTZ.out⟩
            case measure => simp [intOf]; omega
          · have q3 := timeB_no h2
            clear hle h1 h2 h60
            go_wp2_with (first
              | (go_at_call 22; refine HRE.out.mono ?_; rintro e w' ⟨rfl, rfl⟩)
              | (go_at_call 13; refine (may_any _ _).mono ?_; rintro e w' ⟨rfl, rfl⟩))
            go_round
            case rel => exact ⟨k + 1, z, by omega, by go_num, rfl, HTZ.out⟩
            case measure => simp [intOf]; omega
      · rw [e] at HRE
        clear e
        have q3 := timeB_yes htt
        have q5 : decide (t < z) = false := by simp; omega
        have q6 : (t != z) = true := by simp; omega
        have HTT := Lib.hid htt
        clear htt
        by_cases h1 : TimeZ z0
        · have q1 := timeB_yes h1
          clear h1 h60
          go_wp2_with (first
            | (go_at_call 22; refine HRE.out.mono ?_; rintro e w' ⟨rfl, rfl⟩)
            | (go_at_call 13; refine (may_any _ _).mono ?_; rintro e w' ⟨rfl, rfl⟩))
          go_round
          case rel => exact ⟨k + 1, t, by omega, by go_num, rfl, fun _ => HTT.out⟩
          case measure => simp [intOf]; omega
        · have q1 := timeB_no h1
          clear h1 h60
          go_wp2_with (first
            | (go_at_call 22; refine HRE.out.mono ?_; rintro e w' ⟨rfl, rfl⟩)
            | (go_at_call 13; refine (may_any _ _).mono ?_; rintro e w' ⟨rfl, rfl⟩))
          go_round
          case rel => exact ⟨k + 1, t, by omega, by go_num, rfl, fun _ => HTT.out⟩
          case measure => simp [intOf]; omega
    · have hend : ¬ k < n ∨ k < n ∧ k = 60 := by omega
      by_cases hf : FloorZ z u
      · obtain ⟨g1, g2, g3, g4, g5, g6⟩ := floor_facts hf
        have F1 := floor_ok z u w2 hf
        have F2 := floor_ok (z / u * u) u w2 g6
        rw [g5] at F2
        have HF1 := Lib.hid F1; have HF2 := Lib.hid F2
        have hu := hf.2
        have hu0 : (u == 0) = false := by simp; omega
        obtain ⟨z1, z2⟩ := hf.1
        obtain ⟨p1, p2⟩ := g1
        have hg4 : ((z / u * u) % u == 0) = true := by simp
        have hg3 : decide (z - z / u * u < u) = true := by simp; exact g3
        have hg2 : decide (z / u * u ≤ z) = true := by simp; exact g2
        clear hgo F1 F2 g4 g5 g6 hf HTZ
        generalize z / u * u = f at *
        rcases hend with hend | ⟨hlt, rfl⟩
        · obtain rfl : k = n := by omega
          go_wp2_with fail
          refine HF1.out.mono ?_
          rintro e w' ⟨rfl, rfl⟩
          go_wp2_with fail
          refine HF2.out.mono ?_
          rintro e w' ⟨rfl, rfl⟩
          go_wp2_with fail
          go_ret
          exact ⟨rfl, HB.out⟩
        · obtain ⟨b, o, rfl, _, hc, _⟩ := HZ2.out 60 hlt
          go_wp2_with fail
          refine HF1.out.mono ?_
          rintro e w' ⟨rfl, rfl⟩
          go_wp2_with fail
          refine HF2.out.mono ?_
          rintro e w' ⟨rfl, rfl⟩
          go_wp2_with fail
          go_ret
          exact ⟨rfl, HB.out⟩
      · have F1 := floor_no z u w2 hf
        have HF1 := Lib.hid F1
        clear hgo F1 hf HTZ
        rcases hend with hend | ⟨hlt, rfl⟩
        · obtain rfl : k = n := by omega
          go_wp2_with (go_at_call 24; refine HF1.out.mono ?_; rintro e w' ⟨rfl, rfl⟩)
          go_ret
          exact ⟨rfl, HB.out⟩
        · obtain ⟨b, o, rfl, _, hc, _⟩ := HZ2.out 60 hlt
          go_wp2_with (go_at_call 24; refine HF1.out.mono ?_; rintro e w' ⟨rfl, rfl⟩)
          go_ret
          exact ⟨rfl, HB.out⟩
end Go.Proofs.YtnhbkfmaaannnaaDoor
