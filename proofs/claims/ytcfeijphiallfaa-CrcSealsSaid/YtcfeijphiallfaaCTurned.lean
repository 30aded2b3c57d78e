/- turned: bits within 32 of one another are turned in bytes of one's own. -/
import Derived.Test.YtcfeijphiallfaaCOwn
namespace Go.Proofs.Ytcfeijphiallfaa
open Go.RowKit

theorem OwnB.grown {w w' : World} {base : Nat} {v : Value} {bs : List Nat} {row : Option Nat} (h : OwnB w base v bs) (hg : w.grownBy w' row) (hr : ∀ k, row = some k → k < base) : OwnB w' base v bs := by
  obtain ⟨h, h256⟩ := h
  refine ⟨⟨h.1, ?_⟩, h256⟩
  rcases h.2 with h2 | ⟨g, cap, cur, hv, hgb, hh, r⟩
  · exact .inl h2
  · refine .inr ⟨g, cap, cur, hv, hgb, ?_, r⟩
    rw [hg.block g (Array.getElem?_eq_some_iff.1 hh).1 (fun e => by have := hr g e.symm; omega)]
    exact hh
theorem grown_set {w w1 : World} {g : Nat} (h : w.grownBy w1 (some g)) (i : Nat) (u : Value) : w.grownBy (w1.setCell ⟨g, i, none⟩ u) (some g) :=
  ⟨h.os, h.tape, h.output, by have := h.size; simpa using this, fun k hk hne => (Below.heap_setCell w1 ⟨g, i, none⟩ u k (fun e => hne (by rw [e]))).trans (h.block k hk hne)⟩
/-- What turned makes of bytes of one's own. -/
structure TurnedIs (w : World) (base n c : Nat) (A : Option Addr) (bs : List Nat) (any : Bool) (w' : World) : Prop where
  ex : ∃ l from' m B g, from' + m = 8 * n ∧ B < 2 ^ 32 ∧ (any = true ↔ B ≠ 0) ∧ l.length = n ∧ le l = le bs ^^^ 2 ^ from' * B ∧ OwnB w' base (.slice A n c) l ∧ w.grownBy w' (some g) ∧ (∀ base2 v bs2, (∀ g, A = some ⟨g, 0, none⟩ → g < base2) → OwnB w base2 v bs2 → OwnB w' base2 v bs2) ∧ Below base w w'
theorem OwnB.lt {w : World} {base n c : Nat} {A : Option Addr} {bs : List Nat} (h : OwnB w base (.slice A n c) bs) : ∀ g, A = some ⟨g, 0, none⟩ → g < w.heap.size := fun g e => by
  subst e
  rcases h.1.2 with ⟨h2, _⟩ | ⟨g', cap, cur, hv, hgb, hh, r⟩
  · cases h2
  · cases hv; exact (Array.getElem?_eq_some_iff.1 hh).1
theorem mod_from (at' : Int) (n : Nat) (h : 0 < n) (hn : n ≤ 100000) : ∃ i : Nat, i < 8 * n ∧ (IntKind.u64.wrap at').tmod (8 * (n : Int)) = (i : Int) := by
  rw [IntKind.wrap_u64, Int.tmod_eq_emod_of_nonneg (Int.emod_nonneg _ (by omega))]
  have h1 := Int.emod_nonneg (at' % 18446744073709551616) (show (8 * (n : Int)) ≠ 0 by omega)
  have h2 := Int.emod_lt_of_pos (at' % 18446744073709551616) (show (0 : Int) < (8 * (n : Int)) by omega)
  exact ⟨(at' % 18446744073709551616 % (8 * (n : Int))).toNat, by omega, by omega⟩
set_option maxRecDepth 100000 in
set_option maxHeartbeats 1000000 in
theorem turned_any (A : Option Addr) (n c base : Nat) (bs : List Nat) (at' : Int) (bits' : Nat) (w : World) (ho : OwnB w base (.slice A n c) bs) (hl : bs.length = n) (hn : n ≤ 90000) (hbits : bits' < 4294967296) (hbase : base ≤ w.heap.size) :
    Calls Try.prog 21 #[.slice A n c, .int .i64 at', .int .u32 (bits' : Int)] w fun e w' => ∃ any, e = .returned (.bool any) ∧ TurnedIs w base n c A bs any w' := by
  by_cases h0 : n = 0
  · subst h0
    have HO := Lib.hid ho
    clear ho
    go_enter Try.func21, Try.ntmps21
    go_wp2_with fail
    go_ret
    exact ⟨false, rfl, ⟨bs, 0, 0, 0, w.heap.size, by omega, by omega, by simp, hl, by simp, HO.out, World.grownBy.refl _ _, fun _ _ _ _ h => h, Below.refl _ _⟩⟩
  · obtain ⟨from', hf, hfe⟩ := mod_from at' n (by omega) (by omega)
    obtain ⟨g, rfl, hg, hgl⟩ : ∃ g, A = some ⟨g, 0, none⟩ ∧ base ≤ g ∧ g < w.heap.size := by
      obtain ⟨g, h1, h2, h3, _⟩ := ho.spot (i := 0) (by omega)
      exact ⟨g, h1, h2, h3⟩
    have HO := Lib.hid ho; have HL := Lib.hid hl
    clear ho hl
    have hne : ((n : Int) == 0) = false := by simp; omega
    have hn1 : (1 : Int) ≤ (n : Int) := by omega
    have hn2 : (n : Int) ≤ 90000 := by omega
    have hf2 : (from' : Int) < 8 * (n : Int) := by omega
    obtain ⟨m, hm⟩ : ∃ m, from' + m = 8 * n := ⟨8 * n - from', by omega⟩
    have hf3 : (from' : Int) ≤ 720000 := by omega
    have hu : IntKind.u64.wrap (8 * (n : Int)) = 8 * (n : Int) := by rw [IntKind.wrap_u64]; omega
    go_enter Try.func21, Try.ntmps21
    go_wp2_with fail
    go_loopw [7, 22] (fun a i wr => ∃ (k : Nat) (l : List Nat), k ≤ 32 ∧ i = .int .i64 k ∧ a = .bool (decide (burst bits' m k ≠ 0)) ∧ OwnB wr base (.slice (some ⟨g, 0, none⟩) n c) l ∧ le l = le bs ^^^ 2 ^ from' * burst bits' m k ∧ l.length = n ∧ w.grownBy wr (some g)) (fun _ i _ => 32 - (intOf i).toNat)
    case atStart => exact ⟨0, bs, by omega, rfl, by simp [burst_zero], HO.out, by simp [burst_zero], HL.out, World.grownBy.refl _ _⟩
    case round =>
      obtain ⟨k, l, hk, rfl, rfl, ho, hle, hll, hgr⟩ := hrel
      have HO1 := Lib.hid ho; have HLE := Lib.hid hle; have HLL := Lib.hid hll; have HGR := Lib.hid hgr
      clear ho hle hll hgr HO
      by_cases hk32 : k < 32
      · have k0 : (0 : Int) ≤ (k : Int) := by omega
        have k1 : (k : Int) < 32 := by omega
        by_cases hin : k < m
        · have k2 : (from' : Int) + (k : Int) < 8 * (n : Int) := by omega
          have hand : bits .and .u32 ((bits' : Int) / 2 ^ k) 1 = ((bits' / 2 ^ k % 2 : Nat) : Int) := by
            rw [show ((bits' : Int) / 2 ^ k) = ((bits' / 2 ^ k : Nat) : Int) by rw [Int.natCast_ediv, Int.natCast_pow]; rfl, show (1 : Int) = ((1 : Nat) : Int) from rfl, u32_and_nat _ _ (Nat.lt_of_le_of_lt (Nat.div_le_self _ _) hbits) (by omega), Nat.and_one_is_mod]
          obtain ⟨N, hN⟩ : ∃ N, N = from' + k := ⟨_, rfl⟩
          have hN1 : (from' : Int) + (k : Int) = (N : Int) := by omega
          have hN2 : (N : Int) < 8 * (n : Int) := by omega
          have hN3 : IntKind.i64.wrap ((from' : Int) + (k : Int)) = (N : Int) := by rw [IntKind.wrap_i64]; omega
          have hN4 : (0 : Int) ≤ (N : Int) := by omega
          have HN := Lib.hid hN
          clear k2
          rcases Nat.mod_two_eq_zero_or_one (bits' / 2 ^ k) with h2 | h2
          · have hb := burst_off (m := m) h2
            rw [h2] at hand
            have HB := Lib.hid hb
            clear hb h2 hN
            go_wp2_with fail
            go_roundw
            case rel => exact ⟨k + 1, l, by omega, by go_num, by rw [HB.out], HO1.out, by rw [HB.out]; exact HLE.out, HLL.out, HGR.out⟩
            case measure => simp [intOf]; omega
          · have hb := burst_on_ne hin h2
            have hst := burst_step (l := l) (l0 := bs) (from' := from') (n := N) HO1.out.2 hN.symm (by rw [HLL.out]; omega) (by rw [HLL.out]; exact hm) h2 HLE.out (by rw [HLL.out]; omega)
            rw [h2] at hand
            have HB := Lib.hid hb
            clear hb h2
            rw [← nthB_get l (N / 8) (by rw [HLL.out]; omega)] at hst
            obtain ⟨g', e', _, _, hne', hcell, hfro, hset⟩ := HO1.out.spot (i := N / 8) (by rw [HLL.out]; omega)
            cases e'
            have hxb := byte_at HO1.out.2 (show N / 8 < l.length by rw [HLL.out]; omega)
            have hp : 2 ^ (N % 8) < 256 := Nat.lt_of_lt_of_le (Nat.pow_lt_pow_right (by omega) (show N % 8 < 8 by omega)) (by decide)
            have hyb : nthB l (N / 8) ^^^ 2 ^ (N % 8) < 256 := Nat.xor_lt_two_pow (n := 8) hxb hp
            have hset' := hset _ hyb
            have hxor : bits .xor .u8 (nthB l (N / 8) : Int) ((2 ^ (N % 8) : Nat) : Int) = ((nthB l (N / 8) ^^^ 2 ^ (N % 8) : Nat) : Int) := u8_xor_nat _ _ hxb hp
            have hsl : (l.set (N / 8) (nthB l (N / 8) ^^^ 2 ^ (N % 8))).length = n := by rw [List.length_set, HLL.out]
            have HST := Lib.hid hst; have HSET := Lib.hid hset'; have HSL := Lib.hid hsl
            clear hst hset hset' hsl hne' hN
            unfold bv at hcell HSET
            have hq : (N : Int) / 8 = ((N / 8 : Nat) : Int) := by omega
            have hr : (N : Int) % 8 = ((N % 8 : Nat) : Int) := by omega
            have hq8 : N / 8 < n := by omega
            generalize l.set (N / 8) (nthB l (N / 8) ^^^ 2 ^ (N % 8)) = l' at *
            generalize nthB l (N / 8) ^^^ 2 ^ (N % 8) = y at *
            generalize nthB l (N / 8) = x at *
            have hq9 : ((N / 8 : Nat) : Int) < (n : Int) := by omega
            generalize hqe : N / 8 = q at *
            generalize hre : N % 8 = r at *
            have q0 : (0 : Int) ≤ (q : Int) := by omega
            have r0 : (0 : Int) ≤ (r : Int) := by omega
            have HQ := Lib.hid hqe; have HR := Lib.hid hre
            clear hqe hre
            have hpz : (2 : Int) ^ r % 256 = ((2 ^ r : Nat) : Int) := by
              rw [show (2 : Int) ^ r = ((2 ^ r : Nat) : Int) by rw [Int.natCast_pow]; rfl]
              generalize (2 : Nat) ^ r = P at hp ⊢
              omega
            generalize hPe : (2 : Nat) ^ r = P at *
            have HP := Lib.hid hPe
            clear hPe
            go_wp2_with fail
            go_region
            go_wp2_with fail
            refine ⟨⟨k + 1, l', by omega, by go_num, by rw [decide_eq_true HB.out], HSET.out.drewN 1, HST.out, HSL.out, ?_⟩, by simp [intOf]; omega⟩
            exact (grown_drewN (grown_set HGR.out q _) 1)
        · have k2 : ¬ ((from' : Int) + (k : Int) < 8 * (n : Int)) := by omega
          have hb := burst_out (bits := bits') (m := m) (k := k) (by omega)
          have HB := Lib.hid hb
          clear hb
          go_wp2_with fail
          go_roundw
          case rel => exact ⟨k + 1, l, by omega, by go_num, by rw [HB.out], HO1.out, by rw [HB.out]; exact HLE.out, HLL.out, HGR.out⟩
          case measure => simp [intOf]; omega
      · obtain rfl : k = 32 := by omega
        go_wp2_with fail
        go_ret
        exact ⟨_, rfl, ⟨l, from', m, burst bits' m 32, g, hm, burst_lt (by omega), by simp, HLL.out, HLE.out, HO1.out, HGR.out, fun base2 v bs2 hb h => h.grown HGR.out (fun k e => by cases e; exact hb _ rfl), (Below.refl _ _).grown HGR.out hbase (fun k e => by cases e; exact hg)⟩⟩
end Go.Proofs.Ytcfeijphiallfaa
