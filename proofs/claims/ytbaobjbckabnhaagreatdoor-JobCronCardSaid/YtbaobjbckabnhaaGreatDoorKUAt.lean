/- At of crons, said of their times: out of the walk of At. -/
import Derived.Test.YtbaobjbckabnhaaGreatDoorK6
import Derived.Test.YtbaobjbckabnhaaGreatDoorK8
namespace Go.Proofs.YtbaobjbckabnhaaGreatDoor
open Go.RowKit

theorem jfit_day {L : List (BitVec 64)} {y m n : Int} (h : D.RightZ y m n) : dayZ L y m n = (crB L && fitD L y m n) := by
  unfold dayZ
  rw [(rightB_iff y m n).2 h]; simp
theorem jtc_civ {L : List (BitVec 64)} {t y m n h mi s : Int} (hc : D.CivOf t y m n h mi s) : atZ L y m n h mi s = true ↔ TC L t := by
  have htime := hc.time
  obtain ⟨t0, t1, hd, h3, h4, h5⟩ := htime
  have hr := hc.right
  have e := hc.at_
  unfold atZ
  rw [jfit_day hr]
  simp only [Bool.and_eq_true, decide_eq_true_iff]
  constructor
  · rintro ⟨rfl, hmi, hh, hk, hf⟩
    refine ⟨hk, ⟨t0, t1⟩, by rw [hd]; exact (fitN_is hr).2 hf, ?_⟩
    rw [hd]
    exact mem_onW.2 ⟨h, mem_ints.2 hh, mi, mem_ints.2 hmi, by omega⟩
  · rintro ⟨hk, _, hf, hm⟩
    rw [hd] at hf hm
    obtain ⟨h', hh', m', hm', e'⟩ := mem_onW.1 hm
    have a1 := hour_in hk hh'
    have a2 := min_in hk hm'
    have b1 := hc.h0; have b2 := hc.h1; have b3 := hc.m0; have b4 := hc.m1; have b5 := hc.s0; have b6 := hc.s1
    have : h' = h ∧ m' = mi ∧ s = 0 := by omega
    obtain ⟨rfl, rfl, rfl⟩ := this
    exact ⟨rfl, mem_ints.1 hm', mem_ints.1 hh', hk, (fitN_is hr).1 hf⟩
theorem jat_any (L : List (BitVec 64)) (t : Int) (w : World) (hL : LaidC w) (h5 : L.length = 5) :
    Calls Tryz.prog 24 #[cronV L, .int .i64 t] w fun x w' => ∃ z : Bool, x = .returned (.bool z) ∧ (z = true ↔ TC L t) ∧ Below w.heap.size w w' := by
  by_cases h : D.TimeZ t
  · obtain ⟨y, m, n, hh, mi, s, hc⟩ : ∃ y m n h mi s, D.CivOf t y m n h mi s := by
      obtain ⟨t0, t1⟩ := h
      obtain ⟨y, m, d, hr, hn⟩ := D.num_surj (t / 86400).toNat (by omega)
      exact ⟨y, m, d, t / 3600 % 24, t / 60 % 60, t % 60, ⟨hr, by omega, by omega, by omega, by omega, by omega, by omega, by omega⟩⟩
    refine (cat_is L t y m n hh mi s w hL h5 hc).mono ?_
    rintro x w' ⟨rfl, hb⟩
    exact ⟨_, rfl, jtc_civ hc, hb⟩
  · refine (cat_no L t w hL h5 h).mono ?_
    rintro x w' ⟨rfl, hb⟩
    exact ⟨false, rfl, ⟨fun q => (by cases q), fun q => absurd q.2.1 h⟩, hb⟩
theorem jat_yes {L : List (BitVec 64)} {t : Int} (h : TC L t) (w : World) (hL : LaidC w) (h5 : L.length = 5) : Calls Tryz.prog 24 #[cronV L, .int .i64 t] w fun x w' => x = .returned (.bool true) ∧ Below w.heap.size w w' := by
  refine (jat_any L t w hL h5).mono ?_
  rintro x w' ⟨z, rfl, hz, hb⟩
  rw [hz.2 h]
  exact ⟨rfl, hb⟩
end Go.Proofs.YtbaobjbckabnhaaGreatDoor
