/- read: the numbers that stand in a text. -/
import Derived.Test.YtnhbkfmaaannnaaDoorEShape
import Derived.Test.YtnhbkfmaaannnaaDoorEWakes
namespace Go.Proofs.YtnhbkfmaaannnaaDoor
open Go.RowKit

def sixA (l : List Nat) : Array Value := #[.int .i64 (l.getD 0 0 : Nat), .int .i64 (l.getD 1 0 : Nat), .int .i64 (l.getD 2 0 : Nat), .int .i64 (l.getD 3 0 : Nat), .int .i64 (l.getD 4 0 : Nat), .int .i64 (l.getD 5 0 : Nat)]
theorem sixA_at (l : List Nat) (p : Nat) (h : p < 6) : (sixA l)[p]? = some (.int .i64 (l.getD p 0 : Nat)) := by
  have hc : p = 0 ∨ p = 1 ∨ p = 2 ∨ p = 3 ∨ p = 4 ∨ p = 5 := by omega
  rcases hc with rfl | rfl | rfl | rfl | rfl | rfl <;> rfl
theorem sixA_set (l : List Nat) (p x : Nat) (h : p < 6) (hl : l.length = 6) : (sixA l).setIfInBounds p (.int .i64 (x : Nat)) = sixA (l.set p x) := by
  match l, hl with
  | [a, b, c, d, e, f], _ =>
    have hc : p = 0 ∨ p = 1 ∨ p = 2 ∨ p = 3 ∨ p = 4 ∨ p = 5 := by omega
    rcases hc with rfl | rfl | rfl | rfl | rfl | rfl <;> rfl
/-- What read comes to. -/
def ReadIs (l : List UInt8) (w : World) (e : Ending) (w' : World) : Prop :=
  ((l.length = 19 ∧ Fits l 19 ∧ e = .returned (.tuple #[.agg (sixA (curs l 19)), .bool true])) ∨ (¬ (l.length = 19 ∧ Fits l 19) ∧ ∃ v, e = .returned (.tuple #[.agg (sixA v), .bool false]))) ∧ Below w.heap.size w w'
def shapeS : ByteArray := ⟨#[48, 48, 48, 48, 45, 48, 48, 45, 48, 48, 32, 48, 48, 58, 48, 48, 58, 48, 48]⟩
theorem index_shape (k : Nat) (hk : k < 19) (w : World) : (Instr.index 9 (.string ⟨#[48, 48, 48, 48, 45, 48, 48, 45, 48, 48, 32, 48, 48, 58, 48, 48, 58, 48, 48]⟩) (.int .i64 (k : Int))).run Tryd.prog w = .ok (.int .u8 (shC k).toNat) w := by
  have hc : k = 0 ∨ k = 1 ∨ k = 2 ∨ k = 3 ∨ k = 4 ∨ k = 5 ∨ k = 6 ∨ k = 7 ∨ k = 8 ∨ k = 9 ∨ k = 10 ∨ k = 11 ∨ k = 12 ∨ k = 13 ∨ k = 14 ∨ k = 15 ∨ k = 16 ∨ k = 17 ∨ k = 18 := by omega
  rcases hc with rfl | rfl | rfl | rfl | rfl | rfl | rfl | rfl | rfl | rfl | rfl | rfl | rfl | rfl | rfl | rfl | rfl | rfl | rfl <;>
    (simp [Instr.index, asIntOf, Sem.run_bind, run_underlying Tryd.underlying9, Result.andThen, shC, shapeL]; rfl)
set_option maxRecDepth 100000 in
set_option maxHeartbeats 1000000 in
theorem read_ok (s : ByteArray) (w : World) (_hs : s.size ≤ maxLen) : Calls Tryd.prog 42 #[.string s] w (ReadIs s.data.toList w) := by
  unfold maxLen at _hs
  by_cases h19 : s.size = 19
  · have H19 := Lib.hid h19
    go_enter Tryd.func42, Tryd.ntmps42
    have hne : ((s.size : Int) != 19) = false := by simp; omega
    go_wp2_with fail
    go_step3
    go_wp2_with fail
    go_step3
    go_wp2_with fail
    have b0 : Box ((w.alloc (.cells #[.int .i64 0, .int .i64 0, .int .i64 0, .int .i64 0, .int .i64 0, .int .i64 0] 72)).alloc (.cells #[.int .i64 0, .int .i64 0, .int .i64 0, .int .i64 0, .int .i64 0, .int .i64 0] 72)) w.heap.size 72 (sixA [0, 0, 0, 0, 0, 0]) := (Box.new _ _ _).alloc _
    have b1 : Box ((w.alloc (.cells #[.int .i64 0, .int .i64 0, .int .i64 0, .int .i64 0, .int .i64 0, .int .i64 0] 72)).alloc (.cells #[.int .i64 0, .int .i64 0, .int .i64 0, .int .i64 0, .int .i64 0, .int .i64 0] 72)) (w.heap.size + 1) 72 (sixA (curs s.data.toList 0)) := by
      have := Box.new (w.alloc (.cells #[.int .i64 0, .int .i64 0, .int .i64 0, .int .i64 0, .int .i64 0, .int .i64 0] 72)) 72 #[.int .i64 0, .int .i64 0, .int .i64 0, .int .i64 0, .int .i64 0, .int .i64 0]
      rwa [show (w.alloc (.cells #[.int .i64 0, .int .i64 0, .int .i64 0, .int .i64 0, .int .i64 0, .int .i64 0] 72)).heap.size = w.heap.size + 1 by simp] at this
    have bB : Below w.heap.size w ((w.alloc (.cells #[.int .i64 0, .int .i64 0, .int .i64 0, .int .i64 0, .int .i64 0, .int .i64 0] 72)).alloc (.cells #[.int .i64 0, .int .i64 0, .int .i64 0, .int .i64 0, .int .i64 0, .int .i64 0] 72)) := ((Below.refl _ w).alloc (Nat.le_refl _) _).alloc (by simp) _
    have hl : s.data.toList.length = 19 := by rw [← h19]; simp
    have HLn := Lib.hid hl
    clear hl
    have B0 := Lib.hid b0; have B1 := Lib.hid b1; have BB := Lib.hid bB
    clear b0 b1 bB hne
    go_loopw [5, 6] (fun i p wr => ∃ k : Nat, k ≤ 19 ∧ i = .int .i64 k ∧ p = .int .i64 (partN k : Nat) ∧ Fits s.data.toList k ∧ Below w.heap.size w wr ∧ Box wr w.heap.size 72 (sixA [0, 0, 0, 0, 0, 0]) ∧ Box wr (w.heap.size + 1) 72 (sixA (curs s.data.toList k))) (fun i _ _ => 19 - (intOf i).toNat)
    case atStart => exact ⟨0, by omega, rfl, rfl, Fits.zero _, BB.out, B0.out, B1.out⟩
    case round =>
      clear B0 B1 BB
      obtain ⟨k, hk, rfl, rfl, hfit, hB, hx0, hx1⟩ := hrel
      have HF := Lib.hid hfit; have HB := Lib.hid hB; have HX0 := Lib.hid hx0; have HX1 := Lib.hid hx1
      clear hfit hB hx0 hx1
      by_cases hlt : k < 19
      · have hsz : k < s.size := by omega
        have hix := index_shape k hlt
        have hbk : byteAt s.data.toList k = s[k] := by
          unfold byteAt
          rw [List.getD_eq_getElem?_getD, List.getElem?_eq_getElem (by simpa using hsz)]; rfl
        have hdg : isDg s[k] = true ↔ 48 ≤ s[k].toNat ∧ s[k].toNat ≤ 57 := by unfold isDg; simp
        by_cases hsh : shC k = 48
        · have h1 : ((shC k).toNat : Int) = 48 := by rw [hsh]; rfl
          rw [h1] at hix
          have hok : okAt k (byteAt s.data.toList k) ↔ 48 ≤ s[k].toNat ∧ s[k].toNat ≤ 57 := by unfold okAt; rw [if_pos hsh, hbk]; exact hdg
          by_cases hd : 48 ≤ s[k].toNat ∧ s[k].toNat ≤ 57
          · obtain ⟨hd0, hd1⟩ := hd
            have hsm := cur_small HLn.out (Nat.le_of_lt hlt) HF.out (partN k) (part_lt k hk)
            obtain ⟨hst, hpn⟩ := step_digit s.data.toList HLn.out k hlt hsh
            rw [hbk] at hst
            have hpl := part_lt k hk
            have c0 := (HX1.out.cell (partN k)).trans (sixA_at _ _ hpl)
            have f0 := HX1.out.frozen (partN k)
            have hfit := HF.out.next (hok.2 ⟨hd0, hd1⟩)
            have hpi : ((partN k : Nat) : Int) < 6 := by omega
            have g0 : (48 : Int) ≤ (s[k].toNat : Int) := by omega
            have g1 : (s[k].toNat : Int) ≤ 57 := by omega
            have HPN := Lib.hid hpn; have HST := Lib.hid hst; have HFT := Lib.hid hfit; have HP6 := Lib.hid hpl
            clear hst hpn hfit hok hsh h1 hdg hbk hd0 hd1 hpl
            have HV : Hid ((curs s.data.toList k).getD (partN k) 0 = (curs s.data.toList k).getD (partN k) 0) := Lib.hid rfl
            generalize hvg : (curs s.data.toList k).getD (partN k) 0 = v at *
            have HVG := Lib.hid hvg
            clear hvg HV
            generalize hpg : partN k = p at *
            have HPG := Lib.hid hpg
            clear hpg
            have hv1 : (v : Int) < 10000 := by omega
            go_wp2_with fail
            go_roundw
            case rel =>
              refine ⟨k + 1, by omega, by go_num, by rw [HPN.out], HFT.out, HB.out.setCell (Nat.le_succ _) _, HX0.out.far (by omega) _, ?_⟩
              rw [HST.out, ← sixA_set _ _ _ HP6.out rfl, show (Value.int .i64 ((10 * v + (s[k].toNat - 48) : Nat) : Int)) = .int .i64 ((v : Int) * 10 + ((s[k].toNat : Int) - 48)) by congr 1; omega]
              exact HX1.out.set _ _
            case measure => simp [intOf]; omega
          · have HNO := Lib.hid (fun q => hd (hok.1 q))
            have hcc : s[k].toNat < 48 ∨ 57 < s[k].toNat := by omega
            clear h1 hsh hok hd hdg hbk
            rcases hcc with hcc | hcc
            · have e1 : decide (48 ≤ (s[k].toNat : Int)) = false := by simp; omega
              have e2 : ((s[k].toNat : Int) == 48) = false := by simp; omega
              obtain ⟨x0, x1, x2, x3, x4, x5, _⟩ := HX1.out.six
              obtain ⟨z0, z1, z2, z3, z4, z5, u0, u1, u2, u3, u4, u5⟩ := HX0.out.six
              have hk19 : ((k : Int) == 19) = false := by simp; omega
              go_wp2_with fail
              rw [Exit.noGoto_ret]
              refine bodyPost_ret (v := .tuple #[.agg (sixA (curs s.data.toList k)), .bool false]) (by simp [results, Tryd.results42, go_sem, z0, z1, z2, z3, z4, z5, sixA]) rfl ⟨.inr ⟨fun q => absurd (q.2 k hlt) HNO.out, _, rfl⟩, ?_⟩
              exact below_six HB.out (Nat.le_refl _) ..
            · have e0 : decide (48 ≤ (s[k].toNat : Int)) = true := by simp; omega
              have e1 : decide ((s[k].toNat : Int) ≤ 57) = false := by simp; omega
              have e2 : ((s[k].toNat : Int) == 48) = false := by simp; omega
              obtain ⟨x0, x1, x2, x3, x4, x5, _⟩ := HX1.out.six
              obtain ⟨z0, z1, z2, z3, z4, z5, u0, u1, u2, u3, u4, u5⟩ := HX0.out.six
              have hk19 : ((k : Int) == 19) = false := by simp; omega
              go_wp2_with fail
              rw [Exit.noGoto_ret]
              refine bodyPost_ret (v := .tuple #[.agg (sixA (curs s.data.toList k)), .bool false]) (by simp [results, Tryd.results42, go_sem, z0, z1, z2, z3, z4, z5, sixA]) rfl ⟨.inr ⟨fun q => absurd (q.2 k hlt) HNO.out, _, rfl⟩, ?_⟩
              exact below_six HB.out (Nat.le_refl _) ..
        · obtain ⟨hst, hpn⟩ := step_sep s.data.toList HLn.out k hlt hsh
          have hzn : ((shC k).toNat : Int) ≠ 48 := fun q => hsh (UInt8.toNat_inj.1 (by show (shC k).toNat = 48; omega))
          have e0 : (((shC k).toNat : Int) == 48) = false := by simpa using hzn
          have hpl := part_lt k hk
          have hp6 : ((partN k : Nat) : Int) < 6 := by omega
          by_cases hq : s[k] = shC k
          · have hfit := HF.out.next (show okAt k (byteAt s.data.toList k) by unfold okAt; rw [if_neg hsh, hbk]; exact hq)
            have e1 : ((s[k].toNat : Int) == ((shC k).toNat : Int)) = true := by simp [hq]
            have HPN := Lib.hid hpn; have HST := Lib.hid hst; have HFT := Lib.hid hfit
            clear hst hpn hfit hsh hdg hbk hzn hpl hq
            generalize ((shC k).toNat : Int) = z at *
            go_wp2_with fail
            go_roundw
            case rel => exact ⟨k + 1, by omega, by go_num, by rw [HPN.out]; go_num, HFT.out, HB.out, HX0.out, by rw [HST.out]; exact HX1.out⟩
            case measure => simp [intOf]; omega
          · have HNO : Hid (¬ okAt k (byteAt s.data.toList k)) := Lib.hid (by unfold okAt; rw [if_neg hsh, hbk]; exact hq)
            have e1 : ((s[k].toNat : Int) == ((shC k).toNat : Int)) = false := by
              simp; intro q; exact hq (UInt8.toNat_inj.1 (by omega))
            clear hst hpn hsh hdg hbk hzn hpl hq
            generalize ((shC k).toNat : Int) = z at *
            obtain ⟨x0, x1, x2, x3, x4, x5, _⟩ := HX1.out.six
            obtain ⟨z0, z1, z2, z3, z4, z5, u0, u1, u2, u3, u4, u5⟩ := HX0.out.six
            have hk19 : ((k : Int) == 19) = false := by simp; omega
            go_wp2_with fail
            rw [Exit.noGoto_ret]
            refine bodyPost_ret (v := .tuple #[.agg (sixA (curs s.data.toList k)), .bool false]) (by simp [results, Tryd.results42, go_sem, z0, z1, z2, z3, z4, z5, sixA]) rfl ⟨.inr ⟨fun q => absurd (q.2 k hlt) HNO.out, _, rfl⟩, ?_⟩
            exact below_six HB.out (Nat.le_refl _) ..
      · obtain rfl : k = 19 := by omega
        obtain ⟨x0, x1, x2, x3, x4, x5, _⟩ := HX1.out.six
        obtain ⟨z0, z1, z2, z3, z4, z5, u0, u1, u2, u3, u4, u5⟩ := HX0.out.six
        go_wp2_with fail
        rw [Exit.noGoto_ret]
        refine bodyPost_ret (v := .tuple #[.agg (sixA (curs s.data.toList 19)), .bool true]) (by simp [results, Tryd.results42, go_sem, z0, z1, z2, z3, z4, z5, sixA]) rfl ⟨.inl ⟨HLn.out, HF.out, rfl⟩, ?_⟩
        exact below_six HB.out (Nat.le_refl _) ..
  · have hne : ((s.size : Int) != 19) = true := by simp; omega
    have HNE := Lib.hid h19
    clear h19
    have bB : Below w.heap.size w ((w.alloc (.cells #[.int .i64 0, .int .i64 0, .int .i64 0, .int .i64 0, .int .i64 0, .int .i64 0] 72)).alloc (.cells #[.int .i64 0, .int .i64 0, .int .i64 0, .int .i64 0, .int .i64 0, .int .i64 0] 72)) := ((Below.refl _ w).alloc (Nat.le_refl _) _).alloc (by simp) _
    have BB := Lib.hid bB
    clear bB
    go_enter Tryd.func42, Tryd.ntmps42
    go_wp2_with fail
    go_step3
    go_wp2_with fail
    rw [Exit.noGoto_ret]
    refine bodyPost_ret (v := .tuple #[.agg (sixA [0, 0, 0, 0, 0, 0]), .bool false]) (by simp [results, Tryd.results42, go_sem, sixA]) rfl ⟨.inr ⟨fun q => absurd (by simpa using q.1) HNE.out, _, rfl⟩, ?_⟩
    exact BB.out
end Go.Proofs.YtnhbkfmaaannnaaDoor
