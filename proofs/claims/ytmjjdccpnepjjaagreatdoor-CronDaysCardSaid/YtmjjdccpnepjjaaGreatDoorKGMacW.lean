/- Macro: walked, of the program. -/
import Derived.Test.YtmjjdccpnepjjaaGreatDoorK3
import Derived.Test.YtmjjdccpnepjjaaGreatDoorKGPut
import Derived.Test.YtmjjdccpnepjjaaGreatDoorKGMac
namespace Go.Proofs.YtmjjdccpnepjjaaGreatDoor
open Go.RowKit

def macV : List Value := macS.map strV
/-- What the variables hold. -/
structure LaidC (w : World) : Prop where
  fld : Laid w
  days : D.Laid w
  mac : w.rangeAt 0 0 macV
  lt : 0 < w.heap.size
theorem LaidC.on {w w' : World} (h : LaidC w) (hb : Below w.heap.size w w') : LaidC w' :=
  ⟨h.fld.on hb, h.days.on hb, fun j v hj => (hb.cell (p := ⟨0, 0 + j, none⟩) h.lt).trans (h.mac j v hj), Nat.lt_of_lt_of_le h.lt hb.size⟩
theorem index_mac (j : Nat) (hj : j < 7) (w : World) : (Instr.index 81 (.agg macV.toArray) (.int .i64 (j : Int))).run Tryz.prog w = .ok (.agg #[strV (macN j), strV (macT j 0), strV (macT j 1), strV (macT j 2), strV (macT j 3), strV (macT j 4)]) w := by
  rcases (show j = 0 ∨ j = 1 ∨ j = 2 ∨ j = 3 ∨ j = 4 ∨ j = 5 ∨ j = 6 by omega) with rfl | rfl | rfl | rfl | rfl | rfl | rfl <;>
  simp [Instr.index, asIntOf, Sem.run_bind, run_underlying Tryz.underlying81, Tryz.sizeOf80, Tryz.isAgg80, Go.part, Result.andThen, macV, macS, macN, macT]
theorem index_str (t : Nat → List UInt8) (q : Nat) (hq : q < 5) (w : World) : (Instr.index 78 (.agg #[strV (t 0), strV (t 1), strV (t 2), strV (t 3), strV (t 4)]) (.int .i64 (q : Int))).run Tryz.prog w = .ok (strV (t q)) w := by
  rcases five hq with rfl | rfl | rfl | rfl | rfl <;>
  simp [Instr.index, asIntOf, Sem.run_bind, run_underlying Tryz.underlying78, Tryz.sizeOf9, Tryz.isAgg9, Go.part, Result.andThen]
theorem info_macs : (Tryz.prog.info? 81).map (·.size) = some macV.length := by kernel_rfl
theorem CronAt.block {w w' : World} {g h : Nat} {L : List (BitVec 64)} (hc : CronAt w g L) (hs : Sole h w.heap.size w w') (hn : g ≠ h) : CronAt w' g L := ⟨hc.1, (hs.block g hc.lt hn).trans hc.2⟩
theorem CronAt.zero (w : World) : CronAt (w.alloc (.cells #[.int .u64 0, .int .u64 0, .int .u64 0, .int .u64 0, .int .u64 0] 27)) w.heap.size nilF := CronAt.new w 0#64 0#64 0#64 0#64 0#64
theorem five_case (a b c d e : BitVec 64) :
    ((([a, b, c, d, e] : List (BitVec 64)) != nilF) = false ∧ U a = 0 ∧ U b = 0 ∧ U c = 0 ∧ U d = 0 ∧ U e = 0) ∨
    ((([a, b, c, d, e] : List (BitVec 64)) != nilF) = true ∧ (¬ U a = 0 ∨ U a = 0 ∧ (¬ U b = 0 ∨ U b = 0 ∧ (¬ U c = 0 ∨ U c = 0 ∧ (¬ U d = 0 ∨ U d = 0 ∧ ¬ U e = 0))))) := by
  have hu : ∀ x : BitVec 64, U x = 0 ↔ x = 0#64 := fun x => by rw [← U_zero]; exact U_inj
  simp only [hu, nilF, bne_eq_false_iff_eq, bne_iff_ne, ne_eq, List.cons.injEq, and_true]
  by_cases h0 : a = 0#64 <;> by_cases h1 : b = 0#64 <;> by_cases h2 : c = 0#64 <;> by_cases h3 : d = 0#64 <;> by_cases h4 : e = 0#64 <;> simp [h0, h1, h2, h3, h4]
def macroV (l : List UInt8) : Value := .tuple #[cronV ((macroM l).getD nilF), .bool (macroM l).isSome]
set_option maxRecDepth 100000 in
set_option maxHeartbeats 2000000 in
theorem macro_any (l : List UInt8) (w : World) (hL : LaidC w) :
    Calls Tryz.prog 12 #[strV l] w fun x w' => x = .returned (macroV l) ∧ Below w.heap.size w w' := by
  have HI := Lib.hid (fun (j : Nat) hj W => index_mac j hj W)
  have HL := Lib.hid hL
  have hv : macroV l = .tuple #[cronV (macC l 7), .bool (macC l 7 != nilF)] := by
    obtain ⟨h1, h2⟩ := macC_is l
    rw [h2, h1]; rfl
  rw [hv]
  clear hL hv
  unfold strV at *
  go_enter Tryz.func12, Tryz.ntmps12
  have HM := Lib.hid (fun W (h : Below w.heap.size w W) => (HL.out.on h).mac)
  have HI2 := Lib.hid info_macs
  generalize macV = mv at *
  go_wp2_with (refine wpList_load_mid rfl 81 _ rfl 0 0 rfl mv _ (HM.out _ (((Below.refl _ w).alloc (Nat.le_refl _) _).alloc (by simp) _)) Tryz.underlying81 rfl HI2.out ?_)
  have HC0 : Hid (CronAt ((w.alloc (.cells #[.int .u64 0, .int .u64 0, .int .u64 0, .int .u64 0, .int .u64 0] 27)).alloc (.cells #[.int .u64 0, .int .u64 0, .int .u64 0, .int .u64 0, .int .u64 0] 27)) w.heap.size nilF) := Lib.hid ((CronAt.zero w).alloc _)
  have HC1 : Hid (CronAt ((w.alloc (.cells #[.int .u64 0, .int .u64 0, .int .u64 0, .int .u64 0, .int .u64 0] 27)).alloc (.cells #[.int .u64 0, .int .u64 0, .int .u64 0, .int .u64 0, .int .u64 0] 27)) (w.heap.size + 1) nilF) := Lib.hid (by have := CronAt.zero (w.alloc (.cells #[.int .u64 0, .int .u64 0, .int .u64 0, .int .u64 0, .int .u64 0] 27)); rwa [World.size_alloc] at this)
  have HB1 : Hid (Below w.heap.size w ((w.alloc (.cells #[.int .u64 0, .int .u64 0, .int .u64 0, .int .u64 0, .int .u64 0] 27)).alloc (.cells #[.int .u64 0, .int .u64 0, .int .u64 0, .int .u64 0, .int .u64 0] 27))) := Lib.hid (((Below.refl _ w).alloc (Nat.le_refl _) _).alloc (by simp) _)
  generalize (w.alloc _).alloc _ = w1 at *
  clear HM HI2
  go_loopw [6, 7, 8, 10] (fun _ _ _ i wr => ∃ j : Nat, j ≤ 7 ∧ i = .int .i64 (j : Int) ∧ Below w.heap.size w wr ∧ CronAt wr w.heap.size nilF ∧ CronAt wr (w.heap.size + 1) (macC l j)) (fun _ _ _ i _ => 7 - (intOf i).toNat)
  case atStart => exact ⟨0, by omega, rfl, HB1.out, HC0.out, HC1.out⟩
  case round =>
    clear HC0 HC1 HB1
    obtain ⟨j, hj, rfl, hb, hc0, hc1⟩ := hrel
    have HB := Lib.hid hb; have HC0 := Lib.hid hc0; have HC1 := Lib.hid hc1
    clear hb hc0 hc1
    by_cases hlt : j < 7
    · have hj7 : (j : Int) < 7 := by omega
      have hix := fun W => HI.out j hlt W
      have HT := Lib.hid (fun q hq => macT_len j hlt q hq)
      have HS := Lib.hid (fun q (hq : q < 5) W => index_str (fun q => macT j q) q hq W)
      have hcm : macC l (j + 1) = if macN j = l then putN (macC l j) j 5 else macC l j := rfl
      have HCM := Lib.hid hcm
      unfold strV at HS
      clear hcm HI
      by_cases he : macN j = l
      · have HE := Lib.hid (HCM.out.trans (if_pos he))
        generalize macN j = nm at *
        subst he
        go_wp2_with fail
        have HB2 : Hid (Below w.heap.size w (wr.alloc (.cells #[.string ⟨nm.toArray⟩, .string ⟨(macT j 0).toArray⟩, .string ⟨(macT j 1).toArray⟩, .string ⟨(macT j 2).toArray⟩, .string ⟨(macT j 3).toArray⟩, .string ⟨(macT j 4).toArray⟩] 80))) := Lib.hid (HB.out.alloc HB.out.size _)
        have HC2 : Hid (CronAt (wr.alloc (.cells #[.string ⟨nm.toArray⟩, .string ⟨(macT j 0).toArray⟩, .string ⟨(macT j 1).toArray⟩, .string ⟨(macT j 2).toArray⟩, .string ⟨(macT j 3).toArray⟩, .string ⟨(macT j 4).toArray⟩] 80)) w.heap.size nilF) := Lib.hid (HC0.out.alloc _)
        have HC3 : Hid (CronAt (wr.alloc (.cells #[.string ⟨nm.toArray⟩, .string ⟨(macT j 0).toArray⟩, .string ⟨(macT j 1).toArray⟩, .string ⟨(macT j 2).toArray⟩, .string ⟨(macT j 3).toArray⟩, .string ⟨(macT j 4).toArray⟩] 80)) (w.heap.size + 1) (putN (macC nm j) j 0)) := Lib.hid (HC1.out.alloc _)
        generalize wr.alloc _ = w2 at *
        generalize macC nm j = cj at *
        clear HB HC0 HC1 hix
        go_loopw [7, 8, 19] (fun _ _ i wr2 => ∃ q : Nat, q ≤ 5 ∧ i = .int .i64 (q : Int) ∧ Below w.heap.size w wr2 ∧ CronAt wr2 w.heap.size nilF ∧ CronAt wr2 (w.heap.size + 1) (putN cj j q)) (fun _ _ i _ => 5 - (intOf i).toNat)
        case atStart => exact ⟨0, by omega, rfl, HB2.out, HC2.out, HC3.out⟩
        case round =>
          clear HB2 HC2 HC3
          obtain ⟨q, hq, rfl, hb, hc0, hc1⟩ := hrel
          have HB := Lib.hid hb; have HC0 := Lib.hid hc0; have HC1 := Lib.hid hc1
          clear hb hc0 hc1
          by_cases hlq : q < 5
          · have hq5 : (q : Int) < 5 := by omega
            have hix := fun W => HS.out q hlq W
            have hpn : Hid (putN cj j (q + 1) = (putN cj j q).set q (readL q (macT j q)).1) := Lib.hid rfl
            have HU := Lib.hid (fun W hW hC => put_any (w.heap.size + 1) q (macT j q) (putN cj j q) W hW hlq (by have := HT.out q hlq; omega) hC)
            unfold putV strV at HU
            generalize macT j q = tx at *
            generalize putN cj j q = cq at *
            go_wp2_with fail
            refine (HU.out _ (HL.out.fld.on HB.out) HC1.out).mono ?_
            rintro x w3 ⟨rfl, hc, hs⟩
            have HB3 := Lib.hid (HB.out.trans (hs.below (by omega) HB.out.size))
            have HC3 := Lib.hid (CronAt.block HC0.out hs (by omega))
            have HC4 := Lib.hid hc
            clear hs hc
            go_wp2_with fail
            go_roundw
            case rel => exact ⟨q + 1, by omega, by go_num, HB3.out, HC3.out, by rw [hpn.out]; exact HC4.out⟩
            case measure => simp [intOf]; omega
          · have hq5 : q = 5 := by omega
            subst hq5
            go_wp2_with fail
            go_roundw
            case rel => exact ⟨j + 1, by omega, by go_num, HB.out, HC0.out, by rw [HE.out]; exact HC1.out⟩
            case measure => simp [intOf]; omega
      · have HE := Lib.hid (HCM.out.trans (if_neg he))
        have he' : (macN j == l) = false := by simpa using he
        generalize macN j = nm at *
        go_wp2_with fail
        go_roundw
        case rel => exact ⟨j + 1, by omega, by go_num, HB.out.alloc HB.out.size _, HC0.out.alloc _, by rw [HE.out]; exact HC1.out.alloc _⟩
        case measure => simp [intOf]; omega
    · have hj7 : j = 7 := by omega
      subst hj7
      have hl5 := macC_len l 7
      generalize hL7 : macC l 7 = L at *
      obtain ⟨a, b, c, d, e, rfl⟩ := list_five hl5
      have HQ : Hid (Ending.returned (.tuple #[.agg #[.int .u64 (U a), .int .u64 (U b), .int .u64 (U c), .int .u64 (U d), .int .u64 (U e)], .bool (([a, b, c, d, e] : List (BitVec 64)) != nilF)]) = .returned (.tuple #[cronV (macC l 7), .bool (macC l 7 != nilF)])) := Lib.hid (by rw [hL7]; rfl)
      clear hL7
      obtain ⟨z0, z1, z2, z3, z4⟩ := HC0.out.five
      have f0 := HC0.out.frozen 0; have f1 := HC0.out.frozen 1; have f2 := HC0.out.frozen 2; have f3 := HC0.out.frozen 3; have f4 := HC0.out.frozen 4
      obtain ⟨c0, c1, c2, c3, c4⟩ := HC1.out.five
      have hcase := five_case a b c d e
      generalize hz : (([a, b, c, d, e] : List (BitVec 64)) != nilF) = z at *
      clear hz
      rcases hcase with ⟨rfl, u0, u1, u2, u3, u4⟩ | ⟨rfl, hcase⟩
      · have h0 := Lib.hid u0; have h1 := Lib.hid u1; have h2 := Lib.hid u2; have h3 := Lib.hid u3; have h4 := Lib.hid u4
        go_wp2_with fail
        go_region
        go_wp2_with fail
        refine bodyPost_ret (v := .tuple #[.agg #[.int .u64 (U a), .int .u64 (U b), .int .u64 (U c), .int .u64 (U d), .int .u64 (U e)], .bool false]) (by rw [h0.out, h1.out, h2.out, h3.out, h4.out]; simp [results, Tryz.results12, go_sem, z0, z1, z2, z3, z4]) rfl ⟨HQ.out, ?_⟩
        exact (below_five HB.out (Nat.le_refl _) _ _ _ _ _).drew
      · rcases hcase with u0 | ⟨u0, u1 | ⟨u1, u2 | ⟨u2, u3 | ⟨u3, u4⟩⟩⟩⟩
        · go_wp2_with fail
          go_region
          go_wp2_with fail
          refine bodyPost_ret (v := .tuple #[.agg #[.int .u64 (U a), .int .u64 (U b), .int .u64 (U c), .int .u64 (U d), .int .u64 (U e)], .bool true]) (by simp [results, Tryz.results12, go_sem, z0, z1, z2, z3, z4]) rfl ⟨HQ.out, ?_⟩
          exact (below_five HB.out (Nat.le_refl _) _ _ _ _ _).drew
        · have h0 := Lib.hid u0
          go_wp2_with fail
          go_region
          go_wp2_with fail
          refine bodyPost_ret (v := .tuple #[.agg #[.int .u64 (U a), .int .u64 (U b), .int .u64 (U c), .int .u64 (U d), .int .u64 (U e)], .bool true]) (by rw [h0.out]; simp [results, Tryz.results12, go_sem, z0, z1, z2, z3, z4]) rfl ⟨HQ.out, ?_⟩
          exact (below_five HB.out (Nat.le_refl _) _ _ _ _ _).drew
        · have h0 := Lib.hid u0; have h1 := Lib.hid u1
          go_wp2_with fail
          go_region
          go_wp2_with fail
          refine bodyPost_ret (v := .tuple #[.agg #[.int .u64 (U a), .int .u64 (U b), .int .u64 (U c), .int .u64 (U d), .int .u64 (U e)], .bool true]) (by rw [h0.out, h1.out]; simp [results, Tryz.results12, go_sem, z0, z1, z2, z3, z4]) rfl ⟨HQ.out, ?_⟩
          exact (below_five HB.out (Nat.le_refl _) _ _ _ _ _).drew
        · have h0 := Lib.hid u0; have h1 := Lib.hid u1; have h2 := Lib.hid u2
          go_wp2_with fail
          go_region
          go_wp2_with fail
          refine bodyPost_ret (v := .tuple #[.agg #[.int .u64 (U a), .int .u64 (U b), .int .u64 (U c), .int .u64 (U d), .int .u64 (U e)], .bool true]) (by rw [h0.out, h1.out, h2.out]; simp [results, Tryz.results12, go_sem, z0, z1, z2, z3, z4]) rfl ⟨HQ.out, ?_⟩
          exact (below_five HB.out (Nat.le_refl _) _ _ _ _ _).drew
        · have h0 := Lib.hid u0; have h1 := Lib.hid u1; have h2 := Lib.hid u2; have h3 := Lib.hid u3
          go_wp2_with fail
          go_region
          go_wp2_with fail
          refine bodyPost_ret (v := .tuple #[.agg #[.int .u64 (U a), .int .u64 (U b), .int .u64 (U c), .int .u64 (U d), .int .u64 (U e)], .bool true]) (by rw [h0.out, h1.out, h2.out, h3.out]; simp [results, Tryz.results12, go_sem, z0, z1, z2, z3, z4]) rfl ⟨HQ.out, ?_⟩
          exact (below_five HB.out (Nat.le_refl _) _ _ _ _ _).drew
end Go.Proofs.YtmjjdccpnepjjaaGreatDoor
