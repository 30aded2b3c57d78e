/- CronReads: walked. -/
import Derived.Test.YtmjjdccpnepjjaaGreatDoorKGBack7
import Derived.Test.YtmjjdccpnepjjaaGreatDoorKGRMac2
namespace Go.Proofs.YtmjjdccpnepjjaaGreatDoor
open Go.RowKit

def cut257 (s : List UInt8) : List UInt8 := s.take 257
theorem cut257_len (s : List UInt8) : (cut257 s).length ≤ 257 := by unfold cut257; rw [List.length_take]; omega
theorem cut257_at (s : ByteArray) : s.extract 0 (min (s.size : Int) 257).toNat = ⟨(cut257 s.data.toList).toArray⟩ := by
  have hx : s.data.toList.take (min (s.size : Int) 257).toNat = cut257 s.data.toList := by
    unfold cut257
    by_cases h : s.size ≤ 257
    · rw [List.take_of_length_le (by rw [len_list]; omega), List.take_of_length_le (by rw [len_list]; omega)]
    · rw [show (min (s.size : Int) 257).toNat = 257 by omega]
  rw [← hx]
  exact Value.string.inj (ext_head s _)
theorem macroV_none {l : List UInt8} (h : macroL l = none) : macroV l = .tuple #[.agg #[.int .u64 0, .int .u64 0, .int .u64 0, .int .u64 0, .int .u64 0], .bool false] := by
  have : macroM l = none := by unfold macroM; rw [h]; rfl
  unfold macroV; rw [this]; rfl
theorem macroV_some {l x : List UInt8} (h : macroL l = some x) : ∃ a b c d e, macroV l = .tuple #[.agg #[.int .u64 (U a), .int .u64 (U b), .int .u64 (U c), .int .u64 (U d), .int .u64 (U e)], .bool true] ∧ rreadC x = .tuple #[.agg #[.int .u64 (U a), .int .u64 (U b), .int .u64 (U c), .int .u64 (U d), .int .u64 (U e)], .int .i64 0, .bool true] := by
  obtain ⟨q, _, h2, h3⟩ := macro_reads h
  obtain ⟨a, b, c, d, e, rfl⟩ := list_five (readC_right h2).1
  exact ⟨a, b, c, d, e, by unfold macroV; rw [h3]; rfl, by rw [rreadC_some h2]; rfl⟩
theorem box_set5 {w : World} {g : Nat} {t : TypeId} {a0 a1 a2 a3 a4 : Value} (h : D.Box w g t #[a0, a1, a2, a3, a4]) (u0 u1 u2 u3 u4 : Value) : D.Box (set5V w g u0 u1 u2 u3 u4) g t #[u0, u1, u2, u3, u4] :=
  ((((h.set 0 u0).set 1 u1).set 2 u2).set 3 u3).set 4 u4
theorem box_far5 {w : World} {g p : Nat} {t : TypeId} {cs : Array Value} (h : D.Box w g t cs) (hp : ¬ g = p) (u0 u1 u2 u3 u4 : Value) : D.Box (set5V w p u0 u1 u2 u3 u4) g t cs :=
  ((((h.far hp u0).far hp u1).far hp u2).far hp u3).far hp u4
set_option maxRecDepth 100000 in
set_option maxHeartbeats 8000000 in
theorem reads7_walk (A : Option Addr) (n ca : Nat) (w : World) (hL : LaidC w) (hn : n ≤ maxLen) (hd : ArrS w w.heap.size A n) :
    Calls Tryz.prog 3 #[.slice A n ca] w fun e w' => e = .returned (.bool true) ∧ Below w.heap.size w w' := by
  unfold maxLen at hn
  have HL := Lib.hid hL; have HD := Lib.hid hd
  clear hL hd
  go_enter Tryz.func3, Tryz.ntmps3
  go_wp2_with fail
  refine (cwakes_any w HL.out).mono ?_
  rintro x w1 ⟨rfl, hb⟩
  have HB1 := Lib.hid hb
  clear hb
  go_wp2_with fail
  go_loopw [3, 4, 5, 6, 7, 8, 9, 10, 11, 12, 13, 14, 15, 20] (fun _ _ _ _ _ _ _ _ _ _ _ _ _ i wr => ∃ k : Nat, k ≤ n ∧ i = .int .i64 (k : Int) ∧ Below w.heap.size w wr) (fun _ _ _ _ _ _ _ _ _ _ _ _ _ i _ => n - (intOf i).toNat)
  case atStart => exact ⟨0, Nat.zero_le _, rfl, HB1.out⟩
  case round =>
    clear HB1
    obtain ⟨k, hk, rfl, hb⟩ := hrel
    have HB := Lib.hid hb
    clear hb
    by_cases hlt : k < n
    · obtain ⟨g, oo, s, rfl, hg, e0, hsz0⟩ := (HD.out.on HB.out) k hlt
      unfold maxLen at hsz0
      have HLr := Lib.hid (HL.out.on HB.out)
      have hsz := HB.out.size
      by_cases h12 : k = 12
      · subst h12
        rw [show ((12 : Nat) : Int) = 12 by rfl]
        go_wp2_with fail
        go_ret
        exact ⟨rfl, HB.out⟩
      · have h12' : ((k : Int) == 12) = false := by simp; omega
        have hcut := cut257_at s
        have hcl := cut257_len s.data.toList
        generalize cut257 s.data.toList = tx at *
        have hzx : (⟨tx.toArray⟩ : ByteArray).size = tx.length := by show tx.toArray.size = _; simp
        by_cases hlong : 256 < tx.length
        · have HR := Lib.hid (fun W => cread_long ⟨tx.toArray⟩ W (by rw [hzx]; unfold maxLen; omega) (by rw [hzx]; exact hlong))
          unfold cronV nilF at HR
          simp only [List.map_cons, List.map_nil] at HR
          unfold menc at HR
          rw [U_zero] at HR
          have hl1 : (256 : Int) < (tx.length : Int) := by omega
          go_wp2_with fail
          refine (HR.out _).mono ?_
          rintro x w3 ⟨rfl, hb⟩
          have HB3 := Lib.hid (HB.out.trans (hb.mono HB.out.size))
          clear hb
          go_wp2_with fail
          go_roundw
          case rel => exact ⟨k + 1, by omega, by go_num, HB3.out.alloc HB3.out.size _⟩
          case measure => simp [intOf]; omega
        · have hsh : tx.length ≤ 256 := by omega
          have hl1 : decide ((256 : Int) < (tx.length : Int)) = false := by simp; omega
          have HR := Lib.hid (fun W hW => cread_short tx W hW hsh)
          have HRR := Lib.hid (fun W => rread7_any tx W hsh)
          have HM := Lib.hid (fun W hW => macro_any tx W hW)
          have HRM := Lib.hid (fun W => rmacro_any tx W)
          cases hrr : readC tx with
          | mk o p =>
          cases o with
          | none =>
            rw [creadV_none hrr] at HR
            rw [rreadC_none hrr] at HRR
            unfold cronV nilF at HR HRR
            simp only [List.map_cons, List.map_nil] at HR HRR
            unfold menc at HR HRR
            rw [U_zero] at HR HRR
            clear hrr
            cases hm : macroL tx with
            | none =>
              have HX := Lib.hid (fun W => rread7_any [] W (by decide))
              rw [show rreadC [] = .tuple #[.agg #[.int .u64 0, .int .u64 0, .int .u64 0, .int .u64 0, .int .u64 0], .int .i64 0, .bool false] from rfl] at HX
              have HM2 := Lib.hid (macroV_none hm)
              simp only [HM2.out] at HM
              rw [hm] at HRM
              clear hm HM2
              unfold strV at *
              simp only [Option.getD_none] at HRM
              go_wp2_with fail
              refine (HR.out _ HLr.out).mono ?_
              rintro x' w3 ⟨rfl, hb⟩
              have HB3 := Lib.hid (HB.out.trans (hb.mono HB.out.size)); have HL3 := Lib.hid (HLr.out.on hb)
              clear hb
              go_wp2_with fail
              have hF : ∃ W : World, W = w3.alloc (.cells #[.int .u64 0, .int .u64 0, .int .u64 0, .int .u64 0, .int .u64 0] 27) ∧ Below w.heap.size w W ∧ LaidC W ∧ D.Box W w3.heap.size 27 #[.int .u64 0, .int .u64 0, .int .u64 0, .int .u64 0, .int .u64 0] :=
                ⟨_, rfl, HB3.out.alloc HB3.out.size _, HL3.out.on ((Below.refl _ w3).alloc (Nat.le_refl _) _), D.Box.new _ _ _⟩
              obtain ⟨w4, hw4, hb4, hl4, hx4'⟩ := hF
              rw [← hw4]
              have HB4 := Lib.hid hb4; have HL4 := Lib.hid hl4; have HX4 := Lib.hid hx4'
              clear hw4 hb4 hl4 hx4' HB3 HL3
              refine (HRR.out _).mono ?_
              rintro x' w5 ⟨rfl, hb⟩
              have HB5 := Lib.hid (HB4.out.trans (hb.mono HB4.out.size)); have HL5 := Lib.hid (HL4.out.on hb); have HX5 := Lib.hid (D.Box.belowAll HX4.out hb)
              clear hb HB4 HL4 HX4
              have hg5 := D.Box.lt HX5.out
              have k0 := D.Box.cell HX5.out 0; have k1 := D.Box.cell HX5.out 1; have k2 := D.Box.cell HX5.out 2; have k3 := D.Box.cell HX5.out 3; have k4 := D.Box.cell HX5.out 4
              simp only [List.getElem?_toArray, List.getElem?_cons_zero, List.getElem?_cons_succ] at k0 k1 k2 k3 k4
              go_wp2_with fail
              have hF : ∃ W : World, W = w5.alloc (.cells #[.int .u64 0, .int .u64 0, .int .u64 0, .int .u64 0, .int .u64 0] 27) ∧ Below w.heap.size w W ∧ LaidC W :=
                ⟨_, rfl, HB5.out.alloc HB5.out.size _, HL5.out.on ((Below.refl _ w5).alloc (Nat.le_refl _) _)⟩
              obtain ⟨w6, hw6, hb6, hl6⟩ := hF
              rw [← hw6]
              have HB6 := Lib.hid hb6; have HL6 := Lib.hid hl6
              clear hw6 hb6 hl6 HB5 HL5 HX5 hg5 k0 k1 k2 k3 k4
              refine (HM.out _ HL6.out).mono ?_
              rintro x' w7 ⟨rfl, hb⟩
              have HB7 := Lib.hid (HB6.out.trans (hb.mono HB6.out.size)); have HL7 := Lib.hid (HL6.out.on hb)
              clear hb HB6 HL6
              go_wp2_with fail
              have hF : ∃ W : World, W = w7.alloc (.cells #[.int .u64 0, .int .u64 0, .int .u64 0, .int .u64 0, .int .u64 0] 27) ∧ Below w.heap.size w W ∧ D.Box W w7.heap.size 27 #[.int .u64 0, .int .u64 0, .int .u64 0, .int .u64 0, .int .u64 0] :=
                ⟨_, rfl, HB7.out.alloc HB7.out.size _, D.Box.new _ _ _⟩
              obtain ⟨w8, hw8, hb8, hx8⟩ := hF
              rw [← hw8]
              have HB8 := Lib.hid hb8; have HX8 := Lib.hid hx8
              clear hw8 hb8 hx8 HB7 HL7
              refine (HRM.out _).mono ?_
              rintro x' w9 ⟨rfl, rfl⟩
              go_wp2_with fail
              refine (HX.out _).mono ?_
              rintro x' w10 ⟨rfl, hb⟩
              have HB10 := Lib.hid (HB8.out.trans (hb.mono HB8.out.size)); have HX10 := Lib.hid (D.Box.belowAll HX8.out hb)
              clear hb HB8 HX8
              go_wp2_with fail
              have hF : ∃ W : World, W = w10.alloc (.cells #[.int .u64 0, .int .u64 0, .int .u64 0, .int .u64 0, .int .u64 0] 27) ∧ Below w.heap.size w W ∧ D.Box W w7.heap.size 27 #[.int .u64 0, .int .u64 0, .int .u64 0, .int .u64 0, .int .u64 0] ∧ D.Box W w10.heap.size 27 #[.int .u64 0, .int .u64 0, .int .u64 0, .int .u64 0, .int .u64 0] ∧ w7.heap.size < w10.heap.size :=
                ⟨_, rfl, HB10.out.alloc HB10.out.size _, D.Box.alloc HX10.out _, D.Box.new _ _ _, D.Box.lt HX10.out⟩
              obtain ⟨w11, hw11, hb11, hx11, hy11, hlt11⟩ := hF
              have HSZ := Lib.hid HB10.out.size
              rw [← hw11]
              have HB11 := Lib.hid hb11; have HX11 := Lib.hid hx11; have HY11 := Lib.hid hy11
              clear hw11 hb11 hx11 hy11 HB10 HX10
              have k0 := D.Box.cell HX11.out 0; have k1 := D.Box.cell HX11.out 1; have k2 := D.Box.cell HX11.out 2; have k3 := D.Box.cell HX11.out 3; have k4 := D.Box.cell HX11.out 4
              have j0 := D.Box.cell HY11.out 0; have j1 := D.Box.cell HY11.out 1; have j2 := D.Box.cell HY11.out 2; have j3 := D.Box.cell HY11.out 3; have j4 := D.Box.cell HY11.out 4
              have f0 := D.Box.frozen HY11.out 0; have f1 := D.Box.frozen HY11.out 1; have f2 := D.Box.frozen HY11.out 2; have f3 := D.Box.frozen HY11.out 3; have f4 := D.Box.frozen HY11.out 4
              simp only [List.getElem?_toArray, List.getElem?_cons_zero, List.getElem?_cons_succ] at k0 k1 k2 k3 k4 j0 j1 j2 j3 j4
              have hlt7 : ¬ w10.heap.size = w7.heap.size := by omega
              have hlt8 : ¬ w7.heap.size = w10.heap.size := by omega
              have hsz10 : w.heap.size ≤ w10.heap.size := by have := hlt11; have := HSZ.out; omega
              refine (HRM.out _).mono ?_
              rintro x' w12 ⟨rfl, rfl⟩
              go_wp2_with fail
              have hF : ∃ W : World, W = set5V w11 w10.heap.size (.int .u64 0) (.int .u64 0) (.int .u64 0) (.int .u64 0) (.int .u64 0) ∧ Below w.heap.size w W ∧ D.Box W w7.heap.size 27 #[.int .u64 0, .int .u64 0, .int .u64 0, .int .u64 0, .int .u64 0] ∧ D.Box W w10.heap.size 27 #[.int .u64 0, .int .u64 0, .int .u64 0, .int .u64 0, .int .u64 0] :=
                ⟨_, rfl, below_five HB11.out hsz10 _ _ _ _ _, box_far5 HX11.out hlt8 _ _ _ _ _, box_set5 HY11.out _ _ _ _ _⟩
              obtain ⟨w13, hw13, hb13, hx13, hy13⟩ := hF
              unfold set5V at hw13
              rw [← hw13]
              have HB13 := Lib.hid hb13
              clear hw13 hb13 k0 k1 k2 k3 k4 j0 j1 j2 j3 j4 f0 f1 f2 f3 f4 HB11 HX11 HY11
              have k0 := D.Box.cell hx13 0; have k1 := D.Box.cell hx13 1; have k2 := D.Box.cell hx13 2; have k3 := D.Box.cell hx13 3; have k4 := D.Box.cell hx13 4
              have j0 := D.Box.cell hy13 0; have j1 := D.Box.cell hy13 1; have j2 := D.Box.cell hy13 2; have j3 := D.Box.cell hy13 3; have j4 := D.Box.cell hy13 4
              simp only [List.getElem?_toArray, List.getElem?_cons_zero, List.getElem?_cons_succ] at k0 k1 k2 k3 k4 j0 j1 j2 j3 j4
              refine (HRM.out _).mono ?_
              rintro x' w14 ⟨rfl, rfl⟩
              go_wp2_with fail
              go_roundw
              case rel => exact ⟨k + 1, by omega, by go_num, HB13.out⟩
              case measure => simp [intOf]; omega
            | some x =>
              obtain ⟨m0, m1, m2, m3, m4, hmv, hrx⟩ := macroV_some hm
              obtain ⟨hx1, hx2, _⟩ := macro_plain hm
              have hx4 : x.isEmpty = false := by cases x with | nil => exact absurd rfl hx2 | cons b t => rfl
              have HX := Lib.hid (fun W => rread7_any x W hx1)
              rw [hrx] at HX
              have HM2 := Lib.hid hmv
              simp only [HM2.out] at HM
              rw [hm] at HRM
              clear hm HM2 hmv hrx
              unfold strV at *
              simp only [Option.getD_some] at HRM
              go_wp2_with fail
              refine (HR.out _ HLr.out).mono ?_
              rintro x' w3 ⟨rfl, hb⟩
              have HB3 := Lib.hid (HB.out.trans (hb.mono HB.out.size)); have HL3 := Lib.hid (HLr.out.on hb)
              clear hb
              go_wp2_with fail
              have hF : ∃ W : World, W = w3.alloc (.cells #[.int .u64 0, .int .u64 0, .int .u64 0, .int .u64 0, .int .u64 0] 27) ∧ Below w.heap.size w W ∧ LaidC W ∧ D.Box W w3.heap.size 27 #[.int .u64 0, .int .u64 0, .int .u64 0, .int .u64 0, .int .u64 0] :=
                ⟨_, rfl, HB3.out.alloc HB3.out.size _, HL3.out.on ((Below.refl _ w3).alloc (Nat.le_refl _) _), D.Box.new _ _ _⟩
              obtain ⟨w4, hw4, hb4, hl4, hx4'⟩ := hF
              rw [← hw4]
              have HB4 := Lib.hid hb4; have HL4 := Lib.hid hl4; have HX4 := Lib.hid hx4'
              clear hw4 hb4 hl4 hx4' HB3 HL3
              refine (HRR.out _).mono ?_
              rintro x' w5 ⟨rfl, hb⟩
              have HB5 := Lib.hid (HB4.out.trans (hb.mono HB4.out.size)); have HL5 := Lib.hid (HL4.out.on hb); have HX5 := Lib.hid (D.Box.belowAll HX4.out hb)
              clear hb HB4 HL4 HX4
              have hg5 := D.Box.lt HX5.out
              have k0 := D.Box.cell HX5.out 0; have k1 := D.Box.cell HX5.out 1; have k2 := D.Box.cell HX5.out 2; have k3 := D.Box.cell HX5.out 3; have k4 := D.Box.cell HX5.out 4
              simp only [List.getElem?_toArray, List.getElem?_cons_zero, List.getElem?_cons_succ] at k0 k1 k2 k3 k4
              go_wp2_with fail
              have hF : ∃ W : World, W = w5.alloc (.cells #[.int .u64 0, .int .u64 0, .int .u64 0, .int .u64 0, .int .u64 0] 27) ∧ Below w.heap.size w W ∧ LaidC W :=
                ⟨_, rfl, HB5.out.alloc HB5.out.size _, HL5.out.on ((Below.refl _ w5).alloc (Nat.le_refl _) _)⟩
              obtain ⟨w6, hw6, hb6, hl6⟩ := hF
              rw [← hw6]
              have HB6 := Lib.hid hb6; have HL6 := Lib.hid hl6
              clear hw6 hb6 hl6 HB5 HL5 HX5 hg5 k0 k1 k2 k3 k4
              refine (HM.out _ HL6.out).mono ?_
              rintro x' w7 ⟨rfl, hb⟩
              have HB7 := Lib.hid (HB6.out.trans (hb.mono HB6.out.size)); have HL7 := Lib.hid (HL6.out.on hb)
              clear hb HB6 HL6
              go_wp2_with fail
              have hF : ∃ W : World, W = w7.alloc (.cells #[.int .u64 (U m0), .int .u64 (U m1), .int .u64 (U m2), .int .u64 (U m3), .int .u64 (U m4)] 27) ∧ Below w.heap.size w W ∧ D.Box W w7.heap.size 27 #[.int .u64 (U m0), .int .u64 (U m1), .int .u64 (U m2), .int .u64 (U m3), .int .u64 (U m4)] :=
                ⟨_, rfl, HB7.out.alloc HB7.out.size _, D.Box.new _ _ _⟩
              obtain ⟨w8, hw8, hb8, hx8⟩ := hF
              rw [← hw8]
              have HB8 := Lib.hid hb8; have HX8 := Lib.hid hx8
              clear hw8 hb8 hx8 HB7 HL7
              refine (HRM.out _).mono ?_
              rintro x' w9 ⟨rfl, rfl⟩
              go_wp2_with fail
              refine (HX.out _).mono ?_
              rintro x' w10 ⟨rfl, hb⟩
              have HB10 := Lib.hid (HB8.out.trans (hb.mono HB8.out.size)); have HX10 := Lib.hid (D.Box.belowAll HX8.out hb)
              clear hb HB8 HX8
              go_wp2_with fail
              have hF : ∃ W : World, W = w10.alloc (.cells #[.int .u64 (U m0), .int .u64 (U m1), .int .u64 (U m2), .int .u64 (U m3), .int .u64 (U m4)] 27) ∧ Below w.heap.size w W ∧ D.Box W w7.heap.size 27 #[.int .u64 (U m0), .int .u64 (U m1), .int .u64 (U m2), .int .u64 (U m3), .int .u64 (U m4)] ∧ D.Box W w10.heap.size 27 #[.int .u64 (U m0), .int .u64 (U m1), .int .u64 (U m2), .int .u64 (U m3), .int .u64 (U m4)] ∧ w7.heap.size < w10.heap.size :=
                ⟨_, rfl, HB10.out.alloc HB10.out.size _, D.Box.alloc HX10.out _, D.Box.new _ _ _, D.Box.lt HX10.out⟩
              obtain ⟨w11, hw11, hb11, hx11, hy11, hlt11⟩ := hF
              have HSZ := Lib.hid HB10.out.size
              rw [← hw11]
              have HB11 := Lib.hid hb11; have HX11 := Lib.hid hx11; have HY11 := Lib.hid hy11
              clear hw11 hb11 hx11 hy11 HB10 HX10
              have k0 := D.Box.cell HX11.out 0; have k1 := D.Box.cell HX11.out 1; have k2 := D.Box.cell HX11.out 2; have k3 := D.Box.cell HX11.out 3; have k4 := D.Box.cell HX11.out 4
              have j0 := D.Box.cell HY11.out 0; have j1 := D.Box.cell HY11.out 1; have j2 := D.Box.cell HY11.out 2; have j3 := D.Box.cell HY11.out 3; have j4 := D.Box.cell HY11.out 4
              have f0 := D.Box.frozen HY11.out 0; have f1 := D.Box.frozen HY11.out 1; have f2 := D.Box.frozen HY11.out 2; have f3 := D.Box.frozen HY11.out 3; have f4 := D.Box.frozen HY11.out 4
              simp only [List.getElem?_toArray, List.getElem?_cons_zero, List.getElem?_cons_succ] at k0 k1 k2 k3 k4 j0 j1 j2 j3 j4
              have hlt7 : ¬ w10.heap.size = w7.heap.size := by omega
              have hlt8 : ¬ w7.heap.size = w10.heap.size := by omega
              have hsz10 : w.heap.size ≤ w10.heap.size := by have := hlt11; have := HSZ.out; omega
              refine (HRM.out _).mono ?_
              rintro x' w12 ⟨rfl, rfl⟩
              go_wp2_with fail
              refine (HRM.out _).mono ?_
              rintro x' w14 ⟨rfl, rfl⟩
              go_wp2_with fail
              go_roundw
              case rel => exact ⟨k + 1, by omega, by go_num, HB11.out⟩
              case measure => simp [intOf]; omega
          | some l =>
            obtain ⟨hl5, hp0, _⟩ := read_cr hrr
            subst hp0
            obtain ⟨v0, v1, v2, v3, v4, rfl⟩ := list_five hl5
            rw [creadV_some hrr] at HR
            rw [rreadC_some hrr] at HRR
            unfold cronV at HR HRR
            simp only [List.map_cons, List.map_nil] at HR HRR
            unfold menc at HR HRR
            clear hrr
            cases hm : macroL tx with
            | none =>
              have HX := Lib.hid (fun W => rread7_any [] W (by decide))
              rw [show rreadC [] = .tuple #[.agg #[.int .u64 0, .int .u64 0, .int .u64 0, .int .u64 0, .int .u64 0], .int .i64 0, .bool false] from rfl] at HX
              have HM2 := Lib.hid (macroV_none hm)
              simp only [HM2.out] at HM
              rw [hm] at HRM
              clear hm HM2
              unfold strV at *
              simp only [Option.getD_none] at HRM
              go_wp2_with fail
              refine (HR.out _ HLr.out).mono ?_
              rintro x' w3 ⟨rfl, hb⟩
              have HB3 := Lib.hid (HB.out.trans (hb.mono HB.out.size)); have HL3 := Lib.hid (HLr.out.on hb)
              clear hb
              go_wp2_with fail
              have hF : ∃ W : World, W = w3.alloc (.cells #[.int .u64 (U v0), .int .u64 (U v1), .int .u64 (U v2), .int .u64 (U v3), .int .u64 (U v4)] 27) ∧ Below w.heap.size w W ∧ LaidC W ∧ D.Box W w3.heap.size 27 #[.int .u64 (U v0), .int .u64 (U v1), .int .u64 (U v2), .int .u64 (U v3), .int .u64 (U v4)] :=
                ⟨_, rfl, HB3.out.alloc HB3.out.size _, HL3.out.on ((Below.refl _ w3).alloc (Nat.le_refl _) _), D.Box.new _ _ _⟩
              obtain ⟨w4, hw4, hb4, hl4, hx4'⟩ := hF
              rw [← hw4]
              have HB4 := Lib.hid hb4; have HL4 := Lib.hid hl4; have HX4 := Lib.hid hx4'
              clear hw4 hb4 hl4 hx4' HB3 HL3
              refine (HRR.out _).mono ?_
              rintro x' w5 ⟨rfl, hb⟩
              have HB5 := Lib.hid (HB4.out.trans (hb.mono HB4.out.size)); have HL5 := Lib.hid (HL4.out.on hb); have HX5 := Lib.hid (D.Box.belowAll HX4.out hb)
              clear hb HB4 HL4 HX4
              have hg5 := D.Box.lt HX5.out
              have k0 := D.Box.cell HX5.out 0; have k1 := D.Box.cell HX5.out 1; have k2 := D.Box.cell HX5.out 2; have k3 := D.Box.cell HX5.out 3; have k4 := D.Box.cell HX5.out 4
              simp only [List.getElem?_toArray, List.getElem?_cons_zero, List.getElem?_cons_succ] at k0 k1 k2 k3 k4
              go_wp2_with fail
              have hF : ∃ W : World, W = w5.alloc (.cells #[.int .u64 (U v0), .int .u64 (U v1), .int .u64 (U v2), .int .u64 (U v3), .int .u64 (U v4)] 27) ∧ Below w.heap.size w W ∧ LaidC W :=
                ⟨_, rfl, HB5.out.alloc HB5.out.size _, HL5.out.on ((Below.refl _ w5).alloc (Nat.le_refl _) _)⟩
              obtain ⟨w6, hw6, hb6, hl6⟩ := hF
              rw [← hw6]
              have HB6 := Lib.hid hb6; have HL6 := Lib.hid hl6
              clear hw6 hb6 hl6 HB5 HL5 HX5 hg5 k0 k1 k2 k3 k4
              refine (HM.out _ HL6.out).mono ?_
              rintro x' w7 ⟨rfl, hb⟩
              have HB7 := Lib.hid (HB6.out.trans (hb.mono HB6.out.size)); have HL7 := Lib.hid (HL6.out.on hb)
              clear hb HB6 HL6
              go_wp2_with fail
              have hF : ∃ W : World, W = w7.alloc (.cells #[.int .u64 0, .int .u64 0, .int .u64 0, .int .u64 0, .int .u64 0] 27) ∧ Below w.heap.size w W ∧ D.Box W w7.heap.size 27 #[.int .u64 0, .int .u64 0, .int .u64 0, .int .u64 0, .int .u64 0] :=
                ⟨_, rfl, HB7.out.alloc HB7.out.size _, D.Box.new _ _ _⟩
              obtain ⟨w8, hw8, hb8, hx8⟩ := hF
              rw [← hw8]
              have HB8 := Lib.hid hb8; have HX8 := Lib.hid hx8
              clear hw8 hb8 hx8 HB7 HL7
              refine (HRM.out _).mono ?_
              rintro x' w9 ⟨rfl, rfl⟩
              go_wp2_with fail
              refine (HX.out _).mono ?_
              rintro x' w10 ⟨rfl, hb⟩
              have HB10 := Lib.hid (HB8.out.trans (hb.mono HB8.out.size)); have HX10 := Lib.hid (D.Box.belowAll HX8.out hb)
              clear hb HB8 HX8
              go_wp2_with fail
              have hF : ∃ W : World, W = w10.alloc (.cells #[.int .u64 0, .int .u64 0, .int .u64 0, .int .u64 0, .int .u64 0] 27) ∧ Below w.heap.size w W ∧ D.Box W w7.heap.size 27 #[.int .u64 0, .int .u64 0, .int .u64 0, .int .u64 0, .int .u64 0] ∧ D.Box W w10.heap.size 27 #[.int .u64 0, .int .u64 0, .int .u64 0, .int .u64 0, .int .u64 0] ∧ w7.heap.size < w10.heap.size :=
                ⟨_, rfl, HB10.out.alloc HB10.out.size _, D.Box.alloc HX10.out _, D.Box.new _ _ _, D.Box.lt HX10.out⟩
              obtain ⟨w11, hw11, hb11, hx11, hy11, hlt11⟩ := hF
              have HSZ := Lib.hid HB10.out.size
              rw [← hw11]
              have HB11 := Lib.hid hb11; have HX11 := Lib.hid hx11; have HY11 := Lib.hid hy11
              clear hw11 hb11 hx11 hy11 HB10 HX10
              have k0 := D.Box.cell HX11.out 0; have k1 := D.Box.cell HX11.out 1; have k2 := D.Box.cell HX11.out 2; have k3 := D.Box.cell HX11.out 3; have k4 := D.Box.cell HX11.out 4
              have j0 := D.Box.cell HY11.out 0; have j1 := D.Box.cell HY11.out 1; have j2 := D.Box.cell HY11.out 2; have j3 := D.Box.cell HY11.out 3; have j4 := D.Box.cell HY11.out 4
              have f0 := D.Box.frozen HY11.out 0; have f1 := D.Box.frozen HY11.out 1; have f2 := D.Box.frozen HY11.out 2; have f3 := D.Box.frozen HY11.out 3; have f4 := D.Box.frozen HY11.out 4
              simp only [List.getElem?_toArray, List.getElem?_cons_zero, List.getElem?_cons_succ] at k0 k1 k2 k3 k4 j0 j1 j2 j3 j4
              have hlt7 : ¬ w10.heap.size = w7.heap.size := by omega
              have hlt8 : ¬ w7.heap.size = w10.heap.size := by omega
              have hsz10 : w.heap.size ≤ w10.heap.size := by have := hlt11; have := HSZ.out; omega
              refine (HRM.out _).mono ?_
              rintro x' w12 ⟨rfl, rfl⟩
              go_wp2_with fail
              have hF : ∃ W : World, W = set5V w11 w10.heap.size (.int .u64 0) (.int .u64 0) (.int .u64 0) (.int .u64 0) (.int .u64 0) ∧ Below w.heap.size w W ∧ D.Box W w7.heap.size 27 #[.int .u64 0, .int .u64 0, .int .u64 0, .int .u64 0, .int .u64 0] ∧ D.Box W w10.heap.size 27 #[.int .u64 0, .int .u64 0, .int .u64 0, .int .u64 0, .int .u64 0] :=
                ⟨_, rfl, below_five HB11.out hsz10 _ _ _ _ _, box_far5 HX11.out hlt8 _ _ _ _ _, box_set5 HY11.out _ _ _ _ _⟩
              obtain ⟨w13, hw13, hb13, hx13, hy13⟩ := hF
              unfold set5V at hw13
              rw [← hw13]
              have HB13 := Lib.hid hb13
              clear hw13 hb13 k0 k1 k2 k3 k4 j0 j1 j2 j3 j4 f0 f1 f2 f3 f4 HB11 HX11 HY11
              have k0 := D.Box.cell hx13 0; have k1 := D.Box.cell hx13 1; have k2 := D.Box.cell hx13 2; have k3 := D.Box.cell hx13 3; have k4 := D.Box.cell hx13 4
              have j0 := D.Box.cell hy13 0; have j1 := D.Box.cell hy13 1; have j2 := D.Box.cell hy13 2; have j3 := D.Box.cell hy13 3; have j4 := D.Box.cell hy13 4
              simp only [List.getElem?_toArray, List.getElem?_cons_zero, List.getElem?_cons_succ] at k0 k1 k2 k3 k4 j0 j1 j2 j3 j4
              refine (HRM.out _).mono ?_
              rintro x' w14 ⟨rfl, rfl⟩
              go_wp2_with fail
              go_roundw
              case rel => exact ⟨k + 1, by omega, by go_num, HB13.out⟩
              case measure => simp [intOf]; omega
            | some x =>
              obtain ⟨m0, m1, m2, m3, m4, hmv, hrx⟩ := macroV_some hm
              obtain ⟨hx1, hx2, _⟩ := macro_plain hm
              have hx4 : x.isEmpty = false := by cases x with | nil => exact absurd rfl hx2 | cons b t => rfl
              have HX := Lib.hid (fun W => rread7_any x W hx1)
              rw [hrx] at HX
              have HM2 := Lib.hid hmv
              simp only [HM2.out] at HM
              rw [hm] at HRM
              clear hm HM2 hmv hrx
              unfold strV at *
              simp only [Option.getD_some] at HRM
              go_wp2_with fail
              refine (HR.out _ HLr.out).mono ?_
              rintro x' w3 ⟨rfl, hb⟩
              have HB3 := Lib.hid (HB.out.trans (hb.mono HB.out.size)); have HL3 := Lib.hid (HLr.out.on hb)
              clear hb
              go_wp2_with fail
              have hF : ∃ W : World, W = w3.alloc (.cells #[.int .u64 (U v0), .int .u64 (U v1), .int .u64 (U v2), .int .u64 (U v3), .int .u64 (U v4)] 27) ∧ Below w.heap.size w W ∧ LaidC W ∧ D.Box W w3.heap.size 27 #[.int .u64 (U v0), .int .u64 (U v1), .int .u64 (U v2), .int .u64 (U v3), .int .u64 (U v4)] :=
                ⟨_, rfl, HB3.out.alloc HB3.out.size _, HL3.out.on ((Below.refl _ w3).alloc (Nat.le_refl _) _), D.Box.new _ _ _⟩
              obtain ⟨w4, hw4, hb4, hl4, hx4'⟩ := hF
              rw [← hw4]
              have HB4 := Lib.hid hb4; have HL4 := Lib.hid hl4; have HX4 := Lib.hid hx4'
              clear hw4 hb4 hl4 hx4' HB3 HL3
              refine (HRR.out _).mono ?_
              rintro x' w5 ⟨rfl, hb⟩
              have HB5 := Lib.hid (HB4.out.trans (hb.mono HB4.out.size)); have HL5 := Lib.hid (HL4.out.on hb); have HX5 := Lib.hid (D.Box.belowAll HX4.out hb)
              clear hb HB4 HL4 HX4
              have hg5 := D.Box.lt HX5.out
              have k0 := D.Box.cell HX5.out 0; have k1 := D.Box.cell HX5.out 1; have k2 := D.Box.cell HX5.out 2; have k3 := D.Box.cell HX5.out 3; have k4 := D.Box.cell HX5.out 4
              simp only [List.getElem?_toArray, List.getElem?_cons_zero, List.getElem?_cons_succ] at k0 k1 k2 k3 k4
              go_wp2_with fail
              have hF : ∃ W : World, W = w5.alloc (.cells #[.int .u64 (U v0), .int .u64 (U v1), .int .u64 (U v2), .int .u64 (U v3), .int .u64 (U v4)] 27) ∧ Below w.heap.size w W ∧ LaidC W :=
                ⟨_, rfl, HB5.out.alloc HB5.out.size _, HL5.out.on ((Below.refl _ w5).alloc (Nat.le_refl _) _)⟩
              obtain ⟨w6, hw6, hb6, hl6⟩ := hF
              rw [← hw6]
              have HB6 := Lib.hid hb6; have HL6 := Lib.hid hl6
              clear hw6 hb6 hl6 HB5 HL5 HX5 hg5 k0 k1 k2 k3 k4
              refine (HM.out _ HL6.out).mono ?_
              rintro x' w7 ⟨rfl, hb⟩
              have HB7 := Lib.hid (HB6.out.trans (hb.mono HB6.out.size)); have HL7 := Lib.hid (HL6.out.on hb)
              clear hb HB6 HL6
              go_wp2_with fail
              have hF : ∃ W : World, W = w7.alloc (.cells #[.int .u64 (U m0), .int .u64 (U m1), .int .u64 (U m2), .int .u64 (U m3), .int .u64 (U m4)] 27) ∧ Below w.heap.size w W ∧ D.Box W w7.heap.size 27 #[.int .u64 (U m0), .int .u64 (U m1), .int .u64 (U m2), .int .u64 (U m3), .int .u64 (U m4)] :=
                ⟨_, rfl, HB7.out.alloc HB7.out.size _, D.Box.new _ _ _⟩
              obtain ⟨w8, hw8, hb8, hx8⟩ := hF
              rw [← hw8]
              have HB8 := Lib.hid hb8; have HX8 := Lib.hid hx8
              clear hw8 hb8 hx8 HB7 HL7
              refine (HRM.out _).mono ?_
              rintro x' w9 ⟨rfl, rfl⟩
              go_wp2_with fail
              refine (HX.out _).mono ?_
              rintro x' w10 ⟨rfl, hb⟩
              have HB10 := Lib.hid (HB8.out.trans (hb.mono HB8.out.size)); have HX10 := Lib.hid (D.Box.belowAll HX8.out hb)
              clear hb HB8 HX8
              go_wp2_with fail
              have hF : ∃ W : World, W = w10.alloc (.cells #[.int .u64 (U m0), .int .u64 (U m1), .int .u64 (U m2), .int .u64 (U m3), .int .u64 (U m4)] 27) ∧ Below w.heap.size w W ∧ D.Box W w7.heap.size 27 #[.int .u64 (U m0), .int .u64 (U m1), .int .u64 (U m2), .int .u64 (U m3), .int .u64 (U m4)] ∧ D.Box W w10.heap.size 27 #[.int .u64 (U m0), .int .u64 (U m1), .int .u64 (U m2), .int .u64 (U m3), .int .u64 (U m4)] ∧ w7.heap.size < w10.heap.size :=
                ⟨_, rfl, HB10.out.alloc HB10.out.size _, D.Box.alloc HX10.out _, D.Box.new _ _ _, D.Box.lt HX10.out⟩
              obtain ⟨w11, hw11, hb11, hx11, hy11, hlt11⟩ := hF
              have HSZ := Lib.hid HB10.out.size
              rw [← hw11]
              have HB11 := Lib.hid hb11; have HX11 := Lib.hid hx11; have HY11 := Lib.hid hy11
              clear hw11 hb11 hx11 hy11 HB10 HX10
              have k0 := D.Box.cell HX11.out 0; have k1 := D.Box.cell HX11.out 1; have k2 := D.Box.cell HX11.out 2; have k3 := D.Box.cell HX11.out 3; have k4 := D.Box.cell HX11.out 4
              have j0 := D.Box.cell HY11.out 0; have j1 := D.Box.cell HY11.out 1; have j2 := D.Box.cell HY11.out 2; have j3 := D.Box.cell HY11.out 3; have j4 := D.Box.cell HY11.out 4
              have f0 := D.Box.frozen HY11.out 0; have f1 := D.Box.frozen HY11.out 1; have f2 := D.Box.frozen HY11.out 2; have f3 := D.Box.frozen HY11.out 3; have f4 := D.Box.frozen HY11.out 4
              simp only [List.getElem?_toArray, List.getElem?_cons_zero, List.getElem?_cons_succ] at k0 k1 k2 k3 k4 j0 j1 j2 j3 j4
              have hlt7 : ¬ w10.heap.size = w7.heap.size := by omega
              have hlt8 : ¬ w7.heap.size = w10.heap.size := by omega
              have hsz10 : w.heap.size ≤ w10.heap.size := by have := hlt11; have := HSZ.out; omega
              refine (HRM.out _).mono ?_
              rintro x' w12 ⟨rfl, rfl⟩
              go_wp2_with fail
              refine (HRM.out _).mono ?_
              rintro x' w14 ⟨rfl, rfl⟩
              go_wp2_with fail
              go_roundw
              case rel => exact ⟨k + 1, by omega, by go_num, HB11.out⟩
              case measure => simp [intOf]; omega
    · have hkn : k = n := by omega
      subst hkn
      go_wp2_with fail
      go_ret
      exact ⟨rfl, HB.out⟩
end Go.Proofs.YtmjjdccpnepjjaaGreatDoor
