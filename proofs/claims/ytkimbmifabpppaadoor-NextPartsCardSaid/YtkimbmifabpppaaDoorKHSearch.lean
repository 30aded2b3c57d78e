/- search: walked, of the program. -/
import Derived.Test.YtkimbmifabpppaaDoorKHStops
import Derived.Test.YtkimbmifabpppaaDoorKHFit
namespace Go.Proofs.YtkimbmifabpppaaDoor
open Go.RowKit

attribute [local go_sem] Oper.semAt_some

/-- The marks of rounds that have ended. -/
def mark (D : Nat) : Deferred := { target := .collected D, args := #[] }
def Marks (B : Nat) (ls : List Nat) (w : World) : Prop := ls.Nodup ∧ ∀ D ∈ ls, B ≤ D ∧ w.heap[D]? = some (.deferred (some []))
theorem Marks.on {B : Nat} {ls : List Nat} {w w' : World} (h : Marks B ls w) (hb : Below w.heap.size w w') : Marks B ls w' :=
  ⟨h.1, fun D hD => ⟨(h.2 D hD).1, (hb.block D (Array.getElem?_eq_some_iff.1 (h.2 D hD).2).1).trans (h.2 D hD).2⟩⟩
theorem Marks.cons {B D : Nat} {ls : List Nat} {w w' : World} (h : Marks B ls w) (hk : ∀ i ∈ ls, w'.heap[i]? = w.heap[i]?) (hD : w.heap.size ≤ D) (hB : B ≤ D) (hw : w'.heap[D]? = some (.deferred (some []))) : Marks B (D :: ls) w' := by
  refine ⟨List.nodup_cons.2 ⟨fun hm => ?_, h.1⟩, ?_⟩
  · have := (Array.getElem?_eq_some_iff.1 (h.2 D hm).2).1
    omega
  · intro i hi
    rcases List.mem_cons.1 hi with rfl | hi
    · exact ⟨hB, hw⟩
    · exact ⟨(h.2 i hi).1, (hk i hi).trans (h.2 i hi).2⟩
theorem leaves_marks {F : Fence} {n M : Nat} {fn : Func} {tmps : Array Value} {R : Ending → World → Prop} {w0 : World} (hM : w0.heap.size ≤ M) : ∀ (ls : List Nat) (w : World), Marks M ls w → Below w0.heap.size w0 w →
    (∀ w', Below w0.heap.size w0 w' → LeavesIn F n Tryd.prog fn tmps R [] .returning w') → LeavesInM F n Tryd.prog fn tmps R (ls.map mark) .returning w
  | [], w, _, hb, hR => hR w hb
  | D :: ls, w, hm, hb, hR => by
    obtain ⟨hlD, hD⟩ := hm.2 D List.mem_cons_self
    have hb2 : Below w0.heap.size w0 (w.putObj D (.deferred none)) := hb.trans (belowK_b (w := w0) (Nat.le_refl _) w D _ _ (by omega) hD rfl rfl)
    refine ⟨by simp, .inl ⟨D, _, rfl, run_takeDeferred hD, leaves_marks hM ls _ ⟨(List.nodup_cons.1 hm.1).2, fun i hi => ⟨(hm.2 i (List.mem_cons_of_mem _ hi)).1, ?_⟩⟩ hb2 hR⟩⟩
    have hne : i ≠ D := fun e => (List.nodup_cons.1 hm.1).1 (e ▸ hi)
    refine Eq.trans ?_ (hm.2 i (List.mem_cons_of_mem _ hi)).2
    simp [World.putObj, Ne.symm hne]
/-- What search comes to. -/
def SearchIs (L : List (BitVec 64)) (first way : Int) (P : Int → Prop) (x : Ending) : Prop :=
  (∃ (k : Nat) (u : Int), k ≤ 2922 ∧ NoneTo L first way P k ∧ Hit L first way P k u ∧ x = .returned (.tuple #[.int .i64 u, .bool true])) ∨
  (NoneTo L first way P 2923 ∧ x = .returned (.tuple #[.int .i64 0, .bool false]))
theorem wayL_on (way : Int) (hs ms : List Int) (n : Int) : onW (wayL way hs) (wayL way ms) n = wayL way (onW hs ms n) := by
  unfold wayL
  split
  · exact onW_rev hs ms n
  · rfl
theorem wayL_len (way : Int) (l : List Int) : (wayL way l).length = l.length := by unfold wayL; split <;> simp
/-- All but two blocks are as they were. -/
structure Duo (g h B : Nat) (w w' : World) : Prop where
  os : w'.os = w.os
  tape : w'.tape = w.tape
  output : w'.output = w.output
  size : w.heap.size ≤ w'.heap.size
  block : ∀ k, k < B → k ≠ g → k ≠ h → w'.heap[k]? = w.heap[k]?
theorem ownFrom_duo {β : Type} {g h B C : Nat} {w : World} (hB : B ≤ w.heap.size) (hC : B ≤ C) : OwnFrom C (fun (_ : β) W => Duo g h B w W) :=
  fun _ W _ _ hs hg hr => ⟨hg.os.trans hs.os, hg.tape.trans hs.tape, hg.output.trans hs.output, Nat.le_trans hs.size hg.size, fun k hk h1 h2 => (hg.block k (by have := hs.size; omega) (fun e => by have := (hr k e.symm).1; omega)).trans (hs.block k hk h1 h2)⟩
theorem Duo.of {g h B : Nat} {w W : World} (hb : Below B w W) (u v : Value) : Duo g h B w ((W.setCell ⟨g, 0, none⟩ u).setCell ⟨h, 0, none⟩ v) :=
  ⟨hb.os, hb.tape, hb.output, by simpa using hb.size, fun k hk h1 h2 => ((Below.heap_setCell _ ⟨h, 0, none⟩ v k h2).trans (Below.heap_setCell _ ⟨g, 0, none⟩ u k h1)).trans (hb.block k hk)⟩
theorem Duo.below {g h B C : Nat} {w0 w W : World} (hd : Duo g h B w W) (hb : Below C w0 w) (hC : C ≤ B) (hg : C ≤ g) (hh : C ≤ h) : Below C w0 W :=
  ⟨hd.os.trans hb.os, hd.tape.trans hb.tape, hd.output.trans hb.output, Nat.le_trans hb.size hd.size, fun k hk => (hd.block k (by omega) (by omega) (by omega)).trans (hb.block k hk)⟩
set_option maxRecDepth 100000 in
set_option maxHeartbeats 2000000 in
theorem search_no (L : List (BitVec 64)) (t way : Int) (f p : Nat) (w : World) (hL : LaidC w) (h5 : L.length = 5) (hk : crB L = false) :
    Calls Tryd.prog 26 #[cronV L, .int .i64 t, .int .i64 way, .func (.func f) #[] #[.pointer (some ⟨p, 0, none⟩)]] w fun x w' => x = .returned (.tuple #[.int .i64 0, .bool false]) ∧ Below w.heap.size w w' := by
  have HK := Lib.hid (fun W hW => ccheck_any L W hW h5)
  have he : crE L = 170 := by unfold crE; rw [hk]; rfl
  rw [he] at HK
  obtain ⟨a, b, c, d, e, rfl⟩ := list_five h5
  have HL := Lib.hid hL
  clear hk he hL
  rw [cronV_five] at *
  unfold fiveV at *
  obtain ⟨WB, hWB, hBB, hCB, hFB⟩ : ∃ W : World, W = (w.alloc (.cells #[.int .u64 (U a), .int .u64 (U b), .int .u64 (U c), .int .u64 (U d), .int .u64 (U e)] 25)).alloc (.cells #[.func (.func f) #[] #[.pointer (some ⟨p, 0, none⟩)]] 53) ∧ Below w.heap.size w W ∧ CronAt W w.heap.size [a, b, c, d, e] ∧ D.Box W (w.heap.size + 1) 53 #[.func (.func f) #[] #[.pointer (some ⟨p, 0, none⟩)]] := ⟨_, rfl, ((Below.refl _ w).alloc (Nat.le_refl _) _).alloc (by simp) _, (CronAt.new w a b c d e).alloc _, by have := D.Box.new (w.alloc (.cells #[.int .u64 (U a), .int .u64 (U b), .int .u64 (U c), .int .u64 (U d), .int .u64 (U e)] 25)) 53 #[.func (.func f) #[] #[.pointer (some ⟨p, 0, none⟩)]]; rwa [World.size_alloc] at this⟩
  have HLB := Lib.hid (HL.out.on hBB)
  clear HL
  go_enter Tryd.func26, Tryd.ntmps26
  go_wp2_with fail
  rw [← hWB]
  clear hWB
  obtain ⟨c0, c1, c2, c3, c4⟩ := hCB.five
  go_step3
  go_wp2_with fail
  have HB := Lib.hid hBB
  clear hBB
  refine (HK.out _ HLB.out.fld).mono ?_
  rintro x w1 ⟨rfl, hb⟩
  have HB1 := Lib.hid (HB.out.trans (hb.mono HB.out.size))
  clear hb
  go_wp2_with fail
  rw [Exit.noGoto_ret]
  exact bodyPost_ret (v := .tuple #[.int .i64 0, .bool false]) (by simp [results, Tryd.results26, go_sem]) rfl ⟨rfl, HB1.out⟩
set_option maxRecDepth 100000 in
set_option maxHeartbeats 2000000 in
theorem search_in (n : Nat) (hn : 3 ≤ n) (L : List (BitVec 64)) (t way : Int) (f p : Nat) (P : Int → Bool) (w : World) (hL : LaidC w) (h5 : L.length = 5) (hk : crB L = true) (hway : way = 1 ∨ way = -1)
    (hE : ∀ (args : Array Value) (W : World), (callFunc f args).run Tryd.prog W = .ok (.enter f args) W)
    (hS : ∀ (u : Int) (W : World), Below w.heap.size w W → Calls Tryd.prog f #[.int .i64 u, .pointer (some ⟨p, 0, none⟩)] W fun e w' => e = .returned (.bool (P u)) ∧ w' = W) :
    CallsIn Fence.wide n Tryd.prog 26 #[cronV L, .int .i64 t, .int .i64 way, .func (.func f) #[] #[.pointer (some ⟨p, 0, none⟩)]] w fun x w' => SearchIs L (dayOf t) way (fun u => P u = true) x ∧ Below w.heap.size w w' := by
  have HK := Lib.hid (fun W hW => ccheck_any L W hW h5)
  have he : crE L = 0 := by unfold crE; rw [hk]; rfl
  rw [he] at HK
  obtain ⟨a, b, c, d, e, rfl⟩ := list_five h5
  have HF := Lib.hid (fun W => fitting_any a b c d e W)
  have HL := Lib.hid hL
  have HD := Lib.hid (fun W => dayOf_any t W)
  have hd0 := dayOf_in t
  clear he hL
  rw [cronV_five] at *
  unfold fiveV at *
  generalize dayOf t = first at *
  obtain ⟨WB, hWB, hBB, hCB, hFB⟩ : ∃ W : World, W = (w.alloc (.cells #[.int .u64 (U a), .int .u64 (U b), .int .u64 (U c), .int .u64 (U d), .int .u64 (U e)] 25)).alloc (.cells #[.func (.func f) #[] #[.pointer (some ⟨p, 0, none⟩)]] 53) ∧ Below w.heap.size w W ∧ CronAt W w.heap.size [a, b, c, d, e] ∧ D.Box W (w.heap.size + 1) 53 #[.func (.func f) #[] #[.pointer (some ⟨p, 0, none⟩)]] := ⟨_, rfl, ((Below.refl _ w).alloc (Nat.le_refl _) _).alloc (by simp) _, (CronAt.new w a b c d e).alloc _, by have := D.Box.new (w.alloc (.cells #[.int .u64 (U a), .int .u64 (U b), .int .u64 (U c), .int .u64 (U d), .int .u64 (U e)] 25)) 53 #[.func (.func f) #[] #[.pointer (some ⟨p, 0, none⟩)]]; rwa [World.size_alloc] at this⟩
  have HLB := Lib.hid (HL.out.on hBB)
  refine callsIn_of_wp_marks Tryd.func26 rfl trivial ?_ rfl
  simp only [Tryd.ntmps26, List.size_toArray, List.length_cons, List.length_nil, Nat.reduceAdd, Nat.reduceSub, Array.replicate_succ, Array.replicate_zero, List.push_toArray, List.append_toArray, List.nil_append, List.cons_append]
  gi_wp2_with fail
  rw [← hWB]
  have hsz : WB.heap.size = w.heap.size + 2 := by rw [hWB]; simp
  clear hWB
  have HB := Lib.hid hBB; have HC := Lib.hid hCB; have HX := Lib.hid hFB
  obtain ⟨c0, c1, c2, c3, c4⟩ := hCB.five
  clear hBB hCB hFB h5
  refine scopeIn ?_
  gi_wp2_with fail
  refine ⟨trivial, (fun _ => by omega), (callsIn_wide.2 (HK.out _ HLB.out.fld)).mono ?_⟩
  rintro x w1 ⟨rfl, hb⟩
  have HB1 := Lib.hid (HB.out.trans (hb.mono HB.out.size))
  have HC1 := Lib.hid (HC.out.on hb); have HX1 := Lib.hid (D.Box.belowAll HX.out hb); have HL1 := Lib.hid (HLB.out.on hb)
  have hsz1 : w.heap.size + 2 ≤ w1.heap.size := by have := hb.size; omega
  clear hb HB HC HX HLB HL HK hsz
  gi_wp2_with fail
  refine wpIn_wide.2 ?_
  obtain ⟨c0, c1, c2, c3, c4⟩ := HC1.out.five
  have HALL := Lib.hid (fun (W : World) (hW : Below w1.heap.size w1 W) => (HC1.out.on hW).five)
  have hBE := Below.refl w1.heap.size w1
  go_region_held3 (fun W => W.cell? ⟨w.heap.size, 0, none⟩ = some (.int .u64 (U a)) ∧ W.cell? ⟨w.heap.size, 1, none⟩ = some (.int .u64 (U b)) ∧ W.cell? ⟨w.heap.size, 2, none⟩ = some (.int .u64 (U c)) ∧ W.cell? ⟨w.heap.size, 3, none⟩ = some (.int .u64 (U d)) ∧ W.cell? ⟨w.heap.size, 4, none⟩ = some (.int .u64 (U e))) (first | exact HALL.out _ hBE | exact HALL.out _ hBE.drew | exact HALL.out _ (hBE.alloc hBE.size _) | exact HALL.out _ (hBE.drew.alloc hBE.size _)) (first
    | (go_at_call 45; (with_reducible refine (HD.out _).mono ?_); rintro x w4 ⟨rfl, rfl⟩)
    | (go_at_call 46; (with_reducible refine (HF.out _).mono ?_); rintro x w4 ⟨rfl, rfl⟩))
  all_goals (rename_i hheld; clear hheld)
  clear c0 c1 c2 c3 c4 HALL hBE HF HD
  gi_wp2_with fail
  refine labelIn ?_
  gi_wp2_with fail
  obtain ⟨w2, hw2, hB2, hbf, hbo, hbc, hs2⟩ : ∃ W : World, W = (((w1.alloc (.cells #[.int .u64 (U a), .int .u64 (U b), .int .u64 (U c), .int .u64 (U d), .int .u64 (U e)] 25)).alloc (.cells #[.int .i64 0] 2)).alloc (.cells #[.bool false] 4)).drew ∧ Below w1.heap.size w1 W ∧ D.Box W (w1.heap.size + 1) 2 #[.int .i64 0] ∧ D.Box W (w1.heap.size + 1 + 1) 4 #[.bool false] ∧ CronAt W w1.heap.size [a, b, c, d, e] ∧ W.heap.size = w1.heap.size + 3 := by
    refine ⟨_, rfl, ((((Below.refl _ w1).alloc (Nat.le_refl _) _).alloc (by simp) _).alloc (by simp; omega) _).drew, ?_, ?_, ?_, by simp⟩
    · show D.Box ((w1.alloc _).alloc _ |>.alloc _) _ _ _
      have := (D.Box.new (w1.alloc (.cells #[.int .u64 (U a), .int .u64 (U b), .int .u64 (U c), .int .u64 (U d), .int .u64 (U e)] 25)) 2 #[.int .i64 0]).alloc (.cells #[.bool false] 4)
      rwa [World.size_alloc] at this
    · have := (D.Box.new ((w1.alloc (.cells #[.int .u64 (U a), .int .u64 (U b), .int .u64 (U c), .int .u64 (U d), .int .u64 (U e)] 25)).alloc (.cells #[.int .i64 0] 2)) 4 #[.bool false])
      rwa [World.size_alloc, World.size_alloc] at this
    · exact ((CronAt.new w1 a b c d e).alloc _).alloc _
  rw [← hw2]
  have HB2 := Lib.hid (HB1.out.trans (hB2.mono HB1.out.size)); have HBF := Lib.hid hbf; have HBO := Lib.hid hbo; have HCF := Lib.hid hbc
  have HC2 := Lib.hid (HC1.out.on hB2); have HX2 := Lib.hid (D.Box.belowAll HX1.out hB2); have HL2 := Lib.hid (HL1.out.on hB2)
  have hlo : w.heap.size + 2 + 3 ≤ w2.heap.size := by omega
  have hsz2 : w1.heap.size + 1 + 1 < w2.heap.size := by omega
  clear hw2 hB2 hbf hbo hbc HC1 HX1 HL1 HB1 hs2 c0 c1 c2 c3 c4
  refine wpIn_loop (fun a' wr => ∃ u14 u15 u16 u17 u26 u27 u28 u29 u30 u31 u32 u33 u34 u35 u36 u37 u38 u39 u40 u41 u42 u43 u44 u45 u46 u47 u48 u49 : Value, ∃ (k : Nat) (ls : List Nat), (k ≤ 2923 ∧ NoneTo [a, b, c, d, e] first way (fun u => P u = true) k ∧ Marks w2.heap.size ls wr ∧ Below w2.heap.size w2 wr) ∧ a' = { tmps := #[(.agg #[.int .u64 (U a), .int .u64 (U b), .int .u64 (U c), .int .u64 (U d), .int .u64 (U e)]), .int .i64 t, .int .i64 way, (.func (.func f) #[] #[.pointer (some ⟨p, 0, none⟩)]), .pointer (some ⟨w.heap.size, 0, none⟩), undef, undef, .pointer (some ⟨w.heap.size + 1, 0, none⟩), .int .i64 0, .bool false, .int .i64 first, (.func (.func 75) #[] #[.pointer (some ⟨w1.heap.size, 0, none⟩)]), .pointer (some ⟨w1.heap.size + 1, 0, none⟩), .pointer (some ⟨w1.heap.size + 1 + 1, 0, none⟩), u14, u15, u16, u17, (.agg #[.int .u64 (U a), .int .u64 (U b), .int .u64 (U c), .int .u64 (U d), .int .u64 (U e)]), .int .i64 0, .bool false, .int .i64 t, .int .i64 first, (.agg #[.int .u64 (U a), .int .u64 (U b), .int .u64 (U c), .int .u64 (U d), .int .u64 (U e)]), (.func (.func 75) #[] #[.pointer (some ⟨w1.heap.size, 0, none⟩)]), .int .i64 (k : Int), u26, u27, u28, u29, u30, u31, u32, u33, u34, u35, u36, u37, u38, u39, u40, u41, u42, u43, u44, u45, u46, u47, u48, u49, undef, undef], defers := ls.map mark }) (fun a' _ => 2923 - (intOf (a'.tmps.getD 25 undef)).toNat) ?start ?round
  case start => exact ⟨_, _, _, _, _, _, _, _, _, _, _, _, _, _, _, _, _, _, _, _, _, _, _, _, _, _, _, _, 0, [], ⟨by omega, NoneTo.zero, ⟨List.nodup_nil, fun D hD => by cases hD⟩, Below.refl _ _⟩, rfl⟩
  case round =>
    rintro a' wr ⟨u14, u15, u16, u17, u26, u27, u28, u29, u30, u31, u32, u33, u34, u35, u36, u37, u38, u39, u40, u41, u42, u43, u44, u45, u46, u47, u48, u49, k, ls, ⟨hk1, hnone, hmarks, hx⟩, rfl⟩
    by_cases hlt : k < 2923
    · have hq : ∃ q : Int, way * (k : Int) = q ∧ -2922 ≤ q ∧ q ≤ 2922 := ⟨way * k, rfl, by rcases hway with rfl | rfl <;> omega, by rcases hway with rfl | rfl <;> omega⟩
      obtain ⟨q, hq, hq0, hq1⟩ := hq
      have HN := Lib.hid hnone; have HMK := Lib.hid hmarks; have HX := Lib.hid hx
      have HFIT := Lib.hid (fit1_any [a, b, c, d, e] (first + q) w1.heap.size wr (HL2.out.on hx) (HCF.out.on hx) hk)
      obtain ⟨c0, c1, c2, c3, c4⟩ := (HC2.out.on hx).five
      clear hnone hmarks hx
      gi_wp2_with fail
      refine ⟨trivial, (fun _ => by omega), (callsIn_wide.2 HFIT.out).mono ?_⟩
      rintro x w3 ⟨y, m, dd, z, rfl, hb, hz⟩
      have HX3 := Lib.hid (HX.out.trans (hb.mono HX.out.size)); have HMK3 := Lib.hid (HMK.out.on hb)
      clear hb HFIT c0 c1 c2 c3 c4 HMK HX
      obtain ⟨w4, hw4, hb4, hbd⟩ : ∃ W : World, W = w3.alloc (.cells #[.int .i64 y, .int .i64 m, .int .i64 dd] 56) ∧ Below w3.heap.size w3 W ∧ D.Box W w3.heap.size 56 #[.int .i64 y, .int .i64 m, .int .i64 dd] := ⟨_, rfl, (Below.refl _ w3).alloc (Nat.le_refl _) _, D.Box.new _ _ _⟩
      have HX4 := Lib.hid (HX3.out.trans (hb4.mono HX3.out.size)); have HMK4 := Lib.hid (HMK3.out.on hb4); have HBD := Lib.hid hbd
      have HL4 := Lib.hid (HL2.out.on HX4.out)
      obtain ⟨c0, c1, c2, c3, c4⟩ := (HC2.out.on HX3.out).five
      have hn3 : w.heap.size < w3.heap.size := by have := HX3.out.size; omega
      have hm3 := Nat.ne_of_lt hn3
      clear hb4 hbd HX3 HMK3
      rcases hz with ⟨rfl, hr, hnum, hok⟩ | ⟨rfl, hno⟩
      · have HT := Lib.hid (timesOf_any a b c d e y m dd way w4 HL4.out)
        gi_wp2_with fail
        rw [← hw4]
        refine ⟨trivial, (fun _ => by omega), (callsIn_wide.2 HT.out).mono ?_⟩
        rintro x w5 ⟨H, M, vh, vm, rfl, htw, hdt, hb⟩
        have HX5 := Lib.hid (HX4.out.trans (hb.mono HX4.out.size)); have HMK5 := Lib.hid (HMK4.out.on hb)
        have HIT := Lib.hid (htw.at_ hdt)
        have HL5 := Lib.hid (HL4.out.on hb)
        clear htw hdt hb HT HMK4 HX4 HL4 HBD hw4 c0 c1 c2 c3 c4 hn3 hm3
        gi_wp2_with fail
        have h1 : 1 ≤ n := by omega
        have hLL : ∀ z : Int, dayL [a, b, c, d, e] z = onW (ints b) (ints a) z := fun z => rfl
        have hw5 : w2.heap.size ≤ w5.heap.size := HX5.out.size
        refine wpIn_rangeFunc_ownF rfl h1 (gf := 78) (lb := #[.pointer (some ⟨w4.heap.size + 1, 0, none⟩), .pointer (some ⟨H, 0, none⟩), .pointer (some ⟨M, 0, none⟩)]) rfl trivial (enters_of Tryd.func78 (by kernel_rfl) rfl)
          (times_stops (n - 1) (by omega) (w4.heap.size + 1) H M y m dd (wayL way (ints b)) (wayL way (ints a)) w5 HIT.out HL5.out.days hr (fun h hh => hour_in hk (mem_wayL.1 hh)) (fun h hh => min_in hk (mem_wayL.1 hh)) (by rw [wayL_len]; exact ints_64 b) (by rw [wayL_len]; exact ints_64 a)) belowK_t (belowK_b (Nat.le_refl _)) (Below.refl _ _) (fun _ => rfl)
          (fun (pre : List Int) W => (∀ u ∈ pre, ¬ P u = true) ∧ Below w5.heap.size w5 W)
          (fun c (pre : List Int) W => (c = .exit 0 ∧ ∃ (pre' : List Int) (u : Int), pre = pre' ++ [u] ∧ (∀ v ∈ pre', ¬ P v = true) ∧ P u = true ∧ D.Box W (w1.heap.size + 1) 2 #[.int .i64 u] ∧ D.Box W (w1.heap.size + 1 + 1) 4 #[.bool true]) ∧ Duo (w1.heap.size + 1) (w1.heap.size + 1 + 1) w5.heap.size w5 W)
          (OwnFrom.and (Own.from (fun s A B row hs hg hr => hs) _) (ownFrom_below (Nat.le_refl _) (Nat.le_refl _)))
          (fun c => OwnFrom.and (Own.from (fun s A B row hs hg hr => by
            obtain ⟨hc, pre', u, h1, h2, h3, h4, h5⟩ := hs
            exact ⟨hc, pre', u, h1, h2, h3, box_kept h4 hg hr, box_kept h5 hg hr⟩) _) (ownFrom_duo (Nat.le_refl _) (Nat.le_refl _)))
          ⟨(fun u hu => by cases hu), Below.refl _ _⟩
          (fun x => { tmps := #[(.agg #[.int .u64 (U a), .int .u64 (U b), .int .u64 (U c), .int .u64 (U d), .int .u64 (U e)]), .int .i64 t, .int .i64 way, (.func (.func f) #[] #[.pointer (some ⟨p, 0, none⟩)]), .pointer (some ⟨w.heap.size, 0, none⟩), undef, undef, .pointer (some ⟨w.heap.size + 1, 0, none⟩), .int .i64 0, .bool false, .int .i64 first, (.func (.func 75) #[] #[.pointer (some ⟨w1.heap.size, 0, none⟩)]), .pointer (some ⟨w1.heap.size + 1, 0, none⟩), .pointer (some ⟨w1.heap.size + 1 + 1, 0, none⟩), .int .i64 (k : Int), .pointer (some ⟨w3.heap.size, 0, none⟩), .bool true, .int .i64 x, (.agg #[.int .u64 (U a), .int .u64 (U b), .int .u64 (U c), .int .u64 (U d), .int .u64 (U e)]), .int .i64 0, .bool false, .int .i64 t, .int .i64 first, (.agg #[.int .u64 (U a), .int .u64 (U b), .int .u64 (U c), .int .u64 (U d), .int .u64 (U e)]), (.func (.func 75) #[] #[.pointer (some ⟨w1.heap.size, 0, none⟩)]), .int .i64 (k : Int), .bool true, .int .i64 (k : Int), (.tuple #[(.agg #[.int .i64 y, .int .i64 m, .int .i64 dd]), .bool true]), (.func (.func 75) #[] #[.pointer (some ⟨w1.heap.size, 0, none⟩)]), .int .i64 first, .int .i64 way, .int .i64 (k : Int), .int .i64 q, .int .i64 (first + q), (.tuple #[(.agg #[.int .i64 y, .int .i64 m, .int .i64 dd]), .bool true]), (.agg #[.int .i64 y, .int .i64 m, .int .i64 dd]), .bool true, .bool true, .bool false, (.agg #[.int .u64 (U a), .int .u64 (U b), .int .u64 (U c), .int .u64 (U d), .int .u64 (U e)]), (.agg #[.int .i64 y, .int .i64 m, .int .i64 dd]), .int .i64 way, (.func (.func 78) #[] #[.pointer (some ⟨w4.heap.size + 1, 0, none⟩), .pointer (some ⟨H, 0, none⟩), .pointer (some ⟨M, 0, none⟩)]), .int .i64 x, u45, u46, u47, u48, u49, undef, undef], defers := [] }) ?assign ?body ?done ?stop
        case assign =>
          intro l x W K hK
          gi_wp2
          exact hK
        case body =>
          rintro l pre x W ⟨hpre, hB⟩ _
          have HPRE := Lib.hid hpre; have HBW := Lib.hid hB
          have HXW := Lib.hid (HX5.out.trans (hB.mono hw5))
          have hSx := hS x W (HB2.out.trans (HXW.out.mono HB2.out.size))
          obtain ⟨e0, f0⟩ := (D.Box.belowAll HX2.out HXW.out).one
          obtain ⟨e1, f1⟩ := (D.Box.belowAll HBF.out HXW.out).one
          obtain ⟨e2, f2⟩ := (D.Box.belowAll HBO.out HXW.out).one
          clear hpre hB
          cases hpx : P x with
          | true =>
            rw [hpx] at hSx
            have HSx := Lib.hid hSx
            clear hSx
            gi_wp2_with fail
            refine ⟨trivial, (fun _ => by omega), (CallsIn.inRound l (callsIn_wide.2 HSx.out)).mono ?_⟩
            rintro e W2 ⟨rfl, rfl⟩
            gi_wp2_with fail
            have hb1 := D.Box.belowAll HBF.out HXW.out
            have hb2 := D.Box.belowAll HBO.out HXW.out
            exact ⟨(KeepsOthers.setCell _ _ _).trans (KeepsOthers.setCell _ _ _), ⟨rfl, pre, x, rfl, HPRE.out, hpx, box_far (box_one hb1 _) (by omega) _, box_one (box_far hb2 (by omega) _) _⟩, Duo.of HBW.out _ _⟩
          | false =>
            rw [hpx] at hSx
            have HSx := Lib.hid hSx
            clear hSx
            gi_wp2_with fail
            refine ⟨trivial, (fun _ => by omega), (CallsIn.inRound l (callsIn_wide.2 HSx.out)).mono ?_⟩
            rintro e W2 ⟨rfl, rfl⟩
            gi_wp2_with fail
            refine ⟨KeepsOthers.refl _, Below.refl _ _, fun u hu => ?_, HBW.out⟩
            rcases List.mem_append.1 hu with hu | hu
            · exact HPRE.out u hu
            · rw [List.mem_singleton] at hu
              rw [hu, hpx]; simp
        case done =>
          rintro D ys W hD rfl ⟨hall, hB⟩ hK
          rw [wayL_on, hnum] at hall
          have hall2 : ∀ u ∈ dayL [a, b, c, d, e] (first + q), ¬ P u = true := fun u hu => hall u (mem_wayL.2 hu)
          have HALL2 := Lib.hid hall2; have HB5 := Lib.hid (HX5.out.trans (hB.mono hw5)); have HK5 := Lib.hid hK
          have HMK6 := Lib.hid (HMK5.out.cons (w' := W) (fun i hi => hB.block i (Array.getElem?_eq_some_iff.1 (HMK5.out.2 i hi).2).1) hD (Nat.le_trans hw5 hD) hK)
          clear hall hall2 hB hK
          gi_wp2_with fail
          refine ⟨⟨_, _, _, _, _, _, _, _, _, _, _, _, _, _, _, _, _, _, _, _, _, _, _, _, _, _, _, _, k + 1, D :: ls, ⟨by omega, HN.out.succ (fun _ => by rw [hq]; exact HALL2.out), HMK6.out, HB5.out⟩, rfl⟩, ?_⟩
          simp [intOf]
          omega
        case stop =>
          rintro D c pre W hD hpre ⟨⟨rfl, pre', u, rfl, hne, hpu, hbf, hbo⟩, hduo⟩ hK
          rw [wayL_on, hnum] at hpre
          have HPR := Lib.hid hpre; have HNE := Lib.hid hne; have HDU := Lib.hid hduo
          have HMK6 := Lib.hid (HMK5.out.cons (w' := W) (fun i hi => hduo.block i (Array.getElem?_eq_some_iff.1 (HMK5.out.2 i hi).2).1 (by have := (HMK5.out.2 i hi).1; omega) (by have := (HMK5.out.2 i hi).1; omega)) hD (Nat.le_trans hw5 hD) hK)
          have hwb : w.heap.size ≤ w5.heap.size := by omega
          have HB6 : Hid (Below w.heap.size w W) := Lib.hid (hduo.below (HB2.out.trans (HX5.out.mono HB2.out.size)) hwb (by omega) (by omega))
          obtain ⟨e1, f1⟩ := hbf.one
          obtain ⟨e2, f2⟩ := hbo.one
          clear hpre hne hduo hK hbf hbo
          gi_wp2_with fail
          refine wpIn_wide.2 ?_
          go_region
          gi_wp2_with fail
          rw [Exit.noGoto_ret]
          refine leaves_marks (w0 := w) (M := w2.heap.size) (by omega) (D :: ls) _ HMK6.out HB6.out.drew (fun w' hb => ⟨.tuple #[.int .i64 u, .bool true], by simp [results, Tryd.f26, go_sem], .inl ⟨k, u, by omega, HN.out, ?_, rfl⟩, hb⟩)
          obtain ⟨post, hpost⟩ := HPR.out
          unfold Hit
          rw [hq]
          exact ⟨hok, hpu, pre', post, by rw [← hLL] at hpost; rw [← hpost]; simp, HNE.out⟩
      · have HNO := Lib.hid (fun h => hno (hq ▸ h : DayOk [a, b, c, d, e] (first + q)))
        clear hno
        gi_wp2_with fail
        rw [← hw4]
        refine ⟨⟨_, _, _, _, _, _, _, _, _, _, _, _, _, _, _, _, _, _, _, _, _, _, _, _, _, _, _, _, k + 1, ls, ⟨by omega, HN.out.succ (fun h => absurd (hq ▸ h) HNO.out), HMK4.out, HX4.out⟩, rfl⟩, ?_⟩
        simp [intOf]
        omega
    · have hk2 : k = 2923 := by omega
      subst hk2
      have HN := Lib.hid hnone; have HMK := Lib.hid hmarks; have HX := Lib.hid hx
      obtain ⟨e1, f1⟩ := (D.Box.belowAll HBF.out HX.out).one
      obtain ⟨e2, f2⟩ := (D.Box.belowAll HBO.out HX.out).one
      clear hnone hmarks hx
      gi_wp2_with fail
      refine wpIn_wide.2 ?_
      go_region
      gi_wp2_with fail
      rw [Exit.noGoto_ret]
      exact leaves_marks (w0 := w) (M := w2.heap.size) (by omega) ls _ HMK.out (HB2.out.trans (HX.out.mono HB2.out.size)).drew (fun w' hb => ⟨.tuple #[.int .i64 0, .bool false], by simp [results, Tryd.f26, go_sem], .inr ⟨HN.out, rfl⟩, hb⟩)
end Go.Proofs.YtkimbmifabpppaaDoor
