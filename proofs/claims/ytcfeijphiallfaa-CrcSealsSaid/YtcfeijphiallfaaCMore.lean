/- More and Sum. -/
import Derived.Test.YtcfeijphiallfaaCAdd
namespace Go.Proofs.Ytcfeijphiallfaa
open Go.RowKit

theorem raw_take_next (it : Nat) (bs : List Nat) (k : Nat) (h : k < bs.length) : raw it (bs.take (k + 1)) = eN 8 (raw it (bs.take k) ^^^ nthB bs k) := by
  rw [take_next (by omega), raw_snoc]
theorem byte_at {bs : List Nat} (h : ∀ x ∈ bs, x < 256) {k : Nat} (hk : k < bs.length) : nthB bs k < 256 := by
  unfold nthB; rw [List.getD_eq_getElem?_getD, List.getElem?_eq_getElem hk]; exact h _ (List.getElem_mem hk)
theorem raw_take_lt {it : Nat} {bs : List Nat} (k : Nat) (hit : it < 4294967296) (h : ∀ x ∈ bs, x < 256) : raw it (bs.take k) < 4294967296 :=
  raw_lt (show it < 2 ^ 32 from hit) (fun c hc => h c (List.mem_of_mem_take hc))
set_option maxHeartbeats 1000000 in
theorem each_any (A : Option Addr) (n c B g it : Nat) (bs : List Nat) (w : World) (h : RowB w B A n c bs) (hB : B ≤ g) (hb : Box w g 44 (runC it)) (hit : it < 4294967296) :
    Calls Try.prog 23 #[.slice A n c, .func (.func 24) #[.pointer (some ⟨g, 0, none⟩)] #[]] w fun e w' => e = .returned (.tuple #[]) ∧ Below g w w' ∧ Box w' g 44 (runC (raw it bs)) := by
  have hn : n ≤ 9223372036854775807 := by have := h.cap; have := h.top; unfold maxLen at this; omega
  have hx := h.len
  have hby := h.byte
  have H := Lib.hid h
  have Hb := Lib.hid hb
  clear h hb
  go_enter Try.func23, Try.ntmps23
  go_wp2_with fail
  go_loopw [8] (fun i wr => ∃ k : Nat, k ≤ n ∧ i = .int .i64 k ∧ Below g w wr ∧ Box wr g 44 (runC (raw it (bs.take k)))) (fun i _ => n - (intOf i).toNat)
  case atStart => exact ⟨0, Nat.zero_le _, rfl, Below.refl _ _, by simpa [raw] using Hb.out⟩
  case round =>
    obtain ⟨k, hk, rfl, hbel, hbox⟩ := hrel
    have Hbel := Lib.hid hbel; have Hbox := Lib.hid hbox
    clear hbel hbox
    by_cases hlt : k < n
    · have hr := H.out.below (Hbel.out.mono hB)
      obtain ⟨b1, o1, rfl, hl1, c1⟩ := hr.at_ k hlt
      have hb1 := byte_at hby (show k < bs.length by omega)
      have hraw := raw_take_lt k hit hby
      have hnext := raw_take_next it bs k (by omega)
      have Hnext := Lib.hid hnext
      unfold bv at c1
      clear hr hnext
      generalize nthB bs k = x at *
      generalize raw it (bs.take k) = y at *
      have HX := Lib.hid hx; have HY := Lib.hid hby
      clear hx hby
      have h0 : (0 : Int) ≤ (k : Int) := by omega
      have h1 : (k : Int) < (n : Int) := by omega
      go_wp2_with fail
      refine (add_any g y x wr Hbox.out hraw hb1).mono ?_; rintro e w2 ⟨rfl, q, rfl⟩
      have hbel2 : Below g w ((wr.setCell ⟨g, 0, none⟩ (u32v (eN 8 (y ^^^ x)))).drewN q) := below_drew (Hbel.out.setCell (p := ⟨g, 0, none⟩) (Nat.le_refl _) _) q
      have hbox2 : Box ((wr.setCell ⟨g, 0, none⟩ (u32v (eN 8 (y ^^^ x)))).drewN q) g 44 (runC (eN 8 (y ^^^ x))) := by
        have := (Hbox.out.set 0 (u32v (eN 8 (y ^^^ x)))).drewN q
        rwa [runC_set] at this
      have Hbel2 := Lib.hid hbel2; have Hbox2 := Lib.hid hbox2
      clear hbel2 hbox2 c1
      generalize (wr.setCell ⟨g, 0, none⟩ (u32v (eN 8 (y ^^^ x)))).drewN q = w3 at *
      go_wp2_with fail
      go_roundw
      case rel => exact ⟨k + 1, by omega, by go_num, Hbel2.out, by rw [Hnext.out]; exact Hbox2.out⟩
      case measure => simp [intOf]; omega
    · obtain rfl : k = n := by omega
      clear hby
      have HX := Lib.hid hx
      clear hx
      go_wp2_with fail
      go_end0
      exact ⟨rfl, Hbel.out, by have := Hbox.out; rwa [List.take_of_length_le (by rw [HX.out]; omega)] at this⟩

theorem not_u32 (x : Nat) (h : x < 4294967296) : x ^^^ 4294967295 = 4294967295 - x := by
  have e := congrArg BitVec.toNat (BitVec.xor_allOnes (x := BitVec.ofNat 32 x))
  rw [BitVec.toNat_xor, BitVec.toNat_not, BitVec.toNat_ofNat, BitVec.toNat_allOnes, Nat.mod_eq_of_lt h] at e
  simpa using e
theorem fill_fold (o : Nat) (T : List Value) : ∀ (zr : Array Value), o + T.length ≤ zr.size → ∀ j, (List.foldl (fun (cs : Array Value) (x : Value × Nat) => cs.setIfInBounds (1 + x.2) x.1) zr (T.zipIdx o))[j]? = if 1 + o ≤ j ∧ j < 1 + o + T.length then (if j < zr.size then T[j - (1 + o)]? else none) else zr[j]? := by
  induction T generalizing o with
  | nil => intro zr _ j; rw [List.zipIdx_nil, List.foldl_nil, if_neg (by simp)]
  | cons x T ih =>
    intro zr h j
    simp only [List.length_cons] at h
    rw [List.zipIdx_cons, List.foldl_cons, ih (o + 1) _ (by simp; omega) j]
    simp only [List.length_cons, Array.size_setIfInBounds, Array.getElem?_setIfInBounds]
    by_cases h1 : 1 + o = j
    · subst h1
      rw [if_neg (by omega), if_pos rfl, if_pos (show 1 + o ≤ 1 + o ∧ 1 + o < 1 + o + (T.length + 1) by omega)]
      try simp
    · by_cases h2 : 1 + o ≤ j ∧ j < 1 + o + (T.length + 1)
      · rw [if_pos (show 1 + (o + 1) ≤ j ∧ j < 1 + (o + 1) + T.length by omega), if_pos h2]
        rw [show j - (1 + o) = (j - (1 + (o + 1))) + 1 by omega, List.getElem?_cons_succ]
      · rw [if_neg (show ¬ (1 + (o + 1) ≤ j ∧ j < 1 + (o + 1) + T.length) by omega), if_neg h2, if_neg h1]
theorem run_fold (v : Value) (zr T : Array Value) (hz : zr.size = 1 + T.size) :
    Array.foldl (fun (cs : Array Value) (x : Value × Nat) => cs.setIfInBounds (1 + x.2) x.1) (zr.setIfInBounds 0 v) T.zipIdx 0 T.size = #[v] ++ T := by
  apply Array.ext_getElem?
  intro j
  rw [show T.size = T.zipIdx.size by simp, ← Array.foldl_toList]
  have := fill_fold 0 T.toList (zr.setIfInBounds 0 v) (by simp; omega) j
  simp only [Array.toList_zipIdx] 
  rw [this]
  simp only [Array.size_setIfInBounds, Array.getElem?_setIfInBounds, Array.length_toList]
  by_cases h0 : j = 0
  · subst h0; rw [if_neg (by omega), if_pos rfl, if_pos (by omega), Array.getElem?_append_left (by simp)]; try rfl
  · rw [Array.getElem?_append_right (by simp; omega)]
    by_cases hj : j < 1 + T.size
    · rw [if_pos (by omega), if_pos (by omega)]; simp
    · rw [if_neg (by omega), if_neg (by omega), Array.getElem?_eq_none (by omega), Array.getElem?_eq_none (by simp; omega)]
theorem take_one (zr : Array Value) (v : Value) (h : 0 < zr.size) : (zr.setIfInBounds 0 v).toList.take 1 = [v] := by
  rw [Array.toList_setIfInBounds]
  cases h2 : zr.toList with
  | nil => have := congrArg List.length h2; rw [Array.length_toList, List.length_nil] at this; omega
  | cons x l => simp
theorem zero_run : ∃ zr : Array Value, zr.size = 257 ∧ (∀ w, (zeroValue 44).run Try.prog w = .ok (.agg zr) w) ∧ (Try.prog.info? 44).map (·.size) = some 257 := by
  obtain ⟨hz, hi⟩ := zero_of_info (P := Try.prog) (t := 44) (v := .agg (Array.replicate 257 (.int .u32 0))) (n := 257) (by kernel_rfl)
  exact ⟨_, by simp, hz, hi⟩
set_option maxHeartbeats 1000000 in
set_option maxRecDepth 100000 in
theorem more_any (s : Nat) (A : Option Addr) (n c : Nat) (bs : List Nat) (w : World) (h : RowB w w.heap.size A n c bs) (hs : s < 4294967296) :
    Calls Try.prog 10 #[.int .u32 (s : Int), .slice A n c] w fun e w' => e = .returned (.int .u32 (moreOf s bs : Nat)) ∧ Below w.heap.size w w' := by
  have H := Lib.hid h
  clear h
  obtain ⟨zr, hzs, hzr, hzi⟩ := zero_run
  have HZI := Lib.hid hzi
  clear hzi
  have hzn : zr ≠ #[] := by intro e; rw [e] at hzs; simp at hzs
  have htn : (tabK 256).size = 256 := tabK_size 256
  have hfold := fun v => run_fold v zr (tabK 256) (by rw [hzs, htn])
  rw [htn] at hfold
  have hxor : bits .xor .u32 IntKind.u32.max (s : Int) = ((s ^^^ 4294967295 : Nat) : Int) := by
    rw [show IntKind.u32.max = ((4294967295 : Nat) : Int) by rfl, u32_xor_nat _ _ (by omega) hs, Nat.xor_comm]
  have hs1 : s ^^^ 4294967295 < 4294967296 := Nat.xor_lt_two_pow (n := 32) hs (by decide)
  obtain ⟨s1, he1⟩ : ∃ s1, s1 = s ^^^ 4294967295 := ⟨_, rfl⟩
  rw [← he1] at hxor hs1
  have HE1 := Lib.hid he1
  clear he1
  have hmf : ∀ (fn : Fn) (first cap : Array Value) (w : World), (Instr.makeFunc fn first cap).run Try.prog w = .ok (.func fn first cap) w := fun _ _ _ _ => rfl
  go_enter Try.func10, Try.ntmps10
  go_wp2_with fail
  refine (table_any w).mono ?_; rintro e w1 ⟨rfl, hb1⟩
  have Hb1 := Lib.hid hb1
  clear hb1
  go_wp2_with fail
  have hst := run_storeCells_from (P := Try.prog) w1.heap.size 44 (tabK 256).toList 1 (zr.setIfInBounds 0 (.int .u32 (s1 : Int))) (w1.alloc (.cells (zr.setIfInBounds 0 (.int .u32 (s1 : Int))) 44)) (heap_alloc_last w1 _) (by simp [hzs, htn]) (fun v hv => (Array.all_eq_true_iff_forall_mem.1 (tabK_one 256)) v (by simpa using hv))
  have hrow : ((zr.setIfInBounds 0 (.int .u32 (s1 : Int))).toList.take 1 ++ (tabK 256).toList).toArray = runC s1 := by
    unfold runC u32v
    apply Array.toList_inj.1
    rw [take_one _ _ (by omega)]; simp
  rw [hrow, World.setRow_alloc_new] at hst
  simp only [hst, Result.andThen_ok]
  rw [Oper.upon_skip]
  have hbel : Below w.heap.size w (w1.alloc (.cells (runC s1) 44)) := gr_alloc Hb1.out _
  have hbox : Box (w1.alloc (.cells (runC s1) 44)) w1.heap.size 44 (runC s1) := Box.new _ _ _
  have hle : w.heap.size ≤ w1.heap.size := Hb1.out.size
  have hrow2 := H.out.below hbel
  have HB := Lib.hid hbel; have HX := Lib.hid hbox; have HR := Lib.hid hrow2; have HL := Lib.hid hle
  clear hst hrow hbel hbox hrow2 hle hfold hzr
  generalize w1.alloc (.cells (runC s1) 44) = w2 at *
  go_wp2_with fail
  refine (each_any A n c w.heap.size w1.heap.size s1 bs w2 HR.out HL.out HX.out hs1).mono ?_; rintro e w3 ⟨rfl, hb3, hx3⟩
  have hraw : raw s1 bs < 4294967296 := raw_lt (show s1 < 2 ^ 32 from hs1) HR.out.byte
  have hxor2 : bits .xor .u32 IntKind.u32.max (raw s1 bs : Nat) = ((raw s1 bs ^^^ 4294967295 : Nat) : Int) := by
    rw [show IntKind.u32.max = ((4294967295 : Nat) : Int) by rfl, u32_xor_nat _ _ (by omega) hraw, Nat.xor_comm]
  have hc0 := (hx3.cell 0).trans (runC_zero _)
  have HB3 := Lib.hid (HB.out.trans (hb3.mono HL.out))
  clear hb3 hx3 hxor
  unfold u32v at hc0
  have hres : moreOf s bs = raw s1 bs ^^^ 4294967295 := by unfold moreOf; rw [HE1.out]
  rw [← hres] at hxor2
  clear hres
  generalize raw s1 bs = y at *
  go_wp2_with fail
  go_ret
  exact ⟨rfl, HB3.out⟩
set_option maxHeartbeats 1000000 in
theorem sum_any (A : Option Addr) (n c : Nat) (bs : List Nat) (w : World) (h : RowB w w.heap.size A n c bs) :
    Calls Try.prog 11 #[.slice A n c] w fun e w' => e = .returned (.int .u32 (sumOf bs : Nat)) ∧ Below w.heap.size w w' := by
  have H := Lib.hid h
  clear h
  go_enter Try.func11, Try.ntmps11
  go_wp2_with fail
  refine (more_any 0 A n c bs w H.out (by omega)).mono ?_; rintro e w1 ⟨rfl, hb1⟩
  rw [more_zero]
  go_wp2_with fail
  go_ret
  exact ⟨rfl, hb1⟩
end Go.Proofs.Ytcfeijphiallfaa
