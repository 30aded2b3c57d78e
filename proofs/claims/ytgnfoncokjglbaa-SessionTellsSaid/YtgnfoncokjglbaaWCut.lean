/- Where a client's place is: the closures, the cut: walked. -/
import Derived.Test.YtgnfoncokjglbaaWVar
namespace Go.Proofs.Ytgnfoncokjglbaa
open Go.RowKit

set_option maxRecDepth 100000 in
set_option maxHeartbeats 1000000 in
theorem least1_any (x : SesZ) (v : Value) (gx : Nat) (a : Int) (w : World) (hl : gx < w.heap.size) (hc : w.cell? ⟨gx, 0, none⟩ = some (.int .i64 a)) :
    Calls Try.prog 39 #[.agg #[.int .i64 x.cl, .int .u64 x.seq, .int .i64 x.rep.err, v], .pointer (some ⟨gx, 0, none⟩)] w fun e w' => e = .returned (.bool (decide (a ≤ x.cl))) ∧ Below w.heap.size w w' := by
  obtain ⟨xc, xq, xe, xn⟩ := x
  simp only
  have hB := Lib.hid (new_below w (.cells #[.int .i64 xc, .int .u64 xq, .int .i64 xe, v] 42))
  have hc2 : (w.alloc (.cells #[.int .i64 xc, .int .u64 xq, .int .i64 xe, v] 42)).cell? ⟨gx, 0, none⟩ = some (.int .i64 a) := (hB.out.cell (p := ⟨gx, 0, none⟩) hl).trans hc
  clear hc
  go_enter Try.func39, Try.ntmps39
  go_wp2_with fail
  go_ret
  exact ⟨rfl, hB.out⟩
/-- How many rows stand ahead of that client's place. -/
def aheadN (a : Int) (l : List SesZ) : Nat := (l.takeWhile (fun y => decide (y.cl < a))).length
theorem aheadN_le (a : Int) (l : List SesZ) : aheadN a l ≤ l.length := by
  have h := congrArg List.length (List.takeWhile_append_dropWhile (p := fun y : SesZ => decide (y.cl < a)) (l := l))
  rw [List.length_append] at h
  unfold aheadN
  omega
theorem aheadN_at {a : Int} : ∀ {l : List SesZ} {k : Nat} {x : SesZ}, (∀ y ∈ l.take k, y.cl < a) → l[k]? = some x → a ≤ x.cl → aheadN a l = k
  | [], k, x, _, h, _ => by simp at h
  | z :: l, 0, x, _, h, hx => by
    simp at h
    subst h
    unfold aheadN
    rw [List.takeWhile_cons_of_neg (by simp; omega)]
    rfl
  | z :: l, k + 1, x, hh, h, hx => by
    have hz : z.cl < a := hh z (by simp)
    have := aheadN_at (a := a) (l := l) (k := k) (x := x) (fun y hy => hh y (by simp [hy])) (by simpa using h) hx
    unfold aheadN at this ⊢
    rw [List.takeWhile_cons_of_pos (by simp; omega), List.length_cons, this]
theorem aheadN_all {a : Int} : ∀ {l : List SesZ}, (∀ y ∈ l, y.cl < a) → aheadN a l = l.length
  | [], _ => rfl
  | z :: l, h => by
    have := aheadN_all (a := a) (l := l) (fun y hy => h y (by simp [hy]))
    have hz := h z (by simp)
    unfold aheadN at this ⊢
    rw [List.takeWhile_cons_of_pos (by simp; omega), List.length_cons, List.length_cons, this]
theorem aheadN_take (a : Int) : ∀ l : List SesZ, l.take (aheadN a l) = l.takeWhile (fun y => decide (y.cl < a))
  | [] => rfl
  | z :: l => by
    by_cases h : z.cl < a
    · have := aheadN_take a l
      unfold aheadN at this ⊢
      rw [List.takeWhile_cons_of_pos (by simp; omega), List.length_cons, List.take_succ_cons, this]
    · unfold aheadN
      rw [List.takeWhile_cons_of_neg (by simp; omega)]
      rfl
theorem aheadN_drop (a : Int) : ∀ l : List SesZ, l.drop (aheadN a l) = l.dropWhile (fun y => decide (y.cl < a))
  | [] => rfl
  | z :: l => by
    by_cases h : z.cl < a
    · have := aheadN_drop a l
      unfold aheadN at this ⊢
      rw [List.takeWhile_cons_of_pos (by simp; omega), List.dropWhile_cons_of_pos (by simp; omega), List.length_cons, List.drop_succ_cons, this]
    · unfold aheadN
      rw [List.takeWhile_cons_of_neg (by simp; omega), List.dropWhile_cons_of_neg (by simp; omega)]
      rfl
theorem aheadN_mono (a : Int) : ∀ l : List SesZ, aheadN a l ≤ aheadN (a + 1) l
  | [] => Nat.le_refl _
  | z :: l => by
    have := aheadN_mono a l
    unfold aheadN at this ⊢
    by_cases h : z.cl < a
    · rw [List.takeWhile_cons_of_pos (by simp; omega), List.takeWhile_cons_of_pos (by simp; omega), List.length_cons, List.length_cons]
      omega
    · rw [List.takeWhile_cons_of_neg (by simp; omega)]
      exact Nat.zero_le _
/-- What IndexFunc tells: the first place that is not ahead, or -1. -/
def FirstAt (l : List SesZ) (a k : Int) : Prop := (∃ i : Nat, k = i ∧ aheadN a l = i) ∨ (k = -1 ∧ aheadN a l = l.length)
set_option maxRecDepth 100000 in
set_option maxHeartbeats 2000000 in
theorem index_any (A : Option Addr) (n c gx : Nat) (a : Int) (ms : List SesM) (w : World) (h : SR w A n c ms) (hl : gx < w.heap.size) (hc : w.cell? ⟨gx, 0, none⟩ = some (.int .i64 a)) :
    Calls Try.prog 38 #[.slice A n c, .func (.func 39) #[] #[.pointer (some ⟨gx, 0, none⟩)]] w fun e w' => (∃ k : Int, e = .returned (.int .i64 k) ∧ FirstAt (ms.map (·.1)) a k) ∧ Below w.heap.size w w' := by
  have hn : n ≤ 9223372036854775807 := by have := h.cap; have := h.top; unfold maxLen at this; omega
  have HR := Lib.hid h; have HC := Lib.hid hc; have HL := Lib.hid hl
  have HN := Lib.hid h.len
  clear h hc hl
  go_enter Try.func38, Try.ntmps38
  go_wp2_with fail
  go_loopw [8] (fun i wr => ∃ k : Nat, k ≤ n ∧ i = .int .i64 k ∧ Hid (∀ y ∈ (ms.map (·.1)).take k, y.cl < a) ∧ Below w.heap.size w wr) (fun i _ => n - (intOf i).toNat)
  case atStart => exact ⟨0, by omega, rfl, Lib.hid (by simp), Below.refl _ _⟩
  case round =>
    obtain ⟨k, hk, rfl, HF, hb⟩ := hrel
    by_cases hlt : k < n
    · obtain ⟨m, hm⟩ : ∃ m, ms[k]? = some m := ⟨_, List.getElem?_eq_getElem (by have := HN.out; omega)⟩
      obtain ⟨⟨xc, xq, xe, xn⟩, xv⟩ := m
      have ht := HR.out.on hb
      obtain ⟨b1, o1, rfl, _⟩ := ht.at_ hm
      have HLD := Lib.hid (ses_load ht hm)
      have HX : Hid ((ms.map (·.1))[k]? = some ⟨xc, xq, xe, xn⟩) := Lib.hid (by rw [List.getElem?_map, hm]; rfl)
      have HL1 := Lib.hid (least1_any ⟨xc, xq, xe, xn⟩ xv gx a wr (Nat.lt_of_lt_of_le HL.out hb.size) ((hb.cell (p := ⟨gx, 0, none⟩) HL.out).trans HC.out))
      have HB := Lib.hid hb
      have i0 : (0 : Int) ≤ (k : Int) := by omega
      have i1 : (k : Int) < (n : Int) := by omega
      unfold sesV at *
      simp only at HLD HL1
      clear hb hm ht
      by_cases he : a ≤ xc
      · have hd : decide (a ≤ xc) = true := decide_eq_true he
        rw [hd] at HL1
        have HE := Lib.hid he
        clear he hd
        go_wp2_with (first | refine list_load rfl _ rfl rfl HLD.out ?_ | (go_at_call 39; refine HL1.out.mono ?_; rintro e w' ⟨rfl, hb2⟩))
        go_ret
        exact ⟨⟨k, rfl, .inl ⟨k, rfl, aheadN_at HF.out HX.out HE.out⟩⟩, HB.out.trans (hb2.mono HB.out.size)⟩
      · have hd : decide (a ≤ xc) = false := decide_eq_false he
        rw [hd] at HL1
        have HE := Lib.hid he
        clear he hd
        go_wp2_with (first | refine list_load rfl _ rfl rfl HLD.out ?_ | (go_at_call 39; refine HL1.out.mono ?_; rintro e w' ⟨rfl, hb2⟩))
        go_roundw
        case rel => exact ⟨k + 1, by omega, by go_num, Lib.hid (fun y hy => by
          rw [List.take_add_one, HX.out] at hy
          rcases List.mem_append.1 hy with hy | hy
          · exact HF.out y hy
          · have hy : y = ⟨xc, xq, xe, xn⟩ := by simpa using hy
            have := HE.out
            rw [hy]
            show xc < a
            omega), HB.out.trans (hb2.mono HB.out.size)⟩
        case measure => simp [intOf]; omega
    · have HE := Lib.hid (show ∀ y ∈ ms.map (·.1), y.cl < a from by
        have := HF.out
        rwa [List.take_of_length_le (by have := HN.out; rw [List.length_map]; omega)] at this)
      go_wp2_with fail
      go_ret
      exact ⟨⟨-1, rfl, .inr ⟨rfl, aheadN_all HE.out⟩⟩, hb⟩
set_option maxRecDepth 100000 in
set_option maxHeartbeats 2000000 in
theorem from_any (A : Option Addr) (n c gx : Nat) (a : Int) (ms : List SesM) (w : World) (h : SR w A n c ms) (hl : gx < w.heap.size) (hc : w.cell? ⟨gx, 0, none⟩ = some (.slice A n c)) :
    Calls Try.prog 37 #[.int .i64 a, .pointer (some ⟨gx, 0, none⟩)] w fun e w' => e = .returned (.int .i64 (aheadN a (ms.map (·.1)) : Nat)) ∧ Below w.heap.size w w' := by
  have hb0 := new_below w (.cells #[.int .i64 a] 3)
  have hx0 := SBox.new w 3 #[.int .i64 a]
  have hc2 : (w.alloc (.cells #[.int .i64 a] 3)).cell? ⟨gx, 0, none⟩ = some (.slice A n c) := (hb0.cell (p := ⟨gx, 0, none⟩) hl).trans hc
  have HIX := Lib.hid (index_any A n c w.heap.size a ms _ (h.on hb0) hx0.lt hx0.one)
  have HLL := Lib.hid (Nat.lt_of_lt_of_le hl hb0.size)
  have HN := Lib.hid h.len
  have HB := Lib.hid hb0
  generalize hl' : ms.map (·.1) = l at *
  have HLN : Hid (l.length = n) := Lib.hid (by rw [← hl', List.length_map, h.len])
  clear hb0 hx0 hc h hl' hl
  have HC2 := Lib.hid hc2
  go_enter Try.func37, Try.ntmps37
  go_wp2_with fail
  refine HIX.out.mono ?_
  rintro e w1 ⟨⟨k, rfl, hk⟩, hb⟩
  have hc3 : w1.cell? ⟨gx, 0, none⟩ = some (.slice A n c) := (hb.cell (p := ⟨gx, 0, none⟩) HLL.out).trans HC2.out
  have HB1 := Lib.hid (HB.out.trans (hb.mono HB.out.size))
  clear hb hc2
  rcases hk with ⟨i, rfl, hi⟩ | ⟨rfl, hi⟩
  · have HI := Lib.hid hi
    clear hi
    have hd : decide ((i : Int) < 0) = false := decide_eq_false (by omega)
    go_wp2_with fail
    go_ret
    exact ⟨by rw [HI.out]; try rfl, HB1.out⟩
  · have HI := Lib.hid hi
    clear hi
    go_wp2_with fail
    go_ret
    exact ⟨by rw [HI.out, HLN.out]; try rfl, HB1.out⟩
end Go.Proofs.Ytgnfoncokjglbaa
