/- What WheelOrder asks of rows of dues: whether there is one of a number, and where; rows of one's own written in place: slices.Clone, Reverse, DeleteFunc. -/
import Derived.Test.YtidgiohjgkfjcaaDoorQRef
import Derived.Test.YtidgiohjgkfjcaaDoorQAppend
import Derived.Test.YtidgiohjgkfjcaaDoorQHeap
import Derived.WalkSpells
namespace Go.Proofs.YtidgiohjgkfjcaaDoor
open Go.RowKit

set_option maxHeartbeats 1000000 in
theorem ord1_any (d : Int × Int) (gx : Nat) (num : Int) (w : World) (hl : gx < w.heap.size) (hc : w.cell? ⟨gx, 1, none⟩ = some (.int .u64 num)) :
    Calls Tryd.prog 28 #[dueV d, .pointer (some ⟨gx, 0, none⟩)] w fun e w' => e = .returned (.bool (decide (d.2 = num))) ∧ Below w.heap.size w w' := by
  unfold dueV
  have hc2 : (w.alloc (.cells #[.int .i64 d.1, .int .u64 d.2] 39)).cell? ⟨gx, 1, none⟩ = some (.int .u64 num) := ((qbelow_cell ((Below.refl _ w).alloc (Nat.le_refl _) _)).1 gx 1 hl).trans hc
  have hB : ∀ o, Below w.heap.size w (w.alloc o) := fun o => (Below.refl _ _).alloc (Nat.le_refl _) _
  have he : (d.2 == num) = decide (d.2 = num) := by rw [Bool.eq_iff_iff]; simp
  rw [← he]
  clear hc he
  go_enter Tryd.func28, Tryd.ntmps28
  go_wp2_with fail
  go_ret
  exact ⟨rfl, hB _⟩
set_option maxHeartbeats 1000000 in
theorem index_ord1 (A : Option Addr) (n c gx : Nat) (num : Int) (l : List (Int × Int)) (w : World) (hr : DuesR w w.heap.size A n c l) (hl : gx < w.heap.size) (hc : w.cell? ⟨gx, 1, none⟩ = some (.int .u64 num)) :
    Calls Tryd.prog 46 #[.slice A n c, .func (.func 28) #[] #[.pointer (some ⟨gx, 0, none⟩)]] w fun e w' => (∃ k : Int, e = .returned (.int .i64 k) ∧ decide (0 ≤ k) = hasQ num l) ∧ Below w.heap.size w w' := by
  have hcap := hr.cap
  have htop := hr.top
  unfold maxLen at htop
  have HR := Lib.hid hr; have HC := Lib.hid hc; have HL := Lib.hid hl
  clear hr hc hl
  go_enter Tryd.func46, Tryd.ntmps46
  go_wp2_with fail
  go_loopw [8] (fun i wr => ∃ k : Nat, k ≤ n ∧ i = .int .i64 k ∧ Hid (hasQ num (l.take k) = false) ∧ Below w.heap.size w wr) (fun i _ => n - (intOf i).toNat)
  case atStart => exact ⟨0, by omega, rfl, Lib.hid (by simp [hasQ]), Below.refl _ _⟩
  case round =>
    obtain ⟨k, hk, rfl, HF, hb⟩ := hrel
    by_cases hlt : k < n
    · have hkl : k < l.length := by rw [HR.out.len]; exact hlt
      obtain ⟨b1, o1, rfl, hlb, c1, c2⟩ := (HR.out.below hb).at_ k l[k] (List.getElem?_eq_getElem hkl)
      have Hk : hasQ num (l.take (k + 1)) = (hasQ num (l.take k) || decide (l[k].2 = num)) := by
        unfold hasQ; rw [List.take_succ_eq_append_getElem hkl, List.any_append]; simp
      rw [HF.out, Bool.false_or] at Hk
      have HE : Hid (l[k].2 = num → hasQ num l = true) := Lib.hid (fun he => hasQ_iff.2 ⟨l[k], List.getElem_mem hkl, he⟩)
      have HK := Lib.hid Hk
      have HCR := Lib.hid (((qbelow_cell hb).1 gx 1 HL.out).trans HC.out)
      have HLR := Lib.hid (Nat.lt_of_lt_of_le HL.out hb.size)
      have HB := Lib.hid hb
      clear Hk hb
      generalize l[k] = x at *
      obtain ⟨x0, x1⟩ := x
      by_cases he : x1 = num
      · have hd : decide ((x0, x1).2 = num) = true := decide_eq_true he
        have e1 := HE.out he
        clear he
        go_wp2_with (go_at_call 28; refine (ord1_any (x0, x1) gx num _ HLR.out HCR.out).mono ?_; rintro e w' ⟨rfl, hb2⟩; rw [hd])
        go_ret
        exact ⟨⟨k, rfl, by rw [e1]; simp⟩, HB.out.trans (hb2.mono HB.out.size)⟩
      · have hd : decide ((x0, x1).2 = num) = false := decide_eq_false he
        have hf := Lib.hid (HK.out.trans hd)
        clear he
        go_wp2_with (go_at_call 28; refine (ord1_any (x0, x1) gx num _ HLR.out HCR.out).mono ?_; rintro e w' ⟨rfl, hb2⟩; rw [hd])
        go_roundw
        case rel => exact ⟨k + 1, by omega, by go_num, hf, HB.out.trans (hb2.mono HB.out.size)⟩
        case measure => simp [intOf]; omega
    · have e1 : hasQ num l = false := by
        have := HF.out
        rwa [List.take_of_length_le (by have := HR.out.len; omega)] at this
      go_wp2_with fail
      go_ret
      exact ⟨⟨-1, rfl, by rw [e1]; rfl⟩, hb⟩
set_option maxHeartbeats 1000000 in
theorem contains_ord1 (A : Option Addr) (n c gx : Nat) (num : Int) (l : List (Int × Int)) (w : World) (hr : DuesR w w.heap.size A n c l) (hl : gx < w.heap.size) (hc : w.cell? ⟨gx, 1, none⟩ = some (.int .u64 num)) :
    Calls Tryd.prog 21 #[.slice A n c, .func (.func 28) #[] #[.pointer (some ⟨gx, 0, none⟩)]] w fun e w' => e = .returned (.bool (hasQ num l)) ∧ Below w.heap.size w w' := by
  go_enter Tryd.func21, Tryd.ntmps21
  go_wp2_with fail
  refine (index_ord1 A n c gx num l w hr hl hc).mono ?_; rintro e w' ⟨⟨k, rfl, hk⟩, hb⟩
  have HK := Lib.hid hk; clear hk
  go_wp2_with fail
  refine bodyPost_ret (v := .bool (decide (0 ≤ k))) (by simp [results, Tryd.results21, go_sem]) rfl ⟨by rw [HK.out], hb⟩
set_option maxHeartbeats 1000000 in
theorem ord2_any (d : Int × Int) (gx : Nat) (num : Int) (w : World) (hl : gx < w.heap.size) (hc : w.cell? ⟨gx, 0, none⟩ = some (.int .u64 num)) :
    Calls Tryd.prog 32 #[dueV d, .pointer (some ⟨gx, 0, none⟩)] w fun e w' => e = .returned (.bool (decide (d.2 = num))) ∧ Below w.heap.size w w' := by
  unfold dueV
  have hc2 : (w.alloc (.cells #[.int .i64 d.1, .int .u64 d.2] 39)).cell? ⟨gx, 0, none⟩ = some (.int .u64 num) := ((qbelow_cell ((Below.refl _ w).alloc (Nat.le_refl _) _)).1 gx 0 hl).trans hc
  have hB : ∀ o, Below w.heap.size w (w.alloc o) := fun o => (Below.refl _ _).alloc (Nat.le_refl _) _
  have he : (d.2 == num) = decide (d.2 = num) := by rw [Bool.eq_iff_iff]; simp
  rw [← he]
  clear hc he
  go_enter Tryd.func32, Tryd.ntmps32
  go_wp2_with fail
  go_ret
  exact ⟨rfl, hB _⟩
set_option maxHeartbeats 1000000 in
theorem index_ord2 (A : Option Addr) (n c gx : Nat) (num : Int) (l : List (Int × Int)) (w : World) (hr : DuesR w w.heap.size A n c l) (hl : gx < w.heap.size) (hc : w.cell? ⟨gx, 0, none⟩ = some (.int .u64 num)) :
    Calls Tryd.prog 46 #[.slice A n c, .func (.func 32) #[] #[.pointer (some ⟨gx, 0, none⟩)]] w fun e w' => ((e = .returned (.int .i64 (-1)) ∧ hasQ num l = false) ∨ ∃ j : Nat, j < n ∧ e = .returned (.int .i64 (j : Int)) ∧ hasQ num (l.take j) = false ∧ ∃ d, l[j]? = some d ∧ d.2 = num) ∧ Below w.heap.size w w' := by
  have hcap := hr.cap
  have htop := hr.top
  unfold maxLen at htop
  have HR := Lib.hid hr; have HC := Lib.hid hc; have HL := Lib.hid hl
  clear hr hc hl
  go_enter Tryd.func46, Tryd.ntmps46
  go_wp2_with fail
  go_loopw [8] (fun i wr => ∃ k : Nat, k ≤ n ∧ i = .int .i64 k ∧ Hid (hasQ num (l.take k) = false) ∧ Below w.heap.size w wr) (fun i _ => n - (intOf i).toNat)
  case atStart => exact ⟨0, by omega, rfl, Lib.hid (by simp [hasQ]), Below.refl _ _⟩
  case round =>
    obtain ⟨k, hk, rfl, HF, hb⟩ := hrel
    by_cases hlt : k < n
    · have hkl : k < l.length := by rw [HR.out.len]; exact hlt
      obtain ⟨b1, o1, rfl, hlb, c1, c2⟩ := (HR.out.below hb).at_ k l[k] (List.getElem?_eq_getElem hkl)
      have Hk : hasQ num (l.take (k + 1)) = (hasQ num (l.take k) || decide (l[k].2 = num)) := by
        unfold hasQ; rw [List.take_succ_eq_append_getElem hkl, List.any_append]; simp
      rw [HF.out, Bool.false_or] at Hk
      have HE : Hid (l[k].2 = num → ∃ d, l[k]? = some d ∧ d.2 = num) := Lib.hid (fun he => ⟨l[k], List.getElem?_eq_getElem hkl, he⟩)
      have HK := Lib.hid Hk
      have HCR := Lib.hid (((qbelow_cell hb).1 gx 0 HL.out).trans HC.out)
      have HLR := Lib.hid (Nat.lt_of_lt_of_le HL.out hb.size)
      have HB := Lib.hid hb
      clear Hk hb
      generalize l[k] = x at *
      obtain ⟨x0, x1⟩ := x
      by_cases he : x1 = num
      · have hd : decide ((x0, x1).2 = num) = true := decide_eq_true he
        have E1 := Lib.hid (HE.out he)
        clear he
        go_wp2_with (go_at_call 32; refine (ord2_any (x0, x1) gx num _ HLR.out HCR.out).mono ?_; rintro e w' ⟨rfl, hb2⟩; rw [hd])
        go_ret
        exact ⟨.inr ⟨k, hlt, rfl, HF.out, E1.out⟩, HB.out.trans (hb2.mono HB.out.size)⟩
      · have hd : decide ((x0, x1).2 = num) = false := decide_eq_false he
        have hf := Lib.hid (HK.out.trans hd)
        clear he
        go_wp2_with (go_at_call 32; refine (ord2_any (x0, x1) gx num _ HLR.out HCR.out).mono ?_; rintro e w' ⟨rfl, hb2⟩; rw [hd])
        go_roundw
        case rel => exact ⟨k + 1, by omega, by go_num, hf, HB.out.trans (hb2.mono HB.out.size)⟩
        case measure => simp [intOf]; omega
    · have e1 : hasQ num l = false := by
        have := HF.out
        rwa [List.take_of_length_le (by have := HR.out.len; omega)] at this
      go_wp2_with fail
      go_ret
      exact ⟨.inl ⟨rfl, e1⟩, hb⟩

/-- A row in its block: what it reads, and that it may be written. -/
structure RowAt (w : World) (g n cap : Nat) (l : List (Int × Int)) : Prop where
  len : l.length = n
  le : n ≤ cap
  top : cap ≤ maxLen
  cells : ∃ cur : Array Value, w.heap[g]? = some (.cells cur 39 (0, 0)) ∧ cur.size = cap * 2 ∧ cur.toList.take (n * 2) = l.flatMap denc
theorem OwnD.at_row {w : World} {base : Nat} {v : Value} {l : List (Int × Int)} (h : OwnD w base v l) : (v = .slice none 0 0 ∧ l = []) ∨ ∃ g cap, v = .slice (some ⟨g, 0, none⟩) l.length cap ∧ base ≤ g ∧ RowAt w g l.length cap l := by
  rcases h.2 with ⟨hv, h0⟩ | ⟨g, cap, cur, hv, hg, hh, hn, hm, hs, ht⟩
  · exact .inl ⟨hv, List.length_eq_zero_iff.1 h0⟩
  · exact .inr ⟨g, cap, hv, hg, rfl, hn, hm, cur, hh, hs, ht⟩
theorem RowAt.own {w : World} {g n cap base : Nat} {l : List (Int × Int)} (h : RowAt w g n cap l) (hb : base ≤ g) : OwnD w base (.slice (some ⟨g, 0, none⟩) n cap) l := by
  obtain ⟨cur, hh, hs, ht⟩ := h.cells
  refine ⟨by rw [dflat_len], .inr ⟨g, cap, cur, by rw [h.len], hb, hh, by rw [h.len]; exact h.le, h.top, hs, ?_⟩⟩
  rw [h.len]; exact ht
theorem RowAt.lt {w : World} {g n cap : Nat} {l : List (Int × Int)} (h : RowAt w g n cap l) : g < w.heap.size := by
  obtain ⟨cur, hh, _⟩ := h.cells
  exact (Array.getElem?_eq_some_iff.1 hh).1
theorem RowAt.duesR {w : World} {g n cap : Nat} {l : List (Int × Int)} (h : RowAt w g n cap l) : DuesR w w.heap.size (some ⟨g, 0, none⟩) n cap l := by
  obtain ⟨A, c, e, hr⟩ := (h.own (Nat.zero_le g)).row
  injection e with e1 e2 e3
  subst e1 e3
  rw [h.len] at hr
  exact hr
theorem RowAt.frozen {w : World} {g n cap : Nat} {l : List (Int × Int)} (h : RowAt w g n cap l) (j : Nat) : w.frozen? ⟨g, j, none⟩ = false := by
  obtain ⟨cur, hh, _⟩ := h.cells
  simp [World.frozen?, hh]
theorem RowAt.cell {w : World} {g n cap : Nat} {l : List (Int × Int)} (h : RowAt w g n cap l) {k : Nat} {d : Int × Int} (hk : l[k]? = some d) : w.cell? ⟨g, k * 2, none⟩ = some (.int .i64 d.1) ∧ w.cell? ⟨g, k * 2 + 1, none⟩ = some (.int .u64 d.2) := by
  obtain ⟨b, o, e, _, h0, h1⟩ := h.duesR.at_ k d hk
  cases e
  rw [Nat.zero_add] at h0 h1
  exact ⟨h0, h1⟩
theorem RowAt.below {w w' : World} {g n cap : Nat} {l : List (Int × Int)} (h : RowAt w g n cap l) (hb : Below w.heap.size w w') : RowAt w' g n cap l := by
  obtain ⟨cur, hh, hs, ht⟩ := h.cells
  exact ⟨h.len, h.le, h.top, cur, (hb.block g h.lt).trans hh, hs, ht⟩
theorem RowAt.onlyP {w w' : World} {p g n cap : Nat} {l : List (Int × Int)} (h : RowAt w g n cap l) (ho : Only p w w') (hp : g ≠ p) : RowAt w' g n cap l := by
  obtain ⟨cur, hh, hs, ht⟩ := h.cells
  exact ⟨h.len, h.le, h.top, cur, (ho.block g h.lt hp).trans hh, hs, ht⟩
theorem dflat_set : ∀ (l : List (Int × Int)) (j : Nat) (d : Int × Int), j < l.length → ((l.flatMap denc).set (j * 2) (.int .i64 d.1)).set (j * 2 + 1) (.int .u64 d.2) = (l.set j d).flatMap denc
  | [], _, _, h => by simp at h
  | a :: l, 0, d, _ => by simp [denc]
  | a :: l, j + 1, d, h => by
    have ih := dflat_set l j d (by simpa using h)
    rw [List.flatMap_cons, show denc a = [.int .i64 a.1, .int .u64 a.2] from rfl, List.set_cons_succ, List.flatMap_cons, ← ih]
    rw [show (j + 1) * 2 = j * 2 + 1 + 1 by omega]
    simp [denc]
/-- A due put into a place of the row. -/
theorem RowAt.put {w : World} {g n cap : Nat} {l : List (Int × Int)} (h : RowAt w g n cap l) {j : Nat} (hj : j < n) (d : Int × Int) : RowAt ((w.setCell ⟨g, j * 2, none⟩ (.int .i64 d.1)).setCell ⟨g, j * 2 + 1, none⟩ (.int .u64 d.2)) g n cap (l.set j d) := by
  obtain ⟨cur, hh, hs, ht⟩ := h.cells
  have hjl : j < l.length := by rw [h.len]; exact hj
  refine ⟨by rw [List.length_set, h.len], h.le, h.top, (cur.setIfInBounds (j * 2) (.int .i64 d.1)).setIfInBounds (j * 2 + 1) (.int .u64 d.2), ?_, by simp [hs], ?_⟩
  · simp [World.setCell, Array.getElem?_modify, hh]
  · rw [← dflat_set l j d hjl, ← ht]
    simp only [Array.toList_setIfInBounds, List.take_set]

theorem list_cut9 {w : World} {ops : Array Oper} {rest : List Oper} {o : Oper} {a : Act} {Q : Exit → Act → World → Prop} {B1 B2 k m c : Nat} {A A2 : Option Addr} {l1 l2 : List (Int × Int)} (hgd : o.guard = none) (s x : Operand)
    (ho : o.op = .call { callee := .builtin .append, args := #[s, x], argTypes := #[29, 29] }) (hs : a.eval s = .slice A k k) (hx : a.eval x = .slice A2 m c)
    (h1 : DuesR w B1 A k k l1) (h2 : DuesR w B2 A2 m c l2) (hm : 0 < m) (hle : k + m ≤ 1000)
    (h : ∀ g cap w', OwnD w' w.heap.size (.slice (some ⟨g, 0, none⟩) (k + m) cap) (l1 ++ l2) → Below w.heap.size w w' → wpList Tryd.prog ops Q rest (a.put o.dst (.slice (some ⟨g, 0, none⟩) (k + m) cap)) w') : wpList Tryd.prog ops Q (o :: rest) a w := by
  obtain ⟨g, cap, w', hr, ho2, hb⟩ := run_append_cut o.type h1 h2 hm hle
  exact list_append9 hgd s x ho hs hx hr (h g cap w' ho2 hb)
set_option maxRecDepth 100000 in
set_option maxHeartbeats 1000000 in
theorem clone_any (g n cap : Nat) (l : List (Int × Int)) (w : World) (h : RowAt w g n cap l) (hn : 0 < n) (hl : n ≤ 100) :
    Calls Tryd.prog 29 #[.slice (some ⟨g, 0, none⟩) n cap] w fun e w' => ∃ g' cap', e = .returned (.slice (some ⟨g', 0, none⟩) n cap') ∧ w.heap.size ≤ g' ∧ RowAt w' g' n cap' l ∧ Below w.heap.size w w' := by
  have HR := Lib.hid h
  have hcap := h.le
  have htop := h.top
  unfold maxLen at htop
  have hE := fun (W : World) => Lib.run_eql_slice_nil (P := Tryd.prog) W 29 39 (some ⟨g, 0, none⟩) n cap 0 0 Tryd.underlying29
  go_enter Tryd.func29, Tryd.ntmps29
  clear h
  have hB := fun (o : Obj) => (Below.refl w.heap.size w).alloc (Nat.le_refl _) o
  have HLEN := Lib.hid HR.out.len
  go_wp2_with (at_builtin; refine list_cut9 (B1 := 0) (l1 := []) rfl _ _ rfl rfl rfl ⟨rfl, Nat.le_refl _, by decide, fun k r hk => by simp at hk⟩ ((HR.out.below (hB _)).duesR) hn (by omega) ?_; intro g' cap' w' ho' hb')
  have HO := Lib.hid ho'; have HB := Lib.hid ((hB _).trans (hb'.mono (by simp)))
  clear ho' hb' hB hE
  go_wp2_with fail
  go_ret
  rw [Nat.zero_add, List.nil_append] at HO
  rcases HO.out.at_row with ⟨hv, _⟩ | ⟨g2, cap2, hv, hg2, hr2⟩
  · cases hv
  · injection hv with e1 e2 e3
    cases e1
    subst e3
    rw [HLEN.out] at hr2
    exact ⟨g', cap', rfl, by simp at hg2; omega, hr2, HB.out⟩
set_option maxRecDepth 100000 in
set_option maxHeartbeats 1000000 in
theorem clone_nil (w : World) :
    Calls Tryd.prog 29 #[.slice none 0 0] w fun e w' => e = .returned (.slice none 0 0) ∧ w' = w := by
  have hE := fun (W : World) => Lib.run_eql_slice_nil (P := Tryd.prog) W 29 39 none 0 0 0 0 Tryd.underlying29
  go_enter Tryd.func29, Tryd.ntmps29
  go_wp2_with fail
  go_ret
  exact ⟨rfl, rfl⟩
set_option maxRecDepth 100000 in
set_option maxHeartbeats 1000000 in
theorem reverse_nil (w : World) :
    Calls Tryd.prog 30 #[.slice none 0 0] w fun e w' => (∃ v, e = .returned v) ∧ w' = w := by
  go_enter Tryd.func30, Tryd.ntmps30
  go_wp2_with fail
  go_loopw [2, 3] (fun iv jv wr => iv = .int .i64 0 ∧ jv = .int .i64 (-1) ∧ wr = w) (fun _ _ _ => 0)
  case atStart => exact ⟨rfl, rfl, rfl⟩
  case round =>
    obtain ⟨rfl, rfl, rfl⟩ := hrel
    go_wp2_with fail
    go_end0
    exact ⟨⟨_, rfl⟩, rfl⟩
/-- So far turned round. -/
def RevQ (l m : List (Int × Int)) (n k : Nat) : Prop := m.length = n ∧ ∀ x, x < n → m[x]? = if x < k ∨ n - 1 < k + x then l[n - 1 - x]? else l[x]?
theorem RevQ.step {l m : List (Int × Int)} {n k : Nat} (h : RevQ l m n k) (hl : l.length = n) (hk : k < n - 1 - k) {di dj : Int × Int} (hi : m[k]? = some di) (hj : m[n - 1 - k]? = some dj) : RevQ l ((m.set k dj).set (n - 1 - k) di) n (k + 1) := by
  refine ⟨by rw [List.length_set, List.length_set]; exact h.1, fun x hx => ?_⟩
  have hmi := h.2 k (by omega)
  have hmj := h.2 (n - 1 - k) (by omega)
  rw [if_neg (by omega)] at hmi hmj
  rw [hi] at hmi
  rw [hj] at hmj
  have hxm := h.2 x hx
  by_cases h1 : x = n - 1 - k
  · subst h1
    rw [List.getElem?_set_self (by rw [List.length_set, h.1]; omega), if_pos (by omega), show n - 1 - (n - 1 - k) = k by omega, hmi]
  · rw [List.getElem?_set_ne (by omega)]
    by_cases h2 : x = k
    · subst h2
      rw [List.getElem?_set_self (by rw [h.1]; omega), if_pos (by omega), hmj]
    · rw [List.getElem?_set_ne (by omega), hxm]
      by_cases h3 : x < k ∨ n - 1 < k + x
      · rw [if_pos h3, if_pos (by omega)]
      · rw [if_neg h3, if_neg (by omega)]
theorem RevQ.done {l m : List (Int × Int)} {n k : Nat} (h : RevQ l m n k) (hl : l.length = n) (hk : ¬ (k : Int) < (n : Int) - 1 - k) : m = l.reverse := by
  apply List.ext_getElem?
  intro x
  by_cases hx : x < n
  · rw [h.2 x hx, List.getElem?_reverse (by omega), hl]
    by_cases h3 : x < k ∨ n - 1 < k + x
    · rw [if_pos h3]
    · rw [if_neg h3, show n - 1 - x = x by omega]
  · rw [List.getElem?_eq_none (by rw [h.1]; omega), List.getElem?_eq_none (by rw [List.length_reverse]; omega)]
set_option maxRecDepth 100000 in
set_option maxHeartbeats 2000000 in
theorem reverse_any (g n cap : Nat) (l : List (Int × Int)) (w : World) (h : RowAt w g n cap l) (hn : n ≤ 100) :
    Calls Tryd.prog 30 #[.slice (some ⟨g, 0, none⟩) n cap] w fun e w' => (∃ v, e = .returned v) ∧ RowAt w' g n cap l.reverse ∧ Only g w w' := by
  have hcap := h.le
  have htop := h.top
  unfold maxLen at htop
  have hw1 : IntKind.i64.wrap ((n : Int) - 1) = (n : Int) - 1 := by rw [IntKind.wrap_i64]; omega
  have HL := Lib.hid h.len
  have HR := Lib.hid h
  clear h
  go_enter Tryd.func30, Tryd.ntmps30
  go_wp2_with fail
  go_loopw [2, 3] (fun iv jv wr => ∃ (k : Nat) (m : List (Int × Int)), k ≤ n ∧ iv = .int .i64 k ∧ jv = .int .i64 ((n : Int) - 1 - k) ∧ Hid (RevQ l m n k) ∧ RowAt wr g n cap m ∧ Only g w wr) (fun iv _ _ => n - (intOf iv).toNat)
  case atStart => exact ⟨0, l, by omega, rfl, by simp, Lib.hid ⟨HL.out, fun x hx => by rw [if_neg (by omega)]⟩, HR.out, Only.refl _ _⟩
  case round =>
    obtain ⟨k, m, hk, rfl, rfl, HM, hra, hon⟩ := hrel
    have HRA := Lib.hid hra; have HON := Lib.hid hon
    clear hra hon
    by_cases hlt : (k : Int) < (n : Int) - 1 - k
    · have hk2 : k < n - 1 - k := by omega
      obtain ⟨di, hi⟩ : ∃ d, m[k]? = some d := ⟨_, List.getElem?_eq_getElem (by rw [HM.out.1]; omega)⟩
      obtain ⟨dj, hj⟩ : ∃ d, m[n - 1 - k]? = some d := ⟨_, List.getElem?_eq_getElem (by rw [HM.out.1]; omega)⟩
      obtain ⟨y0, y1⟩ := HRA.out.cell hi
      obtain ⟨y2, y3⟩ := HRA.out.cell hj
      have HNX := Lib.hid (HM.out.step HL.out hk2 hi hj)
      obtain ⟨j, hje⟩ : ∃ j, n - 1 - k = j := ⟨_, rfl⟩
      rw [hje] at y2 y3
      have hjn : ((n : Int) - 1 - k) = (j : Int) := by omega
      have HJE := Lib.hid hje; have HJN := Lib.hid hjn
      rw [hjn] at hlt ⊢
      have hkj : k < j := by omega
      have hjl : j < n := by omega
      have hi0 : (0 : Int) ≤ k := by omega
      have hi1 : (k : Int) < (n : Int) := by omega
      have hi2 : (0 : Int) ≤ j := by omega
      have hi3 : (j : Int) < (n : Int) := by omega
      have hw2 : IntKind.i64.wrap ((j : Int) - 1) = (j : Int) - 1 := by rw [IntKind.wrap_i64]; omega
      have hgl := HRA.out.lt
      have z0 := HRA.out.frozen (k * 2); have z1 := HRA.out.frozen (k * 2 + 1); have z2 := HRA.out.frozen (j * 2); have z3 := HRA.out.frozen (j * 2 + 1)
      have hd0 : k * 2 ≠ j * 2 := by omega
      have hd1 : k * 2 + 1 ≠ j * 2 := by omega
      have hd2 : k * 2 ≠ j * 2 + 1 := by omega
      have hd3 : k * 2 + 1 ≠ j * 2 + 1 := by omega
      obtain ⟨a0, a1⟩ := di
      obtain ⟨b0, b1⟩ := dj
      clear hi hj hk2 hje hjn
      go_wp2_with fail
      go_region
      have HP1 := Lib.hid ((HRA.out.put (show k < n by omega) (b0, b1)).put hjl (a0, a1))
      rw [HJE.out] at HNX
      have hw4 : IntKind.i64.wrap ((k : Int) + 1) = (k : Int) + 1 := by rw [IntKind.wrap_i64]; omega
      clear y0 y1 y2 y3 z0 z1 z2 z3 hd0 hd1 hd2 hd3
      go_wp2_with fail
      go_roundw
      case rel => exact ⟨k + 1, _, by omega, by go_num, by have := HJN.out; go_num, HNX, by exact ⟨HP1.out.len, HP1.out.le, HP1.out.top, HP1.out.cells⟩, HON.out.trans (by have h4 := (((Only.set g (k * 2) wr (.int .i64 b0)).trans (Only.set g (k * 2 + 1) _ (.int .u64 b1))).trans (Only.set g (j * 2) _ (.int .i64 a0))).trans (Only.set g (j * 2 + 1) _ (.int .u64 a1)); exact ⟨h4.os, h4.tape, h4.output, h4.size, h4.block⟩)⟩
      case measure => simp [intOf]; omega
    · have HD := Lib.hid (HM.out.done HL.out hlt)
      go_wp2_with fail
      go_end0
      exact ⟨⟨_, rfl⟩, HD.out ▸ HRA.out, HON.out⟩

theorem cutQ_none9 {num : Int} {l : List (Int × Int)} (h : hasQ num l = false) : cutQ num l = l := by
  unfold cutQ
  rw [List.filter_eq_self]
  intro x hx
  simp only [decide_eq_true_eq]
  intro e
  rw [hasQ_iff.2 ⟨x, hx, e⟩] at h
  cases h
theorem cutQ_app (num : Int) (a b : List (Int × Int)) : cutQ num (a ++ b) = cutQ num a ++ cutQ num b := by unfold cutQ; exact List.filter_append ..
theorem cutQ_one {num : Int} {d : Int × Int} (h : d.2 = num) : cutQ num [d] = [] := by unfold cutQ; simp [h]
theorem cutQ_keep {num : Int} {d : Int × Int} (h : d.2 ≠ num) : cutQ num [d] = [d] := by unfold cutQ; simp [h]
/-- What DeleteFunc has done so far: one due of the number is passed. -/
def DelQ (l m : List (Int × Int)) (num : Int) (n k : Nat) : Prop := m.length = n ∧ m.take k = cutQ num (l.take (k + 1)) ∧ ∀ x, k + 1 ≤ x → m[x]? = l[x]?
theorem DelQ.start {l : List (Int × Int)} {num : Int} {n j : Nat} (hl : l.length = n) (h : hasQ num (l.take j) = false) {d : Int × Int} (hd : l[j]? = some d) (hn : d.2 = num) : DelQ l l num n j :=
  ⟨hl, by rw [List.take_add_one, hd, cutQ_app, cutQ_none9 h, Option.toList_some, cutQ_one hn, List.append_nil], fun _ _ => rfl⟩
theorem DelQ.step {l m : List (Int × Int)} {num : Int} {n k : Nat} (h : DelQ l m num n k) {d : Int × Int} (hk : k + 1 < n) (hd : l[k + 1]? = some d) (hn : d.2 ≠ num) : DelQ l (m.set k d) num n (k + 1) := by
  refine ⟨by rw [List.length_set]; exact h.1, ?_, fun x hx => by rw [List.getElem?_set_ne (by omega)]; exact h.2.2 x (by omega)⟩
  rw [List.take_add_one, List.getElem?_set_self (by rw [h.1]; omega), List.take_set_of_le (Nat.le_refl k), h.2.1, Option.toList_some]
  rw [List.take_add_one (l := l) (i := k + 1), hd, cutQ_app, Option.toList_some, cutQ_keep hn]
theorem run_clear_one (w : World) (g k c : Nat) (ty : TypeId) (d : Int × Int) (z0 : w.cell? ⟨g, k * 2, none⟩ = some (.int .i64 d.1)) (z1 : w.cell? ⟨g, k * 2 + 1, none⟩ = some (.int .u64 d.2)) (f0 : w.frozen? ⟨g, k * 2, none⟩ = false) (f1 : w.frozen? ⟨g, k * 2 + 1, none⟩ = false) :
    (Builtin.clear_ #[29] ty #[.slice (some ⟨g, k * 2, none⟩) 1 c]).run Tryd.prog w = .ok (.tuple #[]) ((w.setCell ⟨g, k * 2, none⟩ (.int .i64 0)).setCell ⟨g, k * 2 + 1, none⟩ (.int .u64 0)) := by
  unfold Builtin.clear_
  go_simp
  rw [show (Builtin.zeroCells #[Value.int IntKind.i64 0, Value.int IntKind.u64 0] 1).toList = [Value.int IntKind.i64 0, Value.int IntKind.u64 0] by first | kernel_rfl | decide +kernel | (simp [Builtin.zeroCells]; done) | (unfold Builtin.zeroCells; simp; done)]
  have f2 : (w.setCell ⟨g, k * 2, none⟩ (.int .i64 0)).frozen? ⟨g, k * 2 + 1, none⟩ = false := by rw [World.frozen?_setCell]; exact f1
  have z2 : (w.setCell ⟨g, k * 2, none⟩ (.int .i64 0)).cell? ⟨g, k * 2 + 1, none⟩ = some (.int .u64 d.2) := by rw [World.cell?_setCell_other _ _ _ _ (by simp)]; exact z1
  unfold storeCells
  go_simp
set_option maxRecDepth 100000 in
set_option maxHeartbeats 2000000 in
theorem delete_any (g n cap gx : Nat) (num : Int) (l : List (Int × Int)) (w : World) (h : RowAt w g n cap l) (hp : l.Pairwise (fun a b => a.2 ≠ b.2)) (hn : n ≤ 100) (hx : QBox w gx 32 #[.int .u64 num]) (hne : gx ≠ g) :
    Calls Tryd.prog 31 #[.slice (some ⟨g, 0, none⟩) n cap, .func (.func 32) #[] #[.pointer (some ⟨gx, 0, none⟩)]] w fun e w' => e = .returned (.slice (some ⟨g, 0, none⟩) (cutQ num l).length cap) ∧ DuesR w' w'.heap.size (some ⟨g, 0, none⟩) (cutQ num l).length cap (cutQ num l) ∧ Only g w w' := by
  have hcap := h.le
  have htop := h.top
  unfold maxLen at htop
  have HL := Lib.hid h.len
  have HR := Lib.hid h
  have HX := Lib.hid hx
  have HP := Lib.hid hp
  clear h hx hp
  go_enter Tryd.func31, Tryd.ntmps31
  go_wp2_with fail
  refine (index_ord2 (some ⟨g, 0, none⟩) n cap gx num l w HR.out.duesR HX.out.lt (HX.out.cell 0)).mono ?_
  rintro e w1 ⟨⟨rfl, hno⟩ | ⟨j, hjn, rfl, hj, d, hd, hdn⟩, hb1⟩
  · have HB1 := Lib.hid hb1; have HNO := Lib.hid hno
    clear hb1 hno
    go_wp2_with fail
    go_ret
    rw [cutQ_none9 HNO.out, HL.out]
    exact ⟨rfl, (HR.out.below HB1.out).duesR, Only.of HB1.out⟩
  · have HST := Lib.hid (DelQ.start HL.out hj hd hdn)
    have HR1 := Lib.hid (HR.out.below hb1); have HB1 := Lib.hid (Only.of (p := g) hb1); have HX1 := Lib.hid (HX.out.belowAll hb1)
    have HOTH := Lib.hid (show ∀ x d', j < x → l[x]? = some d' → d'.2 ≠ num from fun x d' hx hd' => by
      have hp := List.pairwise_iff_getElem.1 HP.out j x (by have := (List.getElem?_eq_some_iff.1 hd).1; exact this) (by have := (List.getElem?_eq_some_iff.1 hd').1; exact this) hx
      rw [(List.getElem?_eq_some_iff.1 hd).2, (List.getElem?_eq_some_iff.1 hd').2, hdn] at hp
      exact fun e => hp e.symm)
    have hjm : ((j : Int) == -1) = false := by simp
    have hw1 : IntKind.i64.wrap ((j : Int) + 1) = (j : Int) + 1 := by rw [IntKind.wrap_i64]; omega
    clear hb1 hj hd hdn HR HX HP
    go_wp2_with fail
    go_loopw [5, 6] (fun iv jv wr => ∃ (k : Nat) (m : List (Int × Int)), j ≤ k ∧ k < n ∧ iv = .int .i64 k ∧ jv = .int .i64 ((k : Int) + 1) ∧ Hid (DelQ l m num n k) ∧ RowAt wr g n cap m ∧ QBox wr gx 32 #[.int .u64 num] ∧ Only g w wr) (fun iv _ _ => n - (intOf iv).toNat)
    case atStart => exact ⟨j, l, Nat.le_refl _, hjn, rfl, rfl, HST, HR1.out, HX1.out, HB1.out⟩
    case round =>
      clear hjm hw1 HST HR1 HX1 HB1
      obtain ⟨k, m, hjk, hkn, rfl, rfl, HM, hra, hqx, hon⟩ := hrel
      have HRA := Lib.hid hra; have HQX := Lib.hid hqx; have HON := Lib.hid hon
      clear hra hqx hon
      have hw2 : IntKind.i64.wrap ((k : Int) + 1) = (k : Int) + 1 := by rw [IntKind.wrap_i64]; omega
      have hw3 : IntKind.i64.wrap ((k : Int) + 1 + 1) = (k : Int) + 1 + 1 := by rw [IntKind.wrap_i64]; omega
      by_cases hlt : k + 1 < n
      · have hlt2 : (k : Int) + 1 < (n : Int) := by omega
        obtain ⟨y, hy⟩ : ∃ y, m[k + 1]? = some y := ⟨_, List.getElem?_eq_getElem (by rw [HM.out.1]; exact hlt)⟩
        have hyl : l[k + 1]? = some y := by rw [← HM.out.2.2 (k + 1) (Nat.le_refl _)]; exact hy
        have hyn := HOTH.out (k + 1) y (by omega) hyl
        have HNX := Lib.hid (HM.out.step hlt hyl hyn)
        obtain ⟨z0, z1⟩ := HRA.out.cell hy
        obtain ⟨y0, y1⟩ := y
        have HYD := Lib.hid (decide_eq_false (p := (y0, y1).2 = num) hyn)
        have hi0 : (0 : Int) ≤ k := by omega
        have hi1 : (k : Int) < (n : Int) := by omega
        have hi2 : (0 : Int) ≤ (k : Int) + 1 := by omega
        have hnat : ((k : Int) + 1).toNat = k + 1 := by omega
        have hB := (Below.refl wr.heap.size wr).alloc (Nat.le_refl _) (.cells #[.int .i64 y0, .int .u64 y1] 39)
        have hra2 := HRA.out.below hB
        have hqx2 := HQX.out.belowAll hB
        have hqd := QBox.new wr 39 #[.int .i64 y0, .int .u64 y1]
        have hon2 := HON.out.trans (Only.of (p := g) hB)
        have hgl := HRA.out.lt
        have hgn := Nat.ne_of_lt hgl
        clear hy hyl hyn hB
        go_wp2_with fail
        generalize wr.alloc (.cells #[.int .i64 y0, .int .u64 y1] 39) = W4 at *
        refine (ord2_any (y0, y1) gx num W4 hqx2.lt (hqx2.cell 0)).mono ?_
        rintro e w5 ⟨rfl, hb5⟩
        rw [HYD.out]
        have HRA5 := Lib.hid (hra2.below hb5); have HQX5 := Lib.hid (hqx2.belowAll hb5); have HON5 := Lib.hid (hon2.trans (Only.of hb5))
        obtain ⟨c0, c1, _, _⟩ := (hqd.belowAll hb5).two
        have hgl5 := HRA5.out.lt
        obtain ⟨mk, hmk⟩ : ∃ d, m[k]? = some d := ⟨_, List.getElem?_eq_getElem (by rw [HM.out.1]; omega)⟩
        obtain ⟨z4, z5⟩ := HRA5.out.cell hmk
        clear hmk
        have f0 := HRA5.out.frozen (k * 2); have f1 := HRA5.out.frozen (k * 2 + 1)
        have HP5 := Lib.hid (HRA5.out.put (show k < n by omega) (y0, y1))
        clear hra2 hqx2 hqd hon2 hb5 z0 z1
        go_wp2_with fail
        go_roundw
        case rel => exact ⟨k + 1, _, by omega, hlt, by go_num, by go_num, HNX, HP5.out, (HQX5.out.far hne _).far hne _, HON5.out.trans ((Only.set g (k * 2) w5 _).trans (Only.set g (k * 2 + 1) _ _))⟩
        case measure => simp [intOf]; omega
      · obtain rfl : n = k + 1 := by omega
        obtain ⟨mk, hmk⟩ : ∃ d, m[k]? = some d := ⟨_, List.getElem?_eq_getElem (by rw [HM.out.1]; omega)⟩
        obtain ⟨z4, z5⟩ := HRA.out.cell hmk
        have hgl := HRA.out.lt
        have f0 := HRA.out.frozen (k * 2); have f1 := HRA.out.frozen (k * 2 + 1)
        have hi0 : (0 : Int) ≤ k := by omega
        have hi1 : (k : Int) ≤ (k : Int) + 1 := by omega
        have hi2 : (k : Int) + 1 ≤ (cap : Int) := by omega
        have hi3 : (k : Int) ≤ (cap : Int) := by omega
        have HP5 := Lib.hid (HRA.out.put (show k < k + 1 by omega) (0, 0))
        have HTK := Lib.hid (show m.take k = cutQ num l by
          have := HM.out.2.1
          rwa [List.take_of_length_le (l := l) (by rw [HL.out]; exact Nat.le_refl _)] at this)
        have hcl := fun ty => run_clear_one wr g k (cap - k) ty mk z4 z5 f0 f1
        clear hmk
        go_wp2_with fail
        go_ret
        have hlk : (cutQ num l).length = k := by rw [← HTK.out, List.length_take, HM.out.1]; omega
        rw [hlk]
        refine ⟨rfl, ?_, HON.out.trans ((Only.set g (k * 2) wr _).trans (Only.set g (k * 2 + 1) _ _))⟩
        have h9 := HP5.out.duesR.take k cap (by omega) (by omega) (Nat.le_refl _)
        rw [List.take_set_of_le (Nat.le_refl k), HTK.out] at h9
        exact h9
end Go.Proofs.YtidgiohjgkfjcaaDoor
