/- Rows and tables, plain: which may be; what is added, removed, paused and resumed; their dues. -/
import Derived.Test.YthghcffibljclaaDoorR2
import Derived.Test.YthghcffibljclaaDoorR7
namespace Go.Proofs.YthghcffibljclaaDoor

/-- A row: its job, whether it is paused, when it is due next (-1: never), what runs, and what waits. -/
structure RowZ where
  j : JobZ
  pa : Bool
  nx : Int
  num : Int
  due : Int
  tr : Int
  q : List Int
/-- All times of a row that have to rise. -/
def RowZ.line (r : RowZ) : List Int := (if 0 < r.num then [r.due] else []) ++ r.q ++ (if r.nx = -1 then [] else [r.nx])
structure RowZ.Right (ev : List (BitVec 64) → Bool) (r : RowZ) : Prop where
  job : r.j.err ev = 0
  pa : r.pa = true → r.nx = -1
  tr0 : 0 ≤ r.tr
  tr1 : r.tr ≤ r.j.re
  q3 : r.q.length ≤ 3
  idle : r.num = 0 → r.due = 0 ∧ r.tr = 0 ∧ r.q = []
  skip : r.j.ov = 0 → r.q = []
  rises : r.line.Pairwise (· < ·)
  times : ∀ t ∈ r.line, r.j.T t
structure RightT (ev : List (BitVec 64) → Bool) (l : List RowZ) : Prop where
  rows : ∀ r ∈ l, r.Right ev
  names : l.Pairwise (fun a b => a.j.n < b.j.n)
  nums : l.Pairwise (fun a b => ¬ (a.num = b.num ∧ 0 < b.num))
  most : l.length ≤ 12
def newR (j : JobZ) (nx : Int) : RowZ := ⟨j, false, nx, 0, 0, 0, []⟩
theorem newR_right {ev : List (BitVec 64) → Bool} {j : JobZ} {now nx : Int} (h : j.err ev = 0) (h0 : 0 ≤ now) (hf : FirstT j.T now nx true) : (newR j nx).Right ev := by
  rcases hf with ⟨_, hf⟩ | ⟨hf, _⟩
  case inr => cases hf
  have hre : 0 ≤ j.re := ((hold_iff.1 (err_ok h).1).2.2.2.2).1
  have hl : (newR j nx).line = [nx] := by
    unfold RowZ.line newR
    have := hf.2.1
    rw [if_neg (by simp), if_neg (by simp only; omega)]
    rfl
  exact ⟨h, (fun h => by cases h), (by show (0 : Int) ≤ 0; omega), hre, (by show 0 ≤ 3; omega), (fun _ => ⟨rfl, rfl, rfl⟩), (fun _ => rfl), (by rw [hl]; exact List.pairwise_singleton _ _), (by rw [hl]; intro t ht; rw [List.mem_singleton] at ht; rw [ht]; exact hf.1)⟩
/-- Put among rows by rising names. -/
def insR (r : RowZ) : List RowZ → List RowZ
  | [] => [r]
  | x :: t => if x.j.n < r.j.n then x :: insR r t else r :: x :: t
def remR (name : Int) (l : List RowZ) : List RowZ := l.filter fun r => decide (r.j.n ≠ name)
def findR (name : Int) (l : List RowZ) : Option RowZ := l.find? fun r => decide (r.j.n = name)
def pauR (name : Int) (l : List RowZ) : List RowZ := l.map fun r => if r.j.n = name then { r with pa := true, nx := -1 } else r
def resR (name nx : Int) (l : List RowZ) : List RowZ := l.map fun r => if r.j.n = name ∧ r.pa = true then { r with pa := false, nx := nx } else r
theorem insR_mem (r : RowZ) : ∀ (l : List RowZ) (y : RowZ), y ∈ insR r l ↔ y = r ∨ y ∈ l
  | [], y => by simp [insR]
  | x :: t, y => by
    unfold insR
    split
    · rw [List.mem_cons, insR_mem r t y, List.mem_cons]
      constructor
      · rintro (h | h | h)
        · exact .inr (.inl h)
        · exact .inl h
        · exact .inr (.inr h)
      · rintro (h | h | h)
        · exact .inr (.inl h)
        · exact .inl h
        · exact .inr (.inr h)
    · rw [List.mem_cons]
theorem insR_len (r : RowZ) : ∀ l : List RowZ, (insR r l).length = l.length + 1
  | [] => rfl
  | x :: t => by
    unfold insR
    split
    · rw [List.length_cons, insR_len r t]; rfl
    · rfl
theorem insR_names {r : RowZ} : ∀ {l : List RowZ}, l.Pairwise (fun a b => a.j.n < b.j.n) → (∀ x ∈ l, x.j.n ≠ r.j.n) → (insR r l).Pairwise (fun a b => a.j.n < b.j.n)
  | [], _, _ => List.pairwise_singleton _ _
  | x :: t, h, hn => by
    obtain ⟨h1, h2⟩ := List.pairwise_cons.1 h
    unfold insR
    split
    · rename_i hlt
      refine List.pairwise_cons.2 ⟨fun y hy => ?_, insR_names h2 (fun y hy => hn y (List.mem_cons_of_mem _ hy))⟩
      rcases (insR_mem r t y).1 hy with rfl | hy
      · exact hlt
      · exact h1 y hy
    · rename_i hlt
      have hx := hn x List.mem_cons_self
      refine List.pairwise_cons.2 ⟨fun y hy => ?_, h⟩
      rcases List.mem_cons.1 hy with rfl | hy
      · omega
      · have := h1 y hy; omega
theorem insR_nums {r : RowZ} (h0 : r.num = 0) : ∀ {l : List RowZ}, l.Pairwise (fun a b => ¬ (a.num = b.num ∧ 0 < b.num)) → (insR r l).Pairwise (fun a b => ¬ (a.num = b.num ∧ 0 < b.num))
  | [], _ => List.pairwise_singleton _ _
  | x :: t, h => by
    obtain ⟨h1, h2⟩ := List.pairwise_cons.1 h
    unfold insR
    split
    · refine List.pairwise_cons.2 ⟨fun y hy => ?_, insR_nums h0 h2⟩
      rcases (insR_mem r t y).1 hy with rfl | hy
      · omega
      · exact h1 y hy
    · exact List.pairwise_cons.2 ⟨fun y _ => by omega, h⟩
theorem insR_right {ev : List (BitVec 64) → Bool} {r : RowZ} {l : List RowZ} (h : RightT ev l) (hr : r.Right ev) (h0 : r.num = 0) (hn : ∀ x ∈ l, x.j.n ≠ r.j.n) (hl : l.length < 12) : RightT ev (insR r l) :=
  ⟨fun x hx => by
    rcases (insR_mem r l x).1 hx with rfl | hx
    · exact hr
    · exact h.rows x hx, insR_names h.names hn, insR_nums h0 h.nums, by rw [insR_len]; omega⟩
/-- What is added, and removed again, was never there. -/
theorem rem_ins {r : RowZ} : ∀ {l : List RowZ}, (∀ x ∈ l, x.j.n ≠ r.j.n) → remR r.j.n (insR r l) = l
  | [], _ => by simp [remR, insR]
  | x :: t, hn => by
    have hx := hn x List.mem_cons_self
    have ht : remR r.j.n t = t := List.filter_eq_self.2 fun y hy => decide_eq_true (hn y (List.mem_cons_of_mem _ hy))
    unfold insR
    split
    · have ih := rem_ins (r := r) (l := t) (fun y hy => hn y (List.mem_cons_of_mem _ hy))
      unfold remR at ih ⊢
      rw [List.filter_cons, if_pos (by simpa using hx), ih]
    · unfold remR at ht ⊢
      rw [List.filter_cons, if_neg (by simp), List.filter_cons, if_pos (by simpa using hx), ht]
theorem find_ins {r : RowZ} : ∀ {l : List RowZ}, (∀ x ∈ l, x.j.n ≠ r.j.n) → findR r.j.n (insR r l) = some r
  | [], _ => by simp [findR, insR]
  | x :: t, hn => by
    have hx := hn x List.mem_cons_self
    have ih := find_ins (r := r) (l := t) (fun y hy => hn y (List.mem_cons_of_mem _ hy))
    unfold findR at ih ⊢
    unfold insR
    split
    · rw [List.find?_cons_of_neg (by simpa using hx), ih]
    · rw [List.find?_cons_of_pos (by simp)]
theorem map_other {f : RowZ → RowZ} {l : List RowZ} (h : ∀ x ∈ l, f x = x) : l.map f = l := by
  conv => rhs; rw [← List.map_id l]
  exact List.map_congr_left (fun x hx => h x hx)
/-- Paused, and resumed at its time, it is as it was. -/
theorem res_pau {r : RowZ} (hp : r.pa = false) {l : List RowZ} (hn : ∀ x ∈ l, x.j.n ≠ r.j.n) : resR r.j.n r.nx (pauR r.j.n (insR r l)) = insR r l := by
  unfold resR pauR
  rw [List.map_map]
  refine map_other fun x hx => ?_
  rcases (insR_mem r l x).1 hx with rfl | hx
  · obtain ⟨j, pa, nx, num, due, tr, q⟩ := x
    simp only at hp
    subst hp
    simp
  · have := hn x hx
    simp [this]
theorem res_same {r : RowZ} (hp : r.pa = false) {l : List RowZ} (hn : ∀ x ∈ l, x.j.n ≠ r.j.n) (nx : Int) : resR r.j.n nx (insR r l) = insR r l := by
  unfold resR
  refine map_other fun x hx => ?_
  rcases (insR_mem r l x).1 hx with rfl | hx
  · simp [hp]
  · have := hn x hx
    simp [this]
/-! dues -/
def dueR (r : RowZ) : Int × Int := (r.nx, r.j.n)
def liveR (l : List RowZ) : List RowZ := l.filter fun r => decide (r.nx ≠ -1)
def duesR (l : List RowZ) : List (Int × Int) := (liveR l).foldr (fun r s => insQ (dueR r) s) []
theorem dues_mem : ∀ (l : List RowZ) (y : Int × Int), y ∈ l.foldr (fun r s => insQ (dueR r) s) [] ↔ ∃ r ∈ l, y = dueR r
  | [], y => by simp
  | x :: t, y => by
    rw [List.foldr_cons, insQ_mem, dues_mem t y]
    simp
theorem dues_len : ∀ l : List RowZ, (l.foldr (fun r s => insQ (dueR r) s) []).length = l.length
  | [] => rfl
  | x :: t => by rw [List.foldr_cons, insQ_len, dues_len t]; rfl
theorem dues_sort : ∀ {l : List RowZ}, l.Pairwise (fun a b => a.j.n < b.j.n) → SortQ (l.foldr (fun r s => insQ (dueR r) s) [])
  | [], _ => List.Pairwise.nil
  | x :: t, h => by
    obtain ⟨h1, h2⟩ := List.pairwise_cons.1 h
    rw [List.foldr_cons]
    refine insQ_sort (dues_sort h2) fun y hy => ?_
    obtain ⟨r, hr, rfl⟩ := (dues_mem t y).1 hy
    have := h1 r hr
    show r.j.n ≠ x.j.n
    omega
theorem duesR_sort {l : List RowZ} (h : l.Pairwise (fun a b => a.j.n < b.j.n)) : SortQ (duesR l) := dues_sort (List.Pairwise.filter _ h)
theorem duesR_len (l : List RowZ) : (duesR l).length = (liveR l).length := dues_len _
theorem duesR_mem (l : List RowZ) (y : Int × Int) : y ∈ duesR l ↔ ∃ r ∈ l, r.nx ≠ -1 ∧ y = dueR r := by
  unfold duesR liveR
  rw [dues_mem]
  constructor
  · rintro ⟨r, hr, h⟩
    obtain ⟨h1, h2⟩ := List.mem_filter.1 hr
    exact ⟨r, h1, by simpa using h2, h⟩
  · rintro ⟨r, hr, h1, h⟩
    exact ⟨r, List.mem_filter.2 ⟨hr, by simpa using h1⟩, h⟩
theorem live_pau {r : RowZ} (hx : r.nx ≠ -1) : ∀ {l : List RowZ}, (∀ x ∈ l, x.j.n ≠ r.j.n) → (liveR (pauR r.j.n (insR r l))).length + 1 = (liveR (insR r l)).length
  | [], _ => by simp [liveR, pauR, insR, hx]
  | x :: t, hn => by
    have hxn := hn x List.mem_cons_self
    have ih := live_pau hx (l := t) (fun y hy => hn y (List.mem_cons_of_mem _ hy))
    have ht : pauR r.j.n t = t := map_other fun y hy => by simp [hn y (List.mem_cons_of_mem _ hy)]
    unfold insR
    split
    · unfold liveR pauR at ih ⊢
      rw [List.map_cons, List.filter_cons, List.filter_cons]
      simp only [hxn, if_false]
      split
      · simp only [List.length_cons]; omega
      · exact ih
    · unfold liveR
      unfold pauR at ht ⊢
      rw [List.map_cons, List.map_cons, ht]
      simp only [hxn, if_true, if_false]
      rw [List.filter_cons, if_neg (by simp), List.filter_cons (x := r), if_pos (by simpa using hx)]
      rfl
/-- First of what is one less than a time is it. -/
theorem first_of {T : Int → Prop} {t : Int} (h : T t) : FirstT T (t - 1) t true := .inl ⟨rfl, h, by omega, fun u _ hu => by omega⟩
theorem names_rise {l : List RowZ} (h : l.Pairwise (fun a b => a.j.n < b.j.n)) : (l.map fun r => r.j.n).Pairwise (· < ·) := List.pairwise_map.2 h
end Go.Proofs.YthghcffibljclaaDoor
