/- Sessions as plain data: replies, rows, whether they may be; whose row there is, what an asking is, what is kept. -/
import Derived.Below
namespace Go.Proofs.Ytgnfoncokjglbaa

structure RepZ where
  err : Int
  names : List Int
deriving DecidableEq
structure SesZ where
  cl : Int
  seq : Int
  rep : RepZ
deriving DecidableEq
def maxQ : Int := 1099511627776
/-- All are within the limits, and rise. -/
def RiseW (lo hi : Int) (l : List Int) : Prop := (∀ (k : Nat) x, l[k]? = some x → lo ≤ x ∧ x ≤ hi) ∧ ∀ (k : Nat) x y, l[k]? = some x → l[k + 1]? = some y → x < y
open Classical in
noncomputable def holdW (lo hi : Int) (l : List Int) : Bool := decide (RiseW lo hi l)
theorem holdW_yes {lo hi : Int} {l : List Int} : holdW lo hi l = true ↔ RiseW lo hi l := by unfold holdW; simp
theorem holdW_no {lo hi : Int} {l : List Int} (h : ¬ RiseW lo hi l) : holdW lo hi l = false := by unfold holdW; simp [h]
/-- A reply that may be. -/
def RepZ.May (r : RepZ) : Prop := 0 ≤ r.err ∧ (r.err = 0 ∨ r.names = []) ∧ r.names.length ≤ 12 ∧ RiseW 1 4294967295 r.names
open Classical in
noncomputable def RepZ.ok (r : RepZ) : Bool := decide r.May
theorem RepZ.ok_yes {r : RepZ} : r.ok = true ↔ r.May := by unfold RepZ.ok; simp
theorem RepZ.ok_no {r : RepZ} (h : ¬ r.May) : r.ok = false := by unfold RepZ.ok; simp [h]
/-- A client that there is, and a number that may be. -/
def Asked (c q : Int) : Prop := 1 ≤ c ∧ c ≤ 3 ∧ 1 ≤ q ∧ q ≤ maxQ
instance (c q : Int) : Decidable (Asked c q) := by unfold Asked; infer_instance
/-- Sessions that may be. -/
def MayS (l : List SesZ) : Prop := (∀ x ∈ l, Asked x.cl x.seq ∧ x.rep.May) ∧ ∀ (k : Nat) x y, l[k]? = some x → l[k + 1]? = some y → x.cl < y.cl
open Classical in
noncomputable def okS (l : List SesZ) : Bool := decide (MayS l)
theorem okS_yes {l : List SesZ} : okS l = true ↔ MayS l := by unfold okS; simp
theorem okS_no {l : List SesZ} (h : ¬ MayS l) : okS l = false := by unfold okS; simp [h]
theorem rises_far {l : List SesZ} (h : ∀ (k : Nat) x y, l[k]? = some x → l[k + 1]? = some y → x.cl < y.cl) : ∀ (d k : Nat) x y, l[k]? = some x → l[k + d]? = some y → x.cl + d ≤ y.cl
  | 0, k, x, y, h1, h2 => by
    rw [Nat.add_zero, h1] at h2
    cases h2
    simp
  | d + 1, k, x, y, h1, h2 => by
    have hk := (List.getElem?_eq_some_iff.1 h2).1
    obtain ⟨z, hz⟩ : ∃ z, l[k + d]? = some z := ⟨_, List.getElem?_eq_getElem (by omega)⟩
    have a := rises_far h d k x z h1 hz
    have b := h (k + d) z y hz (by rw [Nat.add_assoc]; exact h2)
    omega
theorem MayS.len {l : List SesZ} (h : MayS l) : l.length ≤ 3 := by
  rcases Nat.lt_or_ge 3 l.length with hl | hl
  · obtain ⟨x, hx⟩ : ∃ z, l[0]? = some z := ⟨_, List.getElem?_eq_getElem (by omega)⟩
    obtain ⟨y, hy⟩ : ∃ z, l[3]? = some z := ⟨_, List.getElem?_eq_getElem (by omega)⟩
    have := rises_far h.2 3 0 x y hx hy
    have h1 := (h.1 x (List.mem_of_getElem? hx)).1
    have h2 := (h.1 y (List.mem_of_getElem? hy)).1
    unfold Asked at h1 h2
    omega
  · exact hl
theorem mayS_rise {l : List SesZ} : MayS l ↔ ((∀ x ∈ l, (1 ≤ x.seq ∧ x.seq ≤ maxQ) ∧ x.rep.May) ∧ RiseW 1 3 (l.map (·.cl))) := by
  constructor
  · rintro ⟨h1, h2⟩
    refine ⟨fun x hx => ⟨(h1 x hx).1.2.2, (h1 x hx).2⟩, fun k x hk => ?_, fun k x y hx hy => ?_⟩
    · obtain ⟨z, hz, rfl⟩ := List.mem_map.1 (List.mem_of_getElem? hk)
      exact ⟨(h1 z hz).1.1, (h1 z hz).1.2.1⟩
    · rw [List.getElem?_map] at hx hy
      cases hx1 : l[k]? with
      | none => rw [hx1] at hx; cases hx
      | some a =>
        cases hy1 : l[k + 1]? with
        | none => rw [hy1] at hy; cases hy
        | some b =>
          rw [hx1] at hx; rw [hy1] at hy
          cases hx; cases hy
          exact h2 k a b hx1 hy1
  · rintro ⟨h1, h2, h3⟩
    refine ⟨fun x hx => ⟨?_, (h1 x hx).2⟩, fun k x y hx hy => h3 k x.cl y.cl (by rw [List.getElem?_map, hx]; rfl) (by rw [List.getElem?_map, hy]; rfl)⟩
    obtain ⟨k, hk⟩ := List.mem_iff_getElem?.1 hx
    obtain ⟨a, b⟩ := h2 k x.cl (by rw [List.getElem?_map, hk]; rfl)
    exact ⟨a, b, (h1 x hx).1⟩
/-! the three places -/
abbrev Slot := Option (Int × RepZ)
def slotR (c : Int) : Slot → List SesZ
  | none => []
  | some (q, r) => [⟨c, q, r⟩]
structure Tri where
  s1 : Slot
  s2 : Slot
  s3 : Slot
def Tri.rows (t : Tri) : List SesZ := slotR 1 t.s1 ++ (slotR 2 t.s2 ++ slotR 3 t.s3)
def SlotMay : Slot → Prop
  | none => True
  | some (q, r) => 1 ≤ q ∧ q ≤ maxQ ∧ r.May
def Tri.May (t : Tri) : Prop := SlotMay t.s1 ∧ SlotMay t.s2 ∧ SlotMay t.s3
def Tri.get (t : Tri) (c : Int) : Slot := if c = 1 then t.s1 else if c = 2 then t.s2 else t.s3
def Tri.put (t : Tri) (c : Int) (s : Slot) : Tri := if c = 1 then ⟨s, t.s2, t.s3⟩ else if c = 2 then ⟨t.s1, s, t.s3⟩ else ⟨t.s1, t.s2, s⟩
theorem tri_of {l : List SesZ} (h : MayS l) : ∃ t : Tri, t.May ∧ l = t.rows := by
  have hl := h.len
  obtain ⟨h1, h2⟩ := h
  have hc : ∀ c : Int, 1 ≤ c → c ≤ 3 → c = 1 ∨ c = 2 ∨ c = 3 := fun c _ _ => by omega
  match l, hl with
  | [], _ => exact ⟨⟨none, none, none⟩, ⟨trivial, trivial, trivial⟩, rfl⟩
  | [a], _ =>
    obtain ⟨⟨a1, a2, a3, a4⟩, ma⟩ := h1 a (by simp)
    obtain ⟨c, q, r⟩ := a
    simp only at a1 a2 a3 a4 ma
    rcases hc c a1 a2 with rfl | rfl | rfl
    · exact ⟨⟨some (q, r), none, none⟩, ⟨⟨a3, a4, ma⟩, trivial, trivial⟩, rfl⟩
    · exact ⟨⟨none, some (q, r), none⟩, ⟨trivial, ⟨a3, a4, ma⟩, trivial⟩, rfl⟩
    · exact ⟨⟨none, none, some (q, r)⟩, ⟨trivial, trivial, ⟨a3, a4, ma⟩⟩, rfl⟩
  | [a, b], _ =>
    obtain ⟨⟨a1, a2, a3, a4⟩, ma⟩ := h1 a (by simp)
    obtain ⟨⟨b1, b2, b3, b4⟩, mb⟩ := h1 b (by simp)
    have hab := h2 0 a b rfl rfl
    obtain ⟨c, q, r⟩ := a
    obtain ⟨c', q', r'⟩ := b
    simp only at a1 a2 a3 a4 ma b1 b2 b3 b4 mb hab
    rcases hc c a1 a2 with rfl | rfl | rfl <;> rcases hc c' b1 b2 with rfl | rfl | rfl <;> try (exfalso; omega)
    · exact ⟨⟨some (q, r), some (q', r'), none⟩, ⟨⟨a3, a4, ma⟩, ⟨b3, b4, mb⟩, trivial⟩, rfl⟩
    · exact ⟨⟨some (q, r), none, some (q', r')⟩, ⟨⟨a3, a4, ma⟩, trivial, ⟨b3, b4, mb⟩⟩, rfl⟩
    · exact ⟨⟨none, some (q, r), some (q', r')⟩, ⟨trivial, ⟨a3, a4, ma⟩, ⟨b3, b4, mb⟩⟩, rfl⟩
  | [a, b, d], _ =>
    obtain ⟨⟨a1, a2, a3, a4⟩, ma⟩ := h1 a (by simp)
    obtain ⟨⟨b1, b2, b3, b4⟩, mb⟩ := h1 b (by simp)
    obtain ⟨⟨d1, d2, d3, d4⟩, md⟩ := h1 d (by simp)
    have hab := h2 0 a b rfl rfl
    have hbd := h2 1 b d rfl rfl
    obtain ⟨c, q, r⟩ := a
    obtain ⟨c', q', r'⟩ := b
    obtain ⟨c'', q'', r''⟩ := d
    simp only at a1 a2 a3 a4 ma b1 b2 b3 b4 mb d1 d2 d3 d4 md hab hbd
    obtain rfl : c = 1 := by omega
    obtain rfl : c' = 2 := by omega
    obtain rfl : c'' = 3 := by omega
    exact ⟨⟨some (q, r), some (q', r'), some (q'', r'')⟩, ⟨⟨a3, a4, ma⟩, ⟨b3, b4, mb⟩, ⟨d3, d4, md⟩⟩, rfl⟩
theorem Tri.rows_may {t : Tri} (h : t.May) : MayS t.rows := by
  obtain ⟨s1, s2, s3⟩ := t
  obtain ⟨m1, m2, m3⟩ := h
  simp only at m1 m2 m3
  refine ⟨fun x hx => ?_, ?_⟩
  · unfold Tri.rows at hx
    simp only [List.mem_append] at hx
    rcases hx with hx | hx | hx
    · cases s1 with
      | none => cases hx
      | some p => obtain rfl := List.mem_singleton.1 hx; exact ⟨⟨by simp, by simp, m1.1, m1.2.1⟩, m1.2.2⟩
    · cases s2 with
      | none => cases hx
      | some p => obtain rfl := List.mem_singleton.1 hx; exact ⟨⟨by simp, by simp, m2.1, m2.2.1⟩, m2.2.2⟩
    · cases s3 with
      | none => cases hx
      | some p => obtain rfl := List.mem_singleton.1 hx; exact ⟨⟨by simp, by simp, m3.1, m3.2.1⟩, m3.2.2⟩
  · intro k x y hx hy
    have hk := (List.getElem?_eq_some_iff.1 hy).1
    cases s1 <;> cases s2 <;> cases s3 <;> simp [Tri.rows, slotR] at hk hx hy <;> (try omega)
    all_goals (rcases (show k = 0 ∨ k = 1 by omega) with rfl | rfl <;> simp at hx hy <;> (try omega) <;> (subst hx; subst hy; simp))
/-! whose row there is -/
def zeroR : RepZ := ⟨0, []⟩
def zeroS : SesZ := ⟨0, 0, zeroR⟩
def bareS (c : Int) : SesZ := ⟨c, 0, zeroR⟩
/-- The client's row (the document's answer). -/
def ofD (l : List SesZ) (c : Int) : SesZ := (l.find? fun x => x.cl == c).getD (bareS c)
/-- The client's row (the program's answer). -/
noncomputable def ofZ (l : List SesZ) (c : Int) : SesZ := if okS l = true ∧ 1 ≤ c ∧ c ≤ 3 then ofD l c else zeroS
def slotS (c : Int) : Slot → SesZ
  | none => bareS c
  | some (q, r) => ⟨c, q, r⟩
def lastQ : Slot → Int
  | none => 0
  | some (q, _) => q
theorem ofD_rows (t : Tri) (c : Int) (h1 : 1 ≤ c) (h2 : c ≤ 3) : ofD t.rows c = slotS c (t.get c) := by
  obtain ⟨s1, s2, s3⟩ := t
  rcases (show c = 1 ∨ c = 2 ∨ c = 3 by omega) with rfl | rfl | rfl <;> cases s1 <;> cases s2 <;> cases s3 <;> rfl
theorem slotS_seq (c : Int) (s : Slot) : (slotS c s).seq = lastQ s := by cases s <;> rfl
theorem slotS_cl (c : Int) (s : Slot) : (slotS c s).cl = c := by cases s <;> rfl
/-- What an asking is, by the number asked last. -/
def askZ (last q : Int) : Int := if q = last + 1 then 1 else if q = last then 2 else 3
noncomputable def judgeE (l : List SesZ) (c q : Int) : Int := if okS l = true then (if Asked c q then 0 else 2) else 220
noncomputable def judgeH (l : List SesZ) (c q : Int) : Int := if okS l = true ∧ Asked c q then askZ (ofD l c).seq q else 0
/-- The sessions in which a client has asked that last. -/
def putS (l : List SesZ) (x : SesZ) : List SesZ := l.takeWhile (fun y => decide (y.cl < x.cl)) ++ x :: l.dropWhile (fun y => decide (y.cl < x.cl + 1))
theorem putS_rows (t : Tri) (c q : Int) (r : RepZ) (h1 : 1 ≤ c) (h2 : c ≤ 3) : putS t.rows ⟨c, q, r⟩ = (t.put c (some (q, r))).rows := by
  obtain ⟨s1, s2, s3⟩ := t
  rcases (show c = 1 ∨ c = 2 ∨ c = 3 by omega) with rfl | rfl | rfl <;> cases s1 <;> cases s2 <;> cases s3 <;> rfl
noncomputable def keepE (l : List SesZ) (c q : Int) (r : RepZ) : Int :=
  if judgeE l c q ≠ 0 then judgeE l c q else if r.ok = true then (if judgeH l c q = 1 then 0 else 221) else 2
noncomputable def keepS (l : List SesZ) (c q : Int) (r : RepZ) : List SesZ := if keepE l c q r = 0 then putS l ⟨c, q, r⟩ else []
/-- What the document keeps: of each client its row, if it has asked. -/
def keepD (l : List SesZ) (x : SesZ) : List SesZ := [1, 2, 3].filterMap fun c : Int => let y := if c = x.cl then x else ofD l c; if 0 < y.seq then some y else none
theorem keepD_rows (t : Tri) (ht : t.May) (c q : Int) (r : RepZ) (h1 : 1 ≤ c) (h2 : c ≤ 3) (hq : 1 ≤ q) : keepD t.rows ⟨c, q, r⟩ = (t.put c (some (q, r))).rows := by
  have e1 := ofD_rows t 1 (by omega) (by omega)
  have e2 := ofD_rows t 2 (by omega) (by omega)
  have e3 := ofD_rows t 3 (by omega) (by omega)
  obtain ⟨s1, s2, s3⟩ := t
  obtain ⟨m1, m2, m3⟩ := ht
  have hq' : 0 < q := by omega
  unfold keepD
  have p : ∀ (d : Int) (s : Slot), SlotMay s → (if 0 < (slotS d s).seq then some (slotS d s) else none) = (slotR d s).head? := by
    intro d s hs
    cases s with
    | none => rfl
    | some v =>
      have : 0 < v.1 := by have := hs.1; omega
      simp [slotS, slotR, this]
  have p1 := p 1 s1 m1
  have p2 := p 2 s2 m2
  have p3 := p 3 s3 m3
  rcases (show c = 1 ∨ c = 2 ∨ c = 3 by omega) with rfl | rfl | rfl
  · simp only [List.filterMap_cons, List.filterMap_nil, e2, e3]
    simp [hq', Tri.get, p2, p3, Tri.put, Tri.rows]
    cases s2 <;> cases s3 <;> rfl
  · simp only [List.filterMap_cons, List.filterMap_nil, e1, e3]
    simp [hq', Tri.get, p1, p3, Tri.put, Tri.rows]
    cases s1 <;> cases s3 <;> rfl
  · simp only [List.filterMap_cons, List.filterMap_nil, e1, e2]
    simp [hq', Tri.get, p1, p2, Tri.put, Tri.rows]
    cases s1 <;> cases s2 <;> rfl
theorem Tri.put_may {t : Tri} (ht : t.May) (c q : Int) (r : RepZ) (h1 : 1 ≤ q) (h2 : q ≤ maxQ) (hr : r.May) : (t.put c (some (q, r))).May := by
  obtain ⟨m1, m2, m3⟩ := ht
  unfold Tri.put
  split
  · exact ⟨⟨h1, h2, hr⟩, m2, m3⟩
  · split
    · exact ⟨m1, ⟨h1, h2, hr⟩, m3⟩
    · exact ⟨m1, m2, ⟨h1, h2, hr⟩⟩
theorem Tri.get_put_same (t : Tri) (c : Int) (s : Slot) : (t.put c s).get c = s := by
  unfold Tri.put Tri.get
  repeat' split
  all_goals simp_all
theorem Tri.get_put_other (t : Tri) (c d : Int) (s : Slot) (c1 : 1 ≤ c) (c2 : c ≤ 3) (d1 : 1 ≤ d) (d2 : d ≤ 3) (h : c ≠ d) : (t.put c s).get d = t.get d := by
  rcases (show c = 1 ∨ c = 2 ∨ c = 3 by omega) with rfl | rfl | rfl <;> rcases (show d = 1 ∨ d = 2 ∨ d = 3 by omega) with rfl | rfl | rfl <;> first | (exfalso; omega) | rfl
theorem Tri.put_comm (t : Tri) (c d : Int) (s s' : Slot) (c1 : 1 ≤ c) (c2 : c ≤ 3) (d1 : 1 ≤ d) (d2 : d ≤ 3) (h : c ≠ d) : (t.put c s).put d s' = (t.put d s').put c s := by
  rcases (show c = 1 ∨ c = 2 ∨ c = 3 by omega) with rfl | rfl | rfl <;> rcases (show d = 1 ∨ d = 2 ∨ d = 3 by omega) with rfl | rfl | rfl <;> first | (exfalso; omega) | rfl
/-! what is kept, said of the three places -/
theorem keepE_eq {l : List SesZ} {c q : Int} {r : RepZ} (hok : okS l = true) (ha : Asked c q) : keepE l c q r = if r.ok = true then (if askZ (ofD l c).seq q = 1 then 0 else 221) else 2 := by
  have hj : judgeE l c q = 0 := by unfold judgeE; rw [if_pos hok, if_pos ha]
  have hh : judgeH l c q = askZ (ofD l c).seq q := by unfold judgeH; rw [if_pos ⟨hok, ha⟩]
  unfold keepE
  rw [hj, hh, if_neg (fun h => h rfl)]
theorem keepE_out {l : List SesZ} {c q : Int} {r : RepZ} (hok : okS l = true) (ha : ¬ Asked c q) : keepE l c q r = 2 := by
  have hj : judgeE l c q = 2 := by unfold judgeE; rw [if_pos hok, if_neg ha]
  unfold keepE
  rw [hj, if_pos (by decide)]
theorem keepE_bad {l : List SesZ} {c q : Int} {r : RepZ} (hok : ¬ okS l = true) : keepE l c q r = 220 := by
  have hj : judgeE l c q = 220 := by unfold judgeE; rw [if_neg hok]
  unfold keepE
  rw [hj, if_pos (by decide)]
theorem askZ_one {a q : Int} (h : askZ a q = 1) : q = a + 1 := by
  unfold askZ at h
  split at h
  · assumption
  · split at h <;> exact absurd h (by decide)
theorem keep_rows {t : Tri} (ht : t.May) {c q : Int} {r : RepZ} (h : keepE t.rows c q r = 0) : Asked c q ∧ r.May ∧ q = lastQ (t.get c) + 1 ∧ keepS t.rows c q r = (t.put c (some (q, r))).rows ∧ (t.put c (some (q, r))).May := by
  have hok : okS t.rows = true := okS_yes.2 (Tri.rows_may ht)
  by_cases ha : Asked c q
  · have hz := ha
    obtain ⟨c1, c2, q1, q2⟩ := hz
    have hk := h
    rw [keepE_eq hok ha] at h
    split at h
    · rename_i hr
      split at h
      · rename_i hq
        have hr' := RepZ.ok_yes.1 hr
        rw [ofD_rows t c c1 c2, slotS_seq] at hq
        refine ⟨ha, hr', askZ_one hq, ?_, Tri.put_may ht c q r q1 q2 hr'⟩
        unfold keepS
        rw [if_pos hk, putS_rows t c q r c1 c2]
      · exact absurd h (by decide)
    · exact absurd h (by decide)
  · rw [keepE_out hok ha] at h
    exact absurd h (by decide)
theorem keep_may {l : List SesZ} {c q : Int} {r : RepZ} (h : keepE l c q r = 0) : MayS l := by
  by_cases hok : okS l = true
  · exact okS_yes.1 hok
  · rw [keepE_bad hok] at h
    exact absurd h (by decide)
theorem keep_zero {t : Tri} (ht : t.May) {c q : Int} {r : RepZ} (ha : Asked c q) (hr : r.May) (hq : q = lastQ (t.get c) + 1) : keepE t.rows c q r = 0 := by
  have hok : okS t.rows = true := okS_yes.2 (Tri.rows_may ht)
  rw [keepE_eq hok ha, if_pos (RepZ.ok_yes.2 hr), ofD_rows t c ha.1 ha.2.1, slotS_seq, if_pos (by unfold askZ; rw [if_pos hq])]
theorem ofZ_rows {t : Tri} (ht : t.May) {c : Int} (h1 : 1 ≤ c) (h2 : c ≤ 3) : ofZ t.rows c = slotS c (t.get c) := by
  unfold ofZ
  rw [if_pos ⟨okS_yes.2 (Tri.rows_may ht), h1, h2⟩, ofD_rows t c h1 h2]
theorem ofZ_out {l : List SesZ} {c : Int} (h : ¬ (1 ≤ c ∧ c ≤ 3)) : ofZ l c = zeroS := by
  unfold ofZ
  rw [if_neg (fun hh => h hh.2)]
/-! what can be gone through -/
def fewR (r : RepZ) : RepZ := ⟨r.err, r.names.take 14⟩
def fewS (x : SesZ) : SesZ := ⟨x.cl, x.seq, fewR x.rep⟩
def fewL (l : List SesZ) : List SesZ := (l.take 5).map fewS
theorem fewR_may {r : RepZ} (h : r.May) : fewR r = r := by
  obtain ⟨e, n⟩ := r
  have := h.2.2.1
  simp only at this
  unfold fewR
  rw [List.take_of_length_le (by simp only; omega)]
def Few (l : List SesZ) : Prop := l.length ≤ 5 ∧ ∀ x ∈ l, x.rep.names.length ≤ 14
theorem few_few (l : List SesZ) : Few (fewL l) := by
  refine ⟨by unfold fewL; rw [List.length_map, List.length_take]; omega, fun x hx => ?_⟩
  obtain ⟨y, _, rfl⟩ := List.mem_map.1 hx
  show (y.rep.names.take 14).length ≤ 14
  rw [List.length_take]; omega
theorem few_same {l : List SesZ} (h : Few l) : fewL l = l := by
  unfold fewL
  rw [List.take_of_length_le h.1]
  have : l.map fewS = l.map id := List.map_congr_left fun x hx => by
    obtain ⟨c, q, e, n⟩ := x
    have := h.2 _ hx
    simp only at this
    show SesZ.mk c q ⟨e, n.take 14⟩ = SesZ.mk c q ⟨e, n⟩
    rw [List.take_of_length_le this]
  rw [this, List.map_id]
theorem may_few {l : List SesZ} (h : MayS l) : Few l := ⟨by have := h.len; omega, fun x hx => by have := (h.1 x hx).2.2.2.1; omega⟩
/-! same -/
theorem rep_eq {a b : RepZ} : a = b ↔ a.err = b.err ∧ a.names = b.names := by cases a; cases b; simp
theorem ses_eq {a b : SesZ} : a = b ↔ a.cl = b.cl ∧ a.seq = b.seq ∧ a.rep = b.rep := by cases a; cases b; simp
end Go.Proofs.Ytgnfoncokjglbaa
