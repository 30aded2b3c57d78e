/- The times of a cron, plain: its days, the times of a day, rising. -/
import Derived.Test.YtkimbmifabpppaaDoorK5
import Derived.Test.YtkimbmifabpppaaDoorKHNext
namespace Go.Proofs.YtkimbmifabpppaaDoor

/-- The days that fit. -/
def fitN (L : List (BitVec 64)) (n : Int) : Prop := ∃ y m d : Int, D.RightZ y m d ∧ D.numZ y m d = n ∧ fitD L y m d = true
theorem fitN_is {L : List (BitVec 64)} {y m d : Int} (h : D.RightZ y m d) : fitN L (D.numZ y m d) ↔ fitD L y m d = true := by
  constructor
  · rintro ⟨y', m', d', h', hn, hf⟩
    obtain ⟨rfl, rfl, rfl⟩ := D.num_inj h' h hn
    exact hf
  · exact fun hf => ⟨y, m, d, h, rfl, hf⟩
/-- The times of a day, by hours and minutes. -/
def onW (hs ms : List Int) (n : Int) : List Int := hs.flatMap fun h => ms.map fun m => n * 86400 + h * 3600 + m * 60
def ints (x : BitVec 64) : List Int := (elems x).map fun k : Nat => (k : Int)
def hourL (L : List (BitVec 64)) : List Int := ints (L.getD 1 0#64)
def minL (L : List (BitVec 64)) : List Int := ints (L.getD 0 0#64)
def dayL (L : List (BitVec 64)) (n : Int) : List Int := onW (hourL L) (minL L) n
theorem mem_onW {hs ms : List Int} {n u : Int} : u ∈ onW hs ms n ↔ ∃ h ∈ hs, ∃ m ∈ ms, u = n * 86400 + h * 3600 + m * 60 := by
  unfold onW
  rw [List.mem_flatMap]
  constructor
  · rintro ⟨h, hh, hu⟩
    obtain ⟨m, hm, rfl⟩ := List.mem_map.1 hu
    exact ⟨h, hh, m, hm, rfl⟩
  · rintro ⟨h, hh, m, hm, rfl⟩
    exact ⟨h, hh, List.mem_map.2 ⟨m, hm, rfl⟩⟩
theorem onW_rev (hs ms : List Int) (n : Int) : onW hs.reverse ms.reverse n = (onW hs ms n).reverse := by
  unfold onW
  rw [List.reverse_flatMap]
  congr 1
  funext h
  simp
theorem ints_sorted (x : BitVec 64) : (ints x).Pairwise (· < ·) := by
  unfold ints
  rw [List.pairwise_map]
  exact (elems_sorted x).imp (by intro a b h; omega)
theorem mem_ints {x : BitVec 64} {k : Int} : k ∈ ints x ↔ hasB x k = true := by
  unfold ints
  rw [List.mem_map]
  constructor
  · rintro ⟨i, hi, rfl⟩
    rw [hasB_nat]; exact mem_elems.1 hi
  · intro h
    unfold hasB at h
    rw [Bool.and_eq_true, decide_eq_true_iff] at h
    exact ⟨k.toNat, mem_elems.2 h.2, by omega⟩
theorem ints_in {L : List (BitVec 64)} (hk : crB L = true) {k : Nat} (h5 : k < 5) {i : Int} (h : i ∈ ints (L.getD k 0#64)) : (loK k : Int) ≤ i ∧ i ≤ hiK k := by
  have hf := ((fieldB_iff _ _).1 (crB_at hk h5)).2
  unfold ints at h
  obtain ⟨j, hj, rfl⟩ := List.mem_map.1 h
  have := hf j (mem_elems.1 hj)
  omega
theorem ints_some {L : List (BitVec 64)} (hk : crB L = true) {k : Nat} (h5 : k < 5) : ∃ i, i ∈ ints (L.getD k 0#64) := by
  have hf := ((fieldB_iff _ _).1 (crB_at hk h5)).1
  generalize L.getD k 0#64 = x at *
  cases he : (elems x)[0]? with
  | none => exact absurd (elems_nil he) hf
  | some j => exact ⟨(j : Int), List.mem_map.2 ⟨j, List.mem_of_getElem? he, rfl⟩⟩
theorem hour_in {L : List (BitVec 64)} (hk : crB L = true) {h : Int} (hh : h ∈ hourL L) : 0 ≤ h ∧ h ≤ 23 := by
  have := ints_in hk (k := 1) (by omega) hh
  simpa [loK, hiK] using this
theorem min_in {L : List (BitVec 64)} (hk : crB L = true) {m : Int} (hm : m ∈ minL L) : 0 ≤ m ∧ m ≤ 59 := by
  have := ints_in hk (k := 0) (by omega) hm
  simpa [loK, hiK] using this
theorem dayL_in {L : List (BitVec 64)} (hk : crB L = true) {n u : Int} (hu : u ∈ dayL L n) : u / 86400 = n := by
  obtain ⟨h, hh, m, hm, rfl⟩ := mem_onW.1 hu
  have := hour_in hk hh
  have := min_in hk hm
  omega
theorem dayL_some {L : List (BitVec 64)} (hk : crB L = true) (n : Int) : ∃ u, u ∈ dayL L n := by
  obtain ⟨h, hh⟩ := ints_some hk (k := 1) (by omega)
  obtain ⟨m, hm⟩ := ints_some hk (k := 0) (by omega)
  exact ⟨_, mem_onW.2 ⟨h, hh, m, hm, rfl⟩⟩
theorem dayL_sorted {L : List (BitVec 64)} (hk : crB L = true) (n : Int) : (dayL L n).Pairwise (· < ·) := by
  unfold dayL onW
  rw [List.pairwise_flatMap]
  constructor
  · intro h _
    rw [List.pairwise_map]
    exact (ints_sorted _).imp (by intro a b h; omega)
  · refine (ints_sorted (L.getD 1 0#64)).imp_of_mem ?_
    intro a b _ _ hab x hx y hy
    obtain ⟨m, hm, rfl⟩ := List.mem_map.1 hx
    obtain ⟨m', hm', rfl⟩ := List.mem_map.1 hy
    have := min_in hk hm
    have := min_in hk hm'
    omega
theorem ints_64 (x : BitVec 64) : (ints x).length ≤ 64 := by unfold ints; rw [List.length_map]; rw [pop_eq]; exact pop_le x
/-- The cron's times. -/
def TC (L : List (BitVec 64)) (u : Int) : Prop := crB L = true ∧ D.TimeZ u ∧ fitN L (u / 86400) ∧ u ∈ dayL L (u / 86400)
theorem TC_times (L : List (BitVec 64)) : TimesOf (TC L) := fun _ h => h.2.1
/-- A day there is, that fits. -/
def DayOk (L : List (BitVec 64)) (n : Int) : Prop := 0 ≤ n ∧ n ≤ 2932896 ∧ fitN L n
theorem DayOk.times {L : List (BitVec 64)} (hk : crB L = true) {n : Int} (h : DayOk L n) {u : Int} (hu : u ∈ dayL L n) : TC L u := by
  have hn := dayL_in hk hu
  have hin : n * 86400 ≤ u ∧ u ≤ n * 86400 + 86399 := by omega
  refine ⟨hk, ⟨by have := h.1; omega, by have := h.2.1; omega⟩, by rw [hn]; exact h.2.2, by rw [hn]; exact hu⟩
theorem TC.day {L : List (BitVec 64)} {u : Int} (h : TC L u) : DayOk L (u / 86400) := by
  obtain ⟨_, ⟨h0, h1⟩, hf, _⟩ := h
  exact ⟨by omega, by omega, hf⟩
theorem dayOf_in (t : Int) : 0 ≤ dayOf t ∧ dayOf t ≤ 2932896 := by
  unfold dayOf
  split
  · omega
  · split <;> omega
/-- None of so many days has a time that is sought. -/
def NoneTo (L : List (BitVec 64)) (first way : Int) (P : Int → Prop) (k : Nat) : Prop := ∀ j : Nat, j < k → DayOk L (first + way * j) → ∀ u ∈ dayL L (first + way * j), ¬ P u
/-- The day's times, in the order of the way. -/
def wayL (way : Int) (l : List Int) : List Int := if way = -1 then l.reverse else l
/-- The first that is sought. -/
def Hit (L : List (BitVec 64)) (first way : Int) (P : Int → Prop) (k : Nat) (t : Int) : Prop :=
  DayOk L (first + way * k) ∧ P t ∧ ∃ pre post, wayL way (dayL L (first + way * k)) = pre ++ t :: post ∧ ∀ x ∈ pre, ¬ P x
theorem NoneTo.zero {L : List (BitVec 64)} {first way : Int} {P : Int → Prop} : NoneTo L first way P 0 := fun j hj => absurd hj (by omega)
theorem NoneTo.succ {L : List (BitVec 64)} {first way : Int} {P : Int → Prop} {k : Nat} (h : NoneTo L first way P k) (hk : DayOk L (first + way * k) → ∀ u ∈ dayL L (first + way * k), ¬ P u) : NoneTo L first way P (k + 1) := by
  intro j hj
  by_cases e : j = k
  · subst e; exact hk
  · exact h j (by omega)
theorem mem_wayL {way : Int} {l : List Int} {u : Int} : u ∈ wayL way l ↔ u ∈ l := by unfold wayL; split <;> simp
theorem next_hit {L : List (BitVec 64)} (hk : crB L = true) {a t : Int} {k : Nat} (hk2 : k ≤ 2922) (hn : NoneTo L (dayOf a) 1 (fun u => a < u) k) (h : Hit L (dayOf a) 1 (fun u => a < u) k t) : IsNext (TC L) a t := by
  obtain ⟨hd, hp, pre, post, he, hpre⟩ := h
  have he' : dayL L (dayOf a + 1 * k) = pre ++ t :: post := by simpa [wayL] using he
  have hmem : t ∈ dayL L (dayOf a + 1 * k) := by rw [he']; simp
  have hday := dayL_in hk hmem
  refine ⟨hd.times hk hmem, hp, by omega, fun u hu hau => ?_⟩
  have hud := hu.day
  have hz := dayOf_in a
  have hge : dayOf a ≤ u / 86400 := by
    obtain ⟨_, ⟨u0, u1⟩, _⟩ := hu
    unfold dayOf
    split
    · omega
    · split <;> omega
  obtain ⟨j, hj⟩ : ∃ j : Nat, u / 86400 = dayOf a + 1 * (j : Int) := ⟨(u / 86400 - dayOf a).toNat, by omega⟩
  rcases Nat.lt_trichotomy j k with h1 | h1 | h1
  · exact absurd hau (hn j h1 (hj ▸ hud) u (hj ▸ hu.2.2.2))
  · subst h1
    have hm : u ∈ dayL L (dayOf a + 1 * (j : Int)) := hj ▸ hu.2.2.2
    rw [he'] at hm
    have hs := dayL_sorted hk (dayOf a + 1 * (j : Int))
    rw [he', List.pairwise_append] at hs
    rcases List.mem_append.1 hm with hm | hm
    · exact absurd hau (hpre u hm)
    · rcases List.mem_cons.1 hm with rfl | hm
      · exact Int.le_refl _
      · exact Int.le_of_lt (List.rel_of_pairwise_cons hs.2.1 hm)
  · omega
theorem next_miss {L : List (BitVec 64)} {a : Int} (hn : NoneTo L (dayOf a) 1 (fun u => a < u) 2923) : NoNext (TC L) a := by
  intro u hu hau
  apply Int.not_le.1
  intro hle
  have hge : dayOf a ≤ u / 86400 := by
    obtain ⟨_, ⟨u0, u1⟩, _⟩ := hu
    unfold dayOf
    split
    · omega
    · split <;> omega
  obtain ⟨j, hj⟩ : ∃ j : Nat, u / 86400 = dayOf a + 1 * (j : Int) := ⟨(u / 86400 - dayOf a).toNat, by omega⟩
  exact hn j (by omega) (hj ▸ hu.day) u (hj ▸ hu.2.2.2) hau
theorem last_hit {L : List (BitVec 64)} (hk : crB L = true) {b t : Int} {k : Nat} (hk2 : k ≤ 2922) (hn : NoneTo L (dayOf b) (-1) (fun u => u ≤ b) k) (h : Hit L (dayOf b) (-1) (fun u => u ≤ b) k t) : IsLast (TC L) b t := by
  obtain ⟨hd, hp, pre, post, he, hpre⟩ := h
  have he' : (dayL L (dayOf b + -1 * k)).reverse = pre ++ t :: post := by simpa [wayL] using he
  have hmem : t ∈ dayL L (dayOf b + -1 * k) := by rw [← List.mem_reverse, he']; simp
  have hday := dayL_in hk hmem
  refine ⟨hd.times hk hmem, hp, by omega, fun u hu hub => ?_⟩
  have hud := hu.day
  have hge : u / 86400 ≤ dayOf b := by
    obtain ⟨_, ⟨u0, u1⟩, _⟩ := hu
    unfold dayOf
    split
    · omega
    · split <;> omega
  obtain ⟨j, hj⟩ : ∃ j : Nat, u / 86400 = dayOf b + -1 * (j : Int) := ⟨(dayOf b - u / 86400).toNat, by omega⟩
  rcases Nat.lt_trichotomy j k with h1 | h1 | h1
  · exact absurd hub (hn j h1 (hj ▸ hud) u (hj ▸ hu.2.2.2))
  · subst h1
    have hm : u ∈ (dayL L (dayOf b + -1 * (j : Int))).reverse := by rw [List.mem_reverse]; exact hj ▸ hu.2.2.2
    rw [he'] at hm
    have hs := List.pairwise_reverse.2 (dayL_sorted hk (dayOf b + -1 * (j : Int)))
    rw [he', List.pairwise_append] at hs
    rcases List.mem_append.1 hm with hm | hm
    · exact absurd hub (hpre u hm)
    · rcases List.mem_cons.1 hm with rfl | hm
      · exact Int.le_refl _
      · exact Int.le_of_lt (List.rel_of_pairwise_cons hs.2.1 hm)
  · omega
theorem last_miss {L : List (BitVec 64)} {b : Int} (hn : NoneTo L (dayOf b) (-1) (fun u => u ≤ b) 2923) : NoLast (TC L) b := by
  intro u hu hub
  apply Int.not_le.1
  intro hle
  have hge : u / 86400 ≤ dayOf b := by
    obtain ⟨_, ⟨u0, u1⟩, _⟩ := hu
    unfold dayOf
    split
    · omega
    · split <;> omega
  obtain ⟨j, hj⟩ : ∃ j : Nat, u / 86400 = dayOf b + -1 * (j : Int) := ⟨(dayOf b - u / 86400).toNat, by omega⟩
  exact hn j (by omega) (hj ▸ hu.day) u (hj ▸ hu.2.2.2) hub
end Go.Proofs.YtkimbmifabpppaaDoor
