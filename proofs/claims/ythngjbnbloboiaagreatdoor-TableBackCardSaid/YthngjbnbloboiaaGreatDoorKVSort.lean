/- slices.SortFunc of dues, at most 12: insertion sort: walked. -/
import Derived.Test.YthngjbnbloboiaaGreatDoorK5
import Derived.Test.YthngjbnbloboiaaGreatDoorKVOrder
import Derived.LoopTactic
namespace Go.Proofs.YthngjbnbloboiaaGreatDoor
open Go.RowKit

theorem le_trans9 {a b c : Int × Int} (h : befQ b a = false) (g : befQ c b = false) : befQ c a = false := by
  rw [befQ_not] at *; omega
/-- In order so far. -/
def PreQ (m : List (Int × Int)) (i : Nat) : Prop := ∀ (p q : Nat) (dp dq : Int × Int), p < q → q < i → m[p]? = some dp → m[q]? = some dq → befQ dq dp = false
/-- In order up to i, but for the one at j, which no later one is less than. -/
def InsQ (m : List (Int × Int)) (i j : Nat) : Prop := (∀ (p q : Nat) (dp dq : Int × Int), p < q → q ≤ i → p ≠ j → q ≠ j → m[p]? = some dp → m[q]? = some dq → befQ dq dp = false) ∧ ∀ (q : Nat) (dj dq : Int × Int), j < q → q ≤ i → m[j]? = some dj → m[q]? = some dq → befQ dq dj = false
theorem InsQ.start {m : List (Int × Int)} {i : Nat} (h : PreQ m i) : InsQ m i i :=
  ⟨fun p q dp dq h1 h2 _ h4 hp hq => h p q dp dq h1 (by omega) hp hq, fun q dj dq h1 h2 => absurd h1 (by omega)⟩
theorem InsQ.zero {m : List (Int × Int)} {i : Nat} (h : InsQ m i 0) : PreQ m (i + 1) := fun p q dp dq h1 h2 hp hq => by
  by_cases e : p = 0
  · subst e; exact h.2 q dp dq h1 (by omega) hp hq
  · exact h.1 p q dp dq h1 (by omega) e (by omega) hp hq
theorem InsQ.stop {m : List (Int × Int)} {i j : Nat} (h : InsQ m i (j + 1)) {a b : Int × Int} (ha : m[j]? = some a) (hb : m[j + 1]? = some b) (hl : befQ b a = false) : PreQ m (i + 1) := fun p q dp dq h1 h2 hp hq => by
  by_cases e : p = j + 1
  · subst e; exact h.2 q dp dq h1 (by omega) hp hq
  · by_cases e2 : q = j + 1
    · subst e2
      rw [hb] at hq; cases hq
      by_cases e3 : p = j
      · subst e3
        rw [ha] at hp; cases hp
        exact hl
      · exact le_trans9 (h.1 p j dp a (by omega) (by omega) e (by omega) hp ha) hl
    · exact h.1 p q dp dq h1 (by omega) e e2 hp hq
theorem swap_at {m : List (Int × Int)} {j : Nat} {a b : Int × Int} (ha : m[j]? = some a) (hb : m[j + 1]? = some b) (p : Nat) : ((m.set (j + 1) a).set j b)[p]? = if p = j then some b else if p = j + 1 then some a else m[p]? := by
  have h1 := (List.getElem?_eq_some_iff.1 ha).1
  have h2 := (List.getElem?_eq_some_iff.1 hb).1
  rw [List.getElem?_set, List.getElem?_set]
  by_cases e : p = j
  · subst e; rw [if_pos rfl, if_pos rfl, if_pos (by rw [List.length_set]; exact h1)]
  · rw [if_neg (Ne.symm e), if_neg e]
    by_cases e2 : p = j + 1
    · subst e2; rw [if_pos rfl, if_pos rfl, if_pos h2]
    · rw [if_neg (Ne.symm e2), if_neg e2]
theorem InsQ.swap {m : List (Int × Int)} {i j : Nat} (h : InsQ m i (j + 1)) (hj : j + 1 ≤ i) {a b : Int × Int} (ha : m[j]? = some a) (hb : m[j + 1]? = some b) (hl : befQ b a = true) : InsQ ((m.set (j + 1) a).set j b) i j := by
  have hba : befQ a b = false := by rw [befQ_iff] at hl; rw [befQ_not]; omega
  refine ⟨fun p q dp dq h1 h2 h3 h4 hp hq => ?_, fun q dj dq h1 h2 hp hq => ?_⟩
  · rw [swap_at ha hb, if_neg h3] at hp
    rw [swap_at ha hb, if_neg h4] at hq
    by_cases e : p = j + 1
    · subst e
      rw [if_pos rfl] at hp; cases hp
      rw [if_neg (by omega)] at hq
      exact h.1 j q a dq (by omega) h2 (by omega) (by omega) ha hq
    · rw [if_neg e] at hp
      by_cases e2 : q = j + 1
      · subst e2
        rw [if_pos rfl] at hq; cases hq
        exact h.1 p j dp a (by omega) (by omega) (by omega) (by omega) hp ha
      · rw [if_neg e2] at hq
        exact h.1 p q dp dq h1 h2 e e2 hp hq
  · rw [swap_at ha hb, if_pos rfl] at hp; cases hp
    rw [swap_at ha hb, if_neg (by omega)] at hq
    by_cases e : q = j + 1
    · subst e
      rw [if_pos rfl] at hq; cases hq
      exact hba
    · rw [if_neg e] at hq
      exact h.2 q b dq (by omega) h2 hb hq
theorem swap_perm {m : List (Int × Int)} {j : Nat} {a b : Int × Int} (ha : m[j]? = some a) (hb : m[j + 1]? = some b) : ((m.set (j + 1) a).set j b).Perm m := by
  obtain ⟨h1, rfl⟩ := List.getElem?_eq_some_iff.1 ha
  obtain ⟨h2, rfl⟩ := List.getElem?_eq_some_iff.1 hb
  exact List.set_set_perm h2 h1
/-- In order. -/
def LeQ (l : List (Int × Int)) : Prop := l.Pairwise (fun a b => befQ b a = false)
theorem PreQ.le {m : List (Int × Int)} {i : Nat} (h : PreQ m i) (hi : m.length ≤ i) : LeQ m :=
  List.pairwise_iff_getElem.2 fun p q hp hq hpq => h p q _ _ hpq (by omega) (List.getElem?_eq_getElem hp) (List.getElem?_eq_getElem hq)
/-- Dues in their block: what they read, and that they may be written. -/
structure DueAt (w : World) (g n cap : Nat) (l : List (Int × Int)) : Prop where
  len : l.length = n
  le : n ≤ cap
  top : cap ≤ maxLen
  cells : ∃ cur : Array Value, w.heap[g]? = some (.cells cur 55 (0, 0)) ∧ cur.size = cap * 2 ∧ cur.toList.take (n * 2) = l.flatMap denc
theorem OwnD.at_due {w : World} {base : Nat} {v : Value} {l : List (Int × Int)} (h : OwnD w base v l) : (v = .slice none 0 0 ∧ l = []) ∨ ∃ g cap, v = .slice (some ⟨g, 0, none⟩) l.length cap ∧ base ≤ g ∧ DueAt w g l.length cap l := by
  rcases h.2 with ⟨hv, h0⟩ | ⟨g, cap, cur, hv, hg, hh, hn, hm, hs, ht⟩
  · exact .inl ⟨hv, List.length_eq_zero_iff.1 h0⟩
  · exact .inr ⟨g, cap, hv, hg, rfl, hn, hm, cur, hh, hs, ht⟩
section
variable {w w' : World} {g n cap : Nat} {l : List (Int × Int)}
theorem DueAt.lt (h : DueAt w g n cap l) : g < w.heap.size := by
  obtain ⟨cur, hh, _⟩ := h.cells
  exact (Array.getElem?_eq_some_iff.1 hh).1
theorem DueAt.on (h : DueAt w g n cap l) (hb : Below w.heap.size w w') : DueAt w' g n cap l := by
  obtain ⟨cur, hh, hs, ht⟩ := h.cells
  exact ⟨h.len, h.le, h.top, cur, (hb.block g h.lt).trans hh, hs, ht⟩
theorem DueAt.frozen (h : DueAt w g n cap l) (j : Nat) : w.frozen? ⟨g, j, none⟩ = false := by
  obtain ⟨cur, hh, _⟩ := h.cells
  simp [World.frozen?, hh]
theorem DueAt.cell (h : DueAt w g n cap l) {k : Nat} {d : Int × Int} (hk : l[k]? = some d) : w.cell? ⟨g, k * 2, none⟩ = some (.int .i64 d.1) ∧ w.cell? ⟨g, k * 2 + 1, none⟩ = some (.int .u64 d.2) := by
  obtain ⟨cur, hh, hs, ht⟩ := h.cells
  obtain ⟨f0, f1⟩ := dflat_at l k d hk
  have hkl := (List.getElem?_eq_some_iff.1 hk).1
  have hln := h.len
  rw [← ht, List.getElem?_take, if_pos (by omega)] at f0
  rw [← ht, List.getElem?_take, if_pos (by omega)] at f1
  refine ⟨?_, ?_⟩
  · rw [cell_of_row w g (k * 2) cur _ (0, 0) hh]; simpa using f0
  · rw [cell_of_row w g (k * 2 + 1) cur _ (0, 0) hh]; simpa using f1
end
theorem DueAt.drewN {w : World} {g n cap : Nat} {l : List (Int × Int)} (h : DueAt w g n cap l) (k : Nat) : DueAt (w.drewN k) g n cap l := ⟨h.len, h.le, h.top, h.cells⟩
theorem sole_drewN {g B : Nat} {a b : World} (h : Sole g B a b) (n : Nat) : Sole g B a (b.drewN n) := ⟨h.os, h.tape, h.output, h.size, h.block⟩
theorem dueflat_set : ∀ (l : List (Int × Int)) (j : Nat) (d : Int × Int), j < l.length → ((l.flatMap denc).set (j * 2) (.int .i64 d.1)).set (j * 2 + 1) (.int .u64 d.2) = (l.set j d).flatMap denc
  | [], _, _, h => by simp at h
  | a :: l, 0, d, _ => by simp [denc]
  | a :: l, j + 1, d, h => by
    have ih := dueflat_set l j d (by simpa using h)
    rw [List.flatMap_cons, show denc a = [.int .i64 a.1, .int .u64 a.2] from rfl, List.set_cons_succ, List.flatMap_cons, ← ih]
    rw [show (j + 1) * 2 = j * 2 + 1 + 1 by omega]
    simp [denc]
theorem DueAt.put {w : World} {g n cap : Nat} {l : List (Int × Int)} (h : DueAt w g n cap l) {j : Nat} (hj : j < n) (d : Int × Int) : DueAt ((w.setCell ⟨g, j * 2, none⟩ (.int .i64 d.1)).setCell ⟨g, j * 2 + 1, none⟩ (.int .u64 d.2)) g n cap (l.set j d) := by
  obtain ⟨cur, hh, hs, ht⟩ := h.cells
  have hjl : j < l.length := by rw [h.len]; exact hj
  refine ⟨by rw [List.length_set, h.len], h.le, h.top, (cur.setIfInBounds (j * 2) (.int .i64 d.1)).setIfInBounds (j * 2 + 1) (.int .u64 d.2), ?_, by simp [hs], ?_⟩
  · simp [World.setCell, Array.getElem?_modify, hh]
  · rw [← dueflat_set l j d hjl, ← ht]
    simp only [Array.toList_setIfInBounds, List.take_set]
/-- What sorting comes to. -/
def SortedOf (l : List (Int × Int)) (g n cap : Nat) (w w' : World) : Prop := ∃ l', DueAt w' g n cap l' ∧ l'.Perm l ∧ LeQ l' ∧ Sole g w.heap.size w w'
set_option maxRecDepth 100000 in
set_option maxHeartbeats 4000000 in
theorem inssort_any (g n cap : Nat) (l : List (Int × Int)) (w : World) (h : DueAt w g n cap l) (hn : n ≤ 12) :
    Calls Tryz.prog 78 #[.slice (some ⟨g, 0, none⟩) n cap, .int .i64 0, .int .i64 (n : Int), .func (.func 39) #[] #[]] w fun e w' => (∃ v, e = .returned v) ∧ SortedOf l g n cap w w' := by
  have hcap := h.le
  have HD := Lib.hid h; have HLN := Lib.hid h.len
  clear h
  go_enter Tryz.func78, Tryz.ntmps78
  go_wp2_with fail
  go_loopw [8] (fun iv wr => ∃ (i : Nat) (m : List (Int × Int)), 1 ≤ i ∧ (i ≤ n ∨ i = 1) ∧ iv = .int .i64 (i : Int) ∧ Hid (DueAt wr g n cap m) ∧ Hid (m.Perm l) ∧ Hid (PreQ m i) ∧ Hid (Sole g w.heap.size w wr)) (fun iv _ => n + 1 - (intOf iv).toNat)
  case atStart => exact ⟨1, l, Nat.le_refl _, .inr rfl, rfl, HD, Lib.hid (.refl _), Lib.hid (fun p q dp dq h1 h2 => absurd h1 (by omega)), Lib.hid (Sole.of (Below.refl _ _))⟩
  case round =>
    obtain ⟨i, m, hi1, hin, rfl, HM, HP, HQ, HS⟩ := hrel
    by_cases hlt : i < n
    · generalize hwe : wr = we at *
      clear hwe
      have g1 : (i : Int) < (n : Int) := by omega
      go_wp2_with fail
      go_loopw [9] (fun jv wr => ∃ (j : Nat) (m : List (Int × Int)), j ≤ i ∧ jv = .int .i64 (j : Int) ∧ Hid (DueAt wr g n cap m) ∧ Hid (m.Perm l) ∧ Hid (InsQ m i j) ∧ Hid (Sole g w.heap.size w wr)) (fun jv _ => (intOf jv).toNat)
      case atStart => exact ⟨i, m, Nat.le_refl _, rfl, HM, HP, Lib.hid (.start HQ.out), HS⟩
      case round =>
        clear HM HP HQ HS
        obtain ⟨j, m, hji, rfl, HM, HP, HQ, HS⟩ := hrel
        cases j with
        | zero =>
          have HQ2 := Lib.hid HQ.out.zero
          have d0 : decide ((0 : Int) < (0 : Int)) = false := by decide
          go_wp2_with fail
          go_quiet (fail)
          go_wp2_with fail
          go_roundw
          case rel => exact ⟨i + 1, m, by omega, .inl (by omega), by go_num, Lib.hid (HM.out.drewN _), HP, HQ2, Lib.hid (sole_drewN HS.out _)⟩
          case measure => simp [intOf]; omega
        | succ j =>
          obtain ⟨a, ha⟩ : ∃ a, m[j]? = some a := ⟨_, List.getElem?_eq_getElem (by rw [HM.out.len]; omega)⟩
          obtain ⟨b, hb⟩ : ∃ b, m[j + 1]? = some b := ⟨_, List.getElem?_eq_getElem (by rw [HM.out.len]; omega)⟩
          obtain ⟨x0, x1⟩ := HM.out.cell ha
          obtain ⟨y0, y1⟩ := HM.out.cell hb
          have HBE := Lib.hid (DueAt.lt HM.out)
          have HC : Hid (∀ W', Below wr.heap.size wr W' → W'.cell? ⟨g, j * 2, none⟩ = some (.int .i64 a.1) ∧ W'.cell? ⟨g, j * 2 + 1, none⟩ = some (.int .u64 a.2) ∧ W'.cell? ⟨g, (j + 1) * 2, none⟩ = some (.int .i64 b.1) ∧ W'.cell? ⟨g, (j + 1) * 2 + 1, none⟩ = some (.int .u64 b.2)) := Lib.hid (fun W' hb' => ⟨(HM.out.on hb').cell ha |>.1, (HM.out.on hb').cell ha |>.2, (HM.out.on hb').cell hb |>.1, (HM.out.on hb').cell hb |>.2⟩)
          have hBE := Below.refl wr.heap.size wr
          have HA := Lib.hid ha; have HB := Lib.hid hb
          have HOR := Lib.hid (ordQ_neg b a)
          have HDO := Lib.hid (fun W => due_order b a W)
          obtain ⟨a0, a1⟩ := a
          obtain ⟨b0, b1⟩ := b
          unfold dueV at HDO
          simp only at HC HDO
          clear ha hb x0 x1 y0 y1
          have d0 : decide ((0 : Int) < (j : Int) + 1) = true := decide_eq_true (by omega)
          have w1 : IntKind.i64.wrap ((j : Int) + 1 - 1) = (j : Int) := by rw [IntKind.wrap_i64]; omega
          have w2 : IntKind.i64.wrap (j : Int) = (j : Int) := by rw [IntKind.wrap_i64]; omega
          have i0 : (0 : Int) ≤ (j : Int) := by omega
          have i1 : (j : Int) < (n : Int) := by omega
          have i2 : (0 : Int) ≤ (j : Int) + 1 := by omega
          have i3 : (j : Int) + 1 < (n : Int) := by omega
          cases hbf : befQ (b0, b1) (a0, a1) with
          | false =>
            have hd : decide (ordQ (b0, b1) (a0, a1) < 0) = false := by rw [HOR.out]; exact hbf
            have HQ2 := Lib.hid (HQ.out.stop HA.out HB.out hbf)
            clear hbf
            go_upto_region 4 with fail
            go_region_held3 (fun W' => W'.cell? ⟨g, j * 2, none⟩ = some (.int .i64 a0) ∧ W'.cell? ⟨g, j * 2 + 1, none⟩ = some (.int .u64 a1) ∧ W'.cell? ⟨g, (j + 1) * 2, none⟩ = some (.int .i64 b0) ∧ W'.cell? ⟨g, (j + 1) * 2 + 1, none⟩ = some (.int .u64 b1)) (first | exact HC.out _ hBE | exact HC.out _ hBE.drew) (first
              | (go_at_call 39
                 (with_reducible first | refine (HDO.out _).mono ?_)
                 rintro e wE ⟨rfl, hwE⟩
                 replace hBE : Below wr.heap.size wr wE := Below.trans (by first | exact hBE | exact hBE.drew) (hwE.mono (by first | exact hBE.size | exact hBE.drew.size))))
            all_goals
              go_wp2_with fail
              go_roundw
              case rel => exact ⟨i + 1, m, by omega, .inl (by omega), by go_num, Lib.hid (HM.out.on (by first | exact hBE | exact hBE.drew)), HP, HQ2, Lib.hid (HS.out.trans (Sole.mono (Sole.of (by first | exact hBE | exact hBE.drew)) HS.out.size))⟩
              case measure => simp [intOf]; omega
          | true =>
            have hd : decide (ordQ (b0, b1) (a0, a1) < 0) = true := by rw [HOR.out]; exact hbf
            have HQ2 := Lib.hid (HQ.out.swap hji HA.out HB.out hbf)
            have HP2 := Lib.hid ((swap_perm HA.out HB.out).trans HP.out)
            clear hbf
            go_upto_region 4 with fail
            go_region_held3 (fun W' => W'.cell? ⟨g, j * 2, none⟩ = some (.int .i64 a0) ∧ W'.cell? ⟨g, j * 2 + 1, none⟩ = some (.int .u64 a1) ∧ W'.cell? ⟨g, (j + 1) * 2, none⟩ = some (.int .i64 b0) ∧ W'.cell? ⟨g, (j + 1) * 2 + 1, none⟩ = some (.int .u64 b1)) (first | exact HC.out _ hBE | exact HC.out _ hBE.drew) (first
              | (go_at_call 39
                 (with_reducible first | refine (HDO.out _).mono ?_)
                 rintro e wE ⟨rfl, hwE⟩
                 replace hBE : Below wr.heap.size wr wE := Below.trans (by first | exact hBE | exact hBE.drew) (hwE.mono (by first | exact hBE.size | exact hBE.drew.size))))
            all_goals
              have HB9 := Lib.hid (show Below wr.heap.size wr _ by first | exact hBE | exact hBE.drew)
              have HM9 := Lib.hid (HM.out.on HB9.out)
              have HS9 := Lib.hid (HS.out.trans (Sole.mono (Sole.of HB9.out) HS.out.size))
              have z0 := HM9.out.frozen (j * 2); have z1 := HM9.out.frozen (j * 2 + 1); have z2 := HM9.out.frozen ((j + 1) * 2); have z3 := HM9.out.frozen ((j + 1) * 2 + 1)
              obtain ⟨x0, x1⟩ := HM9.out.cell HA.out
              obtain ⟨y0, y1⟩ := HM9.out.cell HB.out
              simp only at x0 x1 y0 y1
              have n0 : (j + 1) * 2 ≠ j * 2 := by omega
              have n1 : (j + 1) * 2 + 1 ≠ j * 2 := by omega
              have n2 : (j + 1) * 2 ≠ j * 2 + 1 := by omega
              have n3 : (j + 1) * 2 + 1 ≠ j * 2 + 1 := by omega
              have HP9 := Lib.hid ((HM9.out.put (show j + 1 < n by omega) (a0, a1)).put (show j < n by omega) (b0, b1))
              have HS10 := Lib.hid ((((HS9.out.set (i := (j + 1) * 2) (.int .i64 a0)).set (i := (j + 1) * 2 + 1) (.int .u64 a1)).set (i := j * 2) (.int .i64 b0)).set (i := j * 2 + 1) (.int .u64 b1))
              simp only at HP9
              clear hBE
              go_wp2_with fail
              go_region
              clear x0 x1 y0 y1 z0 z1 z2 z3 n0 n1 n2 n3
              go_wp2_with fail
              go_roundw
              case rel => exact ⟨j, _, by omega, by go_num, Lib.hid (by exact ⟨HP9.out.len, HP9.out.le, HP9.out.top, HP9.out.cells⟩), HP2, HQ2, Lib.hid (by exact ⟨HS10.out.os, HS10.out.tape, HS10.out.output, HS10.out.size, HS10.out.block⟩)⟩
              case measure => simp [intOf]
    · have HL := Lib.hid (HQ.out.le (by rw [HM.out.len]; omega))
      have g1 : ¬ (i : Int) < (n : Int) := by omega
      go_wp2_with fail
      go_end0
      exact ⟨⟨_, rfl⟩, m, HM.out, HP.out, HL.out, HS.out⟩
end Go.Proofs.YthngjbnbloboiaaGreatDoor
