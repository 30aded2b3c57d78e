/- What the document says of Take. -/
import Derived.Test.YtnppkobckabpcaaTTakeR
namespace Go.Proofs.Ytnppkobckabpcaa
open Go.RowKit

theorem rshort_below (A : Option Addr) (n c B : Nat) (bs : List Nat) (w : World) (h : RowB w B A n c bs) :
    Calls Try.prog 58 #[.slice A n c] w fun e w' => e = .returned (.tuple #[.int .u64 ((rdS bs).1 : Int), .int .i64 ((rdS bs).2.1 : Int), .int .i64 ((rdS bs).2.2 : Int)]) ∧ Below w.heap.size w w' :=
  (rshort_any A n c B bs w h).mono fun _ _ h => ⟨h.1, h.2 ▸ Below.refl _ _⟩
/-- The tape keeps its bytes where they stand. -/
def RIs (w : World) (A : Option Addr) (n c : Nat) (t err : Int) (r : Res) (e : Ending) (w' : World) : Prop :=
  ∃ x, e = .returned (.tuple #[tv A n c t err, x]) ∧ r.at_ w' w.heap.size x ∧ Below w.heap.size w w'
set_option maxRecDepth 100000 in
set_option maxHeartbeats 4000000 in
theorem rtake_off (A : Option Addr) (n c m : Nat) (t err : Int) (w : World) (hk : checkT n t err ≠ 0) :
    Calls Try.prog 44 #[tv A n c t err, .int .u64 (m : Int)] w (RIs w A n c t (checkT n t err) (.num .u64 0)) := by
  have ho := fun W => off_any A n c t err W
  unfold RIs
  generalize checkT n t err = k at *
  have hd : (k != 0) = true := by simpa using hk
  rw [hd] at ho
  have Ho := Lib.hid ho; have Hk := Lib.hid hk
  clear ho hk hd
  unfold tv at *
  go_enter Try.func44, Try.ntmps44
  go_wp2_with fail
  refine (Ho.out _).mono ?_; rintro e w1 ⟨rfl, hb⟩
  have st := off_two hb
  obtain ⟨c0, c1, c2, f0, f1, f2⟩ := st.b0.three
  obtain ⟨_, _, _, g0, g1, g2⟩ := st.b1.three
  have St := Lib.hid st
  clear st hb
  go_wp2_with fail
  have st := (((St.out.set0 (.slice A n c)).set1 (.int .i64 t)).set2 (.int .i64 k)).out (.slice A n c) (.int .i64 t) (.int .i64 k)
  clear c0 c1 c2 f0 f1 f2 g0 g1 g2
  obtain ⟨c0, c1, c2, _, _, _⟩ := st.b1.three
  refine bodyPost_ret (v := .tuple #[.agg #[.slice A n c, .int .i64 t, .int .i64 k], .int .u64 0]) (by simp [results, Try.results44, go_sem, c0, c1, c2]) rfl ?_
  exact ⟨_, rfl, rfl, st.bel⟩
set_option maxRecDepth 100000 in
set_option maxHeartbeats 4000000 in
theorem rtake_ok (A : Option Addr) (n c m tn x s : Nat) (bs : List Nat) (w : World) (h : RowB w w.heap.size A n c bs) (hn : n ≤ 16384) (ht : tn ≤ n) (hs : tn + s ≤ n)
    (hr : rdS (rest bs (tn : Int)) = (x, s, 0)) (hm : x ≤ m) :
    Calls Try.prog 44 #[tv A n c (tn : Int) 0, .int .u64 (m : Int)] w (RIs w A n c ((tn : Int) + (s : Int)) (0) (.num .u64 (x : Int))) := by
  have ho := fun W => off_any A n c (tn : Int) 0 W
  rw [show checkT n (tn : Int) 0 = 0 by unfold checkT badT; simp; omega, show ((0 : Int) != 0) = false by rfl] at ho
  have Ho := Lib.hid ho
  have hcap := h.cap
  have d0 := h.drop ht
  have hrest : bs.drop tn = rest bs (tn : Int) := by unfold rest; simp
  rw [hrest] at d0
  have D0 := Lib.hid d0

  have Hr := Lib.hid hr
  unfold RIs
  have hmx : decide ((m : Int) < (x : Int)) = false := by simp; omega
  have hmy : decide (m < x) = false := by simp; omega
  have hmz : ¬ m < x := by omega
  clear hm
  clear ho h d0 hrest hr
  unfold tv at *
  go_enter Try.func44, Try.ntmps44
  go_wp2_with fail
  refine (Ho.out _).mono ?_; rintro e w1 ⟨rfl, hb⟩
  have st := off_two hb
  obtain ⟨c0, c1, c2, f0, f1, f2⟩ := st.b0.three
  obtain ⟨_, _, _, g0, g1, g2⟩ := st.b1.three
  have St := Lib.hid st
  clear st hb
  have st := ((St.out.set0 (.slice A n c)).set1 (.int .i64 tn)).set2 (.int .i64 0)
  have St2 := Lib.hid st
  have d1 : c = tn → RowB _ w.heap.size A (n - tn) 0 (rest bs (tn : Int)) := fun e => by
    have := D0.out.below st.bel; rw [if_pos e, show c - tn = 0 by omega] at this; exact this
  have d2 : ¬ c = tn → RowB _ w.heap.size (A.map fun x => x.add tn) (n - tn) (c - tn) (rest bs (tn : Int)) := fun e => by
    have := D0.out.below st.bel; rw [if_neg e] at this; exact this
  have D1 := Lib.hid d1; have D2 := Lib.hid d2
  clear d1 d2 st
  go_wp2_with fail
  · have hcc : c = tn := by assumption
    subst hcc
    have hsh := rshort_below _ _ _ _ _ _ (D1.out rfl)
    rw [Hr.out] at hsh
    simp only [Int.natCast_zero] at hsh
    refine hsh.mono ?_
    clear hsh
    rintro e w3 ⟨rfl, hb3⟩
    have st := St2.out.call hb3
    obtain ⟨c0, c1, c2, f0, f1, f2⟩ := st.b0.three
    obtain ⟨_, _, _, g0, g1, g2⟩ := st.b1.three
    have St3 := Lib.hid st
    clear st hb3
    go_wp2_with fail
    have st := (St3.out.set1 (.int .i64 ((c : Int) + (s : Int)))).out (.slice A n c) (.int .i64 ((c : Int) + (s : Int))) (.int .i64 (0))
    clear c0 c1 c2 f0 f1 f2 g0 g1 g2
    obtain ⟨c0, c1, c2, _, _, _⟩ := st.b1.three
    refine bodyPost_ret (v := .tuple #[.agg #[.slice A n c, .int .i64 ((c : Int) + (s : Int)), .int .i64 (0)], .int .u64 (x : Int)]) (by simp [results, Try.results44, go_sem, c0, c1, c2]) rfl ?_
    exact ⟨_, rfl, rfl, st.bel⟩
  · have hcc : ¬ c = tn := by assumption
    have hsh := rshort_below _ _ _ _ _ _ (D2.out hcc)
    rw [Hr.out] at hsh
    simp only [Int.natCast_zero] at hsh
    refine hsh.mono ?_
    clear hsh
    rintro e w3 ⟨rfl, hb3⟩
    have st := St2.out.call hb3
    obtain ⟨c0, c1, c2, f0, f1, f2⟩ := st.b0.three
    obtain ⟨_, _, _, g0, g1, g2⟩ := st.b1.three
    have St3 := Lib.hid st
    clear st hb3
    go_wp2_with fail
    have st := (St3.out.set1 (.int .i64 ((tn : Int) + (s : Int)))).out (.slice A n c) (.int .i64 ((tn : Int) + (s : Int))) (.int .i64 (0))
    clear c0 c1 c2 f0 f1 f2 g0 g1 g2
    obtain ⟨c0, c1, c2, _, _, _⟩ := st.b1.three
    refine bodyPost_ret (v := .tuple #[.agg #[.slice A n c, .int .i64 ((tn : Int) + (s : Int)), .int .i64 (0)], .int .u64 (x : Int)]) (by simp [results, Try.results44, go_sem, c0, c1, c2]) rfl ?_
    exact ⟨_, rfl, rfl, st.bel⟩
set_option maxRecDepth 100000 in
set_option maxHeartbeats 4000000 in
theorem rtake_max (A : Option Addr) (n c m tn x s : Nat) (bs : List Nat) (w : World) (h : RowB w w.heap.size A n c bs) (hn : n ≤ 16384) (ht : tn ≤ n) (hs : tn + s ≤ n)
    (hr : rdS (rest bs (tn : Int)) = (x, s, 0)) (hm : m < x) :
    Calls Try.prog 44 #[tv A n c (tn : Int) 0, .int .u64 (m : Int)] w (RIs w A n c ((tn : Int)) (3) (.num .u64 0)) := by
  have ho := fun W => off_any A n c (tn : Int) 0 W
  rw [show checkT n (tn : Int) 0 = 0 by unfold checkT badT; simp; omega, show ((0 : Int) != 0) = false by rfl] at ho
  have Ho := Lib.hid ho
  have hcap := h.cap
  have d0 := h.drop ht
  have hrest : bs.drop tn = rest bs (tn : Int) := by unfold rest; simp
  rw [hrest] at d0
  have D0 := Lib.hid d0

  have Hr := Lib.hid hr
  unfold RIs
  have hmx : decide ((m : Int) < (x : Int)) = true := by simp; omega
  have hmy : decide (m < x) = true := by simp; omega
  clear ho h d0 hrest hr
  unfold tv at *
  go_enter Try.func44, Try.ntmps44
  go_wp2_with fail
  refine (Ho.out _).mono ?_; rintro e w1 ⟨rfl, hb⟩
  have st := off_two hb
  obtain ⟨c0, c1, c2, f0, f1, f2⟩ := st.b0.three
  obtain ⟨_, _, _, g0, g1, g2⟩ := st.b1.three
  have St := Lib.hid st
  clear st hb
  have st := ((St.out.set0 (.slice A n c)).set1 (.int .i64 tn)).set2 (.int .i64 0)
  have St2 := Lib.hid st
  have d1 : c = tn → RowB _ w.heap.size A (n - tn) 0 (rest bs (tn : Int)) := fun e => by
    have := D0.out.below st.bel; rw [if_pos e, show c - tn = 0 by omega] at this; exact this
  have d2 : ¬ c = tn → RowB _ w.heap.size (A.map fun x => x.add tn) (n - tn) (c - tn) (rest bs (tn : Int)) := fun e => by
    have := D0.out.below st.bel; rw [if_neg e] at this; exact this
  have D1 := Lib.hid d1; have D2 := Lib.hid d2
  clear d1 d2 st
  go_wp2_with fail
  · have hcc : c = tn := by assumption
    subst hcc
    have hsh := rshort_below _ _ _ _ _ _ (D1.out rfl)
    rw [Hr.out] at hsh
    simp only [Int.natCast_zero] at hsh
    refine hsh.mono ?_
    clear hsh
    rintro e w3 ⟨rfl, hb3⟩
    have st := St2.out.call hb3
    obtain ⟨c0, c1, c2, f0, f1, f2⟩ := st.b0.three
    obtain ⟨_, _, _, g0, g1, g2⟩ := st.b1.three
    have St3 := Lib.hid st
    clear st hb3
    go_wp2_with fail
    have st := (St3.out.set2 (.int .i64 (3))).out (.slice A n c) (.int .i64 ((c : Int))) (.int .i64 (3))
    clear c0 c1 c2 f0 f1 f2 g0 g1 g2
    obtain ⟨c0, c1, c2, _, _, _⟩ := st.b1.three
    refine bodyPost_ret (v := .tuple #[.agg #[.slice A n c, .int .i64 ((c : Int)), .int .i64 (3)], .int .u64 0]) (by simp [results, Try.results44, go_sem, c0, c1, c2]) rfl ?_
    exact ⟨_, rfl, rfl, st.bel⟩
  · have hcc : ¬ c = tn := by assumption
    have hsh := rshort_below _ _ _ _ _ _ (D2.out hcc)
    rw [Hr.out] at hsh
    simp only [Int.natCast_zero] at hsh
    refine hsh.mono ?_
    clear hsh
    rintro e w3 ⟨rfl, hb3⟩
    have st := St2.out.call hb3
    obtain ⟨c0, c1, c2, f0, f1, f2⟩ := st.b0.three
    obtain ⟨_, _, _, g0, g1, g2⟩ := st.b1.three
    have St3 := Lib.hid st
    clear st hb3
    go_wp2_with fail
    have st := (St3.out.set2 (.int .i64 (3))).out (.slice A n c) (.int .i64 ((tn : Int))) (.int .i64 (3))
    clear c0 c1 c2 f0 f1 f2 g0 g1 g2
    obtain ⟨c0, c1, c2, _, _, _⟩ := st.b1.three
    refine bodyPost_ret (v := .tuple #[.agg #[.slice A n c, .int .i64 ((tn : Int)), .int .i64 (3)], .int .u64 0]) (by simp [results, Try.results44, go_sem, c0, c1, c2]) rfl ?_
    exact ⟨_, rfl, rfl, st.bel⟩
set_option maxRecDepth 100000 in
set_option maxHeartbeats 4000000 in
theorem rtake_err (A : Option Addr) (n c m tn x s : Nat) (ee : Nat) (bs : List Nat) (w : World) (h : RowB w w.heap.size A n c bs) (hn : n ≤ 16384) (ht : tn ≤ n) (hs : tn + s ≤ n)
    (hr : rdS (rest bs (tn : Int)) = (x, s, ee)) (hm : ee ≠ 0) :
    Calls Try.prog 44 #[tv A n c (tn : Int) 0, .int .u64 (m : Int)] w (RIs w A n c ((tn : Int)) ((ee : Int)) (.num .u64 0)) := by
  have ho := fun W => off_any A n c (tn : Int) 0 W
  rw [show checkT n (tn : Int) 0 = 0 by unfold checkT badT; simp; omega, show ((0 : Int) != 0) = false by rfl] at ho
  have Ho := Lib.hid ho
  have hcap := h.cap
  have d0 := h.drop ht
  have hrest : bs.drop tn = rest bs (tn : Int) := by unfold rest; simp
  rw [hrest] at d0
  have D0 := Lib.hid d0

  have Hr := Lib.hid hr
  unfold RIs
  have he : ((ee : Int) == 0) = false := by simp; omega
  have he2 : ((ee : Int) != 0) = true := by simp; omega
  clear hm
  clear ho h d0 hrest hr
  unfold tv at *
  go_enter Try.func44, Try.ntmps44
  go_wp2_with fail
  refine (Ho.out _).mono ?_; rintro e w1 ⟨rfl, hb⟩
  have st := off_two hb
  obtain ⟨c0, c1, c2, f0, f1, f2⟩ := st.b0.three
  obtain ⟨_, _, _, g0, g1, g2⟩ := st.b1.three
  have St := Lib.hid st
  clear st hb
  have st := ((St.out.set0 (.slice A n c)).set1 (.int .i64 tn)).set2 (.int .i64 0)
  have St2 := Lib.hid st
  have d1 : c = tn → RowB _ w.heap.size A (n - tn) 0 (rest bs (tn : Int)) := fun e => by
    have := D0.out.below st.bel; rw [if_pos e, show c - tn = 0 by omega] at this; exact this
  have d2 : ¬ c = tn → RowB _ w.heap.size (A.map fun x => x.add tn) (n - tn) (c - tn) (rest bs (tn : Int)) := fun e => by
    have := D0.out.below st.bel; rw [if_neg e] at this; exact this
  have D1 := Lib.hid d1; have D2 := Lib.hid d2
  clear d1 d2 st
  go_wp2_with fail
  · have hcc : c = tn := by assumption
    subst hcc
    have hsh := rshort_below _ _ _ _ _ _ (D1.out rfl)
    rw [Hr.out] at hsh
    refine hsh.mono ?_
    clear hsh
    rintro e w3 ⟨rfl, hb3⟩
    have st := St2.out.call hb3
    obtain ⟨c0, c1, c2, f0, f1, f2⟩ := st.b0.three
    obtain ⟨_, _, _, g0, g1, g2⟩ := st.b1.three
    have St3 := Lib.hid st
    clear st hb3
    go_wp2_with fail
    have st := (St3.out.set2 (.int .i64 ((ee : Int)))).out (.slice A n c) (.int .i64 ((c : Int))) (.int .i64 ((ee : Int)))
    clear c0 c1 c2 f0 f1 f2 g0 g1 g2
    obtain ⟨c0, c1, c2, _, _, _⟩ := st.b1.three
    refine bodyPost_ret (v := .tuple #[.agg #[.slice A n c, .int .i64 ((c : Int)), .int .i64 ((ee : Int))], .int .u64 0]) (by simp [results, Try.results44, go_sem, c0, c1, c2]) rfl ?_
    exact ⟨_, rfl, rfl, st.bel⟩
  · have hcc : ¬ c = tn := by assumption
    have hsh := rshort_below _ _ _ _ _ _ (D2.out hcc)
    rw [Hr.out] at hsh
    refine hsh.mono ?_
    clear hsh
    rintro e w3 ⟨rfl, hb3⟩
    have st := St2.out.call hb3
    obtain ⟨c0, c1, c2, f0, f1, f2⟩ := st.b0.three
    obtain ⟨_, _, _, g0, g1, g2⟩ := st.b1.three
    have St3 := Lib.hid st
    clear st hb3
    go_wp2_with fail
    have st := (St3.out.set2 (.int .i64 ((ee : Int)))).out (.slice A n c) (.int .i64 ((tn : Int))) (.int .i64 ((ee : Int)))
    clear c0 c1 c2 f0 f1 f2 g0 g1 g2
    obtain ⟨c0, c1, c2, _, _, _⟩ := st.b1.three
    refine bodyPost_ret (v := .tuple #[.agg #[.slice A n c, .int .i64 ((tn : Int)), .int .i64 ((ee : Int))], .int .u64 0]) (by simp [results, Try.results44, go_sem, c0, c1, c2]) rfl ?_
    exact ⟨_, rfl, rfl, st.bel⟩
end Go.Proofs.Ytnppkobckabpcaa
