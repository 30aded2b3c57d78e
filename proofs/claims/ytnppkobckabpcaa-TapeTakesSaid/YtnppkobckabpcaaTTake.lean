/- take, at numbers, flags and bytes. -/
import Derived.Test.YtnppkobckabpcaaTRes
namespace Go.Proofs.Ytnppkobckabpcaa
open Go.RowKit

set_option maxRecDepth 100000 in
set_option maxHeartbeats 2000000 in
theorem take_off_u64 (f : Value) (A : Option Addr) (n c : Nat) (t err : Int) (bs : List Nat) (w : World) (h : RowB w w.heap.size A n c bs) (hn : n ≤ 1000000) (hk : checkT n t err ≠ 0) :
    Calls Try.prog 53 #[tv A n c t err, f] w (TakeIs w bs t (checkT n t err) (.num .u64 0)) := by
  have Hl := Lib.hid h.len
  have H := Lib.hid h
  have hck := fun A2 c2 W => check_any A2 n c2 t err W
  generalize checkT n t err = k at *
  have hd : (k != 0) = true := by simpa using hk
  have Hck := Lib.hid hck
  have Hk := Lib.hid hk
  clear h hck hk
  unfold tv at *
  go_enter Try.func53, Try.ntmps53
  go_wp2_with fail
  refine (clone_bytes A n c bs _ ((H.out.below (((Below.refl _ w).alloc (Nat.le_refl _) _).alloc (by simp) _)).mono (by simp; omega)) (by omega)).mono ?_; rintro e w1 ⟨v, rfl, ho, hb⟩
  have st := Two.new hb ho
  obtain ⟨A2, cc2, rfl, _⟩ := st.own.row
  rw [Hl.out]
  obtain ⟨c0, c1, c2, f0, f1, f2⟩ := st.b0.three
  have St := Lib.hid st
  clear st ho hb
  go_wp2_with fail
  refine (Hck.out A2 cc2 _).mono ?_; rintro e w2 ⟨rfl, hb2⟩
  have st := (St.out.set0 (.slice A2 n cc2)).call hb2
  clear c0 c1 c2 f0 f1 f2 hb2 St
  obtain ⟨c0, c1, c2, f0, f1, f2⟩ := st.b0.three
  obtain ⟨_, _, _, g0, g1, g2⟩ := st.b1.three
  have St := Lib.hid st
  clear st
  go_wp2_with fail
  have st := (St.out.set2 (.int .i64 k)).out (.slice A2 n cc2) (.int .i64 t) (.int .i64 k)
  clear c0 c1 c2 f0 f1 f2 g0 g1 g2
  obtain ⟨c0, c1, c2, _, _, _⟩ := st.b1.three
  refine bodyPost_ret (v := .tuple #[.agg #[.slice A2 n cc2, .int .i64 t, .int .i64 k], .int .u64 0]) (by simp [results, Try.results53, go_sem, c0, c1, c2]) rfl ?_
  have ho := st.own
  rw [Hl.out] at ho
  exact ⟨_, _, rfl, ⟨_, rfl, ho.mono (by omega)⟩, rfl, st.bel⟩
set_option maxRecDepth 100000 in
set_option maxHeartbeats 4000000 in
theorem take_on_u64 (P : Nat) (A : Option Addr) (n c tn s : Nat) (ee t2 : Int) (r r2 : Res) (bs : List Nat) (w : World) (h : RowB w w.heap.size A n c bs) (hn : n ≤ 16384) (ht : tn ≤ n) (hs : tn + s ≤ n)
    (hg : ∀ A' n' c' W, Below w.heap.size w W → RowB W W.heap.size A' n' c' (bs.drop tn) → Calls Try.prog 54 #[.slice A' n' c', .pointer (some ⟨P, 0, none⟩)] W (ReadIs W r s ee)) (h0 : ee = 0 → t2 = ((tn : Int) + (s : Int)) ∧ r2 = r) (h1 : ee ≠ 0 → t2 = (tn : Int) ∧ r2 = (.num .u64 0)) :
    Calls Try.prog 53 #[tv A n c (tn : Int) 0, .func (Fn.func 54) #[] #[.pointer (some ⟨P, 0, none⟩)]] w (TakeIs w bs t2 ee r2) := by
  have Hl := Lib.hid h.len
  have H := Lib.hid h
  have hck := fun A2 c2 W => check_any A2 n c2 (tn : Int) 0 W
  rw [show checkT n (tn : Int) 0 = 0 by unfold checkT badT; simp; omega] at hck
  have Hck := Lib.hid hck
  have Hg := Lib.hid hg
  have H0 := Lib.hid h0; have H1 := Lib.hid h1
  clear h hck hg h0 h1
  unfold tv at *
  go_enter Try.func53, Try.ntmps53
  go_wp2_with fail
  refine (clone_bytes A n c bs _ ((H.out.below (((Below.refl _ w).alloc (Nat.le_refl _) _).alloc (by simp) _)).mono (by simp; omega)) (by omega)).mono ?_; rintro e w1 ⟨v, rfl, ho, hb⟩
  have st := Two.new hb ho
  obtain ⟨A2, cc2, rfl, _⟩ := st.own.row
  rw [Hl.out]
  obtain ⟨c0, c1, c2, f0, f1, f2⟩ := st.b0.three
  have St := Lib.hid st
  clear st ho hb
  go_wp2_with fail
  refine (Hck.out A2 cc2 _).mono ?_; rintro e w2 ⟨rfl, hb2⟩
  have st := (St.out.set0 (.slice A2 n cc2)).call hb2
  clear c0 c1 c2 f0 f1 f2 hb2 St
  obtain ⟨c0, c1, c2, f0, f1, f2⟩ := st.b0.three
  have hcap : n ≤ cc2 := by
    obtain ⟨A3, c3, e3, r3⟩ := st.own.row
    rw [Hl.out] at e3 r3
    cases e3
    exact r3.cap
  have St0 := Lib.hid st
  clear st
  have st := St0.out.set2 (.int .i64 0)
  obtain ⟨A3, c3, e3, hrow⟩ := st.own.row
  rw [Hl.out] at e3 hrow
  cases e3
  have d0 := hrow.drop ht
  have d1 : cc2 = tn → RowB (w2.setCell ⟨w.heap.size, 2, none⟩ (.int .i64 0)) (w2.setCell ⟨w.heap.size, 2, none⟩ (.int .i64 0)).heap.size A2 (n - tn) 0 (bs.drop tn) := fun e => by
    have := d0; rw [if_pos e, show cc2 - tn = 0 by omega] at this; exact this
  have d2 : ¬ cc2 = tn → RowB (w2.setCell ⟨w.heap.size, 2, none⟩ (.int .i64 0)) (w2.setCell ⟨w.heap.size, 2, none⟩ (.int .i64 0)).heap.size (A2.map fun x => x.add tn) (n - tn) (cc2 - tn) (bs.drop tn) := fun e => by
    have := d0; rw [if_neg e] at this; exact this
  have D1 := Lib.hid d1
  have D2 := Lib.hid d2
  have hbel := Lib.hid st.bel
  clear d0 d1 d2 hrow
  have St := Lib.hid st
  clear st
  by_cases he : ee = 0
  · obtain ⟨rfl, rfl⟩ := H0.out he
    subst he
    clear H0 H1
    go_wp2_with fail
    · have hcc : cc2 = tn := by assumption
      subst hcc
      refine (Hg.out _ _ _ _ hbel.out (D1.out rfl)).mono ?_
      rintro e w3 ⟨x, rfl, hr, hb3⟩
      have st := St.out.call hb3
      clear c0 c1 c2 f0 f1 f2
      obtain ⟨c0, c1, c2, f0, f1, f2⟩ := st.b0.three
      obtain ⟨_, _, _, g0, g1, g2⟩ := st.b1.three
      have hgt : w.heap.size + 2 ≤ w2.heap.size := by have := St.out.b1.lt; simp at this; omega
      have Hr := Lib.hid (Res.mono (base' := w.heap.size + 2) hr (by simpa using hgt))
      have St3 := Lib.hid st
      clear st hb3 hr
      go_wp2_with fail
      have st := (St3.out.set1 (.int .i64 ((cc2 : Int) + (s : Int)))).out (.slice A2 n cc2) (.int .i64 ((cc2 : Int) + (s : Int))) (.int .i64 0)
      clear c0 c1 c2 f0 f1 f2 g0 g1 g2
      obtain ⟨c0, c1, c2, _, _, _⟩ := st.b1.three
      refine bodyPost_ret (v := .tuple #[.agg #[.slice A2 n cc2, .int .i64 ((cc2 : Int) + (s : Int)), .int .i64 0], x]) (by simp [results, Try.results53, go_sem, c0, c1, c2]) rfl ?_
      have ho := st.own
      rw [Hl.out] at ho
      exact ⟨_, _, rfl, ⟨_, rfl, ho.mono (by omega)⟩, Res.mono (Res.set3 (Res.set Hr.out (by omega) _) (by omega) _ _ _) (by omega), st.bel⟩
    · refine (Hg.out _ _ _ _ hbel.out (D2.out (by assumption))).mono ?_
      rintro e w3 ⟨x, rfl, hr, hb3⟩
      have st := St.out.call hb3
      clear c0 c1 c2 f0 f1 f2
      obtain ⟨c0, c1, c2, f0, f1, f2⟩ := st.b0.three
      obtain ⟨_, _, _, g0, g1, g2⟩ := st.b1.three
      have hgt : w.heap.size + 2 ≤ w2.heap.size := by have := St.out.b1.lt; simp at this; omega
      have Hr := Lib.hid (Res.mono (base' := w.heap.size + 2) hr (by simpa using hgt))
      have St3 := Lib.hid st
      clear st hb3 hr
      go_wp2_with fail
      have st := (St3.out.set1 (.int .i64 ((tn : Int) + (s : Int)))).out (.slice A2 n cc2) (.int .i64 ((tn : Int) + (s : Int))) (.int .i64 0)
      clear c0 c1 c2 f0 f1 f2 g0 g1 g2
      obtain ⟨c0, c1, c2, _, _, _⟩ := st.b1.three
      refine bodyPost_ret (v := .tuple #[.agg #[.slice A2 n cc2, .int .i64 ((tn : Int) + (s : Int)), .int .i64 0], x]) (by simp [results, Try.results53, go_sem, c0, c1, c2]) rfl ?_
      have ho := st.own
      rw [Hl.out] at ho
      exact ⟨_, _, rfl, ⟨_, rfl, ho.mono (by omega)⟩, Res.mono (Res.set3 (Res.set Hr.out (by omega) _) (by omega) _ _ _) (by omega), st.bel⟩
  · obtain ⟨rfl, rfl⟩ := H1.out he
    have hd : (ee != 0) = true := by simpa using he
    have He := Lib.hid he
    clear H0 H1 he
    go_wp2_with fail
    · have hcc : cc2 = tn := by assumption
      subst hcc
      refine (Hg.out _ _ _ _ hbel.out (D1.out rfl)).mono ?_
      rintro e w3 ⟨x, rfl, hr, hb3⟩
      have st := St.out.call hb3
      clear c0 c1 c2 f0 f1 f2
      obtain ⟨c0, c1, c2, f0, f1, f2⟩ := st.b0.three
      obtain ⟨_, _, _, g0, g1, g2⟩ := st.b1.three
      have St3 := Lib.hid st
      clear st hb3 hr
      go_wp2_with fail
      have st := (St3.out.set2 (.int .i64 ee)).out (.slice A2 n cc2) (.int .i64 (cc2 : Int)) (.int .i64 ee)
      clear c0 c1 c2 f0 f1 f2 g0 g1 g2
      obtain ⟨c0, c1, c2, _, _, _⟩ := st.b1.three
      refine bodyPost_ret (v := .tuple #[.agg #[.slice A2 n cc2, .int .i64 (cc2 : Int), .int .i64 ee], .int .u64 0]) (by simp [results, Try.results53, go_sem, c0, c1, c2]) rfl ?_
      have ho := st.own
      rw [Hl.out] at ho
      exact ⟨_, _, rfl, ⟨_, rfl, ho.mono (by omega)⟩, rfl, st.bel⟩
    · refine (Hg.out _ _ _ _ hbel.out (D2.out (by assumption))).mono ?_
      rintro e w3 ⟨x, rfl, hr, hb3⟩
      have st := St.out.call hb3
      clear c0 c1 c2 f0 f1 f2
      obtain ⟨c0, c1, c2, f0, f1, f2⟩ := st.b0.three
      obtain ⟨_, _, _, g0, g1, g2⟩ := st.b1.three
      have St3 := Lib.hid st
      clear st hb3 hr
      go_wp2_with fail
      have st := (St3.out.set2 (.int .i64 ee)).out (.slice A2 n cc2) (.int .i64 (tn : Int)) (.int .i64 ee)
      clear c0 c1 c2 f0 f1 f2 g0 g1 g2
      obtain ⟨c0, c1, c2, _, _, _⟩ := st.b1.three
      refine bodyPost_ret (v := .tuple #[.agg #[.slice A2 n cc2, .int .i64 (tn : Int), .int .i64 ee], .int .u64 0]) (by simp [results, Try.results53, go_sem, c0, c1, c2]) rfl ?_
      have ho := st.own
      rw [Hl.out] at ho
      exact ⟨_, _, rfl, ⟨_, rfl, ho.mono (by omega)⟩, rfl, st.bel⟩
set_option maxRecDepth 100000 in
set_option maxHeartbeats 2000000 in
theorem take_off_i64 (f : Value) (A : Option Addr) (n c : Nat) (t err : Int) (bs : List Nat) (w : World) (h : RowB w w.heap.size A n c bs) (hn : n ≤ 1000000) (hk : checkT n t err ≠ 0) :
    Calls Try.prog 48 #[tv A n c t err, f] w (TakeIs w bs t (checkT n t err) (.num .i64 0)) := by
  have Hl := Lib.hid h.len
  have H := Lib.hid h
  have hck := fun A2 c2 W => check_any A2 n c2 t err W
  generalize checkT n t err = k at *
  have hd : (k != 0) = true := by simpa using hk
  have Hck := Lib.hid hck
  have Hk := Lib.hid hk
  clear h hck hk
  unfold tv at *
  go_enter Try.func48, Try.ntmps48
  go_wp2_with fail
  refine (clone_bytes A n c bs _ ((H.out.below (((Below.refl _ w).alloc (Nat.le_refl _) _).alloc (by simp) _)).mono (by simp; omega)) (by omega)).mono ?_; rintro e w1 ⟨v, rfl, ho, hb⟩
  have st := Two.new hb ho
  obtain ⟨A2, cc2, rfl, _⟩ := st.own.row
  rw [Hl.out]
  obtain ⟨c0, c1, c2, f0, f1, f2⟩ := st.b0.three
  have St := Lib.hid st
  clear st ho hb
  go_wp2_with fail
  refine (Hck.out A2 cc2 _).mono ?_; rintro e w2 ⟨rfl, hb2⟩
  have st := (St.out.set0 (.slice A2 n cc2)).call hb2
  clear c0 c1 c2 f0 f1 f2 hb2 St
  obtain ⟨c0, c1, c2, f0, f1, f2⟩ := st.b0.three
  obtain ⟨_, _, _, g0, g1, g2⟩ := st.b1.three
  have St := Lib.hid st
  clear st
  go_wp2_with fail
  have st := (St.out.set2 (.int .i64 k)).out (.slice A2 n cc2) (.int .i64 t) (.int .i64 k)
  clear c0 c1 c2 f0 f1 f2 g0 g1 g2
  obtain ⟨c0, c1, c2, _, _, _⟩ := st.b1.three
  refine bodyPost_ret (v := .tuple #[.agg #[.slice A2 n cc2, .int .i64 t, .int .i64 k], .int .i64 0]) (by simp [results, Try.results48, go_sem, c0, c1, c2]) rfl ?_
  have ho := st.own
  rw [Hl.out] at ho
  exact ⟨_, _, rfl, ⟨_, rfl, ho.mono (by omega)⟩, rfl, st.bel⟩
set_option maxRecDepth 100000 in
set_option maxHeartbeats 4000000 in
theorem take_on_i64 (A : Option Addr) (n c tn s : Nat) (ee t2 : Int) (r r2 : Res) (bs : List Nat) (w : World) (h : RowB w w.heap.size A n c bs) (hn : n ≤ 16384) (ht : tn ≤ n) (hs : tn + s ≤ n)
    (hg : ∀ A' n' c' W, Below w.heap.size w W → RowB W W.heap.size A' n' c' (bs.drop tn) → Calls Try.prog 49 #[.slice A' n' c'] W (ReadIs W r s ee)) (h0 : ee = 0 → t2 = ((tn : Int) + (s : Int)) ∧ r2 = r) (h1 : ee ≠ 0 → t2 = (tn : Int) ∧ r2 = (.num .i64 0)) :
    Calls Try.prog 48 #[tv A n c (tn : Int) 0, .func (Fn.func 49) #[] #[]] w (TakeIs w bs t2 ee r2) := by
  have Hl := Lib.hid h.len
  have H := Lib.hid h
  have hck := fun A2 c2 W => check_any A2 n c2 (tn : Int) 0 W
  rw [show checkT n (tn : Int) 0 = 0 by unfold checkT badT; simp; omega] at hck
  have Hck := Lib.hid hck
  have Hg := Lib.hid hg
  have H0 := Lib.hid h0; have H1 := Lib.hid h1
  clear h hck hg h0 h1
  unfold tv at *
  go_enter Try.func48, Try.ntmps48
  go_wp2_with fail
  refine (clone_bytes A n c bs _ ((H.out.below (((Below.refl _ w).alloc (Nat.le_refl _) _).alloc (by simp) _)).mono (by simp; omega)) (by omega)).mono ?_; rintro e w1 ⟨v, rfl, ho, hb⟩
  have st := Two.new hb ho
  obtain ⟨A2, cc2, rfl, _⟩ := st.own.row
  rw [Hl.out]
  obtain ⟨c0, c1, c2, f0, f1, f2⟩ := st.b0.three
  have St := Lib.hid st
  clear st ho hb
  go_wp2_with fail
  refine (Hck.out A2 cc2 _).mono ?_; rintro e w2 ⟨rfl, hb2⟩
  have st := (St.out.set0 (.slice A2 n cc2)).call hb2
  clear c0 c1 c2 f0 f1 f2 hb2 St
  obtain ⟨c0, c1, c2, f0, f1, f2⟩ := st.b0.three
  have hcap : n ≤ cc2 := by
    obtain ⟨A3, c3, e3, r3⟩ := st.own.row
    rw [Hl.out] at e3 r3
    cases e3
    exact r3.cap
  have St0 := Lib.hid st
  clear st
  have st := St0.out.set2 (.int .i64 0)
  obtain ⟨A3, c3, e3, hrow⟩ := st.own.row
  rw [Hl.out] at e3 hrow
  cases e3
  have d0 := hrow.drop ht
  have d1 : cc2 = tn → RowB (w2.setCell ⟨w.heap.size, 2, none⟩ (.int .i64 0)) (w2.setCell ⟨w.heap.size, 2, none⟩ (.int .i64 0)).heap.size A2 (n - tn) 0 (bs.drop tn) := fun e => by
    have := d0; rw [if_pos e, show cc2 - tn = 0 by omega] at this; exact this
  have d2 : ¬ cc2 = tn → RowB (w2.setCell ⟨w.heap.size, 2, none⟩ (.int .i64 0)) (w2.setCell ⟨w.heap.size, 2, none⟩ (.int .i64 0)).heap.size (A2.map fun x => x.add tn) (n - tn) (cc2 - tn) (bs.drop tn) := fun e => by
    have := d0; rw [if_neg e] at this; exact this
  have D1 := Lib.hid d1
  have D2 := Lib.hid d2
  have hbel := Lib.hid st.bel
  clear d0 d1 d2 hrow
  have St := Lib.hid st
  clear st
  by_cases he : ee = 0
  · obtain ⟨rfl, rfl⟩ := H0.out he
    subst he
    clear H0 H1
    go_wp2_with fail
    · have hcc : cc2 = tn := by assumption
      subst hcc
      refine (Hg.out _ _ _ _ hbel.out (D1.out rfl)).mono ?_
      rintro e w3 ⟨x, rfl, hr, hb3⟩
      have st := St.out.call hb3
      clear c0 c1 c2 f0 f1 f2
      obtain ⟨c0, c1, c2, f0, f1, f2⟩ := st.b0.three
      obtain ⟨_, _, _, g0, g1, g2⟩ := st.b1.three
      have hgt : w.heap.size + 2 ≤ w2.heap.size := by have := St.out.b1.lt; simp at this; omega
      have Hr := Lib.hid (Res.mono (base' := w.heap.size + 2) hr (by simpa using hgt))
      have St3 := Lib.hid st
      clear st hb3 hr
      go_wp2_with fail
      have st := (St3.out.set1 (.int .i64 ((cc2 : Int) + (s : Int)))).out (.slice A2 n cc2) (.int .i64 ((cc2 : Int) + (s : Int))) (.int .i64 0)
      clear c0 c1 c2 f0 f1 f2 g0 g1 g2
      obtain ⟨c0, c1, c2, _, _, _⟩ := st.b1.three
      refine bodyPost_ret (v := .tuple #[.agg #[.slice A2 n cc2, .int .i64 ((cc2 : Int) + (s : Int)), .int .i64 0], x]) (by simp [results, Try.results48, go_sem, c0, c1, c2]) rfl ?_
      have ho := st.own
      rw [Hl.out] at ho
      exact ⟨_, _, rfl, ⟨_, rfl, ho.mono (by omega)⟩, Res.mono (Res.set3 (Res.set Hr.out (by omega) _) (by omega) _ _ _) (by omega), st.bel⟩
    · refine (Hg.out _ _ _ _ hbel.out (D2.out (by assumption))).mono ?_
      rintro e w3 ⟨x, rfl, hr, hb3⟩
      have st := St.out.call hb3
      clear c0 c1 c2 f0 f1 f2
      obtain ⟨c0, c1, c2, f0, f1, f2⟩ := st.b0.three
      obtain ⟨_, _, _, g0, g1, g2⟩ := st.b1.three
      have hgt : w.heap.size + 2 ≤ w2.heap.size := by have := St.out.b1.lt; simp at this; omega
      have Hr := Lib.hid (Res.mono (base' := w.heap.size + 2) hr (by simpa using hgt))
      have St3 := Lib.hid st
      clear st hb3 hr
      go_wp2_with fail
      have st := (St3.out.set1 (.int .i64 ((tn : Int) + (s : Int)))).out (.slice A2 n cc2) (.int .i64 ((tn : Int) + (s : Int))) (.int .i64 0)
      clear c0 c1 c2 f0 f1 f2 g0 g1 g2
      obtain ⟨c0, c1, c2, _, _, _⟩ := st.b1.three
      refine bodyPost_ret (v := .tuple #[.agg #[.slice A2 n cc2, .int .i64 ((tn : Int) + (s : Int)), .int .i64 0], x]) (by simp [results, Try.results48, go_sem, c0, c1, c2]) rfl ?_
      have ho := st.own
      rw [Hl.out] at ho
      exact ⟨_, _, rfl, ⟨_, rfl, ho.mono (by omega)⟩, Res.mono (Res.set3 (Res.set Hr.out (by omega) _) (by omega) _ _ _) (by omega), st.bel⟩
  · obtain ⟨rfl, rfl⟩ := H1.out he
    have hd : (ee != 0) = true := by simpa using he
    have He := Lib.hid he
    clear H0 H1 he
    go_wp2_with fail
    · have hcc : cc2 = tn := by assumption
      subst hcc
      refine (Hg.out _ _ _ _ hbel.out (D1.out rfl)).mono ?_
      rintro e w3 ⟨x, rfl, hr, hb3⟩
      have st := St.out.call hb3
      clear c0 c1 c2 f0 f1 f2
      obtain ⟨c0, c1, c2, f0, f1, f2⟩ := st.b0.three
      obtain ⟨_, _, _, g0, g1, g2⟩ := st.b1.three
      have St3 := Lib.hid st
      clear st hb3 hr
      go_wp2_with fail
      have st := (St3.out.set2 (.int .i64 ee)).out (.slice A2 n cc2) (.int .i64 (cc2 : Int)) (.int .i64 ee)
      clear c0 c1 c2 f0 f1 f2 g0 g1 g2
      obtain ⟨c0, c1, c2, _, _, _⟩ := st.b1.three
      refine bodyPost_ret (v := .tuple #[.agg #[.slice A2 n cc2, .int .i64 (cc2 : Int), .int .i64 ee], .int .i64 0]) (by simp [results, Try.results48, go_sem, c0, c1, c2]) rfl ?_
      have ho := st.own
      rw [Hl.out] at ho
      exact ⟨_, _, rfl, ⟨_, rfl, ho.mono (by omega)⟩, rfl, st.bel⟩
    · refine (Hg.out _ _ _ _ hbel.out (D2.out (by assumption))).mono ?_
      rintro e w3 ⟨x, rfl, hr, hb3⟩
      have st := St.out.call hb3
      clear c0 c1 c2 f0 f1 f2
      obtain ⟨c0, c1, c2, f0, f1, f2⟩ := st.b0.three
      obtain ⟨_, _, _, g0, g1, g2⟩ := st.b1.three
      have St3 := Lib.hid st
      clear st hb3 hr
      go_wp2_with fail
      have st := (St3.out.set2 (.int .i64 ee)).out (.slice A2 n cc2) (.int .i64 (tn : Int)) (.int .i64 ee)
      clear c0 c1 c2 f0 f1 f2 g0 g1 g2
      obtain ⟨c0, c1, c2, _, _, _⟩ := st.b1.three
      refine bodyPost_ret (v := .tuple #[.agg #[.slice A2 n cc2, .int .i64 (tn : Int), .int .i64 ee], .int .i64 0]) (by simp [results, Try.results48, go_sem, c0, c1, c2]) rfl ?_
      have ho := st.own
      rw [Hl.out] at ho
      exact ⟨_, _, rfl, ⟨_, rfl, ho.mono (by omega)⟩, rfl, st.bel⟩
set_option maxRecDepth 100000 in
set_option maxHeartbeats 2000000 in
theorem take_off_bool (f : Value) (A : Option Addr) (n c : Nat) (t err : Int) (bs : List Nat) (w : World) (h : RowB w w.heap.size A n c bs) (hn : n ≤ 1000000) (hk : checkT n t err ≠ 0) :
    Calls Try.prog 55 #[tv A n c t err, f] w (TakeIs w bs t (checkT n t err) (.flag false)) := by
  have Hl := Lib.hid h.len
  have H := Lib.hid h
  have hck := fun A2 c2 W => check_any A2 n c2 t err W
  generalize checkT n t err = k at *
  have hd : (k != 0) = true := by simpa using hk
  have Hck := Lib.hid hck
  have Hk := Lib.hid hk
  clear h hck hk
  unfold tv at *
  go_enter Try.func55, Try.ntmps55
  go_wp2_with fail
  refine (clone_bytes A n c bs _ ((H.out.below (((Below.refl _ w).alloc (Nat.le_refl _) _).alloc (by simp) _)).mono (by simp; omega)) (by omega)).mono ?_; rintro e w1 ⟨v, rfl, ho, hb⟩
  have st := Two.new hb ho
  obtain ⟨A2, cc2, rfl, _⟩ := st.own.row
  rw [Hl.out]
  obtain ⟨c0, c1, c2, f0, f1, f2⟩ := st.b0.three
  have St := Lib.hid st
  clear st ho hb
  go_wp2_with fail
  refine (Hck.out A2 cc2 _).mono ?_; rintro e w2 ⟨rfl, hb2⟩
  have st := (St.out.set0 (.slice A2 n cc2)).call hb2
  clear c0 c1 c2 f0 f1 f2 hb2 St
  obtain ⟨c0, c1, c2, f0, f1, f2⟩ := st.b0.three
  obtain ⟨_, _, _, g0, g1, g2⟩ := st.b1.three
  have St := Lib.hid st
  clear st
  go_wp2_with fail
  have st := (St.out.set2 (.int .i64 k)).out (.slice A2 n cc2) (.int .i64 t) (.int .i64 k)
  clear c0 c1 c2 f0 f1 f2 g0 g1 g2
  obtain ⟨c0, c1, c2, _, _, _⟩ := st.b1.three
  refine bodyPost_ret (v := .tuple #[.agg #[.slice A2 n cc2, .int .i64 t, .int .i64 k], .bool false]) (by simp [results, Try.results55, go_sem, c0, c1, c2]) rfl ?_
  have ho := st.own
  rw [Hl.out] at ho
  exact ⟨_, _, rfl, ⟨_, rfl, ho.mono (by omega)⟩, rfl, st.bel⟩
set_option maxRecDepth 100000 in
set_option maxHeartbeats 4000000 in
theorem take_on_bool (A : Option Addr) (n c tn s : Nat) (ee t2 : Int) (r r2 : Res) (bs : List Nat) (w : World) (h : RowB w w.heap.size A n c bs) (hn : n ≤ 16384) (ht : tn ≤ n) (hs : tn + s ≤ n)
    (hg : ∀ A' n' c' W, Below w.heap.size w W → RowB W W.heap.size A' n' c' (bs.drop tn) → Calls Try.prog 56 #[.slice A' n' c'] W (ReadIs W r s ee)) (h0 : ee = 0 → t2 = ((tn : Int) + (s : Int)) ∧ r2 = r) (h1 : ee ≠ 0 → t2 = (tn : Int) ∧ r2 = (.flag false)) :
    Calls Try.prog 55 #[tv A n c (tn : Int) 0, .func (Fn.func 56) #[] #[]] w (TakeIs w bs t2 ee r2) := by
  have Hl := Lib.hid h.len
  have H := Lib.hid h
  have hck := fun A2 c2 W => check_any A2 n c2 (tn : Int) 0 W
  rw [show checkT n (tn : Int) 0 = 0 by unfold checkT badT; simp; omega] at hck
  have Hck := Lib.hid hck
  have Hg := Lib.hid hg
  have H0 := Lib.hid h0; have H1 := Lib.hid h1
  clear h hck hg h0 h1
  unfold tv at *
  go_enter Try.func55, Try.ntmps55
  go_wp2_with fail
  refine (clone_bytes A n c bs _ ((H.out.below (((Below.refl _ w).alloc (Nat.le_refl _) _).alloc (by simp) _)).mono (by simp; omega)) (by omega)).mono ?_; rintro e w1 ⟨v, rfl, ho, hb⟩
  have st := Two.new hb ho
  obtain ⟨A2, cc2, rfl, _⟩ := st.own.row
  rw [Hl.out]
  obtain ⟨c0, c1, c2, f0, f1, f2⟩ := st.b0.three
  have St := Lib.hid st
  clear st ho hb
  go_wp2_with fail
  refine (Hck.out A2 cc2 _).mono ?_; rintro e w2 ⟨rfl, hb2⟩
  have st := (St.out.set0 (.slice A2 n cc2)).call hb2
  clear c0 c1 c2 f0 f1 f2 hb2 St
  obtain ⟨c0, c1, c2, f0, f1, f2⟩ := st.b0.three
  have hcap : n ≤ cc2 := by
    obtain ⟨A3, c3, e3, r3⟩ := st.own.row
    rw [Hl.out] at e3 r3
    cases e3
    exact r3.cap
  have St0 := Lib.hid st
  clear st
  have st := St0.out.set2 (.int .i64 0)
  obtain ⟨A3, c3, e3, hrow⟩ := st.own.row
  rw [Hl.out] at e3 hrow
  cases e3
  have d0 := hrow.drop ht
  have d1 : cc2 = tn → RowB (w2.setCell ⟨w.heap.size, 2, none⟩ (.int .i64 0)) (w2.setCell ⟨w.heap.size, 2, none⟩ (.int .i64 0)).heap.size A2 (n - tn) 0 (bs.drop tn) := fun e => by
    have := d0; rw [if_pos e, show cc2 - tn = 0 by omega] at this; exact this
  have d2 : ¬ cc2 = tn → RowB (w2.setCell ⟨w.heap.size, 2, none⟩ (.int .i64 0)) (w2.setCell ⟨w.heap.size, 2, none⟩ (.int .i64 0)).heap.size (A2.map fun x => x.add tn) (n - tn) (cc2 - tn) (bs.drop tn) := fun e => by
    have := d0; rw [if_neg e] at this; exact this
  have D1 := Lib.hid d1
  have D2 := Lib.hid d2
  have hbel := Lib.hid st.bel
  clear d0 d1 d2 hrow
  have St := Lib.hid st
  clear st
  by_cases he : ee = 0
  · obtain ⟨rfl, rfl⟩ := H0.out he
    subst he
    clear H0 H1
    go_wp2_with fail
    · have hcc : cc2 = tn := by assumption
      subst hcc
      refine (Hg.out _ _ _ _ hbel.out (D1.out rfl)).mono ?_
      rintro e w3 ⟨x, rfl, hr, hb3⟩
      have st := St.out.call hb3
      clear c0 c1 c2 f0 f1 f2
      obtain ⟨c0, c1, c2, f0, f1, f2⟩ := st.b0.three
      obtain ⟨_, _, _, g0, g1, g2⟩ := st.b1.three
      have hgt : w.heap.size + 2 ≤ w2.heap.size := by have := St.out.b1.lt; simp at this; omega
      have Hr := Lib.hid (Res.mono (base' := w.heap.size + 2) hr (by simpa using hgt))
      have St3 := Lib.hid st
      clear st hb3 hr
      go_wp2_with fail
      have st := (St3.out.set1 (.int .i64 ((cc2 : Int) + (s : Int)))).out (.slice A2 n cc2) (.int .i64 ((cc2 : Int) + (s : Int))) (.int .i64 0)
      clear c0 c1 c2 f0 f1 f2 g0 g1 g2
      obtain ⟨c0, c1, c2, _, _, _⟩ := st.b1.three
      refine bodyPost_ret (v := .tuple #[.agg #[.slice A2 n cc2, .int .i64 ((cc2 : Int) + (s : Int)), .int .i64 0], x]) (by simp [results, Try.results55, go_sem, c0, c1, c2]) rfl ?_
      have ho := st.own
      rw [Hl.out] at ho
      exact ⟨_, _, rfl, ⟨_, rfl, ho.mono (by omega)⟩, Res.mono (Res.set3 (Res.set Hr.out (by omega) _) (by omega) _ _ _) (by omega), st.bel⟩
    · refine (Hg.out _ _ _ _ hbel.out (D2.out (by assumption))).mono ?_
      rintro e w3 ⟨x, rfl, hr, hb3⟩
      have st := St.out.call hb3
      clear c0 c1 c2 f0 f1 f2
      obtain ⟨c0, c1, c2, f0, f1, f2⟩ := st.b0.three
      obtain ⟨_, _, _, g0, g1, g2⟩ := st.b1.three
      have hgt : w.heap.size + 2 ≤ w2.heap.size := by have := St.out.b1.lt; simp at this; omega
      have Hr := Lib.hid (Res.mono (base' := w.heap.size + 2) hr (by simpa using hgt))
      have St3 := Lib.hid st
      clear st hb3 hr
      go_wp2_with fail
      have st := (St3.out.set1 (.int .i64 ((tn : Int) + (s : Int)))).out (.slice A2 n cc2) (.int .i64 ((tn : Int) + (s : Int))) (.int .i64 0)
      clear c0 c1 c2 f0 f1 f2 g0 g1 g2
      obtain ⟨c0, c1, c2, _, _, _⟩ := st.b1.three
      refine bodyPost_ret (v := .tuple #[.agg #[.slice A2 n cc2, .int .i64 ((tn : Int) + (s : Int)), .int .i64 0], x]) (by simp [results, Try.results55, go_sem, c0, c1, c2]) rfl ?_
      have ho := st.own
      rw [Hl.out] at ho
      exact ⟨_, _, rfl, ⟨_, rfl, ho.mono (by omega)⟩, Res.mono (Res.set3 (Res.set Hr.out (by omega) _) (by omega) _ _ _) (by omega), st.bel⟩
  · obtain ⟨rfl, rfl⟩ := H1.out he
    have hd : (ee != 0) = true := by simpa using he
    have He := Lib.hid he
    clear H0 H1 he
    go_wp2_with fail
    · have hcc : cc2 = tn := by assumption
      subst hcc
      refine (Hg.out _ _ _ _ hbel.out (D1.out rfl)).mono ?_
      rintro e w3 ⟨x, rfl, hr, hb3⟩
      have st := St.out.call hb3
      clear c0 c1 c2 f0 f1 f2
      obtain ⟨c0, c1, c2, f0, f1, f2⟩ := st.b0.three
      obtain ⟨_, _, _, g0, g1, g2⟩ := st.b1.three
      have St3 := Lib.hid st
      clear st hb3 hr
      go_wp2_with fail
      have st := (St3.out.set2 (.int .i64 ee)).out (.slice A2 n cc2) (.int .i64 (cc2 : Int)) (.int .i64 ee)
      clear c0 c1 c2 f0 f1 f2 g0 g1 g2
      obtain ⟨c0, c1, c2, _, _, _⟩ := st.b1.three
      refine bodyPost_ret (v := .tuple #[.agg #[.slice A2 n cc2, .int .i64 (cc2 : Int), .int .i64 ee], .bool false]) (by simp [results, Try.results55, go_sem, c0, c1, c2]) rfl ?_
      have ho := st.own
      rw [Hl.out] at ho
      exact ⟨_, _, rfl, ⟨_, rfl, ho.mono (by omega)⟩, rfl, st.bel⟩
    · refine (Hg.out _ _ _ _ hbel.out (D2.out (by assumption))).mono ?_
      rintro e w3 ⟨x, rfl, hr, hb3⟩
      have st := St.out.call hb3
      clear c0 c1 c2 f0 f1 f2
      obtain ⟨c0, c1, c2, f0, f1, f2⟩ := st.b0.three
      obtain ⟨_, _, _, g0, g1, g2⟩ := st.b1.three
      have St3 := Lib.hid st
      clear st hb3 hr
      go_wp2_with fail
      have st := (St3.out.set2 (.int .i64 ee)).out (.slice A2 n cc2) (.int .i64 (tn : Int)) (.int .i64 ee)
      clear c0 c1 c2 f0 f1 f2 g0 g1 g2
      obtain ⟨c0, c1, c2, _, _, _⟩ := st.b1.three
      refine bodyPost_ret (v := .tuple #[.agg #[.slice A2 n cc2, .int .i64 (tn : Int), .int .i64 ee], .bool false]) (by simp [results, Try.results55, go_sem, c0, c1, c2]) rfl ?_
      have ho := st.own
      rw [Hl.out] at ho
      exact ⟨_, _, rfl, ⟨_, rfl, ho.mono (by omega)⟩, rfl, st.bel⟩
set_option maxRecDepth 100000 in
set_option maxHeartbeats 2000000 in
theorem take_off_bytes (f : Value) (A : Option Addr) (n c : Nat) (t err : Int) (bs : List Nat) (w : World) (h : RowB w w.heap.size A n c bs) (hn : n ≤ 1000000) (hk : checkT n t err ≠ 0) :
    Calls Try.prog 51 #[tv A n c t err, f] w (TakeIs w bs t (checkT n t err) (.bytes [])) := by
  have Hl := Lib.hid h.len
  have H := Lib.hid h
  have hck := fun A2 c2 W => check_any A2 n c2 t err W
  generalize checkT n t err = k at *
  have hd : (k != 0) = true := by simpa using hk
  have Hck := Lib.hid hck
  have Hk := Lib.hid hk
  clear h hck hk
  unfold tv at *
  go_enter Try.func51, Try.ntmps51
  go_wp2_with fail
  refine (clone_bytes A n c bs _ ((H.out.below (((Below.refl _ w).alloc (Nat.le_refl _) _).alloc (by simp) _)).mono (by simp; omega)) (by omega)).mono ?_; rintro e w1 ⟨v, rfl, ho, hb⟩
  have st := Two.new hb ho
  obtain ⟨A2, cc2, rfl, _⟩ := st.own.row
  rw [Hl.out]
  obtain ⟨c0, c1, c2, f0, f1, f2⟩ := st.b0.three
  have St := Lib.hid st
  clear st ho hb
  go_wp2_with fail
  refine (Hck.out A2 cc2 _).mono ?_; rintro e w2 ⟨rfl, hb2⟩
  have st := (St.out.set0 (.slice A2 n cc2)).call hb2
  clear c0 c1 c2 f0 f1 f2 hb2 St
  obtain ⟨c0, c1, c2, f0, f1, f2⟩ := st.b0.three
  obtain ⟨_, _, _, g0, g1, g2⟩ := st.b1.three
  have St := Lib.hid st
  clear st
  go_wp2_with fail
  have st := (St.out.set2 (.int .i64 k)).out (.slice A2 n cc2) (.int .i64 t) (.int .i64 k)
  clear c0 c1 c2 f0 f1 f2 g0 g1 g2
  obtain ⟨c0, c1, c2, _, _, _⟩ := st.b1.three
  refine bodyPost_ret (v := .tuple #[.agg #[.slice A2 n cc2, .int .i64 t, .int .i64 k], .slice none 0 0]) (by simp [results, Try.results51, go_sem, c0, c1, c2]) rfl ?_
  have ho := st.own
  rw [Hl.out] at ho
  exact ⟨_, _, rfl, ⟨_, rfl, ho.mono (by omega)⟩, OwnB.nil _ _, st.bel⟩
set_option maxRecDepth 100000 in
set_option maxHeartbeats 4000000 in
theorem take_on_bytes (P : Nat) (A : Option Addr) (n c tn s : Nat) (ee t2 : Int) (r r2 : Res) (bs : List Nat) (w : World) (h : RowB w w.heap.size A n c bs) (hn : n ≤ 16384) (ht : tn ≤ n) (hs : tn + s ≤ n)
    (hg : ∀ A' n' c' W, Below w.heap.size w W → RowB W W.heap.size A' n' c' (bs.drop tn) → Calls Try.prog 52 #[.slice A' n' c', .pointer (some ⟨P, 0, none⟩)] W (ReadIs W r s ee)) (h0 : ee = 0 → t2 = ((tn : Int) + (s : Int)) ∧ r2 = r) (h1 : ee ≠ 0 → t2 = (tn : Int) ∧ r2 = (.bytes [])) :
    Calls Try.prog 51 #[tv A n c (tn : Int) 0, .func (Fn.func 52) #[] #[.pointer (some ⟨P, 0, none⟩)]] w (TakeIs w bs t2 ee r2) := by
  have Hl := Lib.hid h.len
  have H := Lib.hid h
  have hck := fun A2 c2 W => check_any A2 n c2 (tn : Int) 0 W
  rw [show checkT n (tn : Int) 0 = 0 by unfold checkT badT; simp; omega] at hck
  have Hck := Lib.hid hck
  have Hg := Lib.hid hg
  have H0 := Lib.hid h0; have H1 := Lib.hid h1
  clear h hck hg h0 h1
  unfold tv at *
  go_enter Try.func51, Try.ntmps51
  go_wp2_with fail
  refine (clone_bytes A n c bs _ ((H.out.below (((Below.refl _ w).alloc (Nat.le_refl _) _).alloc (by simp) _)).mono (by simp; omega)) (by omega)).mono ?_; rintro e w1 ⟨v, rfl, ho, hb⟩
  have st := Two.new hb ho
  obtain ⟨A2, cc2, rfl, _⟩ := st.own.row
  rw [Hl.out]
  obtain ⟨c0, c1, c2, f0, f1, f2⟩ := st.b0.three
  have St := Lib.hid st
  clear st ho hb
  go_wp2_with fail
  refine (Hck.out A2 cc2 _).mono ?_; rintro e w2 ⟨rfl, hb2⟩
  have st := (St.out.set0 (.slice A2 n cc2)).call hb2
  clear c0 c1 c2 f0 f1 f2 hb2 St
  obtain ⟨c0, c1, c2, f0, f1, f2⟩ := st.b0.three
  have hcap : n ≤ cc2 := by
    obtain ⟨A3, c3, e3, r3⟩ := st.own.row
    rw [Hl.out] at e3 r3
    cases e3
    exact r3.cap
  have St0 := Lib.hid st
  clear st
  have st := St0.out.set2 (.int .i64 0)
  obtain ⟨A3, c3, e3, hrow⟩ := st.own.row
  rw [Hl.out] at e3 hrow
  cases e3
  have d0 := hrow.drop ht
  have d1 : cc2 = tn → RowB (w2.setCell ⟨w.heap.size, 2, none⟩ (.int .i64 0)) (w2.setCell ⟨w.heap.size, 2, none⟩ (.int .i64 0)).heap.size A2 (n - tn) 0 (bs.drop tn) := fun e => by
    have := d0; rw [if_pos e, show cc2 - tn = 0 by omega] at this; exact this
  have d2 : ¬ cc2 = tn → RowB (w2.setCell ⟨w.heap.size, 2, none⟩ (.int .i64 0)) (w2.setCell ⟨w.heap.size, 2, none⟩ (.int .i64 0)).heap.size (A2.map fun x => x.add tn) (n - tn) (cc2 - tn) (bs.drop tn) := fun e => by
    have := d0; rw [if_neg e] at this; exact this
  have D1 := Lib.hid d1
  have D2 := Lib.hid d2
  have hbel := Lib.hid st.bel
  clear d0 d1 d2 hrow
  have St := Lib.hid st
  clear st
  by_cases he : ee = 0
  · obtain ⟨rfl, rfl⟩ := H0.out he
    subst he
    clear H0 H1
    go_wp2_with fail
    · have hcc : cc2 = tn := by assumption
      subst hcc
      refine (Hg.out _ _ _ _ hbel.out (D1.out rfl)).mono ?_
      rintro e w3 ⟨x, rfl, hr, hb3⟩
      have st := St.out.call hb3
      clear c0 c1 c2 f0 f1 f2
      obtain ⟨c0, c1, c2, f0, f1, f2⟩ := st.b0.three
      obtain ⟨_, _, _, g0, g1, g2⟩ := st.b1.three
      have hgt : w.heap.size + 2 ≤ w2.heap.size := by have := St.out.b1.lt; simp at this; omega
      have Hr := Lib.hid (Res.mono (base' := w.heap.size + 2) hr (by simpa using hgt))
      have St3 := Lib.hid st
      clear st hb3 hr
      go_wp2_with fail
      have st := (St3.out.set1 (.int .i64 ((cc2 : Int) + (s : Int)))).out (.slice A2 n cc2) (.int .i64 ((cc2 : Int) + (s : Int))) (.int .i64 0)
      clear c0 c1 c2 f0 f1 f2 g0 g1 g2
      obtain ⟨c0, c1, c2, _, _, _⟩ := st.b1.three
      refine bodyPost_ret (v := .tuple #[.agg #[.slice A2 n cc2, .int .i64 ((cc2 : Int) + (s : Int)), .int .i64 0], x]) (by simp [results, Try.results51, go_sem, c0, c1, c2]) rfl ?_
      have ho := st.own
      rw [Hl.out] at ho
      exact ⟨_, _, rfl, ⟨_, rfl, ho.mono (by omega)⟩, Res.mono (Res.set3 (Res.set Hr.out (by omega) _) (by omega) _ _ _) (by omega), st.bel⟩
    · refine (Hg.out _ _ _ _ hbel.out (D2.out (by assumption))).mono ?_
      rintro e w3 ⟨x, rfl, hr, hb3⟩
      have st := St.out.call hb3
      clear c0 c1 c2 f0 f1 f2
      obtain ⟨c0, c1, c2, f0, f1, f2⟩ := st.b0.three
      obtain ⟨_, _, _, g0, g1, g2⟩ := st.b1.three
      have hgt : w.heap.size + 2 ≤ w2.heap.size := by have := St.out.b1.lt; simp at this; omega
      have Hr := Lib.hid (Res.mono (base' := w.heap.size + 2) hr (by simpa using hgt))
      have St3 := Lib.hid st
      clear st hb3 hr
      go_wp2_with fail
      have st := (St3.out.set1 (.int .i64 ((tn : Int) + (s : Int)))).out (.slice A2 n cc2) (.int .i64 ((tn : Int) + (s : Int))) (.int .i64 0)
      clear c0 c1 c2 f0 f1 f2 g0 g1 g2
      obtain ⟨c0, c1, c2, _, _, _⟩ := st.b1.three
      refine bodyPost_ret (v := .tuple #[.agg #[.slice A2 n cc2, .int .i64 ((tn : Int) + (s : Int)), .int .i64 0], x]) (by simp [results, Try.results51, go_sem, c0, c1, c2]) rfl ?_
      have ho := st.own
      rw [Hl.out] at ho
      exact ⟨_, _, rfl, ⟨_, rfl, ho.mono (by omega)⟩, Res.mono (Res.set3 (Res.set Hr.out (by omega) _) (by omega) _ _ _) (by omega), st.bel⟩
  · obtain ⟨rfl, rfl⟩ := H1.out he
    have hd : (ee != 0) = true := by simpa using he
    have He := Lib.hid he
    clear H0 H1 he
    go_wp2_with fail
    · have hcc : cc2 = tn := by assumption
      subst hcc
      refine (Hg.out _ _ _ _ hbel.out (D1.out rfl)).mono ?_
      rintro e w3 ⟨x, rfl, hr, hb3⟩
      have st := St.out.call hb3
      clear c0 c1 c2 f0 f1 f2
      obtain ⟨c0, c1, c2, f0, f1, f2⟩ := st.b0.three
      obtain ⟨_, _, _, g0, g1, g2⟩ := st.b1.three
      have St3 := Lib.hid st
      clear st hb3 hr
      go_wp2_with fail
      have st := (St3.out.set2 (.int .i64 ee)).out (.slice A2 n cc2) (.int .i64 (cc2 : Int)) (.int .i64 ee)
      clear c0 c1 c2 f0 f1 f2 g0 g1 g2
      obtain ⟨c0, c1, c2, _, _, _⟩ := st.b1.three
      refine bodyPost_ret (v := .tuple #[.agg #[.slice A2 n cc2, .int .i64 (cc2 : Int), .int .i64 ee], .slice none 0 0]) (by simp [results, Try.results51, go_sem, c0, c1, c2]) rfl ?_
      have ho := st.own
      rw [Hl.out] at ho
      exact ⟨_, _, rfl, ⟨_, rfl, ho.mono (by omega)⟩, OwnB.nil _ _, st.bel⟩
    · refine (Hg.out _ _ _ _ hbel.out (D2.out (by assumption))).mono ?_
      rintro e w3 ⟨x, rfl, hr, hb3⟩
      have st := St.out.call hb3
      clear c0 c1 c2 f0 f1 f2
      obtain ⟨c0, c1, c2, f0, f1, f2⟩ := st.b0.three
      obtain ⟨_, _, _, g0, g1, g2⟩ := st.b1.three
      have St3 := Lib.hid st
      clear st hb3 hr
      go_wp2_with fail
      have st := (St3.out.set2 (.int .i64 ee)).out (.slice A2 n cc2) (.int .i64 (tn : Int)) (.int .i64 ee)
      clear c0 c1 c2 f0 f1 f2 g0 g1 g2
      obtain ⟨c0, c1, c2, _, _, _⟩ := st.b1.three
      refine bodyPost_ret (v := .tuple #[.agg #[.slice A2 n cc2, .int .i64 (tn : Int), .int .i64 ee], .slice none 0 0]) (by simp [results, Try.results51, go_sem, c0, c1, c2]) rfl ?_
      have ho := st.own
      rw [Hl.out] at ho
      exact ⟨_, _, rfl, ⟨_, rfl, ho.mono (by omega)⟩, OwnB.nil _ _, st.bel⟩
end Go.Proofs.Ytnppkobckabpcaa
