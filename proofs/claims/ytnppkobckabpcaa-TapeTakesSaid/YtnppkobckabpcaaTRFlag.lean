/- What the document says of TakeFlag. -/
import Derived.Test.YtnppkobckabpcaaTRTake
import Derived.Deep.DeepCutAuto
namespace Go.Proofs.Ytnppkobckabpcaa
open Go.RowKit

set_option maxRecDepth 100000 in
set_option maxHeartbeats 4000000 in
theorem rflag_off (A : Option Addr) (n c : Nat) (t err : Int) (w : World) (hk : checkT n t err ≠ 0) :
    Calls Try.prog 46 #[tv A n c t err] w (RIs w A n c t (checkT n t err) (.flag false)) := by
  have ho := fun W => off_any A n c t err W
  unfold RIs
  generalize checkT n t err = k at *
  have hd : (k != 0) = true := by simpa using hk
  rw [hd] at ho
  have Ho := Lib.hid ho; have Hk := Lib.hid hk
  clear ho hk hd
  unfold tv at *
  go_enter Try.func46, Try.ntmps46
  go_wp2_with fail
  refine (Ho.out _).mono ?_; rintro e w1 ⟨rfl, hb⟩
  have st := off_two hb
  obtain ⟨c0, c1, c2, f0, f1, f2⟩ := st.b0.three
  obtain ⟨_, _, _, g0, g1, g2⟩ := st.b1.three
  have St := Lib.hid st
  clear st hb
  go_wp2_with fail
  have st := (((St.out.set0 (.slice A n c)).set1 (.int .i64 t)).set2 (.int .i64 k)).out (.slice A n c) (.int .i64 t) (.int .i64 k)
  clear c0 c1 c2 f0 f1 f2 g0 g1 g2
  obtain ⟨c0, c1, c2, _, _, _⟩ := st.b1.three
  refine bodyPost_ret (v := .tuple #[.agg #[.slice A n c, .int .i64 t, .int .i64 k], .bool false]) (by simp [results, Try.results46, go_sem, c0, c1, c2]) rfl ?_
  exact ⟨_, rfl, rfl, st.bel⟩
set_option maxRecDepth 100000 in
set_option maxHeartbeats 4000000 in
theorem rflag_end (A : Option Addr) (n c : Nat) (w : World) (hn : n ≤ 16384) :
    Calls Try.prog 46 #[tv A n c (n : Int) 0] w (RIs w A n c (n : Int) 7 (.flag false)) := by
  have ho := fun W => off_any A n c (n : Int) 0 W
  rw [show checkT n (n : Int) 0 = 0 by unfold checkT badT; simp; omega, show ((0 : Int) != 0) = false by rfl] at ho
  unfold RIs
  have Ho := Lib.hid ho
  clear ho
  unfold tv at *
  go_enter Try.func46, Try.ntmps46
  go_wp2_with fail
  refine (Ho.out _).mono ?_; rintro e w1 ⟨rfl, hb⟩
  have st := off_two hb
  obtain ⟨c0, c1, c2, f0, f1, f2⟩ := st.b0.three
  obtain ⟨_, _, _, g0, g1, g2⟩ := st.b1.three
  have St := Lib.hid st
  clear st hb
  go_upto_region 4 with (fail)
  have st := ((St.out.set0 (.slice A n c)).set1 (.int .i64 n)).set2 (.int .i64 0)
  clear c0 c1 c2 f0 f1 f2 g0 g1 g2
  generalize ((w1.setCell ⟨w.heap.size, 0, none⟩ (.slice A n c)).setCell ⟨w.heap.size, 1, none⟩ (.int .i64 n)).setCell ⟨w.heap.size, 2, none⟩ (.int .i64 0) = W2 at *
  obtain ⟨c0, c1, c2, f0, f1, f2⟩ := st.b0.three
  obtain ⟨_, _, _, g0, g1, g2⟩ := st.b1.three
  clear St
  have St := Lib.hid st
  clear st
  go_wp2_with fail
  have st := (St.out.set2 (.int .i64 7)).out (.slice A n c) (.int .i64 n) (.int .i64 7)
  clear c0 c1 c2 f0 f1 f2 g0 g1 g2
  obtain ⟨c0, c1, c2, _, _, _⟩ := st.b1.three
  refine bodyPost_ret (v := .tuple #[.agg #[.slice A n c, .int .i64 n, .int .i64 7], .bool false]) (by simp [results, Try.results46, go_sem, c0, c1, c2]) rfl ?_
  exact ⟨_, rfl, rfl, st.bel⟩
set_option maxRecDepth 100000 in
set_option maxHeartbeats 4000000 in
theorem rflag_bad (A : Option Addr) (n c tn : Nat) (bs : List Nat) (w : World) (h : RowB w w.heap.size A n c bs) (hn : n ≤ 16384) (ht : tn < n) (hx : 1 < nthB bs tn) :
    Calls Try.prog 46 #[tv A n c (tn : Int) 0] w (RIs w A n c (tn : Int) 120 (.flag false)) := by
  have ho := fun W => off_any A n c (tn : Int) 0 W
  rw [show checkT n (tn : Int) 0 = 0 by unfold checkT badT; simp; omega, show ((0 : Int) != 0) = false by rfl] at ho
  have hxb : nthB bs tn < 256 := h.byte _ (nth_mem (by rw [h.len]; exact ht))
  obtain ⟨b, o, rfl, hb, hc⟩ := h.at_ tn ht
  unfold bv at hc
  generalize nthB bs tn = x at *
  unfold RIs
  have Ho := Lib.hid ho
  have he : ((tn : Int) == (n : Int)) = false := by simp; omega
  have hd : decide ((1 : Int) < (x : Int)) = true := by simp; omega
  clear ho h hx
  unfold tv at *
  go_enter Try.func46, Try.ntmps46
  go_wp2_with fail
  refine (Ho.out _).mono ?_; rintro e w1 ⟨rfl, hbl⟩
  have st := off_two hbl
  have hne : b ≠ w.heap.size := by omega
  have hne1 : b ≠ w.heap.size + 1 := by omega
  obtain ⟨c0, c1, c2, f0, f1, f2⟩ := st.b0.three
  obtain ⟨_, _, _, g0, g1, g2⟩ := st.b1.three
  have St := Lib.hid st
  clear st hbl
  go_upto_region 4 with (fail)
  have st := ((St.out.set0 (.slice (some ⟨b, o, none⟩) n c)).set1 (.int .i64 tn)).set2 (.int .i64 0)
  clear c0 c1 c2 f0 f1 f2 g0 g1 g2
  generalize ((w1.setCell ⟨w.heap.size, 0, none⟩ (.slice (some ⟨b, o, none⟩) n c)).setCell ⟨w.heap.size, 1, none⟩ (.int .i64 tn)).setCell ⟨w.heap.size, 2, none⟩ (.int .i64 0) = W2 at *
  obtain ⟨c0, c1, c2, f0, f1, f2⟩ := st.b0.three
  obtain ⟨_, _, _, g0, g1, g2⟩ := st.b1.three
  clear St
  have St := Lib.hid st
  have q0 : W2.cell? ⟨b, o + tn, none⟩ = some (.int .u8 (x : Int)) := ((below_cell st.bel).1 _ _ hb).trans hc
  clear st hc
  go_wp2_with fail
  have st := (St.out.set2 (.int .i64 120)).out (.slice (some ⟨b, o, none⟩) n c) (.int .i64 tn) (.int .i64 120)
  clear c0 c1 c2 f0 f1 f2 g0 g1 g2
  obtain ⟨c0, c1, c2, _, _, _⟩ := st.b1.three
  refine bodyPost_ret (v := .tuple #[.agg #[.slice (some ⟨b, o, none⟩) n c, .int .i64 tn, .int .i64 120], .bool false]) (by simp [results, Try.results46, go_sem, c0, c1, c2]) rfl ?_
  exact ⟨_, rfl, rfl, st.bel⟩
set_option maxRecDepth 100000 in
set_option maxHeartbeats 4000000 in
theorem rflag_ok (A : Option Addr) (n c tn : Nat) (bs : List Nat) (w : World) (h : RowB w w.heap.size A n c bs) (hn : n ≤ 16384) (ht : tn < n) (hx : ¬ 1 < nthB bs tn) :
    Calls Try.prog 46 #[tv A n c (tn : Int) 0] w (RIs w A n c ((tn : Int) + 1) 0 (.flag (nthB bs tn == 1))) := by
  have ho := fun W => off_any A n c (tn : Int) 0 W
  rw [show checkT n (tn : Int) 0 = 0 by unfold checkT badT; simp; omega, show ((0 : Int) != 0) = false by rfl] at ho
  obtain ⟨b, o, rfl, hb, hc⟩ := h.at_ tn ht
  unfold bv at hc
  generalize nthB bs tn = x at *
  unfold RIs
  have Ho := Lib.hid ho
  have he : ((tn : Int) == (n : Int)) = false := by simp; omega
  have hd : decide ((1 : Int) < (x : Int)) = false := by simp; omega
  obtain ⟨q, hq⟩ : ∃ q : Bool, (x == 1) = q := ⟨_, rfl⟩
  have hq2 : ((x : Int) == 1) = q := by
    rw [← hq]
    by_cases h1 : x = 1
    · subst h1; rfl
    · rw [beq_eq_false_iff_ne.2 h1, beq_eq_false_iff_ne.2 (by omega)]
  rw [hq]
  clear ho h hx hq
  unfold tv at *
  go_enter Try.func46, Try.ntmps46
  go_wp2_with fail
  refine (Ho.out _).mono ?_; rintro e w1 ⟨rfl, hbl⟩
  have st := off_two hbl
  have hne : b ≠ w.heap.size := by omega
  have hne1 : b ≠ w.heap.size + 1 := by omega
  obtain ⟨c0, c1, c2, f0, f1, f2⟩ := st.b0.three
  obtain ⟨_, _, _, g0, g1, g2⟩ := st.b1.three
  have St := Lib.hid st
  clear st hbl
  go_upto_region 4 with (fail)
  have st := ((St.out.set0 (.slice (some ⟨b, o, none⟩) n c)).set1 (.int .i64 tn)).set2 (.int .i64 0)
  clear c0 c1 c2 f0 f1 f2 g0 g1 g2
  generalize ((w1.setCell ⟨w.heap.size, 0, none⟩ (.slice (some ⟨b, o, none⟩) n c)).setCell ⟨w.heap.size, 1, none⟩ (.int .i64 tn)).setCell ⟨w.heap.size, 2, none⟩ (.int .i64 0) = W2 at *
  obtain ⟨c0, c1, c2, f0, f1, f2⟩ := st.b0.three
  obtain ⟨_, _, _, g0, g1, g2⟩ := st.b1.three
  clear St
  have St := Lib.hid st
  have q0 : W2.cell? ⟨b, o + tn, none⟩ = some (.int .u8 (x : Int)) := ((below_cell st.bel).1 _ _ hb).trans hc
  have HCC := Lib.hid hc
  clear st hc
  go_wp2_with fail
  have st := St.out.set1 (.int .i64 ((tn : Int) + 1))
  clear c0 c1 c2 f0 f1 f2 g0 g1 g2 St
  generalize W2.setCell ⟨w.heap.size, 1, none⟩ (.int .i64 ((tn : Int) + 1)) = W3 at *
  have q3 : W3.cell? ⟨b, o + tn, none⟩ = some (.int .u8 (x : Int)) := ((below_cell st.bel).1 _ _ hb).trans HCC.out
  clear q0
  obtain ⟨c0, c1, c2, f0, f1, f2⟩ := st.b0.three
  obtain ⟨_, _, _, g0, g1, g2⟩ := st.b1.three
  have St := Lib.hid st
  have k1 : (tn : Int) + 1 - 1 = (tn : Int) := by omega
  have k2 : wrap64 ((tn : Int) + 1 - 1) = (tn : Int) := by unfold wrap64; omega
  have k3 : IntKind.i64.wrap ((tn : Int) + 1 - 1) = (tn : Int) := by rw [IntKind.wrap_i64]; omega
  have k4 : (tn : Int) < (n : Int) := by omega
  clear st he hd
  go_region
  go_wp2_with fail
  have st := (St.out.out (.slice (some ⟨b, o, none⟩) n c) (.int .i64 ((tn : Int) + 1)) (.int .i64 0)).drew
  clear c0 c1 c2 f0 f1 f2 g0 g1 g2
  obtain ⟨c0, c1, c2, _, _, _⟩ := st.b1.three
  refine bodyPost_ret (v := .tuple #[.agg #[.slice (some ⟨b, o, none⟩) n c, .int .i64 ((tn : Int) + 1), .int .i64 0], .bool q]) (by simp [results, Try.results46, go_sem, c0, c1, c2]) rfl ?_
  exact ⟨_, rfl, rfl, st.bel⟩
theorem rflag_any (A : Option Addr) (n c : Nat) (t err : Int) (bs : List Nat) (w : World) (h : RowB w w.heap.size A n c bs) :
    Calls Try.prog 46 #[tv A n c t err] w
      (RIs w A n c (goT n t err (flagR (rest bs t)).2.1 (flagR (rest bs t)).2.2).1 (goT n t err (flagR (rest bs t)).2.1 (flagR (rest bs t)).2.2).2.1 (.flag (if (goT n t err (flagR (rest bs t)).2.1 (flagR (rest bs t)).2.2).2.2 then (flagR (rest bs t)).1 else false))) := by
  by_cases hk : checkT n t err = 0
  · have hk2 := hk
    obtain ⟨rfl, hn, h0, htn⟩ := check_zero hk
    obtain ⟨tn, rfl⟩ : ∃ tn : Nat, t = (tn : Int) := ⟨t.toNat, by omega⟩
    have hl := rest_len (tn := tn) h.len
    have h0 : nthB (rest bs (tn : Int)) 0 = nthB bs tn := by unfold rest; rw [nthB_drop]; simp
    by_cases he : tn = n
    · subst he
      have hf : flagR (rest bs (tn : Int)) = (false, 0, 7) := by unfold flagR; rw [if_pos (by omega)]
      rw [hf, goT_err hk2 (by show (7 : Int) ≠ 0; omega)]
      exact rflag_end A tn c w hn
    · by_cases hx : 1 < nthB bs tn
      · have hf : flagR (rest bs (tn : Int)) = (false, 0, 120) := by unfold flagR; rw [if_neg (by omega), if_pos (by rw [h0]; exact hx)]
        rw [hf, goT_err hk2 (by show (120 : Int) ≠ 0; omega)]
        exact rflag_bad A n c tn bs w h hn (by omega) hx
      · have hf : flagR (rest bs (tn : Int)) = (nthB bs tn == 1, 1, 0) := by unfold flagR; rw [if_neg (by omega), if_neg (by rw [h0]; exact hx), h0]
        rw [hf, goT_yes hk2]
        exact rflag_ok A n c tn bs w h hn (by omega) hx
  · rw [goT_off hk]
    exact rflag_off A n c t err w hk
end Go.Proofs.Ytnppkobckabpcaa
