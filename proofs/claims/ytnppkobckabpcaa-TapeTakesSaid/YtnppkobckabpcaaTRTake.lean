/- What the document says of taking, in one: Take and TakeInt. -/
import Derived.Test.YtnppkobckabpcaaTTakeR2
import Derived.Test.YtnppkobckabpcaaTNum
import Derived.Deep.RegionWith
namespace Go.Proofs.Ytnppkobckabpcaa
open Go.RowKit

theorem rest_len {bs : List Nat} {n tn : Nat} (h : bs.length = n) : (rest bs (tn : Int)).length = n - tn := by unfold rest; rw [List.length_drop, h]; simp
theorem goT_off {n s : Nat} {t err ee : Int} (h : checkT n t err ≠ 0) : goT n t err s ee = (t, checkT n t err, false) := by unfold goT; rw [if_pos h]
theorem goT_err {n s : Nat} {t err ee : Int} (h : checkT n t err = 0) (he : ee ≠ 0) : goT n t err s ee = (t, ee, false) := by unfold goT; rw [if_neg (by omega), if_pos he]
theorem goT_yes {n s : Nat} {t err : Int} (h : checkT n t err = 0) : goT n t err s 0 = (t + s, 0, true) := by unfold goT; rw [if_neg (by omega), if_neg (by omega)]
theorem rtake_any (A : Option Addr) (n c m : Nat) (t err : Int) (bs : List Nat) (w : World) (h : RowB w w.heap.size A n c bs) :
    Calls Try.prog 44 #[tv A n c t err, .int .u64 (m : Int)] w
      (RIs w A n c (goT n t err (rdS (rest bs t)).2.1 (mostE (rest bs t) m)).1 (goT n t err (rdS (rest bs t)).2.1 (mostE (rest bs t) m)).2.1 (.num .u64 (if (goT n t err (rdS (rest bs t)).2.1 (mostE (rest bs t) m)).2.2 then ((rdS (rest bs t)).1 : Int) else 0))) := by
  by_cases hk : checkT n t err = 0
  · have hk2 := hk
    obtain ⟨rfl, hn, h0, htn⟩ := check_zero hk
    obtain ⟨tn, rfl⟩ : ∃ tn : Nat, t = (tn : Int) := ⟨t.toNat, by omega⟩
    have hl := rest_len (tn := tn) h.len
    rcases hrd : rdS (rest bs (tn : Int)) with ⟨x, s, ee⟩
    have hs := (rdS_len hrd).1
    by_cases he : ee = 0
    · subst he
      by_cases hm : x ≤ m
      · have hM : mostE (rest bs (tn : Int)) m = 0 := by unfold mostE; rw [hrd, if_neg (by simp; omega)]; rfl
        rw [hM, goT_yes hk2]
        simpa using rtake_ok A n c m tn x s bs w h hn (by omega) (by omega) hrd hm
      · have hM : mostE (rest bs (tn : Int)) m = 3 := by unfold mostE; rw [hrd, if_pos ⟨rfl, by show m < x; omega⟩]
        rw [hM, goT_err hk2 (by omega)]
        simpa using rtake_max A n c m tn x s bs w h hn (by omega) (by omega) hrd (by omega)
    · have hM : mostE (rest bs (tn : Int)) m = (ee : Int) := by unfold mostE; rw [hrd, if_neg (by intro h; exact he h.1)]
      rw [hM, goT_err hk2 (by omega)]
      simpa using rtake_err A n c m tn x s ee bs w h hn (by omega) (by omega) hrd he
  · rw [goT_off hk]
    simpa using rtake_off A n c m t err w hk
set_option maxRecDepth 100000 in
set_option maxHeartbeats 4000000 in
theorem rint_step (A : Option Addr) (n c : Nat) (t err t2 err2 z : Int) (w : World) (hz0 : 0 ≤ z) (hz1 : z ≤ 18446744073709551615)
    (hc : ∀ W, Below w.heap.size w W → Calls Try.prog 44 #[tv A n c t err, .int .u64 18446744073709551615] W (RIs W A n c t2 err2 (.num .u64 z))) :
    Calls Try.prog 45 #[tv A n c t err] w (RIs w A n c t2 err2 (.num .i64 (backZ z))) := by
  have hB : Below w.heap.size w ((w.alloc (.cells #[.slice A n c, .int .i64 t, .int .i64 err] 40)).alloc (.cells #[.slice none 0 0, .int .i64 0, .int .i64 0] 40)) := gr_alloc ((Below.refl _ w).alloc (Nat.le_refl _) _) _
  have HC := Lib.hid (hc _ hB)
  have RB := Lib.hid (fun W => rback_any z W hz0 hz1)
  clear hc hz0 hz1 hB
  unfold RIs tv at *
  go_enter Try.func45, Try.ntmps45
  go_wp2_with fail
  refine HC.out.mono ?_; rintro e w1 ⟨x, rfl, hx, hb⟩
  obtain rfl : x = .int .u64 z := hx
  have st := (off_two hb).call ((Below.refl _ w1).alloc (Nat.le_refl _) (.cells #[.slice A n c, .int .i64 t2, .int .i64 err2] 40))
  obtain ⟨c0, c1, c2, f0, f1, f2⟩ := st.b0.three
  obtain ⟨d0, d1, d2, g0, g1, g2⟩ := st.b1.three
  have St := Lib.hid st
  clear st hb HC
  go_wp2_with fail
  go_region_with (first
    | (go_at_call 18
       refine (RB.out _).mono ?_
       rintro e w6 ⟨rfl, rfl⟩))
  all_goals
    go_wp2_with fail
    have st := (St.out.out (.slice A n c) (.int .i64 t2) (.int .i64 err2)).drew
    clear c0 c1 c2 f0 f1 f2 d0 d1 d2 g0 g1 g2
    obtain ⟨c0, c1, c2, _, _, _⟩ := st.b1.three
    refine bodyPost_ret (v := .tuple #[.agg #[.slice A n c, .int .i64 t2, .int .i64 err2], .int .i64 (backZ z)]) (by simp [results, Try.results45, go_sem, Act.put, c0, c1, c2]) rfl ?_
    exact ⟨_, rfl, rfl, st.bel⟩
end Go.Proofs.Ytnppkobckabpcaa
