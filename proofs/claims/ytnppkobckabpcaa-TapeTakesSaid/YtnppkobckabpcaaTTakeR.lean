/- What the document says of taking. -/
import Derived.Test.YtnppkobckabpcaaTShortR
import Derived.Test.YtnppkobckabpcaaTAsks
import Derived.BigRegion
namespace Go.Proofs.Ytnppkobckabpcaa
open Go.RowKit

theorem below_drew1 {B : Nat} {a w : World} (h : Below B a w) : Below B a w.drew := h.drew
theorem Two.drew {w0 w : World} {g : Nat} {s : Value} {bs : List Nat} {x0 x1 x2 y0 y1 y2 : Value} (h : Two w0 w g s bs x0 x1 x2 y0 y1 y2) : Two w0 w.drew g s bs x0 x1 x2 y0 y1 y2 := ⟨h.b0, h.b1, ⟨h.own.1, h.own.2⟩, h.bel.drew⟩
theorem off_two {w w1 : World} {x0 x1 x2 y0 y1 y2 : Value}
    (hb : Below ((w.alloc (.cells #[x0, x1, x2] 40)).alloc (.cells #[y0, y1, y2] 40)).heap.size ((w.alloc (.cells #[x0, x1, x2] 40)).alloc (.cells #[y0, y1, y2] 40)) w1) : Two w w1 w.heap.size (.slice none 0 0) [] x0 x1 x2 y0 y1 y2 :=
  Two.new hb (OwnB.nil _ _)
set_option maxRecDepth 100000 in
set_option maxHeartbeats 2000000 in
theorem off_any (A : Option Addr) (n c : Nat) (t err : Int) (w : World) :
    Calls Try.prog 57 #[tv A n c t err] w fun e w' => e = .returned (.tuple #[tv A n c t (checkT n t err), .bool (checkT n t err != 0)]) ∧ Below w.heap.size w w' := by
  have hr := fun W => right_any A n c t err W
  unfold checkT
  generalize badT n t = b at *
  unfold tv at *
  have Hr := Lib.hid hr; clear hr
  cases b with
  | true =>
    rw [if_pos rfl]
    go_enter Try.func57, Try.ntmps57
    go_wp2_with fail
    refine (Hr.out _).mono ?_; rintro e w1 ⟨rfl, hb⟩
    have st := off_two hb
    obtain ⟨c0, c1, c2, f0, f1, f2⟩ := st.b0.three
    obtain ⟨_, _, _, g0, g1, g2⟩ := st.b1.three
    have St := Lib.hid st
    clear st hb
    go_wp2_with fail
    go_region
    go_wp2_with fail
    have st := ((St.out.set2 (.int .i64 120)).out (.slice A n c) (.int .i64 t) (.int .i64 120)).drew
    clear c0 c1 c2 f0 f1 f2 g0 g1 g2
    obtain ⟨c0, c1, c2, _, _, _⟩ := st.b1.three
    refine bodyPost_ret (v := .tuple #[.agg #[.slice A n c, .int .i64 t, .int .i64 120], .bool true]) (by simp [results, Try.results57, go_sem, c0, c1, c2]) rfl ?_
    exact ⟨rfl, st.bel⟩
  | false =>
    rw [if_neg (by simp)]
    have hq : ∃ q : Bool, (err != 0) = q := ⟨_, rfl⟩
    obtain ⟨q, hq⟩ := hq
    rw [hq]
    go_enter Try.func57, Try.ntmps57
    go_wp2_with fail
    refine (Hr.out _).mono ?_; rintro e w1 ⟨rfl, hb⟩
    have st := off_two hb
    obtain ⟨c0, c1, c2, f0, f1, f2⟩ := st.b0.three
    obtain ⟨_, _, _, g0, g1, g2⟩ := st.b1.three
    have St := Lib.hid st
    clear st hb
    go_wp2_with fail
    go_region
    go_wp2_with fail
    have st := (St.out.out (.slice A n c) (.int .i64 t) (.int .i64 err)).drew
    clear c0 c1 c2 f0 f1 f2 g0 g1 g2
    obtain ⟨c0, c1, c2, _, _, _⟩ := st.b1.three
    refine bodyPost_ret (v := .tuple #[.agg #[.slice A n c, .int .i64 t, .int .i64 err], .bool q]) (by simp [results, Try.results57, go_sem, c0, c1, c2]) rfl ?_
    exact ⟨rfl, st.bel⟩
end Go.Proofs.Ytnppkobckabpcaa
