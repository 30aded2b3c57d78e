/- For every sessions, and two askings: what two clients ask comes to the same in whatever order. No condition beyond the row's. -/
import Derived.Test.YtgnfoncokjglbaaWOpen
import Derived.Test.YtgnfoncokjglbaaWOrderW
namespace Go.Proofs.Ytgnfoncokjglbaa
open Go.ChangeShapes Go.WideShapes Go.ChangeAt Go.WideMaps Go.WideElems Go.RowKit Go.Joins

set_option maxRecDepth 100000 in
theorem order12_lifted (os : Os) (started : os.Started) (H : Type) (enc : TypeId × Value → H) :
    ReturnsInHanded {} Try.checked os 6 .any (Rows.sessionOrderSpec.pre6 enc Try.prog Try.f6 Rows.sessionOrderRow.domain false) (Rows.sessionOrderSpec.post enc Try.prog Try.f6 false true false false) := by
  refine returnsInHanded_of_change (C := Try.checked) own started (by kernel_rfl) Try.func6
    (ChangeSpec.witness6 (enc := enc) (C := Try.checked) false ⟨#[], #[.agg #[.slice none 0 0], .agg #[.int .i64 0, .int .u64 0, .int .i64 0, .slice none 0 0], .agg #[.int .i64 0, .int .u64 0, .int .i64 0, .slice none 0 0]], []⟩ 8 (by kernel_rfl) (by kernel_rfl) (by kernel_rfl) (by kernel_rfl)) ?_
  intro W base args ds gs before hval0 hW hcnd _
  have hval : ∀ (j : Nat) t v, Try.f6.params[j]? = some t → args[j]? = some v → Value.okWide Try.prog W .any base t v := hval0
  have hW' := hW
  obtain ⟨p, q, hA0, hV, rfl, hfz, hnd⟩ := hW
  have hA : DataW.TrodAll enc Try.prog W 0 (fun _ => true) true Try.f6.params.toList args.toList ds p := hA0
  rw [Try.params6] at hA hval
  obtain ⟨v0, v1, v2, d0, d1, d2, p0, p1, p2, rfl, rfl, rfl, h0, h1, h2⟩ := trodAll_three hA
  obtain ⟨rfl, rfl⟩ := trodVars_none hV
  obtain ⟨A0, n0, c0, rfl, ms0, hs0⟩ := open_sess (hval 0 24 v0 rfl rfl) h0
  obtain ⟨a1, q1, e1, u1, l1, rfl, hk1⟩ := open_ask (hval 1 37 v1 rfl rfl) h1
  obtain ⟨a2, q2, e2, u2, l2, rfl, hk2⟩ := open_ask (hval 2 37 v2 rfl rfl) h2
  refine (order_law A0 n0 c0 ms0 a1 q1 e1 a2 q2 e2 u1 u2 l1 l2 W hs0 hk1.1.1 hk2.1.1 hk1.2 hk2.2 hk1.1.2.2 hk2.1.2.2).mono fun e W' ⟨he, hb⟩ => ?_
  subst he
  exact ⟨_, rfl, law_post laidOut rfl rfl rfl Try.underlying4 (by kernel_rfl) hW' hb⟩

theorem order12_holds : Rows.SessionOrderSaid :=
  OpenClaim.holds_of_wide 6 Try.f6 rfl rfl rfl rfl rfl rfl rfl ⟨rfl, rfl, rfl, rfl, rfl⟩ rfl rfl rfl rfl rfl (by kernel_rfl) Try.func6 (by kernel_rfl)
    (of_decide_eq_true (by kernel_rfl)) (by unfold Func.isWrapper; first | (rw [if_pos (by decide +kernel)]; kernel_rfl) | (rw [if_neg (by decide +kernel)]; exact ⟨rfl, rfl⟩))
    (fun os started H enc _ => order12_lifted os started H enc)
#print axioms order12_holds
end Go.Proofs.Ytgnfoncokjglbaa
