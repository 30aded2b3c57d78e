/- For every two sessions, and row of askings: which may be, are the same, and what a client has asked last, is what the document says. No condition beyond the row's. -/
import Derived.Test.YtgnfoncokjglbaaWOpen
import Derived.Test.YtgnfoncokjglbaaWTellsW
namespace Go.Proofs.Ytgnfoncokjglbaa
open Go.ChangeShapes Go.WideShapes Go.ChangeAt Go.WideMaps Go.WideElems Go.RowKit Go.Joins

set_option maxRecDepth 100000 in
theorem tells12_lifted (os : Os) (started : os.Started) (H : Type) (enc : TypeId × Value → H) :
    ReturnsInHanded {} Try.checked os 3 .any (Rows.sessionTellsSpec.pre6 enc Try.prog Try.f3 Rows.sessionTellsRow.domain false) (Rows.sessionTellsSpec.post enc Try.prog Try.f3 false true false false) := by
  refine returnsInHanded_of_change (C := Try.checked) own started (by kernel_rfl) Try.func3
    (ChangeSpec.witness6 (enc := enc) (C := Try.checked) false ⟨#[], #[.agg #[.slice none 0 0], .agg #[.slice none 0 0], .slice none 0 0], []⟩ 8 (by kernel_rfl) (by kernel_rfl) (by kernel_rfl) (by kernel_rfl)) ?_
  intro W base args ds gs before hval0 hW hcnd _
  have hval : ∀ (j : Nat) t v, Try.f3.params[j]? = some t → args[j]? = some v → Value.okWide Try.prog W .any base t v := hval0
  have hW' := hW
  obtain ⟨p, q, hA0, hV, rfl, hfz, hnd⟩ := hW
  have hA : DataW.TrodAll enc Try.prog W 0 (fun _ => true) true Try.f3.params.toList args.toList ds p := hA0
  rw [Try.params3] at hA hval
  obtain ⟨v0, v1, v2, d0, d1, d2, p0, p1, p2, rfl, rfl, rfl, h0, h1, h2⟩ := trodAll_three hA
  obtain ⟨rfl, rfl⟩ := trodVars_none hV
  obtain ⟨A0, n0, c0, rfl, ms0, hs0⟩ := open_sess (hval 0 24 v0 rfl rfl) h0
  obtain ⟨A1, n1, c1, rfl, ms1, hs1⟩ := open_sess (hval 1 24 v1 rfl rfl) h1
  obtain ⟨A2, n2, c2, rfl, ms2, hs2⟩ := open_asks (okWide_slice Try.underlying25 (hval 2 25 v2 rfl rfl)) h2
  refine (tells_law A0 n0 c0 ms0 A1 n1 c1 ms1 A2 n2 c2 ms2 W hs0 hs1 hs2).mono fun e W' ⟨he, hb⟩ => ?_
  subst he
  exact ⟨_, rfl, law_post laidOut rfl rfl rfl Try.underlying4 (by kernel_rfl) hW' hb⟩

theorem tells12_holds : Rows.SessionTellsSaid :=
  OpenClaim.holds_of_wide 3 Try.f3 rfl rfl rfl rfl rfl rfl rfl ⟨rfl, rfl, rfl, rfl, rfl⟩ rfl rfl rfl rfl rfl (by kernel_rfl) Try.func3 (by kernel_rfl)
    (of_decide_eq_true (by kernel_rfl)) (by unfold Func.isWrapper; first | (rw [if_pos (by decide +kernel)]; kernel_rfl) | (rw [if_neg (by decide +kernel)]; exact ⟨rfl, rfl⟩))
    (fun os started H enc _ => tells12_lifted os started H enc)
#print axioms tells12_holds
end Go.Proofs.Ytgnfoncokjglbaa
