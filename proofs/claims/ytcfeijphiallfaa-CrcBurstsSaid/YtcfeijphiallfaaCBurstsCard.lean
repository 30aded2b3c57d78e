/- For every bytes, place, and 32 bits: bytes some of whose bits are turned, all within 32 of one another, have another sum; sealed ones, turned so, are not opened. No condition beyond the row's. -/
import Derived.Test.YtcfeijphiallfaaCLift
import Derived.Test.YtcfeijphiallfaaCArgs
import Derived.Test.YtcfeijphiallfaaCBursts
namespace Go.Proofs.Ytcfeijphiallfaa
open Go.ChangeShapes Go.WideShapes Go.ChangeAt Go.WideMaps Go.WideElems Go.RowKit Go.Joins

set_option maxRecDepth 100000 in
theorem bursts_lifted (os : Os) (started : os.Started) (H : Type) (enc : TypeId × Value → H) :
    ReturnsInHanded {} Try.checked os 6 .any (Rows.crcBurstsSpec.pre6 enc Try.prog Try.f6 Rows.crcBurstsRow.domain false) (Rows.crcBurstsSpec.post enc Try.prog Try.f6 false true false false) := by
  refine returnsInHanded_of_change (C := Try.checked) own started (by kernel_rfl) Try.func6
    (ChangeSpec.witness6 (enc := enc) (C := Try.checked) false ⟨#[], #[.slice none 0 0, .int .i64 0, .int .u32 0], []⟩ 8 (by kernel_rfl) (by kernel_rfl) (by kernel_rfl) (by kernel_rfl)) ?_
  intro W base args ds gs before hval0 hW hcnd _
  have hval : ∀ (j : Nat) t v, Try.f6.params[j]? = some t → args[j]? = some v → Value.okWide Try.prog W .any base t v := hval0
  have hW' := hW
  obtain ⟨p, q, hA0, hV, rfl, hfz, hnd⟩ := hW
  have hA : DataW.TrodAll enc Try.prog W 0 (fun _ => true) true Try.f6.params.toList args.toList ds p := hA0
  rw [Try.params6] at hA hval
  obtain ⟨v0, v1, v2, d0, d1, d2, p0, p1, p2, rfl, rfl, rfl, h0, h1, h2⟩ := trodAll_three hA
  obtain ⟨rfl, rfl⟩ := trodVars_none hV
  obtain ⟨A1, n1, c1, x1, rfl, r1⟩ := open_bytes_arg h0 (okWide_slice Try.underlying24 (hval 0 24 v0 rfl rfl))
  obtain ⟨z1, rfl⟩ := okWide_int Try.underlying3 (hval 1 3 v1 rfl rfl)
  obtain ⟨fz1, hz1⟩ := h1
  obtain ⟨zz1, e1, _, w1⟩ := DataW.trod_int Try.underlying3 hz1
  obtain rfl : z1 = zz1 := by simpa [Value.cells] using e1
  obtain ⟨z2, rfl⟩ := okWide_int Try.underlying25 (hval 2 25 v2 rfl rfl)
  obtain ⟨fz2, hz2⟩ := h2
  obtain ⟨zz2, e2, _, w2⟩ := DataW.trod_int Try.underlying25 hz2
  obtain rfl : z2 = zz2 := by simpa [Value.cells] using e2
  obtain ⟨b0, b1⟩ := bounds_u32' w2
  obtain ⟨y, rfl⟩ : ∃ y : Nat, z2 = (y : Int) := ⟨z2.toNat, by omega⟩
  refine (bursts_walk A1 n1 c1 x1 z1 y W r1 (by omega)).mono fun e W' ⟨he, hb⟩ => ?_
  subst he
  exact ⟨_, rfl, law_post laidOut rfl rfl rfl Try.underlying4 (by kernel_rfl) hW' hb⟩

theorem bursts_holds : Rows.CrcBurstsSaid :=
  OpenClaim.holds_of_wide 6 Try.f6 rfl rfl rfl rfl rfl rfl rfl ⟨rfl, rfl, rfl, rfl, rfl⟩ rfl rfl rfl rfl rfl (by kernel_rfl) Try.func6 (by kernel_rfl)
    (of_decide_eq_true (by kernel_rfl)) (by unfold Func.isWrapper; first | (rw [if_pos (by decide +kernel)]; kernel_rfl) | (rw [if_neg (by decide +kernel)]; exact ⟨rfl, rfl⟩))
    (fun os started H enc _ => bursts_lifted os started H enc)
#print axioms bursts_holds
end Go.Proofs.Ytcfeijphiallfaa
