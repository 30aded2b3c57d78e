/- Does the layer do anything: walked. -/
import Derived.Test.YtgnfoncokjglbaaWROf
namespace Go.Proofs.Ytgnfoncokjglbaa
open Go.RowKit

def wkR : RepZ := ⟨6, []⟩
def wkT : Tri := ⟨none, some (1, wkR), none⟩
theorem wkR_may : wkR.May := ⟨by decide, .inr rfl, by decide, ⟨fun k x hk => by simp [wkR] at hk, fun k x y hk => by simp [wkR] at hk⟩⟩
theorem zeroR_may : zeroR.May := ⟨by decide, .inl rfl, by decide, ⟨fun k x hk => by simp [zeroR] at hk, fun k x y hk => by simp [zeroR] at hk⟩⟩
theorem wkT_may : wkT.May := ⟨trivial, ⟨by decide, by decide, wkR_may⟩, trivial⟩
theorem wk_keep : keepE [] 2 1 wkR = 0 ∧ keepS [] 2 1 wkR = [⟨2, 1, wkR⟩] := by
  have ht : (⟨none, none, none⟩ : Tri).May := ⟨trivial, trivial, trivial⟩
  have h : keepE (⟨none, none, none⟩ : Tri).rows 2 1 wkR = 0 := keep_zero ht (by decide) wkR_may rfl
  exact ⟨h, (keep_rows ht h).2.2.2.1⟩
theorem wk_judge : judgeE [⟨2, 1, wkR⟩] 2 1 = 0 ∧ judgeH [⟨2, 1, wkR⟩] 2 1 = 2 ∧ judgeE [⟨2, 1, wkR⟩] 2 2 = 0 ∧ judgeH [⟨2, 1, wkR⟩] 2 2 = 1 := by
  have hok : okS [⟨2, 1, wkR⟩] = true := okS_yes.2 (Tri.rows_may wkT_may)
  refine ⟨?_, ?_, ?_, ?_⟩
  · unfold judgeE; rw [if_pos hok, if_pos (by decide)]
  · unfold judgeH; rw [if_pos ⟨hok, by decide⟩]; rfl
  · unfold judgeE; rw [if_pos hok, if_pos (by decide)]
  · unfold judgeH; rw [if_pos ⟨hok, by decide⟩]; rfl
theorem wk_again : keepE [⟨2, 1, wkR⟩] 2 1 zeroR = 221 := by
  have := (keep_cases [⟨2, 1, wkR⟩] 2 1 zeroR).2.2.1 wk_judge.1 zeroR_may (by rw [wk_judge.2.1]; decide)
  exact this.1
theorem wk_of : ofZ [⟨2, 1, wkR⟩] 2 = ⟨2, 1, wkR⟩ := ofZ_rows wkT_may (c := 2) (by decide) (by decide)
theorem rep_zero_fit : RepZ.Fit zeroR := ⟨by decide, fun x hx => by cases hx⟩
set_option maxRecDepth 100000 in
set_option maxHeartbeats 4000000 in
theorem wakes_any (w : World) : Calls Try.prog 7 #[] w fun e w' => e = .returned (.bool true) ∧ Below w.heap.size w w' := by
  have HK := Lib.hid (keep_any none 0 0 2 1 6 (.slice none 0 0) [] [] w (.nil w) (by decide) (.nil w) ⟨by decide, fun x hx => by cases hx⟩)
  rw [show keepE (([] : List SesM).map (·.1)) 2 1 ⟨6, []⟩ = 0 from wk_keep.1, show keepS (([] : List SesM).map (·.1)) 2 1 ⟨6, []⟩ = [⟨2, 1, wkR⟩] from wk_keep.2] at HK
  go_enter Try.func7, Try.ntmps7
  go_wp2_with fail
  refine HK.out.mono ?_
  rintro y w1 ⟨⟨A1, c1, ms, rfl, ho, hl⟩, hb1⟩
  generalize hlen : ms.length = n1 at *
  have hsr : SR w1 A1 n1 c1 ms := by
    obtain ⟨A, c, e, h⟩ := ho.sr
    rw [hlen] at h e
    cases e
    exact h
  have HA1 := Lib.hid (new_below w1 (.cells #[.slice A1 n1 c1] 24))
  have HX1 := Lib.hid (SBox.new w1 24 #[.slice A1 n1 c1])
  have HB1 := Lib.hid (hb1.alloc hb1.size (.cells #[.slice A1 n1 c1] 24))
  have HS1 := Lib.hid (hsr.on HA1.out)
  have HL := Lib.hid hl
  clear hb1 ho hl hlen hsr
  go_upto_region 2 with fail
  obtain ⟨W1, hW1⟩ : ∃ W1 : World, W1 = w1.alloc (.cells #[.slice A1 n1 c1] 24) := ⟨_, rfl⟩
  rw [← hW1] at HA1 HX1 HB1 HS1 ⊢
  clear hW1
  have c0 := HX1.out.one
  have HJ1 := Lib.hid (judge_any A1 n1 c1 2 1 ms W1 HS1.out (by decide))
  have HJ2 := Lib.hid (fun W (hb : Below W1.heap.size W1 W) => judge_any A1 n1 c1 2 2 ms W (HS1.out.on hb) (by decide))
  have HK2 := Lib.hid (fun W (hb : Below W1.heap.size W1 W) => keep_any A1 n1 c1 2 1 0 (.slice none 0 0) [] ms W (HS1.out.on hb) (by decide) (.nil W) rep_zero_fit)
  have HOF := Lib.hid (fun W (hb : Below W1.heap.size W1 W) => of_any A1 n1 c1 2 ms W (HS1.out.on hb) (by decide))
  rw [HL.out, wk_judge.1, wk_judge.2.1] at HJ1
  rw [HL.out, wk_judge.2.2.1, wk_judge.2.2.2] at HJ2
  rw [HL.out, show keepE [⟨2, 1, wkR⟩] 2 1 ⟨0, []⟩ = 221 from wk_again] at HK2
  rw [HL.out, wk_of] at HOF
  go_wp2_with fail
  refine HJ1.out.mono ?_
  rintro y w2 ⟨rfl, hb2⟩
  have HB2 := Lib.hid hb2
  clear c0
  have c0 := (HX1.out.on hb2).one
  clear hb2
  go_wp2_with fail
  refine (HJ2.out _ HB2.out).mono ?_
  rintro y w3 ⟨rfl, hb3⟩
  have HB3 := Lib.hid (HB2.out.trans (hb3.mono HB2.out.size))
  clear c0
  have c0 := (HX1.out.on HB3.out).one
  clear hb3
  go_wp2_with fail
  refine (HK2.out _ HB3.out).mono ?_
  rintro y w4 ⟨⟨A4, c4, ms4, rfl, _, _⟩, hb4⟩
  have HB4' := Lib.hid (HB3.out.trans (hb4.mono HB3.out.size))
  generalize ms4.length = n4 at *
  have HB4 := Lib.hid (HB4'.out.alloc HB4'.out.size (.cells #[.slice A4 n4 c4] 24))
  clear c0
  have c0 := (HX1.out.on HB4.out).one
  clear hb4
  go_upto_region 5 with fail
  obtain ⟨W4, hW4⟩ : ∃ W4 : World, W4 = w4.alloc (.cells #[.slice A4 n4 c4] 24) := ⟨_, rfl⟩
  rw [← hW4] at HB4 c0 ⊢
  clear hW4
  go_wp2_with fail
  refine (HOF.out _ HB4.out).mono ?_
  rintro y w5 ⟨⟨A5, c5, rfl, _⟩, hb5⟩
  have HB5 := Lib.hid (HB4.out.trans (hb5.mono HB4.out.size))
  unfold sesV
  have hf1 := fun W => field_rep 2 1 6 (.slice A5 0 c5) W
  have hf2 := fun W => field_err 6 (.slice A5 0 c5) W
  simp only [wkR, List.length_nil]
  clear hb5 c0
  go_wp2_with fail
  go_ret
  exact ⟨rfl, HB1.out.trans (HB5.out.mono HB1.out.size)⟩
end Go.Proofs.Ytgnfoncokjglbaa
