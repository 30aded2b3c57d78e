/- The document's macros, and which crons may be: walked. -/
import Derived.Test.YtmjjdccpnepjjaaGreatDoorK5
import Derived.Test.YtmjjdccpnepjjaaGreatDoorKGRWords
import Derived.Test.YtmjjdccpnepjjaaGreatDoorKGErr
namespace Go.Proofs.YtmjjdccpnepjjaaGreatDoor
open Go.RowKit

set_option maxRecDepth 100000 in
theorem rmacro_any (l : List UInt8) (w : World) :
    Calls Tryz.prog 13 #[strV l] w fun e w' => e = .returned (strV ((macroL l).getD [])) ∧ w = w' := by
  unfold strV
  by_cases h0 : l = [64, 121, 101, 97, 114, 108, 121]
  · subst h0
    go_enter Tryz.func13, Tryz.ntmps13
    go_wp2_with fail
    go_ret
    exact ⟨rfl, rfl⟩
  by_cases h1 : l = [64, 97, 110, 110, 117, 97, 108, 108, 121]
  · subst h1
    go_enter Tryz.func13, Tryz.ntmps13
    go_wp2_with fail
    go_ret
    exact ⟨rfl, rfl⟩
  by_cases h2 : l = [64, 109, 111, 110, 116, 104, 108, 121]
  · subst h2
    go_enter Tryz.func13, Tryz.ntmps13
    go_wp2_with fail
    go_ret
    exact ⟨rfl, rfl⟩
  by_cases h3 : l = [64, 119, 101, 101, 107, 108, 121]
  · subst h3
    go_enter Tryz.func13, Tryz.ntmps13
    go_wp2_with fail
    go_ret
    exact ⟨rfl, rfl⟩
  by_cases h4 : l = [64, 100, 97, 105, 108, 121]
  · subst h4
    go_enter Tryz.func13, Tryz.ntmps13
    go_wp2_with fail
    go_ret
    exact ⟨rfl, rfl⟩
  by_cases h5 : l = [64, 109, 105, 100, 110, 105, 103, 104, 116]
  · subst h5
    go_enter Tryz.func13, Tryz.ntmps13
    go_wp2_with fail
    go_ret
    exact ⟨rfl, rfl⟩
  by_cases h6 : l = [64, 104, 111, 117, 114, 108, 121]
  · subst h6
    go_enter Tryz.func13, Tryz.ntmps13
    go_wp2_with fail
    go_ret
    exact ⟨rfl, rfl⟩
  have hm : macroL l = none := by
    unfold macroL
    rw [if_neg (by rintro (h | h); exact h0 h; exact h1 h), if_neg h2, if_neg h3, if_neg (by rintro (h | h); exact h4 h; exact h5 h), if_neg h6]
  have g0 : (l == [64, 121, 101, 97, 114, 108, 121]) = false := by rw [beq_eq_false_iff_ne]; exact h0
  have g1 : (l == [64, 97, 110, 110, 117, 97, 108, 108, 121]) = false := by rw [beq_eq_false_iff_ne]; exact h1
  have g2 : (l == [64, 109, 111, 110, 116, 104, 108, 121]) = false := by rw [beq_eq_false_iff_ne]; exact h2
  have g3 : (l == [64, 119, 101, 101, 107, 108, 121]) = false := by rw [beq_eq_false_iff_ne]; exact h3
  have g4 : (l == [64, 100, 97, 105, 108, 121]) = false := by rw [beq_eq_false_iff_ne]; exact h4
  have g5 : (l == [64, 109, 105, 100, 110, 105, 103, 104, 116]) = false := by rw [beq_eq_false_iff_ne]; exact h5
  have g6 : (l == [64, 104, 111, 117, 114, 108, 121]) = false := by rw [beq_eq_false_iff_ne]; exact h6
  rw [hm]
  clear hm h0 h1 h2 h3 h4 h5 h6
  go_enter Tryz.func13, Tryz.ntmps13
  go_wp2_with fail
  go_ret
  exact ⟨rfl, rfl⟩
end Go.Proofs.YtmjjdccpnepjjaaGreatDoor
