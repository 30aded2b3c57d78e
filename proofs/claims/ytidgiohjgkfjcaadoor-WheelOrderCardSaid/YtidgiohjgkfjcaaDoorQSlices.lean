/- slices.Equal at dues; the time of an act. -/
import Derived.Test.YtidgiohjgkfjcaaDoorQRef
namespace Go.Proofs.YtidgiohjgkfjcaaDoor
open Go.RowKit

set_option maxHeartbeats 1000000 in
theorem equal_dues (A B : Option Addr) (n c d B1 B2 : Nat) (l : List (Int × Int)) (w : World) (ha : DuesR w B1 A n c l) (hb : DuesR w B2 B n d l) :
    Calls Tryd.prog 18 #[.slice A n c, .slice B n d] w fun e w' => e = .returned (.bool true) ∧ ∃ q, w' = w.drewN q := by
  have hcap := ha.cap
  have htop := ha.top
  have hlen := ha.len
  unfold maxLen at htop
  have HA := Lib.hid ha
  have HB := Lib.hid hb
  clear ha hb
  go_enter Tryd.func18, Tryd.ntmps18
  go_wp2
  go_loopw [13] (fun i wr => ∃ k q : Nat, k ≤ n ∧ i = .int .i64 k ∧ wr = w.drewN q) (fun i _ => n - (intOf i).toNat)
  case atStart => exact ⟨0, 0, Nat.zero_le _, rfl, rfl⟩
  case round =>
    obtain ⟨k, q, hk, rfl, rfl⟩ := hrel
    by_cases hlt : k < n
    · have hkl : k < l.length := by omega
      obtain ⟨b1, o1, rfl, _, c1, c2⟩ := HA.out.at_ k l[k] (List.getElem?_eq_getElem hkl)
      obtain ⟨b2, o2, rfl, _, c3, c4⟩ := HB.out.at_ k l[k] (List.getElem?_eq_getElem hkl)
      generalize l[k] = x at *
      obtain ⟨x0, x1⟩ := x
      dsimp only at c1 c2 c3 c4
      have h0 : (0 : Int) ≤ (k : Int) := by omega
      have h1 : (k : Int) < (n : Int) := by omega
      go_wp2
      go_quiet (fail)
      go_wp2
      go_roundw
      case rel => exact ⟨k + 1, _, by omega, by go_num, rfl⟩
      case measure => simp [intOf]; omega
    · go_wp2
      go_ret
      exact ⟨rfl, q, rfl⟩
end Go.Proofs.YtidgiohjgkfjcaaDoor
