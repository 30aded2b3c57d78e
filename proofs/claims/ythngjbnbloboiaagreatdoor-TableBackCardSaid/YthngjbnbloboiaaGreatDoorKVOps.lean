/- Remove, Pause, Resume of the row of a name: walked. -/
import Derived.Test.YthngjbnbloboiaaGreatDoorKVChange
import Derived.Test.YthngjbnbloboiaaGreatDoorKVChgPau
import Derived.Test.YthngjbnbloboiaaGreatDoorKVChgRes
namespace Go.Proofs.YthngjbnbloboiaaGreatDoor
open Go.RowKit

set_option maxRecDepth 100000 in
set_option maxHeartbeats 1000000 in
theorem remove_ok (ev : List (BitVec 64) → Bool) (hev : EvIs ev) (A : Option Addr) (nn cc : Nat) (ms : List RowM) (name : Int) (w : World) (hL : LaidC w) (ht : TabR w A nn cc ms) (hR : RightT ev (ms.map (·.1))) (hex : ∃ m ∈ ms, m.1.j.n = name) :
    Calls Tryz.prog 10 #[.slice A nn cc, .int .u32 name] w fun e w' => ChgIs (fun l => l = remR name (ms.map (·.1))) e w' ∧ Below w.heap.size w w' := by
  have HC := Lib.hid (change_rem ev hev A nn cc ms name w hL ht hR hex)
  generalize (fun l : List RowZ => l = remR name (ms.map (·.1))) = OUT at *
  clear hL ht hR hex hev
  go_enter Tryz.func10, Tryz.ntmps10
  go_wp2_with fail
  refine HC.out.mono ?_
  rintro e w3 ⟨⟨A', n', c', ms', rfl, ht', ho⟩, hb⟩
  have HT := Lib.hid ht'; have HO := Lib.hid ho; have HB3 := Lib.hid hb
  clear hb ht' ho
  go_wp2_with fail
  exact bodyPost_ret (v := .tuple #[.slice A' n' c', .int .i64 0]) (by simp [results, Tryz.results10, go_sem]) rfl ⟨⟨_, _, _, ms', rfl, HT.out, HO.out⟩, HB3.out⟩
set_option maxRecDepth 100000 in
set_option maxHeartbeats 1000000 in
theorem pause_ok (ev : List (BitVec 64) → Bool) (hev : EvIs ev) (A : Option Addr) (nn cc : Nat) (ms : List RowM) (name : Int) (w : World) (hL : LaidC w) (ht : TabR w A nn cc ms) (hR : RightT ev (ms.map (·.1))) (hex : ∃ m ∈ ms, m.1.j.n = name) :
    Calls Tryz.prog 12 #[.slice A nn cc, .int .u32 name] w fun e w' => ChgIs (fun l => l = pauR name (ms.map (·.1))) e w' ∧ Below w.heap.size w w' := by
  have HC := Lib.hid (change_pau ev hev A nn cc ms name w hL ht hR hex)
  generalize (fun l : List RowZ => l = pauR name (ms.map (·.1))) = OUT at *
  clear hL ht hR hex hev
  go_enter Tryz.func12, Tryz.ntmps12
  go_wp2_with fail
  refine HC.out.mono ?_
  rintro e w3 ⟨⟨A', n', c', ms', rfl, ht', ho⟩, hb⟩
  have HT := Lib.hid ht'; have HO := Lib.hid ho; have HB3 := Lib.hid hb
  clear hb ht' ho
  go_wp2_with fail
  exact bodyPost_ret (v := .tuple #[.slice A' n' c', .int .i64 0]) (by simp [results, Tryz.results12, go_sem]) rfl ⟨⟨_, _, _, ms', rfl, HT.out, HO.out⟩, HB3.out⟩
set_option maxRecDepth 100000 in
set_option maxHeartbeats 1000000 in
theorem resume_ok (ev : List (BitVec 64) → Bool) (hev : EvIs ev) (A : Option Addr) (nn cc : Nat) (ms : List RowM) (name now : Int) (w : World) (hL : LaidC w) (ht : TabR w A nn cc ms) (hR : RightT ev (ms.map (·.1))) (hex : ∃ m ∈ ms, m.1.j.n = name) (hn : D.timeB now = true) :
    Calls Tryz.prog 14 #[.slice A nn cc, .int .u32 name, .int .i64 now] w fun e w' => ChgIs (fun l => ∃ nx, (∀ r ∈ ms.map (·.1), r.j.n = name → r.pa = true → NextOf ev r now nx) ∧ l = resR name nx (ms.map (·.1))) e w' ∧ Below w.heap.size w w' := by
  have hb0 := new_below w (.cells #[.int .i64 now] 2)
  have hx0 := D.Box.new w 2 #[.int .i64 now]
  obtain ⟨W0, hW0⟩ : ∃ W : World, W = w.alloc (.cells #[.int .i64 now] 2) := ⟨_, rfl⟩
  rw [← hW0] at hb0 hx0
  have HB0 := Lib.hid hb0; have HX0 := Lib.hid hx0; have HP := Lib.hid hR
  have HCK := Lib.hid (check_any ev hev A nn cc ms W0 (hL.on hb0) (ht.on hb0))
  have HMY := Lib.hid (fun W => D.may_any now W)
  rw [hn] at HMY
  have HCG := Lib.hid (fun W (hb : Below W0.heap.size W0 W) => change_res ev hev A nn cc w.heap.size ms name now W ((hL.on hb0).on hb) ((ht.on hb0).on hb) hR hex (Nat.lt_of_lt_of_le (D.Box.lt hx0) hb.size) ((hb.cell (p := ⟨w.heap.size, 0, none⟩) (D.Box.lt hx0)).trans (D.Box.cell hx0 0)))
  generalize (fun l : List RowZ => ∃ nx, (∀ r ∈ ms.map (·.1), r.j.n = name → r.pa = true → NextOf ev r now nx) ∧ l = resR name nx (ms.map (·.1))) = OUT at *
  generalize RightT ev (ms.map (·.1)) = PT at *
  clear hL ht hR hex hb0 hx0 hev
  go_enter Tryz.func14, Tryz.ntmps14
  go_wp2_with fail
  rw [← hW0]
  clear hW0
  refine HCK.out.mono ?_
  rintro e w1 ⟨⟨_, rfl⟩ | ⟨hp, rfl⟩, hb⟩
  case inr => exact absurd HP.out hp
  have HB1 := Lib.hid hb
  have c1 : w1.cell? ⟨w.heap.size, 0, none⟩ = some (.int .i64 now) := (hb.cell (p := ⟨w.heap.size, 0, none⟩) (D.Box.lt HX0.out)).trans (D.Box.cell HX0.out 0)
  clear hb HCK
  go_wp2_with fail
  refine (HMY.out _).mono ?_
  rintro e w2 ⟨rfl, rfl⟩
  have HC := Lib.hid (HCG.out _ HB1.out)
  clear HCG HMY
  go_wp2_with fail
  refine HC.out.mono ?_
  rintro e w3 ⟨⟨A', n', c', ms', rfl, ht', ho⟩, hb⟩
  have HT := Lib.hid ht'; have HO := Lib.hid ho; have HB3 := Lib.hid ((HB0.out.trans (HB1.out.mono HB0.out.size)).trans (hb.mono (Nat.le_trans HB0.out.size HB1.out.size)))
  clear hb ht' ho c1
  go_wp2_with fail
  exact bodyPost_ret (v := .tuple #[.slice A' n' c', .int .i64 0]) (by simp [results, Tryz.results14, go_sem]) rfl ⟨⟨_, _, _, ms', rfl, HT.out, HO.out⟩, HB3.out⟩
end Go.Proofs.YthngjbnbloboiaaGreatDoor
