/- The law's row that is due each hour: walked. -/
import Derived.Test.YthghcffibljclaaDoorRXWk
namespace Go.Proofs.YthghcffibljclaaDoor
open Go.RowKit

set_option maxRecDepth 100000 in
set_option maxHeartbeats 1000000 in
theorem xhourall_any (w : World) :
    (Calls Tryd.prog 32 #[.int .i64 0, .int .i64 23] w fun e w' => e = .returned (.int .u64 16777215) ∧ Below w.heap.size w w') ∧
    (Calls Tryd.prog 32 #[.int .i64 1, .int .i64 31] w fun e w' => e = .returned (.int .u64 4294967294) ∧ Below w.heap.size w w') ∧
    (Calls Tryd.prog 32 #[.int .i64 1, .int .i64 12] w fun e w' => e = .returned (.int .u64 8190) ∧ Below w.heap.size w w') ∧
    (Calls Tryd.prog 32 #[.int .i64 0, .int .i64 6] w fun e w' => e = .returned (.int .u64 127) ∧ Below w.heap.size w w') := by
  have hB : ∀ q, Below w.heap.size w (w.drewN q) := fun q => bdrewN (Below.refl _ w) q
  refine ⟨?_, ?_, ?_, ?_⟩
  all_goals
    go_enter Tryd.func32, Tryd.ntmps32
    go_wp2_with fail
    go_quiet (fail)
    go_wp2_with fail
    go_ret
    exact ⟨rfl, hB _⟩
set_option maxRecDepth 100000 in
set_option maxHeartbeats 4000000 in
theorem xhourly_any (w : World) :
    Calls Tryd.prog 17 #[] w fun e w' => e = .returned (rowV hourR (.slice none 0 0)) ∧ Below w.heap.size w w' := by
  have hrv : rowV hourR (.slice none 0 0) = .agg #[.int .u32 7, .bool false, .int .u64 1, .int .u64 16777215, .int .u64 4294967294, .int .u64 8190, .int .u64 127, .int .i64 0, .int .i64 1, .int .i64 2, .int .i64 0, .bool false, .int .i64 3600, .int .u64 0, .int .i64 0, .int .i64 0, .slice none 0 0] := rfl
  have HRV := Lib.hid hrv
  have HPUT : Hid (∀ W, Below (w.alloc (.cells #[.int .u32 0, .bool false, .int .u64 0, .int .u64 0, .int .u64 0, .int .u64 0, .int .u64 0, .int .i64 0, .int .i64 0, .int .i64 0, .int .i64 0, .bool false, .int .i64 0, .int .u64 0, .int .i64 0, .int .i64 0, .slice none 0 0] 33)).heap.size (w.alloc (.cells #[.int .u32 0, .bool false, .int .u64 0, .int .u64 0, .int .u64 0, .int .u64 0, .int .u64 0, .int .i64 0, .int .i64 0, .int .i64 0, .int .i64 0, .bool false, .int .i64 0, .int .u64 0, .int .i64 0, .int .i64 0, .slice none 0 0] 33)) W → ∃ W', StoreIs W 33 w.heap.size 0 (rowV hourR (.slice none 0 0)) W' ∧ (loadVar 33 ⟨w.heap.size, 0, none⟩).run Tryd.prog W' = .ok (rowV hourR (.slice none 0 0)) W' ∧ Below w.heap.size w W') := Lib.hid (fun W hb => by
    obtain ⟨W', h1, h2, h3⟩ := row_put (D.Box.belowAll (D.Box.new w 33 _) hb) rfl hourR_fit (v := .slice none 0 0) rfl
    exact ⟨W', h1, h2, by rw [h3]; exact below_setRow ((new_below w _).trans (hb.mono (by simp))) (Nat.le_refl _) _⟩)
  rw [hrv]
  rw [hrv] at HPUT
  generalize hw0 : w.alloc (.cells #[.int .u32 0, .bool false, .int .u64 0, .int .u64 0, .int .u64 0, .int .u64 0, .int .u64 0, .int .i64 0, .int .i64 0, .int .i64 0, .int .i64 0, .bool false, .int .i64 0, .int .u64 0, .int .i64 0, .int .i64 0, .slice none 0 0] 33) = W0 at HPUT
  have HA := Lib.hid (fun W => xhourall_any W)
  clear hrv
  go_enter Tryd.func17, Tryd.ntmps17
  go_wp2_with fail
  skip
  clear hw0
  refine (HA.out _).1.mono ?_
  rintro e w1 ⟨rfl, hb1⟩
  have HB1 := Lib.hid hb1
  clear hb1
  go_wp2_with fail
  refine (HA.out _).2.1.mono ?_
  rintro e w2 ⟨rfl, hb⟩
  have HB2 := Lib.hid (HB1.out.trans (hb.mono HB1.out.size))
  clear hb HB1
  go_wp2_with fail
  refine (HA.out _).2.2.1.mono ?_
  rintro e w3 ⟨rfl, hb⟩
  have HB3 := Lib.hid (HB2.out.trans (hb.mono HB2.out.size))
  clear hb HB2
  go_wp2_with fail
  refine (HA.out _).2.2.2.mono ?_
  rintro e w4 ⟨rfl, hb⟩
  have HB4 := Lib.hid (HB3.out.trans (hb.mono HB3.out.size))
  clear hb HB3 HA
  obtain ⟨W', hs, hl, hb'⟩ := HPUT.out (w4.alloc (.cells #[.int .u32 7, .bool false, .int .u64 1, .int .u64 16777215, .int .u64 4294967294, .int .u64 8190, .int .u64 127, .int .i64 0, .int .i64 1, .int .i64 2, .int .i64 0] 28)) (HB4.out.alloc HB4.out.size _)
  have HS := Lib.hid hs; have HL := Lib.hid hl; have HB' := Lib.hid hb'
  clear hs hl hb' HPUT
  go_wp2_with (refine list_store rfl _ _ rfl rfl rfl HS.out ?_)
  exact bodyPost_ret (v := .agg #[.int .u32 7, .bool false, .int .u64 1, .int .u64 16777215, .int .u64 4294967294, .int .u64 8190, .int .u64 127, .int .i64 0, .int .i64 1, .int .i64 2, .int .i64 0, .bool false, .int .i64 3600, .int .u64 0, .int .i64 0, .int .i64 0, .slice none 0 0]) (results_cell Tryd.results17 (by rfl) HL.out) rfl ⟨rfl, HB'.out⟩
end Go.Proofs.YthghcffibljclaaDoor
