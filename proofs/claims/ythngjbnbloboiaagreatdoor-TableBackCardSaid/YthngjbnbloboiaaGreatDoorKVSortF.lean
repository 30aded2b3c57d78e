/- slices.SortFunc of dues, whole: walked. -/
import Derived.Test.YthngjbnbloboiaaGreatDoorKVSort
namespace Go.Proofs.YthngjbnbloboiaaGreatDoor
open Go.RowKit

set_option maxRecDepth 100000 in
theorem len_some (n : Nat) (w : World) (hn : n ≤ 12) : Calls Tryz.prog 62 #[.int .u64 (n : Int)] w fun e w' => (∃ n : Int, e = .returned (.int .i64 n)) ∧ w' = w := by
  have hc : n = 0 ∨ n = 1 ∨ n = 2 ∨ n = 3 ∨ n = 4 ∨ n = 5 ∨ n = 6 ∨ n = 7 ∨ n = 8 ∨ n = 9 ∨ n = 10 ∨ n = 11 ∨ n = 12 := by omega
  clear hn
  rcases hc with rfl | rfl | rfl | rfl | rfl | rfl | rfl | rfl | rfl | rfl | rfl | rfl | rfl
  all_goals
    go_enter Tryz.func62, Tryz.ntmps62
    go_wp2_with go_in
    go_ret
    exact ⟨⟨_, rfl⟩, rfl⟩
set_option maxRecDepth 100000 in
set_option maxHeartbeats 2000000 in
theorem pdq_any (g n cap : Nat) (l : List (Int × Int)) (lim : Int) (w : World) (h : DueAt w g n cap l) (hn : n ≤ 12) :
    Calls Tryz.prog 61 #[.slice (some ⟨g, 0, none⟩) n cap, .int .i64 0, .int .i64 (n : Int), .int .i64 lim, .func (.func 39) #[] #[]] w fun e w' => (∃ v, e = .returned v) ∧ SortedOf l g n cap w w' := by
  have HS := Lib.hid (inssort_any g n cap l w h hn)
  generalize SortedOf l g n cap w = SO at *
  have hn' : (n : Int) ≤ 12 := by omega
  have hw : IntKind.i64.wrap (n : Int) = (n : Int) := by rw [IntKind.wrap_i64]; omega
  clear h
  go_enter Tryz.func61, Tryz.ntmps61
  go_wp2_with fail
  go_loopw [1, 2] (fun s1 s2 wr => s1 = .int .i64 0 ∧ s2 = .int .i64 (n : Int) ∧ wr = w) (fun _ _ _ => 0)
  case atStart => exact ⟨rfl, rfl, rfl⟩
  case round =>
    obtain ⟨rfl, rfl, rfl⟩ := hrel
    go_wp2_with fail
    refine HS.out.mono ?_
    rintro x w2 ⟨⟨v, rfl⟩, h⟩
    have HH := Lib.hid h
    clear h
    go_wp2_with fail
    refine bodyPost_ret (results_none rfl _ _ _) rfl ?_
    exact ⟨⟨_, rfl⟩, HH.out⟩
set_option maxRecDepth 100000 in
set_option maxHeartbeats 1000000 in
theorem sortfunc_any (g n cap : Nat) (l : List (Int × Int)) (w : World) (h : DueAt w g n cap l) (hn : n ≤ 12) :
    Calls Tryz.prog 38 #[.slice (some ⟨g, 0, none⟩) n cap, .func (.func 39) #[] #[]] w fun e w' => (∃ v, e = .returned v) ∧ SortedOf l g n cap w w' := by
  have HS := Lib.hid (fun lim => pdq_any g n cap l lim w h hn)
  have HLS := Lib.hid (fun W => len_some n W hn)
  generalize SortedOf l g n cap w = SO at *
  have hw : IntKind.u64.wrap (n : Int) = (n : Int) := by rw [IntKind.wrap_u64]; omega
  clear h
  go_enter Tryz.func38, Tryz.ntmps38
  go_wp2_with fail
  refine (HLS.out _).mono ?_
  rintro x w1 ⟨⟨lim, rfl⟩, rfl⟩
  go_wp2_with fail
  refine (HS.out lim).mono ?_
  rintro x w2 ⟨⟨v, rfl⟩, h⟩
  have HH := Lib.hid h
  clear h
  go_wp2_with fail
  go_end0
  exact ⟨⟨_, rfl⟩, HH.out⟩
set_option maxRecDepth 100000 in
set_option maxHeartbeats 1000000 in
theorem inssort_nil (w : World) : Calls Tryz.prog 78 #[.slice none 0 0, .int .i64 0, .int .i64 0, .func (.func 39) #[] #[]] w fun e w' => (∃ v, e = .returned v) ∧ w' = w := by
  go_enter Tryz.func78, Tryz.ntmps78
  go_wp2_with fail
  go_loopw [8] (fun iv wr => iv = .int .i64 1 ∧ wr = w) (fun _ _ => 0)
  case atStart => exact ⟨rfl, rfl⟩
  case round =>
    obtain ⟨rfl, rfl⟩ := hrel
    go_wp2_with fail
    go_end0
    exact ⟨⟨_, rfl⟩, rfl⟩
set_option maxRecDepth 100000 in
set_option maxHeartbeats 1000000 in
theorem pdq_nil (lim : Int) (w : World) : Calls Tryz.prog 61 #[.slice none 0 0, .int .i64 0, .int .i64 0, .int .i64 lim, .func (.func 39) #[] #[]] w fun e w' => (∃ v, e = .returned v) ∧ w' = w := by
  go_enter Tryz.func61, Tryz.ntmps61
  go_wp2_with fail
  go_loopw [1, 2] (fun s1 s2 wr => s1 = .int .i64 0 ∧ s2 = .int .i64 0 ∧ wr = w) (fun _ _ _ => 0)
  case atStart => exact ⟨rfl, rfl, rfl⟩
  case round =>
    obtain ⟨rfl, rfl, rfl⟩ := hrel
    go_wp2_with fail
    refine (inssort_nil _).mono ?_
    rintro x w2 ⟨⟨v, rfl⟩, rfl⟩
    go_wp2_with fail
    refine bodyPost_ret (results_none rfl _ _ _) rfl ?_
    exact ⟨⟨_, rfl⟩, rfl⟩
set_option maxRecDepth 100000 in
set_option maxHeartbeats 1000000 in
theorem sortfunc_nil (w : World) : Calls Tryz.prog 38 #[.slice none 0 0, .func (.func 39) #[] #[]] w fun e w' => (∃ v, e = .returned v) ∧ w' = w := by
  have HLS := Lib.hid (fun W => len_some 0 W (by omega))
  go_enter Tryz.func38, Tryz.ntmps38
  go_wp2_with fail
  refine (HLS.out _).mono ?_
  rintro x w1 ⟨⟨lim, rfl⟩, rfl⟩
  go_wp2_with fail
  refine (pdq_nil lim _).mono ?_
  rintro x w2 ⟨⟨v, rfl⟩, rfl⟩
  go_wp2_with fail
  go_end0
  exact ⟨⟨_, rfl⟩, rfl⟩
end Go.Proofs.YthngjbnbloboiaaGreatDoor
