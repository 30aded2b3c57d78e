/- New, Now: walked. -/
import Derived.Test.YtidgiohjgkfjcaaDoorQHeap
namespace Go.Proofs.YtidgiohjgkfjcaaDoor
open Go.RowKit

theorem now_any9 (p : Nat) (t : Int) (w : World) (h : w.cell? ⟨p, 0, none⟩ = some (.int .i64 t)) :
    Calls Tryd.prog 26 #[.pointer (some ⟨p, 0, none⟩)] w fun e w' => e = .returned (.int .i64 t) ∧ w' = w := by
  go_enter Tryd.func26, Tryd.ntmps26
  go_wp2_with fail
  go_ret
  exact ⟨rfl, rfl⟩
theorem now_nil (w : World) :
    Calls Tryd.prog 26 #[.pointer none] w fun e w' => e = .returned (.int .i64 0) ∧ w' = w := by
  go_enter Tryd.func26, Tryd.ntmps26
  go_wp2_with fail
  go_ret
  exact ⟨rfl, rfl⟩
theorem new_no (t : Int) (w : World) (h : ¬ timeQ t) :
    Calls Tryd.prog 9 #[.int .i64 t] w fun e w' => e = .returned (.tuple #[.pointer none, .int .i64 2]) ∧ ∃ q, w' = w.drewN q := by
  unfold timeQ topQ at h
  by_cases h0 : t < 0
  · have d0 : decide (t < 0) = true := decide_eq_true h0
    clear h h0
    go_enter Tryd.func9, Tryd.ntmps9
    go_wp2_with fail
    refine bodyPost_ret (v := .tuple #[.pointer none, .int .i64 2]) (by simp [results, Tryd.results9, go_sem]) rfl ⟨rfl, 0, rfl⟩
  · have d0 : decide (t < 0) = false := decide_eq_false h0
    have d1 : decide (253402300799 < t) = true := decide_eq_true (by omega)
    clear h h0
    go_enter Tryd.func9, Tryd.ntmps9
    go_wp2_with fail
    refine bodyPost_ret (v := .tuple #[.pointer none, .int .i64 2]) (by simp [results, Tryd.results9, go_sem]) rfl ⟨rfl, 0, rfl⟩
/-- The cells of a new wheel. -/
def isNilS : Option Value → Bool
  | some (.slice none 0 0) => true
  | _ => false
theorem isNilS_iff {v : Option Value} (h : isNilS v = true) : v = some (.slice none 0 0) := by
  unfold isNilS at h
  split at h
  · rfl
  · cases h
def isZeroU : Option Value → Bool
  | some (.int .u64 0) => true
  | _ => false
theorem isZeroU_iff {v : Option Value} (h : isZeroU v = true) : v = some (.int .u64 0) := by
  unfold isZeroU at h
  split at h
  · rfl
  · cases h
theorem zero_size : Tryd.zeroCells78.size = 326 := by kernel_rfl
theorem zero_slots : ((List.range 5).all fun n => (List.range 64).all fun s => isNilS (Tryd.zeroCells78[1 + n * 65 + 1 + s]?)) = true := by kernel_rfl
theorem zero_masks : ((List.range 5).all fun n => isZeroU (Tryd.zeroCells78[1 + n * 65]?)) = true := by kernel_rfl
theorem WhAt.new (w : World) (t : Int) : WhAt (w.alloc (.cells (Tryd.zeroCells78.setIfInBounds 0 (.int .i64 t)) 78)) (w.heap.size + 1) w.heap.size t (fun _ => []) (fun _ => (none, 0)) := by
  have hb := QBox.new w 78 (Tryd.zeroCells78.setIfInBounds 0 (.int .i64 t))
  have hz := zero_size
  have hs := zero_slots
  have hm := zero_masks
  generalize Tryd.zeroCells78 = Z at *
  refine ⟨⟨_, hb, by simpa using hz⟩, by omega, ?_, fun n hn => ⟨0#64, ?_, fun s hs => by simp⟩, fun n s hn hs2 => ?_, fun j hj => DuesT.nil _ _⟩
  · rw [hb.cell 0, Array.getElem?_setIfInBounds_self_of_lt (by omega)]
  · rw [hb.cell _]
    have h1 := isZeroU_iff (List.all_eq_true.1 hm n (List.mem_range.2 hn))
    rw [Array.getElem?_setIfInBounds_ne (by omega), h1]
    rfl
  · rw [hb.cell _]
    have h1 := isNilS_iff (List.all_eq_true.1 (List.all_eq_true.1 hs n (List.mem_range.2 hn)) s (List.mem_range.2 hs2))
    rw [Array.getElem?_setIfInBounds_ne (by omega), h1]
    rfl
theorem new_yes (t : Int) (w : World) (h : timeQ t) :
    Calls Tryd.prog 9 #[.int .i64 t] w fun e w' => e = .returned (.tuple #[.pointer (some ⟨w.heap.size, 0, none⟩), .int .i64 0]) ∧ WhAt w' w'.heap.size w.heap.size t (fun _ => []) (fun _ => (none, 0)) ∧ Below w.heap.size w w' := by
  unfold timeQ topQ at h
  have d0 : decide (t < 0) = false := decide_eq_false (by omega)
  have d1 : decide (253402300799 < t) = false := decide_eq_false (by omega)
  clear h
  go_enter Tryd.func9, Tryd.ntmps9
  go_wp2_with fail
  refine bodyPost_ret (v := .tuple #[.pointer (some ⟨w.heap.size, 0, none⟩), .int .i64 0]) (by simp [results, Tryd.results9, go_sem]) rfl ⟨rfl, ?_, (Below.refl _ _).alloc (Nat.le_refl _) _⟩
  rw [World.size_alloc]
  exact WhAt.new w t
end Go.Proofs.YtidgiohjgkfjcaaDoor
