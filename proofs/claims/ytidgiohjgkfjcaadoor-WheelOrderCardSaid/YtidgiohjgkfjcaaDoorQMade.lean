/- made: walked. -/
import Derived.Test.YtidgiohjgkfjcaaDoorQWakes
namespace Go.Proofs.YtidgiohjgkfjcaaDoor
open Go.RowKit
variable [Rows]

omit [Rows] in
theorem putsQ_snoc (t : Int) (l r : List (Int × Int)) (d : Int × Int) : putsQ t l (r ++ [d]) = putQ t (putsQ t l r) d := by unfold putsQ; rw [List.foldl_append]; rfl
set_option maxRecDepth 100000 in
set_option maxHeartbeats 2000000 in
theorem made_any (t : Int) (A : Option Addr) (n c : Nat) (l : List (Int × Int)) (w : World) (hr : DuesR w w.heap.size A n c l) (hp : ∀ d ∈ l, 0 ≤ d.2) (hT : Tab w) (hg : 0 < w.heap.size) (hX : ∀ b, w.heap.size ≤ b → Rows.ok b) :
    Calls Tryd.prog 27 #[.int .i64 t, .slice A n c] w fun e w' =>
      ((¬ timeQ t) ∧ e = .returned (.pointer none) ∧ Below w.heap.size w w') ∨ (timeQ t ∧ ∃ p, e = .returned (.pointer (some ⟨p, 0, none⟩)) ∧ Mine w w' p t (putsQ t [] (l.take 80))) := by
  have hcap := hr.cap
  have htop := hr.top
  have hlen := hr.len
  unfold maxLen at htop
  have HR := Lib.hid hr; have HP := Lib.hid hp; have HN := Lib.hid hlen; have HX9 := Lib.hid hX
  clear hr hp hlen hX
  by_cases ht : timeQ t
  · have HT := Lib.hid ht
    clear ht
    go_enter Tryd.func27, Tryd.ntmps27
    go_wp2_with fail
    refine (mine_new w t w HT.out (Below.refl _ _)).mono ?_
    rintro e w1 ⟨rfl, m1, _⟩
    have M1 := Lib.hid m1; clear m1
    obtain ⟨p, hp⟩ : ∃ p, w.heap.size = p := ⟨_, rfl⟩
    have HPW := Lib.hid hp
    rw [hp] at M1 ⊢
    clear hp
    go_wp2_with fail
    go_loopw [18] (fun i wr => ∃ (k : Nat) (m : List (Int × Int)), k ≤ n ∧ i = .int .i64 k ∧ Mine w wr p t m ∧ Hid (m = putsQ t [] ((l.take k).take 80))) (fun i _ => n - (intOf i).toNat)
    case atStart => exact ⟨0, [], by omega, rfl, M1.out, Lib.hid (by simp [putsQ])⟩
    case round =>
      obtain ⟨k, m, hk, rfl, hm, HM⟩ := hrel
      by_cases hlt : k < n
      · obtain ⟨d, hd⟩ : ∃ d, l[k]? = some d := ⟨_, List.getElem?_eq_getElem (by rw [HN.out]; exact hlt)⟩
        have HDP := Lib.hid (HP.out _ (List.mem_of_getElem? hd))
        have HSN := Lib.hid (show l.take (k + 1) = l.take k ++ [d] by rw [List.take_add_one, hd]; rfl)
        have HKL := Lib.hid (show (l.take k).length = k by rw [List.length_take, HN.out]; omega)
        obtain ⟨d0, d1⟩ := d
        obtain ⟨bb, oo, hA, hll, y0, y1⟩ := (HR.out.below hm.b).at_ k _ hd
        subst hA
        have hi0 : (0 : Int) ≤ k := by omega
        have hi1 : (k : Int) < (n : Int) := by omega
        have hMD := Lib.hid (hm.on ((Below.refl _ _).alloc (Nat.le_refl _) (.cells #[.int .i64 d0, .int .u64 d1] 39)))
        have HMO := Lib.hid hm
        clear hm hd
        by_cases h80 : k < 80
        · have hd80 : decide ((k : Int) < 80) = true := decide_eq_true (by omega)
          have HX := Lib.hid (show putsQ t [] ((l.take (k + 1)).take 80) = putQ t m (d0, d1) by
            have e1 : (l.take k ++ [(d0, d1)]).take 80 = l.take k ++ [(d0, d1)] := List.take_of_length_le (by rw [List.length_append, HKL.out]; simp only [List.length_cons, List.length_nil]; omega)
            have e2 : (l.take k).take 80 = l.take k := List.take_of_length_le (by rw [HKL.out]; omega)
            rw [HSN.out, e1, putsQ_snoc, HM.out, e2])
          clear h80
          go_wp2_with fail
          refine (mine_put (d0, d1) HDP.out hMD.out hT hg (fun b hb => HX9.out b (Nat.le_trans hMD.out.b.size hb))).mono ?_
          rintro e w5 ⟨rfl, m5, _⟩
          have M5 := Lib.hid m5; clear m5
          go_wp2_with fail
          go_roundw
          case rel => exact ⟨k + 1, _, by omega, by go_num, M5.out, Lib.hid HX.out.symm⟩
          case measure => simp [intOf]; omega
        · have hd80 : decide ((k : Int) < 80) = false := decide_eq_false (by omega)
          have HX := Lib.hid (show m = putsQ t [] ((l.take (k + 1)).take 80) by
            rw [HSN.out, List.take_append_of_le_length (by have := HKL.out; omega)]; exact HM.out)
          clear h80
          go_wp2_with fail
          go_roundw
          case rel => exact ⟨k + 1, m, by omega, by go_num, hMD.out, HX⟩
          case measure => simp [intOf]; omega
      · have hke : l.take k = l := List.take_of_length_le (by rw [HN.out]; omega)
        rw [hke] at HM
        have HMO := Lib.hid hm
        clear hm hke
        go_wp2_with fail
        go_ret
        exact .inr ⟨HT.out, p, rfl, HM.out ▸ HMO.out⟩
  · have HT := Lib.hid ht
    clear ht
    go_enter Tryd.func27, Tryd.ntmps27
    go_wp2_with fail
    refine (new_no t w HT.out).mono ?_
    rintro e w1 ⟨rfl, q, rfl⟩
    go_wp2_with fail
    go_ret
    exact .inl ⟨HT.out, rfl, rfl, rfl, rfl, Nat.le_refl _, fun _ _ => rfl⟩
end Go.Proofs.YtidgiohjgkfjcaaDoor
