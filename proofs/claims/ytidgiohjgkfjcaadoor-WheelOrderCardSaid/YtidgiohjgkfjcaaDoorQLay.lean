/- lay: walked. -/
import Derived.Test.YtidgiohjgkfjcaaDoorQLevel
import Derived.Test.YtidgiohjgkfjcaaDoorQPlaceOf
import Derived.Deep.DeepCutAuto
namespace Go.Proofs.YtidgiohjgkfjcaaDoor
open Go.RowKit

theorem layQ_set (u : Int) (S : Nat → List (Int × Int)) (d : Int × Int) : layQ u S d = setL (plQ u d.1) (insQ d (S (plQ u d.1))) S := by
  funext j
  unfold layQ setL
  by_cases h : j = plQ u d.1
  · rw [if_pos h, if_pos h, h]
  · rw [if_neg h, if_neg h]
theorem bx1d9 {Z w' : World} {t : TypeId} {cs : Array Value} (hb : Below (Z.alloc (.cells cs t)).drew.heap.size (Z.alloc (.cells cs t)).drew w') : QBox w' Z.heap.size t cs := QBox.belowAll (w := (Z.alloc (.cells cs t)).drew) (show QBox (Z.alloc (.cells cs t)).drew _ _ _ from QBox.new Z t cs) hb
set_option maxRecDepth 100000 in
set_option maxHeartbeats 1000000 in
theorem lay_any9 (p t : Nat) (d0 : Nat) (d1 : Int) (S : Nat → List (Int × Int)) (V : Nat → Option Addr × Nat) (w : World) (hW : WhAt w w.heap.size p t S V) (ht : t ≤ d0) (hd : d0 ≤ 253402300799) (hso : SortQ (S (plQ t d0))) (h64 : (S (plQ t d0)).length ≤ 64) (hn : ∀ x ∈ S (plQ t d0), x.2 ≠ d1) :
    Calls Tryd.prog 36 #[.pointer (some ⟨p, 0, none⟩), dueV (d0, d1)] w fun e w' => (∃ v, e = .returned v) ∧ (∃ V', WhAt w' w'.heap.size p t (layQ t S (d0, d1)) V' ∧ RowsFrom w.heap.size (layQ t S (d0, d1)) V' S V) ∧ Only p w w' := by
  rw [layQ_set]
  have hj := plQ_le t d0
  dsimp only
  generalize hje : plQ t d0 = j at *
  obtain ⟨n, s, hn5, hs64, rfl⟩ : ∃ n s, n < 5 ∧ s < 64 ∧ j = n * 64 + s := ⟨j / 64, j % 64, by omega, by omega, by omega⟩
  have hpv : plV (n * 64 + s) = .agg #[.int .i64 (n : Int), .int .i64 (s : Int)] := by
    unfold plV; rw [show (n * 64 + s) / 64 = n by omega, show (n * 64 + s) % 64 = s by omega]
  have HPO := Lib.hid (fun W => place_any9 t d0 W ht hd)
  rw [hje, hpv] at HPO
  have HPU := Lib.hid (fun (W : World) (V : Nat → Option Addr × Nat) (hW : WhAt W W.heap.size p t S V) => put_any9 p n s t S V (d0, d1) W hW hn5 hs64 hso h64 hn)
  unfold dueV at HPU ⊢
  dsimp only at HPU ⊢
  generalize hS' : setL (n * 64 + s) (insQ ((d0 : Int), d1) (S (n * 64 + s))) S = S' at *
  obtain ⟨W, hWe⟩ : ∃ W, W = w.alloc (.cells #[.int .i64 d0, .int .u64 d1] 39) := ⟨_, rfl⟩
  have hB : Below w.heap.size w W := by rw [hWe]; exact (Below.refl _ _).alloc (Nat.le_refl _) _
  have bD : QBox W w.heap.size 39 #[.int .i64 d0, .int .u64 d1] := by rw [hWe]; exact QBox.new _ _ _
  have hpw := Nat.ne_of_lt hW.lt
  have hpl := hW.lt
  have HW := Lib.hid (hW.below hB); have HB := Lib.hid hB; have HD := Lib.hid bD
  have HSZ := Lib.hid (show W.heap.size = w.heap.size + 1 by rw [hWe]; simp)
  have HN5 := Lib.hid hn5; have HS64 := Lib.hid hs64
  have hi0 : (0 : Int) ≤ (s : Int) := by omega
  have hi1 : (s : Int) < 64 := by omega
  have hi2 : (0 : Int) ≤ (n : Int) := by omega
  have hi3 : (n : Int) < 5 := by omega
  clear hje hpv hj hso h64 hn hS' hW hB bD hn5 hs64
  obtain ⟨a0, a1, _, _⟩ := HD.out.two
  have c0 := HW.out.now
  go_enter Tryd.func36, Tryd.ntmps36
  go_wp2_with fail
  rw [← hWe]
  clear hWe
  have hBE := Below.refl W.heap.size W
  have HH := Lib.hid (fun (W' : World) (hW : Below W.heap.size W W') => (⟨by
    obtain ⟨a0, a1, _, _⟩ := (HD.out.belowAll hW).two
    exact ⟨a0, a1, (HW.out.below (hW.mono (by have := HSZ.out; omega))).now⟩⟩ : PLift (W'.cell? ⟨w.heap.size, 0, none⟩ = some (.int .i64 d0) ∧ W'.cell? ⟨w.heap.size, 1, none⟩ = some (.int .u64 d1) ∧ W'.cell? ⟨p, 0, none⟩ = some (.int .i64 t))).down)
  go_cut [4] from 5 to 11 (fun s4 wx => ∃ g : Nat, s4 = .pointer (some ⟨g, 0, none⟩) ∧ QBox wx g 80 #[.int .i64 n, .int .i64 s] ∧ Below W.heap.size W wx)
  case first =>
    have hsp : p < W.heap.size := by have := HSZ.out; omega
    have hnp := Nat.ne_of_lt hsp
    have hsd : w.heap.size < W.heap.size := by have := HSZ.out; omega
    have hnd := Nat.ne_of_lt hsd
    go_region_held3 (fun W' => W'.cell? ⟨w.heap.size, 0, none⟩ = some (.int .i64 d0) ∧ W'.cell? ⟨w.heap.size, 1, none⟩ = some (.int .u64 d1) ∧ W'.cell? ⟨p, 0, none⟩ = some (.int .i64 t)) ((refine HH.out _ ?_; repeat (first | exact hBE | refine Below.drew ?_ | refine Below.setCell ?_ (by have := hBE.size; first | omega | (simp; done) | (simp; omega)) _ | refine Below.alloc ?_ (by have := hBE.size; first | omega | (simp; done) | (simp; omega)) _))) (first
      | (go_at_call 40; (with_reducible refine (HPO.out _).mono ?_); rintro e w1 ⟨rfl, hb1⟩; (have hq := hBE.trans (show Below W.heap.size W w1 from (by first | exact (hBE.alloc hBE.size _).drew.trans (hb1.mono (by simp)) | exact hBE.drew.trans hb1))); replace hBE := hq; first | (have hx0 := bx1d9 hb1; obtain ⟨q0, q1, q2, q3⟩ := hx0.two; have l0 := hx0.lt) | skip))
    all_goals
      go_wp2_with fail
      go_meet
      refine ⟨_, rfl, ?_⟩
      first
        | exact ⟨QBox.new _ _ _, hBE.alloc hBE.size _⟩
        | exact ⟨hx0.set2 _ _, below_set2 hBE (Nat.le_refl _) _ _⟩
  case rest =>
    obtain ⟨g, rfl, hg, hb⟩ := hcut
    have HG := Lib.hid hg; have HBC := Lib.hid hb
    have HWC := Lib.hid ((HW.out.below (hb.mono (by have := HSZ.out; omega))).mono (show w.heap.size ≤ wc.heap.size by have := hb.size; have := HSZ.out; omega))
    have HDC := Lib.hid (HD.out.belowAll hb)
    have hgp : g ≠ p := by
      intro e
      subst e
      obtain ⟨cs, hcs, _⟩ := HWC.out.ty
      unfold QBox at hg
      rw [hcs] at hg
      injection hg with hg
      injection hg with _ h2 _
      exact absurd h2 (by decide)
    clear a0 a1 c0 hBE HH HW hg hb HPO
    obtain ⟨g0, g1, _, _⟩ := HG.out.two
    obtain ⟨a0, a1, _, _⟩ := HDC.out.two
    have hpwc := HWC.out.lt
    have HK := Lib.hid (fun (W' : World) (ho : Only p wc W') => (⟨by
      obtain ⟨x0, x1, _, _⟩ := (show QBox W' g 80 #[.int .i64 n, .int .i64 s] from (ho.block _ HG.out.lt hgp).trans HG.out).two
      obtain ⟨x2, x3, _, _⟩ := (show QBox W' w.heap.size 39 #[.int .i64 d0, .int .u64 d1] from (ho.block _ HDC.out.lt (Ne.symm hpw)).trans HDC.out).two
      exact ⟨x0, x1, x2, x3⟩⟩ : PLift (W'.cell? ⟨g, 0, none⟩ = some (.int .i64 n) ∧ W'.cell? ⟨g, 1, none⟩ = some (.int .i64 s) ∧ W'.cell? ⟨w.heap.size, 0, none⟩ = some (.int .i64 d0) ∧ W'.cell? ⟨w.heap.size, 1, none⟩ = some (.int .u64 d1))).down)
    have hOE := Only.refl p wc
    have hOD : Only p wc wc.drew := ⟨rfl, rfl, rfl, Nat.le_refl _, fun _ _ _ => rfl⟩
    go_wp2_with fail
    go_region_held3 (fun W' => W'.cell? ⟨g, 0, none⟩ = some (.int .i64 n) ∧ W'.cell? ⟨g, 1, none⟩ = some (.int .i64 s) ∧ W'.cell? ⟨w.heap.size, 0, none⟩ = some (.int .i64 d0) ∧ W'.cell? ⟨w.heap.size, 1, none⟩ = some (.int .u64 d1)) (first | exact HK.out _ hOE | exact HK.out _ hOD) (first
      | (go_at_call 50; (with_reducible refine (HPU.out _ _ (HWC.out.drewN 1)).mono ?_); rintro e w5 ⟨⟨v, rfl⟩, hW5, ho5⟩; replace hOE := hOD.trans ho5))
    go_wp2_with fail
    go_end0
    obtain ⟨V5, hV5, hf5⟩ := hW5
    exact ⟨⟨_, rfl⟩, ⟨V5, hV5, hf5.mono (by have := HBC.out.size; have := HSZ.out; show w.heap.size ≤ wc.heap.size; omega)⟩, (Only.of (HB.out.trans (HBC.out.mono (by have := HSZ.out; omega)))).trans hOE⟩
end Go.Proofs.YtidgiohjgkfjcaaDoor
