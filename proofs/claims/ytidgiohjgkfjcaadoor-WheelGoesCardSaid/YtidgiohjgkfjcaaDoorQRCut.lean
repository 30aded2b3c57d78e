/- The document's Cut: walked. -/
import Derived.Test.YtidgiohjgkfjcaaDoorQRef
namespace Go.Proofs.YtidgiohjgkfjcaaDoor
open Go.RowKit

theorem filter_snoc (p : Int × Int → Bool) (l : List (Int × Int)) (k : Nat) (h : k < l.length) : (l.take (k + 1)).filter p = (l.take k).filter p ++ (if p l[k] then [l[k]] else []) := by
  rw [List.take_succ_eq_append_getElem h, List.filter_append]
  congr 1
  by_cases hp : p l[k] = true
  · rw [if_pos hp]; simp [hp]
  · rw [if_neg hp]; simp [hp]

set_option maxRecDepth 100000 in
set_option maxHeartbeats 1000000 in
theorem rcut_any (t : Int) (A : Option Addr) (n c : Nat) (l : List (Int × Int)) (m : Int) (w : World) (hr : DuesR w w.heap.size A n c l) (hn : n ≤ 64) :
    Calls Tryd.prog 15 #[wheelV t A n c, .int .u64 m] w fun e w' => ∃ A' c', e = .returned (.tuple #[wheelV t A' (cutQ m l).length c', .int .i64 (if hasQ m l then 0 else 4)]) ∧ DuesR w' w'.heap.size A' (cutQ m l).length c' (cutQ m l) ∧ Below w.heap.size w w' ∧ NewRow w.heap.size A' A := by
  have hcap := hr.cap
  have htop := hr.top
  have hlen := hr.len
  subst hlen
  have HR := Lib.hid hr
  unfold maxLen at htop
  unfold wheelV
  have hB : ∀ o, Below w.heap.size w ((w.alloc (.cells #[.int .i64 t, .slice A l.length c] 31)).alloc o) := fun o => ((Below.refl _ _).alloc (Nat.le_refl _) _).alloc (by simp) _
  rcases hh : hasQ m l with _ | _
  · have e2 : cutQ m l = l := by
      unfold cutQ
      rw [List.filter_eq_self]
      intro x hx
      simp only [decide_eq_true_eq]
      intro e
      rw [hasQ_iff.2 ⟨x, hx, e⟩] at hh
      cases hh
    rw [e2]
    go_enter Tryd.func15, Tryd.ntmps15
    go_wp2_with fail
    have hB0 := hB (.cells #[.int .i64 0, .slice none 0 0] 31)
    have bW := (QBox.new w 31 #[.int .i64 t, .slice A l.length c]).alloc (.cells #[.int .i64 0, .slice none 0 0] 31)
    have bR := QBox.new (w.alloc (.cells #[.int .i64 t, .slice A l.length c] 31)) 31 #[.int .i64 0, .slice none 0 0]
    simp only [World.size_alloc] at bR
    have hsz : ((w.alloc (.cells #[.int .i64 t, .slice A l.length c] 31)).alloc (.cells #[.int .i64 0, .slice none 0 0] 31)).heap.size = w.heap.size + 2 := by simp
    generalize hW0 : ((w.alloc (.cells #[.int .i64 t, .slice A l.length c] 31)).alloc (.cells #[.int .i64 0, .slice none 0 0] 31)) = W0 at *
    refine (rhas_any9 A l.length c l m W0 ((hr.below hB0).mono (by omega))).mono ?_; rintro e w1 ⟨rfl, hb1⟩
    rw [hh]
    have BW := Lib.hid (bW.belowAll hb1)
    have BR := Lib.hid (bR.belowAll hb1)
    have HB1 := Lib.hid (hB0.trans (hb1.mono (by omega)))
    have HS1 := Lib.hid (show w.heap.size + 2 ≤ w1.heap.size by have := hb1.size; omega)
    obtain ⟨k0, k1, _, _⟩ := BW.out.two
    obtain ⟨k4, k5, k6, k7⟩ := BR.out.two
    clear hW0 bW bR hb1 hsz hB0 hB
    go_wp2_with fail
    obtain ⟨z0, z1, _, _⟩ := (BR.out.set2 (.int .i64 t) (.slice A l.length c)).two
    refine bodyPost_ret (v := .tuple #[.agg #[.int .i64 t, .slice A l.length c], .int .i64 4]) (by simp [results, Tryd.results15, go_sem, z0, z1]) rfl ⟨A, c, rfl, ?_, below_set2 HB1.out (by omega) _ _, .inl rfl⟩
    exact (HR.out.below (below_set2 HB1.out (by omega) _ _)).mono (by have := HS1.out; simp; omega)
  · go_enter Tryd.func15, Tryd.ntmps15
    go_wp2_with fail
    have hB0 := hB (.cells #[.int .i64 0, .slice none 0 0] 31)
    have bW := (QBox.new w 31 #[.int .i64 t, .slice A l.length c]).alloc (.cells #[.int .i64 0, .slice none 0 0] 31)
    have bR := QBox.new (w.alloc (.cells #[.int .i64 t, .slice A l.length c] 31)) 31 #[.int .i64 0, .slice none 0 0]
    simp only [World.size_alloc] at bR
    have hsz : ((w.alloc (.cells #[.int .i64 t, .slice A l.length c] 31)).alloc (.cells #[.int .i64 0, .slice none 0 0] 31)).heap.size = w.heap.size + 2 := by simp
    generalize hW0 : ((w.alloc (.cells #[.int .i64 t, .slice A l.length c] 31)).alloc (.cells #[.int .i64 0, .slice none 0 0] 31)) = W0 at *
    refine (rhas_any9 A l.length c l m W0 ((hr.below hB0).mono (by omega))).mono ?_; rintro e w1 ⟨rfl, hb1⟩
    rw [hh]
    have BW := Lib.hid (bW.belowAll hb1)
    have BR := Lib.hid (bR.belowAll hb1)
    have HB1 := Lib.hid (hB0.trans (hb1.mono (by omega)))
    have HS1 := Lib.hid (show w.heap.size + 2 ≤ w1.heap.size by have := hb1.size; omega)
    obtain ⟨k0, k1, _, _⟩ := BW.out.two
    obtain ⟨k4, k5, k6, k7⟩ := BR.out.two
    clear hW0 bW bR hb1 hsz hB0 hB
    obtain ⟨ka, kb, _, _⟩ := (BW.out.alloc (.cells #[.int .i64 t, .slice none 0 0] 31)).two
    have hsw := HS1.out
    go_wp2_with fail
    obtain ⟨i0, hi, hz0, hz1, hz2⟩ := qinfo_parts info_due
    have hbo0 := QBox.new w1 31 #[.int .i64 t, .slice none 0 0]
    have hb0 : Below w1.heap.size w1 (w1.alloc (.cells #[.int .i64 t, .slice none 0 0] 31)) := (Below.refl _ _).alloc (Nat.le_refl _) _
    have hs0 : (w1.alloc (.cells #[.int .i64 t, .slice none 0 0] 31)).heap.size = w1.heap.size + 1 := by simp
    generalize w1.alloc (.cells #[.int .i64 t, .slice none 0 0] 31) = wo at *
    have HBO := Lib.hid hbo0
    have HB0 := Lib.hid hb0
    have HSO := Lib.hid hs0
    clear ka kb k0 k1 k4 k5 k6 k7 hbo0 hb0 hs0 hsw
    go_loopw [21] (fun i wr => ∃ (k : Nat) (A' : Option Addr) (c' : Nat) (f : List (Int × Int)), k ≤ l.length ∧ i = .int .i64 k ∧ Hid (f = cutQ m (l.take k)) ∧ f.length ≤ k ∧ QBox wr w1.heap.size 31 #[.int .i64 t, .slice A' f.length c'] ∧ OwnD wr (w1.heap.size + 1) (.slice A' f.length c') f ∧ Below w1.heap.size w1 wr) (fun i _ => l.length - (intOf i).toNat)
    case atStart => exact ⟨0, none, 0, [], by omega, rfl, Lib.hid (by simp [cutQ]), by simp, HBO.out, OwnD.nil _ _, HB0.out⟩
    case round =>
      obtain ⟨k, A', c', f, hk, rfl, HF, hfl, hbo, hrow, hb⟩ := hrel
      by_cases hlt : k < l.length
      · obtain ⟨b1, o1, rfl, hlb, c1, c2⟩ := ((HR.out.below HB1.out).below (hb.mono (by have := HS1.out; omega))).at_ k l[k] (List.getElem?_eq_getElem hlt)
        have hsn := filter_snoc (fun d => decide (d.2 ≠ m)) l k hlt
        generalize l[k] = x at *
        obtain ⟨x0, x1⟩ := x
        obtain ⟨ko0, ko1, ko2, ko3⟩ := hbo.two
        have hlo := hbo.lt
        have HROW := Lib.hid hrow
        have HB := Lib.hid hb
        have HBOx := Lib.hid (hbo.alloc (.cells #[.int .i64 x0, .int .u64 x1] 39))
        obtain ⟨kx0, kx1, kx2, kx3⟩ := HBOx.out.two
        by_cases he : x1 = m
        · have hd : (x1 == m) = true := by simp [he]
          have HF2 : Hid (f = cutQ m (l.take (k + 1))) := Lib.hid (by unfold cutQ; rw [hsn, if_neg (by simp [he]), List.append_nil]; exact HF.out)
          have hbx := hb.alloc hb.size (.cells #[.int .i64 x0, .int .u64 x1] 39)
          clear hsn he
          go_wp2_with fail
          go_roundw
          case rel => exact ⟨k + 1, A', c', f, by omega, by go_num, HF2, by omega, HBOx.out, HROW.out.alloc _, hbx⟩
          case measure => simp [intOf]; omega
        · have hd : (x1 == m) = false := by simp [he]
          have HF2 : Hid (f ++ [(x0, x1)] = cutQ m (l.take (k + 1))) := Lib.hid (by unfold cutQ; rw [hsn, if_pos (by simp [he])]; rw [HF.out]; rfl)
          clear hsn he
          have hrw := HROW.out
          have hsz := HB.out.size
          go_wp2_with (at_builtin; refine wpList_append_own _ rfl _ _ 29 rfl (w1.heap.size + 1) 39 i0 (.agg #[.int .i64 0, .int .u64 0]) 2 16 Tryd.underlying29 hi hz0 hz1 hz2 rfl (by decide) _ _ _ rfl ((hrw.alloc _).alloc _) ⟨wr.heap.size + 1, 0, none⟩ 1 1 [.int .i64 x0, .int .u64 x1] rfl rfl (qcells_two1 _ _ _ _ _) (by simp [Value.oneCell']) (by first | omega | (unfold maxLen; omega) | (simp; done) | (simp; omega) | (simp; unfold maxLen; omega)) (by first | omega | (unfold maxLen; omega) | (simp; done) | (simp; omega) | (simp; unfold maxLen; omega)) (by first | omega | (unfold maxLen; omega) | (simp; done) | (simp; omega) | (simp; unfold maxLen; omega)) ?_; intro v' w5 hown5 hgrow5 _; have hsn5 := own_snoc hown5; obtain ⟨A5, c5, rfl⟩ := hsn5.slice; have HX5 := Lib.hid ((HBOx.out.alloc (.cells #[.int .i64 x0, .int .u64 x1] 39)).grown hgrow5 (fun e => absurd (hrw.lt _ e).1 (by omega))); obtain ⟨k8, k9, k10, k11⟩ := HX5.out.two; have HB5 := Lib.hid (((HB.out.alloc hsz (.cells #[.int .i64 x0, .int .u64 x1] 39)).alloc (by simp; omega) (.cells #[.int .i64 x0, .int .u64 x1] 39)).grown hgrow5 (by simp; omega) (fun j e => by have := (hrw.lt j e).1; omega)))
          have hlm : (f ++ [(x0, x1)]).length = f.length + 1 := by simp
          have hq1 : QBox (w5.setCell ⟨w1.heap.size, 1, none⟩ (.slice A5 (f.length + 1) c5)) w1.heap.size 31 #[.int .i64 t, .slice A5 (f ++ [(x0, x1)]).length c5] := by
            rw [hlm]; exact HX5.out.set 1 _
          have hq2 := hsn5.far (g := w1.heap.size) (i := 1) (by omega) (.slice A5 (f.length + 1) c5)
          have hq3 := HB5.out.setCell (p := ⟨w1.heap.size, 1, none⟩) (Nat.le_refl _) (.slice A5 (f.length + 1) c5)
          go_roundw
          case rel => exact ⟨k + 1, A5, c5, f ++ [(x0, x1)], by omega, by go_num, HF2, by omega, hq1, hq2, hq3⟩
          case measure => simp [intOf]; omega
      · have hke : l.take k = l := List.take_of_length_le (by omega)
        rw [hke] at HF
        have hrw := hrow
        have hbr := BR.out.below hb (by have := HS1.out; omega)
        obtain ⟨ko0, ko1, _, _⟩ := hbo.two
        obtain ⟨k4, k5, k6, k7⟩ := hbr.two
        have hs1 := HS1.out
        have HBT := Lib.hid (HB1.out.trans (hb.mono (by have := HS1.out; omega)))
        have HBR := Lib.hid hbr
        clear hbr hb hbo hrow hke
        go_wp2_with fail
        have hbf := below_set2 HBT.out (show w.heap.size ≤ w.heap.size + 1 by omega) (.int .i64 t) (.slice A' f.length c')
        obtain ⟨z0, z1, _, _⟩ := (HBR.out.set2 (.int .i64 t) (.slice A' f.length c')).two
        have hof := (hrw.far (g := w.heap.size + 1) (i := 0) (by omega) (.int .i64 t)).far (g := w.heap.size + 1) (i := 1) (by omega) (.slice A' f.length c')
        rw [← HF.out]
        obtain ⟨A6, c6, e6, hr6⟩ := hof.row
        injection e6 with q1 q2 q3
        subst q1 q3
        refine bodyPost_ret (v := .tuple #[.agg #[.int .i64 t, .slice A' f.length c'], .int .i64 0]) (by simp [results, Tryd.results15, go_sem, z0, z1]) rfl ⟨A', c', rfl, hr6, hbf, .inr fun b o s e => by have := hof.from_ e; omega⟩
end Go.Proofs.YtidgiohjgkfjcaaDoor
