/- The document's Turn: walked. -/
import Derived.Test.YtidgiohjgkfjcaaDoorQRCut
import Derived.Deep.AppendLies
namespace Go.Proofs.YtidgiohjgkfjcaaDoor
open Go.RowKit

set_option maxRecDepth 100000 in
set_option maxHeartbeats 1000000 in
theorem rturn_no (t u : Int) (A : Option Addr) (n c : Nat) (l : List (Int × Int)) (w : World) (hr : DuesR w w.heap.size A n c l) (hu : u < t ∨ ¬timeQ u) :
    Calls Tryd.prog 17 #[wheelV t A n c, .int .i64 u] w fun e w' => e = .returned (.tuple #[wheelV t A n c, .slice none 0 0, .int .i64 2]) ∧ DuesR w' w'.heap.size A n c l ∧ Below w.heap.size w w' := by
  have hcap := hr.cap
  have htop := hr.top
  unfold maxLen at htop
  have hlen := hr.len
  subst hlen
  unfold wheelV
  have hB : ∀ o, Below w.heap.size w ((w.alloc (.cells #[.int .i64 t, .slice A l.length c] 31)).alloc o) := fun o => ((Below.refl _ _).alloc (Nat.le_refl _) _).alloc (by simp) _
  by_cases h1 : u < t
  · have hd : decide (u < t) = true := decide_eq_true h1
    clear h1 hu
    go_enter Tryd.func17, Tryd.ntmps17
    go_wp2_with fail
    refine bodyPost_ret (v := .tuple #[.agg #[.int .i64 t, .slice A l.length c], .slice none 0 0, .int .i64 2]) (by simp [results, Tryd.results17, go_sem]) rfl ⟨rfl, ?_, hB _⟩
    exact (hr.below (hB _)).mono (by simp; omega)
  · have hd : decide (u < t) = false := decide_eq_false h1
    have hd2 : decide (timeQ u) = false := decide_eq_false (hu.resolve_left h1)
    clear h1 hu
    go_enter Tryd.func17, Tryd.ntmps17
    go_wp2_with (go_at_call 10; refine (rtime_any u _).mono ?_; rintro e w' ⟨rfl, rfl⟩; rw [hd2])
    refine bodyPost_ret (v := .tuple #[.agg #[.int .i64 t, .slice A l.length c], .slice none 0 0, .int .i64 2]) (by simp [results, Tryd.results17, go_sem]) rfl ⟨rfl, ?_, hB _⟩
    exact (hr.below (hB _)).mono (by simp; omega)

set_option maxRecDepth 100000 in
set_option maxHeartbeats 1000000 in
theorem rturn_yes (t u : Int) (A : Option Addr) (n c : Nat) (l : List (Int × Int)) (w : World) (hr : DuesR w w.heap.size A n c l) (hn : n ≤ 64) (h1 : t ≤ u) (h2 : timeQ u) :
    Calls Tryd.prog 17 #[wheelV t A n c, .int .i64 u] w fun e w' => ∃ A' c' A2 c2, e = .returned (.tuple #[wheelV u A' (leftQ u l).length c', .slice A2 (dueQ u l).length c2, .int .i64 0]) ∧ DuesR w' w'.heap.size A' (leftQ u l).length c' (leftQ u l) ∧ DuesR w' w'.heap.size A2 (dueQ u l).length c2 (dueQ u l) ∧ Below w.heap.size w w' ∧ NewRow w.heap.size A' A ∧ NewRow w.heap.size A2 none := by
  have hcap := hr.cap
  have htop := hr.top
  unfold maxLen at htop
  have hlen := hr.len
  subst hlen
  have HR := Lib.hid hr
  unfold wheelV
  have hd : decide (u < t) = false := decide_eq_false (by omega)
  have hd2 : decide (timeQ u) = true := decide_eq_true h2
  have hB : ∀ o, Below w.heap.size w ((w.alloc (.cells #[.int .i64 t, .slice A l.length c] 31)).alloc o) := fun o => ((Below.refl _ _).alloc (Nat.le_refl _) _).alloc (by simp) _
  clear h1 h2
  go_enter Tryd.func17, Tryd.ntmps17
  go_wp2_with (go_at_call 10; refine (rtime_any u _).mono ?_; rintro e w' ⟨rfl, rfl⟩; rw [hd2])
  obtain ⟨i0, hi, hz0, hz1, hz2⟩ := qinfo_parts info_due
  have hb0 : Below w.heap.size w (((w.alloc (.cells #[.int .i64 t, .slice A l.length c] 31)).alloc (.cells #[.int .i64 0, .slice none 0 0] 31)).alloc (.cells #[.int .i64 u, .slice none 0 0] 31)) := (hB _).alloc (by simp; omega) _
  have hq0 := QBox.new ((w.alloc (.cells #[.int .i64 t, .slice A l.length c] 31)).alloc (.cells #[.int .i64 0, .slice none 0 0] 31)) 31 #[.int .i64 u, .slice none 0 0]
  have hr0 := (QBox.new (w.alloc (.cells #[.int .i64 t, .slice A l.length c] 31)) 31 #[.int .i64 0, .slice none 0 0]).alloc (.cells #[.int .i64 u, .slice none 0 0] 31)
  simp only [World.size_alloc] at hq0 hr0
  have hs0 : (((w.alloc (.cells #[.int .i64 t, .slice A l.length c] 31)).alloc (.cells #[.int .i64 0, .slice none 0 0] 31)).alloc (.cells #[.int .i64 u, .slice none 0 0] 31)).heap.size = w.heap.size + 3 := by simp
  generalize (((w.alloc (.cells #[.int .i64 t, .slice A l.length c] 31)).alloc (.cells #[.int .i64 0, .slice none 0 0] 31)).alloc (.cells #[.int .i64 u, .slice none 0 0] 31)) = wo at *
  have HQ0 := Lib.hid hq0
  have HR0 := Lib.hid hr0
  have HB0 := Lib.hid hb0
  have HS0 := Lib.hid hs0
  clear hq0 hr0 hb0 hs0 hB hd hd2 hr
  go_loopw [8, 26] (fun dv i wr => ∃ (k : Nat) (A' : Option Addr) (c' : Nat) (f : List (Int × Int)) (A2 : Option Addr) (c2 : Nat) (g : List (Int × Int)), k ≤ l.length ∧ i = .int .i64 k ∧ Hid (f = leftQ u (l.take k)) ∧ Hid (g = dueQ u (l.take k)) ∧ f.length ≤ k ∧ g.length ≤ k ∧ dv = .slice A2 g.length c2 ∧ QBox wr (w.heap.size + 1 + 1) 31 #[.int .i64 u, .slice A' f.length c'] ∧ QBox wr (w.heap.size + 1) 31 #[.int .i64 0, .slice none 0 0] ∧ OwnD wr (w.heap.size + 3) (.slice A' f.length c') f ∧ OwnD wr (w.heap.size + 3) (.slice A2 g.length c2) g ∧ QApart (.slice A' f.length c') (.slice A2 g.length c2) ∧ Below w.heap.size w wr ∧ Hid (w.heap.size + 3 ≤ wr.heap.size)) (fun _ i _ => l.length - (intOf i).toNat)
  case atStart => exact ⟨0, none, 0, [], none, 0, [], by omega, rfl, Lib.hid (by simp [leftQ]), Lib.hid (by simp [dueQ]), by simp, by simp, rfl, HQ0.out, HR0.out, OwnD.nil _ _, OwnD.nil _ _, QApart.none_ _ _ _, HB0.out, Lib.hid (by have := HS0.out; omega)⟩
  case round =>
    obtain ⟨k, A', c', f, A2, c2, g, hk, rfl, HF, HG, hfl, hgl, rfl, hqo, hqr, hrf, hrg, hap, hb, HSZ⟩ := hrel
    by_cases hlt : k < l.length
    · obtain ⟨b1, o1, rfl, hlb, ce1, ce2⟩ := (HR.out.below hb).at_ k l[k] (List.getElem?_eq_getElem hlt)
      have hsf := filter_snoc (fun d => decide (u < d.1)) l k hlt
      have hsg := filter_snoc (fun d => decide (d.1 ≤ u)) l k hlt
      generalize l[k] = x at *
      obtain ⟨x0, x1⟩ := x
      have HQO := Lib.hid hqo; have HQR := Lib.hid hqr; have HRF := Lib.hid hrf; have HRG := Lib.hid hrg; have HAP := Lib.hid hap; have HB := Lib.hid hb
      have HFL := Lib.hid (fun j e => (hrf.lt j e).2)
      have HGL := Lib.hid (fun j e => (hrg.lt j e).2)
      have HFB := Lib.hid (fun j e => (hrf.lt j e).1)
      have HGB := Lib.hid (fun j e => (hrg.lt j e).1)
      clear hqo hqr hrf hrg hap hb
      obtain ⟨ko0, ko1, ko2, ko3⟩ := (HQO.out.alloc (.cells #[.int .i64 x0, .int .u64 x1] 39)).two
      have hsz := HSZ.out
      by_cases he : x0 ≤ u
      · have hd : decide (x0 ≤ u) = true := decide_eq_true he
        have HF2 : Hid (f = leftQ u (l.take (k + 1))) := Lib.hid (by unfold leftQ; rw [hsf, if_neg (by simp; omega), List.append_nil]; exact HF.out)
        have HG2 : Hid (g ++ [(x0, x1)] = dueQ u (l.take (k + 1))) := Lib.hid (by unfold dueQ; rw [hsg, if_pos (by simp [he]), HG.out]; rfl)
        have hrg := HRG.out
        clear hsf hsg he
        go_wp2_with (at_builtin; refine wpList_append_lies _ rfl _ _ 29 rfl (w.heap.size + 3) 39 i0 (.agg #[.int .i64 0, .int .u64 0]) 2 16 Tryd.underlying29 hi hz0 hz1 hz2 rfl (by decide) _ _ _ rfl ((hrg.alloc _).alloc _) ⟨wr.heap.size + 1, 0, none⟩ 1 1 [.int .i64 x0, .int .u64 x1] rfl rfl (qcells_two1 _ _ _ _ _) (by simp [Value.oneCell']) (by decide) (by first | omega | (unfold maxLen; omega) | (simp; done) | (simp; omega) | (simp; unfold maxLen; omega)) (by first | omega | (unfold maxLen; omega) | (simp; done) | (simp; omega) | (simp; unfold maxLen; omega)) (by first | omega | (unfold maxLen; omega) | (simp; done) | (simp; omega) | (simp; unfold maxLen; omega)) (wr.heap.size + 2) (by simp) ?_; intro g5 c5 w5 hown5 hgrow5 hl5 hg5; have hsn5 := own_snoc hown5; have HX5 := Lib.hid (((HQO.out.alloc (.cells #[.int .i64 x0, .int .u64 x1] 39)).alloc (.cells #[.int .i64 x0, .int .u64 x1] 39)).grown hgrow5 (fun e => absurd (HGB.out _ e) (by omega))); have HY5 := Lib.hid (((HQR.out.alloc (.cells #[.int .i64 x0, .int .u64 x1] 39)).alloc (.cells #[.int .i64 x0, .int .u64 x1] 39)).grown hgrow5 (fun e => absurd (HGB.out _ e) (by omega))); have HB5 := Lib.hid (((HB.out.alloc (by omega) (.cells #[.int .i64 x0, .int .u64 x1] 39)).alloc (by simp; omega) (.cells #[.int .i64 x0, .int .u64 x1] 39)).grown hgrow5 (by simp; omega) (fun j e => by have := HGB.out j e; omega)); have HK5 := Lib.hid (OwnD.kept (v2 := .slice A2 g.length c2) ((HRF.out.alloc (.cells #[.int .i64 x0, .int .u64 x1] 39)).alloc (.cells #[.int .i64 x0, .int .u64 x1] 39)) hgrow5 HAP.out); have HP5 : Hid (QApart (.slice A' f.length c') (.slice (some ⟨g5, 0, none⟩) (g ++ [(x0, x1)]).length c5)) := Lib.hid (HAP.out.new (H := wr.heap.size + 2) (fun j e => by have := HFL.out j e; omega) hl5); have hs5 : w.heap.size + 3 ≤ w5.heap.size := by have := hgrow5.size; simp at this; omega)
        have hlm : (g ++ [(x0, x1)]).length = g.length + 1 := by simp
        go_roundw
        case rel => exact ⟨k + 1, A', c', f, some ⟨g5, 0, none⟩, c5, g ++ [(x0, x1)], by omega, by go_num, HF2, HG2, by omega, by omega, by rw [hlm], HX5.out, HY5.out, HK5.out, by rw [hlm]; exact hsn5, HP5.out, HB5.out, Lib.hid hs5⟩
        case measure => simp [intOf]; omega
      · have hd : decide (x0 ≤ u) = false := decide_eq_false he
        have HG2 : Hid (g = dueQ u (l.take (k + 1))) := Lib.hid (by unfold dueQ; rw [hsg, if_neg (by simp; omega), List.append_nil]; exact HG.out)
        have HF2 : Hid (f ++ [(x0, x1)] = leftQ u (l.take (k + 1))) := Lib.hid (by unfold leftQ; rw [hsf, if_pos (by simp; omega), HF.out]; rfl)
        have hrf := HRF.out
        clear hsf hsg he
        go_wp2_with (at_builtin; refine wpList_append_lies _ rfl _ _ 29 rfl (w.heap.size + 3) 39 i0 (.agg #[.int .i64 0, .int .u64 0]) 2 16 Tryd.underlying29 hi hz0 hz1 hz2 rfl (by decide) _ _ _ rfl ((hrf.alloc _).alloc _) ⟨wr.heap.size + 1, 0, none⟩ 1 1 [.int .i64 x0, .int .u64 x1] rfl rfl (qcells_two1 _ _ _ _ _) (by simp [Value.oneCell']) (by decide) (by first | omega | (unfold maxLen; omega) | (simp; done) | (simp; omega) | (simp; unfold maxLen; omega)) (by first | omega | (unfold maxLen; omega) | (simp; done) | (simp; omega) | (simp; unfold maxLen; omega)) (by first | omega | (unfold maxLen; omega) | (simp; done) | (simp; omega) | (simp; unfold maxLen; omega)) (wr.heap.size + 2) (by simp) ?_; intro g5 c5 w5 hown5 hgrow5 hl5 hg5; have hsn5 := own_snoc hown5; have HX5 := Lib.hid (((HQO.out.alloc (.cells #[.int .i64 x0, .int .u64 x1] 39)).alloc (.cells #[.int .i64 x0, .int .u64 x1] 39)).grown hgrow5 (fun e => absurd (HFB.out _ e) (by omega))); have HY5 := Lib.hid (((HQR.out.alloc (.cells #[.int .i64 x0, .int .u64 x1] 39)).alloc (.cells #[.int .i64 x0, .int .u64 x1] 39)).grown hgrow5 (fun e => absurd (HFB.out _ e) (by omega))); have HB5 := Lib.hid (((HB.out.alloc (by omega) (.cells #[.int .i64 x0, .int .u64 x1] 39)).alloc (by simp; omega) (.cells #[.int .i64 x0, .int .u64 x1] 39)).grown hgrow5 (by simp; omega) (fun j e => by have := HFB.out j e; omega)); have HK5 := Lib.hid (OwnD.kept (v2 := .slice A' f.length c') ((HRG.out.alloc (.cells #[.int .i64 x0, .int .u64 x1] 39)).alloc (.cells #[.int .i64 x0, .int .u64 x1] 39)) hgrow5 HAP.out.symm); have HP5 : Hid (QApart (.slice (some ⟨g5, 0, none⟩) (f ++ [(x0, x1)]).length c5) (.slice A2 g.length c2)) := Lib.hid ((HAP.out.symm.new (H := wr.heap.size + 2) (fun j e => by have := HGL.out j e; omega) hl5).symm); have hs5 : w.heap.size + 3 ≤ w5.heap.size := (by have := hgrow5.size; simp at this; omega); obtain ⟨k8, k9, k10, k11⟩ := HX5.out.two)
        have hlm : (f ++ [(x0, x1)]).length = f.length + 1 := by simp
        have q1 : QBox (w5.setCell ⟨w.heap.size + 1 + 1, 1, none⟩ (.slice (some ⟨g5, 0, none⟩) (f.length + 1) c5)) (w.heap.size + 1 + 1) 31 #[.int .i64 u, .slice (some ⟨g5, 0, none⟩) (f ++ [(x0, x1)]).length c5] := by
          rw [hlm]; exact HX5.out.set 1 _
        have q2 := HY5.out.far (p := w.heap.size + 1 + 1) (i := 1) (by omega) (.slice (some ⟨g5, 0, none⟩) (f.length + 1) c5)
        have q3 := HK5.out.far (g := w.heap.size + 1 + 1) (i := 1) (by omega) (.slice (some ⟨g5, 0, none⟩) (f.length + 1) c5)
        have q4 : OwnD (w5.setCell ⟨w.heap.size + 1 + 1, 1, none⟩ (.slice (some ⟨g5, 0, none⟩) (f.length + 1) c5)) (w.heap.size + 3) (.slice (some ⟨g5, 0, none⟩) (f ++ [(x0, x1)]).length c5) (f ++ [(x0, x1)]) := by
          rw [hlm]; exact hsn5.far (g := w.heap.size + 1 + 1) (i := 1) (by omega) _
        have q5 := HB5.out.setCell (p := ⟨w.heap.size + 1 + 1, 1, none⟩) (show w.heap.size ≤ w.heap.size + 1 + 1 by omega) (.slice (some ⟨g5, 0, none⟩) (f.length + 1) c5)
        go_roundw
        case rel => exact ⟨k + 1, some ⟨g5, 0, none⟩, c5, f ++ [(x0, x1)], A2, c2, g, by omega, by go_num, HF2, HG2, by omega, by omega, rfl, q1, q2, q4, q3, HP5.out, q5, Lib.hid (by simp; omega)⟩
        case measure => simp [intOf]; omega
    · have hke : l.take k = l := List.take_of_length_le (by omega)
      rw [hke] at HF HG
      have HRF := Lib.hid hrf; have HRG := Lib.hid hrg; have HQO := Lib.hid hqo; have HQR := Lib.hid hqr; have HB := Lib.hid hb
      obtain ⟨ko0, ko1, _, _⟩ := hqo.two
      obtain ⟨k4, k5, k6, k7⟩ := hqr.two
      clear hqo hqr hrf hrg hb hke hap
      go_wp2_with fail
      have hbf := below_set2 HB.out (show w.heap.size ≤ w.heap.size + 1 by omega) (.int .i64 u) (.slice A' f.length c')
      obtain ⟨z0, z1, _, _⟩ := (HQR.out.set2 (.int .i64 u) (.slice A' f.length c')).two
      have hof := (HRF.out.far (g := w.heap.size + 1) (i := 0) (by omega) (.int .i64 u)).far (g := w.heap.size + 1) (i := 1) (by omega) (.slice A' f.length c')
      have hog := (HRG.out.far (g := w.heap.size + 1) (i := 0) (by omega) (.int .i64 u)).far (g := w.heap.size + 1) (i := 1) (by omega) (.slice A' f.length c')
      rw [← HF.out, ← HG.out]
      obtain ⟨A6, c6, e6, hr6⟩ := hof.row
      injection e6 with q1 q2 q3
      subst q1 q3
      obtain ⟨A7, c7, e7, hr7⟩ := hog.row
      injection e7 with q1 q2 q3
      subst q1 q3
      refine bodyPost_ret (v := .tuple #[.agg #[.int .i64 u, .slice A' f.length c'], .slice A2 g.length c2, .int .i64 0]) (by simp [results, Tryd.results17, go_sem, z0, z1]) rfl ⟨A', c', A2, c2, rfl, hr6, hr7, hbf, .inr fun b o s e => by have := hof.from_ e; omega, .inr fun b o s e => by have := hog.from_ e; omega⟩
end Go.Proofs.YtidgiohjgkfjcaaDoor
