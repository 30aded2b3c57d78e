/- The document's Put: walked. -/
import Derived.Test.YtidgiohjgkfjcaaDoorQRef
namespace Go.Proofs.YtidgiohjgkfjcaaDoor
open Go.RowKit

/-- What the loop of Put has laid behind k dues. -/
def laidQ (d : Int × Int) (l : List (Int × Int)) : List (Int × Int) × Bool :=
  l.foldl (fun p x => if !p.2 && befQ d x then (p.1 ++ [d] ++ [x], true) else (p.1 ++ [x], p.2)) ([], false)
theorem laidQ_snoc (d x : Int × Int) (l : List (Int × Int)) : laidQ d (l ++ [x]) = if !(laidQ d l).2 && befQ d x then ((laidQ d l).1 ++ [d] ++ [x], true) else ((laidQ d l).1 ++ [x], (laidQ d l).2) := by
  unfold laidQ; rw [List.foldl_append]; rfl
theorem laidQ_lenF (d : Int × Int) : ∀ (l acc : List (Int × Int)) (b : Bool), (l.foldl (fun p x => if !p.2 && befQ d x then (p.1 ++ [d] ++ [x], true) else (p.1 ++ [x], p.2)) (acc, b)).1.length ≤ acc.length + l.length + (if b then 0 else 1)
  | [], acc, b => by simp
  | x :: l, acc, b => by
    rw [List.foldl_cons]
    by_cases h : (!b && befQ d x) = true
    · rw [if_pos h]
      have := laidQ_lenF d l (acc ++ [d] ++ [x]) true
      rcases b with _ | _
      · simp at this ⊢; omega
      · simp at h
    · rw [if_neg h]
      have := laidQ_lenF d l (acc ++ [x]) b
      simp at this ⊢; omega
theorem laidQ_len (d : Int × Int) (l : List (Int × Int)) : (laidQ d l).1.length ≤ l.length + 1 := by
  have := laidQ_lenF d l [] false
  simpa [laidQ] using this
theorem laidQ_from (d : Int × Int) : ∀ (l acc : List (Int × Int)), l.foldl (fun p x => if !p.2 && befQ d x then (p.1 ++ [d] ++ [x], true) else (p.1 ++ [x], p.2)) (acc, true) = (acc ++ l, true)
  | [], acc => by simp
  | x :: l, acc => by
    rw [List.foldl_cons]
    simp only [Bool.not_true, Bool.false_and, Bool.false_eq_true, if_false]
    rw [laidQ_from d l]; simp
theorem laidQ_ins (d : Int × Int) : ∀ (l acc : List (Int × Int)),
    (let p := l.foldl (fun p x => if !p.2 && befQ d x then (p.1 ++ [d] ++ [x], true) else (p.1 ++ [x], p.2)) (acc, false); (if p.2 then p.1 else p.1 ++ [d])) = acc ++ insQ d l
  | [], acc => by simp [insQ]
  | x :: l, acc => by
    rw [List.foldl_cons]
    by_cases h : befQ d x = true
    · simp only [Bool.not_false, Bool.true_and, h, if_true]
      rw [laidQ_from d l]
      simp [insQ, h]
    · simp only [Bool.not_false, Bool.true_and, h, Bool.false_eq_true, if_false]
      rw [laidQ_ins d l]
      simp [insQ, h]
theorem laidQ_all (d : Int × Int) (l : List (Int × Int)) : (if (laidQ d l).2 then (laidQ d l).1 else (laidQ d l).1 ++ [d]) = insQ d l := by
  have := laidQ_ins d l []
  rw [List.nil_append] at this
  exact this

set_option maxRecDepth 100000 in
set_option maxHeartbeats 1000000 in
theorem rput_any (t : Int) (A : Option Addr) (n c : Nat) (l : List (Int × Int)) (d : Int × Int) (w : World) (hr : DuesR w w.heap.size A n c l) (hn : n ≤ 64) :
    Calls Tryd.prog 13 #[wheelV t A n c, dueV d] w fun e w' => ∃ A' c', e = .returned (.tuple #[wheelV t A' (putQ t l d).length c', .int .i64 (putE t l d)]) ∧ DuesR w' w'.heap.size A' (putQ t l d).length c' (putQ t l d) ∧ Below w.heap.size w w' ∧ NewRow w.heap.size A' A := by
  have hcap := hr.cap
  have htop := hr.top
  have hlen := hr.len
  subst hlen
  have HR := Lib.hid hr
  unfold maxLen at htop
  obtain ⟨d0, d1⟩ := d
  unfold wheelV dueV
  dsimp only
  have hB : ∀ o, Below w.heap.size w (((w.alloc (.cells #[.int .i64 t, .slice A l.length c] 31)).alloc (.cells #[.int .i64 d0, .int .u64 d1] 39)).alloc o) := fun o => (((Below.refl _ _).alloc (Nat.le_refl _) _).alloc (by simp) _).alloc (by simp; omega) _
  by_cases h1 : d0 ≤ t
  · have e : putE t l (d0, d1) = 2 := by unfold putE; rw [if_pos (.inl h1)]
    have e2 : putQ t l (d0, d1) = l := by unfold putQ; rw [e]; rfl
    rw [e, e2]
    have hd : decide (d0 ≤ t) = true := decide_eq_true h1
    clear h1 e e2
    go_enter Tryd.func13, Tryd.ntmps13
    go_wp2_with fail
    refine bodyPost_ret (v := .tuple #[.agg #[.int .i64 t, .slice A l.length c], .int .i64 2]) (by simp [results, Tryd.results13, go_sem]) rfl ⟨A, c, rfl, ?_, hB _, .inl rfl⟩
    exact (hr.below (hB _)).mono (by simp; omega)
  · have hd : decide (d0 ≤ t) = false := decide_eq_false h1
    by_cases h2 : timeQ d0
    · have hd2 : decide (timeQ d0) = true := decide_eq_true h2
      rcases hh : hasQ d1 l with _ | _
      · by_cases h64 : l.length = 64
        · have e : putE t l (d0, d1) = 6 := by unfold putE; rw [if_neg (by simp [h1, h2]), if_neg (by simp [hh]), if_pos h64]
          have e2 : putQ t l (d0, d1) = l := by unfold putQ; rw [e]; rfl
          rw [e, e2]
          have HD6 : Hid (((l.length : Int) == 64) = true) := Lib.hid (by simp; omega)
          clear e e2 h1 h2 h64
          go_enter Tryd.func13, Tryd.ntmps13
          go_wp2_with (go_at_call 10; refine (rtime_any d0 _).mono ?_; rintro e w' ⟨rfl, rfl⟩; rw [hd2])
          have hB0 := hB (.cells #[.int .i64 0, .slice none 0 0] 31)
          have bW := ((QBox.new w 31 #[.int .i64 t, .slice A l.length c]).alloc (.cells #[.int .i64 d0, .int .u64 d1] 39)).alloc (.cells #[.int .i64 0, .slice none 0 0] 31)
          have bD := (QBox.new (w.alloc (.cells #[.int .i64 t, .slice A l.length c] 31)) 39 #[.int .i64 d0, .int .u64 d1]).alloc (.cells #[.int .i64 0, .slice none 0 0] 31)
          have bR := QBox.new ((w.alloc (.cells #[.int .i64 t, .slice A l.length c] 31)).alloc (.cells #[.int .i64 d0, .int .u64 d1] 39)) 31 #[.int .i64 0, .slice none 0 0]
          simp only [World.size_alloc] at bD bR
          have hsz : (((w.alloc (.cells #[.int .i64 t, .slice A l.length c] 31)).alloc (.cells #[.int .i64 d0, .int .u64 d1] 39)).alloc (.cells #[.int .i64 0, .slice none 0 0] 31)).heap.size = w.heap.size + 3 := by simp
          generalize hW0 : (((w.alloc (.cells #[.int .i64 t, .slice A l.length c] 31)).alloc (.cells #[.int .i64 d0, .int .u64 d1] 39)).alloc (.cells #[.int .i64 0, .slice none 0 0] 31)) = W0 at *
          refine (rhas_any9 A l.length c l d1 W0 ((hr.below hB0).mono (by omega))).mono ?_; rintro e w1 ⟨rfl, hb1⟩
          rw [hh]
          have BW := Lib.hid (bW.belowAll hb1)
          have BD := Lib.hid (bD.belowAll hb1)
          have BR := Lib.hid (bR.belowAll hb1)
          have HB1 := Lib.hid (hB0.trans (hb1.mono (by omega)))
          have HS1 := Lib.hid (show w.heap.size + 3 ≤ w1.heap.size by have := hb1.size; omega)
          obtain ⟨k0, k1, _, _⟩ := BW.out.two
          obtain ⟨k2, k3, _, _⟩ := BD.out.two
          obtain ⟨k4, k5, k6, k7⟩ := BR.out.two
          have HB0 := Lib.hid hB0
          clear hW0 bW bD bR hb1 hsz hB0 hB
          have hd6 := HD6.out
          go_wp2_with fail
          obtain ⟨z0, z1, _, _⟩ := (BR.out.set2 (.int .i64 t) (.slice A l.length c)).two
          refine bodyPost_ret (v := .tuple #[.agg #[.int .i64 t, .slice A l.length c], .int .i64 6]) (by simp [results, Tryd.results13, go_sem, z0, z1]) rfl ⟨A, c, rfl, ?_, below_set2 HB1.out (by omega) _ _, .inl rfl⟩
          exact (HR.out.below (below_set2 HB1.out (by omega) _ _)).mono (by have := HS1.out; simp; omega)
        · have e : putE t l (d0, d1) = 0 := by unfold putE; rw [if_neg (by simp [h1, h2]), if_neg (by simp [hh]), if_neg h64]
          have e2 : putQ t l (d0, d1) = insQ (d0, d1) l := by unfold putQ; rw [e]; rfl
          rw [e, e2]
          have HD6 : Hid (((l.length : Int) == 64) = false) := Lib.hid (by simp; omega)
          clear e e2 h1 h2 h64
          go_enter Tryd.func13, Tryd.ntmps13
          go_wp2_with (go_at_call 10; refine (rtime_any d0 _).mono ?_; rintro e w' ⟨rfl, rfl⟩; rw [hd2])
          have hB0 := hB (.cells #[.int .i64 0, .slice none 0 0] 31)
          have bW := ((QBox.new w 31 #[.int .i64 t, .slice A l.length c]).alloc (.cells #[.int .i64 d0, .int .u64 d1] 39)).alloc (.cells #[.int .i64 0, .slice none 0 0] 31)
          have bD := (QBox.new (w.alloc (.cells #[.int .i64 t, .slice A l.length c] 31)) 39 #[.int .i64 d0, .int .u64 d1]).alloc (.cells #[.int .i64 0, .slice none 0 0] 31)
          have bR := QBox.new ((w.alloc (.cells #[.int .i64 t, .slice A l.length c] 31)).alloc (.cells #[.int .i64 d0, .int .u64 d1] 39)) 31 #[.int .i64 0, .slice none 0 0]
          simp only [World.size_alloc] at bD bR
          have hsz : (((w.alloc (.cells #[.int .i64 t, .slice A l.length c] 31)).alloc (.cells #[.int .i64 d0, .int .u64 d1] 39)).alloc (.cells #[.int .i64 0, .slice none 0 0] 31)).heap.size = w.heap.size + 3 := by simp
          generalize hW0 : (((w.alloc (.cells #[.int .i64 t, .slice A l.length c] 31)).alloc (.cells #[.int .i64 d0, .int .u64 d1] 39)).alloc (.cells #[.int .i64 0, .slice none 0 0] 31)) = W0 at *
          refine (rhas_any9 A l.length c l d1 W0 ((hr.below hB0).mono (by omega))).mono ?_; rintro e w1 ⟨rfl, hb1⟩
          rw [hh]
          have BW := Lib.hid (bW.belowAll hb1)
          have BD := Lib.hid (bD.belowAll hb1)
          have BR := Lib.hid (bR.belowAll hb1)
          have HB1 := Lib.hid (hB0.trans (hb1.mono (by omega)))
          have HS1 := Lib.hid (show w.heap.size + 3 ≤ w1.heap.size by have := hb1.size; omega)
          obtain ⟨k0, k1, _, _⟩ := BW.out.two
          obtain ⟨k2, k3, _, _⟩ := BD.out.two
          obtain ⟨k4, k5, k6, k7⟩ := BR.out.two
          have HB0 := Lib.hid hB0
          clear hW0 bW bD bR hb1 hsz hB0 hB
          have hd6 := HD6.out
          go_wp2_with fail
          obtain ⟨i0, hi, hz0, hz1, hz2⟩ := qinfo_parts info_due
          clear k0 k1 k4 k5 k6 k7 hd6
          go_loopw [6, 7, 39] (fun v la i wr => ∃ (k : Nat) (A' : Option Addr) (c' : Nat) (m : List (Int × Int)) (b : Bool), k ≤ l.length ∧ i = .int .i64 k ∧ Hid ((m, b) = laidQ (d0, d1) (l.take k)) ∧ v = .slice A' m.length c' ∧ la = .bool b ∧ (m.length ≤ k + 1 ∧ (b = false → m.length ≤ k)) ∧ OwnD wr w1.heap.size (.slice A' m.length c') m ∧ Below w1.heap.size w1 wr) (fun _ _ i _ => l.length - (intOf i).toNat)
          case atStart => exact ⟨0, none, 0, [], false, by omega, rfl, Lib.hid (by simp [laidQ]), rfl, rfl, ⟨by simp, fun _ => by simp⟩, OwnD.nil _ _, Below.refl _ _⟩
          case round =>
            obtain ⟨k, A', c', m, b, hk, rfl, HM, rfl, rfl, ⟨hml, hmf⟩, hrow, hb⟩ := hrel
            by_cases hlt : k < l.length
            · obtain ⟨b1, o1, rfl, hlb, c1, c2⟩ := ((HR.out.below HB1.out).below (hb.mono (by have := HS1.out; omega))).at_ k l[k] (List.getElem?_eq_getElem hlt)
              have hsnoc := laidQ_snoc (d0, d1) l[k] (l.take k)
              rw [← HM.out, ← List.take_succ_eq_append_getElem hlt] at hsnoc
              dsimp only at hsnoc
              obtain ⟨k2', k3', _, _⟩ := (BD.out.below hb (by have := HS1.out; omega)).two
              have HROW := Lib.hid hrow
              have HB := Lib.hid hb
              generalize l[k] = x at *
              obtain ⟨x0, x1⟩ := x
              have HSN := Lib.hid hsnoc
              have hbx := Lib.hid (hb.alloc hb.size (.cells #[.int .i64 x0, .int .u64 x1] 39))
              have hrx := Lib.hid (hrow.below ((Below.refl _ _).alloc (Nat.le_refl _) (.cells #[.int .i64 x0, .int .u64 x1] 39)))
              clear hsnoc hrow hb HM k2 k3
              rcases b with _ | _
              · have hmf := hmf rfl
                have hx := (QBox.new wr 39 #[.int .i64 x0, .int .u64 x1])
                have hdx := (BD.out.below HB.out (by have := HS1.out; omega)).alloc (.cells #[.int .i64 x0, .int .u64 x1] 39)
                obtain ⟨k4, k5, _, _⟩ := hx.two
                obtain ⟨k6, k7, _, _⟩ := hdx.two
                clear k2' k3'
                go_wp2_with fail
                have hszx : (wr.alloc (.cells #[.int .i64 x0, .int .u64 x1] 39)).heap.size = wr.heap.size + 1 := by simp
                generalize hWX : wr.alloc (.cells #[.int .i64 x0, .int .u64 x1] 39) = WX at *
                refine (rbefore_any (d0, d1) (x0, x1) WX).mono ?_; rintro e w2 ⟨rfl, hb2⟩
                have HX2 := Lib.hid (hx.belowAll hb2)
                have HD2 := Lib.hid (hdx.belowAll hb2)
                have HR2 := Lib.hid (hrx.out.below hb2)
                have HB2 := Lib.hid (hbx.out.trans (hb2.mono (by have := HB.out.size; omega)))
                have HSX := Lib.hid (show wr.heap.size + 1 ≤ w2.heap.size by have := hb2.size; omega)
                have HRL := Lib.hid (fun j e => (HROW.out.lt j e).2)
                have HS2 := Lib.hid HB2.out.size
                clear hx hdx hbx hrx hb2 k4 k5 k6 k7 hWX hszx
                obtain ⟨k4, k5, _, _⟩ := HX2.out.two
                obtain ⟨k6, k7, _, _⟩ := HD2.out.two
                have hrw := HR2.out
                have hsz := HS2.out
                have hszx := HSX.out
                rcases hbf : befQ (d0, d1) (x0, x1) with _ | _
                · rw [hbf] at HSN
                  go_wp2_with (at_builtin; refine wpList_append_own _ rfl _ _ 29 rfl w1.heap.size 39 i0 (.agg #[.int .i64 0, .int .u64 0]) 2 16 Tryd.underlying29 hi hz0 hz1 hz2 rfl (by decide) _ _ _ rfl (hrw.alloc _) ⟨w2.heap.size, 0, none⟩ 1 1 [.int .i64 x0, .int .u64 x1] rfl rfl (qcells_two _ _ _ _) (by simp [Value.oneCell']) (by first | omega | (unfold maxLen; omega) | (simp; done) | (simp; omega) | (simp; unfold maxLen; omega)) (by first | omega | (unfold maxLen; omega) | (simp; done) | (simp; omega) | (simp; unfold maxLen; omega)) (by first | omega | (unfold maxLen; omega) | (simp; done) | (simp; omega) | (simp; unfold maxLen; omega)) ?_; intro v' w5 hown5 hgrow5 _; have hsn5 := own_snoc hown5; obtain ⟨A5, c5, rfl⟩ := hsn5.slice)
                  go_roundw
                  case rel =>
                    exact ⟨k + 1, A5, c5, m ++ [(x0, x1)], false, by omega, by go_num, Lib.hid (by rw [HSN.out]; rfl), by simp, rfl, ⟨by simp; omega, fun _ => by simp; omega⟩, hsn5, (HB2.out.alloc hsz _).grown hgrow5 (by simp; omega) (fun j e => (hrw.lt j e).1)⟩
                  case measure => simp [intOf]; omega
                · rw [hbf] at HSN
                  go_wp2_with (first
                    | (at_builtin; refine wpList_append_own _ rfl _ _ 29 rfl w1.heap.size 39 i0 (.agg #[.int .i64 0, .int .u64 0]) 2 16 Tryd.underlying29 hi hz0 hz1 hz2 rfl (by decide) _ _ _ rfl (hrw.alloc _) ⟨w2.heap.size, 0, none⟩ 1 1 [.int .i64 d0, .int .u64 d1] rfl rfl (qcells_two _ _ _ _) (by simp [Value.oneCell']) (by first | omega | (unfold maxLen; omega) | (simp; done) | (simp; omega) | (simp; unfold maxLen; omega)) (by first | omega | (unfold maxLen; omega) | (simp; done) | (simp; omega) | (simp; unfold maxLen; omega)) (by first | omega | (unfold maxLen; omega) | (simp; done) | (simp; omega) | (simp; unfold maxLen; omega)) ?_; intro v' w5 hown5 hgrow5 _; have hsn5 := own_snoc hown5; obtain ⟨A5, c5, rfl⟩ := hsn5.slice; rw [List.length_append] at hsn5; have HX5 := Lib.hid ((HX2.out.alloc (.cells #[.int .i64 d0, .int .u64 d1] 39)).grown hgrow5 (fun e => absurd (HRL.out _ e) (by omega))); obtain ⟨k8, k9, _, _⟩ := HX5.out.two; have HB5 := Lib.hid ((HB2.out.alloc hsz (.cells #[.int .i64 d0, .int .u64 d1] 39)).grown hgrow5 (by simp; omega) (fun j e => (hrw.lt j e).1)); have hs5 := HB5.out.size)
                    | (at_builtin; refine wpList_append_own _ rfl _ _ 29 rfl w1.heap.size 39 i0 (.agg #[.int .i64 0, .int .u64 0]) 2 16 Tryd.underlying29 hi hz0 hz1 hz2 rfl (by decide) _ _ _ rfl (hsn5.alloc _) ⟨w5.heap.size, 0, none⟩ 1 1 [.int .i64 x0, .int .u64 x1] rfl rfl (qcells_two _ _ _ _) (by simp [Value.oneCell']) (by first | omega | (unfold maxLen; omega) | (simp; done) | (simp; omega) | (simp; unfold maxLen; omega)) (by first | omega | (unfold maxLen; omega) | (simp; done) | (simp; omega) | (simp; unfold maxLen; omega)) (by first | omega | (unfold maxLen; omega) | (simp; done) | (simp; omega) | (simp; unfold maxLen; omega)) ?_; intro v' w6 hown6 hgrow6 _; have hsn6 := own_snoc hown6; obtain ⟨A6, c6, rfl⟩ := hsn6.slice))
                  go_roundw
                  case rel =>
                    exact ⟨k + 1, A6, c6, m ++ [(d0, d1)] ++ [(x0, x1)], true, by omega, by go_num, Lib.hid (by rw [HSN.out]; rfl), by simp, rfl, ⟨by simp; omega, fun e => by cases e⟩, hsn6, (HB5.out.alloc hs5 _).grown hgrow6 (by simp; omega) (fun j e => (hsn5.lt j e).1)⟩
                  case measure => simp [intOf]; omega
              · clear hmf
                have hrw := HROW.out
                have hsz := HB.out.size
                go_wp2_with (at_builtin; refine wpList_append_own _ rfl _ _ 29 rfl w1.heap.size 39 i0 (.agg #[.int .i64 0, .int .u64 0]) 2 16 Tryd.underlying29 hi hz0 hz1 hz2 rfl (by decide) _ _ _ rfl ((hrw.alloc _).alloc _) ⟨wr.heap.size + 1, 0, none⟩ 1 1 [.int .i64 x0, .int .u64 x1] rfl rfl (qcells_two1 _ _ _ _ _) (by simp [Value.oneCell']) (by first | omega | (unfold maxLen; omega) | (simp; done) | (simp; omega) | (simp; unfold maxLen; omega)) (by first | omega | (unfold maxLen; omega) | (simp; done) | (simp; omega) | (simp; unfold maxLen; omega)) (by first | omega | (unfold maxLen; omega) | (simp; done) | (simp; omega) | (simp; unfold maxLen; omega)) ?_; intro v' w5 hown5 hgrow5 _; have hsn5 := own_snoc hown5; obtain ⟨A5, c5, rfl⟩ := hsn5.slice)
                go_roundw
                case rel =>
                  exact ⟨k + 1, A5, c5, m ++ [(x0, x1)], true, by omega, by go_num, Lib.hid (by rw [HSN.out]; rfl), by simp, rfl, ⟨by simp; omega, fun e => by cases e⟩, hsn5, (hbx.out.alloc (by simp; omega) _).grown hgrow5 (by simp; omega) (fun j e => (hrw.lt j e).1)⟩
                case measure => simp [intOf]; omega
            · have hke : l.take k = l := List.take_of_length_le (by omega)
              rw [hke] at HM
              have HA := Lib.hid (laidQ_all (d0, d1) l)
              have HML := Lib.hid hml
              rw [← HM.out] at HA
              have hrw := hrow
              have hsz := hb.size
              have hbr := BR.out.below hb (by have := HS1.out; omega)
              have hbd := BD.out.below hb (by have := HS1.out; omega)
              have hbw := BW.out.below hb (by have := HS1.out; omega)
              obtain ⟨k4, k5, k6, k7⟩ := hbr.two
              obtain ⟨k8, k9, _, _⟩ := hbd.two
              obtain ⟨k10, k11, _, _⟩ := hbw.two
              have HBRr := Lib.hid hbr
              have HBWr := Lib.hid hbw
              have HBr := Lib.hid hb
              have HBT := Lib.hid (HB1.out.trans (hb.mono (by have := HS1.out; omega)))
              have HRWl := Lib.hid (fun j e => (hrw.lt j e).1)
              have hs1 := HS1.out
              clear hbr hbd hbw hb hmf
              rcases b with _ | _
              · have he : m ++ [(d0, d1)] = insQ (d0, d1) l := by simpa using HA.out
                clear HA
                have HE := Lib.hid he; clear he
                go_wp2_with (at_builtin; refine wpList_append_own _ rfl _ _ 29 rfl w1.heap.size 39 i0 (.agg #[.int .i64 0, .int .u64 0]) 2 16 Tryd.underlying29 hi hz0 hz1 hz2 rfl (by decide) _ _ _ rfl (hrw.alloc _) ⟨wr.heap.size, 0, none⟩ 1 1 [.int .i64 d0, .int .u64 d1] rfl rfl (qcells_two _ _ _ _) (by simp [Value.oneCell']) (by first | omega | (unfold maxLen; omega) | (simp; done) | (simp; omega) | (simp; unfold maxLen; omega)) (by first | omega | (unfold maxLen; omega) | (simp; done) | (simp; omega) | (simp; unfold maxLen; omega)) (by first | omega | (unfold maxLen; omega) | (simp; done) | (simp; omega) | (simp; unfold maxLen; omega)) ?_; intro v' w5 hown5 hgrow5 _; have hsn5 := own_snoc hown5; obtain ⟨A5, c5, rfl⟩ := hsn5.slice; have HX5 := Lib.hid ((HBRr.out.alloc (.cells #[.int .i64 d0, .int .u64 d1] 39)).grown hgrow5 (fun e => absurd (HRWl.out _ e) (by omega))); have HW5 := Lib.hid ((HBWr.out.alloc (.cells #[.int .i64 d0, .int .u64 d1] 39)).grown hgrow5 (fun e => absurd (HRWl.out _ e) (by omega))); have HB5 := Lib.hid ((HBr.out.alloc hsz (.cells #[.int .i64 d0, .int .u64 d1] 39)).grown hgrow5 (by simp; omega) (fun j e => (hrw.lt j e).1)); clear k4 k5 k6 k7 k10 k11; obtain ⟨k4, k5, k6, k7⟩ := HX5.out.two; obtain ⟨k10, k11, _, _⟩ := HW5.out.two; have hs5 := HB5.out.size)
                have hbf := below_set2 (HB1.out.trans (HB5.out.mono (by omega))) (show w.heap.size ≤ w.heap.size + 1 + 1 by omega) (.int .i64 t) (.slice A5 (m ++ [(d0, d1)]).length c5)
                obtain ⟨z0, z1, _, _⟩ := (HX5.out.set2 (.int .i64 t) (.slice A5 (m ++ [(d0, d1)]).length c5)).two
                have hof := (hsn5.far (g := w.heap.size + 1 + 1) (i := 0) (by omega) (.int .i64 t)).far (g := w.heap.size + 1 + 1) (i := 1) (by omega) (.slice A5 (m ++ [(d0, d1)]).length c5)
                rw [← HE.out]
                have hlm : (m ++ [(d0, d1)]).length = m.length + 1 := by simp
                obtain ⟨A6, c6, e6, hr6⟩ := hof.row
                injection e6 with q1 q2 q3
                subst q1 q3
                simp only [hlm] at hr6 hbf z0 z1 ⊢
                refine bodyPost_ret (v := .tuple #[.agg #[.int .i64 t, .slice A5 (m.length + 1) c5], .int .i64 0]) (by simp [results, Tryd.results13, go_sem, z0, z1]) rfl ⟨A5, c5, rfl, hr6, hbf, .inr fun b o s e => by have := hof.from_ e; omega⟩
              · have he : m = insQ (d0, d1) l := by simpa using HA.out
                clear HA
                have HE := Lib.hid he; clear he
                go_wp2_with fail
                have hbf := below_set2 HBT.out (show w.heap.size ≤ w.heap.size + 1 + 1 by omega) (.int .i64 t) (.slice A' m.length c')
                obtain ⟨z0, z1, _, _⟩ := (HBRr.out.set2 (.int .i64 t) (.slice A' m.length c')).two
                have hof := (hrw.far (g := w.heap.size + 1 + 1) (i := 0) (by omega) (.int .i64 t)).far (g := w.heap.size + 1 + 1) (i := 1) (by omega) (.slice A' m.length c')
                rw [← HE.out]
                obtain ⟨A6, c6, e6, hr6⟩ := hof.row
                injection e6 with q1 q2 q3
                subst q1 q3
                refine bodyPost_ret (v := .tuple #[.agg #[.int .i64 t, .slice A' m.length c'], .int .i64 0]) (by simp [results, Tryd.results13, go_sem, z0, z1]) rfl ⟨A', c', rfl, hr6, hbf, .inr fun b o s e => by have := hof.from_ e; omega⟩
      · have e : putE t l (d0, d1) = 5 := by unfold putE; rw [if_neg (by simp [h1, h2]), if_pos hh]
        have e2 : putQ t l (d0, d1) = l := by unfold putQ; rw [e]; rfl
        rw [e, e2]
        clear e e2 h1 h2
        go_enter Tryd.func13, Tryd.ntmps13
        go_wp2_with (go_at_call 10; refine (rtime_any d0 _).mono ?_; rintro e w' ⟨rfl, rfl⟩; rw [hd2])
        have hB0 := hB (.cells #[.int .i64 0, .slice none 0 0] 31)
        have bW := ((QBox.new w 31 #[.int .i64 t, .slice A l.length c]).alloc (.cells #[.int .i64 d0, .int .u64 d1] 39)).alloc (.cells #[.int .i64 0, .slice none 0 0] 31)
        have bD := (QBox.new (w.alloc (.cells #[.int .i64 t, .slice A l.length c] 31)) 39 #[.int .i64 d0, .int .u64 d1]).alloc (.cells #[.int .i64 0, .slice none 0 0] 31)
        have bR := QBox.new ((w.alloc (.cells #[.int .i64 t, .slice A l.length c] 31)).alloc (.cells #[.int .i64 d0, .int .u64 d1] 39)) 31 #[.int .i64 0, .slice none 0 0]
        simp only [World.size_alloc] at bD bR
        have hsz : (((w.alloc (.cells #[.int .i64 t, .slice A l.length c] 31)).alloc (.cells #[.int .i64 d0, .int .u64 d1] 39)).alloc (.cells #[.int .i64 0, .slice none 0 0] 31)).heap.size = w.heap.size + 3 := by simp
        generalize hW0 : (((w.alloc (.cells #[.int .i64 t, .slice A l.length c] 31)).alloc (.cells #[.int .i64 d0, .int .u64 d1] 39)).alloc (.cells #[.int .i64 0, .slice none 0 0] 31)) = W0 at *
        refine (rhas_any9 A l.length c l d1 W0 ((hr.below hB0).mono (by omega))).mono ?_; rintro e w1 ⟨rfl, hb1⟩
        rw [hh]
        have BW := Lib.hid (bW.belowAll hb1)
        have BD := Lib.hid (bD.belowAll hb1)
        have BR := Lib.hid (bR.belowAll hb1)
        have HB1 := Lib.hid (hB0.trans (hb1.mono (by omega)))
        have HS1 := Lib.hid (show w.heap.size + 3 ≤ w1.heap.size by have := hb1.size; omega)
        obtain ⟨k0, k1, _, _⟩ := BW.out.two
        obtain ⟨k2, k3, _, _⟩ := BD.out.two
        obtain ⟨k4, k5, k6, k7⟩ := BR.out.two
        have HB0 := Lib.hid hB0
        clear hW0 bW bD bR hb1 hsz hB0 hB
        go_wp2_with fail
        obtain ⟨z0, z1, _, _⟩ := (BR.out.set2 (.int .i64 t) (.slice A l.length c)).two
        refine bodyPost_ret (v := .tuple #[.agg #[.int .i64 t, .slice A l.length c], .int .i64 5]) (by simp [results, Tryd.results13, go_sem, z0, z1]) rfl ⟨A, c, rfl, ?_, below_set2 HB1.out (by omega) _ _, .inl rfl⟩
        exact (HR.out.below (below_set2 HB1.out (by omega) _ _)).mono (by have := HS1.out; simp; omega)
    · have hd2 : decide (timeQ d0) = false := decide_eq_false h2
      have e : putE t l (d0, d1) = 2 := by unfold putE; rw [if_pos (.inr h2)]
      have e2 : putQ t l (d0, d1) = l := by unfold putQ; rw [e]; rfl
      rw [e, e2]
      clear h1 h2 e e2
      go_enter Tryd.func13, Tryd.ntmps13
      go_wp2_with (go_at_call 10; refine (rtime_any d0 _).mono ?_; rintro e w' ⟨rfl, rfl⟩; rw [hd2])
      refine bodyPost_ret (v := .tuple #[.agg #[.int .i64 t, .slice A l.length c], .int .i64 2]) (by simp [results, Tryd.results13, go_sem]) rfl ⟨A, c, rfl, ?_, hB _, .inl rfl⟩
      exact (hr.below (hB _)).mono (by simp; omega)
end Go.Proofs.YtidgiohjgkfjcaaDoor
