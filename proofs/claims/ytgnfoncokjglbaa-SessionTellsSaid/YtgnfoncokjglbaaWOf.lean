/- A client's row: walked. -/
import Derived.Test.YtgnfoncokjglbaaWPut
import Derived.Test.YtgnfoncokjglbaaWCheck
namespace Go.Proofs.Ytgnfoncokjglbaa
open Go.RowKit

theorem SBox.set4 {W : World} {g : Nat} {t : TypeId} {a b c d : Value} (h : SBox W g t #[a, b, c, d]) (x y z u : Value) : SBox ((((W.setCell ⟨g, 0, none⟩ x).setCell ⟨g, 1, none⟩ y).setCell ⟨g, 2, none⟩ z).setCell ⟨g, 3, none⟩ u) g t #[x, y, z, u] := (((h.set 0 _).set 1 _).set 2 _).set 3 _
theorem below_set4 {B : Nat} {w W : World} {g : Nat} (h : Below B w W) (hg : B ≤ g) (x y z u : Value) : Below B w ((((W.setCell ⟨g, 0, none⟩ x).setCell ⟨g, 1, none⟩ y).setCell ⟨g, 2, none⟩ z).setCell ⟨g, 3, none⟩ u) := (((h.setCell hg _).setCell hg _).setCell hg _).setCell hg _
theorem owns_set4 {w : World} {base g : Nat} {e : TypeId} {size n : Nat} {v : Value} {xs : List Value} (h : w.ownsRow base e size v n xs) (hg : g < base) (x y z u : Value) : ((((w.setCell ⟨g, 0, none⟩ x).setCell ⟨g, 1, none⟩ y).setCell ⟨g, 2, none⟩ z).setCell ⟨g, 3, none⟩ u).ownsRow base e size v n xs :=
  ownsRow_setCell_below (ownsRow_setCell_below (ownsRow_setCell_below (ownsRow_setCell_below h hg _) hg _) hg _) hg _
theorem own_list (t : Tri) (c : Int) (h1 : 1 ≤ c) (h2 : c ≤ 3) : (t.rows.take (aheadN (c + 1) t.rows)).drop (aheadN c t.rows) = slotR c (t.get c) := by
  obtain ⟨s1, s2, s3⟩ := t
  rcases (show c = 1 ∨ c = 2 ∨ c = 3 by omega) with rfl | rfl | rfl <;> cases s1 <;> cases s2 <;> cases s3 <;> rfl
/-- The row of its own is there, or there is none. -/
theorem own_row {l : List SesZ} {c : Int} (h : MayS l) (h1 : 1 ≤ c) (h2 : c ≤ 3) : (l.take (aheadN (c + 1) l)).drop (aheadN c l) = [] ∧ ofZ l c = bareS c ∨ (l.take (aheadN (c + 1) l)).drop (aheadN c l) = [ofZ l c] := by
  obtain ⟨t, ht, rfl⟩ := tri_of h
  rw [own_list t c h1 h2, ofZ_rows ht h1 h2]
  cases t.get c with
  | none => exact .inl ⟨rfl, rfl⟩
  | some p => exact .inr rfl
theorem ofZ_bad {l : List SesZ} {c : Int} (h : ¬ MayS l) : ofZ l c = zeroS := by
  unfold ofZ
  rw [if_neg (fun hh => h (okS_yes.1 hh.1))]
/-- A row with names of its own memory. -/
def OfIs (w : World) (x : SesZ) (e : Ending) (w' : World) : Prop := (∃ A c, e = .returned (sesV x (.slice A x.rep.names.length c)) ∧ OwnN w' w.heap.size (.slice A x.rep.names.length c) x.rep.names) ∧ Below w.heap.size w w'
theorem ofIs_lit {w w' : World} {x : SesZ} (a b d : Int) (h1 : x.cl = a) (h2 : x.seq = b) (h3 : x.rep = ⟨d, []⟩) (hb : Below w.heap.size w w') : OfIs w x (.returned (.agg #[.int .i64 a, .int .u64 b, .int .i64 d, .slice none 0 0])) w' := by
  obtain ⟨xc, xq, xr⟩ := x
  simp only at h1 h2 h3
  subst h1 h2 h3
  exact ⟨⟨none, 0, rfl, OwnK.nil _ _ _ _⟩, hb⟩
set_option maxRecDepth 100000 in
set_option maxHeartbeats 4000000 in
theorem of_any (A : Option Addr) (n c : Nat) (a : Int) (ms : List SesM) (w : World) (h : SR w A n c ms) (ha : -9223372036854775808 ≤ a ∧ a ≤ 9223372036854775807) :
    Calls Try.prog 20 #[.agg #[.slice A n c], .int .i64 a] w (OfIs w (ofZ (ms.map (·.1)) a)) := by
  have hb0 : Below w.heap.size w ((w.alloc (.cells #[.slice A n c] 24)).alloc (.cells #[.int .i64 0, .int .u64 0, .int .i64 0, .slice none 0 0] 42)) := (new_below w _).alloc (by simp) _
  have hx0 : SBox ((w.alloc (.cells #[.slice A n c] 24)).alloc (.cells #[.int .i64 0, .int .u64 0, .int .i64 0, .slice none 0 0] 42)) w.heap.size 24 #[.slice A n c] := (SBox.new w _ _).alloc _
  have hx1 : SBox ((w.alloc (.cells #[.slice A n c] 24)).alloc (.cells #[.int .i64 0, .int .u64 0, .int .i64 0, .slice none 0 0] 42)) (w.heap.size + 1) 42 #[.int .i64 0, .int .u64 0, .int .i64 0, .slice none 0 0] := by
    have := SBox.new (w.alloc (.cells #[.slice A n c] 24)) 42 #[.int .i64 0, .int .u64 0, .int .i64 0, .slice none 0 0]
    rwa [World.size_alloc] at this
  have hsz : ((w.alloc (.cells #[.slice A n c] 24)).alloc (.cells #[.int .i64 0, .int .u64 0, .int .i64 0, .slice none 0 0] 42)).heap.size = w.heap.size + 2 := by simp
  obtain ⟨W0, hW0⟩ : ∃ W0 : World, W0 = (w.alloc (.cells #[.slice A n c] 24)).alloc (.cells #[.int .i64 0, .int .u64 0, .int .i64 0, .slice none 0 0] 42) := ⟨_, rfl⟩
  rw [← hW0] at hb0 hx0 hx1 hsz
  have HB0 := Lib.hid hb0; have HX0 := Lib.hid hx0; have HX1 := Lib.hid hx1; have HSZ := Lib.hid hsz
  have hc := hx0.one
  have HCK := Lib.hid (check_any A n c ms W0 (h.on hb0))
  have HT := Lib.hid (h.on hb0); have HN := Lib.hid h.len
  have HEN : Hid (¬ MayS (ms.map (·.1)) → sesE (ms.map (·.1)) = 220) := Lib.hid sesE_no
  have HEY : Hid (MayS (ms.map (·.1)) → sesE (ms.map (·.1)) = 0) := Lib.hid sesE_yes
  generalize sesE (ms.map (·.1)) = SE at *
  have HRES : Hid (∀ w5 a1 b1 c1 d1, Below W0.heap.size W0 w5 → SBox ((((w5.setCell ⟨w.heap.size + 1, 0, none⟩ a1).setCell ⟨w.heap.size + 1, 1, none⟩ b1).setCell ⟨w.heap.size + 1, 2, none⟩ c1).setCell ⟨w.heap.size + 1, 3, none⟩ d1) (w.heap.size + 1) 42 #[a1, b1, c1, d1] ∧ Below w.heap.size w ((((w5.setCell ⟨w.heap.size + 1, 0, none⟩ a1).setCell ⟨w.heap.size + 1, 1, none⟩ b1).setCell ⟨w.heap.size + 1, 2, none⟩ c1).setCell ⟨w.heap.size + 1, 3, none⟩ d1)) := Lib.hid (fun w5 a1 b1 c1 d1 hb => ⟨(HX1.out.on hb).set4 _ _ _ _, below_set4 (HB0.out.trans (hb.mono HB0.out.size)) (by omega) _ _ _ _⟩)
  have HA := Lib.hid ha
  clear hb0 hx0 hx1 hsz h ha
  go_enter Try.func20, Try.ntmps20
  go_wp2_with fail
  rw [← hW0]
  clear hW0
  refine HCK.out.mono ?_
  rintro e w1 ⟨rfl, hb1⟩
  have HB1 := Lib.hid hb1
  have hx1 := HX1.out.on hb1
  have hf0 := hx1.frozen 0; have hf1 := hx1.frozen 1; have hf2 := hx1.frozen 2; have hf3 := hx1.frozen 3
  obtain ⟨z0, z1, z2, z3⟩ := hx1.four
  clear hb1 hx1 hc
  by_cases hm : MayS (ms.map (·.1))
  · obtain rfl := HEY.out hm
    have HM := Lib.hid hm
    clear hm HEY HEN
    clear z0 z1 z2 z3 hf0 hf1 hf2 hf3
    go_wp2_with fail
    refine (hold_i64 1 3 _ 1 1 [a] _ (one_new w1 .i64 3 a)).mono ?_
    rintro y w2 ⟨rfl, rfl⟩
    have HB2 := Lib.hid (HB1.out.alloc HB1.out.size (.cells #[.int .i64 a] 3))
    obtain ⟨w2, hw2⟩ : ∃ w2 : World, w2 = w1.alloc (.cells #[.int .i64 a] 3) := ⟨_, rfl⟩
    rw [← hw2] at HB2 ⊢
    clear hw2
    have HH : Hid (holdW 1 3 [a] = decide (1 ≤ a ∧ a ≤ 3)) := Lib.hid hold_one
    generalize holdW 1 3 [a] = HO at *
    cases HO with
    | false =>
      have hx1 := HX1.out.on HB2.out
      have hf0 := hx1.frozen 0; have hf1 := hx1.frozen 1; have hf2 := hx1.frozen 2; have hf3 := hx1.frozen 3
      obtain ⟨z0, z1, z2, z3⟩ := hx1.four
      have HZ : Hid (ofZ (ms.map (·.1)) a = zeroS) := Lib.hid (ofZ_out (fun hh => by have := HH.out; rw [decide_eq_true hh] at this; cases this))
      clear hx1
      go_wp2_with fail
      obtain ⟨r, hb⟩ := HRES.out w2 (.int .i64 0) (.int .u64 0) (.int .i64 0) (.slice none 0 0) HB2.out
      obtain ⟨r0, r1, r2, r3⟩ := r.four
      exact bodyPost_ret (v := .agg #[.int .i64 0, .int .u64 0, .int .i64 0, .slice none 0 0]) (by simp [results, Try.results20, go_sem, r0, r1, r2, r3]) rfl (ofIs_lit 0 0 0 (by rw [HZ.out]; rfl) (by rw [HZ.out]; rfl) (by rw [HZ.out]; rfl) hb)
    | true =>
      have hr := of_decide_eq_true HH.out.symm
      have HCUT := Lib.hid (cut_any A n c a ms w2 (HT.out.on HB2.out) hr.1 (by omega))
      have HOW := Lib.hid (own_row HM.out hr.1 hr.2)
      have hc := (HX0.out.on HB2.out).one
      generalize hp : aheadN a (ms.map (·.1)) = p at *
      generalize he : aheadN (a + 1) (ms.map (·.1)) = e at *
      have HOL : Hid (((ms.take e).drop p).map (·.1) = ((ms.map (·.1)).take e).drop p) := Lib.hid (by rw [List.map_drop, List.map_take])
      clear hr hp he
      go_wp2_with fail
      refine HCUT.out.mono ?_
      rintro y w3 ⟨⟨A1, A2, A3, rfl, s1, s2, s3⟩, hb3⟩
      have HB3 := Lib.hid (HB2.out.trans (hb3.mono HB2.out.size))
      generalize hnb : e - p = nb at *
      have HS2 := Lib.hid s2
      have hx1 := HX1.out.on HB3.out
      have hf0 := hx1.frozen 0; have hf1 := hx1.frozen 1; have hf2 := hx1.frozen 2; have hf3 := hx1.frozen 3
      obtain ⟨z0, z1, z2, z3⟩ := hx1.four
      clear s1 s2 s3 hb3 hc hx1 hnb
      rcases HOW.out with ⟨h1, h2⟩ | h1
      · obtain rfl : nb = 0 := by have h3 := congrArg List.length HOL.out; rw [h1, List.length_map, HS2.out.len] at h3; exact h3
        have HZ := Lib.hid h2
        clear h1 h2 HOW
        go_wp2_with fail
        obtain ⟨r, hb⟩ := HRES.out w3 (.int .i64 a) (.int .u64 0) (.int .i64 0) (.slice none 0 0) HB3.out
        obtain ⟨r0, r1, r2, r3⟩ := r.four
        exact bodyPost_ret (v := .agg #[.int .i64 a, .int .u64 0, .int .i64 0, .slice none 0 0]) (by simp [results, Try.results20, go_sem, r0, r1, r2, r3]) rfl (ofIs_lit a 0 0 (by rw [HZ.out]; rfl) (by rw [HZ.out]; rfl) (by rw [HZ.out]; rfl) hb)
      · obtain rfl : nb = 1 := by have h3 := congrArg List.length HOL.out; rw [h1, List.length_map, HS2.out.len] at h3; exact h3
        obtain ⟨m, hm⟩ : ∃ m, ((ms.take e).drop p)[0]? = some m := ⟨_, List.getElem?_eq_getElem (by have := HS2.out.len; omega)⟩
        have HX : Hid (ofZ (ms.map (·.1)) a = m.1) := Lib.hid (by
          have h4 := HOL.out
          rw [h1] at h4
          have h5 := congrArg (fun l => l[0]?) h4
          simp only [List.getElem?_map, hm] at h5
          simpa using h5.symm)
        have hmem : m.1 ∈ ms.map (·.1) := List.mem_map_of_mem (List.mem_of_mem_take (List.mem_of_mem_drop (List.mem_of_getElem? hm)))
        have hlen := ((HM.out.1 _ hmem).2).2.2.1
        obtain ⟨⟨xc, xq, xe, xn⟩, xv⟩ := m
        simp only at hlen HX
        have hok := HS2.out.ok _ (List.mem_of_getElem? hm)
        obtain ⟨b1, o1, rfl, hj1⟩ := HS2.out.at_ hm
        have HLD := Lib.hid (ses_load HS2.out hm)
        have HAN := Lib.hid (anew_any ⟨xc, xq, xe, xn⟩ xv w3 hok.2 (by simp only; omega))
        unfold sesV at *
        simp only [Nat.zero_mul, Nat.add_zero] at HLD HAN
        clear hm hmem hlen hok hj1 h1 HOW
        go_wp2_with (first | refine list_load rfl _ rfl rfl HLD.out ?_ | (go_at_call 34; refine HAN.out.mono ?_; rintro y w4 ⟨u, rfl, hu, hb4⟩; obtain ⟨Au, cu, rfl, _⟩ := hu.nr; have HU := Lib.hid hu; have HB4 := Lib.hid (HB3.out.trans (hb4.mono HB3.out.size)); have HZ34 := Lib.hid HB3.out.size; clear z0 z1 z2 z3 hf0 hf1 hf2 hf3; have hx1 := HX1.out.on HB4.out; have hf0 := hx1.frozen 0; have hf1 := hx1.frozen 1; have hf2 := hx1.frozen 2; have hf3 := hx1.frozen 3; obtain ⟨z0, z1, z2, z3⟩ := hx1.four; clear hu hb4 hx1))
        obtain ⟨r, hb⟩ := HRES.out w4 (.int .i64 xc) (.int .u64 xq) (.int .i64 xe) (.slice Au xn.length cu) HB4.out
        obtain ⟨r0, r1, r2, r3⟩ := r.four
        exact bodyPost_ret (v := .agg #[.int .i64 xc, .int .u64 xq, .int .i64 xe, .slice Au xn.length cu]) (by simp [results, Try.results20, go_sem, r0, r1, r2, r3]) rfl ⟨⟨Au, cu, by rw [HX.out]; rfl, by rw [HX.out]; exact owns_mono (owns_set4 HU.out (by have := HSZ.out; have := HZ34.out; omega) _ _ _ _) (by have := HSZ.out; have := HZ34.out; omega)⟩, hb⟩
  · obtain rfl := HEN.out hm
    have HZ : Hid (ofZ (ms.map (·.1)) a = zeroS) := Lib.hid (ofZ_bad hm)
    clear hm HEY HEN
    go_wp2_with fail
    obtain ⟨r, hb⟩ := HRES.out w1 (.int .i64 0) (.int .u64 0) (.int .i64 0) (.slice none 0 0) HB1.out
    obtain ⟨r0, r1, r2, r3⟩ := r.four
    exact bodyPost_ret (v := .agg #[.int .i64 0, .int .u64 0, .int .i64 0, .slice none 0 0]) (by simp [results, Try.results20, go_sem, r0, r1, r2, r3]) rfl (ofIs_lit 0 0 0 (by rw [HZ.out]; rfl) (by rw [HZ.out]; rfl) (by rw [HZ.out]; rfl) hb)
end Go.Proofs.Ytgnfoncokjglbaa
