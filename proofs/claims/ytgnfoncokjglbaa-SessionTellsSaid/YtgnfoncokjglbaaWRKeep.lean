/- The sessions in which a client has asked that last: walked, of the document. -/
import Derived.Test.YtgnfoncokjglbaaWROf
namespace Go.Proofs.Ytgnfoncokjglbaa
open Go.RowKit

/-- What one client gives. -/
def keepF (l : List SesZ) (x : SesZ) (c : Int) : Option SesZ := if 0 < (if c = x.cl then x else ofD l c).seq then some (if c = x.cl then x else ofD l c) else none
def keepP (l : List SesZ) (x : SesZ) (k : Nat) : List SesZ := (([1, 2, 3] : List Int).take k).filterMap (keepF l x)
theorem keepP_next (l : List SesZ) (x : SesZ) (k : Nat) (hk : k < 3) : keepP l x (k + 1) = keepP l x k ++ (keepF l x ((k : Int) + 1)).toList := by
  rcases (show k = 0 ∨ k = 1 ∨ k = 2 by omega) with rfl | rfl | rfl
  · simp [keepP, List.filterMap_cons]
    cases keepF l x 1 <;> rfl
  · simp [keepP, List.filterMap_cons]
    cases keepF l x 1 <;> cases keepF l x 2 <;> rfl
  · simp [keepP, List.filterMap_cons]
    cases keepF l x 1 <;> cases keepF l x 2 <;> cases keepF l x 3 <;> rfl
theorem keepP_all (l : List SesZ) (x : SesZ) : keepP l x 3 = keepD l x := rfl
theorem keepP_len (l : List SesZ) (x : SesZ) (k : Nat) : (keepP l x k).length ≤ 3 := by
  have h := List.length_filterMap_le (keepF l x) (([1, 2, 3] : List Int).take k)
  have h2 : (([1, 2, 3] : List Int).take k).length ≤ 3 := by rw [List.length_take]; simp; omega
  unfold keepP
  omega
theorem ofD_in {l : List SesZ} {c : Int} : ofD l c ∈ l ∨ ofD l c = bareS c := by
  unfold ofD
  cases h : l.find? (fun x => x.cl == c) with
  | none => exact .inr rfl
  | some y => exact .inl (List.mem_of_find?_eq_some h)
theorem bare_fit {c : Int} (h1 : -9223372036854775808 ≤ c ∧ c ≤ 9223372036854775807) : (bareS c).Fit := ⟨h1, ⟨by show (0 : Int) ≤ 0; decide, by show (0 : Int) ≤ 18446744073709551615; decide⟩, ⟨by show (-9223372036854775808 : Int) ≤ 0; decide, by show (0 : Int) ≤ 9223372036854775807; decide⟩, fun x hx => by cases hx⟩
set_option maxRecDepth 100000 in
set_option maxHeartbeats 8000000 in
theorem rkeep_any (A : Option Addr) (n c : Nat) (ms : List SesM) (x : SesZ) (v : Value) (w : World) (h : SR w A n c ms) (hl : ∀ m ∈ ms, m.1.rep.names.length ≤ 100000) (hv : NR w v x.rep.names) (hx : x.Fit) (hxl : x.rep.names.length ≤ 100000) :
    Calls Try.prog 25 #[.agg #[.slice A n c], sesV x v] w (FewIs w (keepD (ms.map (·.1)) x)) := by
  have HKA := Lib.hid (keepP_all (ms.map (·.1)) x)
  have HKN := Lib.hid (keepP_next (ms.map (·.1)) x)
  have HKL := Lib.hid (keepP_len (ms.map (·.1)) x)
  have HKF : Hid (∀ k, keepF (ms.map (·.1)) x k = if 0 < (if k = x.cl then x else ofD (ms.map (·.1)) k).seq then some (if k = x.cl then x else ofD (ms.map (·.1)) k) else none) := Lib.hid (fun _ => rfl)
  have HFT : Hid (∀ k : Int, -9223372036854775808 ≤ k ∧ k ≤ 9223372036854775807 → (ofD (ms.map (·.1)) k).Fit ∧ (ofD (ms.map (·.1)) k).rep.names.length ≤ 100000) := Lib.hid (fun k hk => by
    rcases ofD_in (l := ms.map (·.1)) (c := k) with h1 | h1
    · obtain ⟨m, hm, e⟩ := List.mem_map.1 h1
      rw [← e]
      exact ⟨(h.ok m hm).1, hl m hm⟩
    · rw [h1]
      exact ⟨bare_fit hk, by show (0 : Nat) ≤ 100000; omega⟩)
  obtain ⟨xc, xq, ⟨xe, xn⟩⟩ := x
  unfold sesV
  simp only at hv hxl HKA HKN HKL HKF ⊢
  obtain ⟨Av, cv, rfl, hv⟩ := hv
  have HXL := Lib.hid hxl
  generalize xn.length = lx at *
  obtain ⟨V0, hV0⟩ : ∃ V0 : World, V0 = (w.alloc (.cells #[.slice A n c] 24)).alloc (.cells #[.int .i64 xc, .int .u64 xq, .int .i64 xe, .slice Av lx cv] 42) := ⟨_, rfl⟩
  obtain ⟨V1, hV1⟩ : ∃ V1 : World, V1 = V0.alloc (.cells #[.slice none 0 0] 24) := ⟨_, rfl⟩
  have hb0 : Below w.heap.size w (V1.alloc (.cells #[.slice none 0 0] 24)) := by rw [hV1, hV0]; exact (((new_below w _).alloc (by simp) _).alloc (by simp; omega) _).alloc (by simp; omega) _
  have hx1 : SBox (V1.alloc (.cells #[.slice none 0 0] 24)) (w.heap.size + 1) 42 #[.int .i64 xc, .int .u64 xq, .int .i64 xe, .slice Av lx cv] := by
    have := SBox.new (w.alloc (.cells #[.slice A n c] 24)) 42 #[.int .i64 xc, .int .u64 xq, .int .i64 xe, .slice Av lx cv]
    rw [World.size_alloc, ← hV0] at this
    rw [hV1]
    exact (this.alloc _).alloc _
  have hx0 : SBox (V1.alloc (.cells #[.slice none 0 0] 24)) w.heap.size 24 #[.slice A n c] := by rw [hV1, hV0]; exact (((SBox.new w _ _).alloc _).alloc _).alloc _
  have hx2 : SBox (V1.alloc (.cells #[.slice none 0 0] 24)) (w.heap.size + 1 + 1) 24 #[.slice none 0 0] := by
    have := SBox.new V0 24 #[.slice none 0 0]
    rw [show V0.heap.size = w.heap.size + 1 + 1 by rw [hV0]; simp, ← hV1] at this
    exact this.alloc _
  have hx3 : SBox (V1.alloc (.cells #[.slice none 0 0] 24)) (w.heap.size + 1 + 1 + 1) 24 #[.slice none 0 0] := by
    have := SBox.new V1 24 #[.slice none 0 0]
    rwa [show V1.heap.size = w.heap.size + 1 + 1 + 1 by rw [hV1, hV0]; simp] at this
  have hsz : (V1.alloc (.cells #[.slice none 0 0] 24)).heap.size = w.heap.size + 4 := by rw [hV1, hV0]; simp
  obtain ⟨W0, hW0⟩ : ∃ W0 : World, W0 = V1.alloc (.cells #[.slice none 0 0] 24) := ⟨_, rfl⟩
  rw [← hW0] at hb0 hx0 hx1 hx2 hx3 hsz
  rw [hV1, hV0] at hW0
  have HB0 := Lib.hid hb0; have HX0 := Lib.hid hx0; have HX1 := Lib.hid hx1; have HX2 := Lib.hid hx2; have HX3 := Lib.hid hx3; have HSZ := Lib.hid hsz
  have HT := Lib.hid h; have HV := Lib.hid hv; have HFX := Lib.hid hx
  have hxcb := hx.1
  clear hb0 hx0 hx1 hx2 hx3 hsz h hl hv hx hxl hV0 hV1
  go_enter Try.func25, Try.ntmps25
  go_wp2_with fail
  rw [← hW0]
  clear hW0
  go_loopw [6] (fun i wr => ∃ (k : Nat) (u : Value) (ms' : List SesM), k ≤ 3 ∧ i = .int .i64 ((k : Int) + 1) ∧ SBox wr (w.heap.size + 1 + 1 + 1) 24 #[u] ∧ OwnS wr (w.heap.size + 4) u ms' ∧ Hid (ms'.map (·.1) = keepP (ms.map (·.1)) ⟨xc, xq, xe, xn⟩ k) ∧ Below (w.heap.size + 1 + 1 + 1) W0 wr ∧ w.heap.size + 4 ≤ wr.heap.size) (fun i _ => 4 - (intOf i).toNat)
  case atStart => exact ⟨0, .slice none 0 0, [], by omega, rfl, HX3.out, .nil _ _, Lib.hid rfl, Below.refl _ _, by have := HSZ.out; omega⟩
  case round =>
    obtain ⟨k, u, ms', hk, rfl, hx3, hown, HMS, hb, hz⟩ := hrel
    have HB := Lib.hid hb; have HX3' := Lib.hid hx3; have HO := Lib.hid hown; have HZ := Lib.hid hz
    have HBw := Lib.hid (HB0.out.trans (hb.mono (by omega)))
    have hc3 := hx3.one
    have hc0 := (HX0.out.below hb (by omega)).one
    obtain ⟨x0, x1, x2, x3⟩ := (HX1.out.below hb (by omega)).four
    have HML : Hid (ms'.length ≤ 3) := Lib.hid (by
      have := congrArg List.length HMS.out
      rw [List.length_map] at this
      have := HKL.out k
      omega)
    clear hx3 hown hb hz
    by_cases hlt : k < 3
    · have hd : decide ((k : Int) + 1 ≤ 3) = true := decide_eq_true (by omega)
      have hwk : wrap64 ((k : Int) + 1 + 1) = (k : Int) + 1 + 1 := by unfold wrap64; omega
      have HOF := Lib.hid (rof_any A n c ((k : Int) + 1) ms wr (HT.out.on HBw.out))
      have HFK := Lib.hid (HFT.out ((k : Int) + 1) (by omega))
      have HNX := Lib.hid (HKN.out k hlt)
      have HKK := Lib.hid (HKF.out ((k : Int) + 1))
      generalize ofD (ms.map (·.1)) ((k : Int) + 1) = Y at *
      obtain ⟨yc, yq, ⟨ye, yn⟩⟩ := Y
      have HFK1 : Hid (SesZ.Fit ⟨yc, yq, ye, yn⟩) := Lib.hid HFK.out.1
      have HFK2 : Hid (yn.length ≤ 100000) := Lib.hid HFK.out.2
      go_wp2_with fail
      refine HOF.out.mono ?_
      rintro y w2 ⟨⟨yv, rfl, hyv⟩, hb2⟩
      unfold sesV
      simp only at hyv ⊢
      obtain ⟨Ay, cy, rfl, hyr⟩ := hyv
      have HYV := Lib.hid hyr
      have HB2 := Lib.hid hb2
      have HYL : Hid (yn.length = yn.length) := Lib.hid rfl
      generalize yn.length = ly at *
      clear hyr hb2 x0 x1 x2 x3 hc0 hc3
      go_upto_region 6 with fail
      have HA2 := Lib.hid (new_below w2 (.cells #[.int .i64 yc, .int .u64 yq, .int .i64 ye, .slice Ay ly cy] 42))
      have hxy : SesAt (w2.alloc (.cells #[.int .i64 yc, .int .u64 yq, .int .i64 ye, .slice Ay ly cy] 42)) w2.heap.size ⟨yc, yq, ye, yn⟩ (.slice Ay ly cy) := SBox.new w2 _ _
      obtain ⟨W3, hW3⟩ : ∃ W3 : World, W3 = w2.alloc (.cells #[.int .i64 yc, .int .u64 yq, .int .i64 ye, .slice Ay ly cy] 42) := ⟨_, rfl⟩
      rw [← hW3] at HA2 hxy ⊢
      clear hW3
      have HG : Hid (wr.heap.size ≤ w2.heap.size) := Lib.hid HB2.out.size
      have HB3 := Lib.hid (HB2.out.trans (HA2.out.mono HB2.out.size))
      have HXY := Lib.hid hxy
      have HNY := Lib.hid (HYV.out.on HA2.out)
      have HZ3 : Hid (w.heap.size + 4 ≤ w2.heap.size) := Lib.hid (Nat.le_trans HZ.out HG.out)
      generalize w2.heap.size = gy at *
      obtain ⟨x0, x1, x2, x3⟩ := (((HX1.out.below HB.out (by omega)).on HB3.out)).four
      by_cases hcx : (k : Int) + 1 = xc
      · have hdx : ((k : Int) + 1 == xc) = true := by simp [hcx]
        have HKX : Hid (keepF (ms.map (·.1)) ⟨xc, xq, xe, xn⟩ ((k : Int) + 1) = if 0 < xq then some ⟨xc, xq, xe, xn⟩ else none) := Lib.hid (by rw [HKK.out, if_pos hcx])
        obtain ⟨W4, hs4, hy4, hbl4, hot4, hsz4⟩ := hxy.store (y := ⟨xc, xq, xe, xn⟩) (u := .slice Av lx cv) (rfl : Value.oneCell' (.slice Av lx cv) = true)
        have HS4 := Lib.hid hs4; have HY4 := Lib.hid hy4
        have HB4 : Hid (Below wr.heap.size wr W4) := Lib.hid (HB3.out.trans (hbl4 _ (by have := HG.out; omega)))
        have HLX : Hid (LoadIs W3 42 (w.heap.size + 1) 0 (sesV ⟨xc, xq, xe, xn⟩ (.slice Av lx cv))) := Lib.hid (SesAt.load (((HX1.out.below HB.out (by omega)).on HB3.out)))
        have HNV4 : Hid (NumR W4 .u32 Av lx cv xn) := Lib.hid (HV.out.on (HBw.out.trans (HB4.out.mono HBw.out.size)))
        unfold sesV at HS4 HLX
        simp only at HS4 HLX
        clear hcx hs4 hy4 hbl4 hot4 hsz4 hxy x2 x3
        by_cases hpos : 0 < xq
        · have hdp : decide (0 < xq) = true := decide_eq_true hpos
          have HKY : Hid (keepF (ms.map (·.1)) ⟨xc, xq, xe, xn⟩ ((k : Int) + 1) = some ⟨xc, xq, xe, xn⟩) := Lib.hid (by rw [HKX.out, if_pos hpos])
          clear hpos
          have HAZ := Lib.hid (new_below W4 (.cells #[] 64))
          have HOE := Lib.hid (made_own W4 W4.heap.size (Nat.le_refl _))
          have HGY : Hid (gy < W4.heap.size) := Lib.hid HY4.out.box.lt
          obtain ⟨z0, z1, z2, z3⟩ := HY4.out.box.four
          obtain ⟨e0, e1, e2, e3⟩ := (HY4.out.on HAZ.out).box.four
          simp only at z0 z1 z2 z3 e0 e1 e2 e3
          go_upto_region 10 with (first | refine list_load rfl _ rfl rfl HLX.out ?_ | refine list_store0 rfl rfl _ _ rfl rfl rfl HS4.out ?_ | (at_builtin; refine list_nums rfl _ _ rfl rfl rfl HOE.out (HNV4.out.on HAZ.out) HAZ.out.size (by have h1 := HNV4.out.len; have h2 := HXL.out; simp; omega) _ (Below.refl _ _) ?_; intro v5 w5 ho5 hb5 _; replace ho5 : OwnN w5 W4.heap.size v5 xn := ho5; obtain ⟨A5, c5, rfl, _⟩ := ho5.nr; have HO5 := Lib.hid ho5; have HB5 := Lib.hid (HAZ.out.trans hb5); clear z0 z1 z2 z3 e0 e1 e2 e3 hb5 ho5; have hy5 := HY4.out.on HB5.out; have hf3 := hy5.box.frozen 3; have HY5 := Lib.hid hy5; obtain ⟨z0, z1, z2, z3⟩ := hy5.box.four; simp only at z0 z1 z2 z3; clear hy5))
          have hz5 := HB5.out.size
          have hgy := HGY.out
          have hgw : wr.heap.size ≤ gy := HG.out
          have hwz := HZ.out
          have hy6 : SesAt (w5.setCell ⟨gy, 3, none⟩ (.slice A5 xn.length c5)) gy ⟨xc, xq, xe, xn⟩ (.slice A5 xn.length c5) := HY5.out.box.set 3 _
          have hn6 : OwnN (w5.setCell ⟨gy, 3, none⟩ (.slice A5 xn.length c5)) (w.heap.size + 4) (.slice A5 xn.length c5) xn := owns_mono (ownsRow_setCell_below HO5.out hgy _) (by omega)
          have hb6 : Below wr.heap.size wr (w5.setCell ⟨gy, 3, none⟩ (.slice A5 xn.length c5)) := (HB4.out.trans (HB5.out.mono HB4.out.size)).setCell (by show wr.heap.size ≤ gy; omega) _
          obtain ⟨W6, hW6⟩ : ∃ W6 : World, W6 = w5.setCell ⟨gy, 3, none⟩ (.slice A5 xn.length c5) := ⟨_, rfl⟩
          rw [← hW6] at hy6 hn6 hb6 ⊢
          clear hW6 z0 z1 z2 z3 hf3
          have HB6 := Lib.hid hb6; have HN6 := Lib.hid hn6
          have hx36 := HX3'.out.on hb6
          have HX36 := Lib.hid hx36; have HO6 := Lib.hid (HO.out.on hb6); have HZ6 := Lib.hid (Nat.le_trans HZ.out hb6.size)
          obtain ⟨z0, z1, z2, z3⟩ := hy6.box.four
          have z4 := hx36.one
          simp only at z0 z1 z2 z3
          have HN7 := Lib.hid (SBox.new W6 42 #[.int .i64 xc, .int .u64 xq, .int .i64 xe, .slice A5 xn.length c5])
          have HA7 := Lib.hid (new_below W6 (.cells #[.int .i64 xc, .int .u64 xq, .int .i64 xe, .slice A5 xn.length c5] 42))
          clear hy6 hn6 hb6 hx36 hz5 hgy hgw hwz
          go_wp2_with (at_builtin; refine list_ses rfl _ _ rfl rfl rfl (HO6.out.on HA7.out) HN7.out HFX.out (owns_on HN6.out HA7.out) (by have := HZ6.out; simp; omega) (by have := HML.out; omega) _ (Below.refl _ _) ?_; intro v8 w8 ho8 hb8 _; obtain ⟨A8, n8, c8, rfl⟩ := ho8.slice; have HO8 := Lib.hid ho8; have HB8 := Lib.hid hb8; have hx8 := (HX36.out.on HA7.out).below hb8 (by omega); have HX8 := Lib.hid hx8; have hf8 := hx8.frozen 0; have hc8 := hx8.one; clear ho8 hb8 hx8 z0 z1 z2 z3 z4)
          go_roundw
          case rel => exact ⟨k + 1, _, _, by omega, by go_num, HX8.out.set 0 _, HO8.out.setLow (by omega) _, Lib.hid (by rw [List.map_append, HMS.out, HNX.out, HKY.out]; rfl), (((HB.out.trans (HB6.out.mono (by have := HZ.out; omega))).trans ((HA7.out.mono (by have := HZ6.out; omega)).trans (HB8.out.mono (by omega)))).setCell (by show w.heap.size + 1 + 1 + 1 ≤ w.heap.size + 1 + 1 + 1; omega) _), by have h1 := HB8.out.size; have h2 := HA7.out.size; have h3 := HZ6.out; simp [World.setCell] at h1 h2 ⊢; omega⟩
          case measure => simp [intOf]; omega
        · have hdp : decide (0 < xq) = false := decide_eq_false hpos
          have HKY : Hid (keepF (ms.map (·.1)) ⟨xc, xq, xe, xn⟩ ((k : Int) + 1) = none) := Lib.hid (by rw [HKX.out, if_neg hpos])
          clear hpos
          obtain ⟨z0, z1, z2, z3⟩ := HY4.out.box.four
          simp only at z0 z1 z2 z3
          go_wp2_with (first | refine list_load rfl _ rfl rfl HLX.out ?_ | refine list_store0 rfl rfl _ _ rfl rfl rfl HS4.out ?_)
          go_roundw
          case rel => exact ⟨k + 1, u, ms', by omega, by go_num, HX3'.out.on HB4.out, HO.out.on HB4.out, Lib.hid (by rw [HMS.out, HNX.out, HKY.out]; simp), HB.out.trans (HB4.out.mono (by have := HZ.out; omega)), Nat.le_trans HZ.out HB4.out.size⟩
          case measure => simp [intOf]; omega
      · have hdx : ((k : Int) + 1 == xc) = false := by simp [hcx]
        have HKX : Hid (keepF (ms.map (·.1)) ⟨xc, xq, xe, xn⟩ ((k : Int) + 1) = if 0 < yq then some ⟨yc, yq, ye, yn⟩ else none) := Lib.hid (by rw [HKK.out, if_neg hcx])
        clear hcx hxy x2 x3
        by_cases hpos : 0 < yq
        · have hdp : decide (0 < yq) = true := decide_eq_true hpos
          have HKY : Hid (keepF (ms.map (·.1)) ⟨xc, xq, xe, xn⟩ ((k : Int) + 1) = some ⟨yc, yq, ye, yn⟩) := Lib.hid (by rw [HKX.out, if_pos hpos])
          clear hpos
          have HAZ := Lib.hid (new_below W3 (.cells #[] 64))
          have HOE := Lib.hid (made_own W3 W3.heap.size (Nat.le_refl _))
          have HGY : Hid (gy < W3.heap.size) := Lib.hid HXY.out.box.lt
          obtain ⟨z0, z1, z2, z3⟩ := HXY.out.box.four
          obtain ⟨e0, e1, e2, e3⟩ := (HXY.out.on HAZ.out).box.four
          simp only at z0 z1 z2 z3 e0 e1 e2 e3
          go_upto_region 10 with ((at_builtin; refine list_nums rfl _ _ rfl rfl rfl HOE.out (HNY.out.on HAZ.out) HAZ.out.size (by have h1 := HNY.out.len; have h2 := HFK2.out; simp; omega) _ (Below.refl _ _) ?_; intro v5 w5 ho5 hb5 _; replace ho5 : OwnN w5 W3.heap.size v5 yn := ho5; obtain ⟨A5, c5, rfl, _⟩ := ho5.nr; have HO5 := Lib.hid ho5; have HB5 := Lib.hid (HAZ.out.trans hb5); clear z0 z1 z2 z3 e0 e1 e2 e3 hb5 ho5; have hy5 := HXY.out.on HB5.out; have hf3 := hy5.box.frozen 3; have HY5 := Lib.hid hy5; obtain ⟨z0, z1, z2, z3⟩ := hy5.box.four; simp only at z0 z1 z2 z3; clear hy5))
          have hz5 := HB5.out.size
          have hgy := HGY.out
          have hgw : wr.heap.size ≤ gy := HG.out
          have hwz := HZ.out
          have hy6 : SesAt (w5.setCell ⟨gy, 3, none⟩ (.slice A5 yn.length c5)) gy ⟨yc, yq, ye, yn⟩ (.slice A5 yn.length c5) := HY5.out.box.set 3 _
          have hn6 : OwnN (w5.setCell ⟨gy, 3, none⟩ (.slice A5 yn.length c5)) (w.heap.size + 4) (.slice A5 yn.length c5) yn := owns_mono (ownsRow_setCell_below HO5.out hgy _) (by omega)
          have hb6 : Below wr.heap.size wr (w5.setCell ⟨gy, 3, none⟩ (.slice A5 yn.length c5)) := (HB3.out.trans (HB5.out.mono HB3.out.size)).setCell (by show wr.heap.size ≤ gy; omega) _
          obtain ⟨W6, hW6⟩ : ∃ W6 : World, W6 = w5.setCell ⟨gy, 3, none⟩ (.slice A5 yn.length c5) := ⟨_, rfl⟩
          rw [← hW6] at hy6 hn6 hb6 ⊢
          clear hW6 z0 z1 z2 z3 hf3
          have HB6 := Lib.hid hb6; have HN6 := Lib.hid hn6
          have hx36 := HX3'.out.on hb6
          have HX36 := Lib.hid hx36; have HO6 := Lib.hid (HO.out.on hb6); have HZ6 := Lib.hid (Nat.le_trans HZ.out hb6.size)
          obtain ⟨z0, z1, z2, z3⟩ := hy6.box.four
          have z4 := hx36.one
          simp only at z0 z1 z2 z3
          have HN7 := Lib.hid (SBox.new W6 42 #[.int .i64 yc, .int .u64 yq, .int .i64 ye, .slice A5 yn.length c5])
          have HA7 := Lib.hid (new_below W6 (.cells #[.int .i64 yc, .int .u64 yq, .int .i64 ye, .slice A5 yn.length c5] 42))
          clear hy6 hn6 hb6 hx36 hz5 hgy hgw hwz
          go_wp2_with (at_builtin; refine list_ses rfl _ _ rfl rfl rfl (HO6.out.on HA7.out) HN7.out HFK1.out (owns_on HN6.out HA7.out) (by have := HZ6.out; simp; omega) (by have := HML.out; omega) _ (Below.refl _ _) ?_; intro v8 w8 ho8 hb8 _; obtain ⟨A8, n8, c8, rfl⟩ := ho8.slice; have HO8 := Lib.hid ho8; have HB8 := Lib.hid hb8; have hx8 := (HX36.out.on HA7.out).below hb8 (by omega); have HX8 := Lib.hid hx8; have hf8 := hx8.frozen 0; have hc8 := hx8.one; clear ho8 hb8 hx8 z0 z1 z2 z3 z4)
          go_roundw
          case rel => exact ⟨k + 1, _, _, by omega, by go_num, HX8.out.set 0 _, HO8.out.setLow (by omega) _, Lib.hid (by rw [List.map_append, HMS.out, HNX.out, HKY.out]; rfl), (((HB.out.trans (HB6.out.mono (by have := HZ.out; omega))).trans ((HA7.out.mono (by have := HZ6.out; omega)).trans (HB8.out.mono (by omega)))).setCell (by show w.heap.size + 1 + 1 + 1 ≤ w.heap.size + 1 + 1 + 1; omega) _), by have h1 := HB8.out.size; have h2 := HA7.out.size; have h3 := HZ6.out; simp [World.setCell] at h1 h2 ⊢; omega⟩
          case measure => simp [intOf]; omega
        · have hdp : decide (0 < yq) = false := decide_eq_false hpos
          have HKY : Hid (keepF (ms.map (·.1)) ⟨xc, xq, xe, xn⟩ ((k : Int) + 1) = none) := Lib.hid (by rw [HKX.out, if_neg hpos])
          clear hpos
          obtain ⟨z0, z1, z2, z3⟩ := HXY.out.box.four
          simp only at z0 z1 z2 z3
          go_wp2_with fail
          go_roundw
          case rel => exact ⟨k + 1, u, ms', by omega, by go_num, HX3'.out.on HB3.out, HO.out.on HB3.out, Lib.hid (by rw [HMS.out, HNX.out, HKY.out]; simp), HB.out.trans (HB3.out.mono (by have := HZ.out; omega)), Nat.le_trans HZ.out HB3.out.size⟩
          case measure => simp [intOf]; omega
    · obtain rfl : k = 3 := by omega
      have hx2' := HX2.out.below HB.out (by omega)
      have hf1 := hx2'.frozen 0
      have hc1 := hx2'.one
      obtain ⟨A5, c5, rfl, _⟩ := HO.out.sr
      have hx9 : SBox (wr.setCell ⟨w.heap.size + 1 + 1, 0, none⟩ (.slice A5 ms'.length c5)) (w.heap.size + 1 + 1) 24 #[.slice A5 ms'.length c5] := hx2'.set 0 _
      have hc9 := hx9.one
      have HO9 := Lib.hid (HO.out.setLow (show w.heap.size + 1 + 1 < w.heap.size + 4 by omega) (i := 0) (.slice A5 ms'.length c5))
      have HB9 := Lib.hid (HBw.out.setCell (p := ⟨w.heap.size + 1 + 1, 0, none⟩) (by show w.heap.size ≤ w.heap.size + 1 + 1; omega) (.slice A5 ms'.length c5))
      generalize hlen : ms'.length = len at *
      have HLEN := Lib.hid hlen
      clear hx9 hx2' hlen x0 x1 x2 x3 hc0
      go_wp2_with fail
      exact bodyPost_ret (v := .agg #[.slice A5 len c5]) (by simp [results, Try.results25, go_sem, hc9]) rfl ⟨⟨A5, c5, ms', by rw [HLEN.out], by rw [HLEN.out]; exact HO9.out.mono (by omega), by rw [HMS.out, HKA.out]⟩, HB9.out⟩
end Go.Proofs.Ytgnfoncokjglbaa
