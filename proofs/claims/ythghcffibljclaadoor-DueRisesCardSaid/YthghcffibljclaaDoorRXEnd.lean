/- End: walked. -/
import Derived.Test.YthghcffibljclaaDoorRXStep
namespace Go.Proofs.YthghcffibljclaaDoor
open Go.RowKit

/-- What End comes to. -/
def EndOk (ev : List (BitVec 64) → Bool) (r : RowZ) (num fresh : Int) : Prop := r.Right ev ∧ fresh ≠ 0 ∧ fresh ≠ num
def EndIs (ev : List (BitVec 64) → Bool) (r : RowZ) (num : Int) (ok : Bool) (fresh : Int) (B : Nat) (e : Ending) (w : World) : Prop :=
  (¬ EndOk ev r num fresh ∧ e = .returned (.tuple #[zeroRV, .slice none 0 0, .bool false, .int .i64 230])) ∨
  (EndOk ev r num fresh ∧ (num = 0 ∨ num ≠ r.num) ∧ e = .returned (.tuple #[zeroRV, .slice none 0 0, .bool false, .int .i64 4])) ∨
  (EndOk ev r num fresh ∧ num ≠ 0 ∧ num = r.num ∧ ∃ z y, e = .returned (.tuple #[z, y, .bool (endZ ok fresh r).2.2, .int .i64 0]) ∧ RowTold B (endZ ok fresh r).1 (endZ ok fresh r).2.1 z y w)
theorem results_cell4 {f : Func} {tmps : Array Value} {W : World} {g k m n p : Nat} {t : TypeId} {v u x y : Value} (hr : f.results = #[.cell k t, .tmp m, .tmp n, .tmp p]) (he : tmps[k]?.getD undef = .pointer (some ⟨g, 0, none⟩)) (hm : tmps[m]?.getD undef = u) (hn : tmps[n]?.getD undef = x) (hp : tmps[p]?.getD undef = y) (hl : (loadVar t ⟨g, 0, none⟩).run Tryd.prog W = .ok v W) : (results f tmps).run Tryd.prog W = .ok (.tuple #[v, u, x, y]) W := by
  unfold results
  rw [hr]
  simp [he, hm, hn, hp, asAddr, hl]
theorem endZ_len (ok : Bool) (fresh : Int) (r : RowZ) : (endZ ok fresh r).2.1.length ≤ 1 := by
  by_cases h : ok = false ∧ r.tr < r.j.re
  · rw [end_again h]; simp
  · cases hq : r.q with
    | nil => rw [end_idle h hq]; simp
    | cons t q => rw [end_head h hq]; simp
set_option maxRecDepth 100000 in
set_option maxHeartbeats 4000000 in
theorem dend_any (ev : List (BitVec 64) → Bool) (hev : EvIs ev) (r : RowZ) (v : Value) (num fresh : Int) (ok : Bool) (w : World) (hL : LaidC w) (hf : r.Fit) (hq : QR w v r.q) (hl : r.q.length ≤ 5) (hn : 0 ≤ fresh) :
    Calls Tryd.prog 10 #[rowV r v, .int .u64 num, .bool ok, .int .u64 fresh] w fun e w' => EndIs ev r num ok fresh w.heap.size e w' ∧ Below w.heap.size w w' := by
  have HRV : Hid (rowV r v = .agg (rowC r v).toArray) := Lib.hid rfl
  have hx0 := (D.Box.new w 33 (rowC r v).toArray).alloc (.cells zeroC.toArray 33)
  have hz0 : D.Box ((w.alloc (.cells (rowC r v).toArray 33)).alloc (.cells zeroC.toArray 33)) (w.heap.size + 1) 33 zeroC.toArray := by
    have := D.Box.new (w.alloc (.cells (rowC r v).toArray 33)) 33 zeroC.toArray
    rwa [World.size_alloc] at this
  have hb0 : Below w.heap.size w ((w.alloc (.cells (rowC r v).toArray 33)).alloc (.cells zeroC.toArray 33)) := ((Below.refl _ w).alloc (Nat.le_refl _) _).alloc (by simp) _
  have hs0 : ((w.alloc (.cells (rowC r v).toArray 33)).alloc (.cells zeroC.toArray 33)).heap.size = w.heap.size + 2 := by simp
  obtain ⟨W0, hW0⟩ : ∃ W : World, W = (w.alloc (.cells (rowC r v).toArray 33)).alloc (.cells zeroC.toArray 33) := ⟨_, rfl⟩
  rw [← hW0] at hx0 hz0 hb0 hs0
  have HLR := Lib.hid (row_load hf hx0); have HX0 := Lib.hid hx0; have HZ0 := Lib.hid hz0; have HB0 := Lib.hid hb0; have HS0 := Lib.hid hs0; have HF := Lib.hid hf; have HN := Lib.hid hn; have HQL : Hid (r.q.length ≤ 100) := Lib.hid (by omega); have HQ5 := Lib.hid hl
  have HCK := Lib.hid (checkrow_any ev hev r v W0 (hL.on hb0) hf (hq.on hb0))
  have HQ0 := Lib.hid (hq.on hb0)
  have HBAD : Hid (¬ EndOk ev r num fresh → ∀ w', EndIs ev r num ok fresh w.heap.size (.returned (.tuple #[zeroRV, .slice none 0 0, .bool false, .int .i64 230])) w') := Lib.hid (fun h w' => .inl ⟨h, rfl⟩)
  have HNO : Hid (EndOk ev r num fresh → (num = 0 ∨ num ≠ r.num) → ∀ w', EndIs ev r num ok fresh w.heap.size (.returned (.tuple #[zeroRV, .slice none 0 0, .bool false, .int .i64 4])) w') := Lib.hid (fun h h2 w' => .inr (.inl ⟨h, h2, rfl⟩))
  have HOK : Hid (EndOk ev r num fresh → num ≠ 0 → num = r.num → ∀ z y w', RowTold w.heap.size (endZ ok fresh r).1 (endZ ok fresh r).2.1 z y w' → EndIs ev r num ok fresh w.heap.size (.returned (.tuple #[z, y, .bool (endZ ok fresh r).2.2, .int .i64 0])) w') := Lib.hid (fun h h1 h2 z y w' h3 => .inr (.inr ⟨h, h1, h2, z, y, rfl, h3⟩))
  have HEXIT : Hid (∀ W, Below W0.heap.size W0 W → ∃ W', StoreIs W 33 (w.heap.size + 1) 0 zeroRV W' ∧ (loadVar 33 ⟨w.heap.size + 1, 0, none⟩).run Tryd.prog W' = .ok zeroRV W' ∧ Below w.heap.size w W') := Lib.hid (fun W hb => by
    obtain ⟨W', h1, h2, h3⟩ := row_put (D.Box.belowAll HZ0.out hb) rfl zeroR_fit (v := .slice none 0 0) rfl
    exact ⟨W', h1, h2, by rw [h3]; exact below_setRow (HB0.out.trans (hb.mono HB0.out.size)) (Nat.le_succ _) _⟩)
  have HZRV : Hid (zeroRV = .agg zeroC.toArray) := Lib.hid rfl
  have HSO : Hid (EndOk ev r num fresh ↔ (r.Right ev ∧ fresh ≠ 0 ∧ fresh ≠ num)) := Lib.hid Iff.rfl
  rw [HRV.out]
  rw [HRV.out] at HLR HCK
  generalize EndIs ev r num ok fresh w.heap.size = SI at *
  clear hx0 hz0 hb0 hs0 hf hq hL hev hn hl
  go_enter Tryd.func10, Tryd.ntmps10
  go_upto_region 1 with fail
  rw [← hW0]
  clear hW0
  go_wp2_with (refine list_load rfl _ rfl rfl HLR.out ?_)
  refine HCK.out.mono ?_
  rintro e w1 ⟨hck, hb⟩
  have HB1 := Lib.hid hb
  clear hb HCK
  rcases hck with ⟨hp, rfl⟩ | ⟨hp, rfl⟩
  case inr =>
    have HR := Lib.hid (HBAD.out (fun h => hp (HSO.out.1 h).1))
    obtain ⟨W', hs, hl, hb'⟩ := HEXIT.out _ HB1.out
    have HS := Lib.hid hs; have HL := Lib.hid hl; have HB' := Lib.hid hb'
    rw [HZRV.out] at HS HL HR
    clear hp HBAD HOK HNO HLR hs hl hb'
    go_wp2_with (refine list_store rfl _ _ rfl rfl rfl HS.out ?_)
    exact bodyPost_ret (v := .tuple #[.agg zeroC.toArray, .slice none 0 0, .bool false, .int .i64 230]) (results_cell4 Tryd.results10 (by rfl) (by rfl) (by rfl) (by rfl) HL.out) rfl ⟨HR.out _, HB'.out⟩
  have HP := Lib.hid hp
  have c13 := (cellsF_of HF.out (row_range (D.Box.belowAll HX0.out HB1.out))).num
  rw [Nat.zero_add] at c13
  clear hp
  by_cases h0 : fresh = 0
  · have HR := Lib.hid (HBAD.out (fun h => (HSO.out.1 h).2.1 h0))
    have q0 : (fresh == 0) = true := by simpa using h0
    obtain ⟨W', hs, hl, hb'⟩ := HEXIT.out _ HB1.out
    have HS := Lib.hid hs; have HL := Lib.hid hl; have HB' := Lib.hid hb'
    rw [HZRV.out] at HS HL HR
    clear h0 HBAD HOK HNO HLR hs hl hb'
    go_wp2_with (refine list_store rfl _ _ rfl rfl rfl HS.out ?_)
    exact bodyPost_ret (v := .tuple #[.agg zeroC.toArray, .slice none 0 0, .bool false, .int .i64 230]) (results_cell4 Tryd.results10 (by rfl) (by rfl) (by rfl) (by rfl) HL.out) rfl ⟨HR.out _, HB'.out⟩
  have q0 : (fresh == 0) = false := by simpa using h0
  by_cases h1 : fresh = num
  · have HR := Lib.hid (HBAD.out (fun h => (HSO.out.1 h).2.2 h1))
    have q1 : (fresh == num) = true := by simpa using h1
    obtain ⟨W', hs, hl, hb'⟩ := HEXIT.out _ HB1.out
    have HS := Lib.hid hs; have HL := Lib.hid hl; have HB' := Lib.hid hb'
    rw [HZRV.out] at HS HL HR
    clear h0 h1 HBAD HOK HNO HLR hs hl hb'
    go_wp2_with (refine list_store rfl _ _ rfl rfl rfl HS.out ?_)
    exact bodyPost_ret (v := .tuple #[.agg zeroC.toArray, .slice none 0 0, .bool false, .int .i64 230]) (results_cell4 Tryd.results10 (by rfl) (by rfl) (by rfl) (by rfl) HL.out) rfl ⟨HR.out _, HB'.out⟩
  have q1 : (fresh == num) = false := by simpa using h1
  have HEO := Lib.hid (HSO.out.2 ⟨HP.out, h0, h1⟩)
  by_cases h2 : num = 0
  · have HR := Lib.hid (HNO.out HEO.out (.inl h2))
    have q2 : (num == 0) = true := by simpa using h2
    obtain ⟨W', hs, hl, hb'⟩ := HEXIT.out _ HB1.out
    have HS := Lib.hid hs; have HL := Lib.hid hl; have HB' := Lib.hid hb'
    rw [HZRV.out] at HS HL HR
    clear h0 h1 h2 HBAD HOK HNO HLR hs hl hb'
    go_wp2_with (refine list_store rfl _ _ rfl rfl rfl HS.out ?_)
    exact bodyPost_ret (v := .tuple #[.agg zeroC.toArray, .slice none 0 0, .bool false, .int .i64 4]) (results_cell4 Tryd.results10 (by rfl) (by rfl) (by rfl) (by rfl) HL.out) rfl ⟨HR.out _, HB'.out⟩
  have q2 : (num == 0) = false := by simpa using h2
  by_cases h3 : num = r.num
  case neg =>
    have HR := Lib.hid (HNO.out HEO.out (.inr h3))
    have q3 : (num != r.num) = true := by simpa using h3
    obtain ⟨W', hs, hl, hb'⟩ := HEXIT.out _ HB1.out
    have HS := Lib.hid hs; have HL := Lib.hid hl; have HB' := Lib.hid hb'
    rw [HZRV.out] at HS HL HR
    clear h0 h1 h2 h3 HBAD HOK HNO HLR hs hl hb'
    go_wp2_with (refine list_store rfl _ _ rfl rfl rfl HS.out ?_)
    exact bodyPost_ret (v := .tuple #[.agg zeroC.toArray, .slice none 0 0, .bool false, .int .i64 4]) (results_cell4 Tryd.results10 (by rfl) (by rfl) (by rfl) (by rfl) HL.out) rfl ⟨HR.out _, HB'.out⟩
  have q3 : (num != r.num) = false := by simpa using h3
  have HR := Lib.hid (HOK.out HEO.out h2 h3)
  clear h0 h1 HBAD HOK HNO HEXIT HSO HLR
  have HLR1 := Lib.hid (row_load HF.out (D.Box.belowAll HX0.out HB1.out))
  rw [HRV.out] at HLR1
  have HBE := Lib.hid (begin_any r v w1 HF.out (HQ0.out.on HB1.out) HQL.out)
  rw [HRV.out] at HBE
  go_wp2_with (refine list_load rfl _ rfl rfl HLR1.out ?_)
  refine HBE.out.mono ?_
  rintro e w3 ⟨⟨vq, rfl, hoq⟩, hb⟩
  have HB3 := Lib.hid (HB1.out.trans (hb.mono HB1.out.size)); have HOQ := Lib.hid hoq
  have hbs := hb.size; have hbw := hb
  clear hoq hb HBE HLR1
  unfold courseV
  obtain ⟨W4, hs4, hc4, hb4⟩ := course_var w3 r vq HF.out (qr_one' HOQ.out.qr)
  have HS4 := Lib.hid hs4; have HC4 := Lib.hid hc4; have HB4 := Lib.hid (HB3.out.trans (hb4.mono HB3.out.size))
  have HO4 : Hid (OwnT W4 w1.heap.size vq r.q) := Lib.hid (own_below HOQ.out hb4)
  have HVG : Hid (vq.ownBlock ≠ some w3.heap.size) := Lib.hid (fun e => by have := (World.ownsRow.lt HOQ.out _ e).2; omega)
  have HAN := Lib.hid (answer_any w3.heap.size w1.heap.size r vq ok fresh W4 hc4 HO4.out HVG.out hbs HN.out HP.out.tr0 (by have h1 := HP.out.tr1; have h2 := (hold_iff.1 (err_ok HP.out.job).1).2.2.2.2; omega) HQ5.out)
  have HLT3 : Hid (w1.heap.size ≤ w3.heap.size) := Lib.hid hbs
  have HB14 : Hid (Below w1.heap.size w1 W4) := Lib.hid (hbw.trans (hb4.mono hbs))
  have HEL := Lib.hid (endZ_len ok fresh r)
  clear hs4 hc4 hb4 HOQ HB3 hbs hbw
  go_wp2_with (first | refine list_store rfl _ _ rfl rfl rfl HS4.out ?_)
  generalize w3.heap.size = g at *
  refine HAN.out.mono ?_
  rintro e w5 ⟨rfl, v5, hat2, hown2, hoff, hb⟩
  have HBX : Hid (Below w1.heap.size w1 w5) := Lib.hid (HB14.out.trans hb)
  have HR2 : Hid (∀ w', SliT w' w1.heap.size v5 (endZ ok fresh r).1.q → LasR w' (.slice (some ⟨g, 17, none⟩) (endZ ok fresh r).2.1.length (endZ ok fresh r).2.1.length) (endZ ok fresh r).2.1 → SI (.returned (.tuple #[.agg (rowC (endZ ok fresh r).1 v5).toArray, .slice (some ⟨g, 17, none⟩) (endZ ok fresh r).2.1.length (endZ ok fresh r).2.1.length, .bool (endZ ok fresh r).2.2, .int .i64 0])) w') := Lib.hid (fun w' h1 h2 => HR.out _ _ w' ⟨⟨v5, rfl, h1.low (Nat.le_trans HB0.out.size HB1.out.size)⟩, h2, fun b e => by simp [Value.ownBlock] at e; rw [← e]; exact Nat.le_trans (Nat.le_trans HB0.out.size HB1.out.size) HLT3.out⟩)
  have HBW : Hid (Below w.heap.size w w5) := Lib.hid (HB0.out.trans ((HB1.out.trans (HBX.out.mono HB1.out.size)).mono HB0.out.size))
  have hz2 : D.Box w5 (w.heap.size + 1) 33 zeroC.toArray := (D.Box.belowAll HZ0.out (HB1.out.trans (HBX.out.mono HB1.out.size)))
  have hpb : w.heap.size + 1 < w1.heap.size := by have := HS0.out; have := HB1.out.size; omega
  have hpg : w.heap.size + 1 ≠ g := by have := HLT3.out; omega
  have HPUT := Lib.hid (fun W1 hb => row_result (w0 := w) (W1 := W1) hz2 hat2 hown2 HEL.out hpb hpg (Nat.le_succ _) HBW.out hb)
  have HLCH := Lib.hid (fun W1 (hb : Below w5.heap.size w5 W1) => launches_any g _ _ _ W1 (hat2.on hb) HEL.out)
  obtain ⟨dr, hdr1, hdr2⟩ := und_row
  have hdr3 : (Tryd.prog.info? 33).map (·.size) = some (rowC (endZ ok fresh r).1 v5).length := by rw [size_row, rowC_len hat2.1]
  have HK := Lib.hid (fun W1 (hb : Below w5.heap.size w5 W1) => course_range (hat2.on hb))
  generalize hCR : rowC (endZ ok fresh r).1 v5 = CR at *
  generalize hNO : (endZ ok fresh r).2.1.length = NO at *
  generalize (endZ ok fresh r).2.2 = GO at *
  clear hat2 hown2 hoff hb hz2 hpb hpg HAN HC4 HO4 HVG HS4
  go_wp2_with fail
  have hBE := Below.refl w5.heap.size w5
  refine wp_region_held_drew (S := (fun w' => w'.rangeAt g 0 CR)) (by kernel_rfl) (HK.out _ hBE.drew) (fun hHeld => ?_)
  replace hBE := hBE.drew
  refine wpAnyH_take (i := 0) (oi := { dst := some 38, op := Op.fieldAddr 68 (Operand.tmp 12) 0, type := 0, pos := "due.go:57", after := #[], guard := none }) (v := ?zv0) rfl (by kernel_rfl) (by kernel_rfl) (by kernel_rfl) (fun _ _ _ h => h) (Or.inl ⟨by rfl, ?zh0⟩) (by assumption) ?zr0
  case zh0 => (intro w hSw; (try dsimp only at hSw); go_simp; (try with_reducible rfl))
  try simp only [Act.put, List.setIfInBounds_toArray, List.set_cons_zero, List.set_cons_succ]
  refine wpAnyH_take (i := 3) (oi := { dst := some 41, op := Op.move (Operand.tmp 13), type := 4, pos := "due.go:57", after := #[{ on := 5, ground := Ground.gcOnly Departure.lateStores }], guard := none }) (v := ?zv1) rfl (by kernel_rfl) (by kernel_rfl) (by kernel_rfl) (fun _ _ _ h => h) (Or.inl ⟨by rfl, ?zh1⟩) (by assumption) ?zr1
  case zh1 => (intro w hSw; (try dsimp only at hSw); go_simp; (try with_reducible rfl))
  try simp only [Act.put, List.setIfInBounds_toArray, List.set_cons_zero, List.set_cons_succ]
  refine wpAnyH_take (i := 1) (oi := { dst := some 39, op := Op.load 33 (Operand.tmp 38), type := 33, pos := "due.go:57", after := #[{ on := 0, ground := Ground.data }], guard := none }) (v := .agg CR.toArray) rfl (by kernel_rfl) (by kernel_rfl) (by kernel_rfl) (fun _ _ _ h => h) (yieldsIf_load_mid (by rfl) _ _ rfl _ _ rfl CR dr (fun _ hw => hw) hdr1 hdr2 hdr3) (by assumption) ?_
  try simp only [Act.put, List.setIfInBounds_toArray, List.set_cons_zero, List.set_cons_succ]
  refine wpAnyH_ready (rs := [2]) (by kernel_rfl) (by simp) (AllReadyH.cons (o := { dst := some 40, op := Op.call { callee := Callee.value (Operand.func 23), args := #[Operand.tmp 12], argTypes := #[68] }, type := 39, pos := "due.go:57", after := #[], guard := none }) rfl (fun K hK => ?_) (AllReadyH.nil))
  go_simp
  refine (HLCH.out _ hBE).mono ?_
  rintro e w8 ⟨rfl, hb⟩
  replace hBE := hBE.trans (hb.mono hBE.size)
  clear hb
  refine hK.out _ _ (HK.out _ hBE) (fun hHeld2 => ?_)
  clear hK K hHeld
  have hHeld := hHeld2
  clear hHeld2
  try simp only [Act.put, List.setIfInBounds_toArray, List.set_cons_zero, List.set_cons_succ]
  refine wpAnyH_ready (rs := [4]) (by kernel_rfl) (by simp) (AllReadyH.cons (o := { dst := none, op := Op.store 33 (Operand.tmp 8) (Operand.tmp 39), type := 0, pos := "due.go:57", after := #[{ on := 1, ground := Ground.data }, { on := 2, ground := Ground.chain }, { on := 0, ground := Ground.phase }, { on := 1, ground := Ground.phase }, { on := 2, ground := Ground.textOnly Departure.lateStoresUnsure }, { on := 3, ground := Ground.textOnly Departure.lateStores }], guard := none }) rfl (fun K hK => ?_) (AllReadyH.nil))
  obtain ⟨W9, hs9, hl9, hb9, ho9, hla9, hS9⟩ := HPUT.out _ hBE
  refine wp_store_is _ _ rfl rfl rfl hs9 ?_
  refine hK.out _ _ hS9 (fun hHeld2 => ?_)
  clear hK K hHeld
  have hHeld := hHeld2
  clear hHeld2 hS9
  try simp only [Act.put]
  refine wpAnyH_take (i := 5) (oi := { dst := some 9, op := Op.assign (Operand.tmp 40), type := 39, pos := "due.go:57", after := #[{ on := 2, ground := Ground.data }, { on := 4, ground := Ground.chain }, { on := 0, ground := Ground.phase }, { on := 1, ground := Ground.phase }, { on := 2, ground := Ground.phase }, { on := 3, ground := Ground.textOnly Departure.lateStores }, { on := 4, ground := Ground.phase }], guard := none }) (v := ?zv2) rfl (by kernel_rfl) (by kernel_rfl) (by kernel_rfl) (fun _ _ _ h => h) (Or.inl ⟨by rfl, ?zh2⟩) (by assumption) ?zr2
  case zh2 => (intro w hSw; (try dsimp only at hSw); go_simp; (try with_reducible rfl))
  try simp only [Act.put, List.setIfInBounds_toArray, List.set_cons_zero, List.set_cons_succ]
  refine wpAnyH_take (i := 6) (oi := { dst := some 10, op := Op.assign (Operand.tmp 41), type := 4, pos := "due.go:57", after := #[{ on := 3, ground := Ground.data }, { on := 5, ground := Ground.chain }, { on := 0, ground := Ground.phase }, { on := 1, ground := Ground.phase }, { on := 2, ground := Ground.phase }, { on := 3, ground := Ground.phase }, { on := 4, ground := Ground.phase }, { on := 5, ground := Ground.phase }], guard := none }) (v := ?zv3) rfl (by kernel_rfl) (by kernel_rfl) (by kernel_rfl) (fun _ _ _ h => h) (Or.inl ⟨by rfl, ?zh3⟩) (by assumption) ?zr3
  case zh3 => (intro w hSw; (try dsimp only at hSw); go_simp; (try with_reducible rfl))
  try simp only [Act.put, List.setIfInBounds_toArray, List.set_cons_zero, List.set_cons_succ]
  refine wpAnyH_take (i := 7) (oi := { dst := some 11, op := Op.assign (Operand.const (Value.int IntKind.i64 0)), type := 37, pos := "due.go:57", after := #[{ on := 6, ground := Ground.chain }, { on := 0, ground := Ground.phase }, { on := 1, ground := Ground.phase }, { on := 2, ground := Ground.phase }, { on := 3, ground := Ground.phase }, { on := 4, ground := Ground.phase }, { on := 5, ground := Ground.phase }, { on := 6, ground := Ground.phase }], guard := none }) (v := ?zv4) rfl (by kernel_rfl) (by kernel_rfl) (by kernel_rfl) (fun _ _ _ h => h) (Or.inl ⟨by rfl, ?zh4⟩) (by assumption) ?zr4
  case zh4 => (intro w hSw; (try dsimp only at hSw); go_simp; (try with_reducible rfl))
  try simp only [Act.put, List.setIfInBounds_toArray, List.set_cons_zero, List.set_cons_succ]
  refine wpAnyH_done (by kernel_rfl) ?_ _
  clear hHeld
  go_wp2_with fail
  exact bodyPost_ret (v := .tuple #[.agg CR.toArray, .slice (some ⟨g, 17, none⟩) NO NO, .bool GO, .int .i64 0]) (results_cell4 Tryd.results10 (by rfl) (by rfl) (by rfl) (by rfl) hl9) rfl ⟨HR2.out _ ho9 hla9, hb9⟩
end Go.Proofs.YthghcffibljclaaDoor
