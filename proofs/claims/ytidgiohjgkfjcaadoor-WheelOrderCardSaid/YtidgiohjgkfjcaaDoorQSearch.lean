/- slices.BinarySearchFunc by the order of dues: walked. -/
import Derived.Test.YtidgiohjgkfjcaaDoorQOrder
namespace Go.Proofs.YtidgiohjgkfjcaaDoor
open Go.RowKit

set_option maxRecDepth 100000 in
set_option maxHeartbeats 1000000 in
theorem search_any (A : Option Addr) (n c k : Nat) (l : List (Int × Int)) (d : Int × Int) (w : World) (hr : DuesR w w.heap.size A n c l) (hk : k ≤ n) (h64 : n ≤ 100)
    (hlo : ∀ x ∈ l.take k, befQ x d = true) (hhi : ∀ x ∈ l.drop k, befQ x d = false) :
    Calls Tryd.prog 43 #[.slice A n c, dueV d, .func (.func 44) #[] #[]] w fun e w' => (∃ b, e = .returned (.tuple #[.int .i64 k, .bool b])) ∧ Below w.heap.size w w' := by
  have hcap := hr.cap
  have htop := hr.top
  have hlen := hr.len
  unfold maxLen at htop
  have HLO := Lib.hid (fun (i : Nat) (x : Int × Int) (h : l[i]? = some x) (hi : i < k) => hlo x (List.mem_of_getElem? (i := i) (by rw [List.getElem?_take, if_pos hi]; exact h)))
  have HHI := Lib.hid (fun (i : Nat) (x : Int × Int) (h : l[i]? = some x) (hi : k ≤ i) => hhi x (List.mem_of_getElem? (i := i - k) (by rw [List.getElem?_drop, Nat.add_sub_cancel' hi]; exact h)))
  clear hlo hhi
  obtain ⟨d0, d1⟩ := d
  unfold dueV
  obtain ⟨W, hW⟩ : ∃ W, W = w.alloc (.cells #[.int .i64 d0, .int .u64 d1] 39) := ⟨_, rfl⟩
  have hB : Below w.heap.size w W := by rw [hW]; exact (Below.refl _ _).alloc (Nat.le_refl _) _
  have bD : QBox W w.heap.size 39 #[.int .i64 d0, .int .u64 d1] := by rw [hW]; exact QBox.new _ _ _
  have hsz : W.heap.size = w.heap.size + 1 := by rw [hW]; simp
  have HR := Lib.hid (hr.below hB); have HB := Lib.hid hB; have HD := Lib.hid bD; have HSZ := Lib.hid hsz; have HLEN := Lib.hid hlen
  go_enter Tryd.func43, Tryd.ntmps43
  go_wp2_with fail
  rw [← hW]
  clear hr hW hB bD hsz hlen
  go_loopw [9, 10] (fun iv jv wr => ∃ a b : Nat, a ≤ k ∧ k ≤ b ∧ b ≤ n ∧ iv = .int .i64 a ∧ jv = .int .i64 b ∧ Below W.heap.size W wr) (fun iv jv _ => (intOf jv).toNat - (intOf iv).toNat)
  case atStart => exact ⟨0, n, by omega, hk, Nat.le_refl _, rfl, rfl, Below.refl _ _⟩
  case round =>
    obtain ⟨a, b, ha, hb, hbn, rfl, rfl, hx⟩ := hrel
    by_cases hlt : a < b
    · have hab : a ≤ (a + b) / 2 := by omega
      have hab2 : (a + b) / 2 < b := by omega
      obtain ⟨m, hm⟩ : ∃ m, m = (a + b) / 2 := ⟨_, rfl⟩
      have hmi : ((a : Int) + (b : Int)) / 2 = (m : Int) := by omega
      rw [← hm] at hab hab2
      have hml : m < l.length := by rw [HLEN.out]; omega
      obtain ⟨y, hy⟩ : ∃ y, l[m]? = some y := ⟨_, List.getElem?_eq_getElem hml⟩
      obtain ⟨b1, o1, rfl, hlb, c1, c2⟩ := (HR.out.below (hx.mono (by have := HSZ.out; omega))).at_ m y hy
      obtain ⟨y0, y1⟩ := y
      have HX := Lib.hid hx
      have HY := Lib.hid (fun h => HLO.out m _ hy h); have HZ := Lib.hid (fun h => HHI.out m _ hy h)
      have HOR := Lib.hid (fun (Z : World) => order_any (y0, y1) (d0, d1) Z)
      unfold dueV at HOR
      obtain ⟨e0, e1, _, _⟩ := (HD.out.belowAll hx).two
      have hn0 : ((m : Int) : Int) < (n : Int) := by omega
      clear hx hy hm
      go_wp2_with fail
      have hBE := Below.refl wr.heap.size wr
      obtain ⟨o, ho⟩ : ∃ o, o = ordQ (y0, y1) (d0, d1) := ⟨_, rfl⟩
      have hlb2 : b1 < wr.heap.size := by have := HX.out.size; have := HSZ.out; omega
      have hlb3 : w.heap.size < wr.heap.size := by have := HX.out.size; have := HSZ.out; omega
      have HS := Lib.hid (fun (W' : World) (hW : Below wr.heap.size wr W') => (⟨⟨((qbelow_cell hW).1 b1 (o1 + m * 2) hlb2).trans c1, ((qbelow_cell hW).1 b1 (o1 + m * 2 + 1) hlb2).trans c2, ((qbelow_cell hW).1 w.heap.size 0 hlb3).trans e0, ((qbelow_cell hW).1 w.heap.size 1 hlb3).trans e1⟩⟩ : PLift (W'.cell? ⟨b1, o1 + m * 2, none⟩ = some (.int .i64 y0) ∧ W'.cell? ⟨b1, o1 + m * 2 + 1, none⟩ = some (.int .u64 y1) ∧ W'.cell? ⟨w.heap.size, 0, none⟩ = some (.int .i64 d0) ∧ W'.cell? ⟨w.heap.size, 1, none⟩ = some (.int .u64 d1))).down)
      have hd : decide (o < 0) = decide (m < k) := by
        rw [ho, ordQ_neg]
        rcases Nat.lt_or_ge m k with h | h
        · rw [HY.out h]; simp [h]
        · rw [HZ.out h]; simp; omega
      rw [← ho] at HOR
      clear ho HY HZ
      go_region_held3 (fun W' => W'.cell? ⟨b1, o1 + m * 2, none⟩ = some (.int .i64 y0) ∧ W'.cell? ⟨b1, o1 + m * 2 + 1, none⟩ = some (.int .u64 y1) ∧ W'.cell? ⟨w.heap.size, 0, none⟩ = some (.int .i64 d0) ∧ W'.cell? ⟨w.heap.size, 1, none⟩ = some (.int .u64 d1)) (first | exact HS.out _ hBE | exact HS.out _ hBE.drew) ((go_at_call 44; (with_reducible refine (HOR.out _).mono ?_); rintro e w' ⟨rfl, hb2⟩; replace hBE := hBE.drew.trans hb2))
      have HBE := Lib.hid (HX.out.trans (hBE.mono HX.out.size))
      rename_i hheld
      clear c1 c2 e0 e1 HS hBE hb2 hheld
      rcases Nat.lt_or_ge m k with h | h
      · have hd2 : decide (o < 0) = true := by rw [hd]; exact decide_eq_true h
        clear hd
        go_wp2_with fail
        go_roundw
        case rel => exact ⟨m + 1, b, by omega, hb, hbn, by go_num, rfl, HBE.out⟩
        case measure => simp [intOf]; omega
      · have hd2 : decide (o < 0) = false := by rw [hd]; exact decide_eq_false (by omega)
        clear hd
        go_wp2_with fail
        go_roundw
        case rel => exact ⟨a, m, ha, h, by omega, rfl, by go_num, HBE.out⟩
        case measure => simp [intOf]; omega
    · have e1 : a = k := by omega
      have e2 : a = b := by omega
      subst e1 e2
      have HX := Lib.hid hx
      clear hx
      by_cases han : a < n
      · have hdn : decide ((a : Int) < (n : Int)) = true := by simp; omega
        obtain ⟨y, hy⟩ : ∃ y, l[a]? = some y := ⟨_, List.getElem?_eq_getElem (by rw [HLEN.out]; exact han)⟩
        obtain ⟨b1, o1, rfl, hlb, c1, c2⟩ := (HR.out.below (HX.out.mono (by have := HSZ.out; omega))).at_ a y hy
        obtain ⟨y0, y1⟩ := y
        have HOR := Lib.hid (fun (Z : World) => order_any (y0, y1) (d0, d1) Z)
        unfold dueV at HOR
        obtain ⟨e0, e1, _, _⟩ := (HD.out.belowAll HX.out).two
        have hBE := Below.refl wr.heap.size wr
        have hlb2 : b1 < wr.heap.size := by have := HX.out.size; have := HSZ.out; omega
        have hlb3 : w.heap.size < wr.heap.size := by have := HX.out.size; have := HSZ.out; omega
        have HS := Lib.hid (fun (W' : World) (hW : Below wr.heap.size wr W') => (⟨⟨((qbelow_cell hW).1 b1 (o1 + a * 2) hlb2).trans c1, ((qbelow_cell hW).1 b1 (o1 + a * 2 + 1) hlb2).trans c2, ((qbelow_cell hW).1 w.heap.size 0 hlb3).trans e0, ((qbelow_cell hW).1 w.heap.size 1 hlb3).trans e1⟩⟩ : PLift (W'.cell? ⟨b1, o1 + a * 2, none⟩ = some (.int .i64 y0) ∧ W'.cell? ⟨b1, o1 + a * 2 + 1, none⟩ = some (.int .u64 y1) ∧ W'.cell? ⟨w.heap.size, 0, none⟩ = some (.int .i64 d0) ∧ W'.cell? ⟨w.heap.size, 1, none⟩ = some (.int .u64 d1))).down)
        clear hy
        go_wp2_with fail
        go_region_held3 (fun W' => W'.cell? ⟨b1, o1 + a * 2, none⟩ = some (.int .i64 y0) ∧ W'.cell? ⟨b1, o1 + a * 2 + 1, none⟩ = some (.int .u64 y1) ∧ W'.cell? ⟨w.heap.size, 0, none⟩ = some (.int .i64 d0) ∧ W'.cell? ⟨w.heap.size, 1, none⟩ = some (.int .u64 d1)) (first | exact HS.out _ hBE | exact HS.out _ hBE.drew) ((go_at_call 44; (with_reducible refine (HOR.out _).mono ?_); rintro e w' ⟨rfl, hb2⟩; replace hBE := hBE.drew.trans hb2))
        go_wp2_with fail
        refine bodyPost_ret (v := .tuple #[.int .i64 a, .bool (ordQ (y0, y1) (d0, d1) == 0)]) (by simp [results, Tryd.results43, go_sem]) rfl ⟨⟨_, rfl⟩, HB.out.trans ((HX.out.trans (hBE.mono HX.out.size)).mono HB.out.size)⟩
      · have hdn : decide ((a : Int) < (n : Int)) = false := by simp; omega
        go_wp2_with fail
        have hBE := Below.refl wr.heap.size wr
        have HK := Lib.hid (fun (w' : World) (_ : Below wr.heap.size wr w') => True.intro)
        refine wp_region_held_drew (S := (fun _ => True)) (by kernel_rfl) (HK.out _ hBE.drew) (fun hHeld => ?_)
        replace hBE := hBE.drew
        refine wpAnyH_take (i := 0) (oi := { dst := some 35, op := Op.move (Operand.tmp 9), type := 3, pos := "sort.go:167", after := #[], guard := none }) (v := ?v0) rfl (by kernel_rfl) (by kernel_rfl) (by kernel_rfl) (fun _ _ _ h => h) (Or.inl ⟨by rfl, ?h0⟩) (by assumption) ?r0
        case h0 => (intro w hSw; (try dsimp only at hSw); go_simp; (try with_reducible rfl))
        try simp only [Act.put, List.setIfInBounds_toArray, List.set_cons_zero, List.set_cons_succ]
        refine wpAnyH_take (i := 1) (oi := { dst := some 36, op := Op.move (Operand.tmp 9), type := 3, pos := "sort.go:167", after := #[], guard := none }) (v := ?v1) rfl (by kernel_rfl) (by kernel_rfl) (by kernel_rfl) (fun _ _ _ h => h) (Or.inl ⟨by rfl, ?h1⟩) (by assumption) ?r1
        case h1 => (intro w hSw; (try dsimp only at hSw); go_simp; (try with_reducible rfl))
        try simp only [Act.put, List.setIfInBounds_toArray, List.set_cons_zero, List.set_cons_succ]
        refine wpAnyH_take (i := 2) (oi := { dst := some 37, op := Op.move (Operand.tmp 8), type := 3, pos := "sort.go:167", after := #[], guard := none }) (v := ?v2) rfl (by kernel_rfl) (by kernel_rfl) (by kernel_rfl) (fun _ _ _ h => h) (Or.inl ⟨by rfl, ?h2⟩) (by assumption) ?r2
        case h2 => (intro w hSw; (try dsimp only at hSw); go_simp; (try with_reducible rfl))
        try simp only [Act.put, List.setIfInBounds_toArray, List.set_cons_zero, List.set_cons_succ]
        refine wpAnyH_take (i := 3) (oi := { dst := some 38, op := Op.binOp BinOp.lss 3 (Operand.tmp 36) (Operand.tmp 37) 3, type := 4, pos := "sort.go:167", after := #[{ on := 1, ground := Ground.data }, { on := 2, ground := Ground.data }], guard := none }) (v := ?v3) rfl (by kernel_rfl) (by kernel_rfl) (by kernel_rfl) (fun _ _ _ h => h) (Or.inl ⟨by rfl, ?h3⟩) (by assumption) ?r3
        case h3 => (intro w hSw; (try dsimp only at hSw); go_simp; (try with_reducible rfl))
        try simp only [Act.put, List.setIfInBounds_toArray, List.set_cons_zero, List.set_cons_succ]
        refine wpAnyH_take (i := 4) (oi := { dst := some 39, op := Op.move (Operand.tmp 38), type := 4, pos := "sort.go:167", after := #[{ on := 3, ground := Ground.data }], guard := none }) (v := ?v4) rfl (by kernel_rfl) (by kernel_rfl) (by kernel_rfl) (fun _ _ _ h => h) (Or.inl ⟨by rfl, ?h4⟩) (by assumption) ?r4
        case h4 => (intro w hSw; (try dsimp only at hSw); go_simp; (try with_reducible rfl))
        try simp only [Act.put, List.setIfInBounds_toArray, List.set_cons_zero, List.set_cons_succ]
        refine wpAnyH_take (i := 5) (oi := { dst := some 40, op := Op.move (Operand.tmp 2), type := 70, pos := "sort.go:167", after := #[{ on := 4, ground := Ground.guard }], guard := some (4, true) }) (v := undef) rfl (by kernel_rfl) (by kernel_rfl) (by kernel_rfl) (fun _ _ _ h => h) (Or.inr ⟨by rfl, rfl⟩) (by assumption) ?_
        try simp only [Act.put, List.setIfInBounds_toArray, List.set_cons_zero, List.set_cons_succ]
        refine wpAnyH_take (i := 6) (oi := { dst := some 41, op := Op.move (Operand.tmp 0), type := 29, pos := "sort.go:167", after := #[{ on := 4, ground := Ground.guard }], guard := some (4, true) }) (v := undef) rfl (by kernel_rfl) (by kernel_rfl) (by kernel_rfl) (fun _ _ _ h => h) (Or.inr ⟨by rfl, rfl⟩) (by assumption) ?_
        try simp only [Act.put, List.setIfInBounds_toArray, List.set_cons_zero, List.set_cons_succ]
        refine wpAnyH_take (i := 7) (oi := { dst := some 42, op := Op.move (Operand.tmp 9), type := 3, pos := "sort.go:167", after := #[{ on := 4, ground := Ground.guard }], guard := some (4, true) }) (v := undef) rfl (by kernel_rfl) (by kernel_rfl) (by kernel_rfl) (fun _ _ _ h => h) (Or.inr ⟨by rfl, rfl⟩) (by assumption) ?_
        try simp only [Act.put, List.setIfInBounds_toArray, List.set_cons_zero, List.set_cons_succ]
        refine wpAnyH_take (i := 8) (oi := { dst := some 43, op := Op.indexAddr 29 (Operand.tmp 41) (Operand.tmp 42), type := 0, pos := "sort.go:167", after := #[{ on := 6, ground := Ground.data }, { on := 7, ground := Ground.data }, { on := 4, ground := Ground.guard }], guard := some (4, true) }) (v := undef) rfl (by kernel_rfl) (by kernel_rfl) (by kernel_rfl) (fun _ _ _ h => h) (Or.inr ⟨by rfl, rfl⟩) (by assumption) ?_
        try simp only [Act.put, List.setIfInBounds_toArray, List.set_cons_zero, List.set_cons_succ]
        refine wpAnyH_take (i := 9) (oi := { dst := some 44, op := Op.load 39 (Operand.tmp 43), type := 39, pos := "sort.go:167", after := #[{ on := 8, ground := Ground.data }, { on := 4, ground := Ground.guard }], guard := some (4, true) }) (v := undef) rfl (by kernel_rfl) (by kernel_rfl) (by kernel_rfl) (fun _ _ _ h => h) (Or.inr ⟨by rfl, rfl⟩) (by assumption) ?_
        try simp only [Act.put, List.setIfInBounds_toArray, List.set_cons_zero, List.set_cons_succ]
        refine wpAnyH_take (i := 10) (oi := { dst := some 45, op := Op.load 39 (Operand.tmp 4), type := 39, pos := "sort.go:167", after := #[{ on := 4, ground := Ground.guard }], guard := some (4, true) }) (v := undef) rfl (by kernel_rfl) (by kernel_rfl) (by kernel_rfl) (fun _ _ _ h => h) (Or.inr ⟨by rfl, rfl⟩) (by assumption) ?_
        try simp only [Act.put, List.setIfInBounds_toArray, List.set_cons_zero, List.set_cons_succ]
        refine wpAnyH_take (i := 11) (oi := { dst := some 46, op := Op.call { callee := Callee.value (Operand.tmp 40), args := #[Operand.tmp 44, Operand.tmp 45], argTypes := #[39, 39] }, type := 3, pos := "sort.go:167", after := #[{ on := 5, ground := Ground.data }, { on := 9, ground := Ground.data }, { on := 10, ground := Ground.data }, { on := 4, ground := Ground.chain }, { on := 4, ground := Ground.guard }], guard := some (4, true) }) (v := undef) rfl (by kernel_rfl) (by kernel_rfl) (by kernel_rfl) (fun _ _ _ h => h) (Or.inr ⟨by rfl, rfl⟩) (by assumption) ?_
        try simp only [Act.put, List.setIfInBounds_toArray, List.set_cons_zero, List.set_cons_succ]
        refine wpAnyH_take (i := 12) (oi := { dst := some 47, op := Op.binOp BinOp.eql 3 (Operand.tmp 46) (Operand.const (Value.int IntKind.i64 0)) 3, type := 4, pos := "sort.go:167", after := #[{ on := 11, ground := Ground.data }, { on := 4, ground := Ground.guard }, { on := 14, ground := Ground.gcOnly Departure.lateStores }], guard := some (4, true) }) (v := undef) rfl (by kernel_rfl) (by kernel_rfl) (by kernel_rfl) (fun _ _ _ h => h) (Or.inr ⟨by rfl, rfl⟩) (by assumption) ?_
        try simp only [Act.put, List.setIfInBounds_toArray, List.set_cons_zero, List.set_cons_succ]
        refine wpAnyH_take (i := 13) (oi := { dst := some 48, op := Op.pick (Operand.tmp 39) (Operand.tmp 47) (Operand.const (Value.bool false)), type := 4, pos := "sort.go:167", after := #[{ on := 4, ground := Ground.data }, { on := 12, ground := Ground.data }, { on := 14, ground := Ground.gcOnly Departure.lateStores }], guard := none }) (v := ?v13) rfl (by kernel_rfl) (by kernel_rfl) (by kernel_rfl) (fun _ _ _ h => h) (Or.inl ⟨by rfl, ?h13⟩) (by assumption) ?r13
        case h13 => (intro w hSw; (try dsimp only at hSw); go_simp; (try with_reducible rfl))
        try simp only [Act.put, List.setIfInBounds_toArray, List.set_cons_zero, List.set_cons_succ]
        refine wpAnyH_take (i := 14) (oi := { dst := some 6, op := Op.assign (Operand.tmp 35), type := 3, pos := "sort.go:167", after := #[{ on := 0, ground := Ground.data }, { on := 11, ground := Ground.chain }, { on := 0, ground := Ground.phase }, { on := 1, ground := Ground.textOnly Departure.lateStores }, { on := 2, ground := Ground.textOnly Departure.lateStores }, { on := 3, ground := Ground.textOnly Departure.lateStores }, { on := 4, ground := Ground.textOnly Departure.lateStores }, { on := 5, ground := Ground.textOnly Departure.lateStores }, { on := 6, ground := Ground.textOnly Departure.lateStores }, { on := 7, ground := Ground.textOnly Departure.lateStores }, { on := 8, ground := Ground.textOnly Departure.lateStores }, { on := 9, ground := Ground.textOnly Departure.lateStores }, { on := 10, ground := Ground.textOnly Departure.lateStores }, { on := 11, ground := Ground.textOnly Departure.lateStoresUnsure }, { on := 12, ground := Ground.textOnly Departure.lateStores }, { on := 13, ground := Ground.textOnly Departure.lateStores }], guard := none }) (v := ?v14) rfl (by kernel_rfl) (by kernel_rfl) (by kernel_rfl) (fun _ _ _ h => h) (Or.inl ⟨by rfl, ?h14⟩) (by assumption) ?r14
        case h14 => (intro w hSw; (try dsimp only at hSw); go_simp; (try with_reducible rfl))
        try simp only [Act.put, List.setIfInBounds_toArray, List.set_cons_zero, List.set_cons_succ]
        refine wpAnyH_take (i := 15) (oi := { dst := some 7, op := Op.assign (Operand.tmp 48), type := 4, pos := "sort.go:167", after := #[{ on := 13, ground := Ground.data }, { on := 14, ground := Ground.chain }, { on := 0, ground := Ground.phase }, { on := 1, ground := Ground.phase }, { on := 2, ground := Ground.phase }, { on := 3, ground := Ground.phase }, { on := 4, ground := Ground.phase }, { on := 5, ground := Ground.phase }, { on := 6, ground := Ground.phase }, { on := 7, ground := Ground.phase }, { on := 8, ground := Ground.phase }, { on := 9, ground := Ground.phase }, { on := 10, ground := Ground.phase }, { on := 11, ground := Ground.phase }, { on := 12, ground := Ground.phase }, { on := 13, ground := Ground.phase }, { on := 14, ground := Ground.phase }], guard := none }) (v := ?v15) rfl (by kernel_rfl) (by kernel_rfl) (by kernel_rfl) (fun _ _ _ h => h) (Or.inl ⟨by rfl, ?h15⟩) (by assumption) ?r15
        case h15 => (intro w hSw; (try dsimp only at hSw); go_simp; (try with_reducible rfl))
        try simp only [Act.put, List.setIfInBounds_toArray, List.set_cons_zero, List.set_cons_succ]
        refine wpAnyH_done (by kernel_rfl) ?_ _
        go_wp2_with fail
        refine bodyPost_ret (v := .tuple #[.int .i64 a, .bool false]) (by simp [results, Tryd.results43, go_sem]) rfl ⟨⟨_, rfl⟩, HB.out.trans ((HX.out.trans (hBE.mono HX.out.size)).mono HB.out.size)⟩
end Go.Proofs.YtidgiohjgkfjcaaDoor
