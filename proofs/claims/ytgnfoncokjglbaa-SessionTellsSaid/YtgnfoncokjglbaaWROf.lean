/- A client's row, what an asking is: walked, of the document. -/
import Derived.Test.YtgnfoncokjglbaaWKeep
namespace Go.Proofs.Ytgnfoncokjglbaa
open Go.RowKit

theorem field_seq (a b e : Int) (v : Value) (w : World) : (Instr.field 42 (.agg #[.int .i64 a, .int .u64 b, .int .i64 e, v]) 1).run Try.prog w = .ok (.int .u64 b) w := by
  simp [Instr.field, Sem.run_bind, run_underlying Try.underlying42, Try.isAgg32, Go.part, Result.andThen, asAgg]
theorem field_rep (a b e : Int) (v : Value) (w : World) : (Instr.field 42 (.agg #[.int .i64 a, .int .u64 b, .int .i64 e, v]) 2).run Try.prog w = .ok (.agg #[.int .i64 e, v]) w := by
  simp [Instr.field, Sem.run_bind, run_underlying Try.underlying42, Try.isAgg35, Go.part, Result.andThen, asAgg]
theorem field_err (e : Int) (v : Value) (w : World) : (Instr.field 35 (.agg #[.int .i64 e, v]) 0).run Try.prog w = .ok (.int .i64 e) w := by
  simp [Instr.field, Sem.run_bind, run_underlying Try.underlying35, Try.isAgg29, Go.part, Result.andThen, asAgg]
/-- A row, whose names can be read. -/
def ROfIs (w : World) (x : SesZ) (e : Ending) (w' : World) : Prop := (∃ u, e = .returned (sesV x u) ∧ NR w' u x.rep.names) ∧ Below w.heap.size w w'
theorem find_at {l : List SesZ} {k : Nat} {x : SesZ} {a : Int} (h : ∀ y ∈ l.take k, y.cl ≠ a) (hx : l[k]? = some x) (hc : x.cl = a) : ofD l a = x := by
  have e : l = l.take k ++ x :: l.drop (k + 1) := by
    obtain ⟨hk, hg⟩ := List.getElem?_eq_some_iff.1 hx
    rw [← hg, List.getElem_cons_drop, List.take_append_drop]
  unfold ofD
  rw [e, List.find?_append]
  have hn : (l.take k).find? (fun x => x.cl == a) = none := List.find?_eq_none.2 fun y hy => by simpa using h y hy
  rw [hn, List.find?_cons_of_pos (by simpa using hc)]
  rfl
theorem find_none {l : List SesZ} {a : Int} (h : ∀ y ∈ l, y.cl ≠ a) : ofD l a = bareS a := by
  unfold ofD
  rw [List.find?_eq_none.2 fun y hy => by simpa using h y hy]
  rfl
set_option maxRecDepth 100000 in
set_option maxHeartbeats 4000000 in
theorem rof_any (A : Option Addr) (n c : Nat) (a : Int) (ms : List SesM) (w : World) (h : SR w A n c ms) :
    Calls Try.prog 19 #[.agg #[.slice A n c], .int .i64 a] w (ROfIs w (ofD (ms.map (·.1)) a)) := by
  have hb0 : Below w.heap.size w ((w.alloc (.cells #[.slice A n c] 24)).alloc (.cells #[.int .i64 0, .int .u64 0, .int .i64 0, .slice none 0 0] 42)) := (new_below w _).alloc (by simp) _
  have hx1 : SBox ((w.alloc (.cells #[.slice A n c] 24)).alloc (.cells #[.int .i64 0, .int .u64 0, .int .i64 0, .slice none 0 0] 42)) (w.heap.size + 1) 42 #[.int .i64 0, .int .u64 0, .int .i64 0, .slice none 0 0] := by
    have := SBox.new (w.alloc (.cells #[.slice A n c] 24)) 42 #[.int .i64 0, .int .u64 0, .int .i64 0, .slice none 0 0]
    rwa [World.size_alloc] at this
  obtain ⟨W0, hW0⟩ : ∃ W0 : World, W0 = (w.alloc (.cells #[.slice A n c] 24)).alloc (.cells #[.int .i64 0, .int .u64 0, .int .i64 0, .slice none 0 0] 42) := ⟨_, rfl⟩
  rw [← hW0] at hb0 hx1
  have HB0 := Lib.hid hb0; have HX1 := Lib.hid hx1
  have HT := Lib.hid h; have HN := Lib.hid h.len
  have hn : n ≤ 9223372036854775807 := by have := h.cap; have := h.top; unfold maxLen at this; omega
  clear hb0 hx1 h
  go_enter Try.func19, Try.ntmps19
  go_wp2_with fail
  rw [← hW0]
  clear hW0
  go_loopw [10] (fun i wr => ∃ k : Nat, k ≤ n ∧ i = .int .i64 (k : Int) ∧ Below W0.heap.size W0 wr ∧ Hid (∀ y ∈ (ms.map (·.1)).take k, y.cl ≠ a)) (fun i _ => n - (intOf i).toNat)
  case atStart => exact ⟨0, by omega, rfl, Below.refl _ _, Lib.hid (by simp)⟩
  case round =>
    obtain ⟨k, hk, rfl, hb, HF⟩ := hrel
    have HB := Lib.hid (HB0.out.trans (hb.mono HB0.out.size))
    have HBW := Lib.hid hb
    clear hb
    by_cases hlt : k < n
    · obtain ⟨m, hm⟩ : ∃ m, ms[k]? = some m := ⟨_, List.getElem?_eq_getElem (by have := HN.out; omega)⟩
      obtain ⟨⟨xc, xq, xe, xn⟩, xv⟩ := m
      have ht := HT.out.on HB.out
      have hok := ht.ok _ (List.mem_of_getElem? hm)
      have hok0 := HT.out.ok _ (List.mem_of_getElem? hm)
      obtain ⟨b1, o1, rfl, hj1⟩ := ht.at_ hm
      have HLD := Lib.hid (ses_load ht hm)
      obtain ⟨W1, hs1, hy1, hb1, hz1⟩ := ses_var wr ⟨xc, xq, xe, xn⟩ xv hok.2.one
      have HS1 := Lib.hid hs1
      have HB1 := Lib.hid (HB.out.trans (hb1.mono HB.out.size))
      have HBW1 := Lib.hid (HBW.out.trans (hb1.mono HBW.out.size))
      have HX : Hid ((ms.map (·.1))[k]? = some ⟨xc, xq, xe, xn⟩) := Lib.hid (by rw [List.getElem?_map, hm]; rfl)
      have HOK0 := Lib.hid hok0.2
      obtain ⟨c0, c1, c2, c3⟩ := hy1.box.four
      simp only at c0 c1 c2 c3 HOK0
      have hx1 := HX1.out.on HBW1.out
      have hf0 := hx1.frozen 0; have hf1 := hx1.frozen 1; have hf2 := hx1.frozen 2; have hf3 := hx1.frozen 3
      obtain ⟨z0, z1, z2, z3⟩ := hx1.four
      have HX11 := Lib.hid hx1
      have i0 : (0 : Int) ≤ (k : Int) := by omega
      have i1 : (k : Int) < (n : Int) := by omega
      unfold sesV at *
      simp only at HLD HS1
      clear hm ht hok hok0 hj1 hs1 hy1 hb1 hz1 hx1
      by_cases he : xc = a
      · have hd : (xc == a) = true := by simp [he]
        have HE := Lib.hid he
        clear he
        obtain ⟨Av, cv, rfl, _⟩ := HOK0.out
        go_wp2_with (first | refine list_load rfl _ rfl rfl HLD.out ?_ | refine list_store0 rfl rfl _ _ rfl rfl rfl HS1.out ?_)
        have hr := HX11.out.set4 (.int .i64 xc) (.int .u64 xq) (.int .i64 xe) (.slice Av xn.length cv)
        obtain ⟨r0, r1, r2, r3⟩ := hr.four
        have hb9 := below_set4 (g := w.heap.size + 1) HB1.out (by omega) (.int .i64 xc) (.int .u64 xq) (.int .i64 xe) (.slice Av xn.length cv)
        exact bodyPost_ret (v := .agg #[.int .i64 xc, .int .u64 xq, .int .i64 xe, .slice Av xn.length cv]) (by simp [results, Try.results19, go_sem, r0, r1, r2, r3]) rfl ⟨⟨.slice Av xn.length cv, by rw [find_at HF.out HX.out HE.out]; rfl, by rw [find_at HF.out HX.out HE.out]; exact HOK0.out.on hb9⟩, hb9⟩
      · have hd : (xc == a) = false := by simp [he]
        have HE := Lib.hid he
        clear he
        go_wp2_with (first | refine list_load rfl _ rfl rfl HLD.out ?_ | refine list_store0 rfl rfl _ _ rfl rfl rfl HS1.out ?_)
        go_roundw
        case rel => exact ⟨k + 1, by omega, by go_num, HBW1.out, Lib.hid (fun y hy => by
          rw [List.take_add_one, HX.out] at hy
          rcases List.mem_append.1 hy with hy | hy
          · exact HF.out y hy
          · have hy : y = ⟨xc, xq, xe, xn⟩ := by simpa using hy
            rw [hy]
            exact HE.out)⟩
        case measure => simp [intOf]; omega
    · have HE := Lib.hid (show ∀ y ∈ ms.map (·.1), y.cl ≠ a from by
        have := HF.out
        rwa [List.take_of_length_le (by have := HN.out; rw [List.length_map]; omega)] at this)
      have hx1 := HX1.out.on HBW.out
      have hf0 := hx1.frozen 0; have hf1 := hx1.frozen 1; have hf2 := hx1.frozen 2; have hf3 := hx1.frozen 3
      obtain ⟨z0, z1, z2, z3⟩ := hx1.four
      have HX11 := Lib.hid hx1
      clear hx1
      go_wp2_with fail
      have hr := HX11.out.set4 (.int .i64 a) (.int .u64 0) (.int .i64 0) (.slice none 0 0)
      obtain ⟨r0, r1, r2, r3⟩ := hr.four
      have hb9 := below_set4 (g := w.heap.size + 1) HB.out (by omega) (.int .i64 a) (.int .u64 0) (.int .i64 0) (.slice none 0 0)
      exact bodyPost_ret (v := .agg #[.int .i64 a, .int .u64 0, .int .i64 0, .slice none 0 0]) (by simp [results, Try.results19, go_sem, r0, r1, r2, r3]) rfl ⟨⟨.slice none 0 0, by rw [find_none HE.out]; rfl, by rw [find_none HE.out]; exact .nil _⟩, hb9⟩
set_option maxRecDepth 100000 in
set_option maxHeartbeats 2000000 in
theorem rjudge_any (A : Option Addr) (n c : Nat) (a q : Int) (ms : List SesM) (w : World) (h : SR w A n c ms) (hm : MayS (ms.map (·.1))) (h1 : 1 ≤ a) (h2 : a ≤ 3) :
    Calls Try.prog 24 #[.agg #[.slice A n c], .int .i64 a, .int .u64 q] w fun e w' => e = .returned (.int .i64 (askZ (ofD (ms.map (·.1)) a).seq q)) ∧ Below w.heap.size w w' := by
  have hb0 := new_below w (.cells #[.slice A n c] 24)
  have HOF := Lib.hid (rof_any A n c a ms _ (h.on hb0))
  have HB := Lib.hid hb0
  obtain ⟨k1, k2, k3⟩ := of_seq hm h1 h2
  rw [k3] at k1 k2
  generalize ofD (ms.map (·.1)) a = X at *
  obtain ⟨xc, xq, xe, xn⟩ := X
  simp only at k1 k2
  have hw : IntKind.u64.wrap (xq + 1) = xq + 1 := by rw [IntKind.wrap_u64]; omega
  have HA : Hid (askZ xq q = if q = xq + 1 then 1 else if q = xq then 2 else 3) := Lib.hid rfl
  generalize hAZ : askZ xq q = AZ at *
  have HAZ := Lib.hid hAZ
  clear hb0 h hm h1 h2 k1 k2 k3 hAZ
  go_enter Try.func24, Try.ntmps24
  go_wp2_with fail
  refine HOF.out.mono ?_
  rintro y w1 ⟨⟨u, rfl, hu⟩, hb1⟩
  obtain ⟨Au, cu, rfl, _⟩ := hu
  have HB1 := Lib.hid (HB.out.trans (hb1.mono HB.out.size))
  unfold sesV
  simp only
  have hfl := fun W => field_seq xc xq xe (.slice Au xn.length cu) W
  clear hb1
  by_cases ha : q = xq + 1
  · have hd : (q == xq + 1) = true := by simp [ha]
    have HZ : Hid (AZ = 1) := Lib.hid (by rw [HA.out, if_pos ha])
    clear ha
    go_wp2_with fail
    go_ret
    exact ⟨by first | rw [HAZ.out, HZ.out] | (rw [HZ.out]; try rfl), HB1.out⟩
  · have hd : (q == xq + 1) = false := by simp [ha]
    by_cases hb2 : q = xq
    · have hd2 : (q == xq) = true := by simp [hb2]
      have HZ : Hid (AZ = 2) := Lib.hid (by rw [HA.out, if_neg ha, if_pos hb2])
      clear ha hb2
      go_wp2_with fail
      go_ret
      exact ⟨by first | rw [HAZ.out, HZ.out] | (rw [HZ.out]; try rfl), HB1.out⟩
    · have hd2 : (q == xq) = false := by simp [hb2]
      have HZ : Hid (AZ = 3) := Lib.hid (by rw [HA.out, if_neg ha, if_neg hb2])
      clear ha hb2
      go_wp2_with fail
      go_ret
      exact ⟨by first | rw [HAZ.out, HZ.out] | (rw [HZ.out]; try rfl), HB1.out⟩
end Go.Proofs.Ytgnfoncokjglbaa
