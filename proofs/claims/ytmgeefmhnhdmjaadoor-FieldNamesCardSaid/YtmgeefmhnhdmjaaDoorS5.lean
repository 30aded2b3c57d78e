/- Texts of this seat, one behind the other: FOpen, FBackW, FStepsW, FJoinsW. -/
import Derived.Test.YtmgeefmhnhdmjaaDoorS4
import Derived.Deep.Strs
import Derived.Deep.Grids
import Derived.Deep.Slices
/- What comes in: rows of numbers, masks, strings, bools. -/
namespace Go.Proofs.YtmgeefmhnhdmjaaDoor
open Go.ChangeShapes Go.WideShapes Go.ChangeAt Go.WideMaps Go.WideElems Go.RowKit Go.Deep

theorem cMask : Tryd.prog.cellsOf 24 = 1 := by kernel_rfl
theorem cBool : Tryd.prog.cellsOf 4 = 1 := by kernel_rfl
theorem open_texts {H : Type} {enc : TypeId × Value → H} {W : World} {A : Option Addr} {len cap : Nat} {d : DataW H} {p : List MemPlace}
    (h : DataW.Trod enc Tryd.prog W 0 (fun _ => true) true 25 (.slice A len cap) d p) :
    len ≤ maxLen ∧ ArrS W W.heap.size A len := by
  obtain ⟨fuel, hf⟩ := h
  rcases open_strs Tryd.underlying25 Tryd.underlying9 cStr hf with ⟨hcs, _⟩ | ⟨a, len', cap', m, Sx, hcs, _, hl, hm, hz, _, hcell⟩
  · have e : (Value.slice A len cap) = .slice none 0 0 := by simpa [Value.cells] using hcs
    cases e
    exact ⟨by unfold maxLen; omega, fun k hk => absurd hk (by omega)⟩
  · have e : (Value.slice A len cap) = .slice (some a) len' cap' := by simpa [Value.cells] using hcs
    cases e
    simp only [if_true] at hz
    refine ⟨by omega, fun k hk => ?_⟩
    obtain ⟨b, off, rfl⟩ : ∃ b off, a = ⟨b, off, none⟩ := by
      have k0 := (hcell 0 (by omega)).1
      obtain ⟨b, off, spot⟩ := a
      have hspot : spot = none := by simpa [Addr.add] using World.cell?_spot k0
      subst hspot
      exact ⟨b, off, rfl⟩
    obtain ⟨hc, hs⟩ := hcell k (by omega)
    rw [Go.WideShapes.add_plain] at hc
    exact ⟨b, off, Sx k, rfl, lt_of_cell hc, hc, hs⟩
theorem open_kinds {H : Type} {enc : TypeId × Value → H} {W : World} {A : Option Addr} {len cap : Nat} {d : DataW H} {p : List MemPlace}
    (h : DataW.Trod enc Tryd.prog W 0 (fun _ => true) true 22 (.slice A len cap) d p) :
    len ≤ maxLen ∧ ArrJ W W.heap.size A len := by
  obtain ⟨fuel, hf⟩ := h
  rcases open_ints Tryd.underlying22 Tryd.underlying3 cInt hf with ⟨hcs, _⟩ | ⟨a, len', cap', zs, hcs, _, hl, hm, hz, _, hcell, hwz⟩
  · have e : (Value.slice A len cap) = .slice none 0 0 := by simpa [Value.cells] using hcs
    cases e
    exact ⟨by unfold maxLen; omega, fun k hk => absurd hk (by omega)⟩
  · have e : (Value.slice A len cap) = .slice (some a) len' cap' := by simpa [Value.cells] using hcs
    cases e
    simp only [if_true] at hz
    refine ⟨by omega, fun k hk => ?_⟩
    obtain ⟨b, off, rfl, hc⟩ := ints_at hcell (by omega)
    have hck := hc k (by omega)
    exact ⟨b, off, _, rfl, lt_of_cell hck, hck⟩
theorem bounds_u64 {a : Int} (h : (Lit.int .u64 a).wf = true) : 0 ≤ a ∧ a ≤ 18446744073709551615 := by
  simp [Lit.wf, IntKind.min, IntKind.max, IntKind.bits, IntKind.signed] at h; omega
theorem open_masks {H : Type} {enc : TypeId × Value → H} {W : World} {A : Option Addr} {len cap : Nat} {d : DataW H} {p : List MemPlace}
    (h : DataW.Trod enc Tryd.prog W 0 (fun _ => true) true 44 (.slice A len cap) d p) :
    len ≤ maxLen ∧ ArrK W W.heap.size A len := by
  obtain ⟨fuel, hf⟩ := h
  rcases open_ints Tryd.underlying44 Tryd.underlying24 cMask hf with ⟨hcs, _⟩ | ⟨a, len', cap', zs, hcs, _, hl, hm, hz, _, hcell, hwz⟩
  · have e : (Value.slice A len cap) = .slice none 0 0 := by simpa [Value.cells] using hcs
    cases e
    exact ⟨by unfold maxLen; omega, fun k hk => absurd hk (by omega)⟩
  · have e : (Value.slice A len cap) = .slice (some a) len' cap' := by simpa [Value.cells] using hcs
    cases e
    simp only [if_true] at hz
    refine ⟨by omega, fun k hk => ?_⟩
    obtain ⟨b, off, rfl, hc⟩ := ints_at hcell (by omega)
    have hck := hc k (by omega)
    have hkz : k < zs.length := by omega
    have hw : (Lit.int .u64 (zs.getD k 0)).wf = true := hwz _ (by rw [List.getD_eq_getElem?_getD, List.getElem?_eq_getElem hkz]; exact List.getElem_mem hkz)
    obtain ⟨b0, b1⟩ := bounds_u64 hw
    obtain ⟨y, hy⟩ := U_of _ b0 b1
    exact ⟨b, off, y, rfl, lt_of_cell hck, by rw [hck, hy]⟩
theorem open_bits {H : Type} {enc : TypeId × Value → H} {W : World} {A : Option Addr} {len cap : Nat} {d : DataW H} {p : List MemPlace}
    (h : DataW.Trod enc Tryd.prog W 0 (fun _ => true) true 58 (.slice A len cap) d p) :
    len ≤ maxLen ∧ ∃ f, ArrBl W W.heap.size A len f := by
  obtain ⟨fuel, hf⟩ := h
  rcases open_bools Tryd.underlying58 Tryd.underlying4 cBool hf with ⟨hcs, _⟩ | ⟨a, len', cap', Bf, hcs, _, hl, hm, _, hcell⟩
  · have e : (Value.slice A len cap) = .slice none 0 0 := by simpa [Value.cells] using hcs
    cases e
    exact ⟨by unfold maxLen; omega, fun _ => false, fun _ _ => rfl, fun k hk => absurd hk (by omega)⟩
  · have e : (Value.slice A len cap) = .slice (some a) len' cap' := by simpa [Value.cells] using hcs
    cases e
    refine ⟨by omega, fun q => decide (q < len) && Bf q, fun q hq => ?_, fun k hk => ?_⟩
    · simp; omega
    · obtain ⟨b, off, rfl⟩ : ∃ b off, a = ⟨b, off, none⟩ := by
        have k0 := hcell 0 (by omega)
        obtain ⟨b, off, spot⟩ := a
        have hspot : spot = none := by simpa [Addr.add] using World.cell?_spot k0
        subst hspot
        exact ⟨b, off, rfl⟩
      have hc := hcell k (by omega)
      rw [Go.WideShapes.add_plain] at hc
      exact ⟨b, off, rfl, lt_of_cell hc, by rw [hc]; simp [hk]⟩
theorem mask_of {a : Int} (h : (Lit.int .u64 a).wf = true) : ∃ m : BitVec 64, a = U m := by
  obtain ⟨h0, h1⟩ := bounds_u64 h
  exact U_of a h0 h1
theorem open_two {H : Type} {enc : TypeId × Value → H} {P : Program} {W : World} {r : Reach} {b0 base : Nat} {sp : Nat → Bool} {held : Bool} {t e : TypeId} {q : IntKind} {v : Value} {d : DataW H} {ps : List MemPlace}
    (ht : P.underlying t = some (.array 2 e)) (he : P.underlying e = some (.int q)) (hC : P.cellsOf t = 2) (hE : P.cellsOf e = 1) (hv : Value.okWide P W r b0 t v) (h : DataW.Trod enc P W base sp held t v d ps) :
    ∃ a b : Int, v = .agg #[.int q a, .int q b] ∧ (Lit.int q a).wf = true ∧ (Lit.int q b).wf = true := by
  simp only [Value.okWide, ht] at hv
  obtain ⟨cs, rfl, hsz, _⟩ := hv
  rw [hC] at hsz
  obtain ⟨l⟩ := cs
  match l, hsz with
  | [c0, c1], _ =>
    obtain ⟨fuel, hf⟩ := h
    obtain ⟨xs, m, _, _, _, hlen, hg⟩ := DataW.trod_array ht hf
    match xs, hlen with
    | [y0, y1], _ =>
      have h0 := hg 0 (by omega)
      have h1 := hg 1 (by omega)
      rw [hE] at h0 h1
      have h0' : DataW.trod enc P W base sp held m e [c0] = some y0 := by simpa [Value.cells] using h0
      have h1' : DataW.trod enc P W base sp held m e [c1] = some y1 := by simpa [Value.cells] using h1
      obtain ⟨a, ea, _, wa⟩ := DataW.trod_int he h0'
      obtain ⟨b, eb, _, wb⟩ := DataW.trod_int he h1'
      simp only [List.cons.injEq, and_true] at ea eb
      subst ea; subst eb
      exact ⟨a, b, rfl, wa, wb⟩
end Go.Proofs.YtmgeefmhnhdmjaaDoor
/- FieldBack: walked. -/
namespace Go.Proofs.YtmgeefmhnhdmjaaDoor
open Go.RowKit

theorem text_len {k : Nat} {m : BitVec 64} (hf : FieldM k m) : (textL k m).length ≤ 256 := by
  have h := read_text hf
  rcases Nat.lt_or_ge 256 (textL k m).length with hl | hl
  · unfold readL at h
    rw [if_pos hl] at h
    cases h
  · exact hl
/-- What is read is a field, or nothing with an error; its place lies within. -/
theorem read_parts {k : Nat} (hk : k < 5) (s : List UInt8) : (∃ n, readL k s = (n, 0, 0) ∧ FieldM k n) ∨ ∃ (a : Nat) (e : Int), readL k s = (0#64, a, e) ∧ (e = 160 ∨ e = 3) ∧ a ≤ s.length := by
  rcases readL_right hk s with ⟨h1, h2, h3⟩ | ⟨h1, h2, h3⟩
  · exact .inl ⟨(readL k s).1, by rw [← h2, ← h1], h3⟩
  · exact .inr ⟨(readL k s).2.1, (readL k s).2.2, by rw [← h2], h1, h3⟩
set_option maxRecDepth 100000 in
set_option maxHeartbeats 2000000 in
theorem back_walk (z : Int) (m : BitVec 64) (s : ByteArray) (w : World) (hL : Laid w) (hs : s.size ≤ maxLen) :
    Calls Tryd.prog 6 #[.int .i64 z, .int .u64 (U m), .string s] w fun e w' => e = .returned (.bool true) ∧ Below w.heap.size w w' := by
  have HCu := Lib.hid (fun W => lcut_any s W hs)
  have hlen := cut_len260 s.data.toList
  rw [len_list] at hlen
  have hs' : (s.size : Int) ≤ 9223372036854775807 := by unfold maxLen at hs; omega
  have HL := Lib.hid hL
  clear hL hs
  generalize cutL s.data.toList = l at *
  have hlm : l.length ≤ maxLen := by unfold maxLen; omega
  rcases kind_case z with hk | ⟨k, rfl, hk⟩
  · have HK := Lib.hid hk
    have HT := Lib.hid (fun W => text_no z m W HK.out)
    have HR := Lib.hid (fun W => read_lno z l W HK.out)
    clear hk
    unfold errT readV at *
    unfold strV at *
    rw [U_zero] at HR
    dsimp only at HR
    go_enter Tryd.func6, Tryd.ntmps6
    go_wp2_with fail
    refine (fwakes_any w HL.out).mono ?_
    rintro e w1 ⟨rfl, hb⟩
    have HB := Lib.hid hb; have HL := Lib.hid (HL.out.on hb)
    clear hb
    go_wp2_with fail
    refine (HT.out _).mono ?_
    rintro e w2 ⟨rfl, hb⟩
    have HB := Lib.hid (HB.out.trans (hb.mono HB.out.size)); have HL := Lib.hid (HL.out.on hb)
    clear hb
    go_wp2_with fail
    refine (HCu.out _).mono ?_
    rintro e w8 ⟨rfl, rfl⟩
    go_wp2_with fail
    refine (HR.out _).mono ?_
    rintro e w8 ⟨rfl, hb⟩
    have HB := Lib.hid (HB.out.trans (hb.mono HB.out.size)); have HL := Lib.hid (HL.out.on hb)
    clear hb
    go_wp2_with fail
    go_ret
    exact ⟨rfl, HB.out⟩
  · cases hf : fieldB k m with
    | false =>
      have HT := Lib.hid (fun W hW => text_bad k m W hW hk hf)
      clear hf
      unfold errT at HT
      go_enter Tryd.func6, Tryd.ntmps6
      go_wp2_with fail
      refine (fwakes_any w HL.out).mono ?_
      rintro e w1 ⟨rfl, hb⟩
      have HB := Lib.hid hb; have HL := Lib.hid (HL.out.on hb)
      clear hb
      go_wp2_with fail
      refine (HT.out _ HL.out).mono ?_
      rintro e w2 ⟨rfl, hb⟩
      have HB := Lib.hid (HB.out.trans (hb.mono HB.out.size)); have HL := Lib.hid (HL.out.on hb)
      clear hb
      rcases read_parts hk l with ⟨n, hr, hf2⟩ | ⟨a, e2, hr, he2, ha⟩
      · have HR := Lib.hid (fun W hW => read_l k l W hW hk hlm)
        have HF2 := Lib.hid ((fieldB_iff k n).2 hf2)
        have HCh := Lib.hid (fun W hW => check_yes k n W hW hk)
        rw [HF2.out, if_pos rfl] at HCh
        have HT2 := Lib.hid (fun W hW => text_yes k n W hW hk HF2.out)
        have HR2 := Lib.hid (fun W hW => read_l k (textL k n) W hW hk (by have := text_len hf2; unfold maxLen; omega))
        rw [read_text hf2] at HR2
        rw [hr] at HR
        clear hr hf2
        unfold readV at *
        unfold errT at *
        unfold strV at *
        generalize textL k n = t2 at *
        dsimp only at HR HR2
        go_wp2_with fail
        refine (HCu.out _).mono ?_
        rintro e w8 ⟨rfl, rfl⟩
        go_wp2_with fail
        refine (HR.out _ HL.out).mono ?_
        rintro e w8 ⟨rfl, hb⟩
        have HB := Lib.hid (HB.out.trans (hb.mono HB.out.size)); have HL := Lib.hid (HL.out.on hb)
        clear hb
        go_wp2_with fail
        refine (HCh.out _ HL.out).mono ?_
        rintro e w9 ⟨rfl, hb⟩
        have HB := Lib.hid (HB.out.trans (hb.mono HB.out.size)); have HL := Lib.hid (HL.out.on hb)
        clear hb
        go_wp2_with fail
        refine (HT2.out _ HL.out).mono ?_
        rintro e w10 ⟨rfl, hb⟩
        have HB := Lib.hid (HB.out.trans (hb.mono HB.out.size)); have HL := Lib.hid (HL.out.on hb)
        clear hb
        go_wp2_with fail
        refine (HR2.out _ HL.out).mono ?_
        rintro e w11 ⟨rfl, hb⟩
        have HB := Lib.hid (HB.out.trans (hb.mono HB.out.size)); have HL := Lib.hid (HL.out.on hb)
        clear hb
        go_wp2_with fail
        refine (HT2.out _ HL.out).mono ?_
        rintro e w12 ⟨rfl, hb⟩
        have HB := Lib.hid (HB.out.trans (hb.mono HB.out.size)); have HL := Lib.hid (HL.out.on hb)
        clear hb
        go_wp2_with fail
        go_ret
        exact ⟨rfl, HB.out⟩
      · have HR := Lib.hid (fun W hW => read_l k l W hW hk hlm)
        rw [hr] at HR
        have hne : (e2 != 0) = true := by rcases he2 with rfl | rfl <;> rfl
        have ha2 : (a : Int) ≤ (s.size : Int) := by omega
        clear hr he2 ha
        unfold readV at *
        unfold strV at *
        rw [U_zero] at HR
        dsimp only at HR
        go_wp2_with fail
        refine (HCu.out _).mono ?_
        rintro e w8 ⟨rfl, rfl⟩
        go_wp2_with fail
        refine (HR.out _ HL.out).mono ?_
        rintro e w8 ⟨rfl, hb⟩
        have HB := Lib.hid (HB.out.trans (hb.mono HB.out.size)); have HL := Lib.hid (HL.out.on hb)
        clear hb
        go_wp2_with fail
        go_ret
        exact ⟨rfl, HB.out⟩
    | true =>
      have hfm := (fieldB_iff k m).1 hf
      have HT := Lib.hid (fun W hW => text_yes k m W hW hk hf)
      have HR1 := Lib.hid (fun W hW => read_l k (textL k m) W hW hk (by have := text_len hfm; unfold maxLen; omega))
      rw [read_text hfm] at HR1
      clear hf hfm
      unfold errT at HT
      unfold readV at HR1
      dsimp only at HR1
      generalize textL k m = t1 at *
      go_enter Tryd.func6, Tryd.ntmps6
      go_wp2_with fail
      refine (fwakes_any w HL.out).mono ?_
      rintro e w1 ⟨rfl, hb⟩
      have HB := Lib.hid hb; have HL := Lib.hid (HL.out.on hb)
      clear hb
      go_wp2_with fail
      refine (HT.out _ HL.out).mono ?_
      rintro e w2 ⟨rfl, hb⟩
      have HB := Lib.hid (HB.out.trans (hb.mono HB.out.size)); have HL := Lib.hid (HL.out.on hb)
      clear hb
      go_wp2_with fail
      refine (HR1.out _ HL.out).mono ?_
      rintro e w3 ⟨rfl, hb⟩
      have HB := Lib.hid (HB.out.trans (hb.mono HB.out.size)); have HL := Lib.hid (HL.out.on hb)
      clear hb
      rcases read_parts hk l with ⟨n, hr, hf2⟩ | ⟨a, e2, hr, he2, ha⟩
      · have HR := Lib.hid (fun W hW => read_l k l W hW hk hlm)
        have HF2 := Lib.hid ((fieldB_iff k n).2 hf2)
        have HCh := Lib.hid (fun W hW => check_yes k n W hW hk)
        rw [HF2.out, if_pos rfl] at HCh
        have HT2 := Lib.hid (fun W hW => text_yes k n W hW hk HF2.out)
        have HR2 := Lib.hid (fun W hW => read_l k (textL k n) W hW hk (by have := text_len hf2; unfold maxLen; omega))
        rw [read_text hf2] at HR2
        rw [hr] at HR
        clear hr hf2
        unfold readV at *
        unfold errT at *
        unfold strV at *
        generalize textL k n = t2 at *
        dsimp only at HR HR2
        go_wp2_with fail
        refine (HCu.out _).mono ?_
        rintro e w8 ⟨rfl, rfl⟩
        go_wp2_with fail
        refine (HR.out _ HL.out).mono ?_
        rintro e w8 ⟨rfl, hb⟩
        have HB := Lib.hid (HB.out.trans (hb.mono HB.out.size)); have HL := Lib.hid (HL.out.on hb)
        clear hb
        go_wp2_with fail
        refine (HCh.out _ HL.out).mono ?_
        rintro e w9 ⟨rfl, hb⟩
        have HB := Lib.hid (HB.out.trans (hb.mono HB.out.size)); have HL := Lib.hid (HL.out.on hb)
        clear hb
        go_wp2_with fail
        refine (HT2.out _ HL.out).mono ?_
        rintro e w10 ⟨rfl, hb⟩
        have HB := Lib.hid (HB.out.trans (hb.mono HB.out.size)); have HL := Lib.hid (HL.out.on hb)
        clear hb
        go_wp2_with fail
        refine (HR2.out _ HL.out).mono ?_
        rintro e w11 ⟨rfl, hb⟩
        have HB := Lib.hid (HB.out.trans (hb.mono HB.out.size)); have HL := Lib.hid (HL.out.on hb)
        clear hb
        go_wp2_with fail
        refine (HT2.out _ HL.out).mono ?_
        rintro e w12 ⟨rfl, hb⟩
        have HB := Lib.hid (HB.out.trans (hb.mono HB.out.size)); have HL := Lib.hid (HL.out.on hb)
        clear hb
        go_wp2_with fail
        go_ret
        exact ⟨rfl, HB.out⟩
      · have HR := Lib.hid (fun W hW => read_l k l W hW hk hlm)
        rw [hr] at HR
        have hne : (e2 != 0) = true := by rcases he2 with rfl | rfl <;> rfl
        have ha2 : (a : Int) ≤ (s.size : Int) := by omega
        clear hr he2 ha
        unfold readV at *
        unfold strV at *
        rw [U_zero] at HR
        dsimp only at HR
        go_wp2_with fail
        refine (HCu.out _).mono ?_
        rintro e w8 ⟨rfl, rfl⟩
        go_wp2_with fail
        refine (HR.out _ HL.out).mono ?_
        rintro e w8 ⟨rfl, hb⟩
        have HB := Lib.hid (HB.out.trans (hb.mono HB.out.size)); have HL := Lib.hid (HL.out.on hb)
        clear hb
        go_wp2_with fail
        go_ret
        exact ⟨rfl, HB.out⟩
end Go.Proofs.YtmgeefmhnhdmjaaDoor
/- FieldSteps: walked. -/
namespace Go.Proofs.YtmgeefmhnhdmjaaDoor
open Go.RowKit

theorem pick_in (x a b : Int) (h0 : 0 ≤ a) (h1 : a ≤ b) (h2 : b ≤ 100) : ∃ f : Nat, wrap64 (a + wrap64 ((IntKind.u64.wrap x).tmod (b - a + 1))) = (f : Int) ∧ a ≤ (f : Int) ∧ (f : Int) ≤ b := by
  have hu : 0 ≤ IntKind.u64.wrap x := by rw [IntKind.wrap_u64]; omega
  generalize IntKind.u64.wrap x = y at *
  have e : y.tmod (b - a + 1) = y % (b - a + 1) := Int.tmod_eq_emod_of_nonneg hu
  have h3 := Int.emod_nonneg y (show b - a + 1 ≠ 0 by omega)
  have h4 := Int.emod_lt_of_pos y (show 0 < b - a + 1 by omega)
  rw [e]
  generalize y % (b - a + 1) = r at *
  have w1 : wrap64 r = r := by unfold wrap64; omega
  have w2 : wrap64 (a + r) = a + r := by unfold wrap64; omega
  exact ⟨(a + r).toNat, by rw [w1, w2]; omega, by omega, by omega⟩
theorem step_in (x : Int) : ∃ f : Nat, wrap64 (1 + wrap64 ((IntKind.u64.wrap x).tmod 63)) = (f : Int) ∧ 1 ≤ f ∧ f ≤ 63 := by
  obtain ⟨f, h, h1, h2⟩ := pick_in x 1 63 (by omega) (by omega) (by omega)
  exact ⟨f, h, by omega, by omega⟩
set_option maxRecDepth 100000 in
set_option maxHeartbeats 4000000 in
theorem steps_walk (z x0 x1 st : Int) (w : World) (hL : Laid w) :
    Calls Tryd.prog 8 #[.int .i64 z, .agg #[.int .i64 x0, .int .i64 x1], .int .i64 st] w fun e w' => e = .returned (.bool true) ∧ Below w.heap.size w w' := by
  have HZ := Lib.hid (kind_case z)
  have HL := Lib.hid hL
  clear hL
  go_enter Tryd.func8, Tryd.ntmps8
  go_wp2_with fail
  have HL1 := Lib.hid (HL.out.on ((Below.refl w.heap.size w).alloc (Nat.le_refl _) (.cells #[.int .i64 x0, .int .i64 x1] 52)))
  refine (fwakes_any _ HL1.out).mono ?_
  rintro e w1 ⟨rfl, hb⟩
  have c0 := (hb.cell (p := ⟨w.heap.size, 0, none⟩) (by simp)).trans (show (w.alloc (.cells #[.int .i64 x0, .int .i64 x1] 52)).cell? ⟨w.heap.size, 0, none⟩ = some (.int .i64 x0) by go_simp)
  have c1 := (hb.cell (p := ⟨w.heap.size, 1, none⟩) (by simp)).trans (show (w.alloc (.cells #[.int .i64 x0, .int .i64 x1] 52)).cell? ⟨w.heap.size, 1, none⟩ = some (.int .i64 x1) by go_simp)
  have hsz : w.heap.size < w1.heap.size := by have := hb.size; simp at this; omega
  have HB := Lib.hid (((Below.refl w.heap.size w).alloc (Nat.le_refl _) (.cells #[.int .i64 x0, .int .i64 x1] 52)).trans (hb.mono (by simp)))
  have HL2 := Lib.hid (HL1.out.on hb)
  clear hb
  go_wp2_with fail
  go_region
  go_wp2_with fail
  have HB2 := Lib.hid (bdrewN HB.out 1)
  have HL3 := Lib.hid (HL2.out.on (bdrewN (Below.refl _ _) 1))
  change Calls _ _ _ (w1.drewN 1) _
  generalize w1.drewN 1 = w2 at *
  clear c0 c1 hsz
  rcases HZ.out with hk | ⟨k, rfl, hk⟩
  · refine (ends_no z w2 hk).mono ?_
    rintro e w3 ⟨rfl, hb⟩
    have HB := Lib.hid (HB2.out.trans (hb.mono HB2.out.size))
    clear hb
    have HB3 := Lib.hid (HB.out.alloc HB.out.size (.cells #[.int .i64 0, .int .i64 0] 28))
    unfold runV
    unfold NoKind at hk
    by_cases h0 : z < 0
    · go_wp2_with fail
      go_ret
      exact ⟨rfl, HB3.out⟩
    · have h5 : 5 ≤ z := by omega
      have h0' : decide (z < 0) = false := by simp; omega
      go_wp2_with fail
      go_ret
      exact ⟨rfl, HB3.out⟩
  · have HE := Lib.hid (fun W hW => ends_yes k W hW hk)
    unfold runV at HE
    have hbd := hi_bd k
    obtain ⟨a, hae⟩ : ∃ a : Int, ((loK k : Nat) : Int) = a := ⟨_, rfl⟩
    obtain ⟨b, hbe⟩ : ∃ a : Int, ((hiK k : Nat) : Int) = a := ⟨_, rfl⟩
    rw [hae, hbe] at HE hbd
    obtain ⟨q1, q2, q3, q4⟩ := hbd
    have q5 : a ≤ b := by have := hi_lt k; omega
    refine (HE.out _ HL3.out).mono ?_
    rintro e w3 ⟨rfl, hb⟩
    have HB := Lib.hid (HB2.out.trans (hb.mono HB2.out.size)); have HL := Lib.hid (HL3.out.on hb)
    clear hb HE
    go_wp2_with fail
    have HX := Lib.hid (RunBox.new w3 a b)
    have HB3 := Lib.hid (HB.out.alloc HB.out.size (.cells #[.int .i64 a, .int .i64 b] 28))
    have HL4 := Lib.hid (HL.out.on ((Below.refl _ _).alloc (Nat.le_refl _) (.cells #[.int .i64 a, .int .i64 b] 28)))
    generalize hgw : w3.alloc _ = w4 at *
    generalize w3.heap.size = g at *
    clear hgw
    obtain ⟨c0, c1, f0, f1⟩ := HX.out.cells
    have hgr := HX.out.lt
    go_region
    go_wp2_with fail
    have HB := Lib.hid (bdrewN HB3.out 1)
    have HL := Lib.hid (HL4.out.on (bdrewN (Below.refl _ _) 1))
    have HX := Lib.hid (HX.out.on (bdrewN (Below.refl _ w4) 1))
    clear c0 c1 f0 f1 hgr HB3 HL4
    change Calls _ _ _ (w4.drewN 1) _
    generalize w4.drewN 1 = w5 at *
    obtain ⟨f, hf, fl, fh⟩ := pick_in x0 a b q3 q5 (by omega)
    obtain ⟨t, ht, tl, th⟩ := pick_in x1 a b q3 q5 (by omega)
    obtain ⟨n, hn, n1, n2⟩ := step_in st
    rw [hf, ht, hn]
    clear hf ht hn
    have HRS := Lib.hid (read_steps (k := k) (a := f) (b := t) (st := n) (by omega) (by omega) (by omega) (by omega) n1 n2)
    have HRE := Lib.hid (read_each (k := k) (st := n) n1 n2)
    have HSp := Lib.hid (fun W => span_any (f : Int) (t : Int) (n : Int) W)
    have HSa := Lib.hid (fun W => span_any a b (n : Int) W)
    have HSE := Lib.hid (span_some (a := loK k) (b := hiK k) (s := (n : Int)) (by omega) (by omega) (by omega))
    have HAe := Lib.hid hae; have HBe := Lib.hid hbe
    have HI0 := Lib.hid (fun W => itoa_any f W (by omega))
    have HI1 := Lib.hid (fun W => itoa_any t W (by omega))
    have HI2 := Lib.hid (fun W => itoa_any n W (by omega))
    have l0 := dgs_len f; have l1 := dgs_len t; have l2 := dgs_len n
    clear hae hbe
    generalize dgsN f = d0 at *
    generalize dgsN t = d1 at *
    generalize dgsN n = d2 at *
    obtain ⟨p1, e1, k1, r1⟩ := join_str d0 [45] d0.length 1 rfl rfl
    obtain ⟨p2, e2, k2, r2⟩ := join_str p1 d1 p1.length d1.length rfl rfl
    obtain ⟨p3, e3, k3, r3⟩ := join_str p2 [47] p2.length 1 rfl rfl
    obtain ⟨p4, e4, k4, r4⟩ := join_str p3 d2 p3.length d2.length rfl rfl
    obtain ⟨p5, e5, k5, r5⟩ := join_str [42, 47] d2 2 d2.length rfl rfl
    have g1 : ¬ (9223372036854775807 < d0.length + 1) := by omega
    have g2 : ¬ (9223372036854775807 < p1.length + d1.length) := by omega
    have g3 : ¬ (9223372036854775807 < p2.length + 1) := by omega
    have g4 : ¬ (9223372036854775807 < p3.length + d2.length) := by omega
    have g5 : ¬ (9223372036854775807 < 2 + d2.length) := by omega
    replace e1 : (⟨d0.toArray⟩ : ByteArray) ++ ⟨#[45]⟩ = ⟨p1.toArray⟩ := e1
    replace e3 : (⟨p2.toArray⟩ : ByteArray) ++ ⟨#[47]⟩ = ⟨p3.toArray⟩ := e3
    replace e5 : (⟨#[42, 47]⟩ : ByteArray) ++ ⟨d2.toArray⟩ = ⟨p5.toArray⟩ := e5
    have HP4 : Hid (p4 = (d0 ++ 45 :: d1) ++ 47 :: d2) := Lib.hid (by rw [r4, r3, r2, r1]; simp)
    have HP5 : Hid (p5 = 42 :: 47 :: d2) := Lib.hid (by rw [r5]; rfl)
    rw [← HP4.out] at HRS
    rw [← HP5.out] at HRE
    have HR4 := Lib.hid (fun W hW => read_l k p4 W hW hk (by unfold maxLen; omega))
    have HR5 := Lib.hid (fun W hW => read_l k p5 W hW hk (by unfold maxLen; omega))
    clear r1 r2 r3 r4 r5 HP4 HP5
    unfold strV readV at *
    refine (HI0.out _).mono ?_
    rintro e w6 ⟨rfl, rfl⟩
    go_wp2_with fail
    refine (HI1.out _).mono ?_
    rintro e w6 ⟨rfl, rfl⟩
    go_wp2_with fail
    refine (HI2.out _).mono ?_
    rintro e w6 ⟨rfl, rfl⟩
    by_cases hlt : t < f
    · have hd : decide (t < f) = true := by simpa using hlt
      have hx : readL k p4 = (0#64, 0, 160) := by rw [HRS.out, span_none' hlt]
      rw [hx, U_zero] at HR4
      dsimp only at HR4
      clear hx
      go_wp2_with fail
      refine (HR4.out _ HL.out).mono ?_
      rintro e w6 ⟨rfl, hb⟩
      have HB := Lib.hid (HB.out.trans (hb.mono HB.out.size))
      clear hb
      go_wp2_with fail
      go_ret
      exact ⟨rfl, HB.out⟩
    · have hd : decide (t < f) = false := by simpa using hlt
      obtain ⟨m, hm⟩ := span_some (a := f) (b := t) (s := (n : Int)) (by omega) (by omega) (by omega)
      obtain ⟨m2, hm2⟩ := HSE.out
      have hx : readL k p4 = (m, 0, 0) := by rw [HRS.out, hm]
      have hx2 : readL k p5 = (m2, 0, 0) := by rw [HRE.out, hm2]
      rw [HAe.out, HBe.out] at hm2
      rw [hx] at HR4
      rw [hx2] at HR5
      rw [hm] at HSp
      rw [hm2] at HSa
      unfold maskErr at HSp HSa
      dsimp only at HR4 HR5
      clear hx hx2 hm hm2 HSE HRS HRE
      go_wp2_with fail
      refine (HR4.out _ HL.out).mono ?_
      rintro e w6 ⟨rfl, hb⟩
      have HB := Lib.hid (HB.out.trans (hb.mono HB.out.size)); have HX := Lib.hid (HX.out.on hb); have HL := Lib.hid (HL.out.on hb)
      clear hb
      go_wp2_with fail
      refine (HSp.out _).mono ?_
      rintro e w7 ⟨rfl, rfl⟩
      go_wp2_with fail
      refine (HI2.out _).mono ?_
      rintro e w7 ⟨rfl, rfl⟩
      go_wp2_with fail
      refine (HR5.out _ HL.out).mono ?_
      rintro e w8 ⟨rfl, hb⟩
      have HB := Lib.hid (HB.out.trans (hb.mono HB.out.size)); have HX := Lib.hid (HX.out.on hb)
      clear hb
      obtain ⟨c0, c1, f0, f1⟩ := HX.out.cells
      have hgr := HX.out.lt
      go_wp2_with fail
      refine (HSa.out _).mono ?_
      rintro e w9 ⟨rfl, rfl⟩
      go_wp2_with fail
      go_ret
      exact ⟨rfl, HB.out⟩
end Go.Proofs.YtmgeefmhnhdmjaaDoor
/- FieldJoins: walked. -/
namespace Go.Proofs.YtmgeefmhnhdmjaaDoor
open Go.RowKit

set_option maxRecDepth 100000 in
set_option maxHeartbeats 4000000 in
theorem joins_walk (z : Int) (s t : ByteArray) (w : World) (hL : Laid w) (hs : s.size ≤ maxLen) (ht : t.size ≤ maxLen) :
    Calls Tryd.prog 7 #[.int .i64 z, .string s, .string t] w fun e w' => e = .returned (.bool true) ∧ Below w.heap.size w w' := by
  have HCs := Lib.hid (fun W => lcut_any s W hs)
  have HCt := Lib.hid (fun W => lcut_any t W ht)
  have hla := (cut_len260 s.data.toList).1
  have hlb := (cut_len260 t.data.toList).1
  have HL := Lib.hid hL
  clear hL hs ht
  generalize cutL s.data.toList = a at *
  generalize cutL t.data.toList = b at *
  have ham : a.length ≤ maxLen := by unfold maxLen; omega
  have hbm : b.length ≤ maxLen := by unfold maxLen; omega
  obtain ⟨p1, e1, k1, r1⟩ := join_str a [44] a.length 1 rfl rfl
  obtain ⟨p2, e2, k2, r2⟩ := join_str p1 b p1.length b.length rfl rfl
  have g1 : ¬ (9223372036854775807 < a.length + 1) := by omega
  have g2 : ¬ (9223372036854775807 < p1.length + b.length) := by omega
  replace e1 : (⟨a.toArray⟩ : ByteArray) ++ ⟨#[44]⟩ = ⟨p1.toArray⟩ := e1
  have HP : Hid (p2 = a ++ 44 :: b) := Lib.hid (by rw [r2, r1]; simp)
  have hpm : p2.length ≤ maxLen := by unfold maxLen; omega
  clear r1 r2
  rcases kind_case z with hk | ⟨k, rfl, hk⟩
  · have HK := Lib.hid hk
    have HRa := Lib.hid (fun W => read_lno z a W HK.out)
    have HRb := Lib.hid (fun W => read_lno z b W HK.out)
    have HRp := Lib.hid (fun W => read_lno z p2 W HK.out)
    clear hk
    unfold readV at *
    rw [U_zero] at HRa HRb HRp
    dsimp only at HRa HRb HRp
    unfold strV at *
    go_enter Tryd.func7, Tryd.ntmps7
    go_wp2_with fail
    refine (fwakes_any w HL.out).mono ?_
    rintro e w1 ⟨rfl, hb⟩
    have HB := Lib.hid hb; have HL := Lib.hid (HL.out.on hb)
    clear hb
    go_wp2_with fail
    refine (HCs.out _).mono ?_
    rintro e w2 ⟨rfl, rfl⟩
    go_wp2_with fail
    refine (HCt.out _).mono ?_
    rintro e w2 ⟨rfl, rfl⟩
    go_wp2_with fail
    refine (HRa.out _).mono ?_
    rintro e w3 ⟨rfl, hb⟩
    have HB := Lib.hid (HB.out.trans (hb.mono HB.out.size)); have HL := Lib.hid (HL.out.on hb)
    clear hb
    go_wp2_with fail
    refine (HRb.out _).mono ?_
    rintro e w4 ⟨rfl, hb⟩
    have HB := Lib.hid (HB.out.trans (hb.mono HB.out.size)); have HL := Lib.hid (HL.out.on hb)
    clear hb
    go_wp2_with fail
    refine (HRp.out _).mono ?_
    rintro e w5 ⟨rfl, hb⟩
    have HB := Lib.hid (HB.out.trans (hb.mono HB.out.size)); have HL := Lib.hid (HL.out.on hb)
    clear hb
    go_wp2_with fail
    go_ret
    exact ⟨rfl, HB.out⟩
  · have HRa := Lib.hid (fun W hW => read_l k a W hW hk ham)
    have HRb := Lib.hid (fun W hW => read_l k b W hW hk hbm)
    have HRp := Lib.hid (fun W hW => read_l k p2 W hW hk hpm)
    have HJ := Lib.hid (readL_join (k := k) a b)
    have hlong : 256 < a.length + b.length + 1 → readL k p2 = (0#64, 0, 3) := fun h => by unfold readL; rw [if_pos (by omega)]
    have HLo := Lib.hid hlong
    have HEb := Lib.hid (readL_err (k := k) b)
    rw [← HP.out] at HJ
    clear hlong ham hbm hpm
    unfold readV at *
    by_cases h256 : 256 < a.length + b.length + 1
    · have h256' : decide (256 < (a.length : Int) + (b.length : Int) + 1) = true := by simp; omega
      rw [HLo.out h256] at HRp
      rw [U_zero] at HRp
      dsimp only at HRp
      clear h256 HLo HEb
      rcases read_parts hk a with ⟨n, hr, _⟩ | ⟨x, e0, hr, he, _⟩
      · rw [hr] at HRa
        clear hr
        dsimp only at HRa
        generalize readL k b = rb at *
        unfold strV at *
        go_enter Tryd.func7, Tryd.ntmps7
        go_wp2_with fail
        refine (fwakes_any w HL.out).mono ?_
        rintro e w1 ⟨rfl, hb⟩
        have HB := Lib.hid hb; have HL := Lib.hid (HL.out.on hb)
        clear hb
        go_wp2_with fail
        refine (HCs.out _).mono ?_
        rintro e w2 ⟨rfl, rfl⟩
        go_wp2_with fail
        refine (HCt.out _).mono ?_
        rintro e w2 ⟨rfl, rfl⟩
        go_wp2_with fail
        refine (HRa.out _ HL.out).mono ?_
        rintro e w3 ⟨rfl, hb⟩
        have HB := Lib.hid (HB.out.trans (hb.mono HB.out.size)); have HL := Lib.hid (HL.out.on hb)
        clear hb
        go_wp2_with fail
        refine (HRb.out _ HL.out).mono ?_
        rintro e w4 ⟨rfl, hb⟩
        have HB := Lib.hid (HB.out.trans (hb.mono HB.out.size)); have HL := Lib.hid (HL.out.on hb)
        clear hb
        go_wp2_with fail
        refine (HRp.out _ HL.out).mono ?_
        rintro e w5 ⟨rfl, hb⟩
        have HB := Lib.hid (HB.out.trans (hb.mono HB.out.size)); have HL := Lib.hid (HL.out.on hb)
        clear hb
        go_wp2_with fail
        go_ret
        exact ⟨rfl, HB.out⟩
      · rw [hr] at HRa
        have hne : (e0 == 2) = false := by rcases he with rfl | rfl <;> rfl
        clear hr
        dsimp only at HRa
        generalize readL k b = rb at *
        unfold strV at *
        go_enter Tryd.func7, Tryd.ntmps7
        go_wp2_with fail
        refine (fwakes_any w HL.out).mono ?_
        rintro e w1 ⟨rfl, hb⟩
        have HB := Lib.hid hb; have HL := Lib.hid (HL.out.on hb)
        clear hb
        go_wp2_with fail
        refine (HCs.out _).mono ?_
        rintro e w2 ⟨rfl, rfl⟩
        go_wp2_with fail
        refine (HCt.out _).mono ?_
        rintro e w2 ⟨rfl, rfl⟩
        go_wp2_with fail
        refine (HRa.out _ HL.out).mono ?_
        rintro e w3 ⟨rfl, hb⟩
        have HB := Lib.hid (HB.out.trans (hb.mono HB.out.size)); have HL := Lib.hid (HL.out.on hb)
        clear hb
        go_wp2_with fail
        refine (HRb.out _ HL.out).mono ?_
        rintro e w4 ⟨rfl, hb⟩
        have HB := Lib.hid (HB.out.trans (hb.mono HB.out.size)); have HL := Lib.hid (HL.out.on hb)
        clear hb
        go_wp2_with fail
        refine (HRp.out _ HL.out).mono ?_
        rintro e w5 ⟨rfl, hb⟩
        have HB := Lib.hid (HB.out.trans (hb.mono HB.out.size)); have HL := Lib.hid (HL.out.on hb)
        clear hb
        go_wp2_with fail
        go_ret
        exact ⟨rfl, HB.out⟩
    · have h256' : decide (256 < (a.length : Int) + (b.length : Int) + 1) = false := by simp; omega
      have HJ := Lib.hid (HJ.out (by omega))
      clear HLo
      rcases read_parts hk a with ⟨n, hr, _⟩ | ⟨x, e0, hr, he, _⟩
      · rcases read_parts hk b with ⟨n2, hr2, _⟩ | ⟨x2, e2', hr2, he2, hx2⟩
        · have HRp2 : Hid (readL k p2 = (n ||| n2, 0, 0)) := Lib.hid (by rw [HJ.out, hr, hr2]; rfl)
          have HO := Lib.hid (fun W => or_pair n n2 W)
          rw [hr] at HRa
          rw [hr2] at HRb
          rw [HRp2.out] at HRp
          clear hr hr2 HEb h256
          dsimp only at HRa HRb HRp
          unfold strV at *
          go_enter Tryd.func7, Tryd.ntmps7
          go_wp2_with fail
          refine (fwakes_any w HL.out).mono ?_
          rintro e w1 ⟨rfl, hb⟩
          have HB := Lib.hid hb; have HL := Lib.hid (HL.out.on hb)
          clear hb
          go_wp2_with fail
          refine (HCs.out _).mono ?_
          rintro e w2 ⟨rfl, rfl⟩
          go_wp2_with fail
          refine (HCt.out _).mono ?_
          rintro e w2 ⟨rfl, rfl⟩
          go_wp2_with fail
          refine (HRa.out _ HL.out).mono ?_
          rintro e w3 ⟨rfl, hb⟩
          have HB := Lib.hid (HB.out.trans (hb.mono HB.out.size)); have HL := Lib.hid (HL.out.on hb)
          clear hb
          go_wp2_with fail
          refine (HRb.out _ HL.out).mono ?_
          rintro e w4 ⟨rfl, hb⟩
          have HB := Lib.hid (HB.out.trans (hb.mono HB.out.size)); have HL := Lib.hid (HL.out.on hb)
          clear hb
          go_wp2_with fail
          refine (HRp.out _ HL.out).mono ?_
          rintro e w5 ⟨rfl, hb⟩
          have HB := Lib.hid (HB.out.trans (hb.mono HB.out.size)); have HL := Lib.hid (HL.out.on hb)
          clear hb
          have HB2 := Lib.hid (HB.out.alloc HB.out.size (.cells #[.int .u64 (U n), .int .u64 (U n2)] 24))
          go_wp2_with fail
          refine (HO.out _).mono ?_
          rintro e w6 ⟨rfl, rfl⟩
          go_wp2_with fail
          go_ret
          exact ⟨rfl, HB2.out⟩
        · have h160 : e2' = 160 := by
            have := (HEb.out (by rw [hr2]; show e2' ≠ 0; rcases he2 with rfl | rfl <;> decide)).2
            rw [hr2] at this
            rcases this with ⟨_, q, _⟩ | ⟨q, _⟩
            · omega
            · exact q
          subst h160
          have HRp2 : Hid (readL k p2 = (0#64, x2 + a.length + 1, 160)) := Lib.hid (by rw [HJ.out, hr, hr2]; rfl)
          rw [hr] at HRa
          rw [hr2] at HRb
          rw [HRp2.out] at HRp
          rw [U_zero] at HRb HRp
          clear hr hr2 HEb h256 he2
          dsimp only at HRa HRb HRp
          rw [show ((x2 + a.length + 1 : Nat) : Int) = (x2 : Int) + (a.length : Int) + 1 by omega] at HRp
          unfold strV at *
          go_enter Tryd.func7, Tryd.ntmps7
          go_wp2_with fail
          refine (fwakes_any w HL.out).mono ?_
          rintro e w1 ⟨rfl, hb⟩
          have HB := Lib.hid hb; have HL := Lib.hid (HL.out.on hb)
          clear hb
          go_wp2_with fail
          refine (HCs.out _).mono ?_
          rintro e w2 ⟨rfl, rfl⟩
          go_wp2_with fail
          refine (HCt.out _).mono ?_
          rintro e w2 ⟨rfl, rfl⟩
          go_wp2_with fail
          refine (HRa.out _ HL.out).mono ?_
          rintro e w3 ⟨rfl, hb⟩
          have HB := Lib.hid (HB.out.trans (hb.mono HB.out.size)); have HL := Lib.hid (HL.out.on hb)
          clear hb
          go_wp2_with fail
          refine (HRb.out _ HL.out).mono ?_
          rintro e w4 ⟨rfl, hb⟩
          have HB := Lib.hid (HB.out.trans (hb.mono HB.out.size)); have HL := Lib.hid (HL.out.on hb)
          clear hb
          go_wp2_with fail
          refine (HRp.out _ HL.out).mono ?_
          rintro e w5 ⟨rfl, hb⟩
          have HB := Lib.hid (HB.out.trans (hb.mono HB.out.size)); have HL := Lib.hid (HL.out.on hb)
          clear hb
          go_wp2_with fail
          go_ret
          exact ⟨rfl, HB.out⟩
      · have HRp2 : Hid (readL k p2 = (0#64, x, e0)) := Lib.hid (by rw [HJ.out, hr]; rcases he with rfl | rfl <;> rfl)
        have hne : (e0 == 2) = false := by rcases he with rfl | rfl <;> rfl
        have hne0 : (e0 == 0) = false := by rcases he with rfl | rfl <;> rfl
        rw [hr] at HRa
        rw [HRp2.out] at HRp
        rw [U_zero] at HRa HRp
        clear hr HEb h256 he
        dsimp only at HRa HRp
        generalize readL k b = rb at *
        unfold strV at *
        go_enter Tryd.func7, Tryd.ntmps7
        go_wp2_with fail
        refine (fwakes_any w HL.out).mono ?_
        rintro e w1 ⟨rfl, hb⟩
        have HB := Lib.hid hb; have HL := Lib.hid (HL.out.on hb)
        clear hb
        go_wp2_with fail
        refine (HCs.out _).mono ?_
        rintro e w2 ⟨rfl, rfl⟩
        go_wp2_with fail
        refine (HCt.out _).mono ?_
        rintro e w2 ⟨rfl, rfl⟩
        go_wp2_with fail
        refine (HRa.out _ HL.out).mono ?_
        rintro e w3 ⟨rfl, hb⟩
        have HB := Lib.hid (HB.out.trans (hb.mono HB.out.size)); have HL := Lib.hid (HL.out.on hb)
        clear hb
        go_wp2_with fail
        refine (HRb.out _ HL.out).mono ?_
        rintro e w4 ⟨rfl, hb⟩
        have HB := Lib.hid (HB.out.trans (hb.mono HB.out.size)); have HL := Lib.hid (HL.out.on hb)
        clear hb
        go_wp2_with fail
        refine (HRp.out _ HL.out).mono ?_
        rintro e w5 ⟨rfl, hb⟩
        have HB := Lib.hid (HB.out.trans (hb.mono HB.out.size)); have HL := Lib.hid (HL.out.on hb)
        clear hb
        go_wp2_with fail
        go_ret
        exact ⟨rfl, HB.out⟩
end Go.Proofs.YtmgeefmhnhdmjaaDoor
