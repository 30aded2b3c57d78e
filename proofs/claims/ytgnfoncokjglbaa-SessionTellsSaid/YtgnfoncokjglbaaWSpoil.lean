/- Sessions written over: only their own memory turns: walked. -/
import Derived.Test.YtgnfoncokjglbaaWMap
namespace Go.Proofs.Ytgnfoncokjglbaa
open Go.RowKit

/-- These rows, and their names, lie in blocks from base to mid; what kinds their cells have. -/
structure Sp (base mid : Nat) (w : World) (A : Option Addr) (vs : List Value) : Prop where
  rows : ∀ (j : Nat) u, vs[j]? = some u → ∃ g cur, A = some ⟨g, 0, none⟩ ∧ base ≤ g ∧ g < mid ∧ SBox w g 42 cur ∧ (∃ x, cur[j * 4 + 1]? = some (.int .u64 x)) ∧ cur[j * 4 + 3]? = some u
  nums : ∀ u ∈ vs, ∃ A l c, u = .slice A l c ∧ l ≤ c ∧ c ≤ maxLen ∧ ∀ i, i < l → ∃ g cur, A = some ⟨g, 0, none⟩ ∧ base ≤ g ∧ g < mid ∧ SBox w g 64 cur ∧ ∃ x, cur[i]? = some (.int .u32 x)
theorem sp_of {w : World} {base : Nat} {A : Option Addr} {n c : Nat} {ms : List SesM} (h : OwnS w base (.slice A n c) ms) : Sp base w.heap.size w A (ms.map (·.2)) := by
  refine ⟨fun j u hj => ?_, fun u hu => ?_⟩
  · rw [List.getElem?_map] at hj
    cases hm : ms[j]? with
    | none => rw [hm] at hj; cases hj
    | some m =>
      rw [hm] at hj
      cases hj
      have hjl := (List.getElem?_eq_some_iff.1 hm).1
      rcases h.row.2 with ⟨_, h0⟩ | ⟨g, cap, cur, e, hg, hh, _⟩
      · omega
      · injection e with hA hn hcc
        subst hA hn hcc
        have hx : SBox w g 42 cur := hh
        have hc : ∀ i, i < 4 → cur[j * 4 + i]? = (sesC m)[i]? := fun i hi => by
          have h1 := World.ownsRow.cellAt h.row (j * 4 + i) (by omega)
          rw [hx.cell, sflat_at j m hm i hi] at h1
          exact h1
        exact ⟨g, cur, rfl, hg, hx.lt, hx, ⟨m.1.seq, hc 1 (by omega)⟩, hc 3 (by omega)⟩
  · obtain ⟨m, hm, rfl⟩ := List.mem_map.1 hu
    have ho := (h.ok m hm).2
    obtain ⟨A', c', e, hr⟩ := ho.nr
    refine ⟨A', m.1.rep.names.length, c', e, hr.cap, hr.top, fun i hi => ?_⟩
    rcases ho.2 with ⟨_, h0⟩ | ⟨g, cap, cur, e2, hg, hh, _⟩
    · omega
    · rw [e] at e2
      have hA : A' = some ⟨g, 0, none⟩ := by injection e2
      have hx : SBox w g 64 cur := hh
      obtain ⟨x, hxi⟩ : ∃ x, m.1.rep.names[i]? = some x := ⟨_, List.getElem?_eq_getElem hi⟩
      obtain ⟨b, o, e3, _, hc⟩ := hr.at_ hxi
      rw [hA] at e3
      cases e3
      rw [hx.cell, Nat.zero_add] at hc
      exact ⟨g, cur, hA, hg, hx.lt, hx, x, hc⟩
theorem box_one {w : World} {g : Nat} {t t' : TypeId} {cs cs' : Array Value} (h : SBox w g t cs) (h' : SBox w g t' cs') : t = t' ∧ cs = cs' := by
  unfold SBox at h h'
  rw [h] at h'
  injection h' with h'
  injection h' with h1 h2
  exact ⟨h2, h1⟩
theorem Sp.num {base mid : Nat} {w : World} {A : Option Addr} {vs : List Value} (h : Sp base mid w A vs) {g i : Nat} {cur : Array Value} (hx : SBox w g 64 cur) (y : Int) : Sp base mid (w.setCell ⟨g, i, none⟩ (.int .u32 y)) A vs := by
  refine ⟨fun j u hj => ?_, fun u hu => ?_⟩
  · obtain ⟨g', cur', hA, h1, h2, hx', r⟩ := h.rows j u hj
    refine ⟨g', cur', hA, h1, h2, hx'.far (fun e => ?_) _, r⟩
    subst e
    exact absurd (box_one hx hx').1 (by decide)
  · obtain ⟨A', l, c, e, h1, h2, hn⟩ := h.nums u hu
    refine ⟨A', l, c, e, h1, h2, fun i' hi' => ?_⟩
    obtain ⟨g', cur', hA, k1, k2, hx', x, hc⟩ := hn i' hi'
    by_cases eg : g' = g
    · subst eg
      obtain ⟨_, rfl⟩ := box_one hx hx'
      refine ⟨g', _, hA, k1, k2, hx.set i _, ?_⟩
      by_cases ei : i' = i
      · subst ei
        exact ⟨y, by rw [Array.getElem?_setIfInBounds]; simp [(Array.getElem?_eq_some_iff.1 hc).1]⟩
      · exact ⟨x, by rw [Array.getElem?_setIfInBounds, if_neg (fun e => ei e.symm)]; exact hc⟩
    · exact ⟨g', cur', hA, k1, k2, hx'.far eg _, x, hc⟩
theorem Sp.seq {base mid : Nat} {w : World} {A : Option Addr} {vs : List Value} (h : Sp base mid w A vs) {g j : Nat} {cur : Array Value} (hx : SBox w g 42 cur) (y : Int) : Sp base mid (w.setCell ⟨g, j * 4 + 1, none⟩ (.int .u64 y)) A vs := by
  refine ⟨fun j' u hj => ?_, fun u hu => ?_⟩
  · obtain ⟨g', cur', hA, h1, h2, hx', ⟨x, hc1⟩, hc3⟩ := h.rows j' u hj
    by_cases eg : g' = g
    · subst eg
      obtain ⟨_, rfl⟩ := box_one hx hx'
      refine ⟨g', _, hA, h1, h2, hx.set _ _, ?_, ?_⟩
      · by_cases ei : j' = j
        · subst ei
          exact ⟨y, by rw [Array.getElem?_setIfInBounds]; simp [(Array.getElem?_eq_some_iff.1 hc1).1]⟩
        · exact ⟨x, by rw [Array.getElem?_setIfInBounds, if_neg (by omega)]; exact hc1⟩
      · rw [Array.getElem?_setIfInBounds, if_neg (by omega)]; exact hc3
    · exact ⟨g', cur', hA, h1, h2, hx'.far eg _, ⟨x, hc1⟩, hc3⟩
  · obtain ⟨A', l, c, e, h1, h2, hn⟩ := h.nums u hu
    refine ⟨A', l, c, e, h1, h2, fun i' hi' => ?_⟩
    obtain ⟨g', cur', hA, k1, k2, hx', r⟩ := hn i' hi'
    refine ⟨g', cur', hA, k1, k2, hx'.far (fun e => ?_) _, r⟩
    subst e
    exact absurd (box_one hx hx').1 (by decide)
theorem Sp.on {base mid : Nat} {w w' : World} {A : Option Addr} {vs : List Value} (h : Sp base mid w A vs) (hb : Below w.heap.size w w') : Sp base mid w' A vs := by
  refine ⟨fun j u hj => ?_, fun u hu => ?_⟩
  · obtain ⟨g, cur, hA, h1, h2, hx, r⟩ := h.rows j u hj
    exact ⟨g, cur, hA, h1, h2, hx.on hb, r⟩
  · obtain ⟨A', l, c, e, h1, h2, hn⟩ := h.nums u hu
    exact ⟨A', l, c, e, h1, h2, fun i hi => by
      obtain ⟨g, cur, hA, k1, k2, hx, r⟩ := hn i hi
      exact ⟨g, cur, hA, k1, k2, hx.on hb, r⟩⟩
theorem Sp.far {base mid : Nat} {w : World} {A : Option Addr} {vs : List Value} (h : Sp base mid w A vs) {p i : Nat} (hp : mid ≤ p) (y : Value) : Sp base mid (w.setCell ⟨p, i, none⟩ y) A vs := by
  refine ⟨fun j u hj => ?_, fun u hu => ?_⟩
  · obtain ⟨g, cur, hA, h1, h2, hx, r⟩ := h.rows j u hj
    exact ⟨g, cur, hA, h1, h2, hx.far (by omega) _, r⟩
  · obtain ⟨A', l, c, e, h1, h2, hn⟩ := h.nums u hu
    exact ⟨A', l, c, e, h1, h2, fun i' hi' => by
      obtain ⟨g, cur, hA, k1, k2, hx, r⟩ := hn i' hi'
      exact ⟨g, cur, hA, k1, k2, hx.far (by omega) _, r⟩⟩
/-- Only blocks from base to mid have turned. -/
def Within (base mid : Nat) (w w' : World) : Prop := Below base w w' ∧ ∀ g, mid ≤ g → g < w.heap.size → w'.heap[g]? = w.heap[g]?
theorem Within.set {base mid : Nat} {w w' : World} (h : Within base mid w w') {g i : Nat} (h1 : base ≤ g) (h2 : g < mid) (u : Value) : Within base mid w (w'.setCell ⟨g, i, none⟩ u) :=
  ⟨h.1.setCell h1 u, fun k hk hl => (Below.heap_setCell w' ⟨g, i, none⟩ u k (by show k ≠ g; omega)).trans (h.2 k hk hl)⟩
theorem Within.box {base mid : Nat} {w w' : World} (h : Within base mid w w') {g : Nat} {t : TypeId} {cs : Array Value} (hx : SBox w g t cs) (hg : mid ≤ g) : SBox w' g t cs := (h.2 g hg hx.lt).trans hx
theorem OwnS.within {base mid : Nat} {w w' : World} {v : Value} {ms : List SesM} (h : OwnS w mid v ms) (hw : Within base mid w w') : OwnS w' mid v ms := by
  have one : ∀ {t : TypeId} {s n : Nat} {u : Value} {xs : List Value}, w.ownsRow mid t s u n xs → w'.ownsRow mid t s u n xs := fun {t s n u xs} h => by
    refine ⟨h.1, ?_⟩
    rcases h.2 with h2 | ⟨g, cap, cur, hv, hg, hh, r⟩
    · exact .inl h2
    · exact .inr ⟨g, cap, cur, hv, hg, (hw.2 g hg (Array.getElem?_eq_some_iff.1 hh).1).trans hh, r⟩
  exact ⟨one h.row, fun m hm => ⟨(h.ok m hm).1, one (h.ok m hm).2⟩⟩
set_option maxRecDepth 100000 in
set_option maxHeartbeats 4000000 in
theorem spoil_any (base mid : Nat) (A : Option Addr) (n c : Nat) (vs : List Value) (w : World) (h : Sp base mid w A vs) (hn : vs.length = n) (hnc : n ≤ 1000) (hm : mid ≤ w.heap.size) (hbm : base ≤ mid) :
    Calls Try.prog 21 #[.agg #[.slice A n c]] w fun e w' => (∃ v, e = .returned v) ∧ Within base mid w w' := by
  have hb0 := new_below w (.cells #[.slice A n c] 24)
  have hx0 := SBox.new w 24 #[.slice A n c]
  have HS := Lib.hid (h.on hb0)
  obtain ⟨W0, hW0⟩ : ∃ W0 : World, W0 = w.alloc (.cells #[.slice A n c] 24) := ⟨_, rfl⟩
  rw [← hW0] at hb0 hx0 HS
  have HW0 : Hid (Within base mid w W0) := Lib.hid ⟨hb0.mono (by omega), fun g _ hl => hb0.block g hl⟩
  have HX0 := Lib.hid hx0; have HN := Lib.hid hn; have HM := Lib.hid hm; have HZ0 : Hid (w.heap.size < W0.heap.size) := Lib.hid hx0.lt
  clear hb0 hx0 h hn hm
  go_enter Try.func21, Try.ntmps21
  have c0 := HX0.out.one
  rw [hW0] at c0
  go_wp2_with fail
  rw [← hW0]
  clear hW0 c0
  go_loopw [7] (fun i wr => ∃ k : Nat, k ≤ n ∧ i = .int .i64 (k : Int) ∧ Sp base mid wr A vs ∧ Within base mid W0 wr ∧ wr.heap.size = W0.heap.size) (fun i _ => n - (intOf i).toNat)
  case atStart => exact ⟨0, by omega, rfl, HS.out, ⟨Below.refl _ _, fun _ _ _ => rfl⟩, rfl⟩
  case round =>
    obtain ⟨k, hk, rfl, hsp, hwi, hzz⟩ := hrel
    have HSP := Lib.hid hsp; have HWI := Lib.hid hwi; have HZZ := Lib.hid hzz
    have c0 := (hwi.box HX0.out HM.out).one
    clear hsp hwi hzz
    by_cases hlt : k < n
    · obtain ⟨u, hu⟩ : ∃ u, vs[k]? = some u := ⟨_, List.getElem?_eq_getElem (by have := HN.out; omega)⟩
      have HU := Lib.hid hu
      obtain ⟨g, cur, rfl, g1, g2, hx, ⟨x, hc1⟩, hc3⟩ := HSP.out.rows k u hu
      obtain ⟨A', l, c', rfl, l1, l2, _⟩ := HSP.out.nums u (List.mem_of_getElem? hu)
      have d3 : wr.cell? ⟨g, k * 4 + 3, none⟩ = some (.slice A' l c') := by rw [hx.cell]; exact hc3
      have i0 : (0 : Int) ≤ (k : Int) := by omega
      have i1 : (k : Int) < (n : Int) := by omega
      have hl63 : l ≤ 9223372036854775807 := by unfold maxLen at l2; omega
      have HG1 := Lib.hid g1; have HG2 := Lib.hid g2
      clear hu hx hc1 hc3 g1 g2 l1 l2
      go_wp2_with fail
      generalize wr = we at *
      go_loopw [18] (fun q wr => ∃ i : Nat, i ≤ l ∧ q = .int .i64 (i : Int) ∧ Sp base mid wr (some ⟨g, 0, none⟩) vs ∧ Within base mid W0 wr ∧ wr.heap.size = W0.heap.size) (fun q _ => l - (intOf q).toNat)
      case atStart => exact ⟨0, by omega, rfl, HSP.out, HWI.out, HZZ.out⟩
      case round =>
        obtain ⟨i, hi, rfl, hsp, hwi, hzz⟩ := hrel
        have HSP2 := Lib.hid hsp; have HWI2 := Lib.hid hwi; have HZZ2 := Lib.hid hzz
        have e0 := (hwi.box HX0.out HM.out).one
        obtain ⟨g9, cur9, he9, g91, g92, hx9, ⟨x9, hc91⟩, hc93⟩ := hsp.rows k _ HU.out
        cases he9
        have HX9 := Lib.hid hx9
        have e3 : wr.cell? ⟨g, k * 4 + 3, none⟩ = some (.slice A' l c') := by rw [hx9.cell]; exact hc93
        have e1 : wr.cell? ⟨g, k * 4 + 1, none⟩ = some (.int .u64 x9) := by rw [hx9.cell]; exact hc91
        have hf9 := hx9.frozen (k * 4 + 1)
        obtain ⟨B8, l8, c8, heq, l1, l2, hnn⟩ := hsp.nums _ (List.mem_of_getElem? HU.out)
        cases heq
        have HNN := Lib.hid hnn
        clear hsp hwi hzz hx9 hc91 hc93 g91 g92 l1 l2 hnn
        by_cases hil : i < l
        · obtain ⟨gn, curn, rfl, n1, n2, hxn, y, hcn⟩ := HNN.out i hil
          have HXN := Lib.hid hxn; have HN1 := Lib.hid n1; have HN2 := Lib.hid n2
          have en : wr.cell? ⟨gn, i, none⟩ = some (.int .u32 y) := by rw [hxn.cell]; exact hcn
          have hfn := hxn.frozen i
          have j0 : (0 : Int) ≤ (i : Int) := by omega
          have j1 : (i : Int) < (l : Int) := by omega
          clear hxn hcn n1 n2
          go_wp2_with fail
          go_roundw
          case rel => exact ⟨i + 1, by omega, by go_num, HSP2.out.num HXN.out _, HWI2.out.set HN1.out HN2.out _, by simp [World.setCell]; exact HZZ2.out⟩
          case measure => simp [intOf]; omega
        · go_wp2_with fail
          go_roundw
          case rel => exact ⟨k + 1, by omega, by go_num, HSP2.out.seq HX9.out _, HWI2.out.set HG1.out HG2.out _, by simp [World.setCell]; exact HZZ2.out⟩
          case measure => simp [intOf]; omega
    · go_wp2_with fail
      have hw9 : Within base mid w wr := ⟨HW0.out.1.trans HWI.out.1, fun g hg hl => (HWI.out.2 g hg (by have := HZ0.out; omega)).trans (HW0.out.2 g hg hl)⟩
      exact bodyPost_end (v := .tuple #[]) (by simp [results, Try.results21, go_sem]) rfl ⟨⟨_, rfl⟩, hw9⟩
end Go.Proofs.Ytgnfoncokjglbaa
