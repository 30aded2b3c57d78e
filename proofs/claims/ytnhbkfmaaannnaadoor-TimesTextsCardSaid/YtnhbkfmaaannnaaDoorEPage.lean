/- A page: two, dash, space, colon, year. -/
import Derived.Test.YtnhbkfmaaannnaaDoorEMem
namespace Go.Proofs.YtnhbkfmaaannnaaDoor
open Go.RowKit

def nats (l : List UInt8) : List Nat := l.map UInt8.toNat
theorem nats_append (a b : List UInt8) : nats (a ++ b) = nats a ++ nats b := by simp [nats]
theorem nats_len (a : List UInt8) : (nats a).length = a.length := by simp [nats]
theorem d2_nats {n : Int} (h0 : 0 ≤ n) (h1 : n < 100) : nats (d2 n.toNat) = [(48 + n / 10).toNat, (48 + n % 10).toNat] := by
  simp only [nats, d2, List.map_cons, List.map_nil, dg_nat]
  rw [show (48 + n / 10).toNat = 48 + n.toNat / 10 % 10 by omega, show (48 + n % 10).toNat = 48 + n.toNat % 10 by omega]
/-- A new block with two bytes. -/
theorem RowB.pair (w : World) {y z : Int} (a b : Nat) (ha : a < 256) (hb : b < 256) (hy : y = (a : Int)) (hz : z = (b : Int)) : RowB (w.alloc (.cells #[.int .u8 y, .int .u8 z] 5)) (w.heap.size + 1) (some ⟨w.heap.size, 0, none⟩) 2 2 [a, b] := by
  subst hy hz
  refine ⟨rfl, by simp; exact ⟨ha, hb⟩, by omega, by unfold maxLen; omega, (fun e => by cases e), fun k hk => ⟨w.heap.size, 0, rfl, by omega, ?_⟩⟩
  have hc : k = 0 ∨ k = 1 := by omega
  rw [Nat.zero_add, cell_of_row _ w.heap.size k _ _ _ (heap_alloc_new w _)]
  rcases hc with rfl | rfl <;> rfl
/-- A page in block g: what is written on it is one's own, from block B on. -/
def Page (g B : Nat) (w : World) (l : List UInt8) : Prop := g < B ∧ B ≤ w.heap.size ∧ ∃ v, Box w g 71 #[v] ∧ OwnB w B v (nats l)
theorem Page.lt {g B : Nat} {w : World} {l : List UInt8} (h : Page g B w l) : g < w.heap.size := by have := h.1; have := h.2.1; omega
/-- Below B, only block g may have turned. -/
structure Near (g B : Nat) (w w' : World) : Prop where
  os : w'.os = w.os
  tape : w'.tape = w.tape
  output : w'.output = w.output
  size : w.heap.size ≤ w'.heap.size
  block : ∀ k, k < B → k ≠ g → w'.heap[k]? = w.heap[k]?
theorem Near.trans {g B : Nat} {a b c : World} (h : Near g B a b) (k : Near g B b c) : Near g B a c :=
  ⟨k.os.trans h.os, k.tape.trans h.tape, k.output.trans h.output, Nat.le_trans h.size k.size, fun i hi hn => (k.block i hi hn).trans (h.block i hi hn)⟩
theorem Near.below {g B : Nat} {a b : World} (h : Near g B a b) (hg : g ≤ B) : Below g a b := ⟨h.os, h.tape, h.output, h.size, fun k hk => h.block k (by omega) (by omega)⟩
theorem Near.of {g B i : Nat} {a b : World} (h : Below B a b) (u : Value) : Near g B a (b.setCell ⟨g, i, none⟩ u) :=
  ⟨h.os, h.tape, h.output, by simpa using h.size, fun k hk hn => (Below.heap_setCell b ⟨g, i, none⟩ u k hn).trans (h.block k hk)⟩
theorem Box.near {g B k : Nat} {a b : World} {t : TypeId} {cs : Array Value} (h : Box a k t cs) (hn : Near g B a b) (hk : k < B) (hg : k ≠ g) : Box b k t cs := (hn.block k hk hg).trans h
theorem OwnB.far {w : World} {g B i : Nat} {v u : Value} {bs : List Nat} (h : OwnB w B v bs) (hgB : g < B) : OwnB (w.setCell ⟨g, i, none⟩ u) B v bs := by
  obtain ⟨⟨hl, h⟩, h2⟩ := h
  refine ⟨⟨hl, ?_⟩, h2⟩
  rcases h with h | ⟨g', cap, cur, hv, hg, hh, r⟩
  · exact .inl h
  · exact .inr ⟨g', cap, cur, hv, hg, (Below.heap_setCell w ⟨g, i, none⟩ u g' (by show g' ≠ g; omega)).trans hh, r⟩
/-- What an append to a page leaves. -/
theorem page_grown {g B : Nat} {w w1 w2 : World} {v v' : Value} {bs cs : List Nat} (hgB : g < B) (hB : B ≤ w.heap.size) (h1 : Below w.heap.size w w1) (hb : Box w g 71 #[v]) (ho : OwnB w B v bs) (hg : w1.grownBy w2 v.ownBlock) (ho2 : OwnB w2 B v' cs) :
    ∃ A n c, v' = .slice A n c ∧ Below B w w2 ∧ Box w2 g 71 #[v] ∧ w2.cell? ⟨g, 0, none⟩ = some v ∧ w2.frozen? ⟨g, 0, none⟩ = false := by
  obtain ⟨A, c, rfl, _⟩ := ho2.row
  have hBB : Below B w w2 := (h1.mono hB).grown hg (by have := h1.size; omega) (fun k e => (ho.1.lt k e).1)
  have hx := hb.below hBB hgB
  exact ⟨A, _, c, rfl, hBB, hx, hx.one.1, hx.one.2⟩
theorem page_put {g B : Nat} {w w2 : World} {v v' : Value} {l : List UInt8} (hgB : g < B) (hB : B ≤ w.heap.size) (hb : Below B w w2) (hx : Box w2 g 71 #[v]) (ho : OwnB w2 B v' (nats l)) :
    Near g B w (w2.setCell ⟨g, 0, none⟩ v') ∧ Page g B (w2.setCell ⟨g, 0, none⟩ v') l :=
  ⟨Near.of hb _, hgB, by have := hb.size; simp; omega, _, hx.set 0 _, ho.far hgB⟩
set_option maxRecDepth 100000 in
theorem two_any (g B : Nat) (n : Int) (w : World) (l : List UInt8) (h : Page g B w l) (h0 : 0 ≤ n) (h1 : n < 100) (hl : l.length ≤ 100) :
    Calls Tryd.prog 53 #[.pointer (some ⟨g, 0, none⟩), .int .i64 n] w fun e w' => e = .returned (.tuple #[]) ∧ Near g B w w' ∧ Page g B w' (l ++ d2 n.toNat) := by
  obtain ⟨hgB, hBs, v, hb, ho⟩ := h
  have hd := d2_nats h0 h1
  have HD := Lib.hid hd
  obtain ⟨c0, f0⟩ := hb.one
  have hlt := hb.lt
  have HX := Lib.hid hb; have HO := Lib.hid ho
  have hnl := nats_len l
  have HNL := Lib.hid hnl
  clear hb ho hd hnl
  go_enter Tryd.func53, Tryd.ntmps53
  have hr := RowB.pair w (y := 48 + n / 10) (z := 48 + n % 10) (48 + n / 10).toNat (48 + n % 10).toNat (by omega) (by omega) (by omega) (by omega)
  have HR := Lib.hid hr
  clear hr
  go_wp2_with (at_builtin; refine append_row rfl _ _ rfl B v (nats l) rfl (HO.out.alloc _) (w.heap.size + 1) _ 2 2 _ rfl HR.out (by rw [HNL.out]; omega) (by simp; omega) ?_; intro v' w2 hown2 hgrow2; obtain ⟨A2, n2, c2, rfl, hB2, hx2, k0, k1⟩ := page_grown hgB hBs ((Below.refl w.heap.size w).alloc (Nat.le_refl _) _) HX.out HO.out hgrow2 hown2; have HB2 := Lib.hid hB2; have HX2 := Lib.hid hx2; have HO2 := Lib.hid hown2; clear hB2 hx2 hown2 hgrow2)
  go_end0
  have hq := page_put hgB hBs HB2.out HX2.out (l := l ++ d2 n.toNat) (by rw [nats_append, HD.out]; exact HO2.out)
  exact ⟨rfl, hq⟩
set_option maxRecDepth 100000 in
theorem dash_any (g B : Nat) (n : Int) (w : World) (l : List UInt8) (h : Page g B w l) (h0 : 0 ≤ n) (h1 : n < 100) (hl : l.length ≤ 80) :
    Calls Tryd.prog 38 #[.pointer (some ⟨g, 0, none⟩), .int .i64 n] w fun e w' => e = .returned (.tuple #[]) ∧ Near g B w w' ∧ Page g B w' (l ++ 45 :: d2 n.toNat) := by
  obtain ⟨hgB, hBs, v, hb, ho⟩ := h
  obtain ⟨c0, f0⟩ := hb.one
  have hlt := hb.lt
  have HX := Lib.hid hb; have HO := Lib.hid ho
  have hnl := nats_len l
  have HNL := Lib.hid hnl
  have hr := RowB.fresh w (z := 45) 45 (by omega) (by omega)
  have HR := Lib.hid hr
  clear hb ho hnl hr
  go_enter Tryd.func38, Tryd.ntmps38
  go_wp2_with (at_builtin; refine append_row rfl _ _ rfl B v (nats l) rfl (HO.out.alloc _) (w.heap.size + 1) _ 1 1 _ rfl HR.out (by rw [HNL.out]; omega) (by simp; omega) ?_; intro v' w2 hown2 hgrow2; obtain ⟨A2, n2, c2, rfl, hB2, hx2, k0, k1⟩ := page_grown hgB hBs ((Below.refl w.heap.size w).alloc (Nat.le_refl _) _) HX.out HO.out hgrow2 hown2; have HB2 := Lib.hid hB2; have HX2 := Lib.hid hx2; have HO2 := Lib.hid hown2; clear hB2 hx2 hown2 hgrow2)
  obtain ⟨hnr, hpg⟩ := page_put hgB hBs HB2.out HX2.out (l := l ++ [45]) (by rw [nats_append]; exact HO2.out)
  have HBB := Lib.hid hnr
  clear hnr
  refine (two_any g B n _ (l ++ [45]) hpg h0 h1 (by simp; omega)).mono ?_
  rintro e w3 ⟨rfl, hb, hp⟩
  rw [List.append_assoc] at hp
  have HP := Lib.hid hp
  have HB3 := Lib.hid (HBB.out.trans hb)
  clear hb hp hpg
  go_wp2_with fail
  go_end0
  exact ⟨rfl, HB3.out, HP.out⟩
set_option maxRecDepth 100000 in
theorem space_any (g B : Nat) (n : Int) (w : World) (l : List UInt8) (h : Page g B w l) (h0 : 0 ≤ n) (h1 : n < 100) (hl : l.length ≤ 80) :
    Calls Tryd.prog 39 #[.pointer (some ⟨g, 0, none⟩), .int .i64 n] w fun e w' => e = .returned (.tuple #[]) ∧ Near g B w w' ∧ Page g B w' (l ++ 32 :: d2 n.toNat) := by
  obtain ⟨hgB, hBs, v, hb, ho⟩ := h
  obtain ⟨c0, f0⟩ := hb.one
  have hlt := hb.lt
  have HX := Lib.hid hb; have HO := Lib.hid ho
  have hnl := nats_len l
  have HNL := Lib.hid hnl
  have hr := RowB.fresh w (z := 32) 32 (by omega) (by omega)
  have HR := Lib.hid hr
  clear hb ho hnl hr
  go_enter Tryd.func39, Tryd.ntmps39
  go_wp2_with (at_builtin; refine append_row rfl _ _ rfl B v (nats l) rfl (HO.out.alloc _) (w.heap.size + 1) _ 1 1 _ rfl HR.out (by rw [HNL.out]; omega) (by simp; omega) ?_; intro v' w2 hown2 hgrow2; obtain ⟨A2, n2, c2, rfl, hB2, hx2, k0, k1⟩ := page_grown hgB hBs ((Below.refl w.heap.size w).alloc (Nat.le_refl _) _) HX.out HO.out hgrow2 hown2; have HB2 := Lib.hid hB2; have HX2 := Lib.hid hx2; have HO2 := Lib.hid hown2; clear hB2 hx2 hown2 hgrow2)
  obtain ⟨hnr, hpg⟩ := page_put hgB hBs HB2.out HX2.out (l := l ++ [32]) (by rw [nats_append]; exact HO2.out)
  have HBB := Lib.hid hnr
  clear hnr
  refine (two_any g B n _ (l ++ [32]) hpg h0 h1 (by simp; omega)).mono ?_
  rintro e w3 ⟨rfl, hb, hp⟩
  rw [List.append_assoc] at hp
  have HP := Lib.hid hp
  have HB3 := Lib.hid (HBB.out.trans hb)
  clear hb hp hpg
  go_wp2_with fail
  go_end0
  exact ⟨rfl, HB3.out, HP.out⟩
set_option maxRecDepth 100000 in
theorem colon_any (g B : Nat) (n : Int) (w : World) (l : List UInt8) (h : Page g B w l) (h0 : 0 ≤ n) (h1 : n < 100) (hl : l.length ≤ 80) :
    Calls Tryd.prog 40 #[.pointer (some ⟨g, 0, none⟩), .int .i64 n] w fun e w' => e = .returned (.tuple #[]) ∧ Near g B w w' ∧ Page g B w' (l ++ 58 :: d2 n.toNat) := by
  obtain ⟨hgB, hBs, v, hb, ho⟩ := h
  obtain ⟨c0, f0⟩ := hb.one
  have hlt := hb.lt
  have HX := Lib.hid hb; have HO := Lib.hid ho
  have hnl := nats_len l
  have HNL := Lib.hid hnl
  have hr := RowB.fresh w (z := 58) 58 (by omega) (by omega)
  have HR := Lib.hid hr
  clear hb ho hnl hr
  go_enter Tryd.func40, Tryd.ntmps40
  go_wp2_with (at_builtin; refine append_row rfl _ _ rfl B v (nats l) rfl (HO.out.alloc _) (w.heap.size + 1) _ 1 1 _ rfl HR.out (by rw [HNL.out]; omega) (by simp; omega) ?_; intro v' w2 hown2 hgrow2; obtain ⟨A2, n2, c2, rfl, hB2, hx2, k0, k1⟩ := page_grown hgB hBs ((Below.refl w.heap.size w).alloc (Nat.le_refl _) _) HX.out HO.out hgrow2 hown2; have HB2 := Lib.hid hB2; have HX2 := Lib.hid hx2; have HO2 := Lib.hid hown2; clear hB2 hx2 hown2 hgrow2)
  obtain ⟨hnr, hpg⟩ := page_put hgB hBs HB2.out HX2.out (l := l ++ [58]) (by rw [nats_append]; exact HO2.out)
  have HBB := Lib.hid hnr
  clear hnr
  refine (two_any g B n _ (l ++ [58]) hpg h0 h1 (by simp; omega)).mono ?_
  rintro e w3 ⟨rfl, hb, hp⟩
  rw [List.append_assoc] at hp
  have HP := Lib.hid hp
  have HB3 := Lib.hid (HBB.out.trans hb)
  clear hb hp hpg
  go_wp2_with fail
  go_end0
  exact ⟨rfl, HB3.out, HP.out⟩
set_option maxRecDepth 100000 in
theorem year_any (g B : Nat) (n : Int) (w : World) (l : List UInt8) (h : Page g B w l) (h0 : 0 ≤ n) (h1 : n < 10000) (hl : l.length ≤ 80) :
    Calls Tryd.prog 37 #[.pointer (some ⟨g, 0, none⟩), .int .i64 n] w fun e w' => e = .returned (.tuple #[]) ∧ Near g B w w' ∧ Page g B w' (l ++ d4 n.toNat) := by
  have hd : d4 n.toNat = d2 (n / 100).toNat ++ d2 (n % 100).toNat := by
    rw [d4_two, show (n / 100).toNat = n.toNat / 100 by omega, show (n % 100).toNat = n.toNat % 100 by omega]
    unfold d2
    rw [show n.toNat % 100 / 10 = n.toNat % 100 / 10 by rfl]
    congr 2
    · apply UInt8.toNat_inj.1; rw [dg_nat, dg_nat]; omega
    · congr 1
      apply UInt8.toNat_inj.1; rw [dg_nat, dg_nat]; omega
  have HD := Lib.hid hd; have H := Lib.hid h
  clear hd h
  go_enter Tryd.func37, Tryd.ntmps37
  go_wp2_with fail
  refine (two_any g B (n / 100) w l H.out (by omega) (by omega) (by omega)).mono ?_
  rintro e w2 ⟨rfl, hb, hp⟩
  have HP := Lib.hid hp; have HB := Lib.hid hb
  clear hb hp
  go_wp2_with fail
  refine (two_any g B (n % 100) w2 _ HP.out (by omega) (by omega) (by simp [d2]; omega)).mono ?_
  rintro e w3 ⟨rfl, hb, hp⟩
  have HB3 := Lib.hid (HB.out.trans hb)
  rw [List.append_assoc, ← HD.out] at hp
  have HP3 := Lib.hid hp
  clear hb hp
  go_wp2_with fail
  go_end0
  exact ⟨rfl, HB3.out, HP3.out⟩
end Go.Proofs.YtnhbkfmaaannnaaDoor
