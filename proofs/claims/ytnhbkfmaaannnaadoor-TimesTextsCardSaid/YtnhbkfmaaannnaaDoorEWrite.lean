/- Text: the text of a time. -/
import Derived.Test.YtnhbkfmaaannnaaDoorEPage
import Derived.Laws.BytesString
namespace Go.Proofs.YtnhbkfmaaannnaaDoor
open Go.RowKit

/-- A string of these bytes. -/
def strV (l : List UInt8) : Value := .string ⟨l.toArray⟩
theorem push_all : ∀ (l : List UInt8) (r : ByteArray), (l.map fun x => ((x.toNat : Nat) : Int)).foldl (fun (r : ByteArray) (n : Int) => r.push (UInt8.ofNat n.toNat)) r = ⟨r.data ++ l.toArray⟩
  | [], r => by simp
  | x :: l, r => by
    rw [List.map_cons, List.foldl_cons, push_all l]
    have e : (r.push (UInt8.ofNat ((x.toNat : Nat) : Int).toNat)).data = r.data.push x := by
      rw [show ((x.toNat : Nat) : Int).toNat = x.toNat by omega, UInt8.ofNat_toNat]; rfl
    rw [e]
    congr 1
    apply Array.toList_inj.1
    simp
theorem page_string {w : World} {B n c : Nat} {A : Option Addr} {l : List UInt8} (h : RowB w B A n c (nats l)) (h0 : 0 < n) : (convert 71 9 (.slice A n c)).run Tryd.prog w = .ok (strV l) w := by
  rw [run_convert_bytes_string w _ _ _ A n c Tryd.underlying71 Tryd.underlying5 Tryd.underlying9]
  obtain ⟨b, o, rfl, _, _⟩ := h.at_ 0 h0
  refine (run_bytesToString w _ n c (l.map fun x => ((x.toNat : Nat) : Int)) ?_).trans (by rw [push_all]; simp [strV])
  have hl := h.len
  have hn : n = ((nats l).map bv).length := by simpa using hl.symm
  have := run_loadCells_list (P := Tryd.prog) w ⟨b, o, none⟩ ((nats l).map bv) (fun j v hj => by
    have hjl : j < n := by have := (List.getElem?_eq_some_iff.1 hj).1; omega
    obtain ⟨b2, o2, e, _, hc⟩ := h.at_ j hjl
    cases e
    rw [add_none, hc, ← hj, bv_at _ _ (by omega)])
  rw [← hn] at this
  rw [this]
  congr 2
  simp [nats, bv, Function.comp_def]
set_option maxRecDepth 100000 in
theorem text_no (t : Int) (w : World) (h : ¬ TimeZ t) :
    Calls Tryd.prog 25 #[.int .i64 t] w fun e w' => e = .returned (.tuple #[strV [], .int .i64 2]) ∧ Below w.heap.size w w' := by
  have H1 := Lib.hid h
  clear h
  go_enter Tryd.func25, Tryd.ntmps25
  go_wp2_with fail
  refine (tat_no t w H1.out).mono ?_
  rintro e w2 ⟨rfl, hb⟩
  have HB := Lib.hid hb
  clear hb
  unfold civV
  go_wp2_with fail
  go_ret2
  exact ⟨rfl, HB.out.alloc HB.out.size _⟩
theorem CivOf.bounds {t y m d h mi s : Int} (c : CivOf t y m d h mi s) : 0 ≤ y ∧ y < 10000 ∧ 0 ≤ m ∧ m < 100 ∧ 0 ≤ d ∧ d < 100 ∧ 0 ≤ h ∧ h < 100 ∧ 0 ≤ mi ∧ mi < 100 ∧ 0 ≤ s ∧ s < 100 := by
  have k := c.right.month
  have k2 := (mlZ_top y m).2
  obtain ⟨a, b, c1, d1⟩ := c.right
  have := c.h0; have := c.h1; have := c.m0; have := c.m1; have := c.s0; have := c.s1
  omega
/-- What stands on the page behind so many numbers. -/
def pre (y m d h mi s : Int) : Nat → List UInt8
  | 0 => []
  | 1 => d4 y.toNat
  | 2 => d4 y.toNat ++ 45 :: d2 m.toNat
  | 3 => d4 y.toNat ++ 45 :: d2 m.toNat ++ 45 :: d2 d.toNat
  | 4 => d4 y.toNat ++ 45 :: d2 m.toNat ++ 45 :: d2 d.toNat ++ 32 :: d2 h.toNat
  | 5 => d4 y.toNat ++ 45 :: d2 m.toNat ++ 45 :: d2 d.toNat ++ 32 :: d2 h.toNat ++ 58 :: d2 mi.toNat
  | _ => d4 y.toNat ++ 45 :: d2 m.toNat ++ 45 :: d2 d.toNat ++ 32 :: d2 h.toNat ++ 58 :: d2 mi.toNat ++ 58 :: d2 s.toNat
theorem pre_six (y m d h mi s : Int) : pre y m d h mi s 6 = textZ y m d h mi s := by
  simp only [pre, textZ, textB, List.append_assoc, List.cons_append]
/-- What puts the numbers on the page in block g. -/
def pageFs (g : Nat) : Array Value := #[.func (.func 37) #[.pointer (some ⟨g, 0, none⟩)] #[], .func (.func 38) #[.pointer (some ⟨g, 0, none⟩)] #[], .func (.func 38) #[.pointer (some ⟨g, 0, none⟩)] #[], .func (.func 39) #[.pointer (some ⟨g, 0, none⟩)] #[], .func (.func 40) #[.pointer (some ⟨g, 0, none⟩)] #[], .func (.func 40) #[.pointer (some ⟨g, 0, none⟩)] #[]]
theorem index_fn (w : World) (fs : Array Value) (j : Nat) (v : Value) (hj : j < 6) (hv : fs[j]? = some v) : (Instr.index 74 (.agg fs) (.int .i64 (j : Int))).run Tryd.prog w = .ok v w := by
  have hj2 : ¬ 6 ≤ j := by omega
  simp [Instr.index, asIntOf, Sem.run_bind, run_underlying Tryd.underlying74, Tryd.sizeOf73, Tryd.isAgg73, part, hv, Result.andThen, hj2]
set_option maxRecDepth 100000 in
set_option maxHeartbeats 1000000 in
theorem text_ok (t : Int) (w : World) (hL : Laid w) (ht : TimeZ t) :
    Calls Tryd.prog 25 #[.int .i64 t] w fun e w' => ∃ y m d h mi s : Int, e = .returned (.tuple #[strV (textZ y m d h mi s), .int .i64 0]) ∧ CivOf t y m d h mi s ∧ Below w.heap.size w w' := by
  have H1 := Lib.hid ht
  have HL := Lib.hid hL
  clear ht hL
  have hmf : ∀ (fn : Fn) (first cap : Array Value) (w : World), (Instr.makeFunc fn first cap).run Tryd.prog w = .ok (.func fn first cap) w := fun _ _ _ _ => rfl
  go_enter Tryd.func25, Tryd.ntmps25
  go_wp2_with fail
  refine (tat_ok t w HL.out H1.out).mono ?_
  rintro e w2 ⟨y, m, d, h, mi, s, rfl, hc, hb⟩
  obtain ⟨b0, bB, bs⟩ := box_civ w2 y m d h mi s
  have HB := Lib.hid (hb.trans (bB.mono hb.size)); have HX := Lib.hid b0; have HC := Lib.hid hc; have HS := Lib.hid bs; have HS2 := Lib.hid hb.size
  unfold civO at HB HX HS
  clear hb bB b0 hc bs HL
  unfold civV
  go_wp2_with fail
  have hp0 : Page (w2.heap.size + 1) (w2.heap.size + 3) (((w2.alloc (civO y m d h mi s)).alloc (.cells #[.slice none 0 0] 71)).alloc (.cells #[.int .i64 y, .int .i64 m, .int .i64 d, .int .i64 h, .int .i64 mi, .int .i64 s] 72)) [] := by
    refine ⟨by omega, by simp, _, ?_, OwnB.nil _ _⟩
    have := (Box.new (w2.alloc (civO y m d h mi s)) 71 #[.slice none 0 0]).alloc (.cells #[.int .i64 y, .int .i64 m, .int .i64 d, .int .i64 h, .int .i64 mi, .int .i64 s] 72)
    rwa [show (w2.alloc (civO y m d h mi s)).heap.size = w2.heap.size + 1 by simp] at this
  have hl0 : Box (((w2.alloc (civO y m d h mi s)).alloc (.cells #[.slice none 0 0] 71)).alloc (.cells #[.int .i64 y, .int .i64 m, .int .i64 d, .int .i64 h, .int .i64 mi, .int .i64 s] 72)) (w2.heap.size + 2) 72 #[.int .i64 y, .int .i64 m, .int .i64 d, .int .i64 h, .int .i64 mi, .int .i64 s] := by
    have := Box.new ((w2.alloc (civO y m d h mi s)).alloc (.cells #[.slice none 0 0] 71)) 72 #[.int .i64 y, .int .i64 m, .int .i64 d, .int .i64 h, .int .i64 mi, .int .i64 s]
    rwa [show ((w2.alloc (civO y m d h mi s)).alloc (.cells #[.slice none 0 0] 71)).heap.size = w2.heap.size + 2 by simp] at this
  have hb0 : Below w.heap.size w (((w2.alloc (civO y m d h mi s)).alloc (.cells #[.slice none 0 0] 71)).alloc (.cells #[.int .i64 y, .int .i64 m, .int .i64 d, .int .i64 h, .int .i64 mi, .int .i64 s] 72)) := by
    have q := HS2.out
    exact (HB.out.alloc (by simp; omega) _).alloc (by simp; omega) _
  unfold civO at hp0 hl0 hb0
  have HP0 := Lib.hid hp0; have HL0 := Lib.hid hl0; have HB0 := Lib.hid hb0
  clear hp0 hl0 hb0
  rw [show w2.heap.size + 1 + 1 = w2.heap.size + 2 by rfl]
  go_loopw [41] (fun i wr => ∃ k : Nat, k ≤ 6 ∧ i = .int .i64 k ∧ Page (w2.heap.size + 1) (w2.heap.size + 3) wr (pre y m d h mi s k) ∧ Box wr (w2.heap.size + 2) 72 #[.int .i64 y, .int .i64 m, .int .i64 d, .int .i64 h, .int .i64 mi, .int .i64 s] ∧ Below w.heap.size w wr) (fun i _ => 6 - (intOf i).toNat)
  case atStart => exact ⟨0, by omega, rfl, HP0.out, HL0.out, HB0.out⟩
  case round =>
    obtain ⟨k, hk, rfl, hp, hl, hb⟩ := hrel
    have HP := Lib.hid hp; have HLr := Lib.hid hl; have HBr := Lib.hid hb
    obtain ⟨x0, x1, x2, x3, x4, x5, _⟩ := hl.six
    obtain ⟨y0, y1, m0, m1, d0, d1, h0, h1, i0, i1, s0, s1⟩ := HC.out.bounds
    have hc6 : k = 0 ∨ k = 1 ∨ k = 2 ∨ k = 3 ∨ k = 4 ∨ k = 5 ∨ k = 6 := by omega
    clear hp hl hb HP0 HL0 HB0 hk
    rcases hc6 with rfl | rfl | rfl | rfl | rfl | rfl | rfl
    · have hix := fun W => index_fn W (pageFs (w2.heap.size + 1)) 0 _ (by decide) rfl
      unfold pageFs at hix
      rw [show ((0 : Nat) : Int) = 0 by rfl] at hix
      rw [show ((0 : Nat) : Int) = 0 by rfl]
      go_wp2_with fail
      refine (year_any (w2.heap.size + 1) (w2.heap.size + 3) y wr _ HP.out (by omega) (by omega) (by simp [pre])).mono ?_
      rintro e w4 ⟨rfl, hn, hp⟩
      have hl4 := HLr.out.near hn (by omega) (by omega)
      have hb4 := HBr.out.trans ((hn.below (by omega)).mono (by have := HS2.out; omega))
      have HP4 := Lib.hid hp; have HL4 := Lib.hid hl4; have HB4 := Lib.hid hb4
      clear hn hp hl4 hb4 x0 x1 x2 x3 x4 x5 hix
      go_wp2_with fail
      go_roundw
      case rel => exact ⟨1, by omega, by go_num, HP4.out, HL4.out, HB4.out⟩
      case measure => simp [intOf]
    · have hix := fun W => index_fn W (pageFs (w2.heap.size + 1)) 1 _ (by decide) rfl
      unfold pageFs at hix
      rw [show ((1 : Nat) : Int) = 1 by rfl] at hix
      rw [show ((1 : Nat) : Int) = 1 by rfl]
      go_wp2_with fail
      refine (dash_any (w2.heap.size + 1) (w2.heap.size + 3) m wr _ HP.out (by omega) (by omega) (by simp [pre, d4])).mono ?_
      rintro e w4 ⟨rfl, hn, hp⟩
      have hl4 := HLr.out.near hn (by omega) (by omega)
      have hb4 := HBr.out.trans ((hn.below (by omega)).mono (by have := HS2.out; omega))
      have HP4 := Lib.hid hp; have HL4 := Lib.hid hl4; have HB4 := Lib.hid hb4
      clear hn hp hl4 hb4 x0 x1 x2 x3 x4 x5 hix
      go_wp2_with fail
      go_roundw
      case rel => exact ⟨2, by omega, by go_num, HP4.out, HL4.out, HB4.out⟩
      case measure => simp [intOf]
    · have hix := fun W => index_fn W (pageFs (w2.heap.size + 1)) 2 _ (by decide) rfl
      unfold pageFs at hix
      rw [show ((2 : Nat) : Int) = 2 by rfl] at hix
      rw [show ((2 : Nat) : Int) = 2 by rfl]
      go_wp2_with fail
      refine (dash_any (w2.heap.size + 1) (w2.heap.size + 3) d wr _ HP.out (by omega) (by omega) (by simp [pre, d4, d2])).mono ?_
      rintro e w4 ⟨rfl, hn, hp⟩
      have hl4 := HLr.out.near hn (by omega) (by omega)
      have hb4 := HBr.out.trans ((hn.below (by omega)).mono (by have := HS2.out; omega))
      have HP4 := Lib.hid hp; have HL4 := Lib.hid hl4; have HB4 := Lib.hid hb4
      clear hn hp hl4 hb4 x0 x1 x2 x3 x4 x5 hix
      go_wp2_with fail
      go_roundw
      case rel => exact ⟨3, by omega, by go_num, HP4.out, HL4.out, HB4.out⟩
      case measure => simp [intOf]
    · have hix := fun W => index_fn W (pageFs (w2.heap.size + 1)) 3 _ (by decide) rfl
      unfold pageFs at hix
      rw [show ((3 : Nat) : Int) = 3 by rfl] at hix
      rw [show ((3 : Nat) : Int) = 3 by rfl]
      go_wp2_with fail
      refine (space_any (w2.heap.size + 1) (w2.heap.size + 3) h wr _ HP.out (by omega) (by omega) (by simp [pre, d4, d2])).mono ?_
      rintro e w4 ⟨rfl, hn, hp⟩
      have hl4 := HLr.out.near hn (by omega) (by omega)
      have hb4 := HBr.out.trans ((hn.below (by omega)).mono (by have := HS2.out; omega))
      have HP4 := Lib.hid hp; have HL4 := Lib.hid hl4; have HB4 := Lib.hid hb4
      clear hn hp hl4 hb4 x0 x1 x2 x3 x4 x5 hix
      go_wp2_with fail
      go_roundw
      case rel => exact ⟨4, by omega, by go_num, HP4.out, HL4.out, HB4.out⟩
      case measure => simp [intOf]
    · have hix := fun W => index_fn W (pageFs (w2.heap.size + 1)) 4 _ (by decide) rfl
      unfold pageFs at hix
      rw [show ((4 : Nat) : Int) = 4 by rfl] at hix
      rw [show ((4 : Nat) : Int) = 4 by rfl]
      go_wp2_with fail
      refine (colon_any (w2.heap.size + 1) (w2.heap.size + 3) mi wr _ HP.out (by omega) (by omega) (by simp [pre, d4, d2])).mono ?_
      rintro e w4 ⟨rfl, hn, hp⟩
      have hl4 := HLr.out.near hn (by omega) (by omega)
      have hb4 := HBr.out.trans ((hn.below (by omega)).mono (by have := HS2.out; omega))
      have HP4 := Lib.hid hp; have HL4 := Lib.hid hl4; have HB4 := Lib.hid hb4
      clear hn hp hl4 hb4 x0 x1 x2 x3 x4 x5 hix
      go_wp2_with fail
      go_roundw
      case rel => exact ⟨5, by omega, by go_num, HP4.out, HL4.out, HB4.out⟩
      case measure => simp [intOf]
    · have hix := fun W => index_fn W (pageFs (w2.heap.size + 1)) 5 _ (by decide) rfl
      unfold pageFs at hix
      rw [show ((5 : Nat) : Int) = 5 by rfl] at hix
      rw [show ((5 : Nat) : Int) = 5 by rfl]
      go_wp2_with fail
      refine (colon_any (w2.heap.size + 1) (w2.heap.size + 3) s wr _ HP.out (by omega) (by omega) (by simp [pre, d4, d2])).mono ?_
      rintro e w4 ⟨rfl, hn, hp⟩
      have hl4 := HLr.out.near hn (by omega) (by omega)
      have hb4 := HBr.out.trans ((hn.below (by omega)).mono (by have := HS2.out; omega))
      have HP4 := Lib.hid hp; have HL4 := Lib.hid hl4; have HB4 := Lib.hid hb4
      clear hn hp hl4 hb4 x0 x1 x2 x3 x4 x5 hix
      go_wp2_with fail
      go_roundw
      case rel => exact ⟨6, by omega, by go_num, HP4.out, HL4.out, HB4.out⟩
      case measure => simp [intOf]
    · rw [show ((6 : Nat) : Int) = 6 by rfl]
      obtain ⟨_, _, v, hbx, hown⟩ := HP.out
      rw [pre_six] at hown
      obtain ⟨A, c, rfl, hr⟩ := hown.row
      rw [nats_len, show (textZ y m d h mi s).length = 19 by rfl] at hr hbx
      rw [nats_len, show (textZ y m d h mi s).length = 19 by rfl] at hown
      have hcv := page_string hr (by omega)
      obtain ⟨k0, k1⟩ := hbx.one
      clear hr hown hbx x0 x1 x2 x3 x4 x5
      go_wp2_with fail
      go_ret2
      exact ⟨y, m, d, h, mi, s, rfl, HC.out, HBr.out⟩
end Go.Proofs.YtnhbkfmaaannnaaDoor
