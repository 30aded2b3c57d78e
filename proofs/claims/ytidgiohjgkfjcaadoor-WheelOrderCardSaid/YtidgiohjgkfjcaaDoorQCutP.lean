/- Place, Cut: walked, of a wheel of dues. -/
import Derived.Test.YtidgiohjgkfjcaaDoorQFindP
import Derived.Test.YtidgiohjgkfjcaaDoorQLevel
import Derived.Test.YtidgiohjgkfjcaaDoorQNew
namespace Go.Proofs.YtidgiohjgkfjcaaDoor
open Go.RowKit

/-- Where rows may lie. -/
class Rows where
  ok : Nat → Prop
variable [Rows]
def RowsOk (S : Nat → List (Int × Int)) (V : Nat → Option Addr × Nat) : Prop := ∀ j b o s, S j ≠ [] → (V j).1 = some ⟨b, o, s⟩ → Rows.ok b
theorem RowsOk.from_ {B : Nat} {S S' : Nat → List (Int × Int)} {V V' : Nat → Option Addr × Nat} (h : RowsOk S V) (hf : RowsFrom B S' V' S V) (hX : ∀ b, B ≤ b → Rows.ok b) : RowsOk S' V' := fun j b o s hn e => by
  rcases hf j b o s hn e with h1 | ⟨i, o', s', h1, h2⟩
  · exact hX b h1
  · exact h i b o' s' h1 h2
/-- The wheel at a time, with these dues. -/
structure Wh (w : World) (B p : Nat) (t : Int) (l : List (Int × Int)) : Prop where
  right : RightQ t l
  at_ : ∃ V, WhAt w B p t (stQ t l) V ∧ RowsOk (stQ t l) V
  pos : ∀ d ∈ l, 0 ≤ d.2
theorem Wh.below {w w' : World} {B p : Nat} {t : Int} {l : List (Int × Int)} (h : Wh w B p t l) (hb : Below B w w') : Wh w' B p t l := ⟨h.right, h.at_.imp fun _ g => ⟨g.1.below hb, g.2⟩, h.pos⟩
theorem Wh.mono {w : World} {B B' p : Nat} {t : Int} {l : List (Int × Int)} (h : Wh w B p t l) (hb : B ≤ B') : Wh w B' p t l := ⟨h.right, h.at_.imp fun _ g => ⟨g.1.mono hb, g.2⟩, h.pos⟩
theorem Wh.on {w w' : World} {p : Nat} {t : Int} {l : List (Int × Int)} (h : Wh w w.heap.size p t l) (hb : Below w.heap.size w w') : Wh w' w'.heap.size p t l := (h.below hb).mono hb.size
theorem Wh.lt {w : World} {B p : Nat} {t : Int} {l : List (Int × Int)} (h : Wh w B p t l) : p < w.heap.size := by obtain ⟨V, hV, _⟩ := h.at_; exact hV.lt
theorem Wh.other {w w' : World} {B B0 p q : Nat} {t t' : Int} {l l' : List (Int × Int)} (h : Wh w B p t l) (g : Wh w B0 q t' l') (ho : Only q w w') (hne : p ≠ q) (hB : B ≤ w.heap.size) : Wh w' B p t l := by
  obtain ⟨V, hV, hX⟩ := h.at_
  obtain ⟨V', hV', _⟩ := g.at_
  exact ⟨h.right, ⟨V, hV.other hV' ho hne hB, hX⟩, h.pos⟩
omit [Rows] in
/-- What find says of a wheel. -/
theorem find_wh {t num : Int} {l : List (Int × Int)} {v : Value} (h : FindIs (stQ t l) num v) :
    (∃ (i : Nat) (d : Int × Int), d ∈ l ∧ d.2 = num ∧ (stQ t l (plQ t d.1))[i]? = some d ∧ v = .tuple #[plV (plQ t d.1), .int .i64 i, .bool true]) ∨ ((∀ d ∈ l, d.2 ≠ num) ∧ v = .tuple #[.agg #[.int .i64 0, .int .i64 0], .int .i64 0, .bool false]) := by
  rcases h with ⟨j, i, d, hj, hi, hd, rfl⟩ | ⟨hn, rfl⟩
  · have hm := List.mem_of_getElem? hi
    obtain ⟨h1, h2⟩ := stQ_mem.1 hm
    subst h2
    exact .inl ⟨i, d, h1, hd, hi, rfl⟩
  · refine .inr ⟨fun d hd => hn (plQ t d.1) (by have := plQ_le t d.1; omega) d (stQ_mem.2 ⟨hd, rfl⟩), rfl⟩
set_option maxRecDepth 100000 in
set_option maxHeartbeats 1000000 in
theorem place_any (p : Nat) (t num : Int) (l : List (Int × Int)) (w : World) (hW : Wh w w.heap.size p t l) (hT : Tab w) (hg : 0 < w.heap.size) :
    Calls Tryd.prog 19 #[.pointer (some ⟨p, 0, none⟩), .int .u64 num] w fun e w' => ((∃ d, d ∈ l ∧ d.2 = num ∧ e = .returned (.tuple #[.int .i64 (placeQ t d.1).1, .int .i64 (placeQ t d.1).2, .bool true])) ∨ ((∀ d ∈ l, d.2 ≠ num) ∧ e = .returned (.tuple #[.int .i64 0, .int .i64 0, .bool false]))) ∧ Below w.heap.size w w' := by
  obtain ⟨V, hV, _⟩ := hW.at_
  have HF := Lib.hid (find_any9 p t num _ V w hV hT hg)
  have HR := Lib.hid hW.right
  clear hW hV hT
  go_enter Tryd.func19, Tryd.ntmps19
  go_wp2_with fail
  refine HF.out.mono ?_
  rintro e w1 ⟨⟨v, rfl, hv⟩, hb1⟩
  have key : ∃ (a b i : Int) (f : Bool), v = .tuple #[.agg #[.int .i64 a, .int .i64 b], .int .i64 i, .bool f] ∧ ((∃ d, d ∈ l ∧ d.2 = num ∧ Value.tuple #[.int .i64 a, .int .i64 b, .bool f] = .tuple #[.int .i64 (placeQ t d.1).1, .int .i64 (placeQ t d.1).2, .bool true]) ∨ ((∀ d ∈ l, d.2 ≠ num) ∧ Value.tuple #[.int .i64 a, .int .i64 b, .bool f] = .tuple #[.int .i64 0, .int .i64 0, .bool false])) := by
    rcases find_wh hv with ⟨i, d, h1, h2, _, rfl⟩ | ⟨h1, rfl⟩
    · exact ⟨_, _, _, _, rfl, .inl ⟨d, h1, h2, by rw [placeQ_pl]⟩⟩
    · exact ⟨_, _, _, _, rfl, .inr ⟨h1, rfl⟩⟩
  obtain ⟨a, b, i, f, rfl, hk⟩ := key
  have HK := Lib.hid hk
  obtain ⟨W, hWe⟩ : ∃ W, W = w1.alloc (.cells #[.int .i64 a, .int .i64 b] 80) := ⟨_, rfl⟩
  have bP : QBox W w1.heap.size 80 #[.int .i64 a, .int .i64 b] := by rw [hWe]; exact QBox.new _ _ _
  have HB := Lib.hid (show Below w.heap.size w W by rw [hWe]; exact hb1.alloc hb1.size _)
  obtain ⟨c0, c1, _, _⟩ := bP.two
  clear hk hv hb1 bP
  go_wp2_with fail
  rw [← hWe]
  clear hWe
  go_region
  go_wp2_with fail
  refine bodyPost_ret (v := .tuple #[.int .i64 a, .int .i64 b, .bool f]) (by simp [results, Tryd.results19, go_sem]) rfl ⟨?_, HB.out.drew⟩
  rcases HK.out with ⟨d, h1, h2, h3⟩ | ⟨h1, h3⟩
  · exact .inl ⟨d, h1, h2, by rw [h3]⟩
  · exact .inr ⟨h1, by rw [h3]⟩
omit [Rows] in
theorem nums_one : ∀ {m : List (Int × Int)}, m.Pairwise (fun a b => a.2 ≠ b.2) → ∀ {a b}, a ∈ m → b ∈ m → a.2 = b.2 → a = b
  | [], _, _, _, ha, _, _ => by cases ha
  | y :: m, hm, a, b, ha, hb, e => by
    obtain ⟨k1, k2⟩ := List.pairwise_cons.1 hm
    rcases List.mem_cons.1 ha with e1 | ha
    · rcases List.mem_cons.1 hb with e2 | hb2
      · rw [e1, e2]
      · rw [e1] at e; exact absurd e (k1 b hb2)
    · rcases List.mem_cons.1 hb with e2 | hb2
      · rw [e2] at e; exact absurd e.symm (k1 a ha)
      · exact nums_one k2 ha hb2 e
omit [Rows] in
/-- The due of a number less, at its place alone. -/
theorem cut_set {t num : Int} {l : List (Int × Int)} (hr : RightQ t l) {d : Int × Int} {i : Nat} (hd : d ∈ l) (hn : d.2 = num) (hi : (stQ t l (plQ t d.1))[i]? = some d) :
    setL (plQ t d.1) ((stQ t l (plQ t d.1)).take i ++ (stQ t l (plQ t d.1)).drop (i + 1)) (stQ t l) = stQ t (cutQ num l) := by
  funext j
  rw [cut_stQ]
  by_cases h : j = plQ t d.1
  · subst h
    rw [setL_same, cut_at (hr.slot _).nums hi hn]
  · rw [setL_other _ _ h, cut_none]
    intro x hx e
    obtain ⟨h1, h2⟩ := stQ_mem.1 hx
    have := nums_one hr.nums h1 hd (e.trans hn.symm)
    subst this
    exact h h2.symm
set_option maxRecDepth 100000 in
set_option maxHeartbeats 1000000 in
theorem cut_any (p : Nat) (t num : Int) (l : List (Int × Int)) (w : World) (hW : Wh w w.heap.size p t l) (hT : Tab w) (hg : 0 < w.heap.size) (hX : ∀ b, w.heap.size ≤ b → Rows.ok b) :
    Calls Tryd.prog 14 #[.pointer (some ⟨p, 0, none⟩), .int .u64 num] w fun e w' => e = .returned (.int .i64 (if hasQ num l then 0 else 4)) ∧ Wh w' w'.heap.size p t (cutQ num l) ∧ Only p w w' := by
  obtain ⟨V, hV, hok⟩ := hW.at_
  have HOK := Lib.hid hok; have HX := Lib.hid hX
  clear hok hX
  have HF := Lib.hid (find_any9 p t num _ V w hV hT hg)
  have HR := Lib.hid hW.right
  have HV := Lib.hid hV
  obtain ⟨r, hr⟩ : ∃ r : Int, r = if hasQ num l then 0 else 4 := ⟨_, rfl⟩
  rw [← hr]
  have HQ := Lib.hid hr
  have HPOS := Lib.hid hW.pos
  clear hW hV hT hr
  go_enter Tryd.func14, Tryd.ntmps14
  go_wp2_with fail
  refine HF.out.mono ?_
  rintro e w1 ⟨⟨v, rfl, hv⟩, hb1⟩
  have HV1 := Lib.hid ((HV.out.below hb1).mono hb1.size)
  rcases find_wh hv with ⟨i, d, h1, h2, h3, rfl⟩ | ⟨h1, rfl⟩
  · have HH := Lib.hid (show hasQ num l = true from hasQ_iff.2 ⟨d, h1, h2⟩)
    have HS := Lib.hid (cut_set HR.out h1 h2 h3)
    have hj := plQ_le t d.1
    have HL := Lib.hid (HR.out.slot (plQ t d.1)).len
    have HI := Lib.hid (List.getElem?_eq_some_iff.1 h3).1
    generalize plQ t d.1 = j at *
    obtain ⟨n, s, hn5, hs64, rfl⟩ : ∃ n s, n < 5 ∧ s < 64 ∧ j = n * 64 + s := ⟨j / 64, j % 64, by omega, by omega, by omega⟩
    rw [plV_at n s hs64]
    have HCUT := Lib.hid (fun (W : World) (hW : WhAt W W.heap.size p t (stQ t l) V) => cut_any9 p n s i t (stQ t l) V W hW hn5 hs64 HL.out HI.out)
    rw [HS.out] at HCUT
    obtain ⟨W, hWe⟩ : ∃ W, W = w1.alloc (.cells #[.int .i64 (n : Int), .int .i64 (s : Int)] 80) := ⟨_, rfl⟩
    have bP : QBox W w1.heap.size 80 #[.int .i64 n, .int .i64 s] := by rw [hWe]; exact QBox.new _ _ _
    have hB := (show Below w.heap.size w W by rw [hWe]; exact hb1.alloc hb1.size _)
    have HVW := Lib.hid ((HV.out.below hB).mono hB.size)
    have HB := Lib.hid hB
    have HP := Lib.hid bP
    have hi0 : (0 : Int) ≤ (s : Int) := by omega
    have hi1 : (s : Int) < 64 := by omega
    have hi2 : (0 : Int) ≤ (n : Int) := by omega
    have hi3 : (n : Int) < 5 := by omega
    have hne : p ≠ w1.heap.size := Nat.ne_of_lt (Nat.lt_of_lt_of_le HV.out.lt hb1.size)
    obtain ⟨c0, c1, _, _⟩ := bP.two
    clear hj h1 h2 h3 hv hb1 bP hB hn5 hs64
    go_wp2_with fail
    rw [← hWe]
    clear hWe
    have hOE := Only.refl p W
    have hOD : Only p W W.drew := ⟨rfl, rfl, rfl, Nat.le_refl _, fun _ _ _ => rfl⟩
    have HK := Lib.hid (fun (W' : World) (ho : Only p W W') => (⟨by
      obtain ⟨x0, x1, _, _⟩ := (show QBox W' w1.heap.size 80 #[.int .i64 n, .int .i64 s] from (ho.block _ HP.out.lt (Ne.symm hne)).trans HP.out).two
      exact ⟨x0, x1⟩⟩ : PLift (W'.cell? ⟨w1.heap.size, 0, none⟩ = some (.int .i64 n) ∧ W'.cell? ⟨w1.heap.size, 1, none⟩ = some (.int .i64 s))).down)
    go_region_held3 (fun W' => W'.cell? ⟨w1.heap.size, 0, none⟩ = some (.int .i64 n) ∧ W'.cell? ⟨w1.heap.size, 1, none⟩ = some (.int .i64 s)) (first | exact HK.out _ hOE | exact HK.out _ hOD) (first
      | (go_at_call 39; (with_reducible refine (HCUT.out _ (HVW.out.drewN 1)).mono ?_); rintro e w5 ⟨⟨v, rfl⟩, hW5, ho5⟩; replace hOE := hOD.trans ho5))
    go_wp2_with fail
    go_ret
    refine ⟨by rw [HQ.out, HH.out]; rfl, ⟨HR.out.cut num, (let ⟨V5, hV5, hf5⟩ := hW5; ⟨V5, hV5, HOK.out.from_ hf5 (fun b hb => HX.out b (Nat.le_trans HB.out.size hb))⟩), fun d hd => HPOS.out d (List.mem_filter.1 hd).1⟩, (Only.of HB.out).trans hOE⟩
  · have HH := Lib.hid (show hasQ num l = false by
      rw [← Bool.not_eq_true, hasQ_iff]; rintro ⟨d, hd, e⟩; exact h1 d hd e)
    have HC := Lib.hid (cut_none h1)
    have HB := Lib.hid (hb1.alloc hb1.size (.cells #[.int .i64 0, .int .i64 0] 80))
    clear h1 hv hb1
    go_wp2_with fail
    go_ret
    rw [HC.out]
    exact ⟨by rw [HQ.out, HH.out]; rfl, ⟨HR.out, ⟨V, (HV.out.below HB.out).mono HB.out.size, HOK.out⟩, HPOS.out⟩, Only.of HB.out⟩
end Go.Proofs.YtidgiohjgkfjcaaDoor
