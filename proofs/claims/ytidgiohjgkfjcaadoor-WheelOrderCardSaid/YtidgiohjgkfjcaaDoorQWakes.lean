/- wakes: walked. -/
import Derived.Test.YtidgiohjgkfjcaaDoorQTurnP
import Derived.Test.YtidgiohjgkfjcaaDoorQFirstP
namespace Go.Proofs.YtidgiohjgkfjcaaDoor
open Go.RowKit

section
variable [Rows]

/-- A wheel of one's own behind what lay there. -/
structure Mine (w0 w : World) (p : Nat) (t : Int) (l : List (Int × Int)) : Prop where
  wh : Wh w w.heap.size p t l
  b : Below w0.heap.size w0 w
  low : w0.heap.size ≤ p
theorem Mine.on {w0 w w' : World} {p : Nat} {t : Int} {l : List (Int × Int)} (h : Mine w0 w p t l) (hb : Below w.heap.size w w') : Mine w0 w' p t l := ⟨h.wh.on hb, h.b.trans (hb.mono h.b.size), h.low⟩
theorem Mine.only {w0 w w' : World} {p : Nat} {t t' : Int} {l l' : List (Int × Int)} (h : Mine w0 w p t l) (hw : Wh w' w'.heap.size p t' l') (ho : Only p w w') : Mine w0 w' p t' l' := ⟨hw, ho.drop h.b h.low, h.low⟩
theorem Mine.tab {w0 w : World} {p : Nat} {t : Int} {l : List (Int × Int)} (h : Mine w0 w p t l) (hT : Tab w0) (hg : 0 < w0.heap.size) : Tab w ∧ 0 < w.heap.size ∧ 0 ≠ p := ⟨hT.below hg h.b, Nat.lt_of_lt_of_le hg h.b.size, by have := h.low; omega⟩
section
variable {w0 w : World} {p : Nat} {t : Int} {l : List (Int × Int)}
theorem mine_put (d : Int × Int) (hp : 0 ≤ d.2) (h : Mine w0 w p t l) (hT : Tab w0) (hg : 0 < w0.heap.size) (hX : ∀ b, w.heap.size ≤ b → Rows.ok b := by intros; trivial) :
    Calls Tryd.prog 12 #[.pointer (some ⟨p, 0, none⟩), dueV d] w fun e w' => e = .returned (.int .i64 (putE t l d)) ∧ Mine w0 w' p t (putQ t l d) ∧ Only p w w' := by
  obtain ⟨h1, h2, _⟩ := h.tab hT hg
  refine (put_any p t d l w hp h.wh h1 h2 hX).mono ?_
  rintro e w' ⟨rfl, h3, h4⟩
  exact ⟨rfl, h.only h3 h4, h4⟩
theorem mine_cut (num : Int) (h : Mine w0 w p t l) (hT : Tab w0) (hg : 0 < w0.heap.size) (hX : ∀ b, w.heap.size ≤ b → Rows.ok b := by intros; trivial) :
    Calls Tryd.prog 14 #[.pointer (some ⟨p, 0, none⟩), .int .u64 num] w fun e w' => e = .returned (.int .i64 (if hasQ num l then 0 else 4)) ∧ Mine w0 w' p t (cutQ num l) ∧ Only p w w' := by
  obtain ⟨h1, h2, _⟩ := h.tab hT hg
  refine (cut_any p t num l w h.wh h1 h2 hX).mono ?_
  rintro e w' ⟨rfl, h3, h4⟩
  exact ⟨rfl, h.only h3 h4, h4⟩
theorem mine_turn (u : Int) (h : Mine w0 w p t l) (htu : t ≤ u) (hu : u ≤ topQ) (hT : Tab w0) (hg : 0 < w0.heap.size) (hX : ∀ b, w.heap.size ≤ b → Rows.ok b := by intros; trivial) :
    Calls Tryd.prog 16 #[.pointer (some ⟨p, 0, none⟩), .int .i64 u] w fun e w' => (∃ v, e = .returned (.tuple #[v, .int .i64 0]) ∧ OwnD w' w.heap.size v (dueQ u l)) ∧ Mine w0 w' p u (leftQ u l) ∧ Only p w w' := by
  obtain ⟨h1, h2, h3⟩ := h.tab hT hg
  have h0 := h.wh.right.time.1
  obtain ⟨t, rfl⟩ := Int.eq_ofNat_of_zero_le h0
  obtain ⟨u, rfl⟩ := Int.eq_ofNat_of_zero_le (show 0 ≤ u by omega)
  refine (turn_yes p t u l w h.wh (by omega) (by unfold topQ at hu; omega) h1 h2 h3 hX).mono ?_
  rintro e w' ⟨hv, h4, h5⟩
  exact ⟨hv, h.only h4 h5, h5⟩
theorem mine_len (h : Mine w0 w p t l) (hT : Tab w0) (hg : 0 < w0.heap.size) :
    Calls Tryd.prog 24 #[.pointer (some ⟨p, 0, none⟩)] w fun e w' => e = .returned (.int .i64 (l.length : Int)) ∧ Mine w0 w' p t l ∧ Below w.heap.size w w' := by
  obtain ⟨h1, h2, _⟩ := h.tab hT hg
  refine (len_wh p t l w h.wh h1 h2).mono ?_
  rintro e w' ⟨rfl, hb⟩
  exact ⟨rfl, h.on hb, hb⟩
theorem mine_all (h : Mine w0 w p t l) (hT : Tab w0) (hg : 0 < w0.heap.size) :
    Calls Tryd.prog 23 #[.pointer (some ⟨p, 0, none⟩)] w fun e w' => ∃ v, e = .returned v ∧ OwnD w' w.heap.size v l ∧ Mine w0 w' p t l ∧ Below w.heap.size w w' := by
  obtain ⟨h1, h2, _⟩ := h.tab hT hg
  refine (all_wh p t l w h.wh h1 h2).mono ?_
  rintro e w' ⟨v, rfl, ho, hb⟩
  exact ⟨v, rfl, ho, h.on hb, hb⟩
theorem mine_first (h : Mine w0 w p t l) (hT : Tab w0) (hg : 0 < w0.heap.size) :
    Calls Tryd.prog 25 #[.pointer (some ⟨p, 0, none⟩)] w fun e w' => e = .returned (firstV l) ∧ Mine w0 w' p t l ∧ Below w.heap.size w w' := by
  obtain ⟨h1, h2, _⟩ := h.tab hT hg
  refine (first_wh p t l w h.wh h1 h2).mono ?_
  rintro e w' ⟨rfl, hb⟩
  exact ⟨rfl, h.on hb, hb⟩
/-- What Place answers. -/
def placeA (t : Int) (l : List (Int × Int)) (num : Int) : Value := match l.find? (fun d => decide (d.2 = num)) with
  | some d => .tuple #[.int .i64 (placeQ t d.1).1, .int .i64 (placeQ t d.1).2, .bool true]
  | none => .tuple #[.int .i64 0, .int .i64 0, .bool false]
theorem mine_place (num : Int) (h : Mine w0 w p t l) (hT : Tab w0) (hg : 0 < w0.heap.size) :
    Calls Tryd.prog 19 #[.pointer (some ⟨p, 0, none⟩), .int .u64 num] w fun e w' => e = .returned (placeA t l num) ∧ Mine w0 w' p t l ∧ Below w.heap.size w w' := by
  obtain ⟨h1, h2, _⟩ := h.tab hT hg
  refine (place_any p t num l w h.wh h1 h2).mono ?_
  rintro e w' ⟨hv, hb⟩
  refine ⟨?_, h.on hb, hb⟩
  unfold placeA
  rcases hv with ⟨d, hd, hn, rfl⟩ | ⟨hno, rfl⟩
  · cases hf : l.find? (fun d => decide (d.2 = num)) with
    | none => have := List.find?_eq_none.1 hf d hd; simp at this; exact absurd hn this
    | some d' =>
      have hm := List.mem_of_find?_eq_some hf
      have hn' : d'.2 = num := by simpa using List.find?_some hf
      have := nums_one h.wh.right.nums hd hm (hn.trans hn'.symm)
      rw [this]
  · cases hf : l.find? (fun d => decide (d.2 = num)) with
    | none => rfl
    | some d' =>
      have hm := List.mem_of_find?_eq_some hf
      have hn' := List.find?_some hf
      exact absurd (by simpa using hn') (hno d' hm)
theorem mine_now (h : Mine w0 w p t l) :
    Calls Tryd.prog 26 #[.pointer (some ⟨p, 0, none⟩)] w fun e w' => e = .returned (.int .i64 t) ∧ w' = w := now_wh p t l w h.wh
end
theorem mine_new (w0 : World) (t : Int) (w : World) (ht : timeQ t) (hb : Below w0.heap.size w0 w) :
    Calls Tryd.prog 9 #[.int .i64 t] w fun e w' => e = .returned (.tuple #[.pointer (some ⟨w.heap.size, 0, none⟩), .int .i64 0]) ∧ Mine w0 w' w.heap.size t [] ∧ Below w.heap.size w w' := by
  refine (new_wh t w ht).mono ?_
  rintro e w' ⟨rfl, h1, h2⟩
  exact ⟨rfl, ⟨h1, hb.trans (h2.mono hb.size), hb.size⟩, h2⟩
end
/-- Anywhere. -/
instance Rows.all : Rows := ⟨fun _ => True⟩
set_option maxRecDepth 100000 in
set_option maxHeartbeats 2000000 in
theorem wakes_any9 (w : World) (hT : Tab w) (hg : 0 < w.heap.size) :
    Calls Tryd.prog 8 #[] w fun e w' => e = .returned (.bool true) ∧ Below w.heap.size w w' := by
  go_enter Tryd.func8, Tryd.ntmps8
  go_wp2_with fail
  refine (mine_new w 100 w ⟨by decide, by decide⟩ (Below.refl _ _)).mono ?_
  rintro e w1 ⟨rfl, m1, _⟩
  have M1 := Lib.hid m1; clear m1
  go_wp2_with fail
  refine (mine_put (101, 7) (by decide) M1.out hT hg).mono ?_
  rintro e w2 ⟨rfl, m2, _⟩
  rw [show putE 100 [] (101, 7) = 0 by decide]
  rw [show putQ 100 [] (101, 7) = [(101, 7)] by decide] at m2
  have M2 := Lib.hid m2; clear m2
  go_wp2_with fail
  refine (mine_put (200, 8) (by decide) M2.out hT hg).mono ?_
  rintro e w3 ⟨rfl, m3, _⟩
  rw [show putE 100 [(101, 7)] (200, 8) = 0 by decide]
  rw [show putQ 100 [(101, 7)] (200, 8) = [(101, 7), (200, 8)] by decide] at m3
  have M3 := Lib.hid m3; clear m3
  go_wp2_with fail
  refine (mine_put (5000, 9) (by decide) M3.out hT hg).mono ?_
  rintro e w4 ⟨rfl, m4, _⟩
  rw [show putE 100 [(101, 7), (200, 8)] (5000, 9) = 0 by decide]
  rw [show putQ 100 [(101, 7), (200, 8)] (5000, 9) = [(101, 7), (200, 8), (5000, 9)] by decide] at m4
  have M4 := Lib.hid m4; clear m4
  go_wp2_with fail
  refine (mine_place 8 M4.out hT hg).mono ?_
  rintro e w5 ⟨rfl, m5, _⟩
  rw [show placeA 100 [(101, 7), (200, 8), (5000, 9)] 8 = .tuple #[.int .i64 1, .int .i64 3, .bool true] by kernel_rfl]
  have M5 := Lib.hid m5; clear m5
  go_wp2_with fail
  refine (mine_turn 192 M5.out (by decide) (by decide) hT hg).mono ?_
  rintro e w6 ⟨⟨v, rfl, ho⟩, m6, _⟩
  rw [show leftQ 192 [(101, 7), (200, 8), (5000, 9)] = [(200, 8), (5000, 9)] by decide] at m6
  rw [show dueQ 192 [(101, 7), (200, 8), (5000, 9)] = [(101, 7)] by decide] at ho
  obtain ⟨A, c, rfl, hr⟩ := ho.row
  have M6 := Lib.hid m6; have HR := Lib.hid hr; clear m6 ho hr
  go_wp2_with fail
  refine (mine_place 8 M6.out hT hg).mono ?_
  rintro e w7 ⟨rfl, m7, b7⟩
  rw [show placeA 192 [(200, 8), (5000, 9)] 8 = .tuple #[.int .i64 0, .int .i64 8, .bool true] by kernel_rfl]
  obtain ⟨b, o, rfl, hb, x0, x1⟩ := (HR.out.below b7).at_ 0 (101, 7) rfl
  have hcap := HR.out.cap
  dsimp only [List.length_cons, List.length_nil] at x0 x1 hcap
  rw [Nat.zero_mul, Nat.add_zero] at x0 x1
  have M7 := Lib.hid m7; clear m7 b7
  go_wp2_with fail
  refine (mine_len M7.out hT hg).mono ?_
  rintro e w8 ⟨rfl, m8, _⟩
  have M8 := Lib.hid m8; clear m8
  go_wp2_with fail
  go_ret
  exact ⟨rfl, M8.out.b⟩
end Go.Proofs.YtidgiohjgkfjcaaDoor
