/- Items: what was put is taken. -/
import Derived.Test.YtnppkobckabpcaaTItem
import Derived.BigRegion
namespace Go.Proofs.Ytnppkobckabpcaa
open Go.RowKit

theorem goT_ok {n tn s : Nat} (hn : n ≤ 16384) (ht : tn ≤ n) : goT n (tn : Int) 0 s 0 = ((tn : Int) + (s : Int), 0, true) := by
  unfold goT
  rw [if_neg (by unfold checkT badT; simp; omega), if_neg (by omega)]
theorem most_item {n tn N : Nat} {bs r : List Nat} (w : World) (hn : n ≤ 16384) (ht : tn ≤ n) (hb : ∀ b ∈ bs, b < 256) (hN : N < 18446744073709551616) (hr : bs.drop tn = sh N ++ r) :
    MostIs w n bs (tn : Int) 0 18446744073709551615 = TakeIs w bs ((tn : Int) + ((sh N).length : Int)) 0 (.num .u64 (N : Int)) := by
  have h1 : rest bs (tn : Int) = sh N ++ r := by unfold rest; simpa using hr
  unfold MostIs
  rw [mostE_max _ (rest_byte hb _), h1, rdS_sh hN]
  simp only [goT_ok hn ht, Int.natCast_zero]
  rfl
theorem int_item {n tn : Nat} {I : Int} {bs r : List Nat} (w : World) (hn : n ≤ 16384) (ht : tn ≤ n) (i0 : -9223372036854775808 ≤ I) (i1 : I ≤ 9223372036854775807) (hr : bs.drop tn = sh (turnZ I).toNat ++ r) :
    IntIs w n bs (tn : Int) 0 = TakeIs w bs ((tn : Int) + ((sh (turnZ I).toNat).length : Int)) 0 (.num .i64 I) := by
  have h1 : rest bs (tn : Int) = sh (turnZ I).toNat ++ r := by unfold rest; simpa using hr
  have hh := turn_hi i0 i1
  have ht2 := turn_nat I
  unfold IntIs
  rw [h1, rdS_sh (by omega)]
  simp only [goT_ok hn ht, Int.natCast_zero, ht2, back_turn]
  rfl
theorem flag_item {n tn : Nat} {b : Bool} {bs r : List Nat} (w : World) (hn : n ≤ 16384) (ht : tn ≤ n) (hr : bs.drop tn = [flagN b] ++ r) :
    FlagIs w n bs (tn : Int) 0 = TakeIs w bs ((tn : Int) + 1) 0 (.flag b) := by
  have h1 : rest bs (tn : Int) = [flagN b] ++ r := by unfold rest; simpa using hr
  unfold FlagIs
  rw [h1, show flagR ([flagN b] ++ r) = (b, 1, 0) by cases b <;> simp [flagR, flagN, nthB]]
  simp only [goT_ok hn ht]
  rfl
theorem bytes_item {n tn : Nat} {x bs r : List Nat} (w : World) (hn : n ≤ 16384) (ht : tn ≤ n) (hx : x.length ≤ 300) (hr : bs.drop tn = (sh x.length ++ x) ++ r) :
    BytesIs w n bs (tn : Int) 0 300 = TakeIs w bs ((tn : Int) + (((sh x.length).length + x.length : Nat) : Int)) 0 (.bytes x) := by
  have h1 : rest bs (tn : Int) = sh x.length ++ (x ++ r) := by unfold rest; simpa using hr
  unfold BytesIs
  have h2 : bytesR (rest bs (tn : Int)) 300 = (x, (sh x.length).length + x.length, 0) := by
    unfold bytesR
    rw [h1, rdS_sh (by omega)]
    simp only [ne_eq, not_true, if_false]
    rw [if_neg (by omega), if_neg (by simp only [List.length_append]; omega)]
    simp
  rw [h2]
  simp only [goT_ok hn ht]
  rfl
theorem itemB_len (k : Int) (N : Nat) (I : Int) (b : Bool) (x : List Nat) (hN : N < 18446744073709551616) (i0 : -9223372036854775808 ≤ I) (i1 : I ≤ 9223372036854775807) : 1 ≤ (itemB k N I b x).length ∧ (itemB k N I b x).length ≤ 310 := by
  unfold itemB
  have h1 := sh_ten hN
  have h2 := sh_pos N
  have hh := turn_hi i0 i1
  have h3 := sh_ten (n := (turnZ I).toNat) (by omega)
  have h4 := sh_pos (turnZ I).toNat
  have hl : (x.take 300).length ≤ 300 := by rw [List.length_take]; omega
  have h5 := sh_ten (n := (x.take 300).length) (by omega)
  have h6 := sh_pos (x.take 300).length
  split
  · omega
  · split
    · omega
    · split
      · simp
      · rw [List.length_append]; omega
/-- What an item takes: it stood there. -/
def ItemIs (w : World) (bs : List Nat) (t : Int) : Ending → World → Prop := TakeIs w bs t 0 (.flag true)
theorem Box.drew1 {w : World} {g : Nat} {t : TypeId} {cs : Array Value} (h : Box w g t cs) : Box w.drew g t cs := h
/-- The three variables of a call that takes an item. -/
structure Three (w0 w : World) (g : Nat) (iv0 tv0 rv0 : Array Value) : Prop where
  b0 : Box w g 29 iv0
  b1 : Box w (g + 1) 40 tv0
  b2 : Box w (g + 1 + 1) 40 rv0
  bel : Below g w0 w
theorem Three.call {w0 w w' : World} {g : Nat} {x y z : Array Value} (h : Three w0 w g x y z) (hb : Below w.heap.size w w') : Three w0 w' g x y z :=
  ⟨h.b0.belowAll hb, h.b1.belowAll hb, h.b2.belowAll hb, h.bel.trans (hb.mono (Nat.le_of_lt h.b0.lt))⟩
theorem Three.new (w : World) (x y z : Array Value) : Three w (((w.alloc (.cells x 29)).alloc (.cells y 40)).alloc (.cells z 40)) w.heap.size x y z := by
  have e1 : (w.alloc (.cells x 29)).heap.size = w.heap.size + 1 := by simp
  have e2 : ((w.alloc (.cells x 29)).alloc (.cells y 40)).heap.size = w.heap.size + 1 + 1 := by simp
  have b1 := (Box.new (w.alloc (.cells x 29)) 40 y).alloc (.cells z 40)
  have b2 := Box.new ((w.alloc (.cells x 29)).alloc (.cells y 40)) 40 z
  rw [e1] at b1; rw [e2] at b2
  exact ⟨((Box.new w _ x).alloc _).alloc _, b1, b2, ((b_alloc w _).alloc (by simp) _).alloc (by simp; omega) _⟩
end Go.Proofs.Ytnppkobckabpcaa
