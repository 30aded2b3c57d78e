/- Most, Take, TakeInt, TakeFlag, TakeBytes. -/
import Derived.Test.YtnppkobckabpcaaTTakes
namespace Go.Proofs.Ytnppkobckabpcaa
open Go.RowKit

theorem mostE_max (bs : List Nat) (h : ∀ b ∈ bs, b < 256) : mostE bs 18446744073709551615 = ((rdS bs).2.2 : Int) := by
  unfold mostE; rw [if_neg (by have := rd_u64 h; omega)]
theorem rest_byte {bs : List Nat} (h : ∀ b ∈ bs, b < 256) (t : Int) : ∀ b ∈ rest bs t, b < 256 := fun x hx => h x (List.drop_subset _ _ hx)
def MostIs (w : World) (n : Nat) (bs : List Nat) (t err : Int) (m : Nat) : Ending → World → Prop :=
  TakeIs w bs (goT n t err (rdS (rest bs t)).2.1 (mostE (rest bs t) m)).1 (goT n t err (rdS (rest bs t)).2.1 (mostE (rest bs t) m)).2.1 (pickR (goT n t err (rdS (rest bs t)).2.1 (mostE (rest bs t) m)).2.2 (.num .u64 ((rdS (rest bs t)).1 : Int)) (.num .u64 0))
def IntIs (w : World) (n : Nat) (bs : List Nat) (t err : Int) : Ending → World → Prop :=
  TakeIs w bs (goT n t err (rdS (rest bs t)).2.1 ((rdS (rest bs t)).2.2 : Int)).1 (goT n t err (rdS (rest bs t)).2.1 ((rdS (rest bs t)).2.2 : Int)).2.1 (pickR (goT n t err (rdS (rest bs t)).2.1 ((rdS (rest bs t)).2.2 : Int)).2.2 (.num .i64 (backZ ((rdS (rest bs t)).1 : Int))) (.num .i64 0))
def FlagIs (w : World) (n : Nat) (bs : List Nat) (t err : Int) : Ending → World → Prop :=
  TakeIs w bs (goT n t err (flagR (rest bs t)).2.1 (flagR (rest bs t)).2.2).1 (goT n t err (flagR (rest bs t)).2.1 (flagR (rest bs t)).2.2).2.1 (pickR (goT n t err (flagR (rest bs t)).2.1 (flagR (rest bs t)).2.2).2.2 (.flag (flagR (rest bs t)).1) (.flag false))
def BytesIs (w : World) (n : Nat) (bs : List Nat) (t err m : Int) : Ending → World → Prop :=
  TakeIs w bs (goT n t err (bytesR (rest bs t) m).2.1 (bytesR (rest bs t) m).2.2).1 (goT n t err (bytesR (rest bs t) m).2.1 (bytesR (rest bs t) m).2.2).2.1 (pickR (goT n t err (bytesR (rest bs t) m).2.1 (bytesR (rest bs t) m).2.2).2.2 (.bytes (bytesR (rest bs t) m).1) (.bytes []))

set_option maxRecDepth 100000 in
set_option maxHeartbeats 2000000 in
theorem most_any (A : Option Addr) (n c m : Nat) (t err : Int) (bs : List Nat) (w : World) (h : RowB w w.heap.size A n c bs) (hn : n ≤ 1000000) :
    Calls Try.prog 42 #[tv A n c t err, .int .u64 (m : Int)] w (MostIs w n bs t err m) := by
  have hb1 : Below w.heap.size w (((w.alloc (.cells #[.slice A n c, .int .i64 t, .int .i64 err] 40)).alloc (.cells #[.int .u64 (m : Int)] 27)).alloc (.cells #[.slice none 0 0, .int .i64 0, .int .i64 0] 40)) := (((Below.refl _ w).alloc (Nat.le_refl _) _).alloc (by simp) _).alloc (by simp; omega) _
  have bx := (Box.new (w.alloc (.cells #[.slice A n c, .int .i64 t, .int .i64 err] 40)) 27 #[.int .u64 (m : Int)]).alloc (.cells #[.slice none 0 0, .int .i64 0, .int .i64 0] 40)
  rw [show (w.alloc (.cells #[.slice A n c, .int .i64 t, .int .i64 err] 40)).heap.size = w.heap.size + 1 by simp] at bx
  have by0 := Box.new ((w.alloc (.cells #[.slice A n c, .int .i64 t, .int .i64 err] 40)).alloc (.cells #[.int .u64 (m : Int)] 27)) 40 #[.slice none 0 0, .int .i64 0, .int .i64 0]
  rw [show ((w.alloc (.cells #[.slice A n c, .int .i64 t, .int .i64 err] 40)).alloc (.cells #[.int .u64 (m : Int)] 27)).heap.size = w.heap.size + 2 by simp] at by0
  have hsz : (((w.alloc (.cells #[.slice A n c, .int .i64 t, .int .i64 err] 40)).alloc (.cells #[.int .u64 (m : Int)] 27)).alloc (.cells #[.slice none 0 0, .int .i64 0, .int .i64 0] 40)).heap.size = w.heap.size + 3 := by simp
  have hc := take_u64 (w.heap.size + 1) m A n c t err bs _ ((h.below hb1).mono (by omega)) hn (by omega) bx.one.1
  unfold MostIs
  generalize (goT n t err (rdS (rest bs t)).2.1 (mostE (rest bs t) m)).1 = t2 at *
  generalize (goT n t err (rdS (rest bs t)).2.1 (mostE (rest bs t) m)).2.1 = err2 at *
  generalize (pickR (goT n t err (rdS (rest bs t)).2.1 (mostE (rest bs t) m)).2.2 (.num .u64 ((rdS (rest bs t)).1 : Int)) (.num .u64 0)) = r at *
  have Hc := Lib.hid hc; have Hb1 := Lib.hid hb1; have Hsz := Lib.hid hsz; have Hby := Lib.hid by0
  clear h hc hb1 bx by0 hsz
  unfold tv at *
  go_enter Try.func42, Try.ntmps42
  go_wp2_with fail
  refine Hc.out.mono ?_; rintro e w1 ⟨v, x, rfl, ⟨s, rfl, ho⟩, hr, hb⟩
  have b1 := Hby.out.belowAll hb
  obtain ⟨c0, c1, c2, f0, f1, f2⟩ := b1.three
  obtain ⟨A2, cc2, rfl, _⟩ := ho.row
  have Ho := Lib.hid ho; have Hr := Lib.hid hr; have Hb := Lib.hid hb; have B1 := Lib.hid b1
  clear ho hr hb b1
  go_wp2_with fail
  have b2 := ((B1.out.set 0 (.slice A2 bs.length cc2)).set 1 (.int .i64 t2)).set 2 (.int .i64 err2)
  clear c0 c1 c2 f0 f1 f2
  obtain ⟨c0, c1, c2, _, _, _⟩ := b2.three
  refine bodyPost_ret (v := .tuple #[.agg #[.slice A2 bs.length cc2, .int .i64 t2, .int .i64 err2], x]) (by simp [results, Try.results42, go_sem, c0, c1, c2]) rfl ?_
  exact TakeIs.out Hb1.out (by omega) (by rw [Hsz.out]; omega) Ho.out Hr.out Hb.out
set_option maxRecDepth 100000 in
set_option maxHeartbeats 2000000 in
theorem takeBytes_any (A : Option Addr) (n c : Nat) (t err m : Int) (bs : List Nat) (w : World) (h : RowB w w.heap.size A n c bs) (hn : n ≤ 1000000) (hm : m ≤ 9223372036854775807) :
    Calls Try.prog 36 #[tv A n c t err, .int .i64 m] w (BytesIs w n bs t err m) := by
  have hb1 : Below w.heap.size w (((w.alloc (.cells #[.slice A n c, .int .i64 t, .int .i64 err] 40)).alloc (.cells #[.int .i64 m] 3)).alloc (.cells #[.slice none 0 0, .int .i64 0, .int .i64 0] 40)) := (((Below.refl _ w).alloc (Nat.le_refl _) _).alloc (by simp) _).alloc (by simp; omega) _
  have bx := (Box.new (w.alloc (.cells #[.slice A n c, .int .i64 t, .int .i64 err] 40)) 3 #[.int .i64 m]).alloc (.cells #[.slice none 0 0, .int .i64 0, .int .i64 0] 40)
  rw [show (w.alloc (.cells #[.slice A n c, .int .i64 t, .int .i64 err] 40)).heap.size = w.heap.size + 1 by simp] at bx
  have by0 := Box.new ((w.alloc (.cells #[.slice A n c, .int .i64 t, .int .i64 err] 40)).alloc (.cells #[.int .i64 m] 3)) 40 #[.slice none 0 0, .int .i64 0, .int .i64 0]
  rw [show ((w.alloc (.cells #[.slice A n c, .int .i64 t, .int .i64 err] 40)).alloc (.cells #[.int .i64 m] 3)).heap.size = w.heap.size + 2 by simp] at by0
  have hsz : (((w.alloc (.cells #[.slice A n c, .int .i64 t, .int .i64 err] 40)).alloc (.cells #[.int .i64 m] 3)).alloc (.cells #[.slice none 0 0, .int .i64 0, .int .i64 0] 40)).heap.size = w.heap.size + 3 := by simp
  have hc := take_bytes (w.heap.size + 1) m A n c t err bs _ ((h.below hb1).mono (by omega)) hn hm (by omega) bx.one.1
  unfold BytesIs
  generalize (goT n t err (bytesR (rest bs t) m).2.1 (bytesR (rest bs t) m).2.2).1 = t2 at *
  generalize (goT n t err (bytesR (rest bs t) m).2.1 (bytesR (rest bs t) m).2.2).2.1 = err2 at *
  generalize (pickR (goT n t err (bytesR (rest bs t) m).2.1 (bytesR (rest bs t) m).2.2).2.2 (.bytes (bytesR (rest bs t) m).1) (.bytes [])) = r at *
  have Hc := Lib.hid hc; have Hb1 := Lib.hid hb1; have Hsz := Lib.hid hsz; have Hby := Lib.hid by0
  clear h hc hb1 bx by0 hsz
  unfold tv at *
  go_enter Try.func36, Try.ntmps36
  go_wp2_with fail
  refine Hc.out.mono ?_; rintro e w1 ⟨v, x, rfl, ⟨s, rfl, ho⟩, hr, hb⟩
  have b1 := Hby.out.belowAll hb
  obtain ⟨c0, c1, c2, f0, f1, f2⟩ := b1.three
  obtain ⟨A2, cc2, rfl, _⟩ := ho.row
  have Ho := Lib.hid ho; have Hr := Lib.hid hr; have Hb := Lib.hid hb; have B1 := Lib.hid b1
  clear ho hr hb b1
  go_wp2_with fail
  have b2 := ((B1.out.set 0 (.slice A2 bs.length cc2)).set 1 (.int .i64 t2)).set 2 (.int .i64 err2)
  clear c0 c1 c2 f0 f1 f2
  obtain ⟨c0, c1, c2, _, _, _⟩ := b2.three
  refine bodyPost_ret (v := .tuple #[.agg #[.slice A2 bs.length cc2, .int .i64 t2, .int .i64 err2], x]) (by simp [results, Try.results36, go_sem, c0, c1, c2]) rfl ?_
  exact TakeIs.out Hb1.out (by omega) (by rw [Hsz.out]; omega) Ho.out Hr.out Hb.out
set_option maxRecDepth 100000 in
set_option maxHeartbeats 2000000 in
theorem take_any (A : Option Addr) (n c : Nat) (t err : Int) (bs : List Nat) (w : World) (h : RowB w w.heap.size A n c bs) (hn : n ≤ 1000000) :
    Calls Try.prog 34 #[tv A n c t err] w (MostIs w n bs t err 18446744073709551615) := by
  have hb1 : Below w.heap.size w ((w.alloc (.cells #[.slice A n c, .int .i64 t, .int .i64 err] 40)).alloc (.cells #[.slice none 0 0, .int .i64 0, .int .i64 0] 40)) := ((Below.refl _ w).alloc (Nat.le_refl _) _).alloc (by simp) _
  have by0 := Box.new (w.alloc (.cells #[.slice A n c, .int .i64 t, .int .i64 err] 40)) 40 #[.slice none 0 0, .int .i64 0, .int .i64 0]
  rw [show (w.alloc (.cells #[.slice A n c, .int .i64 t, .int .i64 err] 40)).heap.size = w.heap.size + 1 by simp] at by0
  have hsz : ((w.alloc (.cells #[.slice A n c, .int .i64 t, .int .i64 err] 40)).alloc (.cells #[.slice none 0 0, .int .i64 0, .int .i64 0] 40)).heap.size = w.heap.size + 2 := by simp
  have hc := most_any A n c 18446744073709551615 t err bs _ ((h.below hb1).mono (by omega)) hn
  unfold MostIs at *
  generalize (goT n t err (rdS (rest bs t)).2.1 (mostE (rest bs t) 18446744073709551615)).1 = t2 at *
  generalize (goT n t err (rdS (rest bs t)).2.1 (mostE (rest bs t) 18446744073709551615)).2.1 = err2 at *
  generalize (pickR (goT n t err (rdS (rest bs t)).2.1 (mostE (rest bs t) 18446744073709551615)).2.2 (.num .u64 ((rdS (rest bs t)).1 : Int)) (.num .u64 0)) = r at *
  have Hc := Lib.hid hc; have Hb1 := Lib.hid hb1; have Hsz := Lib.hid hsz; have Hby := Lib.hid by0
  clear h hc hb1 by0 hsz
  unfold tv at *
  go_enter Try.func34, Try.ntmps34
  go_wp2_with fail
  refine Hc.out.mono ?_; rintro e w1 ⟨v, x, rfl, ⟨s, rfl, ho⟩, hr, hb⟩
  have b1 := Hby.out.belowAll hb
  obtain ⟨c0, c1, c2, f0, f1, f2⟩ := b1.three
  obtain ⟨A2, cc2, rfl, _⟩ := ho.row
  have Ho := Lib.hid ho; have Hr := Lib.hid hr; have Hb := Lib.hid hb; have B1 := Lib.hid b1
  clear ho hr hb b1
  go_wp2_with fail
  have b2 := ((B1.out.set 0 (.slice A2 bs.length cc2)).set 1 (.int .i64 t2)).set 2 (.int .i64 err2)
  clear c0 c1 c2 f0 f1 f2
  obtain ⟨c0, c1, c2, _, _, _⟩ := b2.three
  refine bodyPost_ret (v := .tuple #[.agg #[.slice A2 bs.length cc2, .int .i64 t2, .int .i64 err2], x]) (by simp [results, Try.results34, go_sem, c0, c1, c2]) rfl ?_
  exact TakeIs.out Hb1.out (by omega) (by rw [Hsz.out]; omega) Ho.out Hr.out Hb.out
set_option maxRecDepth 100000 in
set_option maxHeartbeats 2000000 in
theorem takeInt_any (A : Option Addr) (n c : Nat) (t err : Int) (bs : List Nat) (w : World) (h : RowB w w.heap.size A n c bs) (hn : n ≤ 1000000) :
    Calls Try.prog 35 #[tv A n c t err] w (IntIs w n bs t err) := by
  have hb1 : Below w.heap.size w ((w.alloc (.cells #[.slice A n c, .int .i64 t, .int .i64 err] 40)).alloc (.cells #[.slice none 0 0, .int .i64 0, .int .i64 0] 40)) := ((Below.refl _ w).alloc (Nat.le_refl _) _).alloc (by simp) _
  have by0 := Box.new (w.alloc (.cells #[.slice A n c, .int .i64 t, .int .i64 err] 40)) 40 #[.slice none 0 0, .int .i64 0, .int .i64 0]
  rw [show (w.alloc (.cells #[.slice A n c, .int .i64 t, .int .i64 err] 40)).heap.size = w.heap.size + 1 by simp] at by0
  have hsz : ((w.alloc (.cells #[.slice A n c, .int .i64 t, .int .i64 err] 40)).alloc (.cells #[.slice none 0 0, .int .i64 0, .int .i64 0] 40)).heap.size = w.heap.size + 2 := by simp
  have hc := take_i64 A n c  t err bs _ ((h.below hb1).mono (by omega)) hn
  unfold IntIs
  generalize (goT n t err (rdS (rest bs t)).2.1 ((rdS (rest bs t)).2.2 : Int)).1 = t2 at *
  generalize (goT n t err (rdS (rest bs t)).2.1 ((rdS (rest bs t)).2.2 : Int)).2.1 = err2 at *
  generalize (pickR (goT n t err (rdS (rest bs t)).2.1 ((rdS (rest bs t)).2.2 : Int)).2.2 (.num .i64 (backZ ((rdS (rest bs t)).1 : Int))) (.num .i64 0)) = r at *
  have Hc := Lib.hid hc; have Hb1 := Lib.hid hb1; have Hsz := Lib.hid hsz; have Hby := Lib.hid by0
  clear h hc hb1 by0 hsz
  unfold tv at *
  go_enter Try.func35, Try.ntmps35
  go_wp2_with fail
  refine Hc.out.mono ?_; rintro e w1 ⟨v, x, rfl, ⟨s, rfl, ho⟩, hr, hb⟩
  have b1 := Hby.out.belowAll hb
  obtain ⟨c0, c1, c2, f0, f1, f2⟩ := b1.three
  obtain ⟨A2, cc2, rfl, _⟩ := ho.row
  have Ho := Lib.hid ho; have Hr := Lib.hid hr; have Hb := Lib.hid hb; have B1 := Lib.hid b1
  clear ho hr hb b1
  go_wp2_with fail
  have b2 := ((B1.out.set 0 (.slice A2 bs.length cc2)).set 1 (.int .i64 t2)).set 2 (.int .i64 err2)
  clear c0 c1 c2 f0 f1 f2
  obtain ⟨c0, c1, c2, _, _, _⟩ := b2.three
  refine bodyPost_ret (v := .tuple #[.agg #[.slice A2 bs.length cc2, .int .i64 t2, .int .i64 err2], x]) (by simp [results, Try.results35, go_sem, c0, c1, c2]) rfl ?_
  exact TakeIs.out Hb1.out (by omega) (by rw [Hsz.out]; omega) Ho.out Hr.out Hb.out
set_option maxRecDepth 100000 in
set_option maxHeartbeats 2000000 in
theorem takeFlag_any (A : Option Addr) (n c : Nat) (t err : Int) (bs : List Nat) (w : World) (h : RowB w w.heap.size A n c bs) (hn : n ≤ 1000000) :
    Calls Try.prog 43 #[tv A n c t err] w (FlagIs w n bs t err) := by
  have hb1 : Below w.heap.size w ((w.alloc (.cells #[.slice A n c, .int .i64 t, .int .i64 err] 40)).alloc (.cells #[.slice none 0 0, .int .i64 0, .int .i64 0] 40)) := ((Below.refl _ w).alloc (Nat.le_refl _) _).alloc (by simp) _
  have by0 := Box.new (w.alloc (.cells #[.slice A n c, .int .i64 t, .int .i64 err] 40)) 40 #[.slice none 0 0, .int .i64 0, .int .i64 0]
  rw [show (w.alloc (.cells #[.slice A n c, .int .i64 t, .int .i64 err] 40)).heap.size = w.heap.size + 1 by simp] at by0
  have hsz : ((w.alloc (.cells #[.slice A n c, .int .i64 t, .int .i64 err] 40)).alloc (.cells #[.slice none 0 0, .int .i64 0, .int .i64 0] 40)).heap.size = w.heap.size + 2 := by simp
  have hc := take_bool A n c  t err bs _ ((h.below hb1).mono (by omega)) hn
  unfold FlagIs
  generalize (goT n t err (flagR (rest bs t)).2.1 (flagR (rest bs t)).2.2).1 = t2 at *
  generalize (goT n t err (flagR (rest bs t)).2.1 (flagR (rest bs t)).2.2).2.1 = err2 at *
  generalize (pickR (goT n t err (flagR (rest bs t)).2.1 (flagR (rest bs t)).2.2).2.2 (.flag (flagR (rest bs t)).1) (.flag false)) = r at *
  have Hc := Lib.hid hc; have Hb1 := Lib.hid hb1; have Hsz := Lib.hid hsz; have Hby := Lib.hid by0
  clear h hc hb1 by0 hsz
  unfold tv at *
  go_enter Try.func43, Try.ntmps43
  go_wp2_with fail
  refine Hc.out.mono ?_; rintro e w1 ⟨v, x, rfl, ⟨s, rfl, ho⟩, hr, hb⟩
  have b1 := Hby.out.belowAll hb
  obtain ⟨c0, c1, c2, f0, f1, f2⟩ := b1.three
  obtain ⟨A2, cc2, rfl, _⟩ := ho.row
  have Ho := Lib.hid ho; have Hr := Lib.hid hr; have Hb := Lib.hid hb; have B1 := Lib.hid b1
  clear ho hr hb b1
  go_wp2_with fail
  have b2 := ((B1.out.set 0 (.slice A2 bs.length cc2)).set 1 (.int .i64 t2)).set 2 (.int .i64 err2)
  clear c0 c1 c2 f0 f1 f2
  obtain ⟨c0, c1, c2, _, _, _⟩ := b2.three
  refine bodyPost_ret (v := .tuple #[.agg #[.slice A2 bs.length cc2, .int .i64 t2, .int .i64 err2], x]) (by simp [results, Try.results43, go_sem, c0, c1, c2]) rfl ?_
  exact TakeIs.out Hb1.out (by omega) (by rw [Hsz.out]; omega) Ho.out Hr.out Hb.out
end Go.Proofs.Ytnppkobckabpcaa
