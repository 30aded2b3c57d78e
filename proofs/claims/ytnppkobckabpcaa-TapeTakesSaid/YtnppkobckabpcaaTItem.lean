/- Items: what is put. -/
import Derived.Test.YtnppkobckabpcaaTWakes
import Derived.Test.YtnppkobckabpcaaTPutsR
namespace Go.Proofs.Ytnppkobckabpcaa
open Go.RowKit

/-- An item's number that says which kind it is. -/
def kindOf (k : Int) : Int := k % 4
theorem kind_wrap (k : Int) : (IntKind.u64.wrap k).tmod 4 = kindOf k := by rw [IntKind.wrap_u64, Int.tmod_eq_emod_of_nonneg (by omega)]; unfold kindOf; omega
theorem kind_cases (k : Int) : kindOf k = 0 ∨ kindOf k = 1 ∨ kindOf k = 2 ∨ kindOf k = 3 := by unfold kindOf; omega
/-- What an item puts. -/
def itemB (k : Int) (N : Nat) (I : Int) (b : Bool) (x : List Nat) : List Nat :=
  if kindOf k = 0 then sh N else if kindOf k = 1 then sh (turnZ I).toNat else if kindOf k = 2 then [flagN b] else sh (x.take 300).length ++ x.take 300
def iv (k : Int) (N : Nat) (I : Int) (b : Bool) (B : Option Addr) (m d : Nat) : Value := .agg #[.int .i64 k, .int .u64 (N : Int), .int .i64 I, .bool b, .slice B m d]
set_option maxRecDepth 100000 in
set_option maxHeartbeats 2000000 in
theorem kind_any (k : Int) (N : Nat) (I : Int) (b : Bool) (B : Option Addr) (m d : Nat) (w : World) :
    Calls Try.prog 37 #[iv k N I b B m d] w fun e w' => e = .returned (.int .u64 (kindOf k)) ∧ Below w.heap.size w w' := by
  unfold iv
  go_enter Try.func37, Try.ntmps37
  go_wp2_with fail
  go_ret
  exact ⟨congrArg (fun z => Ending.returned (.int .u64 z)) (kind_wrap k), b_alloc _ _⟩
theorem Box.five {w : World} {g : Nat} {t : TypeId} {a b c d e : Value} (h : Box w g t #[a, b, c, d, e]) :
    w.cell? ⟨g, 0, none⟩ = some a ∧ w.cell? ⟨g, 1, none⟩ = some b ∧ w.cell? ⟨g, 2, none⟩ = some c ∧ w.cell? ⟨g, 3, none⟩ = some d ∧ w.cell? ⟨g, 4, none⟩ = some e :=
  ⟨h.cell 0, h.cell 1, h.cell 2, h.cell 3, h.cell 4⟩
set_option maxRecDepth 100000 in
set_option maxHeartbeats 4000000 in
theorem itemPut_any (k : Int) (N : Nat) (I : Int) (b : Bool) (B A : Option Addr) (m d n c : Nat) (xs bs : List Nat) (w : World) (hN : N < 18446744073709551616) (i0 : -9223372036854775808 ≤ I) (i1 : I ≤ 9223372036854775807)
    (hx : RowB w w.heap.size B m d xs) (h : RowB w w.heap.size A n c bs) (hn : n ≤ 900000) :
    Calls Try.prog 10 #[iv k N I b B m d, .slice A n c] w (PutIs w bs (itemB k N I b xs)) := by
  have hk := fun W => kind_any k N I b B m d W
  have hns : (kindOf k = 0 → itemB k N I b xs = sh N) ∧ (kindOf k = 1 → itemB k N I b xs = sh (turnZ I).toNat) ∧ (kindOf k = 2 → itemB k N I b xs = [flagN b]) ∧ (kindOf k = 3 → itemB k N I b xs = sh (xs.take 300).length ++ xs.take 300) := by
    unfold itemB
    refine ⟨fun h => by rw [if_pos h], fun h => by rw [if_neg (by omega), if_pos h], fun h => by rw [if_neg (by omega), if_neg (by omega), if_pos h], fun h => by rw [if_neg (by omega), if_neg (by omega), if_neg (by omega)]⟩
  have hkc := kind_cases k
  generalize itemB k N I b xs = nt at *
  generalize kindOf k = q at *
  have HNS := Lib.hid hns; have HKC := Lib.hid hkc
  clear hns hkc
  have hb1 := b_alloc w (.cells #[.int .i64 k, .int .u64 (N : Int), .int .i64 I, .bool b, .slice B m d] 29)
  have bx := Box.new w 29 #[.int .i64 k, .int .u64 (N : Int), .int .i64 I, .bool b, .slice B m d]
  have ha := h.below hb1
  have hxa := hx.below hb1
  have hsz : (w.alloc (.cells #[.int .i64 k, .int .u64 (N : Int), .int .i64 I, .bool b, .slice B m d] 29)).heap.size = w.heap.size + 1 := by simp
  have HK := Lib.hid hk; have HB := Lib.hid hb1; have BX := Lib.hid bx; have HA := Lib.hid ha; have HX := Lib.hid hxa; have HS := Lib.hid hsz
  have HN := Lib.hid hN; have I0 := Lib.hid i0; have I1 := Lib.hid i1
  clear i0 i1
  clear hk hb1 bx ha hxa hsz h hx hN
  unfold iv at *
  go_enter Try.func10, Try.ntmps10
  go_wp2_with fail
  refine (HK.out _).mono ?_; rintro e w1 ⟨rfl, hb2⟩
  have bx1 := BX.out.belowAll hb2
  obtain ⟨c0, c1, c2, c3, c4⟩ := bx1.five
  have HB1 := Lib.hid (gr_trans HB.out hb2)
  have HA1 := Lib.hid ((HA.out.mono (B' := (w.alloc (.cells #[.int .i64 k, .int .u64 (N : Int), .int .i64 I, .bool b, .slice B m d] 29)).heap.size) (by rw [HS.out]; omega)).below hb2)
  have HX1 := Lib.hid ((HX.out.mono (B' := (w.alloc (.cells #[.int .i64 k, .int .u64 (N : Int), .int .i64 I, .bool b, .slice B m d] 29)).heap.size) (by rw [HS.out]; omega)).below hb2)
  have hz1 : (w.alloc (.cells #[.int .i64 k, .int .u64 (N : Int), .int .i64 I, .bool b, .slice B m d] 29)).heap.size ≤ w1.heap.size := hb2.size
  have HZ := Lib.hid hz1
  clear bx1 hb2 BX HA HX hz1
  have fin : ∀ {w2 : World} {v : Value} {ns : List Nat}, OwnB w2 w1.heap.size v (bs ++ ns) → Below w1.heap.size w1 w2 → PutIs w bs ns (.returned v) w2 := fun ho hb => ⟨_, rfl, ho.mono HB1.out.size, gr_trans HB1.out hb⟩
  have FIN : Hid (∀ {w2 : World} {v : Value} {ns : List Nat}, OwnB w2 w1.heap.size v (bs ++ ns) → Below w1.heap.size w1 w2 → PutIs w bs ns (.returned v) w2) := fin
  clear fin
  rcases HKC.out with rfl | rfl | rfl | rfl
  · obtain rfl := HNS.out.1 rfl
    clear HKC HNS
    go_wp2_with fail
    refine (put_one A n c N bs w1 (HA1.out.mono HZ.out) (by omega) HN.out rfl).mono ?_; rintro e w2 ⟨v, rfl, ho, hb⟩
    go_wp2_with fail
    go_ret
    exact Hid.out FIN ho hb
  · obtain rfl := HNS.out.2.1 rfl
    clear HKC HNS
    go_wp2_with fail
    refine (putInt_any A n c I bs w1 (HA1.out.mono HZ.out) (by omega) I0.out I1.out).mono ?_; rintro e w2 ⟨v, rfl, ho, hb⟩
    go_wp2_with fail
    go_ret
    exact Hid.out FIN ho hb
  · obtain rfl := HNS.out.2.2.1 rfl
    clear HKC HNS
    go_wp2_with fail
    refine (putFlag_any A n c b bs w1 (HA1.out.mono HZ.out) (by omega)).mono ?_; rintro e w2 ⟨v, rfl, ho, hb⟩
    go_wp2_with fail
    go_ret
    exact Hid.out FIN ho hb
  · have hnt := HNS.out.2.2.2 rfl
    have hf := few_any B m d 300 xs w1 (HX1.out.mono HZ.out) (by omega)
    have hl : (xs.take 300).length ≤ 300 := by rw [List.length_take]; omega
    generalize xs.take 300 = ys at *
    obtain rfl := hnt
    rw [show ((300 : Nat) : Int) = 300 from rfl] at hf
    have HF := Lib.hid hf
    clear hf HKC HNS
    go_wp2_with fail
    refine HF.out.mono ?_; rintro e w2 ⟨v, rfl, ho, hb⟩
    obtain ⟨A2, c2', rfl, r2⟩ := ho.row
    have HA2 := Lib.hid ((HA1.out.mono HZ.out).below hb)
    have HR2 := Lib.hid r2
    have HB2 := Lib.hid hb
    have hz2 := hb.size
    clear ho hb r2
    have hp := putBytes_any A A2 n c ys.length c2' bs ys w2 (HA2.out.mono hz2) (by omega) HR2.out (by omega)
    have HP := Lib.hid hp
    clear hp HR2
    generalize ys.length = yl at *
    go_wp2_with fail
    refine HP.out.mono ?_; rintro e w3 ⟨v, rfl, ho, hb⟩
    go_wp2_with fail
    go_ret
    exact Hid.out FIN (ho.mono hz2) (gr_trans HB2.out hb)
end Go.Proofs.Ytnppkobckabpcaa
