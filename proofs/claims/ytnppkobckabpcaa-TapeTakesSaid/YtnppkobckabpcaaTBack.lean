/- TapeBack walked: what was put is taken, whatever stands ahead of it, and behind it. -/
import Derived.Test.YtnppkobckabpcaaTItemX
namespace Go.Proofs.Ytnppkobckabpcaa
open Go.RowKit

theorem itemT_any (k : Int) (N : Nat) (I : Int) (b : Bool) (B A : Option Addr) (m d n c tn : Nat) (bs xs r : List Nat) (w : World) (hN : N < 18446744073709551616) (i0 : -9223372036854775808 ≤ I) (i1 : I ≤ 9223372036854775807)
    (hx : RowB w w.heap.size B m d xs) (h : RowB w w.heap.size A n c bs) (hn : n ≤ 16384) (ht : tn ≤ n) (hr : bs.drop tn = itemB k N I b xs ++ r) :
    Calls Try.prog 30 #[iv k N I b B m d, tv A n c (tn : Int) 0] w (ItemIs w bs ((tn : Int) + ((itemB k N I b xs).length : Int))) := by
  have hb := h.byte
  rcases kind_cases k with hk | hk | hk | hk
  · have e : itemB k N I b xs = sh N := by unfold itemB; rw [if_pos hk]
    rw [e] at hr ⊢
    exact itemT_num k N I b B A m d n c tn _ bs w hk h hn (fun W hW => by have := take_any A n c (tn : Int) 0 bs W hW (by omega); rwa [most_item W hn ht hb hN hr] at this)
  · have e : itemB k N I b xs = sh (turnZ I).toNat := by unfold itemB; rw [if_neg (by omega), if_pos hk]
    rw [e] at hr ⊢
    exact itemT_int k N I b B A m d n c tn _ bs w hk h hn (fun W hW => by have := takeInt_any A n c (tn : Int) 0 bs W hW (by omega); rwa [int_item W hn ht i0 i1 hr] at this)
  · have e : itemB k N I b xs = [flagN b] := by unfold itemB; rw [if_neg (by omega), if_neg (by omega), if_pos hk]
    rw [e] at hr ⊢
    exact itemT_flag k N I b B A m d n c tn _ bs w hk h hn (fun W hW => by have := takeFlag_any A n c (tn : Int) 0 bs W hW (by omega); rwa [flag_item W hn ht hr] at this)
  · have e : itemB k N I b xs = sh (xs.take 300).length ++ xs.take 300 := by unfold itemB; rw [if_neg (by omega), if_neg (by omega), if_neg (by omega)]
    rw [e] at hr ⊢
    have hl : (xs.take 300).length ≤ 300 := by rw [List.length_take]; omega
    rw [List.length_append]
    exact itemT_bytes k N I b B A m d n c tn _ bs xs w hk hx h hn (fun W hW => by have := takeBytes_any A n c (tn : Int) 0 300 bs W hW (by omega) (by omega); rwa [bytes_item W hn ht hl hr] at this)

/-- An item, and where its bytes lie. -/
structure It where
  k : Int
  N : Nat
  I : Int
  b : Bool
  B : Option Addr
  m : Nat
  d : Nat
  xs : List Nat
def It.by_ (x : It) : List Nat := itemB x.k x.N x.I x.b x.xs
structure It.Ok (w : World) (B0 : Nat) (x : It) : Prop where
  num : x.N < 18446744073709551616
  lo : -9223372036854775808 ≤ x.I
  hi : x.I ≤ 9223372036854775807
  row : RowB w B0 x.B x.m x.d x.xs
/-- The slice reads these items. -/
structure ItemsAt (w : World) (B0 : Nat) (L : Option Addr) (n : Nat) (its : List It) : Prop where
  len : its.length = n
  at_ : ∀ j, j < n → ∃ g o x, its[j]? = some x ∧ L = some ⟨g, o, none⟩ ∧ g < B0 ∧ It.Ok w B0 x ∧
    w.cell? ⟨g, o + j * 5, none⟩ = some (.int .i64 x.k) ∧ w.cell? ⟨g, o + j * 5 + 1, none⟩ = some (.int .u64 (x.N : Int)) ∧ w.cell? ⟨g, o + j * 5 + 2, none⟩ = some (.int .i64 x.I) ∧
    w.cell? ⟨g, o + j * 5 + 3, none⟩ = some (.bool x.b) ∧ w.cell? ⟨g, o + j * 5 + 4, none⟩ = some (.slice x.B x.m x.d)
theorem It.Ok.below {w w' : World} {B0 : Nat} {x : It} (h : It.Ok w B0 x) (hb : Below B0 w w') : It.Ok w' B0 x := ⟨h.num, h.lo, h.hi, h.row.below hb⟩
theorem ItemsAt.below {w w' : World} {B0 n : Nat} {L : Option Addr} {its : List It} (h : ItemsAt w B0 L n its) (hb : Below B0 w w') : ItemsAt w' B0 L n its :=
  ⟨h.len, fun j hj => by
    obtain ⟨g, o, x, e1, e2, hl, ok, c0, c1, c2, c3, c4⟩ := h.at_ j hj
    have hc := (below_cell hb).1
    exact ⟨g, o, x, e1, e2, hl, ok.below hb, (hc g _ hl).trans c0, (hc g _ hl).trans c1, (hc g _ hl).trans c2, (hc g _ hl).trans c3, (hc g _ hl).trans c4⟩⟩
def flat (its : List It) : List Nat := its.flatMap It.by_
theorem flat_next {its : List It} {j : Nat} {x : It} (h : its[j]? = some x) : flat (its.take (j + 1)) = flat (its.take j) ++ x.by_ := by
  unfold flat
  obtain ⟨hj, hx⟩ := List.getElem?_eq_some_iff.1 h
  rw [List.take_succ_eq_append_getElem hj, List.flatMap_append, hx]; simp
theorem flat_len {its : List It} (h : ∀ x ∈ its, 1 ≤ x.by_.length ∧ x.by_.length ≤ 310) (j : Nat) : (flat (its.take j)).length ≤ 310 * j := by
  induction j with
  | zero => simp [flat]
  | succ j ih =>
    by_cases hj : j < its.length
    · rw [flat_next (List.getElem?_eq_getElem hj), List.length_append]
      have := h _ (List.getElem_mem hj)
      omega
    · rw [List.take_of_length_le (by omega)]
      rw [List.take_of_length_le (by omega)] at ih
      omega
theorem flat_drop {its : List It} {j : Nat} {x : It} (a r : List Nat) (h : its[j]? = some x) : ∃ r', (a ++ (flat its ++ r)).drop (a.length + (flat (its.take j)).length) = x.by_ ++ r' := by
  obtain ⟨hj, hx⟩ := List.getElem?_eq_some_iff.1 h
  have e : its = its.take j ++ (x :: its.drop (j + 1)) := by
    rw [← hx, ← List.drop_eq_getElem_cons hj, List.take_append_drop]
  refine ⟨flat (its.drop (j + 1)) ++ r, ?_⟩
  have e2 : flat its = flat (its.take j) ++ (x.by_ ++ flat (its.drop (j + 1))) := by
    conv => lhs; rw [e]
    unfold flat; rw [List.flatMap_append, List.flatMap_cons]
  rw [e2, ← List.drop_drop, List.drop_left, List.append_assoc, List.drop_left, List.append_assoc]
end Go.Proofs.Ytnppkobckabpcaa
