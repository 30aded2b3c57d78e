/- Whether times rise; whether one of them is strange: walked. -/
import Derived.Test.YthghcffibljclaaDoorRVTimes
namespace Go.Proofs.YthghcffibljclaaDoor
open Go.RowKit

/-- The answer is whether it is so. -/
def BoolIs (p : Prop) (x : Ending) : Prop := ∃ B, x = .returned (.bool B) ∧ (B = true ↔ p)
/-- The answer is a place, or below 0. -/
def IndexIs (p : Prop) (x : Ending) : Prop := ∃ k : Int, x = .returned (.int .i64 k) ∧ (decide (0 ≤ k) = true ↔ p)
theorem BoolIs.yes {p : Prop} (h : p) : BoolIs p (.returned (.bool true)) := ⟨true, rfl, by simp [h]⟩
theorem BoolIs.no {p : Prop} (h : ¬ p) : BoolIs p (.returned (.bool false)) := ⟨false, rfl, by simp [h]⟩
theorem BoolIs.of {p : Prop} {B : Bool} (h : B = true ↔ p) : BoolIs p (.returned (.bool B)) := ⟨B, rfl, h⟩
theorem qr_at {w : World} {A : Option Addr} {q : List Int} (h : Reads w A (q.map int1)) {k : Nat} {x : Int} (hk : q[k]? = some x) : ∃ b o, A = some ⟨b, o, none⟩ ∧ b < w.heap.size ∧ w.cell? ⟨b, o + k, none⟩ = some (.int .i64 x) :=
  h k _ (by rw [List.getElem?_map, hk]; rfl)
set_option maxRecDepth 100000 in
set_option maxHeartbeats 1000000 in
theorem rise_any (y : Value) (q : List Int) (w : World) (hq : QR w y q) (hl : q.length ≤ 1000) :
    Calls Tryd.prog 36 #[y] w fun e w' => BoolIs (q.Pairwise (· < ·)) e ∧ ∃ d, w' = w.drewN d := by
  obtain ⟨A, c, rfl, h1, h2, h3, h4⟩ := hq
  obtain ⟨n, hn⟩ : ∃ n, q.length = n := ⟨_, rfl⟩
  rw [hn] at h1 hl ⊢
  have HN := Lib.hid hn; have HR := Lib.hid h4
  unfold maxLen at h2
  have hw1 : IntKind.i64.wrap ((n : Int) - 1) = (n : Int) - 1 := by rw [IntKind.wrap_i64]; omega
  clear hn h4 h3
  go_enter Tryd.func36, Tryd.ntmps36
  go_wp2_with fail
  go_loopw [7] (fun i wr => ∃ k d : Nat, k ≤ n ∧ i = .int .i64 k ∧ Hid (∀ j x z, j < k → q[j]? = some x → q[j + 1]? = some z → x < z) ∧ wr = w.drewN d) (fun i _ => n - (intOf i).toNat)
  case atStart => exact ⟨0, 0, Nat.zero_le _, rfl, Lib.hid (fun j x z hj => absurd hj (by omega)), rfl⟩
  case round =>
    obtain ⟨k, d, hk, rfl, HI, rfl⟩ := hrel
    by_cases hlt : k + 1 < n
    · obtain ⟨x, hx⟩ : ∃ x, q[k]? = some x := ⟨_, List.getElem?_eq_getElem (by have := HN.out; omega)⟩
      obtain ⟨z, hz⟩ : ∃ z, q[k + 1]? = some z := ⟨_, List.getElem?_eq_getElem (by have := HN.out; omega)⟩
      obtain ⟨b1, o1, rfl, _, c1⟩ := qr_at HR.out hx
      obtain ⟨b2, o2, e2, _, c2⟩ := qr_at HR.out hz
      cases e2
      have HX := Lib.hid hx; have HZ := Lib.hid hz
      clear hx hz
      have g0 : (k : Int) < (n : Int) - 1 := by omega
      have g1 : (0 : Int) ≤ (k : Int) := by omega
      have g2 : (k : Int) < (n : Int) := by omega
      have g3 : (0 : Int) ≤ (k : Int) + 1 := by omega
      have g4 : (k : Int) + 1 < (n : Int) := by omega
      have g5 : IntKind.i64.wrap ((k : Int) + 1) = (k : Int) + 1 := by rw [IntKind.wrap_i64]; omega
      have g6 : ((k : Int) + 1).toNat = k + 1 := by omega
      by_cases hxz : z ≤ x
      · have hd : decide (z ≤ x) = true := decide_eq_true hxz
        have HF : Hid (¬ q.Pairwise (· < ·)) := Lib.hid (fun hp => by
          have h1 := (List.getElem?_eq_some_iff.1 HX.out).1
          have h2 := (List.getElem?_eq_some_iff.1 HZ.out).1
          have := List.pairwise_iff_getElem.1 hp k (k + 1) h1 h2 (by omega)
          rw [(List.getElem?_eq_some_iff.1 HX.out).2, (List.getElem?_eq_some_iff.1 HZ.out).2] at this
          omega)
        go_wp2_with fail
        go_quiet (fail)
        go_wp2_with fail
        go_ret
        exact ⟨.no HF.out, d + nq, by simp [World.drewN, Nat.add_assoc]⟩
      · have hd : decide (z ≤ x) = false := decide_eq_false hxz
        go_wp2_with fail
        go_quiet (fail)
        go_wp2_with fail
        go_roundw
        case rel => exact ⟨k + 1, _, by omega, by go_num, Lib.hid (fun j x' z' hj hx' hz' => by
          by_cases e : j = k
          · subst e
            rw [HX.out] at hx'; rw [HZ.out] at hz'
            cases hx'; cases hz'; omega
          · exact HI.out j x' z' (by omega) hx' hz'), rfl⟩
        case measure => simp [intOf]; omega
    · have g0 : ¬ (k : Int) < (n : Int) - 1 := by omega
      have HT : Hid (q.Pairwise (· < ·)) := Lib.hid (by
        have hs : ∀ (i j : Nat) (x z : Int), i < j → q[i]? = some x → q[j]? = some z → x < z := by
          intro i j
          induction j with
          | zero => intro x z h; omega
          | succ j ih =>
            intro x z hij hx hz
            have hjl := (List.getElem?_eq_some_iff.1 hz).1
            obtain ⟨y, hy⟩ : ∃ y, q[j]? = some y := ⟨_, List.getElem?_eq_getElem (by omega)⟩
            have h1 := HI.out j y z (by have := HN.out; omega) hy hz
            by_cases e : i = j
            · subst e
              rw [hx] at hy; cases hy
              exact h1
            · exact Int.lt_trans (ih x y (by omega) hx hy) h1
        exact List.pairwise_iff_getElem.2 fun i j hi hj hij => hs i j _ _ hij (List.getElem?_eq_getElem hi) (List.getElem?_eq_getElem hj))
      go_wp2_with fail
      go_ret
      exact ⟨.yes HT.out, d, rfl⟩
set_option maxRecDepth 100000 in
set_option maxHeartbeats 1000000 in
theorem index_strange (ev : List (BitVec 64) → Bool) (hev : EvIs ev) (r : RowZ) (v : Value) (now : Int) (y : Value) (q : List Int) (w : World) (hL : LaidC w) (hf : r.Fit) (hq : QR w y q) (hl : q.length ≤ 1000) :
    Calls Tryd.prog 49 #[y, .func (.func 38) #[rowNV r v now] #[]] w fun e w' => IndexIs (¬ ∀ x ∈ q, r.j.TT ev x) e ∧ Below w.heap.size w w' := by
  have HS := Lib.hid (fun s W hW => strange_any ev hev r v now s W hW hf)
  generalize rowNV r v now = rv at *
  generalize r.j.TT ev = TT at *
  obtain ⟨A, c, rfl, h1, h2, h3, h4⟩ := hq
  obtain ⟨n, hn⟩ : ∃ n, q.length = n := ⟨_, rfl⟩
  rw [hn] at h1 hl ⊢
  have HN := Lib.hid hn; have HR := Lib.hid h4; have HL := Lib.hid hL
  unfold maxLen at h2
  clear hn h4 h3 hL
  go_enter Tryd.func49, Tryd.ntmps49
  go_wp2_with fail
  go_loopw [8] (fun i wr => ∃ k : Nat, k ≤ n ∧ i = .int .i64 k ∧ Hid (∀ j x, j < k → q[j]? = some x → TT x) ∧ Below w.heap.size w wr) (fun i _ => n - (intOf i).toNat)
  case atStart => exact ⟨0, Nat.zero_le _, rfl, Lib.hid (fun j x hj => absurd hj (by omega)), Below.refl _ _⟩
  case round =>
    obtain ⟨k, hk, rfl, HI, hb⟩ := hrel
    have HB := Lib.hid hb
    clear hb
    by_cases hlt : k < n
    · obtain ⟨x, hx⟩ : ∃ x, q[k]? = some x := ⟨_, List.getElem?_eq_getElem (by have := HN.out; omega)⟩
      obtain ⟨b1, o1, rfl, hl1, c1⟩ := qr_at (HR.out.on HB.out) hx
      have HX := Lib.hid hx
      clear hx
      have g1 : (0 : Int) ≤ (k : Int) := by omega
      have g2 : (k : Int) < (n : Int) := by omega
      go_wp2_with fail
      refine (HS.out x _ (HL.out.on HB.out)).mono ?_
      rintro e w2 ⟨⟨B, rfl, hB⟩, hb⟩
      have HB2 := Lib.hid (HB.out.trans (hb.mono HB.out.size)); have HBB := Lib.hid hB
      clear hb hB c1
      cases B with
      | true =>
        have HF : Hid (¬ ∀ x ∈ q, TT x) := Lib.hid (fun h => by
          have := HBB.out.2 (h x (List.mem_of_getElem? HX.out))
          cases this)
        go_wp2_with fail
        go_ret
        exact ⟨⟨k, rfl, fun _ => HF.out, fun _ => decide_eq_true (by omega)⟩, HB2.out⟩
      | false =>
        have HT := Lib.hid (HBB.out.1 rfl)
        go_wp2_with fail
        go_roundw
        case rel => exact ⟨k + 1, by omega, by go_num, Lib.hid (fun j x' hj hx' => by
          by_cases e : j = k
          · subst e
            rw [HX.out] at hx'; cases hx'
            exact HT.out
          · exact HI.out j x' (by omega) hx'), HB2.out⟩
        case measure => simp [intOf]; omega
    · have HT : Hid (∀ x ∈ q, TT x) := Lib.hid (fun x hx => by
        obtain ⟨j, hj⟩ := List.mem_iff_getElem?.1 hx
        have := (List.getElem?_eq_some_iff.1 hj).1
        exact HI.out j x (by have := HN.out; omega) hj)
      go_wp2_with fail
      go_ret
      exact ⟨⟨-1, rfl, fun h => by (exact absurd (of_decide_eq_true h) (by omega)), fun h => absurd HT.out h⟩, HB.out⟩
set_option maxRecDepth 100000 in
set_option maxHeartbeats 1000000 in
theorem contains_strange (ev : List (BitVec 64) → Bool) (hev : EvIs ev) (r : RowZ) (v : Value) (now : Int) (y : Value) (q : List Int) (w : World) (hL : LaidC w) (hf : r.Fit) (hq : QR w y q) (hl : q.length ≤ 1000) :
    Calls Tryd.prog 37 #[y, .func (.func 38) #[rowNV r v now] #[]] w fun e w' => BoolIs (¬ ∀ x ∈ q, r.j.TT ev x) e ∧ Below w.heap.size w w' := by
  have HS := Lib.hid (index_strange ev hev r v now y q w hL hf hq hl)
  generalize rowNV r v now = rv at *
  obtain ⟨A, c, rfl, h1, h2, h3, h4⟩ := hq
  clear h1 h2 h3 h4 hL hl
  go_enter Tryd.func37, Tryd.ntmps37
  go_wp2_with fail
  refine HS.out.mono ?_
  rintro e w' ⟨⟨k, rfl, hk⟩, hb⟩
  have HK := Lib.hid hk
  clear hk
  go_wp2_with fail
  refine bodyPost_ret (v := .bool (decide (0 ≤ k))) (by simp [results, Tryd.results37, go_sem]) rfl ⟨.of HK.out, hb⟩
end Go.Proofs.YthghcffibljclaaDoor
