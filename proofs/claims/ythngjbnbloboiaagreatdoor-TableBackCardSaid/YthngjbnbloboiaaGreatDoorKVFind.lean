/- Rows that are sought, by closures: walked. -/
import Derived.Test.YthngjbnbloboiaaGreatDoorKVRowF
namespace Go.Proofs.YthngjbnbloboiaaGreatDoor
open Go.RowKit

/-- The place of the first row of which it is so, or -1. -/
def PlaceIs (p : RowZ → Prop) (ms : List RowM) (e : Ending) : Prop :=
  (e = .returned (.int .i64 (-1)) ∧ ∀ m ∈ ms, ¬ p m.1) ∨ ∃ (k : Nat) (m : RowM), e = .returned (.int .i64 (k : Int)) ∧ ms[k]? = some m ∧ p m.1 ∧ ∀ (i : Nat) (x : RowM), i < k → ms[i]? = some x → ¬ p x.1
/-- The same, with whether there is one; if not, the end. -/
def FoundIs (p : RowZ → Prop) (ms : List RowM) (e : Ending) : Prop :=
  (e = .returned (.tuple #[.int .i64 (ms.length : Int), .bool false]) ∧ ∀ m ∈ ms, ¬ p m.1) ∨ ∃ (k : Nat) (m : RowM), e = .returned (.tuple #[.int .i64 (k : Int), .bool true]) ∧ ms[k]? = some m ∧ p m.1 ∧ ∀ (i : Nat) (x : RowM), i < k → ms[i]? = some x → ¬ p x.1
set_option maxRecDepth 100000 in
set_option maxHeartbeats 1000000 in
theorem index_named (A : Option Addr) (n c gx : Nat) (ms : List RowM) (name : Int) (w : World) (ht : TabR w A n c ms) (hl : gx < w.heap.size) (hc : w.cell? ⟨gx, 0, none⟩ = some (.int .u32 name)) :
    Calls Tryz.prog 55 #[.slice A n c, .func (.func 56) #[] #[.pointer (some ⟨gx, 0, none⟩)]] w fun e w' => PlaceIs (fun r => r.j.n = name) ms e ∧ Below w.heap.size w w' := by
  obtain ⟨p, hpq⟩ : ∃ p : RowZ → Prop, p = (fun r => r.j.n = name) := ⟨_, rfl⟩
  rw [← hpq]
  have HPQ : Hid (∀ r, p r ↔ r.j.n = name) := Lib.hid (fun r => by rw [hpq])
  clear hpq
  have hcap := ht.cap
  have htop := ht.top
  unfold maxLen at htop
  have HT := Lib.hid ht; have HC := Lib.hid hc; have HL := Lib.hid hl; have HN := Lib.hid ht.len
  clear ht hc hl
  go_enter Tryz.func55, Tryz.ntmps55
  go_wp2_with fail
  go_loopw [8] (fun i wr => ∃ k : Nat, k ≤ n ∧ i = .int .i64 (k : Int) ∧ Hid (∀ (i : Nat) (x : RowM), i < k → ms[i]? = some x → ¬ p x.1) ∧ Below w.heap.size w wr) (fun i _ => n - (intOf i).toNat)
  case atStart => exact ⟨0, Nat.zero_le _, rfl, Lib.hid (fun i x hi => absurd hi (by omega)), Below.refl _ _⟩
  case round =>
    obtain ⟨k, hk, rfl, HI, hb⟩ := hrel
    have HB := Lib.hid hb
    clear hb
    by_cases hlt : k < n
    · obtain ⟨m, hm⟩ : ∃ m, ms[k]? = some m := ⟨_, List.getElem?_eq_getElem (by have := HN.out; omega)⟩
      have htr := HT.out.on HB.out
      obtain ⟨bl, of, rfl, _⟩ := htr.rd.some_ (by rw [mflat_len htr.fit, htr.len]; omega)
      have HLD := Lib.hid (tab_load htr hm)
      have hcr : wr.cell? ⟨gx, 0, none⟩ = some (.int .u32 name) := (HB.out.cell (p := ⟨gx, 0, none⟩) HL.out).trans HC.out
      have HCL := Lib.hid (named1_any m.1 m.2 gx name wr (htr.fit m (List.mem_of_getElem? hm)) (Nat.lt_of_lt_of_le HL.out HB.out.size) hcr)
      have HM := Lib.hid hm
      clear htr hcr hm
      have g1 : (0 : Int) ≤ (k : Int) := by omega
      have g2 : (k : Int) < (n : Int) := by omega
      by_cases hp : p m.1
      · rw [decide_eq_true ((HPQ.out m.1).1 hp)] at HCL
        have HP := Lib.hid hp
        clear hp
        go_wp2_with (refine list_load rfl _ rfl rfl HLD.out ?_)
        refine HCL.out.mono ?_
        rintro e w2 ⟨rfl, hb⟩
        have HB2 := Lib.hid (HB.out.trans (hb.mono HB.out.size))
        clear hb
        go_wp2_with fail
        go_ret
        exact ⟨.inr ⟨k, m, rfl, HM.out, HP.out, HI.out⟩, HB2.out⟩
      · rw [decide_eq_false (fun h => hp ((HPQ.out m.1).2 h))] at HCL
        have HP := Lib.hid hp
        clear hp
        go_wp2_with (refine list_load rfl _ rfl rfl HLD.out ?_)
        refine HCL.out.mono ?_
        rintro e w2 ⟨rfl, hb⟩
        have HB2 := Lib.hid (HB.out.trans (hb.mono HB.out.size))
        clear hb
        go_wp2_with fail
        go_roundw
        case rel => exact ⟨k + 1, by omega, by go_num, Lib.hid (fun i x hi hx => by
          by_cases e : i = k
          · subst e
            rw [HM.out] at hx; cases hx
            exact HP.out
          · exact HI.out i x (by omega) hx), HB2.out⟩
        case measure => simp [intOf]; omega
    · go_wp2_with fail
      go_ret
      exact ⟨.inl ⟨rfl, fun m hm => by
        obtain ⟨i, hi⟩ := List.mem_iff_getElem?.1 hm
        have := (List.getElem?_eq_some_iff.1 hi).1
        exact HI.out i m (by have := HN.out; omega) hi⟩, HB.out⟩
set_option maxRecDepth 100000 in
set_option maxHeartbeats 1000000 in
theorem find_named (A : Option Addr) (n c gx : Nat) (ms : List RowM) (name : Int) (w : World) (ht : TabR w A n c ms) (hl : gx < w.heap.size) (hc : w.cell? ⟨gx, 0, none⟩ = some (.int .u32 name)) :
    Calls Tryz.prog 23 #[.slice A n c, .func (.func 56) #[] #[.pointer (some ⟨gx, 0, none⟩)]] w fun e w' => FoundIs (fun r => r.j.n = name) ms e ∧ Below w.heap.size w w' := by
  have HX := Lib.hid (index_named A n c gx ms name w ht hl hc)
  have HN := Lib.hid ht.len
  unfold FoundIs
  generalize (fun r : RowZ => r.j.n = name) = p at *
  clear ht hl hc
  go_enter Tryz.func23, Tryz.ntmps23
  go_wp2_with fail
  refine HX.out.mono ?_
  rintro e w2 ⟨⟨rfl, hno⟩ | ⟨k, m, rfl, hk, hp, hi⟩, hb⟩
  · have HB := Lib.hid hb; have HNO := Lib.hid hno
    clear hb hno
    go_wp2_with fail
    have e := HN.out
    subst e
    exact bodyPost_ret (v := .tuple #[.int .i64 (ms.length : Int), .bool false]) (by simp [results, Tryz.results23, go_sem]) rfl ⟨.inl ⟨rfl, HNO.out⟩, HB.out⟩
  · have HB := Lib.hid hb; have HK := Lib.hid hk; have HP := Lib.hid hp; have HI := Lib.hid hi
    clear hb hk hp hi
    go_wp2_with fail
    exact bodyPost_ret (v := .tuple #[.int .i64 (k : Int), .bool true]) (by simp [results, Tryz.results23, go_sem]) rfl ⟨.inr ⟨k, m, rfl, HK.out, HP.out, HI.out⟩, HB.out⟩
set_option maxRecDepth 100000 in
set_option maxHeartbeats 1000000 in
theorem index_add (A : Option Addr) (n c gx : Nat) (ms : List RowM) (name : Int) (w : World) (ht : TabR w A n c ms) (hl : gx < w.heap.size) (hc : w.cell? ⟨gx, 0, none⟩ = some (.int .u32 name)) :
    Calls Tryz.prog 55 #[.slice A n c, .func (.func 25) #[] #[.pointer (some ⟨gx, 0, none⟩)]] w fun e w' => PlaceIs (fun r => name < r.j.n) ms e ∧ Below w.heap.size w w' := by
  obtain ⟨p, hpq⟩ : ∃ p : RowZ → Prop, p = (fun r => name < r.j.n) := ⟨_, rfl⟩
  rw [← hpq]
  have HPQ : Hid (∀ r, p r ↔ name < r.j.n) := Lib.hid (fun r => by rw [hpq])
  clear hpq
  have hcap := ht.cap
  have htop := ht.top
  unfold maxLen at htop
  have HT := Lib.hid ht; have HC := Lib.hid hc; have HL := Lib.hid hl; have HN := Lib.hid ht.len
  clear ht hc hl
  go_enter Tryz.func55, Tryz.ntmps55
  go_wp2_with fail
  go_loopw [8] (fun i wr => ∃ k : Nat, k ≤ n ∧ i = .int .i64 (k : Int) ∧ Hid (∀ (i : Nat) (x : RowM), i < k → ms[i]? = some x → ¬ p x.1) ∧ Below w.heap.size w wr) (fun i _ => n - (intOf i).toNat)
  case atStart => exact ⟨0, Nat.zero_le _, rfl, Lib.hid (fun i x hi => absurd hi (by omega)), Below.refl _ _⟩
  case round =>
    obtain ⟨k, hk, rfl, HI, hb⟩ := hrel
    have HB := Lib.hid hb
    clear hb
    by_cases hlt : k < n
    · obtain ⟨m, hm⟩ : ∃ m, ms[k]? = some m := ⟨_, List.getElem?_eq_getElem (by have := HN.out; omega)⟩
      have htr := HT.out.on HB.out
      obtain ⟨bl, of, rfl, _⟩ := htr.rd.some_ (by rw [mflat_len htr.fit, htr.len]; omega)
      have HLD := Lib.hid (tab_load htr hm)
      have hcr : wr.cell? ⟨gx, 0, none⟩ = some (.int .u32 name) := (HB.out.cell (p := ⟨gx, 0, none⟩) HL.out).trans HC.out
      have HCL := Lib.hid (add1_any m.1 m.2 gx name wr (htr.fit m (List.mem_of_getElem? hm)) (Nat.lt_of_lt_of_le HL.out HB.out.size) hcr)
      have HM := Lib.hid hm
      clear htr hcr hm
      have g1 : (0 : Int) ≤ (k : Int) := by omega
      have g2 : (k : Int) < (n : Int) := by omega
      by_cases hp : p m.1
      · rw [decide_eq_true ((HPQ.out m.1).1 hp)] at HCL
        have HP := Lib.hid hp
        clear hp
        go_wp2_with (refine list_load rfl _ rfl rfl HLD.out ?_)
        refine HCL.out.mono ?_
        rintro e w2 ⟨rfl, hb⟩
        have HB2 := Lib.hid (HB.out.trans (hb.mono HB.out.size))
        clear hb
        go_wp2_with fail
        go_ret
        exact ⟨.inr ⟨k, m, rfl, HM.out, HP.out, HI.out⟩, HB2.out⟩
      · rw [decide_eq_false (fun h => hp ((HPQ.out m.1).2 h))] at HCL
        have HP := Lib.hid hp
        clear hp
        go_wp2_with (refine list_load rfl _ rfl rfl HLD.out ?_)
        refine HCL.out.mono ?_
        rintro e w2 ⟨rfl, hb⟩
        have HB2 := Lib.hid (HB.out.trans (hb.mono HB.out.size))
        clear hb
        go_wp2_with fail
        go_roundw
        case rel => exact ⟨k + 1, by omega, by go_num, Lib.hid (fun i x hi hx => by
          by_cases e : i = k
          · subst e
            rw [HM.out] at hx; cases hx
            exact HP.out
          · exact HI.out i x (by omega) hx), HB2.out⟩
        case measure => simp [intOf]; omega
    · go_wp2_with fail
      go_ret
      exact ⟨.inl ⟨rfl, fun m hm => by
        obtain ⟨i, hi⟩ := List.mem_iff_getElem?.1 hm
        have := (List.getElem?_eq_some_iff.1 hi).1
        exact HI.out i m (by have := HN.out; omega) hi⟩, HB.out⟩
set_option maxRecDepth 100000 in
set_option maxHeartbeats 1000000 in
theorem find_add (A : Option Addr) (n c gx : Nat) (ms : List RowM) (name : Int) (w : World) (ht : TabR w A n c ms) (hl : gx < w.heap.size) (hc : w.cell? ⟨gx, 0, none⟩ = some (.int .u32 name)) :
    Calls Tryz.prog 23 #[.slice A n c, .func (.func 25) #[] #[.pointer (some ⟨gx, 0, none⟩)]] w fun e w' => FoundIs (fun r => name < r.j.n) ms e ∧ Below w.heap.size w w' := by
  have HX := Lib.hid (index_add A n c gx ms name w ht hl hc)
  have HN := Lib.hid ht.len
  unfold FoundIs
  generalize (fun r : RowZ => name < r.j.n) = p at *
  clear ht hl hc
  go_enter Tryz.func23, Tryz.ntmps23
  go_wp2_with fail
  refine HX.out.mono ?_
  rintro e w2 ⟨⟨rfl, hno⟩ | ⟨k, m, rfl, hk, hp, hi⟩, hb⟩
  · have HB := Lib.hid hb; have HNO := Lib.hid hno
    clear hb hno
    go_wp2_with fail
    have e := HN.out
    subst e
    exact bodyPost_ret (v := .tuple #[.int .i64 (ms.length : Int), .bool false]) (by simp [results, Tryz.results23, go_sem]) rfl ⟨.inl ⟨rfl, HNO.out⟩, HB.out⟩
  · have HB := Lib.hid hb; have HK := Lib.hid hk; have HP := Lib.hid hp; have HI := Lib.hid hi
    clear hb hk hp hi
    go_wp2_with fail
    exact bodyPost_ret (v := .tuple #[.int .i64 (k : Int), .bool true]) (by simp [results, Tryz.results23, go_sem]) rfl ⟨.inr ⟨k, m, rfl, HK.out, HP.out, HI.out⟩, HB.out⟩
end Go.Proofs.YthngjbnbloboiaaGreatDoor
