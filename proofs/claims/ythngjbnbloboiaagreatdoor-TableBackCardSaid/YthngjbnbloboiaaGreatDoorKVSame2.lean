/- Whether tables are the same: walked, where they are. -/
import Derived.Test.YthngjbnbloboiaaGreatDoorKVSame
import Derived.Test.YthngjbnbloboiaaGreatDoorKVCheck
namespace Go.Proofs.YthngjbnbloboiaaGreatDoor
open Go.RowKit

set_option maxRecDepth 100000 in
set_option maxHeartbeats 4000000 in
theorem equalf_ok (A1 A2 : Option Addr) (n1 n2 c1 c2 : Nat) (ms1 ms2 : List RowM) (w : World) (h1 : TabR w A1 n1 c1 ms1) (h2 : TabR w A2 n2 c2 ms2) (he : ms1.map (·.1) = ms2.map (·.1)) (hn : n1 ≤ 100) :
    Calls Tryz.prog 32 #[.slice A1 n1 c1, .slice A2 n2 c2, .func (.func 33) #[] #[]] w fun e w' => e = .returned (.bool true) ∧ Below w.heap.size w w' := by
  have hnn : n2 = n1 := by
    have := congrArg List.length he
    rw [List.length_map, List.length_map, h1.len, h2.len] at this
    exact this.symm
  subst hnn
  have H1 := Lib.hid h1; have H2 := Lib.hid h2; have HE := Lib.hid he; have HL1 := Lib.hid h1.len; have HL2 := Lib.hid h2.len
  clear h1 h2 he
  go_enter Tryz.func32, Tryz.ntmps32
  go_wp2_with fail
  go_loopw [17] (fun i wr => ∃ k : Nat, k ≤ n2 ∧ i = .int .i64 (k : Int) ∧ Below w.heap.size w wr) (fun i _ => n2 - (intOf i).toNat)
  case atStart => exact ⟨0, Nat.zero_le _, rfl, Below.refl _ _⟩
  case round =>
    obtain ⟨k, hk, rfl, hb⟩ := hrel
    have HB := Lib.hid hb
    clear hb
    by_cases hlt : k < n2
    · obtain ⟨m1, hm1⟩ : ∃ m, ms1[k]? = some m := ⟨_, List.getElem?_eq_getElem (by have := HL1.out; omega)⟩
      obtain ⟨m2, hm2⟩ : ∃ m, ms2[k]? = some m := ⟨_, List.getElem?_eq_getElem (by have := HL2.out; omega)⟩
      have hr : m2.1 = m1.1 := by
        have := congrArg (fun l => l[k]?) HE.out
        simp only [List.getElem?_map, hm1, hm2, Option.map_some, Option.some.injEq] at this
        exact this.symm
      have ht1 := H1.out.on HB.out
      obtain ⟨b1, o1, rfl, _⟩ := ht1.rd.some_ (by rw [mflat_len ht1.fit, ht1.len]; omega)
      have hok1 := ht1.ok m1 (List.mem_of_getElem? hm1)
      have HLD1 := Lib.hid (tab_load ht1 hm1)
      obtain ⟨W1, hs1, hx1, hb1, hz1⟩ := row_var wr m1.1 m1.2 hok1.1 (qr_cell hok1.2)
      have hb1' := HB.out.trans (hb1.mono HB.out.size)
      have ht2 := H2.out.on hb1'
      obtain ⟨b2, o2, rfl, _⟩ := ht2.rd.some_ (by rw [mflat_len ht2.fit, ht2.len]; omega)
      have hok2 := ht2.ok m2 (List.mem_of_getElem? hm2)
      have HLD2 := Lib.hid (tab_load ht2 hm2)
      obtain ⟨W2, hs2, hx2, hb2, hz2⟩ := row_var W1 m2.1 m2.2 hok2.1 (qr_cell hok2.2)
      have HS1 := Lib.hid hs1; have HS2 := Lib.hid hs2
      have HLX1 := Lib.hid (row_load hok1.1 (D.Box.belowAll hx1 hb2)); have HLX2 := Lib.hid (row_load hok2.1 hx2)
      have HB2 := Lib.hid (hb1'.trans (hb2.mono hb1'.size))
      have HSM := Lib.hid (same1_any m1.1 m1.2 m2.2 W2 hok1.1 ((hok1.2.on hb1).on hb2) (by rw [← hr]; exact hok2.2.on hb2))
      rw [hr] at HLD2 HS2 HLX2
      have HZ1 := Lib.hid hz1
      have g1 : (0 : Int) ≤ (k : Int) := by omega
      have g2 : (k : Int) < (n2 : Int) := by omega
      clear hm1 hm2 hr ht1 hok1 hs1 hx1 hb1 hz1 hb1' ht2 hok2 hs2 hx2 hb2 hz2
      go_wp2_with (first | refine list_load rfl _ rfl rfl HLD1.out ?_ | refine list_load rfl _ rfl rfl HLD2.out ?_ | refine list_store rfl _ _ rfl rfl rfl HS1.out ?_ | refine list_store rfl _ _ rfl rfl rfl HS2.out ?_ | refine list_load rfl _ rfl rfl HLX1.out ?_ | refine list_load rfl _ rfl rfl HLX2.out ?_)
      refine HSM.out.mono ?_
      rintro e w3 ⟨rfl, hb⟩
      have HB3 := Lib.hid (HB2.out.trans (hb.mono HB2.out.size))
      clear hb
      go_wp2_with fail
      go_roundw
      case rel => exact ⟨k + 1, by omega, by go_num, HB3.out⟩
      case measure => simp [intOf]; omega
    · go_wp2_with fail
      go_ret
      exact ⟨rfl, HB.out⟩
set_option maxRecDepth 100000 in
set_option maxHeartbeats 1000000 in
theorem same_ok (A1 A2 : Option Addr) (n1 n2 c1 c2 : Nat) (ms1 ms2 : List RowM) (w : World) (h1 : TabR w A1 n1 c1 ms1) (h2 : TabR w A2 n2 c2 ms2) (he : ms1.map (·.1) = ms2.map (·.1)) (hn : n1 ≤ 100) :
    Calls Tryz.prog 11 #[.slice A1 n1 c1, .slice A2 n2 c2] w fun e w' => e = .returned (.bool true) ∧ Below w.heap.size w w' := by
  have HE := Lib.hid (equalf_ok A1 A2 n1 n2 c1 c2 ms1 ms2 w h1 h2 he hn)
  clear h1 h2 he
  go_enter Tryz.func11, Tryz.ntmps11
  go_wp2_with fail
  refine HE.out.mono ?_
  rintro e w1 ⟨rfl, hb⟩
  have HB := Lib.hid hb
  clear hb
  go_wp2_with fail
  go_ret
  exact ⟨rfl, HB.out⟩
end Go.Proofs.YthngjbnbloboiaaGreatDoor
