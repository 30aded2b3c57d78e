/- CronBack: walked. -/
import Derived.Test.YtmjjdccpnepjjaaGreatDoorKGTells7
namespace Go.Proofs.YtmjjdccpnepjjaaGreatDoor
open Go.RowKit

theorem lib_count (c : UInt8) : ∀ (n : Nat) (l : List UInt8), l.length ≤ n → Lib.count l [c] = l.count c
  | 0, l, h => by
    have : l = [] := List.eq_nil_of_length_eq_zero (by omega)
    subst this
    rcases index_one c [] with ⟨_, h2⟩ | ⟨r, h1, _, _⟩
    · rw [Lib.count_miss h2]; rfl
    · simp [cutB] at h1
  | n + 1, l, h => by
    rcases index_one c l with ⟨h1, h2⟩ | ⟨r, h1, h2, h3⟩
    · rw [Lib.count_miss h2, List.count_eq_zero.2 h1]
    · have hn : c ∉ (cutB l c).1 := (cutB_spec l c).1
      have hd : l.drop ((cutB l c).1.length + [c].length) = r := by
        generalize (cutB l c).1 = a at *
        subst h1
        simp
      rw [Lib.count_hit (by simp) h3, hd, lib_count c n r (by have := congrArg List.length h1; simp at this; omega)]
      generalize (cutB l c).1 = a at *
      subst h1
      rw [List.count_append, List.count_eq_zero.2 hn, List.count_cons_self]
      omega
theorem ct_read {a b c d e : BitVec 64} (h : crB [a, b, c, d, e] = true) : creadV (ctextL [a, b, c, d, e]) = .tuple #[.agg #[.int .u64 (U a), .int .u64 (U b), .int .u64 (U c), .int .u64 (U d), .int .u64 (U e)], .int .i64 0, .int .i64 0] :=
  creadV_some (read_textC (crB_field h 0 (by omega)) (crB_field h 1 (by omega)) (crB_field h 2 (by omega)) (crB_field h 3 (by omega)) (crB_field h 4 (by omega)))
theorem ct_count {a b c d e : BitVec 64} (h : crB [a, b, c, d, e] = true) : Lib.countB ⟨(ctextL [a, b, c, d, e]).toArray⟩ ⟨#[32]⟩ = 4 := by
  show Lib.count (ctextL [a, b, c, d, e]).toArray.toList [32] = 4
  rw [List.toList_toArray, lib_count 32 _ _ (Nat.le_refl _)]
  exact count_blank (crB_field h 0 (by omega)) (crB_field h 1 (by omega)) (crB_field h 2 (by omega)) (crB_field h 3 (by omega)) (crB_field h 4 (by omega))
theorem read_cr {s : List UInt8} {l : List (BitVec 64)} {p : Nat} (h : readC s = (some l, p)) : l.length = 5 ∧ p = 0 ∧ crB l = true := by
  obtain ⟨h1, h2, h3⟩ := readC_right h
  refine ⟨h1, h2, crB_yes fun k hk => ?_⟩
  rw [fieldB_iff, List.getD_eq_getElem?_getD, List.getElem?_eq_getElem (by omega)]
  exact h3 k (by omega)
theorem ctextV_yes {L : List (BitVec 64)} (h : crB L = true) : ctextV L = .tuple #[.string ⟨(ctextL L).toArray⟩, .int .i64 0] := by unfold ctextV; rw [h]; rfl
theorem ctextV_no {L : List (BitVec 64)} (h : crB L = false) : ctextV L = .tuple #[.string ⟨#[]⟩, .int .i64 170] := by unfold ctextV; rw [h]; rfl
theorem crE_yes {L : List (BitVec 64)} (h : crB L = true) : crE L = 0 := by unfold crE; rw [h]; rfl
theorem crE_no {L : List (BitVec 64)} (h : crB L = false) : crE L = 170 := by unfold crE; rw [h]; rfl
/-- Blanks twice. -/
theorem replace_sp (l : List UInt8) (w : World) (hL : Laid w) (hl : l.length ≤ 256) :
    Calls Tryz.prog 23 #[.string ⟨l.toArray⟩, .string ⟨#[32]⟩, .string ⟨#[32, 32]⟩] w fun e w' => e = .returned (.string ⟨(wideL l).toArray⟩) ∧ Below w.heap.size w w' := by
  obtain ⟨m, hm⟩ := hL.maxLen
  have hz : (⟨l.toArray⟩ : ByteArray).size = l.length := by show l.toArray.size = _; simp
  have hc : Lib.countB ⟨l.toArray⟩ ⟨#[32]⟩ ≤ l.length := by
    show Lib.count l.toArray.toList [32] ≤ _
    rw [List.toList_toArray, lib_count 32 _ _ (Nat.le_refl _)]
    exact List.count_le_length
  have h := strings_ReplaceAll ⟨l.toArray⟩ ⟨#[32]⟩ ⟨#[32, 32]⟩ m w (by rw [hz]; omega) hm (by decide) (by rw [hz]; show l.length + _ * 2 ≤ _; omega)
  rw [show (⟨l.toArray⟩ : ByteArray).data.toList = l by simp, show (⟨#[32]⟩ : ByteArray).data.toList = [32] by rfl, show (⟨#[32, 32]⟩ : ByteArray).data.toList = [32, 32] by rfl, replace_wide] at h
  exact h
theorem count_sp (l : List UInt8) (w : World) (hL : Laid w) (hl : l.length ≤ 256) :
    Calls Tryz.prog 22 #[.string ⟨l.toArray⟩, .string ⟨#[32]⟩] w fun e w' => e = .returned (.int .i64 (Lib.countB ⟨l.toArray⟩ ⟨#[32]⟩ : Nat)) ∧ w' = w := by
  obtain ⟨m, hm⟩ := hL.maxLen
  have hz : (⟨l.toArray⟩ : ByteArray).size = l.length := by show l.toArray.size = _; simp
  exact strings_Count_any ⟨l.toArray⟩ ⟨#[32]⟩ m w (by rw [hz]; omega) hm (by decide)
def cut256 (s : List UInt8) : List UInt8 := s.take 256
theorem cut256_len (s : List UInt8) : (cut256 s).length ≤ 256 := by unfold cut256; rw [List.length_take]; omega
theorem cut256_at (s : ByteArray) : s.extract 0 (min (s.size : Int) 256).toNat = ⟨(cut256 s.data.toList).toArray⟩ := by
  have hx : s.data.toList.take (min (s.size : Int) 256).toNat = cut256 s.data.toList := by
    unfold cut256
    by_cases h : s.size ≤ 256
    · rw [List.take_of_length_le (by rw [len_list]; omega), List.take_of_length_le (by rw [len_list]; omega)]
    · rw [show (min (s.size : Int) 256).toNat = 256 by omega]
  rw [← hx]
  exact Value.string.inj (ext_head s _)
set_option maxRecDepth 100000 in
set_option maxHeartbeats 4000000 in
theorem back7_walk (L : List (BitVec 64)) (s : ByteArray) (w : World) (hL : LaidC w) (h5 : L.length = 5) (hs : s.size ≤ maxLen) :
    Calls Tryz.prog 6 #[cronV L, .string s] w fun e w' => e = .returned (.bool true) ∧ Below w.heap.size w w' := by
  unfold maxLen at hs
  have HL := Lib.hid hL
  clear hL
  obtain ⟨a, b, c, d, e, rfl⟩ := list_five h5
  have HT := Lib.hid (fun W hW => ctext_any [a, b, c, d, e] W hW rfl)
  rw [cronV_five] at *
  unfold fiveV at *
  have hcut := cut256_at s
  have hcl := cut256_len s.data.toList
  generalize cut256 s.data.toList = tx at *
  have HCut := Lib.hid hcut
  cases hcr : crB [a, b, c, d, e] with
  | false =>
    have hct := ctextV_no hcr
    simp only [hct] at HT
    clear hct hcr
    go_enter Tryz.func6, Tryz.ntmps6
    go_wp2_with fail
    have hb0 : Below w.heap.size w (w.alloc (.cells #[.int .u64 (U a), .int .u64 (U b), .int .u64 (U c), .int .u64 (U d), .int .u64 (U e)] 27)) := (Below.refl _ w).alloc (Nat.le_refl _) _
    have hc0 := CronAt.new w a b c d e
    have HL0 := Lib.hid (HL.out.on hb0)
    generalize w.alloc _ = w0 at *
    refine (cwakes_any w0 HL0.out).mono ?_
    rintro x w1 ⟨rfl, hb⟩
    have HB1 := Lib.hid (hb0.trans (hb.mono hb0.size)); have HC1 := Lib.hid (hc0.on hb); have HL1 := Lib.hid (HL0.out.on hb)
    clear hb hb0 hc0 HL0
    obtain ⟨c0, c1, c2, c3, c4⟩ := HC1.out.five
    go_wp2_with fail
    refine (HT.out _ HL1.out).mono ?_
    rintro x w2 ⟨rfl, hb⟩
    have HB2 := Lib.hid (HB1.out.trans (hb.mono HB1.out.size)); have HC2 := Lib.hid (HC1.out.on hb); have HL2 := Lib.hid (HL1.out.on hb)
    clear hb c0 c1 c2 c3 c4 HT HB1 HC1 HL1
    go_wp2_with fail
    have hgl := HC2.out.lt
    cases hrr : readC tx with
    | mk o p =>
    cases o with
    | none =>
      have hple : p ≤ tx.length := readC_err hrr
      have HRt := Lib.hid (cread_short tx _ HL2.out hcl)
      rw [creadV_none hrr] at HRt
      unfold strV cronV nilF at HRt
      simp only [List.map_cons, List.map_nil] at HRt
      unfold menc at HRt
      rw [U_zero] at HRt
      have hp1 : (p : Int) ≤ (tx.length : Int) := by omega
      have hp0 : (0 : Int) ≤ (p : Int) := by omega
      clear hrr
      refine HRt.out.mono ?_
      rintro x w6 ⟨rfl, hb⟩
      have HB6 := Lib.hid (HB2.out.trans (hb.mono HB2.out.size)); have HC6 := Lib.hid (HC2.out.on hb)
      clear hb
      obtain ⟨c0, c1, c2, c3, c4⟩ := HC6.out.five
      have f0 := HC6.out.frozen 0; have f1 := HC6.out.frozen 1; have f2 := HC6.out.frozen 2; have f3 := HC6.out.frozen 3; have f4 := HC6.out.frozen 4
      go_wp2_with fail
      go_ret
      exact ⟨rfl, below_five HB6.out (Nat.le_refl _) _ _ _ _ _⟩
    | some l =>
      obtain ⟨hl5, hp0, hlc⟩ := read_cr hrr
      subst hp0
      obtain ⟨v0, v1, v2, v3, v4, rfl⟩ := list_five hl5
      have HRt := Lib.hid (cread_short tx _ HL2.out hcl)
      rw [creadV_some hrr] at HRt
      unfold strV cronV at HRt
      simp only [List.map_cons, List.map_nil] at HRt
      unfold menc at HRt
      have HT2 := Lib.hid (fun W hW => ctext_any [v0, v1, v2, v3, v4] W hW rfl)
      have HK2 := Lib.hid (fun W hW => ccheck_any [v0, v1, v2, v3, v4] W hW rfl)
      rw [cronV_five, ctextV_yes hlc] at HT2
      rw [cronV_five, crE_yes hlc] at HK2
      unfold fiveV at HT2 HK2
      have hln2 := ctextL_len hlc
      have HR2 := Lib.hid (fun W hW => cread_short (ctextL [v0, v1, v2, v3, v4]) W hW (by omega))
      rw [ct_read hlc] at HR2
      unfold strV at HR2
      have hw := creadV_some (read_wide hrr)
      unfold cronV at hw
      simp only [List.map_cons, List.map_nil] at hw
      unfold menc at hw
      have HWd := Lib.hid hw
      have hwl : (wideL tx).length ≤ 512 := by rw [wide_len]; have := List.count_le_length (a := (32 : UInt8)) (l := tx); omega
      have HRp := Lib.hid (fun W hW => replace_sp tx W hW hcl)
      clear hrr hlc hl5 hw
      generalize ctextL [v0, v1, v2, v3, v4] = ct2 at *
      generalize wideL tx = wl at *
      have ha1 : (⟨#[32, 32]⟩ : ByteArray) ++ ⟨wl.toArray⟩ = ⟨(32 :: 32 :: wl).toArray⟩ := str_add' [32, 32] wl
      have ha2 : (⟨(32 :: 32 :: wl).toArray⟩ : ByteArray) ++ ⟨#[32]⟩ = ⟨(32 :: 32 :: (wl ++ [32])).toArray⟩ := str_add' (32 :: 32 :: wl) [32]
      refine HRt.out.mono ?_
      rintro x w6 ⟨rfl, hb⟩
      have HB6 := Lib.hid (HB2.out.trans (hb.mono HB2.out.size)); have HC6 := Lib.hid (HC2.out.on hb); have HL6 := Lib.hid (HL2.out.on hb)
      clear hb
      obtain ⟨c0, c1, c2, c3, c4⟩ := HC6.out.five
      have f0 := HC6.out.frozen 0; have f1 := HC6.out.frozen 1; have f2 := HC6.out.frozen 2; have f3 := HC6.out.frozen 3; have f4 := HC6.out.frozen 4
      go_wp2_with fail
      have hF : ∃ W : World, W = set5V w6 w.heap.size (.int .u64 (U v0)) (.int .u64 (U v1)) (.int .u64 (U v2)) (.int .u64 (U v3)) (.int .u64 (U v4)) ∧ Below w.heap.size w W ∧ CronAt W w.heap.size [v0, v1, v2, v3, v4] :=
        ⟨_, rfl, below_five HB6.out (Nat.le_refl _) _ _ _ _ _, HC6.out.set5 v0 v1 v2 v3 v4⟩
      obtain ⟨w7, hw7, hb7, hc7⟩ := hF
      unfold set5V at hw7
      rw [← hw7]
      clear hw7 c0 c1 c2 c3 c4 f0 f1 f2 f3 f4 HB6 HC6 HL6 HRt
      have HB7 := Lib.hid hb7; have HC7 := Lib.hid hc7; have HL7 := Lib.hid (HL.out.on hb7)
      clear hb7 hc7
      refine (HT2.out _ HL7.out).mono ?_
      rintro x w8 ⟨rfl, hb⟩
      have HB8 := Lib.hid (HB7.out.trans (hb.mono HB7.out.size)); have HC8 := Lib.hid (HC7.out.on hb); have HL8 := Lib.hid (HL7.out.on hb)
      clear hb HB7 HC7 HL7
      go_wp2_with fail
      refine (HR2.out _ HL8.out).mono ?_
      rintro x w9 ⟨rfl, hb⟩
      have HB9 := Lib.hid (HB8.out.trans (hb.mono HB8.out.size)); have HC9 := Lib.hid (HC8.out.on hb); have HL9 := Lib.hid (HL8.out.on hb)
      clear hb HB8 HC8 HL8
      have hgl9 := HC9.out.lt
      obtain ⟨c0, c1, c2, c3, c4⟩ := HC9.out.five
      go_wp2_with fail
      have hal := (Below.refl w9.heap.size w9).alloc (Nat.le_refl _) (.cells #[.int .u64 (U v0), .int .u64 (U v1), .int .u64 (U v2), .int .u64 (U v3), .int .u64 (U v4)] 27)
      have HBa := Lib.hid (HB9.out.trans (hal.mono HB9.out.size)); have HCa := Lib.hid (HC9.out.on hal); have HLa := Lib.hid (HL9.out.on hal)
      clear hal c0 c1 c2 c3 c4 HB9 HC9 HL9
      generalize w9.alloc _ = wa at *
      refine (HK2.out _ HLa.out.fld).mono ?_
      rintro x wb ⟨rfl, hb⟩
      have HBb := Lib.hid (HBa.out.trans (hb.mono HBa.out.size)); have HCb := Lib.hid (HCa.out.on hb); have HLb := Lib.hid (HLa.out.on hb)
      clear hb HBa HCa HLa
      go_wp2_with fail
      refine (HRp.out _ HLb.out.fld).mono ?_
      rintro x wc' ⟨rfl, hb⟩
      have HBc := Lib.hid (HBb.out.trans (hb.mono HBb.out.size)); have HCc := Lib.hid (HCb.out.on hb); have HLc := Lib.hid (HLb.out.on hb)
      clear hb HBb HCb HLb
      by_cases hwide : wl.length + 3 ≤ 256
      · have HRw := Lib.hid (fun W hW => cread_short (32 :: 32 :: (wl ++ [32])) W hW (by simp; omega))
        rw [HWd.out] at HRw
        unfold strV at HRw
        have hwz : (32 :: 32 :: (wl ++ [32]) : List UInt8).length ≤ 256 := by simp; omega
        have hwz2 : (((32 :: 32 :: (wl ++ [32]) : List UInt8).length : Nat) : Int) ≤ 256 := by omega
        clear HWd ha1 ha2
        go_wp2_with fail
        refine (HRw.out _ HLc.out).mono ?_
        rintro x wd ⟨rfl, hb⟩
        have HBd := Lib.hid (HBc.out.trans (hb.mono HBc.out.size)); have HCd := Lib.hid (HCc.out.on hb)
        clear hb
        have hgld := HCd.out.lt
        obtain ⟨c0, c1, c2, c3, c4⟩ := HCd.out.five
        go_wp2_with fail
        go_ret
        exact ⟨rfl, HBd.out.alloc HBd.out.size _⟩
      · go_wp2_with fail
        go_ret
        exact ⟨rfl, HBc.out⟩
  | true =>
    have hct := ctextV_yes hcr
    simp only [hct] at HT
    have hrd := ct_read hcr
    have HCt := Lib.hid (ct_count hcr)
    have hln := ctextL_len hcr
    have HRd := Lib.hid (fun W hW => cread_short (ctextL [a, b, c, d, e]) W hW (by omega))
    have HCn := Lib.hid (fun W hW => count_sp (ctextL [a, b, c, d, e]) W hW (by omega))
    rw [hrd] at HRd
    rw [HCt.out] at HCn
    unfold strV at HRd
    clear hct hrd HCt hcr
    generalize ctextL [a, b, c, d, e] = ct at *
    go_enter Tryz.func6, Tryz.ntmps6
    go_wp2_with fail
    have hb0 : Below w.heap.size w (w.alloc (.cells #[.int .u64 (U a), .int .u64 (U b), .int .u64 (U c), .int .u64 (U d), .int .u64 (U e)] 27)) := (Below.refl _ w).alloc (Nat.le_refl _) _
    have hc0 := CronAt.new w a b c d e
    have HL0 := Lib.hid (HL.out.on hb0)
    generalize w.alloc _ = w0 at *
    refine (cwakes_any w0 HL0.out).mono ?_
    rintro x w1 ⟨rfl, hb⟩
    have HB1 := Lib.hid (hb0.trans (hb.mono hb0.size)); have HC1 := Lib.hid (hc0.on hb); have HL1 := Lib.hid (HL0.out.on hb)
    clear hb hb0 hc0 HL0
    obtain ⟨c0, c1, c2, c3, c4⟩ := HC1.out.five
    go_wp2_with fail
    refine (HT.out _ HL1.out).mono ?_
    rintro x w2 ⟨rfl, hb⟩
    have HB2 := Lib.hid (HB1.out.trans (hb.mono HB1.out.size)); have HC2 := Lib.hid (HC1.out.on hb); have HL2 := Lib.hid (HL1.out.on hb)
    clear hb c0 c1 c2 c3 c4 HT HB1 HC1 HL1
    go_wp2_with fail
    refine (HRd.out _ HL2.out).mono ?_
    rintro x w3 ⟨rfl, hb⟩
    have HB3 := Lib.hid (HB2.out.trans (hb.mono HB2.out.size)); have HC3 := Lib.hid (HC2.out.on hb); have HL3 := Lib.hid (HL2.out.on hb)
    clear hb HB2 HC2 HL2
    have hgl := HC3.out.lt
    obtain ⟨c0, c1, c2, c3, c4⟩ := HC3.out.five
    go_wp2_with fail
    have hal := (Below.refl w3.heap.size w3).alloc (Nat.le_refl _) (.cells #[.int .u64 (U a), .int .u64 (U b), .int .u64 (U c), .int .u64 (U d), .int .u64 (U e)] 27)
    have HB4 := Lib.hid (HB3.out.trans (hal.mono HB3.out.size)); have HC4 := Lib.hid (HC3.out.on hal); have HL4 := Lib.hid (HL3.out.on hal)
    clear hal c0 c1 c2 c3 c4 HB3 HC3 HL3
    generalize w3.alloc _ = w4 at *
    refine (HCn.out _ HL4.out.fld).mono ?_
    rintro x w5 ⟨rfl, rfl⟩
    go_wp2_with fail
    have hgl := HC4.out.lt
    cases hrr : readC tx with
    | mk o p =>
    cases o with
    | none =>
      have hple : p ≤ tx.length := readC_err hrr
      have HRt := Lib.hid (cread_short tx _ HL4.out hcl)
      rw [creadV_none hrr] at HRt
      unfold strV cronV nilF at HRt
      simp only [List.map_cons, List.map_nil] at HRt
      unfold menc at HRt
      rw [U_zero] at HRt
      have hp1 : (p : Int) ≤ (tx.length : Int) := by omega
      have hp0 : (0 : Int) ≤ (p : Int) := by omega
      clear hrr
      refine HRt.out.mono ?_
      rintro x w6 ⟨rfl, hb⟩
      have HB6 := Lib.hid (HB4.out.trans (hb.mono HB4.out.size)); have HC6 := Lib.hid (HC4.out.on hb)
      clear hb
      obtain ⟨c0, c1, c2, c3, c4⟩ := HC6.out.five
      have f0 := HC6.out.frozen 0; have f1 := HC6.out.frozen 1; have f2 := HC6.out.frozen 2; have f3 := HC6.out.frozen 3; have f4 := HC6.out.frozen 4
      go_wp2_with fail
      go_ret
      exact ⟨rfl, below_five HB6.out (Nat.le_refl _) _ _ _ _ _⟩
    | some l =>
      obtain ⟨hl5, hp0, hlc⟩ := read_cr hrr
      subst hp0
      obtain ⟨v0, v1, v2, v3, v4, rfl⟩ := list_five hl5
      have HRt := Lib.hid (cread_short tx _ HL4.out hcl)
      rw [creadV_some hrr] at HRt
      unfold strV cronV at HRt
      simp only [List.map_cons, List.map_nil] at HRt
      unfold menc at HRt
      have HT2 := Lib.hid (fun W hW => ctext_any [v0, v1, v2, v3, v4] W hW rfl)
      have HK2 := Lib.hid (fun W hW => ccheck_any [v0, v1, v2, v3, v4] W hW rfl)
      rw [cronV_five, ctextV_yes hlc] at HT2
      rw [cronV_five, crE_yes hlc] at HK2
      unfold fiveV at HT2 HK2
      have hln2 := ctextL_len hlc
      have HR2 := Lib.hid (fun W hW => cread_short (ctextL [v0, v1, v2, v3, v4]) W hW (by omega))
      rw [ct_read hlc] at HR2
      unfold strV at HR2
      have hw := creadV_some (read_wide hrr)
      unfold cronV at hw
      simp only [List.map_cons, List.map_nil] at hw
      unfold menc at hw
      have HWd := Lib.hid hw
      have hwl : (wideL tx).length ≤ 512 := by rw [wide_len]; have := List.count_le_length (a := (32 : UInt8)) (l := tx); omega
      have HRp := Lib.hid (fun W hW => replace_sp tx W hW hcl)
      clear hrr hlc hl5 hw
      generalize ctextL [v0, v1, v2, v3, v4] = ct2 at *
      generalize wideL tx = wl at *
      have ha1 : (⟨#[32, 32]⟩ : ByteArray) ++ ⟨wl.toArray⟩ = ⟨(32 :: 32 :: wl).toArray⟩ := str_add' [32, 32] wl
      have ha2 : (⟨(32 :: 32 :: wl).toArray⟩ : ByteArray) ++ ⟨#[32]⟩ = ⟨(32 :: 32 :: (wl ++ [32])).toArray⟩ := str_add' (32 :: 32 :: wl) [32]
      refine HRt.out.mono ?_
      rintro x w6 ⟨rfl, hb⟩
      have HB6 := Lib.hid (HB4.out.trans (hb.mono HB4.out.size)); have HC6 := Lib.hid (HC4.out.on hb); have HL6 := Lib.hid (HL4.out.on hb)
      clear hb
      obtain ⟨c0, c1, c2, c3, c4⟩ := HC6.out.five
      have f0 := HC6.out.frozen 0; have f1 := HC6.out.frozen 1; have f2 := HC6.out.frozen 2; have f3 := HC6.out.frozen 3; have f4 := HC6.out.frozen 4
      go_wp2_with fail
      have hF : ∃ W : World, W = set5V w6 w.heap.size (.int .u64 (U v0)) (.int .u64 (U v1)) (.int .u64 (U v2)) (.int .u64 (U v3)) (.int .u64 (U v4)) ∧ Below w.heap.size w W ∧ CronAt W w.heap.size [v0, v1, v2, v3, v4] :=
        ⟨_, rfl, below_five HB6.out (Nat.le_refl _) _ _ _ _ _, HC6.out.set5 v0 v1 v2 v3 v4⟩
      obtain ⟨w7, hw7, hb7, hc7⟩ := hF
      unfold set5V at hw7
      rw [← hw7]
      clear hw7 c0 c1 c2 c3 c4 f0 f1 f2 f3 f4 HB6 HC6 HL6 HRt
      have HB7 := Lib.hid hb7; have HC7 := Lib.hid hc7; have HL7 := Lib.hid (HL.out.on hb7)
      clear hb7 hc7
      refine (HT2.out _ HL7.out).mono ?_
      rintro x w8 ⟨rfl, hb⟩
      have HB8 := Lib.hid (HB7.out.trans (hb.mono HB7.out.size)); have HC8 := Lib.hid (HC7.out.on hb); have HL8 := Lib.hid (HL7.out.on hb)
      clear hb HB7 HC7 HL7
      go_wp2_with fail
      refine (HR2.out _ HL8.out).mono ?_
      rintro x w9 ⟨rfl, hb⟩
      have HB9 := Lib.hid (HB8.out.trans (hb.mono HB8.out.size)); have HC9 := Lib.hid (HC8.out.on hb); have HL9 := Lib.hid (HL8.out.on hb)
      clear hb HB8 HC8 HL8
      have hgl9 := HC9.out.lt
      obtain ⟨c0, c1, c2, c3, c4⟩ := HC9.out.five
      go_wp2_with fail
      have hal := (Below.refl w9.heap.size w9).alloc (Nat.le_refl _) (.cells #[.int .u64 (U v0), .int .u64 (U v1), .int .u64 (U v2), .int .u64 (U v3), .int .u64 (U v4)] 27)
      have HBa := Lib.hid (HB9.out.trans (hal.mono HB9.out.size)); have HCa := Lib.hid (HC9.out.on hal); have HLa := Lib.hid (HL9.out.on hal)
      clear hal c0 c1 c2 c3 c4 HB9 HC9 HL9
      generalize w9.alloc _ = wa at *
      refine (HK2.out _ HLa.out.fld).mono ?_
      rintro x wb ⟨rfl, hb⟩
      have HBb := Lib.hid (HBa.out.trans (hb.mono HBa.out.size)); have HCb := Lib.hid (HCa.out.on hb); have HLb := Lib.hid (HLa.out.on hb)
      clear hb HBa HCa HLa
      go_wp2_with fail
      refine (HRp.out _ HLb.out.fld).mono ?_
      rintro x wc' ⟨rfl, hb⟩
      have HBc := Lib.hid (HBb.out.trans (hb.mono HBb.out.size)); have HCc := Lib.hid (HCb.out.on hb); have HLc := Lib.hid (HLb.out.on hb)
      clear hb HBb HCb HLb
      by_cases hwide : wl.length + 3 ≤ 256
      · have HRw := Lib.hid (fun W hW => cread_short (32 :: 32 :: (wl ++ [32])) W hW (by simp; omega))
        rw [HWd.out] at HRw
        unfold strV at HRw
        have hwz : (32 :: 32 :: (wl ++ [32]) : List UInt8).length ≤ 256 := by simp; omega
        have hwz2 : (((32 :: 32 :: (wl ++ [32]) : List UInt8).length : Nat) : Int) ≤ 256 := by omega
        clear HWd ha1 ha2
        go_wp2_with fail
        refine (HRw.out _ HLc.out).mono ?_
        rintro x wd ⟨rfl, hb⟩
        have HBd := Lib.hid (HBc.out.trans (hb.mono HBc.out.size)); have HCd := Lib.hid (HCc.out.on hb)
        clear hb
        have hgld := HCd.out.lt
        obtain ⟨c0, c1, c2, c3, c4⟩ := HCd.out.five
        go_wp2_with fail
        go_ret
        exact ⟨rfl, HBd.out.alloc HBd.out.size _⟩
      · go_wp2_with fail
        go_ret
        exact ⟨rfl, HBc.out⟩
end Go.Proofs.YtmjjdccpnepjjaaGreatDoor
