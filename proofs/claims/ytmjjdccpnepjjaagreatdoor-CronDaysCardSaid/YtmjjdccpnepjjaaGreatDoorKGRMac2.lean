/- The document's Read, with macros: walked. -/
import Derived.Test.YtmjjdccpnepjjaaGreatDoorKGRRead
namespace Go.Proofs.YtmjjdccpnepjjaaGreatDoor
open Go.RowKit

theorem words_base {w : World} {base n c g o : Nat} {xs : List Value} (h : w.ownsRow base 73 2 (.slice (some ⟨g, o, none⟩) n c) n xs) : base ≤ g := by
  rcases h.2 with ⟨hv, _⟩ | ⟨g', cap, cur, hv, hg, _⟩
  · cases hv
  · injection hv with e1 e2 e3
    have := congrArg Addr.block (Option.some.inj e1)
    simp only at this
    omega
theorem macro_plain {l x : List UInt8} (h : macroL l = some x) : x.length ≤ 256 ∧ x ≠ [] ∧ ∀ y, (wordsL x).head? = some y → y.2.head? ≠ some 64 := by
  have key : ∀ x : List UInt8, x = [48, 32, 48, 32, 49, 32, 49, 32, 42] ∨ x = [48, 32, 48, 32, 49, 32, 42, 32, 42] ∨ x = [48, 32, 48, 32, 42, 32, 42, 32, 48] ∨ x = [48, 32, 48, 32, 42, 32, 42, 32, 42] ∨ x = [48, 32, 42, 32, 42, 32, 42, 32, 42] → x.length ≤ 256 ∧ x ≠ [] ∧ ∀ y, (wordsL x).head? = some y → y.2.head? ≠ some 64 := by
    rintro x (rfl | rfl | rfl | rfl | rfl) <;>
      exact ⟨by decide, by decide, fun y hy => by
        have e : y = (0, [48]) := (Option.some.inj hy).symm
        subst e; decide⟩
  refine key x ?_
  unfold macroL at h
  split at h
  · cases h; exact .inl rfl
  · split at h
    · cases h; exact .inr (.inl rfl)
    · split at h
      · cases h; exact .inr (.inr (.inl rfl))
      · split at h
        · cases h; exact .inr (.inr (.inr (.inl rfl)))
        · split at h
          · cases h; exact .inr (.inr (.inr (.inr rfl)))
          · cases h
theorem readC_mac {s t : List UInt8} {xa : Nat} {xs : List (Nat × List UInt8)} (hws : wordsL s = (xa, 64 :: t) :: xs) :
    (macroL (64 :: t) = none → readC s = (none, xa)) ∧ (∀ x v vs, macroL (64 :: t) = some x → xs = v :: vs → readC s = (none, v.1)) ∧ (∀ x, macroL (64 :: t) = some x → xs = [] → readC s = readC x) := by
  refine ⟨fun h => ?_, fun x v vs h hx => ?_, fun x h hx => ?_⟩
  · unfold readC; rw [hws]; simp [h]
  · subst hx; unfold readC; rw [hws]; simp [h]
  · subst hx
    obtain ⟨l, h1, h2, _⟩ := macro_reads h
    rw [h2]
    unfold readC; rw [hws]; simp [h, h1]
set_option maxRecDepth 100000 in
set_option maxHeartbeats 4000000 in
theorem rread7_any (s : List UInt8) (w : World) (hs : s.length ≤ 256) :
    Calls Tryz.prog 11 #[strV s] w fun e w' => e = .returned (rreadC s) ∧ Below w.heap.size w w' := by
  by_cases h64 : ∀ x, (wordsL s).head? = some x → x.2.head? ≠ some 64
  · exact rread_plain s w hs h64
  obtain ⟨xa, t, xs, hws⟩ : ∃ xa t xs, wordsL s = (xa, 64 :: t) :: xs := by
    cases h : wordsL s with
    | nil => exact absurd (fun x hx => by rw [h] at hx; cases hx) h64
    | cons x xs =>
      obtain ⟨xa, xt⟩ := x
      cases xt with
      | nil => exact absurd (fun y hy => by rw [h] at hy; cases hy; simp) h64
      | cons b t =>
        by_cases hb : b = 64
        · subst hb; exact ⟨xa, t, xs, rfl⟩
        · exact absurd (fun y hy => by rw [h] at hy; cases hy; simpa using hb) h64
  have HQ := Lib.hid (rwords_any ⟨s.toArray⟩ (w.alloc (.cells #[.int .u64 0, .int .u64 0, .int .u64 0, .int .u64 0, .int .u64 0] 27)) (by show s.toArray.size ≤ 256; simpa using hs))
  rw [show (⟨s.toArray⟩ : ByteArray).data.toList = s by simp] at HQ
  have HV := Lib.hid (fun p (h : readC s = (none, p)) => rreadC_none h)
  obtain ⟨hr1, hr2, hr3⟩ := readC_mac hws
  have HM := Lib.hid (fun W => rmacro_any (64 :: t) W)
  have h0' : ((((⟨(64 :: t).toArray⟩ : ByteArray)[0]'(by show 0 < (64 :: t).toArray.size; simp)).toNat : Int) == 64) = true := by rw [first_at]; rfl
  clear h64
  unfold strV at *
  cases hm : macroL (64 :: t) with
  | none =>
    rw [hm] at HM
    have hv := Lib.hid (HV.out xa (hr1 hm))
    have hlen0 : (0 : Int) < ((wordsL s).length : Int) := by rw [hws]; simp
    clear hm hr1 hr2 hr3
    go_enter Tryz.func11, Tryz.ntmps11
    go_wp2_with fail
    refine HQ.out.mono ?_
    rintro x' w1 ⟨v', rfl, hown, hb⟩
    obtain ⟨A, c, rfl, hwa⟩ := words_at hown
    have HC0 := Lib.hid ((CronAt.zero w).on hb)
    have HB1 := Lib.hid (((Below.refl w.heap.size w).alloc (Nat.le_refl _) (.cells #[.int .u64 0, .int .u64 0, .int .u64 0, .int .u64 0, .int .u64 0] 27)).trans (hb.mono (by simp)))
    clear hb HQ
    obtain ⟨g, rfl, hg, k0, k1⟩ := hwa 0 (xa, 64 :: t) (by rw [hws]; rfl)
    have hgw2 : w.heap.size < g := by have := words_base hown; simp at this; omega
    clear hown
    simp only [Nat.zero_mul, Nat.zero_add] at k0 k1
    clear hwa
    clear hws
    generalize wordsL s = ws at *
    obtain ⟨z0, z1, z2, z3, z4⟩ := HC0.out.five
    have f0 := HC0.out.frozen 0; have f1 := HC0.out.frozen 1; have f2 := HC0.out.frozen 2; have f3 := HC0.out.frozen 3; have f4 := HC0.out.frozen 4
    have hgw := HC0.out.lt
    go_wp2_with fail
    refine (HM.out _).mono ?_
    rintro x' w2 ⟨rfl, rfl⟩
    simp only [Option.getD_none]
    go_wp2_with fail
    go_region
    go_wp2_with fail
    refine bodyPost_ret (v := .tuple #[.agg #[.int .u64 0, .int .u64 0, .int .u64 0, .int .u64 0, .int .u64 0], .int .i64 (xa : Int), .bool false]) (by simp [results, Tryz.f11, go_sem, z0, z1, z2, z3, z4]) rfl ⟨by rw [hv.out]; rfl, (below_five HB1.out (Nat.le_refl _) _ _ _ _ _).drew⟩
  | some x =>
    rw [hm] at HM
    obtain ⟨hx1, hx2, hx3⟩ := macro_plain hm
    have hx4 : x.isEmpty = false := by cases x with | nil => exact absurd rfl hx2 | cons b t => rfl
    have hlen0 : (0 : Int) < ((wordsL s).length : Int) := by rw [hws]; simp
    simp only [Option.getD_some] at HM
    cases hxs : xs with
    | cons v vs =>
      have hv := Lib.hid (HV.out v.1 (hr2 x v vs hm hxs))
      have hlen1 : (1 : Int) < ((wordsL s).length : Int) := by rw [hws, hxs]; simp; omega
      clear hm hr1 hr2 hr3
      go_enter Tryz.func11, Tryz.ntmps11
      go_wp2_with fail
      refine HQ.out.mono ?_
      rintro x' w1 ⟨v', rfl, hown, hb⟩
      obtain ⟨A, c, rfl, hwa⟩ := words_at hown
      have HC0 := Lib.hid ((CronAt.zero w).on hb)
      have HB1 := Lib.hid (((Below.refl w.heap.size w).alloc (Nat.le_refl _) (.cells #[.int .u64 0, .int .u64 0, .int .u64 0, .int .u64 0, .int .u64 0] 27)).trans (hb.mono (by simp)))
      clear hb HQ
      obtain ⟨g, rfl, hg, k0, k1⟩ := hwa 0 (xa, 64 :: t) (by rw [hws]; rfl)
      have hgw2 : w.heap.size < g := by have := words_base hown; simp at this; omega
      clear hown
      simp only [Nat.zero_mul, Nat.zero_add] at k0 k1
      obtain ⟨g', hg', _, k2, _⟩ := hwa 1 v (by rw [hws, hxs]; rfl)
      obtain rfl : g = g' := congrArg Addr.block (Option.some.inj hg')
      simp only [Nat.one_mul] at k2
      clear hwa
      clear hws
      generalize wordsL s = ws at *
      obtain ⟨z0, z1, z2, z3, z4⟩ := HC0.out.five
      have f0 := HC0.out.frozen 0; have f1 := HC0.out.frozen 1; have f2 := HC0.out.frozen 2; have f3 := HC0.out.frozen 3; have f4 := HC0.out.frozen 4
      have hgw := HC0.out.lt
      go_wp2_with fail
      refine (HM.out _).mono ?_
      rintro x' w2 ⟨rfl, rfl⟩
      go_wp2_with fail
      go_region
      go_wp2_with fail
      refine bodyPost_ret (v := .tuple #[.agg #[.int .u64 0, .int .u64 0, .int .u64 0, .int .u64 0, .int .u64 0], .int .i64 (v.1 : Int), .bool false]) (by simp [results, Tryz.f11, go_sem, z0, z1, z2, z3, z4]) rfl ⟨by rw [hv.out]; rfl, (below_five HB1.out (Nat.le_refl _) _ _ _ _ _).drew⟩
    | nil =>
      have hrx := hr3 x hm hxs
      obtain ⟨l, _, hl2, _⟩ := macro_reads hm
      have hl5 := (readC_right hl2).1
      obtain ⟨a0, a1, a2, a3, a4, rfl⟩ := list_five hl5
      have hv := Lib.hid (rreadC_some (hrx.trans hl2))
      have hlen1 : (1 : Int) < ((wordsL s).length : Int) ↔ False := by rw [hws, hxs]; simp
      have hlen2 : decide ((1 : Int) < ((wordsL s).length : Int)) = false := by rw [hws, hxs]; rfl
      have HX := Lib.hid (fun W => rread_plain x W hx1 hx3)
      rw [rreadC_some hl2] at HX
      unfold strV cronV at HX
      simp only [List.map_cons, List.map_nil] at HX
      unfold menc at HX
      clear hm hr1 hr2 hr3 hrx hl2 hl5 hx3 hlen1
      go_enter Tryz.func11, Tryz.ntmps11
      go_wp2_with fail
      refine HQ.out.mono ?_
      rintro x' w1 ⟨v', rfl, hown, hb⟩
      obtain ⟨A, c, rfl, hwa⟩ := words_at hown
      have HC0 := Lib.hid ((CronAt.zero w).on hb)
      have HB1 := Lib.hid (((Below.refl w.heap.size w).alloc (Nat.le_refl _) (.cells #[.int .u64 0, .int .u64 0, .int .u64 0, .int .u64 0, .int .u64 0] 27)).trans (hb.mono (by simp)))
      clear hb HQ
      obtain ⟨g, rfl, hg, k0, k1⟩ := hwa 0 (xa, 64 :: t) (by rw [hws]; rfl)
      have hgw2 : w.heap.size < g := by have := words_base hown; simp at this; omega
      clear hown
      simp only [Nat.zero_mul, Nat.zero_add] at k0 k1
      clear hwa
      clear hws
      generalize wordsL s = ws at *
      obtain ⟨z0, z1, z2, z3, z4⟩ := HC0.out.five
      have f0 := HC0.out.frozen 0; have f1 := HC0.out.frozen 1; have f2 := HC0.out.frozen 2; have f3 := HC0.out.frozen 3; have f4 := HC0.out.frozen 4
      have hgw := HC0.out.lt
      go_wp2_with fail
      refine (HM.out _).mono ?_
      rintro x' w2 ⟨rfl, rfl⟩
      go_wp2_with fail
      refine (HX.out _).mono ?_
      rintro x' w3 ⟨rfl, hb⟩
      have HB3 := Lib.hid (HB1.out.trans (hb.mono HB1.out.size)); have HC3 := Lib.hid (HC0.out.on hb)
      clear hb z0 z1 z2 z3 z4 f0 f1 f2 f3 f4
      obtain ⟨z0, z1, z2, z3, z4⟩ := HC3.out.five
      have f0 := HC3.out.frozen 0; have f1 := HC3.out.frozen 1; have f2 := HC3.out.frozen 2; have f3 := HC3.out.frozen 3; have f4 := HC3.out.frozen 4
      go_wp2_with fail
      refine bodyPost_ret (v := .tuple #[.agg #[.int .u64 (U a0), .int .u64 (U a1), .int .u64 (U a2), .int .u64 (U a3), .int .u64 (U a4)], .int .i64 0, .bool true]) (by simp [results, Tryz.f11, go_sem, z0, z1, z2, z3, z4]) rfl ⟨by rw [hv.out]; rfl, below_five HB3.out (Nat.le_refl _) _ _ _ _ _⟩
end Go.Proofs.YtmjjdccpnepjjaaGreatDoor
