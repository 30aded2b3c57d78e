/- The document's Last and Ever: walked. -/
import Derived.Test.YtkimbmifabpppaaDoorKHRNext
namespace Go.Proofs.YtkimbmifabpppaaDoor
open Go.RowKit

theorem FitL.day {L : List (BitVec 64)} {f : Int} {k : Nat} {l : List Int} (h : FitL L f k l) (f0 : 0 ≤ f) (hk : f + k ≤ 2932897) {n : Int} (hn : n ∈ l) : DayOk L n := by
  obtain ⟨a, b, c⟩ := (h.2.2 n).1 hn
  exact ⟨by omega, by omega, c⟩
theorem last_found {L : List (BitVec 64)} (hk : crB L = true) {b f : Int} {l : List Int} (hf : f = max (dayOf b - 2922) 0) (hl : FitL L f (dayOf b + 1 - f).toNat l) {i j : Nat} {n x : Int} (hi : l[i]? = some n) (hj : (dayL L n)[j]? = some x) (hx : x ≤ b)
    (hup : ∀ (i' : Nat) (n' : Int), i < i' → l[i']? = some n' → ∀ u ∈ dayL L n', ¬ u ≤ b) (hin : ∀ (j' : Nat) (u : Int), j < j' → (dayL L n)[j']? = some u → ¬ u ≤ b) : IsLast (TC L) b x := by
  obtain ⟨z0, z1⟩ := dayOf_in b
  have hd := hl.day (by omega) (by omega) (List.mem_of_getElem? hi)
  have hxm := List.mem_of_getElem? hj
  have hday := dayL_in hk hxm
  have hnin := (hl.2.2 n).1 (List.mem_of_getElem? hi)
  refine ⟨hd.times hk hxm, hx, by omega, fun u hu hub => ?_⟩
  have hud := hu.day
  have hle : u / 86400 ≤ dayOf b := by
    obtain ⟨_, ⟨u0, u1⟩, _⟩ := hu
    unfold dayOf
    split
    · omega
    · split <;> omega
  by_cases hlow : u / 86400 < f
  · omega
  · have hum : u / 86400 ∈ l := (hl.2.2 _).2 ⟨by omega, by omega, hu.2.2.1⟩
    obtain ⟨i', hi'⟩ := List.mem_iff_getElem?.1 hum
    rcases Nat.lt_trichotomy i i' with h1 | h1 | h1
    · exact absurd hub (hup i' _ h1 hi' u hu.2.2.2)
    · subst h1
      rw [hi] at hi'
      have e : n = u / 86400 := by injection hi'
      have hum2 : u ∈ dayL L n := by rw [e]; exact hu.2.2.2
      obtain ⟨j', hj'⟩ := List.mem_iff_getElem?.1 hum2
      rcases Nat.lt_trichotomy j j' with h2 | h2 | h2
      · exact absurd hub (hin j' u h2 hj')
      · subst h2
        rw [hj] at hj'
        have : x = u := by injection hj'
        omega
      · have hs := List.pairwise_iff_getElem.1 (dayL_sorted hk n)
        obtain ⟨a1, a2⟩ := List.getElem?_eq_some_iff.1 hj
        obtain ⟨b1, b2⟩ := List.getElem?_eq_some_iff.1 hj'
        have := hs j' j b1 a1 h2
        omega
    · have hs := List.pairwise_iff_getElem.1 hl.1
      obtain ⟨a1, a2⟩ := List.getElem?_eq_some_iff.1 hi
      obtain ⟨b1, b2⟩ := List.getElem?_eq_some_iff.1 hi'
      have := hs i' i b1 a1 h1
      omega
theorem last_lost {L : List (BitVec 64)} {b f : Int} {l : List Int} (hf : f = max (dayOf b - 2922) 0) (hl : FitL L f (dayOf b + 1 - f).toNat l) (hup : ∀ (i' : Nat) (n' : Int), l[i']? = some n' → ∀ u ∈ dayL L n', ¬ u ≤ b) : NoLast (TC L) b := by
  intro u hu hub
  apply Int.not_le.1
  intro hle
  obtain ⟨z0, z1⟩ := dayOf_in b
  have hud := hu.day
  have hle2 : u / 86400 ≤ dayOf b := by
    obtain ⟨_, ⟨u0, u1⟩, _⟩ := hu
    unfold dayOf
    split
    · omega
    · split <;> omega
  have h0 := hud.1
  have hum : u / 86400 ∈ l := (hl.2.2 _).2 ⟨by omega, by omega, hu.2.2.1⟩
  obtain ⟨i', hi'⟩ := List.mem_iff_getElem?.1 hum
  exact hup i' _ hi' u hu.2.2.2 hub
theorem ever_fit {L : List (BitVec 64)} (hk : crB L = true) {l : List Int} (hl : FitL L 0 2923 l) : (0 < l.length) ↔ EverZ L := by
  constructor
  · intro h
    have hm : l[0] ∈ l := List.getElem_mem h
    have hd := hl.day (by omega) (by omega) hm
    obtain ⟨a, b, c⟩ := (hl.2.2 _).1 hm
    obtain ⟨u, hu⟩ := dayL_some hk l[0]
    have := dayL_in hk hu
    exact ⟨u, hd.times hk hu, by omega⟩
  · rintro ⟨u, hu, h2⟩
    have hud := hu.day
    have hum : u / 86400 ∈ l := (hl.2.2 _).2 ⟨hud.1, by omega, hud.2.2⟩
    exact List.length_pos_of_mem hum
set_option maxRecDepth 100000 in
theorem rever_any (a b c d e : BitVec 64) (w : World) (hk : crB [a, b, c, d, e] = true) :
    Calls Tryd.prog 16 #[cronV [a, b, c, d, e]] w fun x w' => ∃ z : Bool, x = .returned (.bool z) ∧ (z = true ↔ EverZ [a, b, c, d, e]) ∧ Below w.heap.size w w' := by
  have HF := Lib.hid (fun W => rfit_any a b c d e 0 2922 W hk (by omega) (by omega) (by omega) (by omega))
  obtain ⟨WB, hWB, hb0, hc0⟩ : ∃ W : World, W = w.alloc (.cells #[.int .u64 (U a), .int .u64 (U b), .int .u64 (U c), .int .u64 (U d), .int .u64 (U e)] 25) ∧ Below w.heap.size w W ∧ CronAt W w.heap.size [a, b, c, d, e] := ⟨_, rfl, (Below.refl _ w).alloc (Nat.le_refl _) _, CronAt.new w a b c d e⟩
  have HB := Lib.hid hb0
  have HK := Lib.hid hk
  obtain ⟨c0, c1, c2, c3, c4⟩ := hc0.five
  rw [cronV_five] at *
  unfold fiveV at *
  clear hk hb0 hc0
  go_enter Tryd.func16, Tryd.ntmps16
  go_wp2_with fail
  rw [← hWB]
  clear hWB
  refine (HF.out _).mono ?_
  rintro x w1 ⟨v, l, rfl, hv, hl, hb⟩
  obtain ⟨A, cap, rfl⟩ := own_slice0 hv
  have HE := Lib.hid (ever_fit HK.out hl)
  have HB1 := Lib.hid (HB.out.trans (hb.mono HB.out.size))
  clear hv hl hb
  go_wp2_with fail
  go_ret
  refine ⟨_, rfl, ?_, HB1.out⟩
  rw [← HE.out, decide_eq_true_iff]
set_option maxRecDepth 100000 in
set_option maxHeartbeats 2000000 in
theorem nrlast_any (a b c d e : BitVec 64) (t : Int) (w : World) (hk : crB [a, b, c, d, e] = true) :
    Calls Tryd.prog 14 #[cronV [a, b, c, d, e], .int .i64 t] w fun x w' => LastIs [a, b, c, d, e] t x ∧ Below w.heap.size w w' := by
  have HKK := Lib.hid hk
  have HON := Lib.hid (fun n W h0 h1 => ron_any a b c d e n W hk h0 h1)
  obtain ⟨WB, hWB, hb0, hc0⟩ : ∃ W : World, W = w.alloc (.cells #[.int .u64 (U a), .int .u64 (U b), .int .u64 (U c), .int .u64 (U d), .int .u64 (U e)] 25) ∧ Below w.heap.size w W ∧ CronAt W w.heap.size [a, b, c, d, e] := ⟨_, rfl, (Below.refl _ w).alloc (Nat.le_refl _) _, CronAt.new w a b c d e⟩
  have HB := Lib.hid hb0; have HC := Lib.hid hc0
  obtain ⟨c0, c1, c2, c3, c4⟩ := hc0.five
  have HD := Lib.hid (fun W => rday_any t W)
  obtain ⟨p0, p1⟩ := dayOf_in t
  obtain ⟨f, hf⟩ : ∃ f, f = max (dayOf t - 2922) 0 := ⟨_, rfl⟩
  have HF := Lib.hid (fun W => rfit_any a b c d e f (dayOf t) W hk (by omega) (by omega) p1 (by omega))
  have HFOUND : Hid (∀ (l : List Int), FitL [a, b, c, d, e] f (dayOf t + 1 - f).toNat l → ∀ (i j : Nat) (n x : Int), l[i]? = some n → (dayL [a, b, c, d, e] n)[j]? = some x → x ≤ t → (∀ (i' : Nat) (n' : Int), i < i' → l[i']? = some n' → ∀ u ∈ dayL [a, b, c, d, e] n', t < u) → (∀ (j' : Nat) (u : Int), j < j' → (dayL [a, b, c, d, e] n)[j']? = some u → t < u) → IsLast (TC [a, b, c, d, e]) t x) := Lib.hid (fun l hl i j n x h1 h2 h3 h4 h5 => last_found hk hf hl h1 h2 h3 (fun i' n' a1 a2 u a3 => Int.not_le.2 (h4 i' n' a1 a2 u a3)) (fun j' u a1 a2 => Int.not_le.2 (h5 j' u a1 a2)))
  have HLOST : Hid (∀ (l : List Int), FitL [a, b, c, d, e] f (dayOf t + 1 - f).toNat l → (∀ (i' : Nat) (n' : Int), l[i']? = some n' → ∀ u ∈ dayL [a, b, c, d, e] n', t < u) → NoLast (TC [a, b, c, d, e]) t) := Lib.hid (fun l hl h => last_lost hf hl (fun i' n' a2 u a3 => Int.not_le.2 (h i' n' a2 u a3)))
  have HDAY : Hid (∀ (l : List Int), FitL [a, b, c, d, e] f (dayOf t + 1 - f).toNat l → ∀ n ∈ l, 0 ≤ n ∧ n ≤ 2932896) := Lib.hid (fun l hl n hn => ⟨(hl.day (by omega) (by omega) hn).1, (hl.day (by omega) (by omega) hn).2.1⟩)
  have HLEN : Hid (∀ (l : List Int), FitL [a, b, c, d, e] f (dayOf t + 1 - f).toNat l → l.length ≤ 2923) := Lib.hid (fun l hl => by have := hl.2.1; omega)
  generalize dayOf t = to_ at *
  rw [cronV_five] at *
  unfold fiveV at *
  clear hk hb0 hc0
  have hcase : f = 0 ∧ to_ - 2922 < 0 ∨ f = to_ - 2922 ∧ 0 ≤ to_ - 2922 := by omega
  clear hf
  rcases hcase with ⟨rfl, hto⟩ | ⟨rfl, hto⟩
  all_goals
    go_enter Tryd.func14, Tryd.ntmps14
    go_wp2_with fail
    rw [← hWB]
    clear hWB
    refine (HD.out _).mono ?_
    rintro x w0 ⟨rfl, rfl⟩
    go_wp2_with fail
    refine (HF.out _).mono ?_
    rintro x w1 ⟨v, l, rfl, hv, hl, hb⟩
    obtain ⟨A, cap, rfl⟩ := own_slice0 hv
    have HL := Lib.hid hl
    have hlen := HLEN.out l hl
    have hlm : l.length ≤ maxLen := by unfold maxLen; omega
    have HAR := Lib.hid (own_arr hv); have HX1 := Lib.hid hb
    clear hv hl hb HF HD c0 c1 c2 c3 c4 HLEN
    go_wp2_with fail
    go_loopw [8] (fun i wr => ∃ k : Nat, k ≤ l.length ∧ i = .int .i64 ((k : Int) - 1) ∧ Hid (∀ (i' : Nat) (n' : Int), k ≤ i' → l[i']? = some n' → ∀ u ∈ dayL [a, b, c, d, e] n', t < u) ∧ Below w0.heap.size w0 wr ∧ ArrT wr A l.length l) (fun i _ => (intOf i + 1).toNat)
    case atStart => exact ⟨l.length, Nat.le_refl _, rfl, Lib.hid (fun i' n' h h2 => absurd (List.getElem?_eq_some_iff.1 h2).1 (by omega)), HX1.out, HAR.out⟩
    case round =>
      clear HX1 HAR
      obtain ⟨k, hk, rfl, HUP, hx, har⟩ := hrel
      by_cases hk0 : k = 0
      · subst hk0
        have HRES := Lib.hid (HLOST.out l HL.out (fun i' n' h => HUP.out i' n' (Nat.zero_le _) h))
        have HX := Lib.hid hx
        clear hx har HUP
        go_wp2_with fail
        exact bodyPost_ret (v := .tuple #[.int .i64 0, .bool false]) (by simp [results, Tryd.results14, go_sem]) rfl ⟨.inr ⟨HRES.out, rfl⟩, HB.out.trans (HX.out.mono HB.out.size)⟩
      · obtain ⟨q, rfl⟩ : ∃ q, k = q + 1 := ⟨k - 1, by omega⟩
        rw [show (((q + 1 : Nat) : Int) - 1) = (q : Int) by omega]
        obtain ⟨nn, hnn⟩ : ∃ nn, l[q]? = some nn := ⟨_, List.getElem?_eq_getElem (by omega)⟩
        obtain ⟨bb, off, hA, hlb, hc⟩ := har.2 q nn hnn
        subst hA
        obtain ⟨nn0, nn1⟩ := HDAY.out l HL.out nn (List.mem_of_getElem? hnn)
        have HO := Lib.hid (fun W => HON.out nn W nn0 nn1)
        have hon64 : (dayL [a, b, c, d, e] nn).length ≤ 4096 := on_len (ints_64 _) (ints_64 _)
        have HFD := Lib.hid (fun j x h2 h3 h4 h5 => HFOUND.out l HL.out q j nn x hnn h2 h3 h4 h5)
        have HUQ : Hid ((∀ u ∈ dayL [a, b, c, d, e] nn, t < u) → ∀ (i' : Nat) (n' : Int), q ≤ i' → l[i']? = some n' → ∀ u ∈ dayL [a, b, c, d, e] n', t < u) := Lib.hid (fun h i' n' hi hl' => by
          by_cases e : i' = q
          · subst e; rw [hnn] at hl'; cases hl'; exact h
          · exact HUP.out i' n' (by omega) hl')
        generalize dayL [a, b, c, d, e] nn = on at *
        have honm : on.length ≤ maxLen := by unfold maxLen; omega
        obtain ⟨c0, c1, c2, c3, c4⟩ := (HC.out.on hx).five
        have hqs : (q : Int) < (l.length : Int) := by omega
        have hq0 : (0 : Int) ≤ (q : Int) := by omega
        have HX := Lib.hid hx; have HAR := Lib.hid har
        have HALL := Lib.hid (fun (W : World) (hW : Below wr.heap.size wr W) => (⟨by
          obtain ⟨c0, c1, c2, c3, c4⟩ := (HC.out.on (HX.out.trans (hW.mono HX.out.size))).five
          exact ⟨c0, c1, c2, c3, c4, (hW.cell (p := ⟨bb, off + q, none⟩) hlb).trans hc⟩⟩ : PLift (W.cell? ⟨w.heap.size, 0, none⟩ = some (.int .u64 (U a)) ∧ W.cell? ⟨w.heap.size, 1, none⟩ = some (.int .u64 (U b)) ∧ W.cell? ⟨w.heap.size, 2, none⟩ = some (.int .u64 (U c)) ∧ W.cell? ⟨w.heap.size, 3, none⟩ = some (.int .u64 (U d)) ∧ W.cell? ⟨w.heap.size, 4, none⟩ = some (.int .u64 (U e)) ∧ W.cell? ⟨bb, off + q, none⟩ = some (.int .i64 nn))).down)
        have hBE := Below.refl wr.heap.size wr
        have hst : 0 ≤ (q : Int) := by omega
        clear hx har hnn
        go_wp2_with fail
        go_region_held3 (fun W => W.cell? ⟨w.heap.size, 0, none⟩ = some (.int .u64 (U a)) ∧ W.cell? ⟨w.heap.size, 1, none⟩ = some (.int .u64 (U b)) ∧ W.cell? ⟨w.heap.size, 2, none⟩ = some (.int .u64 (U c)) ∧ W.cell? ⟨w.heap.size, 3, none⟩ = some (.int .u64 (U d)) ∧ W.cell? ⟨w.heap.size, 4, none⟩ = some (.int .u64 (U e)) ∧ W.cell? ⟨bb, off + q, none⟩ = some (.int .i64 nn)) (first | exact HALL.out _ hBE | exact HALL.out _ hBE.drew) (first
          | (go_at_call 32; (with_reducible refine (HO.out _).mono ?_); rintro x w4 ⟨v, rfl, hv, hb⟩; obtain ⟨A2, cap2, rfl⟩ := own_slice0 hv; replace hBE := hBE.drew.trans (hb.mono hBE.drew.size)))
        rename_i hheld
        clear hheld
        have HX4 := Lib.hid (HX.out.trans (hBE.mono HX.out.size)); have HAR4 := Lib.hid (HAR.out.on hBE); have HON4 := Lib.hid (own_arr hv)
        clear hb hv hBE HALL HX HAR c0 c1 c2 c3 c4 hc hst
        go_wp2_with fail
        go_loop [10] (fun i => ∃ p : Nat, p ≤ on.length ∧ i = .int .i64 ((p : Int) - 1) ∧ Hid (∀ (j' : Nat) (u : Int), p ≤ j' → on[j']? = some u → t < u)) (fun i => (intOf i + 1).toNat)
        case atStart => exact ⟨on.length, Nat.le_refl _, rfl, Lib.hid (fun j' u h h2 => absurd (List.getElem?_eq_some_iff.1 h2).1 (by omega))⟩
        case round =>
          obtain ⟨p, hp, rfl, HIN⟩ := hrel
          by_cases hp0 : p = 0
          · subst hp0
            have HU2 := Lib.hid (HUQ.out (fun u hu => by
              obtain ⟨j', hj'⟩ := List.mem_iff_getElem?.1 hu
              exact HIN.out j' u (Nat.zero_le _) hj'))
            clear HIN HUP HUQ HFD HON4
            go_wp2_with fail
            go_roundw
            case rel => exact ⟨q, by omega, rfl, HU2, HX4.out, HAR4.out⟩
            case measure => simp [intOf]
          · obtain ⟨r, rfl⟩ : ∃ r, p = r + 1 := ⟨p - 1, by omega⟩
            rw [show (((r + 1 : Nat) : Int) - 1) = (r : Int) by omega]
            obtain ⟨u, hu⟩ : ∃ u, on[r]? = some u := ⟨_, List.getElem?_eq_getElem (by omega)⟩
            obtain ⟨b2, off2, hA2, hlb2, hc2⟩ := HON4.out.2 r u hu
            subst hA2
            have hrs : (r : Int) < (on.length : Int) := by omega
            have hr0 : (0 : Int) ≤ (r : Int) := by omega
            by_cases htu : u ≤ t
            · have hd : decide (u ≤ t) = true := decide_eq_true htu
              have HRES := Lib.hid (HFD.out r u hu htu (fun i' n' h1 h2 => HUP.out i' n' (by omega) h2) (fun j' u' h1 h2 => HIN.out j' u' (by omega) h2))
              clear hu
              go_wp2_with fail
              exact bodyPost_ret (v := .tuple #[.int .i64 u, .bool true]) (by simp [results, Tryd.results14, go_sem]) rfl ⟨.inl ⟨u, HRES.out, rfl⟩, HB.out.trans (HX4.out.mono HB.out.size)⟩
            · have hd : decide (u ≤ t) = false := decide_eq_false htu
              have HIN2 : Hid (∀ (j' : Nat) (u : Int), r ≤ j' → on[j']? = some u → t < u) := Lib.hid (fun j' u' h1 h2 => by
                by_cases e : j' = r
                · subst e; rw [hu] at h2; cases h2; omega
                · exact HIN.out j' u' (by omega) h2)
              clear hu
              go_wp2_with fail
              go_round
              case rel => exact ⟨r, by omega, rfl, HIN2⟩
              case measure => simp [intOf]
end Go.Proofs.YtkimbmifabpppaaDoor
