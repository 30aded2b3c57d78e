/- The law's wakes: walked. -/
import Derived.Test.YthngjbnbloboiaaGreatDoorKVOps
import Derived.Test.YthngjbnbloboiaaGreatDoorKVAdd
import Derived.Test.YthngjbnbloboiaaGreatDoorKVHourly
namespace Go.Proofs.YthngjbnbloboiaaGreatDoor
open Go.RowKit

theorem newR_fit {j : JobZ} (h : j.Fit) (nx : Int) : (newR j nx).Fit := ⟨h, Int.le_refl _⟩
theorem nil_right (ev : List (BitVec 64) → Bool) : RightT ev [] := ⟨fun r hr => (by cases hr), List.Pairwise.nil, List.Pairwise.nil, Nat.zero_le _⟩
theorem time_pos {now : Int} (h : D.timeB now = true) : 0 ≤ now := ((D.timeB_iff now).1 h).1
theorem ins_ok {ev : List (BitVec 64) → Bool} {l : List RowZ} {j : JobZ} {now nx : Int} (h : AddYes ev l j now) (hf : FirstT (j.TT ev) now nx true) : RightT ev (insR (newR j nx) l) := by
  obtain ⟨h1, h2, h3, h4, h5⟩ := h
  rw [TT_ok h3] at hf
  exact insR_right h1 (newR_right h3 (time_pos h2) hf) rfl h4 h5
/-- When a row that nothing runs of and nothing waits in goes on next. -/
theorem next_new {ev : List (BitVec 64) → Bool} {j : JobZ} {now nx nx' t : Int} (hf : FirstT (j.TT ev) now t true) (h : NextOf ev (pauF (newR j nx)) now nx') : nx' = t := by
  obtain ⟨m, ⟨hm, _⟩, h⟩ := h
  have hl : (pauF (newR j nx)).line' ++ [now] = [now] := rfl
  rw [hl, List.mem_singleton] at hm
  subst hm
  rcases h with h | ⟨u, h, _⟩
  · exact (firstT_one hf h).1
  · have := (firstT_one hf h).2
    cases this
/-- A table of one row: its slice, and what it reads. -/
theorem tab_single {w : World} {A : Option Addr} {n c : Nat} {ms : List RowM} {r : RowZ} (h : TabR w A n c ms) (hm : ms.map (·.1) = [r]) : n = 1 ∧ ∃ bl of, A = some ⟨bl, of, none⟩ ∧ w.cell? ⟨bl, of + 11, none⟩ = some (.bool r.pa) ∧ w.cell? ⟨bl, of + 12, none⟩ = some (.int .i64 r.nx) := by
  have hl := congrArg List.length hm
  rw [List.length_map, h.len] at hl
  have h1 : n = 1 := hl
  subst h1
  match ms, hm with
  | [m], hm =>
    injection hm with hm _
    subst hm
    have hf := h.fit m (List.mem_singleton.2 rfl)
    obtain ⟨bl, of, rfl, _⟩ := h.rd.some_ (by rw [mflat_len h.fit]; simp)
    have hr : w.rangeAt bl of (rowC m.1 m.2) := fun j u hj => by
      have hlt := (List.getElem?_eq_some_iff.1 hj).1
      rw [rowC_len hf] at hlt
      obtain ⟨b', o', e, _, hc⟩ := h.rd (0 * 17 + j) u (by rw [mflat_at h.fit 0 m rfl j hlt]; exact hj)
      cases e
      rwa [Nat.zero_mul, Nat.zero_add] at hc
    have hc := cellsF_of hf hr
    exact ⟨rfl, bl, of, rfl, hc.pa, hc.nx⟩
set_option maxRecDepth 100000 in
set_option maxHeartbeats 4000000 in
theorem wakes11_any (ev : List (BitVec 64) → Bool) (hev : EvIs ev) (w : World) (hL : LaidC w) :
    Calls Tryz.prog 5 #[] w fun e w' => e = .returned (.bool true) ∧ Below w.heap.size w w' := by
  have hfj : (hourZ 7).Fit := hourZ_fit (by omega)
  have HHR := Lib.hid (fun W => hourly_any 7 W)
  have HA1 := Lib.hid (fun W hW => add_any ev hev none 0 0 [] (hourZ 7) 100 W hW (.nil W) (.inl rfl) hfj)
  have HYES : Hid (∀ e w', AddIs ev [] (hourZ 7) 100 e w' → ∃ A n c ms, e = .returned (.tuple #[.slice A n c, .int .i64 0]) ∧ TabR w' A n c ms ∧ ms.map (·.1) = [newR (hourZ 7) 3600] ∧ RightT ev [newR (hourZ 7) 3600]) := Lib.hid (fun e w' h => by
    rcases h with ⟨z, _, _, hno⟩ | ⟨hy, nx, A, n, c, ms, rfl, ht, hm, hf⟩
    · rcases hno (nil_right ev) (by decide) (hour_err hev) with ⟨⟨r, hr, _⟩, _⟩ | ⟨_, h | ⟨t, h⟩⟩
      · cases hr
      · simp at h
      · have := (firstT_one (hour_100 hev) h).2
        cases this
    · obtain ⟨rfl, _⟩ := firstT_one (hour_100 hev) hf
      exact ⟨A, n, c, ms, rfl, ht, hm, ins_ok hy hf⟩)
  have HA2 := Lib.hid (fun A n c (ms : List RowM) W hW ht hA => add_any ev hev A n c ms (hourZ 7) 100 W hW ht hA hfj)
  have HNO : Hid (∀ (ms : List RowM) e w', ms.map (·.1) = [newR (hourZ 7) 3600] → RightT ev [newR (hourZ 7) 3600] → AddIs ev (ms.map (·.1)) (hourZ 7) 100 e w' → e = .returned (.tuple #[.slice none 0 0, .int .i64 5])) := Lib.hid (fun ms e w' hm hr h => by
    rw [hm] at h
    rcases h with ⟨z, _, rfl, hno⟩ | ⟨hy, _⟩
    · rcases hno hr (by decide) (hour_err hev) with ⟨_, rfl⟩ | ⟨hn, _⟩
      · rfl
      · exact absurd rfl (hn _ (List.mem_singleton.2 rfl))
    · exact absurd rfl (hy.2.2.2.1 _ (List.mem_singleton.2 rfl)))
  have HPA := Lib.hid (fun A n c (ms : List RowM) W hW ht hR hex => pause_ok ev hev A n c ms 7 W hW ht hR hex)
  have HRE := Lib.hid (fun A n c (ms : List RowM) W hW ht hR hex => resume_ok ev hev A n c ms 7 7200 W hW ht hR hex (by decide))
  have HEX : Hid (∀ (ms : List RowM) (r : RowZ), ms.map (·.1) = [r] → r.j.n = 7 → ∃ m ∈ ms, m.1.j.n = 7) := Lib.hid (fun ms r hm hn => by
    match ms, hm with
    | [m], hm =>
      injection hm with hm _
      exact ⟨m, List.mem_singleton.2 rfl, by have hm' : m.1 = r := hm; rw [hm']; exact hn⟩)
  have HOUT : Hid (∀ (ms ms' : List RowM), ms.map (·.1) = [pauF (newR (hourZ 7) 3600)] → (∃ nx, (∀ r ∈ ms.map (·.1), r.j.n = 7 → r.pa = true → NextOf ev r 7200 nx) ∧ ms'.map (·.1) = resR 7 nx (ms.map (·.1))) → ms'.map (·.1) = [newR (hourZ 7) 10800]) := Lib.hid (fun ms ms' hm h => by
    obtain ⟨nx, h1, h2⟩ := h
    rw [hm] at h1 h2
    obtain rfl := next_new (hour_7200 hev) (h1 _ (List.mem_singleton.2 rfl) rfl rfl)
    rw [h2]
    rfl)
  have hjv : jobV (hourZ 7) = .agg #[.int .u32 7, .bool false, .int .u64 1, .int .u64 16777215, .int .u64 4294967294, .int .u64 8190, .int .u64 127, .int .i64 0, .int .i64 0, .int .i64 0, .int .i64 0] := rfl
  rw [hjv] at HHR HA1 HA2
  have HL := Lib.hid hL
  have HPR : Hid (RightT ev [newR (hourZ 7) 3600] → RightT ev [pauF (newR (hourZ 7) 3600)]) := Lib.hid (fun h => pauR_right (name := 7) h)
  clear hL hev hjv hfj
  go_enter Tryz.func5, Tryz.ntmps5
  go_wp2_with fail
  refine (HHR.out _).mono ?_
  rintro e w1 ⟨rfl, hb⟩
  have HB1 := Lib.hid hb
  clear hb
  go_wp2_with fail
  refine (HA1.out _ (HL.out.on HB1.out)).mono ?_
  rintro e w2 ⟨hx, hb⟩
  obtain ⟨A, n, c, ms, rfl, ht, hm, hr⟩ := HYES.out _ _ hx
  have HB2 := Lib.hid (HB1.out.trans (hb.mono HB1.out.size)); have HT2 := Lib.hid ht; have HM := Lib.hid hm; have HR := Lib.hid hr
  obtain ⟨rfl, bl, of, rfl, _, _⟩ := tab_single ht hm
  clear hb hx ht hm hr HA1 HYES HB1
  go_wp2_with fail
  refine (HHR.out _).mono ?_
  rintro e w3 ⟨rfl, hb⟩
  have HB3 := Lib.hid (HB2.out.trans (hb.mono HB2.out.size)); have HT3 := Lib.hid (HT2.out.on hb)
  clear hb HT2 HB2 HHR
  go_wp2_with fail
  refine (HA2.out _ _ _ _ _ (HL.out.on HB3.out) HT3.out (.inr ⟨bl, of, rfl⟩)).mono ?_
  rintro e w4 ⟨hx, hb⟩
  obtain rfl := HNO.out _ _ _ HM.out HR.out hx
  have HB4 := Lib.hid (HB3.out.trans (hb.mono HB3.out.size)); have HT4 := Lib.hid (HT3.out.on hb)
  clear hb hx HT3 HB3 HA2 HNO
  go_wp2_with fail
  refine (HPA.out _ _ _ _ _ (HL.out.on HB4.out) HT4.out (by rw [HM.out]; exact HR.out) (HEX.out _ _ HM.out rfl)).mono ?_
  rintro e w5 ⟨⟨A5, n5, c5, ms5, rfl, ht5, hm5⟩, hb⟩
  have hm5 : ms5.map (·.1) = [pauF (newR (hourZ 7) 3600)] := by rw [hm5, HM.out]; rfl
  have HB5 := Lib.hid (HB4.out.trans (hb.mono HB4.out.size)); have HT5 := Lib.hid (HT4.out.on hb); have HP5 := Lib.hid ht5; have HM5 := Lib.hid hm5
  clear hb ht5 hm5 HT4 HB4 HPA
  go_wp2_with fail
  refine (HRE.out _ _ _ _ _ (HL.out.on HB5.out) HP5.out (by rw [HM5.out]; exact HPR.out HR.out) (HEX.out _ _ HM5.out rfl)).mono ?_
  rintro e w6 ⟨⟨A6, n6, c6, ms6, rfl, ht6, hm6⟩, hb⟩
  have hm6 := HOUT.out _ _ HM5.out hm6
  have HB6 := Lib.hid (HB5.out.trans (hb.mono HB5.out.size))
  obtain ⟨rfl, b6, o6, rfl, p11, p12⟩ := tab_single ht6 hm6
  obtain ⟨_, b', o', e', _, q12⟩ := tab_single (HT5.out.on hb) HM.out
  cases e'
  have p11 : w6.cell? ⟨b6, o6 + 11, none⟩ = some (.bool false) := p11
  have p12 : w6.cell? ⟨b6, o6 + 12, none⟩ = some (.int .i64 10800) := p12
  have q12 : w6.cell? ⟨bl, of + 12, none⟩ = some (.int .i64 3600) := q12
  clear hb hm6 ht6 HT5 HP5 HRE HOUT HPR HEX
  go_wp2_with fail
  go_ret
  exact ⟨rfl, HB6.out⟩
end Go.Proofs.YthngjbnbloboiaaGreatDoor
