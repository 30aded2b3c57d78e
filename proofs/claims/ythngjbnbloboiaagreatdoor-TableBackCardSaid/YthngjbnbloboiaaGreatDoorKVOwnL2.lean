/- The law's own table: walked. -/
import Derived.Test.YthngjbnbloboiaaGreatDoorKVOwnL
import Derived.Test.YthngjbnbloboiaaGreatDoorKVCheck
namespace Go.Proofs.YthngjbnbloboiaaGreatDoor
open Go.RowKit

/-- Times that can be read, none of them in the block of v. -/
def QRV (v : Value) (w : World) (qv : Value) (q : List Int) : Prop := ∃ A c, qv = .slice A q.length c ∧ q.length ≤ c ∧ c ≤ maxLen ∧ (A = none → c = 0) ∧ ∀ j u, (q.map int1)[j]? = some u → ∃ b o, A = some ⟨b, o, none⟩ ∧ b < w.heap.size ∧ v.ownBlock ≠ some b ∧ w.cell? ⟨b, o + j, none⟩ = some u
theorem QRV.qr {v : Value} {w : World} {qv : Value} {q : List Int} (h : QRV v w qv q) : QR w qv q := by
  obtain ⟨A, c, e, h1, h2, h3, h4⟩ := h
  exact ⟨A, c, e, h1, h2, h3, fun j u hj => by obtain ⟨b, o, e, hl, _, hc⟩ := h4 j u hj; exact ⟨b, o, e, hl, hc⟩⟩
theorem QRV.on {v : Value} {w w' : World} {qv : Value} {q : List Int} (h : QRV v w qv q) (hb : Below w.heap.size w w') : QRV v w' qv q := by
  obtain ⟨A, c, e, h1, h2, h3, h4⟩ := h
  exact ⟨A, c, e, h1, h2, h3, fun j u hj => by obtain ⟨b, o, e, hl, hn, hc⟩ := h4 j u hj; exact ⟨b, o, e, Nat.lt_of_lt_of_le hl hb.size, hn, (hb.cell (p := ⟨b, o + j, none⟩) hl).trans hc⟩⟩
theorem QRV.grown {v v' : Value} {w w' : World} {qv : Value} {q : List Int} (h : QRV v w qv q) (hg : w.grownBy w' v.ownBlock) (hv : v'.ownBlock = v.ownBlock ∨ v'.ownBlock = some w.heap.size) : QRV v' w' qv q := by
  obtain ⟨A, c, e, h1, h2, h3, h4⟩ := h
  exact ⟨A, c, e, h1, h2, h3, fun j u hj => by
    obtain ⟨b, o, e, hl, hn, hc⟩ := h4 j u hj
    refine ⟨b, o, e, Nat.lt_of_lt_of_le hl hg.size, ?_, hg.cell (a := ⟨b, o + j, none⟩) hc (Ne.symm hn)⟩
    rcases hv with hv | hv
    · rw [hv]; exact hn
    · rw [hv]; intro e; injection e with e; omega⟩
theorem OwnT.qrv {w : World} {base : Nat} {qv v : Value} {l : List Int} (h : OwnT w base qv l) (hv : ∀ b, v.ownBlock = some b → b < base) : QRV v w qv l := by
  have h0 := h
  rcases h.2 with ⟨rfl, hn⟩ | ⟨b, cap, cur, rfl, hb, hh, hn, hm, hs, ht⟩
  · obtain rfl : l = [] := List.length_eq_zero_iff.1 hn
    exact ⟨none, 0, rfl, by simp, by decide, fun _ => rfl, fun j u hj => by simp at hj⟩
  · refine ⟨_, cap, rfl, hn, hm, fun h => by (cases h), fun j u hj => ⟨b, 0, rfl, (Array.getElem?_eq_some_iff.1 hh).1, fun e => by have := hv b e; omega, ?_⟩⟩
    have hjl := (List.getElem?_eq_some_iff.1 hj).1
    rw [List.length_map] at hjl
    rw [Nat.zero_add, World.ownsRow.cellAt h0 j (by omega)]
    exact hj
/-- Rows of one's own, in whatever block. -/
structure OwnRows (w : World) (base : Nat) (v : Value) (ms : List RowM) : Prop where
  own : w.ownsRow base 39 17 v ms.length (ms.flatMap rowM)
  ok : ∀ m ∈ ms, m.1.Fit ∧ QRV v w m.2 m.1.q
theorem OwnRows.on {w w' : World} {base : Nat} {v : Value} {ms : List RowM} (h : OwnRows w base v ms) (hb : Below w.heap.size w w') : OwnRows w' base v ms := ⟨own_below h.own hb, fun m hm => ⟨(h.ok m hm).1, (h.ok m hm).2.on hb⟩⟩
theorem OwnRows.tab {w : World} {base : Nat} {v : Value} {ms : List RowM} (h : OwnRows w base v ms) : ∃ A c, v = .slice A ms.length c ∧ TabR w A ms.length c ms ∧ (A = none ∨ ∃ bl of, A = some ⟨bl, of, none⟩) := by
  have h0 := h.own
  rcases h.own.2 with ⟨rfl, hn⟩ | ⟨b, cap, cur, rfl, hb, hh, hn, hm, hs, ht⟩
  · have hms : ms = [] := List.length_eq_zero_iff.1 hn
    subst hms
    exact ⟨none, 0, rfl, .nil w, .inl rfl⟩
  · refine ⟨_, cap, rfl, ⟨rfl, hn, hm, fun e => by (cases e), fun j u hj => ⟨b, 0, rfl, (Array.getElem?_eq_some_iff.1 hh).1, ?_⟩, fun m hm => ⟨(h.ok m hm).1, (h.ok m hm).2.qr⟩⟩, .inr ⟨b, 0, rfl⟩⟩
    have hjl := (List.getElem?_eq_some_iff.1 hj).1
    rw [mflat_len (fun m hm => (h.ok m hm).1)] at hjl
    rw [Nat.zero_add, World.ownsRow.cellAt h0 j hjl]
    exact hj
def OwnIs (ms : List RowM) (e : Ending) (w : World) : Prop := ∃ A n c ms', e = .returned (.slice A n c) ∧ TabR w A n c ms' ∧ (A = none ∨ ∃ bl of, A = some ⟨bl, of, none⟩) ∧ ms'.map (·.1) = (ms.take 13).map (fun m => cutZ m.1)
theorem take_snoc {ms : List RowM} {k : Nat} {m : RowM} (h : ms[k]? = some m) (hk : k < 13) : (ms.take (min (k + 1) 13)).map (fun m => cutZ m.1) = (ms.take (min k 13)).map (fun m => cutZ m.1) ++ [cutZ m.1] := by
  rw [Nat.min_eq_left (by omega), Nat.min_eq_left (by omega), List.take_add_one, h, Option.toList_some, List.map_append]
  rfl
set_option maxRecDepth 100000 in
set_option maxHeartbeats 4000000 in
theorem lown_any (A : Option Addr) (nn cc : Nat) (ms : List RowM) (w : World) (ht : TabR w A nn cc ms) :
    Calls Tryz.prog 6 #[.slice A nn cc] w fun e w' => OwnIs ms e w' ∧ Below w.heap.size w w' := by
  have HT := Lib.hid ht; have HLN := Lib.hid ht.len
  have HNN := Lib.hid (Nat.le_trans ht.cap ht.top)
  have hnn := HNN.out
  unfold maxLen at hnn
  have HIS : Hid (∀ A n c ms' w', TabR w' A n c ms' → (A = none ∨ ∃ bl of, A = some ⟨bl, of, none⟩) → ms'.map (·.1) = (ms.take 13).map (fun m => cutZ m.1) → OwnIs ms (.returned (.slice A n c)) w') := Lib.hid (fun A n c ms' w' h1 h2 h3 => ⟨A, n, c, ms', rfl, h1, h2, h3⟩)
  generalize OwnIs ms = OI at *
  obtain ⟨i0, hi, hz0, hz1, hz2⟩ := info_parts info_row
  clear ht
  go_enter Tryz.func6, Tryz.ntmps6
  go_wp2_with fail
  go_loopw [3, 8] (fun v i wr => ∃ (k : Nat) (ms' : List RowM), k ≤ nn ∧ i = .int .i64 (k : Int) ∧ Hid (ms'.map (·.1) = (ms.take (min k 13)).map (fun m => cutZ m.1)) ∧ Hid (OwnRows wr w.heap.size v ms') ∧ Below w.heap.size w wr) (fun _ i _ => nn - (intOf i).toNat)
  case atStart => exact ⟨0, [], Nat.zero_le _, rfl, Lib.hid (by simp), Lib.hid ⟨World.ownsRow_nil _ _ _ _, fun m hm => by cases hm⟩, Below.refl _ _⟩
  case round =>
    obtain ⟨k, ms', hk, rfl, HMS, HO, hb⟩ := hrel
    have HB := Lib.hid hb
    clear hb
    by_cases hlt : k < nn
    · obtain ⟨m, hm⟩ : ∃ m, ms[k]? = some m := ⟨_, List.getElem?_eq_getElem (by have := HLN.out; omega)⟩
      have htr := HT.out.on HB.out
      obtain ⟨bl, of, rfl, _⟩ := htr.rd.some_ (by rw [mflat_len htr.fit, htr.len]; omega)
      have hok := htr.ok m (List.mem_of_getElem? hm)
      have HLD := Lib.hid (tab_load htr hm)
      obtain ⟨W1, hs1, hx1, hb1, hz1'⟩ := row_var wr m.1 m.2 hok.1 (qr_cell hok.2)
      have HS1 := Lib.hid hs1; have HB1 := Lib.hid (HB.out.trans (hb1.mono HB.out.size))
      have HO1 := Lib.hid (HO.out.on hb1)
      have HLX := Lib.hid (row_load hok.1 hx1)
      have HRW := Lib.hid (lrow_any m.1 m.2 W1 hok.1 (hok.2.on hb1))
      have HFT := Lib.hid hok.1; have HMK := Lib.hid hm
      have g1 : (0 : Int) ≤ (k : Int) := by omega
      have g2 : (k : Int) < (nn : Int) := by omega
      clear htr hok hm hs1 hx1 hb1 hz1'
      by_cases h12 : k ≤ 12
      · have g3 : (k : Int) ≤ 12 := by omega
        go_wp2_with (first | refine list_load rfl _ rfl rfl HLD.out ?_ | refine list_load rfl _ rfl rfl HLX.out ?_ | refine list_store rfl _ _ rfl rfl rfl HS1.out ?_)
        refine HRW.out.mono ?_
        rintro e w5 ⟨⟨v', rfl, ho⟩, hb⟩
        have HB5 := Lib.hid (HB1.out.trans (hb.mono HB1.out.size))
        have HO5 := Lib.hid (HO1.out.on hb)
        have HQ5 := Lib.hid (ho.qrv (fun b e => (World.ownsRow.lt HO1.out.own b e).2))
        have HSN := Lib.hid (take_snoc HMK.out (show k < 13 by omega))
        have hcf : (cutZ m.1).Fit := HFT.out
        have HLN' : Hid (ms'.length ≤ 13) := Lib.hid (by
          have := congrArg List.length HMS.out
          rw [List.length_map, List.length_map, List.length_take] at this
          omega)
        clear hb ho HRW HLX HLD HS1 HO1
        generalize cutZ m.1 = rr at *
        obtain ⟨n, o, a, b, c, d, e, t, ov, ca, re, pa, nx, num, due, tr, qv, q, rfl, rfl⟩ := row_letters hcf v'
        rw [rowV_all]
        have HCF := Lib.hid hcf
        clear hcf
        have hx6 := D.Box.new w5 39 #[.int .u32 n, .bool o, .int .u64 (U a), .int .u64 (U b), .int .u64 (U c), .int .u64 (U d), .int .u64 (U e), .int .i64 t, .int .i64 ov, .int .i64 ca, .int .i64 re, .bool pa, .int .i64 nx, .int .u64 num, .int .i64 due, .int .i64 tr, qv]
        have HOA := Lib.hid (HO5.out.on (new_below w5 (.cells #[.int .u32 n, .bool o, .int .u64 (U a), .int .u64 (U b), .int .u64 (U c), .int .u64 (U d), .int .u64 (U e), .int .i64 t, .int .i64 ov, .int .i64 ca, .int .i64 re, .bool pa, .int .i64 nx, .int .u64 num, .int .i64 due, .int .i64 tr, qv] 39)))
        have HBA := Lib.hid (HB5.out.alloc HB5.out.size (.cells #[.int .u32 n, .bool o, .int .u64 (U a), .int .u64 (U b), .int .u64 (U c), .int .u64 (U d), .int .u64 (U e), .int .i64 t, .int .i64 ov, .int .i64 ca, .int .i64 re, .bool pa, .int .i64 nx, .int .u64 num, .int .i64 due, .int .i64 tr, qv] 39))
        have HRD : Hid (Reads (w5.alloc (.cells #[.int .u32 n, .bool o, .int .u64 (U a), .int .u64 (U b), .int .u64 (U c), .int .u64 (U d), .int .u64 (U e), .int .i64 t, .int .i64 ov, .int .i64 ca, .int .i64 re, .bool pa, .int .i64 nx, .int .u64 num, .int .i64 due, .int .i64 tr, qv] 39)) (some ⟨w5.heap.size, 0, none⟩) [.int .u32 n, .bool o, .int .u64 (U a), .int .u64 (U b), .int .u64 (U c), .int .u64 (U d), .int .u64 (U e), .int .i64 t, .int .i64 ov, .int .i64 ca, .int .i64 re, .bool pa, .int .i64 nx, .int .u64 num, .int .i64 due, .int .i64 tr, qv]) := Lib.hid (fun j u hj => ⟨_, 0, rfl, D.Box.lt hx6, by
          rw [Nat.zero_add, D.Box.cell hx6 j, show (#[.int .u32 n, .bool o, .int .u64 (U a), .int .u64 (U b), .int .u64 (U c), .int .u64 (U d), .int .u64 (U e), .int .i64 t, .int .i64 ov, .int .i64 ca, .int .i64 re, .bool pa, .int .i64 nx, .int .u64 num, .int .i64 due, .int .i64 tr, qv] : Array Value) = [.int .u32 n, .bool o, .int .u64 (U a), .int .u64 (U b), .int .u64 (U c), .int .u64 (U d), .int .u64 (U e), .int .i64 t, .int .i64 ov, .int .i64 ca, .int .i64 re, .bool pa, .int .i64 nx, .int .u64 num, .int .i64 due, .int .i64 tr, qv].toArray from rfl, List.getElem?_toArray]; exact hj⟩)
        have HON1 : Hid (∀ u ∈ ([.int .u32 n, .bool o, .int .u64 (U a), .int .u64 (U b), .int .u64 (U c), .int .u64 (U d), .int .u64 (U e), .int .i64 t, .int .i64 ov, .int .i64 ca, .int .i64 re, .bool pa, .int .i64 nx, .int .u64 num, .int .i64 due, .int .i64 tr, qv] : List Value), u.oneCell' = true) := Lib.hid (by
          intro u hu
          simp only [List.mem_cons, List.not_mem_nil, or_false] at hu
          rcases hu with rfl | rfl | rfl | rfl | rfl | rfl | rfl | rfl | rfl | rfl | rfl | rfl | rfl | rfl | rfl | rfl | rfl <;> first | exact qr_cell HQ5.out.qr | rfl)
        clear hx6
        have HRUN := Lib.hid (fun ty => run_append_reads (P := Tryz.prog) (ty := ty) Tryz.underlying22 hi hz0 hz1 hz2 rfl (by decide) HOA.out.own (A := some ⟨w5.heap.size, 0, none⟩) (m := 1) (c := 1) (news := [.int .u32 n, .bool o, .int .u64 (U a), .int .u64 (U b), .int .u64 (U c), .int .u64 (U d), .int .u64 (U e), .int .i64 t, .int .i64 ov, .int .i64 ca, .int .i64 re, .bool pa, .int .i64 nx, .int .u64 num, .int .i64 due, .int .i64 tr, qv]) (fun e => by cases e) (Nat.le_refl _) rfl HRD.out HON1.out (by have := HLN'.out; unfold maxLen; omega) (by have := HLN'.out; omega) HBA.out.size)
        go_wp2_with (at_builtin; (obtain ⟨v9, w9, hr9, ho9, hg9, hv9⟩ := HRUN.out _; refine list_app rfl _ _ _ rfl rfl rfl hr9 ?_; have HO9 := Lib.hid ho9; have HG9 := Lib.hid hg9; have HV9 := Lib.hid hv9; clear ho9 hg9 hv9 hr9))
        go_roundw
        case rel => exact ⟨k + 1, ms' ++ [(⟨⟨n, o, [a, b, c, d, e], t, ov, ca, re⟩, pa, nx, num, due, tr, q⟩, qv)], by omega, by go_num, Lib.hid (by rw [HSN.out, List.map_append, HMS.out]; rfl), Lib.hid ⟨by
          rw [List.length_append, List.flatMap_append]
          exact HO9.out, fun x hx => by
          rcases List.mem_append.1 hx with hx | hx
          · exact ⟨(HOA.out.ok x hx).1, (HOA.out.ok x hx).2.grown HG9.out HV9.out⟩
          · rw [List.mem_singleton] at hx
            subst hx
            exact ⟨HCF.out, (HQ5.out.on (new_below w5 _)).grown HG9.out HV9.out⟩⟩, HBA.out.grown HG9.out HBA.out.size (fun j e => (World.ownsRow.lt HOA.out.own j e).1)⟩
        case measure => simp [intOf]; omega
      · have g3 : ¬ (k : Int) ≤ 12 := by omega
        have HSN : Hid (min (k + 1) 13 = min k 13) := Lib.hid (by omega)
        go_wp2_with (first | refine list_load rfl _ rfl rfl HLD.out ?_ | refine list_store rfl _ _ rfl rfl rfl HS1.out ?_)
        go_roundw
        case rel => exact ⟨k + 1, ms', by omega, by go_num, Lib.hid (by rw [HSN.out]; exact HMS.out), HO1, HB1.out⟩
        case measure => simp [intOf]; omega
    · obtain ⟨A', c', rfl, ht', ha'⟩ := HO.out.tab
      have HF := Lib.hid (HIS.out _ _ _ _ _ ht' ha' (by
        rw [HMS.out]
        by_cases h : nn ≤ 13
        · rw [Nat.min_eq_left (by omega), List.take_of_length_le (by have := HLN.out; omega), List.take_of_length_le (by have := HLN.out; omega)]
        · rw [Nat.min_eq_right (by omega)]))
      clear ht' ha'
      go_wp2_with fail
      go_ret
      exact ⟨HF.out, HB.out⟩
end Go.Proofs.YthngjbnbloboiaaGreatDoor
