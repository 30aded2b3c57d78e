/- When a row goes on next: walked. -/
import Derived.Test.YthngjbnbloboiaaGreatDoorKVDeed
import Derived.Deep.DeepCutAuto
import Derived.Deep.RegionHeld3
namespace Go.Proofs.YthngjbnbloboiaaGreatDoor
open Go.RowKit

set_option maxRecDepth 100000 in
set_option maxHeartbeats 4000000 in
theorem rownext_any (ev : List (BitVec 64) → Bool) (hev : EvIs ev) (r : RowZ) (v : Value) (now : Int) (w : World) (hL : LaidC w) (hf : r.Fit) (hq : QR w v r.q) (hl : r.q.length ≤ 100) :
    Calls Tryz.prog 65 #[rowNV r v now] w fun e w' => NextTold ev r now e ∧ Below w.heap.size w w' := by
  have HT := Lib.hid (fun W hW => times_any r v now W hf hW hl)
  have HFI := Lib.hid (fun m W hW => jfirst_any ev hev r.j m W hW hf.1)
  have HLL : Hid (r.line'.length ≤ 102) := Lib.hid (by unfold RowZ.line'; rw [List.length_append, List.length_append]; split <;> split <;> simp <;> omega)
  have HN1 : Hid (∀ m nx, Greatest (r.line' ++ [now]) m → FirstT (r.j.TT ev) m nx true → NextTold ev r now (.returned (.int .i64 nx))) := Lib.hid (fun m nx h1 h2 => ⟨nx, rfl, m, h1, .inl h2⟩)
  have HN2 : Hid (∀ m t, Greatest (r.line' ++ [now]) m → FirstT (r.j.TT ev) m t false → NextTold ev r now (.returned (.int .i64 (-1)))) := Lib.hid (fun m t h1 h2 => ⟨-1, rfl, m, h1, .inr ⟨t, h2, rfl⟩⟩)
  generalize NextTold ev r now = NT at *
  generalize r.line' = L' at *
  generalize r.j.TT ev = TT at *
  obtain ⟨n, o, a, b, c, d, e, t, ov, ca, re, pa, nx, num, due, tr, qv, q, rfl, rfl⟩ := row_letters hf v
  simp only at HT HFI hq
  rw [jobV_five] at HFI
  rw [rowNV_all] at HT
  rw [rowNV_all]
  unfold TimeIs at HFI
  obtain ⟨W0, hW0, hb0, hx0, hs0⟩ := rown_new w n o a b c d e t ov ca re pa nx num due tr qv now
  have HB0 := Lib.hid hb0; have HQ0 := Lib.hid (hq.on hb0); have HL0 := Lib.hid (hL.on hb0)
  have HC : Hid (∀ W, Below W0.heap.size W0 W → W.cell? ⟨w.heap.size, 0, none⟩ = some (.int .u32 n) ∧ W.cell? ⟨w.heap.size, 1, none⟩ = some (.bool o) ∧ W.cell? ⟨w.heap.size, 2, none⟩ = some (.int .u64 (U a)) ∧ W.cell? ⟨w.heap.size, 3, none⟩ = some (.int .u64 (U b)) ∧ W.cell? ⟨w.heap.size, 4, none⟩ = some (.int .u64 (U c)) ∧ W.cell? ⟨w.heap.size, 5, none⟩ = some (.int .u64 (U d)) ∧ W.cell? ⟨w.heap.size, 6, none⟩ = some (.int .u64 (U e)) ∧ W.cell? ⟨w.heap.size, 7, none⟩ = some (.int .i64 t) ∧ W.cell? ⟨w.heap.size, 8, none⟩ = some (.int .i64 ov) ∧ W.cell? ⟨w.heap.size, 9, none⟩ = some (.int .i64 ca) ∧ W.cell? ⟨w.heap.size, 10, none⟩ = some (.int .i64 re) ∧ W.cell? ⟨w.heap.size, 11, none⟩ = some (.bool pa) ∧ W.cell? ⟨w.heap.size, 12, none⟩ = some (.int .i64 nx) ∧ W.cell? ⟨w.heap.size, 13, none⟩ = some (.int .u64 num) ∧ W.cell? ⟨w.heap.size, 14, none⟩ = some (.int .i64 due) ∧ W.cell? ⟨w.heap.size, 15, none⟩ = some (.int .i64 tr) ∧ W.cell? ⟨w.heap.size, 16, none⟩ = some qv ∧ W.cell? ⟨w.heap.size, 17, none⟩ = some (.int .i64 now)) := Lib.hid (fun W hb => box18 (D.Box.belowAll hx0 hb))
  have HTT := Lib.hid (fun W hb => HT.out W (HQ0.out.on (w' := W) hb))
  have HFF := Lib.hid (fun m W hb => HFI.out m W (HL0.out.on (w' := W) hb))
  have HMX := Lib.hid (fun y q W h1 h2 h3 => max_any y q W h1 h2 h3)
  have hBE := Below.refl W0.heap.size W0
  clear hb0 hx0 hf hL hev hq hl hs0 HT HFI HL0 HQ0
  go_enter Tryz.func65, Tryz.ntmps65
  go_upto_region 1 with fail
  rw [← hW0]
  clear hW0
  go_cut [3, 4] from 5 to 18 (fun s3 s4 wx => (∃ t ok m, s3 = .int .i64 t ∧ s4 = .bool ok ∧ Greatest (L' ++ [now]) m ∧ FirstT TT m t ok) ∧ Below W0.heap.size W0 wx)
  case first =>
   as_aux_lemma =>
    have hlen : (L' ++ [now]).length ≤ 1000 := by rw [List.length_append]; have := HLL.out; simp; omega
    have hpos : 0 < (L' ++ [now]).length := by rw [List.length_append]; simp
    have hlen2 : L'.length + [now].length ≤ 1000 := by have := HLL.out; simp; omega
    have HLEN := Lib.hid hlen; have HPOS := Lib.hid hpos; have HLEN2 := Lib.hid hlen2
    clear hlen hpos hlen2
    go_region_held3 (fun W' => W'.cell? ⟨w.heap.size, 0, none⟩ = some (.int .u32 n) ∧ W'.cell? ⟨w.heap.size, 1, none⟩ = some (.bool o) ∧ W'.cell? ⟨w.heap.size, 2, none⟩ = some (.int .u64 (U a)) ∧ W'.cell? ⟨w.heap.size, 3, none⟩ = some (.int .u64 (U b)) ∧ W'.cell? ⟨w.heap.size, 4, none⟩ = some (.int .u64 (U c)) ∧ W'.cell? ⟨w.heap.size, 5, none⟩ = some (.int .u64 (U d)) ∧ W'.cell? ⟨w.heap.size, 6, none⟩ = some (.int .u64 (U e)) ∧ W'.cell? ⟨w.heap.size, 7, none⟩ = some (.int .i64 t) ∧ W'.cell? ⟨w.heap.size, 8, none⟩ = some (.int .i64 ov) ∧ W'.cell? ⟨w.heap.size, 9, none⟩ = some (.int .i64 ca) ∧ W'.cell? ⟨w.heap.size, 10, none⟩ = some (.int .i64 re) ∧ W'.cell? ⟨w.heap.size, 11, none⟩ = some (.bool pa) ∧ W'.cell? ⟨w.heap.size, 12, none⟩ = some (.int .i64 nx) ∧ W'.cell? ⟨w.heap.size, 13, none⟩ = some (.int .u64 num) ∧ W'.cell? ⟨w.heap.size, 14, none⟩ = some (.int .i64 due) ∧ W'.cell? ⟨w.heap.size, 15, none⟩ = some (.int .i64 tr) ∧ W'.cell? ⟨w.heap.size, 16, none⟩ = some qv ∧ W'.cell? ⟨w.heap.size, 17, none⟩ = some (.int .i64 now)) (first | exact HC.out _ hBE | exact HC.out _ hBE.drew | exact HC.out _ (hBE.alloc hBE.size _) | exact HC.out _ (hBE.drew.alloc hBE.size _) | exact HC.out _ (hBE.alloc hBE.size _).drew) (first
      | (refine step_times rfl _ _ rfl rfl rfl (OwnT.below hOY (new_below _ _)) (qr_one _ now) (hBE.alloc hBE.size (.cells #[.int .i64 now] 2)).size HLEN2.out W0 (hBE.alloc hBE.size _) ?_
         intro y2 w9 ho9 hb9
         replace hBE := hb9
         clear hb9)
      | (refine step_times rfl _ _ rfl rfl rfl hOY hQN hBE.size HLEN2.out W0 hBE ?_
         intro y2 w9 ho9 hb9
         replace hBE := hb9
         clear hb9)
      | (go_at_call 89
         (with_reducible first | refine (HTT.out _ hBE).mono ?_ | refine (HTT.out _ hBE.drew).mono ?_)
         rintro e wE ⟨⟨y, rfl, hy⟩, hwE⟩
         replace hBE : Below W0.heap.size W0 wE := Below.trans (by first | exact hBE | exact hBE.drew) (hwE.mono (by first | exact hBE.size | exact hBE.drew.size))
         have hOY : OwnT wE W0.heap.size y L' := OwnT.low hy (Nat.le_refl _)
         clear hwE hy)
      | (go_at_call 89
         (with_reducible first | refine (HTT.out _ (hBE.alloc hBE.size _)).mono ?_ | refine (HTT.out _ (hBE.drew.alloc hBE.size _)).mono ?_ | refine (HTT.out _ (hBE.alloc hBE.size _).drew).mono ?_)
         rintro e wE ⟨⟨y, rfl, hy⟩, hwE⟩
         have hQN : QR wE (.slice (some ⟨W0.heap.size, 0, none⟩) 1 1) [now] := (by first | exact QR.on (qr_one _ now) hwE | exact QR.on (w := (W0.alloc (.cells #[.int .i64 now] 2)).drew) (qr_one W0 now) hwE | exact QR.on (w := W0.drew.alloc (.cells #[.int .i64 now] 2)) (qr_one W0.drew now) hwE)
         have hOY : OwnT wE W0.heap.size y L' := OwnT.low hy (by first | exact (hBE.alloc hBE.size _).size | exact (hBE.alloc hBE.size _).drew.size | exact (hBE.drew.alloc hBE.size _).size | (simp; done) | (simp; omega))
         replace hBE : Below W0.heap.size W0 wE := Below.trans (by first | exact hBE.alloc hBE.size _ | exact hBE.drew.alloc hBE.size _ | exact (hBE.alloc hBE.size _).drew) (hwE.mono (by first | exact (hBE.alloc hBE.size _).size | exact (hBE.alloc hBE.size _).drew.size | exact (hBE.drew.alloc hBE.size _).size))
         clear hwE hy)
      | (go_at_call 88
         (with_reducible first | refine (HMX.out _ _ _ ho9.qr HLEN.out HPOS.out).mono ?_)
         rintro e wE ⟨⟨m, rfl, hm⟩, d, rfl⟩
         replace hBE := bdrewN hBE d)
      | (go_at_call 9
         (with_reducible first | refine (HFF.out m _ hBE).mono ?_)
         rintro e wE ⟨⟨u, ok, rfl, hu⟩, hwE⟩
         replace hBE : Below W0.heap.size W0 wE := Below.trans hBE (hwE.mono hBE.size)
         clear hwE))
    all_goals
      go_wp2_with fail
      go_meet
      exact ⟨⟨_, _, m, rfl, rfl, hm, hu⟩, hBE⟩
  case rest =>
   as_aux_lemma =>
    obtain ⟨⟨t, ok, m, rfl, rfl, hg, hfi⟩, hb⟩ := hcut
    have HB := Lib.hid (HB0.out.trans (hb.mono HB0.out.size)); have HG := Lib.hid hg; have HF := Lib.hid hfi
    clear hb hg hfi
    cases ok with
    | true =>
      go_wp2_with fail
      go_ret
      exact ⟨HN1.out _ _ HG.out HF.out, HB.out⟩
    | false =>
      go_wp2_with fail
      go_ret
      exact ⟨HN2.out _ _ HG.out HF.out, HB.out⟩
end Go.Proofs.YthngjbnbloboiaaGreatDoor
