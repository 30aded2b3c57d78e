/- What is offered of a row, by the document: walked. -/
import Derived.Test.YthghcffibljclaaGreatDoorZ8
import Derived.Test.YthghcffibljclaaGreatDoorZXStep
import Derived.Test.YthghcffibljclaaGreatDoorZXLoad
import Derived.Test.YthghcffibljclaaGreatDoorZXRiseP
import Derived.BigGuard
namespace Go.Proofs.YthghcffibljclaaGreatDoor
open Go.RowKit

theorem row_ca13 {W : World} {g : Nat} {r : RowZ} {v : Value} (hf : r.Fit) (h : D.Box W g 33 (rowC r v).toArray) : W.cell? ⟨g, 9, none⟩ = some (.int .i64 r.j.ca) := by
  have hr := row_range h
  obtain ⟨⟨n, ob, L, t, ov, ca, re⟩, pa, nx, num, due, tr, q⟩ := r
  obtain ⟨⟨_, _, hl5⟩, _⟩ := hf
  obtain ⟨a, b, c, d, e, rfl⟩ := list_five hl5
  have := hr 9 _ rfl
  rwa [Nat.zero_add] at this
/-- What the document tells. -/
def ROcc (r : RowZ) (now : Int) (B : Nat) (e : Ending) (w : World) : Prop := ∃ y l nx, e = .returned (.tuple #[y, .int .i64 nx]) ∧ OwnT w B y l ∧ Occ r now l nx
set_option maxRecDepth 100000 in
set_option maxHeartbeats 4000000 in
theorem rocc_any (ev : List (BitVec 64) → Bool) (r : RowZ) (v : Value) (now : Int) (w : World) (hf : r.Fit) (hR : r.Right ev) (ht : 0 ≤ now ∧ now ≤ 253402300799) :
    Calls Tryz.prog 10 #[rowV r v, .int .i64 now] w fun e w' => ROcc r now w.heap.size e w' ∧ Below w.heap.size w w' := by
  have he := hR.job
  have HRV : Hid (rowV r v = .agg (rowC r v).toArray) := Lib.hid rfl
  have hx0 := D.Box.new w 33 (rowC r v).toArray
  have hb0 := new_below w (.cells (rowC r v).toArray 33)
  obtain ⟨W0, hW0⟩ : ∃ W : World, W = w.alloc (.cells (rowC r v).toArray 33) := ⟨_, rfl⟩
  rw [← hW0] at hx0 hb0
  have HB0 := Lib.hid hb0; have HF := Lib.hid hf; have HX0 := Lib.hid hx0; have HT := Lib.hid ht
  have HFI := Lib.hid (fun W => rfirst10_any ev r.j now W hf.1 he)
  have HLA := Lib.hid (fun W => rlatest10_any ev r.j now W hf.1 he)
  have HTM := Lib.hid (fun W => rtimes10_any ev r.j (r.nx - 1) now 4 W hf.1 he (by decide))
  unfold TimeIs at HFI HLA
  have HNO : Hid ((r.nx = -1 ∨ now < r.nx) → ∀ w', ROcc r now w.heap.size (.returned (.tuple #[.slice none 0 0, .int .i64 r.nx])) w') := Lib.hid (fun h w' => ⟨_, [], r.nx, rfl, OwnT.nil _ _, .inl ⟨h, rfl, rfl⟩⟩)
  have HYES : Hid (¬ (r.nx = -1 ∨ now < r.nx) → ∀ y l nx w', NextZ r.j.T now nx → OfferZ r.j.T r.j.ca r.nx now l → OwnT w' w.heap.size y l → ROcc r now w.heap.size (.returned (.tuple #[y, .int .i64 nx])) w') := Lib.hid (fun h y l nx w' h1 h2 h3 => ⟨y, l, nx, rfl, h3, .inr ⟨fun e => h (.inl e), by omega, h1, h2⟩⟩)
  have HFN : Hid (r.nx ≠ -1 → r.j.T r.nx ∧ 0 ≤ r.nx) := Lib.hid (fun h => ⟨(front_next hR h).2.2, (T_bounds he r.nx (front_next hR h).2.2).1⟩)
  have HTB := Lib.hid (T_bounds he)
  rw [HRV.out]
  generalize ROcc r now w.heap.size = OI at *
  have hcf := cellsF_of hf (row_range hx0)
  have c12 := hcf.nx
  rw [Nat.zero_add] at c12
  have HLJ := Lib.hid (fun W (hb : Below W0.heap.size W0 W) => loadS (row_job hf (D.Box.belowAll hx0 hb)))
  have HC12 := Lib.hid (fun W (hb : Below W0.heap.size W0 W) => (hb.cell (p := ⟨w.heap.size, 12, none⟩) (D.Box.lt hx0)).trans c12)
  clear hcf hx0 hb0 hf hR he ht
  go_enter Tryz.func10, Tryz.ntmps10
  go_upto_region 1 with fail
  rw [← hW0]
  clear hW0
  by_cases hn : r.nx = -1 ∨ now < r.nx
  · have HR := Lib.hid (HNO.out hn)
    clear HNO HYES
    by_cases h1 : r.nx = -1
    · have q1 : (r.nx == -1) = true := by simpa using h1
      clear hn h1
      go_wp2_with fail
      go_quiet (fail)
      go_wp2_with fail
      exact bodyPost_ret (v := .tuple #[.slice none 0 0, .int .i64 r.nx]) (by simp [results, Tryz.results10, go_sem]) rfl ⟨HR.out _, bdrewN HB0.out _⟩
    · have q1 : (r.nx == -1) = false := by simpa using h1
      have q2 : decide (now < r.nx) = true := decide_eq_true (by omega)
      clear hn h1
      go_wp2_with fail
      go_quiet (fail)
      go_wp2_with fail
      exact bodyPost_ret (v := .tuple #[.slice none 0 0, .int .i64 r.nx]) (by simp [results, Tryz.results10, go_sem]) rfl ⟨HR.out _, bdrewN HB0.out _⟩
  have q1 : (r.nx == -1) = false := by simp; omega
  have q2 : decide (now < r.nx) = false := decide_eq_false (by omega)
  have HLJ0 := Lib.hid (HLJ.out W0 (Below.refl _ _))
  have HFN2 := Lib.hid (HFN.out (fun e => hn (.inl e)))
  have HLE : Hid (r.nx ≤ now) := Lib.hid (by omega)
  have HY := Lib.hid (HYES.out hn)
  clear hn HNO HYES HFN
  go_wp2_with (first | refine list_loadS (t := 28) rfl _ rfl rfl HLJ0.out ?_)
  refine (HFI.out _).mono ?_
  rintro e w3 ⟨⟨f, ok, rfl, hft⟩, hb⟩
  have HB3 := Lib.hid hb
  have HNX : Hid (NextZ r.j.T now (if ok = true then f else -1)) := Lib.hid (by
    cases ok with
    | true => exact .inl hft
    | false => exact .inr ⟨f, hft, rfl⟩)
  have HLJ3 := Lib.hid (HLJ.out w3 hb)
  clear hb hft HFI HLJ0 q1 q2 c12
  go_upto_if 29 with fail
  go_cut [6] from 29 to 30 (fun s6 wx => s6 = .int .i64 (if ok = true then f else -1) ∧ wx = w3)
  case first =>
    cases ok with
    | true =>
      go_wp2_with fail
      go_meet
      exact ⟨by simp, rfl⟩
    | false =>
      go_wp2_with fail
      go_meet
      exact ⟨by simp, rfl⟩
  case rest =>
  obtain ⟨rfl, hwc⟩ := hcut
  subst hwc
  generalize wc = w3 at *
  generalize (if ok = true then f else -1) = nx at *
  go_wp2_with (first | refine list_loadS (t := 28) rfl _ rfl rfl HLJ3.out ?_)
  refine (HLA.out _).mono ?_
  rintro e w4 ⟨⟨t, ok2, rfl, hlt⟩, hb⟩
  have HB4 := Lib.hid (HB3.out.trans (hb.mono HB3.out.size))
  have hok2 : ok2 = true := by
    rcases hlt with ⟨h, _⟩ | ⟨_, _, h⟩
    · exact h
    · have := h _ HFN2.out.1; have := HLE.out; omega
  subst hok2
  have HLT := Lib.hid hlt
  have HTT : Hid (0 ≤ t ∧ t ≤ now) := Lib.hid (by
    rcases hlt with ⟨_, h⟩ | ⟨h, _⟩
    · exact ⟨(HTB.out t h.1).1, h.2.1⟩
    · cases h)
  have c9 := row_ca13 HF.out (D.Box.belowAll HX0.out HB4.out)
  have HLJ4 := Lib.hid (HLJ.out w4 HB4.out)
  have c12 := HC12.out w4 HB4.out
  have HBF := Lib.hid (HB0.out.trans (HB4.out.mono HB0.out.size))
  clear hb hlt HLA HLJ3 HC12 HLJ HB3
  have hsub : wrap64 (r.nx - 1) = r.nx - 1 := by have := HFN2.out.2; have := HLE.out; have := HT.out; unfold wrap64; omega
  have hsub2 : wrap64 (now - t) = now - t := by have := HTT.out; have := HT.out; unfold wrap64; omega
  by_cases hc2 : r.j.ca = 2
  · have q1 : (r.j.ca == 2) = true := by simpa using hc2
    have HTM4 := Lib.hid (HTM.out w4)
    have HOF := Lib.hid (fun l (h : Chain r.j.T (r.nx - 1) now 4 l) => (.inl ⟨hc2, h⟩ : OfferZ r.j.T r.j.ca r.nx now l))
    rw [show spanV (r.nx - 1) now = .agg #[.int .i64 (r.nx - 1), .int .i64 now] from rfl] at HTM4
    clear hc2 HTM
    go_wp2_with (first | refine list_loadS (t := 28) rfl _ rfl rfl HLJ4.out ?_)
    refine HTM4.out.mono ?_
    rintro e w5 ⟨⟨y, l, rfl, hoy, hch⟩, hb⟩
    have HX := Lib.hid (HY.out y l nx w5 HNX.out (HOF.out l hch) (own_low hoy (Nat.le_trans HB0.out.size HB4.out.size)))
    have HBG := Lib.hid (HBF.out.trans (hb.mono HBF.out.size))
    clear hb hoy hch HTM4
    go_wp2_with fail
    exact bodyPost_ret (v := .tuple #[y, .int .i64 nx]) (by simp [results, Tryz.results10, go_sem]) rfl ⟨HX.out, HBG.out⟩
  have q1 : (r.j.ca == 2) = false := by simpa using hc2
  by_cases hc1 : r.j.ca = 1 ∨ now - t < 60
  · have HOF : Hid (OfferZ r.j.T r.j.ca r.nx now [t]) := Lib.hid (.inr ⟨hc2, t, HLT.out, .inl ⟨hc1, rfl⟩⟩)
    have HX := Lib.hid (fun y w' => HY.out y [t] nx w' HNX.out HOF.out)
    by_cases hc : r.j.ca = 1
    · have q2 : (r.j.ca == 1) = true := by simpa using hc
      clear hc hc1 hc2
      go_wp2_with fail
      exact bodyPost_ret (v := .tuple #[.slice (some ⟨w4.heap.size, 0, none⟩) 1 1, .int .i64 nx]) (by simp [results, Tryz.results10, go_sem]) rfl ⟨HX.out _ _ (OwnT.low (own_one w4 t) HBF.out.size), HBF.out.alloc HBF.out.size _⟩
    · have q2 : (r.j.ca == 1) = false := by simpa using hc
      have q3 : decide (now - t < 60) = true := decide_eq_true (by omega)
      clear hc hc1 hc2
      go_wp2_with fail
      exact bodyPost_ret (v := .tuple #[.slice (some ⟨w4.heap.size, 0, none⟩) 1 1, .int .i64 nx]) (by simp [results, Tryz.results10, go_sem]) rfl ⟨HX.out _ _ (OwnT.low (own_one w4 t) HBF.out.size), HBF.out.alloc HBF.out.size _⟩
  · have q2 : (r.j.ca == 1) = false := by simp; omega
    have q3 : decide (now - t < 60) = false := decide_eq_false (by omega)
    have q4 : ¬ now - t < 60 := by omega
    have HOF : Hid (OfferZ r.j.T r.j.ca r.nx now []) := Lib.hid (.inr ⟨hc2, t, HLT.out, .inr ⟨hc1, rfl⟩⟩)
    have HX := Lib.hid (HY.out (.slice none 0 0) [] nx w4 HNX.out HOF.out (OwnT.nil _ _))
    clear hc1 hc2
    go_wp2_with fail
    exact bodyPost_ret (v := .tuple #[.slice none 0 0, .int .i64 nx]) (by simp [results, Tryz.results10, go_sem]) rfl ⟨HX.out, HBF.out⟩
end Go.Proofs.YthghcffibljclaaGreatDoor
