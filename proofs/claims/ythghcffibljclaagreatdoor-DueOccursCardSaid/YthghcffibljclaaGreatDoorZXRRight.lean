/- Whether a row may be, by the document. -/
import Derived.Test.YthghcffibljclaaGreatDoorZXRRno
import Derived.Test.YthghcffibljclaaGreatDoorZXRRway
namespace Go.Proofs.YthghcffibljclaaGreatDoor
open Go.RowKit

theorem rright13_any (ev : List (BitVec 64) → Bool) (hev : EvIs ev) (r : RowZ) (v : Value) (w : World) (hf : r.Fit) (hq : QR w v r.q) :
    Calls Tryz.prog 7 #[rowV r v] w fun e w' => BoolIs (r.Right ev) e ∧ Below w.heap.size w w' := by
  have no : ∀ {e : Ending} {w' : World}, ¬ r.Right ev → (e = .returned (.bool false) ∧ Below w.heap.size w w') → BoolIs (r.Right ev) e ∧ Below w.heap.size w w' := fun hn h => ⟨by rw [h.1]; exact .no hn, h.2⟩
  by_cases he : r.j.err ev = 0
  case neg => exact (rr_no1 ev hev r v w hf hq he).mono fun e w' h => no (fun h2 => he h2.job) h
  by_cases hpx : r.pa = true ∧ r.nx ≠ -1
  · exact (rr_no2 ev hev r v w hf hq he hpx.1 hpx.2).mono fun e w' h => no (fun h2 => hpx.2 (h2.pa hpx.1)) h
  have hpa : r.pa = false ∨ (r.pa = true ∧ r.nx = -1) := by
    cases hp : r.pa with
    | false => exact .inl rfl
    | true => exact .inr ⟨rfl, Classical.byContradiction fun h => hpx ⟨hp, h⟩⟩
  by_cases h0 : r.tr < 0
  · have hn : ¬ r.Right ev := fun h2 => by have := h2.tr0; omega
    rcases hpa with hp | ⟨hp, hx⟩
    · exact (rr_no3A ev hev r v w hf hq he hp h0).mono fun e w' h => no hn h
    · exact (rr_no3B ev hev r v w hf hq he hp hx h0).mono fun e w' h => no hn h
  have h0 : 0 ≤ r.tr := by omega
  by_cases h1 : r.j.re < r.tr
  · have hn : ¬ r.Right ev := fun h2 => by have := h2.tr1; omega
    rcases hpa with hp | ⟨hp, hx⟩
    · exact (rr_no4A ev hev r v w hf hq he hp h0 h1).mono fun e w' h => no hn h
    · exact (rr_no4B ev hev r v w hf hq he hp hx h0 h1).mono fun e w' h => no hn h
  have h1 : r.tr ≤ r.j.re := by omega
  by_cases h3 : 3 < r.q.length
  · have hn : ¬ r.Right ev := fun h2 => by have := h2.q3; omega
    rcases hpa with hp | ⟨hp, hx⟩
    · exact (rr_no5A ev hev r v w hf hq he hp h0 h1 h3).mono fun e w' h => no hn h
    · exact (rr_no5B ev hev r v w hf hq he hp hx h0 h1 h3).mono fun e w' h => no hn h
  have h3 : r.q.length ≤ 3 := by omega
  by_cases hid : r.num = 0 → r.due = 0 ∧ r.tr = 0 ∧ r.q = []
  case neg =>
    have hn : ¬ r.Right ev := fun h2 => hid h2.idle
    have h4 : r.num = 0 := Classical.byContradiction fun h => hid fun h' => absurd h' h
    have hid : ¬ (r.due = 0 ∧ r.tr = 0 ∧ r.q = []) := fun h => hid fun _ => h
    by_cases hd : r.due = 0
    · by_cases ht : r.tr = 0
      · have hq0 : r.q ≠ [] := fun h => hid ⟨hd, ht, h⟩
        rcases hpa with hp | ⟨hp, hx⟩
        · exact (rr_no8A ev hev r v w hf hq he hp h0 h1 h3 h4 hd ht hq0).mono fun e w' h => no hn h
        · exact (rr_no8B ev hev r v w hf hq he hp hx h0 h1 h3 h4 hd ht hq0).mono fun e w' h => no hn h
      · rcases hpa with hp | ⟨hp, hx⟩
        · exact (rr_no7A ev hev r v w hf hq he hp h0 h1 h3 h4 hd ht).mono fun e w' h => no hn h
        · exact (rr_no7B ev hev r v w hf hq he hp hx h0 h1 h3 h4 hd ht).mono fun e w' h => no hn h
    · rcases hpa with hp | ⟨hp, hx⟩
      · exact (rr_no6A ev hev r v w hf hq he hp h0 h1 h3 h4 hd).mono fun e w' h => no hn h
      · exact (rr_no6B ev hev r v w hf hq he hp hx h0 h1 h3 h4 hd).mono fun e w' h => no hn h
  by_cases hsk : r.j.ov = 0 → r.q = []
  case neg =>
    have hn : ¬ r.Right ev := fun h2 => hsk h2.skip
    have ho : r.j.ov = 0 := Classical.byContradiction fun h => hsk fun h' => absurd h' h
    have hq0 : r.q ≠ [] := fun h => hsk fun _ => h
    have h4 : r.num ≠ 0 := fun h => hq0 (hid h).2.2
    rcases hpa with hp | ⟨hp, hx⟩
    · exact (rr_no9A ev hev r v w hf hq he hp h0 h1 h3 h4 ho hq0).mono fun e w' h => no hn h
    · exact (rr_no9B ev hev r v w hf hq he hp hx h0 h1 h3 h4 ho hq0).mono fun e w' h => no hn h
  exact rr_way ev hev r v w hf hq ⟨fun h => ⟨h.rises, h.times⟩, fun h => ⟨he, fun hp => Classical.byContradiction fun hx => hpx ⟨hp, hx⟩, h0, h1, h3, hid, hsk, h.1, h.2⟩⟩ he h0 h1 h3 hpx hid hsk
end Go.Proofs.YthghcffibljclaaGreatDoor
