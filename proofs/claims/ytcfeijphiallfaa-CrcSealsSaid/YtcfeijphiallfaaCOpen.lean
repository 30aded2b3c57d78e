/- Open. -/
import Derived.Test.YtcfeijphiallfaaCSeal
import Derived.Deep.RegionWith
import Derived.Deep.Cut
import Derived.Deep.DeepCutAuto
import Derived.Deep.RegionHeld3
import Derived.Outline
import Derived.Deep.Light
namespace Go.Proofs.Ytcfeijphiallfaa
open Go.RowKit

/-- What Open tells of bytes. -/
def OpenIs (bs : List Nat) (w : World) (e : Ending) (w' : World) : Prop :=
  Below w.heap.size w w' ∧ ((bs.length < 4 ∧ e = .returned (.tuple #[.slice none 0 0, .int .i64 7])) ∨ (4 ≤ bs.length ∧ ¬ opens bs ∧ e = .returned (.tuple #[.slice none 0 0, .int .i64 130])) ∨
    (opens bs ∧ ∃ v, e = .returned (.tuple #[v, .int .i64 0]) ∧ OwnB w' w.heap.size v (bs.take (bs.length - 4))))
theorem opens_sum {bs : List Nat} {k : Nat} (hb : ∀ x ∈ bs, x < 256) (h : bs.length = k + 4) : opens bs ↔ sumOf (bs.take k) = le (bs.drop k) := by
  have e : bs.length - 4 = k := by omega
  have ht : ∀ c ∈ bs.take k, c < 256 := fun c hc => hb c (List.mem_of_mem_take hc)
  have hd : ∀ c ∈ bs.drop k, c < 256 := fun c hc => hb c (List.mem_of_mem_drop hc)
  have hs := sumOf_lt ht
  unfold opens
  rw [e]
  constructor
  · rintro ⟨_, h2⟩
    rw [h2, le_le4 hs]
  · intro h2
    exact ⟨by omega, le_inj hd (le4_byte _) (by rw [List.length_drop, h]; unfold le4; simp) (by rw [le_le4 hs, h2])⟩
set_option maxRecDepth 100000 in
set_option maxHeartbeats 1000000 in
theorem open_any (A : Option Addr) (n c : Nat) (bs : List Nat) (w : World) (h : RowB w w.heap.size A n c bs) (hn : n ≤ 90000) :
    Calls Try.prog 18 #[.slice A n c] w (OpenIs bs w) := by
  have hx := h.len
  by_cases h4 : n < 4
  · have HX := Lib.hid hx
    clear h hx
    have i4 : (n : Int) < 4 := by omega
    go_enter Try.func18, Try.ntmps18
    go_wp2_with fail
    go_ret2
    exact ⟨Below.refl _ _, .inl ⟨by rw [HX.out]; exact h4, rfl⟩⟩
  · obtain ⟨k, rfl⟩ : ∃ k, n = k + 4 := ⟨n - 4, by omega⟩
    obtain ⟨b1, o1, rfl, hl1, _⟩ := h.at_ 0 (by omega)
    have hcap := h.cap
    have htop := h.top
    unfold maxLen at htop
    have hr1 := h.take (k := k) (by omega)
    have hr2 := h.drop (k := k) (by omega)
    rw [if_neg (by omega), Nat.add_sub_cancel_left] at hr2
    simp only [Option.map_some, add_none] at hr2
    have hS : ∀ w', Below w.heap.size w w' → Calls Try.prog 11 #[.slice (some ⟨b1, o1, none⟩) k c] w' _ := fun w' hb => sum_any _ k c (bs.take k) w' ((hr1.below hb).mono hb.size)
    have hN : ∀ w', Below w.heap.size w w' → Calls Try.prog 26 #[.slice (some ⟨b1, o1 + k, none⟩) 4 (c - k)] w' _ := fun w' hb => number_any _ (c - k) w.heap.size (bs.drop k) w' (hr2.below hb)
    have hop := opens_sum (k := k) h.byte hx
    have H := Lib.hid h; have HX := Lib.hid hx; have HS := Lib.hid hS; have HN := Lib.hid hN; have HO := Lib.hid hop
    have hl1 : sumOf (bs.take k) < 4294967296 := sumOf_lt (fun c hc => h.byte c (List.mem_of_mem_take hc))
    clear h hx hS hN hr1 hr2 hop
    have hBE := Below.refl w.heap.size w
    have i4 : ¬ (((k + 4 : Nat) : Int) < 4) := by omega
    have i5 : ((k + 4 : Nat) : Int) - 4 = (k : Int) := by omega
    have i6 : ¬ c = k := by omega
    have i7 : (k : Int) ≤ (c : Int) := by omega
    have i8 : (k : Int) ≤ ((k + 4 : Nat) : Int) := by omega
    have i10 : (k : Int) ≤ (k : Int) + 4 := by omega
    have i9 : (0 : Int) ≤ (k : Int) := by omega
    go_enter Try.func18, Try.ntmps18
    go_upto_region 4 with (fail)
    generalize hSe : sumOf (bs.take k) = S at *
    generalize hLe : le (bs.drop k) = L at *
    have HSE := Lib.hid hSe; have HLE := Lib.hid hLe
    clear hSe hLe
    go_cut [20] from 12 to 20 (fun s20 wx => s20 = .bool ((S : Int) != (L : Int)) ∧ Below w.heap.size w wx)
    case first =>
      go_region_held3 (fun w' => Below w.heap.size w w') (first | exact hBE | exact hBE.drew) (first
        | (go_at_call 11
           (with_reducible refine (HS.out _ (by first | exact hBE | exact hBE.drew)).mono ?_)
           rintro e wE ⟨rfl, hwE⟩
           replace hBE : Below w.heap.size w wE := Below.trans (by first | exact hBE | exact hBE.drew) (hwE.mono (by first | exact hBE.size | exact hBE.drew.size))
           clear hwE)
        | (go_at_call 26
           (with_reducible refine (HN.out _ (by first | exact hBE | exact hBE.drew)).mono ?_)
           rintro e wF ⟨rfl, hwF⟩
           replace hBE : Below w.heap.size w wF := by rw [← hwF]; first | exact hBE | exact hBE.drew
           clear hwF))
      all_goals
        go_wp2_with fail
        go_meet
        exact ⟨rfl, hBE⟩
    case rest =>
      obtain ⟨rfl, hbx⟩ := hcut
      have HB := Lib.hid hbx
      clear hbx hBE HS HN
      by_cases hSL : S = L
      · have hd : ((S : Int) != (L : Int)) = false := by simp; omega
        have hop := HO.out.2 hSL
        have HOP := Lib.hid hop
        clear hSL hop HO
        obtain ⟨zs, hzs, hz0, hmk⟩ := make_u8 k k (by omega) (by omega)
        have hb1 := gr_alloc HB.out (.cells zs 5)
        have hbox1 : Box (wc.alloc (.cells zs 5)) wc.heap.size 5 zs := Box.new _ _ _
        have hle : w.heap.size ≤ wc.heap.size := HB.out.size
        have hrow1 := H.out.below hb1
        have HZ := Lib.hid hzs; have HB1 := Lib.hid hb1; have HR1 := Lib.hid hrow1; have HK1 := Lib.hid hbox1; have HL := Lib.hid hle
        clear hzs hz0 hb1 hrow1 hbox1 hle
        go_wp2_with (refine copy_bytes rfl _ _ rfl wc.heap.size k k rfl w.heap.size _ (k + 4) c bs rfl HR1.out k (by omega) zs HK1.out (by rw [HZ.out]; omega) ?_; intro w2 cs2 hbox2 hsz2 hat2 hb2)
        go_ret2
        have hk4 : bs.length - 4 = k := by rw [HX.out]; omega
        have hown : OwnB w2 w.heap.size (.slice (some ⟨wc.heap.size, 0, none⟩) (bs.take k).length k) (bs.take k) :=
          OwnB.head HL.out hbox2.out (hsz2.out.trans HZ.out) (by rw [List.length_take]; omega) (by unfold maxLen; omega) (fun x hx => H.out.byte x (List.mem_of_mem_take hx)) (fun j hj => by
            have hjk : j < k := by rw [List.length_take] at hj; omega
            rw [nthB_take _ _ _ hjk]; exact hat2.out j hjk)
        rw [List.length_take, HX.out, Nat.min_eq_left (by omega)] at hown
        refine ⟨HB1.out.trans (hb2.out.mono HL.out), .inr (.inr ⟨HOP.out, _, rfl, ?_⟩)⟩
        rw [hk4]; exact hown
      · have hd : ((S : Int) != (L : Int)) = true := by simp; omega
        have hop := fun h => hSL (HO.out.1 h)
        have HOP := Lib.hid hop
        clear hSL hop HO
        go_wp2_with fail
        go_ret2
        exact ⟨HB.out, .inr (.inl ⟨by rw [HX.out]; omega, HOP.out, rfl⟩)⟩
end Go.Proofs.Ytcfeijphiallfaa
